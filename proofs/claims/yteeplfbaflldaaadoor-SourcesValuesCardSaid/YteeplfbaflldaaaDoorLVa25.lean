/- The law SourcesValues: whether the byte is one of base64's or not. -/
import Derived.Test.YteeplfbaflldaaaDoorLVaT
import Derived.Test.YteeplfbaflldaaaDoorLVaF
set_option linter.unusedVariables false
namespace Go.Proofs.YteeplfbaflldaaaDoor.S25
open Go.RowKit

theorem sourcesValues_law (a0 : Option Addr) (c0 : Nat) (z : List UInt8) (which c : Int) (m : Int) (w : World) (h0 : SliceIn w (.slice a0 z.length c0) (byteV z)) (hn0 : 0 ≤ which) (hn1 : which ≤ 255) (hc0 : 0 ≤ c) (hc1 : c ≤ 255) (hE : EOk m w) :
    Calls Tryd.prog 10 #[.slice a0 z.length c0, .int .u8 which, .int .u8 c] w fun e w' => e = .returned (.bool true) ∧ Below w.heap.size w w' := by
  cases h : oddB c with
  | true => exact sourcesValues_true a0 c0 z which c m w h0 hn0 hn1 hc0 hc1 hE h
  | false => exact sourcesValues_false a0 c0 z which c m w h0 hn0 hn1 hc0 hc1 hE h
end Go.Proofs.YteeplfbaflldaaaDoor.S25
