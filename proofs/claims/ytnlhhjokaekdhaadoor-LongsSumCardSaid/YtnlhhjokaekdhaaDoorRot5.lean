/- digest.right: at any of the numbers that are used. -/
import Derived.Test.YtnlhhjokaekdhaaDoorRot4
set_option linter.unusedVariables false
namespace Go.Proofs.YtnlhhjokaekdhaaDoor
open Go.RowKit

def rotF (x k : Int) : Int := if k = 2 then rotI x 1073741824 4 else if k = 6 then rotI x 67108864 64 else if k = 7 then rotI x 33554432 128 else if k = 11 then rotI x 2097152 2048 else if k = 13 then rotI x 524288 8192 else if k = 17 then rotI x 32768 131072 else if k = 18 then rotI x 16384 262144 else if k = 19 then rotI x 8192 524288 else if k = 22 then rotI x 1024 4194304 else if k = 25 then rotI x 128 33554432 else 0
def isRot (k : Int) : Bool := k == 2 || k == 6 || k == 7 || k == 11 || k == 13 || k == 17 || k == 18 || k == 19 || k == 22 || k == 25
theorem right_k (x k : Int) (w : World) (hk : isRot k = true) : Calls Tryd.prog 52 #[.int .u32 x, .int .i64 k] w fun e w' => e = .returned (.int .u32 (rotF x k)) ∧ w = w' := by
  unfold isRot at hk
  simp only [Bool.or_eq_true, beq_iff_eq] at hk
  rcases hk with (((((((((rfl | rfl) | rfl) | rfl) | rfl) | rfl) | rfl) | rfl) | rfl) | rfl)
  · exact right2 x w
  · exact right6 x w
  · exact right7 x w
  · exact right11 x w
  · exact right13 x w
  · exact right17 x w
  · exact right18 x w
  · exact right19 x w
  · exact right22 x w
  · exact right25 x w
end Go.Proofs.YtnlhhjokaekdhaaDoor
