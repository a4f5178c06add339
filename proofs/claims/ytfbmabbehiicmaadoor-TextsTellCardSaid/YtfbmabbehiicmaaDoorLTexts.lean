/- The law TextsTell. -/
import Derived.Test.YtfbmabbehiicmaaDoorUtf9
set_option linter.unusedVariables false
namespace Go.Proofs.YtfbmabbehiicmaaDoor
open Go.RowKit

set_option maxHeartbeats 2000000 in
set_option maxRecDepth 100000 in
theorem textsTell_law (b : ByteArray) (m : Int) (w : World) (hb : b.size ≤ maxLen) (hm : MaxOk m w) (hl : LTab w) :
    Calls Tryd.prog 3 #[.string b] w fun e w' => e = .returned (.bool true) ∧ Below w.heap.size w w' := by
  have HM := Lib.hid hm
  have HL := Lib.hid hl
  clear hm hl
  unfold maxLen at hb
  by_cases h1 : 3000 < b.size
  · go_enter Tryd.func3, Tryd.ntmps3
    go_wp2_with fail
    refine (tshown_any m _ HM.out HL.out).mono ?_
    rintro e w1 ⟨rfl, b1⟩
    go_wp2_with fail
    go_ret
    exact ⟨rfl, b1⟩
  · obtain ⟨T, hT⟩ : ∃ T : ByteArray, (⟨(textU b.data.toList).toArray⟩ : ByteArray) = T := ⟨_, rfl⟩
    obtain ⟨L, hL⟩ : ∃ L : ByteArray, (⟨(linesU false b.data.toList).toArray⟩ : ByteArray) = L := ⟨_, rfl⟩
    have HT := Lib.hid hT
    have HLL := Lib.hid hL
    clear hT hL
    go_enter Tryd.func3, Tryd.ntmps3
    go_wp2_with fail
    refine (tdecode_any b _ (by omega) HL.out).mono ?_
    rintro e w1 ⟨rfl, b1⟩
    rw [HT.out]
    go_wp2_with fail
    refine (rtdecode_any b _ (by omega)).mono ?_
    rintro e w2 ⟨rfl, b2⟩
    rw [HT.out]
    have c2 := b1.trans (b2.mono b1.size)
    go_wp2_with fail
    refine (tlines_any b m _ (by omega) (HM.out.below c2)).mono ?_
    rintro e w3 ⟨rfl, b3⟩
    rw [HLL.out]
    have c3 := c2.trans (b3.mono c2.size)
    go_wp2_with fail
    refine (rlines_any b _ (by omega)).mono ?_
    rintro e w4 ⟨rfl, rfl⟩
    rw [HLL.out]
    go_wp2_with fail
    refine (tshown_any m _ (HM.out.below c3) (HL.out.below c3)).mono ?_
    rintro e w5 ⟨rfl, b5⟩
    go_wp2_with fail
    go_ret
    exact ⟨rfl, c3.trans (b5.mono c3.size)⟩
end Go.Proofs.YtfbmabbehiicmaaDoor
