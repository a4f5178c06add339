/- The law LongsSum. -/
import Derived.Test.YtnlhhjokaekdhaaDoorLLon
import Derived.Test.YtnlhhjokaekdhaaDoorSum5R
set_option linter.unusedVariables false
set_option linter.unusedSimpArgs false
namespace Go.Proofs.YtnlhhjokaekdhaaDoor.L5
open Go.RowKit

set_option maxHeartbeats 3200000 in
set_option maxRecDepth 100000 in
theorem longsSum_law (s : ByteArray) (w : World) (hT : LTab5 w) :
    Calls Tryd.prog 6 #[.string s] w fun e w' => e = .returned (.bool true) ∧ Below w.heap.size w w' := by
  have HT := Lib.hid hT
  clear hT
  by_cases hl : 3000 < s.size
  · have hl' : (3000 : Int) < s.size := by omega
    go_enter Tryd.func6, Tryd.ntmps6
    go_wp2_with (go_at_call 16; refine (published_any w HT.out).mono ?_; rintro e w1 ⟨rfl, b1⟩)
    go_ret
    exact ⟨by exact rfl, b1⟩
  · have hl' : ¬ (3000 : Int) < s.size := by omega
    obtain ⟨S, hS⟩ : ∃ S : ByteArray, (⟨(sum512L s.data.toList).toArray⟩ : ByteArray) = S := ⟨_, rfl⟩
    obtain ⟨R, hR⟩ : ∃ S : ByteArray, (⟨(sum384L s.data.toList).toArray⟩ : ByteArray) = S := ⟨_, rfl⟩
    have HC : Hid (∀ W, LTab5 W → Calls Tryd.prog 17 #[.string s] W fun e w' => e = .returned (.string S) ∧ Below W.heap.size W w') := fun W hW => by
      rw [← hS]; exact sum512_any s W (by omega) hW
    have HD : Hid (∀ W, LTab5 W → Calls Tryd.prog 19 #[.string s] W fun e w' => e = .returned (.string R) ∧ Below W.heap.size W w') := fun W hW => by
      rw [← hR]; exact sum384_any s W (by omega) hW
    have HR : Hid (∀ W, Calls Tryd.prog 18 #[.string s] W fun e w' => e = .returned (.string S) ∧ Below W.heap.size W w') := fun W => by
      rw [← hS]; exact rsum512_any s W (by omega)
    have HE : Hid (∀ W, Calls Tryd.prog 20 #[.string s] W fun e w' => e = .returned (.string R) ∧ Below W.heap.size W w') := fun W => by
      rw [← hR]; exact rsum384_any s W (by omega)
    have hq : (S.toList == S.toList) = true := by simp
    have hq2 : (R.toList == R.toList) = true := by simp
    have B0 : Hid (Below w.heap.size w w) := Below.refl _ w
    clear hS hR hl
    go_enter Tryd.func6, Tryd.ntmps6
    go_wp2_with fail
    refine (HC.out w (HT.out.below B0.out)).mono ?_
    rintro e w1 ⟨rfl, b1⟩
    have B1 : Hid (Below w.heap.size w w1) := B0.out.trans (b1.mono B0.out.size)
    clear b1
    go_wp2_with fail
    refine (HR.out w1).mono ?_
    rintro e w2 ⟨rfl, b2⟩
    have B2 : Hid (Below w.heap.size w w2) := B1.out.trans (b2.mono B1.out.size)
    clear b2
    go_wp2_with fail
    refine (HD.out w2 (HT.out.below B2.out)).mono ?_
    rintro e w3 ⟨rfl, b3⟩
    have B3 : Hid (Below w.heap.size w w3) := B2.out.trans (b3.mono B2.out.size)
    clear b3
    go_wp2_with fail
    refine (HE.out w3).mono ?_
    rintro e w4 ⟨rfl, b4⟩
    have B4 : Hid (Below w.heap.size w w4) := B3.out.trans (b4.mono B3.out.size)
    clear b4
    go_wp2_with fail
    refine (published_any w4 (HT.out.below B4.out)).mono ?_
    rintro e w5 ⟨rfl, b5⟩
    have B5 : Hid (Below w.heap.size w w5) := B4.out.trans (b5.mono B4.out.size)
    clear b5
    go_wp2_with fail
    go_ret
    exact ⟨by exact rfl, B5.out⟩
end Go.Proofs.YtnlhhjokaekdhaaDoor.L5
