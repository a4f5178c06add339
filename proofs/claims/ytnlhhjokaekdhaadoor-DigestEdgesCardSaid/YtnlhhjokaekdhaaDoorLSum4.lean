/- The law DigestSum. -/
import Derived.Test.YtnlhhjokaekdhaaDoorLDig
import Derived.Test.YtnlhhjokaekdhaaDoorSumR4
set_option linter.unusedVariables false
set_option linter.unusedSimpArgs false
namespace Go.Proofs.YtnlhhjokaekdhaaDoor
open Go.RowKit

set_option maxHeartbeats 3200000 in
set_option maxRecDepth 100000 in
theorem digestSum_law (s : ByteArray) (w : World) (hT : DTab w) :
    Calls Tryd.prog 3 #[.string s] w fun e w' => e = .returned (.bool true) ∧ Below w.heap.size w w' := by
  have HT := Lib.hid hT
  clear hT
  by_cases hl : 5000 < s.size
  · have hl' : (5000 : Int) < s.size := by omega
    go_enter Tryd.func3, Tryd.ntmps3
    go_wp2_with (go_at_call 13; refine (sums_any w HT.out).mono ?_; rintro e w1 ⟨rfl, b1⟩)
    go_ret
    exact ⟨by exact rfl, b1⟩
  · have hl' : ¬ (5000 : Int) < s.size := by omega
    obtain ⟨S, hS⟩ : ∃ S : ByteArray, (⟨(sumL s.data.toList).toArray⟩ : ByteArray) = S := ⟨_, rfl⟩
    have HC : Hid (∀ W, DTab W → Calls Tryd.prog 14 #[.string s] W fun e w' => e = .returned (.string S) ∧ Below W.heap.size W w') := fun W hW => by
      rw [← hS]; exact sum_any s W (by omega) hW
    have HR : Hid (∀ W, Calls Tryd.prog 15 #[.string s] W fun e w' => e = .returned (.string S) ∧ Below W.heap.size W w') := fun W => by
      rw [← hS]; exact R4.rsum_any s W (by omega)
    have hq : (S.toList == S.toList) = true := by simp
    clear hS hl
    go_enter Tryd.func3, Tryd.ntmps3
    go_wp2_with fail
    refine (HC.out w HT.out).mono ?_
    rintro e w1 ⟨rfl, b1⟩
    have B1 := Lib.hid b1
    clear b1
    go_wp2_with fail
    refine (HR.out w1).mono ?_
    rintro e w2 ⟨rfl, b2⟩
    have B2 : Hid (Below w.heap.size w w2) := B1.out.trans (b2.mono B1.out.size)
    clear b2
    go_wp2_with fail
    refine (sums_any w2 (HT.out.below B2.out)).mono ?_
    rintro e w3 ⟨rfl, b3⟩
    have B3 : Hid (Below w.heap.size w w3) := B2.out.trans (b3.mono B2.out.size)
    clear b3
    go_wp2_with fail
    go_ret
    exact ⟨by exact rfl, B3.out⟩
end Go.Proofs.YtnlhhjokaekdhaaDoor
