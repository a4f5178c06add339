/- The law PolicyBack. -/
import Derived.Test.YtgaeecphohlmpaaDoorSam
import Derived.Test.YtgaeecphohlmpaaDoorRnd
import Derived.Test.YtgaeecphohlmpaaDoorSay
import Derived.Deep.Cut
set_option linter.unusedVariables false
namespace Go.Proofs.YtgaeecphohlmpaaDoor
open Go.RowKit

set_option maxHeartbeats 3200000 in
set_option maxRecDepth 100000 in
theorem policyBack_law (s : ByteArray) (m : Int) (w : World) (hm : MaxOk m w) :
    Calls Tryd.prog 11 #[.string s] w fun e w' => e = .returned (.bool true) ∧ Below w.heap.size w w' := by
  by_cases hl : 4000 < s.size
  · have hl' : (4000 : Int) < s.size := by omega
    go_enter Tryd.func11, Tryd.ntmps11
    go_wp2_with (go_at_call 26; refine (says_any m w hm).mono ?_; rintro e w1 ⟨rfl, b1⟩)
    go_ret
    exact ⟨by exact rfl, b1⟩
  · have hl' : ¬ (4000 : Int) < s.size := by omega
    have hsl : s.data.toList.length = s.size := by simp
    have HBN := Lib.hid (one_bnd s.data.toList (by omega))
    have HOT := one_text (one_good s.data.toList)
    have hts := text_sum s.data.toList
    have H1 := Lib.hid (fun W (h : MaxOk m W) => pone_any s m W (by omega) h)
    generalize oneL s.data.toList = L at *
    obtain ⟨t, ht⟩ : ∃ t : ByteArray, (⟨(textL L).toArray⟩ : ByteArray) = t := ⟨_, rfl⟩
    have htl : t.data.toList = textL L := by rw [← ht]
    have htz : t.size ≤ 10000 := by
      have h2 : t.data.toList.length = t.size := by simp
      rw [← h2, htl]; omega
    have H2 := Lib.hid (fun W (h : MaxOk m W) => pone_any t m W (by omega) h)
    rw [htl, HOT] at H2
    have HTX : Hid (∀ W v, DirsIn W v L → Calls Tryd.prog 39 #[.agg #[v, .bool false]] W fun e w' => e = .returned (.string t) ∧ Below W.heap.size W w') := by
      intro W v h
      rw [← ht]
      exact ptext_any v false L W h HBN.out
    have HSM : Hid (∀ W v v', DirsIn W v L → DirsIn W v' L → Calls Tryd.prog 29 #[.agg #[v, .bool false], .agg #[v', .bool false]] W fun e w' => e = .returned (.bool true) ∧ Below W.heap.size W w') := fun W v v' h h' => same_is v v' false L W h h'
    have hq : (t.toList == t.toList) = true := by simp
    have HM := Lib.hid hm
    clear hl hsl HOT hts ht htl hm
    go_enter Tryd.func11, Tryd.ntmps11
    go_upto_region 4 with (go_at_call 30; refine (H1.out w HM.out).mono ?_; rintro e w1 ⟨⟨v1, cs1, rfl, o1, c1⟩, b1⟩)
    have D1 := Lib.hid (dirs_in o1 c1)
    obtain ⟨ao1, cp1, rfl⟩ := owns_shape o1
    have B1 := Lib.hid b1
    have HM1 := Lib.hid (HM.out.below b1)
    clear o1 c1 b1
    go_upto_region 5 with (go_at_call 39; refine (HTX.out w1 _ ?hA).mono ?_; (case hA => exact D1.out); rintro e w2 ⟨rfl, b2⟩)
    have D2 := Lib.hid (D1.out.below b2)
    have B2 := Lib.hid b2
    have HM2 := Lib.hid (HM1.out.below b2)
    clear b2
    go_upto_region 6 with (go_at_call 30; refine (H2.out w2 HM2.out).mono ?_; rintro e w3 ⟨⟨v3, cs3, rfl, o3, c3⟩, b3⟩)
    have D3 := Lib.hid (dirs_in o3 c3)
    obtain ⟨ao3, cp3, rfl⟩ := owns_shape o3
    have D3' := Lib.hid (D2.out.below b3)
    have B3 := Lib.hid b3
    have HM3 := Lib.hid (HM2.out.below b3)
    clear o3 c3 b3
    go_wp2_with (first
      | (go_at_call 26; refine (says_any m w5 HM5.out).mono ?_; rintro e w6 ⟨rfl, b6⟩; have B6 := Lib.hid b6; clear b6)
      | (go_at_call 39; refine (HTX.out w4 _ ?hA).mono ?_; (case hA => exact D3.out.below B4.out); rintro e w5 ⟨rfl, b5⟩; have B5 := Lib.hid b5; have HM5 := Lib.hid ((HM3.out.below B4.out).below b5); clear b5)
      | (go_at_call 29; refine (HSM.out w3 _ _ ?hA ?hB).mono ?_; (case hA => exact D3.out); (case hB => exact D3'.out); rintro e w4 ⟨rfl, b4⟩; have B4 := Lib.hid b4; clear b4))
    go_ret
    exact ⟨by exact rfl, B1.out.trans ((B2.out.trans ((B3.out.trans ((B4.out.trans ((B5.out.trans (B6.out.mono B5.out.size)).mono B4.out.size)).mono B3.out.size)).mono B2.out.size)).mono B1.out.size)⟩
end Go.Proofs.YtgaeecphohlmpaaDoor
