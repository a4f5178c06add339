/- The laws of layer 13, by the contracts. -/
import Derived.Test.YthgecembedjnaaaDoorKinds4
set_option linter.unusedVariables false
namespace Go.Proofs.YthgecembedjnaaaDoor
open Go.RowKit

set_option maxHeartbeats 4000000 in
set_option maxRecDepth 100000 in
theorem kindsTell_law (n : ByteArray) (sp wh : Int) (m : Int) (w : World) (hn : n.size ≤ maxLen) (hs : -9223372036854775808 ≤ sp ∧ sp ≤ 9223372036854775807) (hw : -9223372036854775808 ≤ wh ∧ wh ≤ 9223372036854775807) (hm : MaxOk m w) (hk : KTabs w) :
    Calls Tryd.prog 8 #[.string n, .int .i64 sp, .int .i64 wh] w fun e w' => e = .returned (.bool true) ∧ Below w.heap.size w w' := by
  have HM := Lib.hid hm
  have HK := Lib.hid hk
  clear hm hk
  unfold maxLen at hn
  by_cases h1 : 300 < n.size
  · go_enter Tryd.func8, Tryd.ntmps8
    go_wp2_with (go_at_call 35; refine (listed_any m _ HM.out HK.out).mono ?_; rintro e w' ⟨rfl, rfl⟩)
    go_ret
    exact ⟨rfl, Below.refl _ _⟩
  · have hn2 : n.size ≤ 1099511627776 := by omega
    go_enter Tryd.func8, Tryd.ntmps8
    go_wp2_with fail
    go_loopw [7] (fun i wr => ∃ s : Int, -1 ≤ s ∧ s ≤ 4 ∧ i = .int .i64 s ∧ Below w.heap.size w wr) (fun i _ => (4 - intOf i).toNat)
    case atStart => exact ⟨-1, by omega, by omega, rfl, Below.refl _ _⟩
    case round =>
      obtain ⟨s, hs0, hs1, rfl, hb⟩ := hrel
      by_cases hlt : s < 4
      · go_wp2_with fail
        obtain ⟨wo, rfl⟩ : ∃ wo : World, wo = wr := ⟨_, rfl⟩
        go_loopw [8] (fun i wr => ∃ q : Int, -1 ≤ q ∧ q ≤ 5 ∧ i = .int .i64 q ∧ Below w.heap.size w wr) (fun i _ => (5 - intOf i).toNat)
        case atStart => exact ⟨-1, by omega, by omega, rfl, hb⟩
        case round =>
          obtain ⟨q, hq0, hq1, rfl, hb2⟩ := hrel
          by_cases hql : q < 5
          · go_wp2_with fail
            refine (scope_any q s n m _ (by omega) (by omega) (by omega) (by omega) hn2 (HM.out.below hb2) (HK.out.below hb2)).mono ?_
            rintro e w' ⟨rfl, rfl⟩
            go_wp2_with fail
            refine (rscope_any q s n _ (by omega) (by omega)).mono ?_
            rintro e w1 ⟨rfl, b1⟩
            go_wp2_with fail
            go_roundw
            case rel => exact ⟨q + 1, by omega, by omega, by go_num, hb2.trans (b1.mono hb2.size)⟩
            case measure => simp [intOf]; omega
          · go_wp2_with fail
            refine (special_any s n m _ (by omega) (by omega) hn2 (HM.out.below hb2) (HK.out.below hb2)).mono ?_
            rintro e w' ⟨rfl, rfl⟩
            go_wp2_with fail
            refine (rspecial_any s n _).mono ?_
            rintro e w1 ⟨rfl, b1⟩
            go_wp2_with fail
            go_roundw
            case rel => exact ⟨s + 1, by omega, by omega, by go_num, hb2.trans (b1.mono hb2.size)⟩
            case measure => simp [intOf]; omega
      · go_wp2_with fail
        have c0 := hb
        refine (special_any sp n m _ hs.1 hs.2 hn2 (HM.out.below c0) (HK.out.below c0)).mono ?_
        rintro e w' ⟨rfl, rfl⟩
        go_wp2_with fail
        refine (rspecial_any sp n _).mono ?_
        rintro e v1 ⟨rfl, d1⟩
        have c1 := c0.trans (d1.mono c0.size)
        clear d1
        go_wp2_with fail
        refine (scope_any wh sp n m _ hw.1 hw.2 hs.1 hs.2 hn2 (HM.out.below c1) (HK.out.below c1)).mono ?_
        rintro e w' ⟨rfl, rfl⟩
        go_wp2_with fail
        refine (rscope_any wh sp n _ hw.1 hw.2).mono ?_
        rintro e v2 ⟨rfl, d2⟩
        have c2 := c1.trans (d2.mono c1.size)
        clear d2
        go_wp2_with fail
        refine (formatting_any n m _ hn2 (HM.out.below c2)).mono ?_
        rintro e w' ⟨rfl, rfl⟩
        go_wp2_with fail
        refine (rformatting_any n _).mono ?_
        rintro e v3 ⟨rfl, d3⟩
        have c3 := c2.trans (d3.mono c2.size)
        clear d3
        go_wp2_with fail
        refine (void_any n m _ hn2 (HM.out.below c3)).mono ?_
        rintro e w' ⟨rfl, rfl⟩
        go_wp2_with fail
        refine (rvoid_any n _).mono ?_
        rintro e v4 ⟨rfl, d4⟩
        have c4 := c3.trans (d4.mono c3.size)
        clear d4
        go_wp2_with fail
        refine (implied_any n m _ hn2 (HM.out.below c4)).mono ?_
        rintro e w' ⟨rfl, rfl⟩
        go_wp2_with fail
        refine (rimplied_any n _).mono ?_
        rintro e v5 ⟨rfl, d5⟩
        have c5 := c4.trans (d5.mono c4.size)
        clear d5
        go_wp2_with fail
        refine (thorough_any n m _ hn2 (HM.out.below c5)).mono ?_
        rintro e w' ⟨rfl, rfl⟩
        go_wp2_with fail
        refine (rthorough_any n _).mono ?_
        rintro e v6 ⟨rfl, d6⟩
        have c6 := c5.trans (d6.mono c5.size)
        clear d6
        go_wp2_with fail
        refine (heading_any n m _ hn2 (HM.out.below c6)).mono ?_
        rintro e w' ⟨rfl, rfl⟩
        go_wp2_with fail
        refine (rheading_any n _ hn2).mono ?_
        rintro e w' ⟨rfl, rfl⟩
        go_wp2_with fail
        refine (state_any n m _ hn2 (HM.out.below c6) (HK.out.below c6)).mono ?_
        rintro e w' ⟨rfl, rfl⟩
        go_wp2_with fail
        refine (rstate_any n _).mono ?_
        rintro e w' ⟨rfl, rfl⟩
        go_wp2_with fail
        refine (listed_any m _ (HM.out.below c6) (HK.out.below c6)).mono ?_
        rintro e w' ⟨rfl, rfl⟩
        go_wp2
        go_ret
        exact ⟨rfl, c6⟩
end Go.Proofs.YthgecembedjnaaaDoor
