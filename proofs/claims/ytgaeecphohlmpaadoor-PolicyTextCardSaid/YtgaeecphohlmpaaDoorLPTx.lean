/- The law PolicyText. -/
import Derived.Test.YtgaeecphohlmpaaDoorAll24
import Derived.Test.YtgaeecphohlmpaaDoorRLst
import Derived.Test.YtgaeecphohlmpaaDoorRMet
import Derived.Test.YtgaeecphohlmpaaDoorSay
import Derived.Deep.Cut
set_option linter.unusedVariables false
namespace Go.Proofs.YtgaeecphohlmpaaDoor
open Go.RowKit

set_option maxHeartbeats 6400000 in
set_option maxRecDepth 100000 in
theorem policyText_law (s : ByteArray) (rep : Bool) (m : Int) (w : World) (hm : MaxOk m w) :
    Calls Tryd.prog 8 #[.string s, .bool rep] w fun e w' => e = .returned (.bool true) ∧ Below w.heap.size w w' := by
  by_cases hl : 4000 < s.size
  · have hl' : (4000 : Int) < s.size := by omega
    go_enter Tryd.func8, Tryd.ntmps8
    go_wp2_with (go_at_call 26; refine (says_any m w hm).mono ?_; rintro e w1 ⟨rfl, b1⟩)
    go_ret
    exact ⟨by exact rfl, b1⟩
  have hl' : ¬ (4000 : Int) < s.size := by omega
  have hs : s.size ≤ 1073741824 := by omega
  have HP1 := Lib.hid (fun W (h : MaxOk m W) => pone_any s m W hs h)
  have HR1 := Lib.hid (fun W => rone_any s W hs)
  have HP2 := Lib.hid (fun W (h : MaxOk m W) => plist_any s rep m W hs h)
  have HR2 := Lib.hid (fun W => rlist_any s rep W hs)
  have HPM := Lib.hid (fun W (h : MaxOk m W) => pmeta_any s m W hs h)
  have HRM := Lib.hid (fun W => rmeta_any s W hs)
  generalize listL s.data.toList rep = Q at *
  generalize oneL s.data.toList = L at *
  generalize metaL L = R at *
  have HPM : Hid (∀ W, MaxOk m W → Calls Tryd.prog 27 #[.string s] W fun e w' => (∃ ao cp, e = .returned (.tuple #[.agg #[.slice ao R.length cp, .bool false], .bool (!R.isEmpty)]) ∧ DirsIn w' (.slice ao R.length cp) R) ∧ Below W.heap.size W w') := by
    intro W h
    refine (HPM.out W h).mono ?_
    rintro e w' ⟨⟨lv, rfl, D⟩, b⟩
    obtain ⟨ao, cp, rfl⟩ := D.shape
    exact ⟨⟨ao, cp, rfl, D⟩, b⟩
  have HRM : Hid (∀ W, Calls Tryd.prog 28 #[.string s] W fun e w' => (∃ ao cp, e = .returned (.tuple #[.agg #[.slice ao R.length cp, .bool false], .bool (!R.isEmpty)]) ∧ DirsIn w' (.slice ao R.length cp) R) ∧ Below W.heap.size W w') := by
    intro W
    refine (HRM.out W).mono ?_
    rintro e w' ⟨⟨lv, rfl, D⟩, b⟩
    obtain ⟨ao, cp, rfl⟩ := D.shape
    exact ⟨⟨ao, cp, rfl, D⟩, b⟩
  generalize (!R.isEmpty) = ok at *
  have HSM := Lib.hid (fun W v v' (h : DirsIn W v R) (h' : DirsIn W v' R) => same_is v v' false R W h h')
  have HSL := Lib.hid (fun W v v' (h : DirsIn W v L) (h' : DirsIn W v' L) => same_is v v' false L W h h')
  have HAL := Lib.hid (fun W v v' (h : PolsIn W v Q) (h' : PolsIn W v' Q) => all_is v v' Q W h h')
  have hokk : (ok == ok) = true := by simp
  have HM := Lib.hid hm
  clear hm hl hs
  go_enter Tryd.func8, Tryd.ntmps8
  go_upto_region 4 with (go_at_call 27; refine (HPM.out w HM.out).mono ?_; rintro e w1 ⟨⟨ao1, cp1, rfl, D1⟩, b1⟩)
  obtain ⟨W2, hW2⟩ : ∃ W2, W2 = w1.alloc (.cells #[.slice ao1 R.length cp1, .bool false] 30) := ⟨_, rfl⟩
  have hb2 : Below w1.heap.size w1 W2 := by rw [hW2]; exact (Below.refl _ w1).alloc (Nat.le_refl _) _
  have c0 : W2.cell? ⟨w1.heap.size, 0, none⟩ = some (.slice ao1 R.length cp1) := by rw [hW2, Lib.cell_of_heap (heap_alloc_new w1 _)]; rfl
  have c1 : W2.cell? ⟨w1.heap.size, 1, none⟩ = some (.bool false) := by rw [hW2, Lib.cell_of_heap (heap_alloc_new w1 _)]; rfl
  have hlt2 : w1.heap.size < W2.heap.size := by rw [hW2]; simp
  rw [← hW2]
  have HM2 := Lib.hid ((HM.out.below b1).below hb2)
  have D2 := D1.below hb2
  have B2 : Hid (Below w.heap.size w W2) := b1.trans (hb2.mono b1.size)
  clear hW2 hb2 D1 b1
  go_upto_region 5 with (go_at_call 28; refine (HRM.out W2).mono ?_; rintro e w3 ⟨⟨ao3, cp3, rfl, D3⟩, b3⟩)
  obtain ⟨W4, hW4⟩ : ∃ W4, W4 = w3.alloc (.cells #[.slice ao3 R.length cp3, .bool false] 30) := ⟨_, rfl⟩
  have hb4 : Below w3.heap.size w3 W4 := by rw [hW4]; exact (Below.refl _ w3).alloc (Nat.le_refl _) _
  have B24 : Below W2.heap.size W2 W4 := b3.trans (hb4.mono b3.size)
  have d0 : W4.cell? ⟨w3.heap.size, 0, none⟩ = some (.slice ao3 R.length cp3) := by rw [hW4, Lib.cell_of_heap (heap_alloc_new w3 _)]; rfl
  have d1 : W4.cell? ⟨w3.heap.size, 1, none⟩ = some (.bool false) := by rw [hW4, Lib.cell_of_heap (heap_alloc_new w3 _)]; rfl
  have e0 : W4.cell? ⟨w1.heap.size, 0, none⟩ = some (.slice ao1 R.length cp1) := (B24.cell (p := ⟨w1.heap.size, 0, none⟩) hlt2).trans c0
  have e1 : W4.cell? ⟨w1.heap.size, 1, none⟩ = some (.bool false) := (B24.cell (p := ⟨w1.heap.size, 1, none⟩) hlt2).trans c1
  have DA := Lib.hid (D2.below B24)
  have DB := Lib.hid (D3.below hb4)
  have HM4 := Lib.hid (HM2.out.below B24)
  have B4 : Hid (Below w.heap.size w W4) := B2.out.trans (B24.mono B2.out.size)
  rw [← hW4]
  clear hW4 hb4 D3 D2 b3 B24 c0 c1 hlt2
  go_wp2_with (first
    | (go_at_call 26; refine (says_any m w11 ?hM).mono ?_; (case hM => exact HM4.out.below B11.out); rintro e w12 ⟨rfl, b12⟩; have B12 : Hid (Below W4.heap.size W4 w12) := B11.out.trans (b12.mono B11.out.size); clear b12)
    | (go_at_call 32; refine (HAL.out w10 _ _ ?hA ?hB).mono ?_; (case hA => exact P9.out.below C10.out); (case hB => exact P10.out); rintro e w11 ⟨rfl, b11⟩; have B11 : Hid (Below W4.heap.size W4 w11) := B10.out.trans (b11.mono B10.out.size); clear b11)
    | (go_at_call 34; refine (HR2.out w9).mono ?_; rintro e w10 ⟨⟨v10, cs10, rfl, o10, k10⟩, b10⟩; obtain ⟨ao10, cp10, hv10⟩ := owns_shape o10; subst hv10; have P10 := Lib.hid (pols_in o10 k10); have C10 := Lib.hid b10; have B10 : Hid (Below W4.heap.size W4 w10) := B9.out.trans (b10.mono B9.out.size); clear o10 k10 b10)
    | (go_at_call 33; refine (HP2.out w8 ?hM).mono ?_; (case hM => exact HM4.out.below B8.out); rintro e w9 ⟨⟨v9, cs9, rfl, o9, k9⟩, b9⟩; obtain ⟨ao9, cp9, hv9⟩ := owns_shape o9; subst hv9; have P9 := Lib.hid (pols_in o9 k9); have B9 : Hid (Below W4.heap.size W4 w9) := B8.out.trans (b9.mono B8.out.size); clear o9 k9 b9)
    | (go_at_call 29; refine (HSL.out w7 _ _ ?hA ?hB).mono ?_; (case hA => exact P6.out.below C7.out); (case hB => exact P7.out); rintro e w8 ⟨rfl, b8⟩; have B8 : Hid (Below W4.heap.size W4 w8) := B7.out.trans (b8.mono B7.out.size); clear b8)
    | (go_at_call 31; refine (HR1.out w6).mono ?_; rintro e w7 ⟨⟨v7, cs7, rfl, o7, k7⟩, b7⟩; obtain ⟨ao7, cp7, hv7⟩ := owns_shape o7; subst hv7; have P7 := Lib.hid (dirs_in o7 k7); have C7 := Lib.hid b7; have B7 : Hid (Below W4.heap.size W4 w7) := B6.out.trans (b7.mono B6.out.size); clear o7 k7 b7)
    | (go_at_call 30; refine (HP1.out w5 ?hM).mono ?_; (case hM => exact HM4.out.below B5.out); rintro e w6 ⟨⟨v6, cs6, rfl, o6, k6⟩, b6⟩; obtain ⟨ao6, cp6, hv6⟩ := owns_shape o6; subst hv6; have P6 := Lib.hid (dirs_in o6 k6); have B6 : Hid (Below W4.heap.size W4 w6) := B5.out.trans (b6.mono B5.out.size); clear o6 k6 b6)
    | (go_at_call 29; refine (HSM.out W4 _ _ ?hA ?hB).mono ?_; (case hA => exact DA.out); (case hB => exact DB.out); rintro e w5 ⟨rfl, b5⟩; have B5 := Lib.hid b5; clear b5))
  go_ret
  exact ⟨by exact rfl, B4.out.trans (B12.out.mono B4.out.size)⟩
end Go.Proofs.YtgaeecphohlmpaaDoor
