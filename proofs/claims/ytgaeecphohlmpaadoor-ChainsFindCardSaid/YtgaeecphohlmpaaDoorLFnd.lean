/- The law ChainsFind. -/
import Derived.Test.YtgaeecphohlmpaaDoorAsk2
import Derived.Deep.Cut
set_option linter.unusedVariables false
namespace Go.Proofs.YtgaeecphohlmpaaDoor
open Go.RowKit

set_option maxHeartbeats 3200000 in
set_option maxRecDepth 100000 in
theorem chainsFind_law (lv : Value) (rep : Bool) (ds : List Dir) (k m : Int) (w : World) (hd : DirsIn w lv ds) (hm : MaxOk m w) (hT : ETab w) :
    Calls Tryd.prog 4 #[.agg #[lv, .bool rep], .int .i64 k] w fun e w' => e = .returned (.bool true) ∧ Below w.heap.size w w' := by
  obtain ⟨W1, hW1⟩ : ∃ W1, W1 = w.alloc (.cells #[lv, .bool rep] 30) := ⟨_, rfl⟩
  have hb1 : Below w.heap.size w W1 := by rw [hW1]; exact (Below.refl _ w).alloc (Nat.le_refl _) _
  have hsz1 : W1.heap.size = w.heap.size + 1 := by rw [hW1]; simp
  have hlt1 : Hid (w.heap.size < W1.heap.size) := by show _ < _; omega
  have q0 : W1.cell? ⟨w.heap.size, 0, none⟩ = some lv := by rw [hW1, Lib.cell_of_heap (heap_alloc_new w _)]; rfl
  have q1 : W1.cell? ⟨w.heap.size, 1, none⟩ = some (.bool rep) := by rw [hW1, Lib.cell_of_heap (heap_alloc_new w _)]; rfl
  have hd1 := hd.below hb1
  have HM1 := Lib.hid (hm.below hb1)
  have HT1 := Lib.hid (hT.below hb1)
  have HW1 := Lib.hid hW1
  have HB1 := Lib.hid hb1
  clear hW1 hm hT hb1 hsz1
  by_cases hg : SmallDs ds
  · have HG : Hid (Calls Tryd.prog 21 #[.agg #[lv, .bool rep]] W1 fun e w' => e = .returned (.bool false) ∧ Below W1.heap.size W1 w') := by
      have := great_any lv rep ds W1 hd1
      unfold GreatRes at this
      rw [greatB_no hg] at this
      exact this
    have hl : ds.length ≤ 1099511627776 := by have := hg.1; omega
    have hv : ∀ d ∈ ds, d.2.length ≤ 1099511627776 := fun d h => by have := (hg.2 d h).2.1; omega
    obtain ⟨D, hD⟩ : ∃ D, (cfL ds k).getD ([], []) = D := ⟨_, rfl⟩
    obtain ⟨bb, hbb⟩ : ∃ bb, (cfL ds k).isSome = bb := ⟨_, rfl⟩
    obtain ⟨nd, hnd⟩ : ∃ nd : ByteArray, (⟨D.1.toArray⟩ : ByteArray) = nd := ⟨_, rfl⟩
    obtain ⟨n, hn⟩ : ∃ n, D.2.length = n := ⟨_, rfl⟩
    have HF : Hid (∀ W, Below W1.heap.size W1 W → Calls Tryd.prog 22 #[.agg #[lv, .bool rep], .int .i64 k] W fun e w' => (∃ sa sc, e = .returned (.tuple #[.agg #[.string nd, .slice sa n sc], .bool bb]) ∧ SliceIn w' (.slice sa n sc) (strCells D.2)) ∧ Below W.heap.size W w') := by
      intro W hW
      refine (cfind_any lv rep ds k W (hd1.below hW) (HT1.out.below hW) hl hv).mono ?_
      rintro e w' ⟨⟨sv, rfl, h2⟩, b⟩
      have h3 := owns_slice h2 (strCells_len _)
      rw [hD] at h3
      obtain ⟨sa, sc, rfl⟩ := h3.shape
      exact ⟨⟨sa, sc, by rw [hD, hbb, hnd, hn], by rw [← hn]; exact h3⟩, b⟩
    have HR : Hid (∀ W, Below W1.heap.size W1 W → Calls Tryd.prog 23 #[.agg #[lv, .bool rep], .int .i64 k] W fun e w' => (∃ sa sc, e = .returned (.tuple #[.agg #[.string nd, .slice sa n sc], .bool bb]) ∧ SliceIn w' (.slice sa n sc) (strCells D.2)) ∧ Below W.heap.size W w') := by
      intro W hW
      refine (rcfind_any lv rep ds k W (hd1.below hW) hl).mono ?_
      rintro e w' ⟨⟨sv, rfl, h3⟩, b⟩
      rw [hD] at h3
      obtain ⟨sa, sc, rfl⟩ := h3.shape
      exact ⟨⟨sa, sc, by rw [hD, hbb, hnd, hn], by rw [← hn]; exact h3.below b⟩, b⟩
    have HD : Hid (∀ W sa sc sa2 sc2, SliceIn W (.slice sa n sc) (strCells D.2) → SliceIn W (.slice sa2 n sc2) (strCells D.2) → Calls Tryd.prog 24 #[.agg #[.string nd, .slice sa n sc], .agg #[.string nd, .slice sa2 n sc2]] W fun e w' => e = .returned (.bool true) ∧ Below W.heap.size W w') := by
      intro W sa sc sa2 sc2 h1 h2
      rw [← hnd]
      refine (directive_any _ _ D D W h1 h2).mono ?_
      rintro e w' ⟨rfl, b⟩
      exact ⟨by rw [beq_self_eq_true], b⟩
    have hbq : (bb == bb) = true := by simp
    clear hD hbb hnd hn hg
    go_enter Tryd.func4, Tryd.ntmps4
    go_upto_region 4 with (first
      | (go_at_call 22; refine (HF.out w2 ?hB).mono ?_; (case hB => exact B2.out); rintro e w3 ⟨⟨sa, sc, rfl, hs3⟩, b3⟩; have B3 := Lib.hid b3; have S3 := Lib.hid hs3; clear b3 hs3)
      | (go_at_call 21; rw [← HW1.out]; refine HG.out.mono ?_; rintro e w2 ⟨rfl, b2⟩; have r0 : w2.cell? ⟨w.heap.size, 0, none⟩ = some lv := (b2.cell (p := ⟨w.heap.size, 0, none⟩) hlt1.out).trans q0; have r1 : w2.cell? ⟨w.heap.size, 1, none⟩ = some (.bool rep) := (b2.cell (p := ⟨w.heap.size, 1, none⟩) hlt1.out).trans q1; have B2 := Lib.hid b2; clear b2))
    have hs2 := B2.out.size
    have hs3 := B3.out.size
    have hlt := hlt1.out
    obtain ⟨W4, hW4⟩ : ∃ W4, W4 = w3.alloc (.cells #[.string nd, .slice sa n sc] 33) := ⟨_, rfl⟩
    have hb4 : Below w3.heap.size w3 W4 := by rw [hW4]; exact (Below.refl _ w3).alloc (Nat.le_refl _) _
    have c0 : W4.cell? ⟨w3.heap.size, 0, none⟩ = some (.string nd) := by rw [hW4, Lib.cell_of_heap (heap_alloc_new w3 _)]; rfl
    have c1 : W4.cell? ⟨w3.heap.size, 1, none⟩ = some (.slice sa n sc) := by rw [hW4, Lib.cell_of_heap (heap_alloc_new w3 _)]; rfl
    have hs4 : w3.heap.size < W4.heap.size := by rw [hW4]; simp
    have BX : Hid (Below W1.heap.size W1 W4) := B2.out.trans ((B3.out.trans (hb4.mono hs3)).mono hs2)
    have p0 : W4.cell? ⟨w.heap.size, 0, none⟩ = some lv := (BX.out.cell (p := ⟨w.heap.size, 0, none⟩) hlt).trans q0
    have p1 : W4.cell? ⟨w.heap.size, 1, none⟩ = some (.bool rep) := (BX.out.cell (p := ⟨w.heap.size, 1, none⟩) hlt).trans q1
    have S4 := Lib.hid (S3.out.below hb4)
    have LT4 := Lib.hid hs4
    rw [← hW4]
    clear r0 r1 q0 q1 hW4 B2 B3 S3 hb4 hs4 hlt
    have HBX : Hid (w.heap.size ≤ W1.heap.size) := by show _ ≤ _; have := hlt1.out; omega
    have HX4 : Hid (W1.heap.size ≤ W4.heap.size) := BX.out.size
    clear hs2 hs3 hlt1
    go_upto_region 5 with (go_at_call 23; refine (HR.out W4 ?hB).mono ?_; (case hB => exact BX.out); rintro e w5 ⟨⟨sa2, sc2, rfl, hs5⟩, b5⟩; have y0 : w5.cell? ⟨w3.heap.size, 0, none⟩ = some (.string nd) := (b5.cell (p := ⟨w3.heap.size, 0, none⟩) LT4.out).trans c0; have y1 : w5.cell? ⟨w3.heap.size, 1, none⟩ = some (.slice sa n sc) := (b5.cell (p := ⟨w3.heap.size, 1, none⟩) LT4.out).trans c1; have B5 := Lib.hid b5; have S5 := Lib.hid hs5; clear b5 hs5)
    obtain ⟨W6, hW6⟩ : ∃ W6, W6 = w5.alloc (.cells #[.string nd, .slice sa2 n sc2] 33) := ⟨_, rfl⟩
    have hb6 : Below w5.heap.size w5 W6 := by rw [hW6]; exact (Below.refl _ w5).alloc (Nat.le_refl _) _
    have d0 : W6.cell? ⟨w5.heap.size, 0, none⟩ = some (.string nd) := by rw [hW6, Lib.cell_of_heap (heap_alloc_new w5 _)]; rfl
    have d1 : W6.cell? ⟨w5.heap.size, 1, none⟩ = some (.slice sa2 n sc2) := by rw [hW6, Lib.cell_of_heap (heap_alloc_new w5 _)]; rfl
    have hlt5 : w3.heap.size < w5.heap.size := Nat.lt_of_lt_of_le LT4.out B5.out.size
    have e0 : W6.cell? ⟨w3.heap.size, 0, none⟩ = some (.string nd) := (hb6.cell (p := ⟨w3.heap.size, 0, none⟩) hlt5).trans y0
    have e1 : W6.cell? ⟨w3.heap.size, 1, none⟩ = some (.slice sa n sc) := (hb6.cell (p := ⟨w3.heap.size, 1, none⟩) hlt5).trans y1
    have S6 := Lib.hid (S5.out.below hb6)
    have S6' := Lib.hid ((S4.out.below B5.out).below hb6)
    have B6 : Hid (Below W1.heap.size W1 W6) := BX.out.trans ((B5.out.trans (hb6.mono B5.out.size)).mono HX4.out)
    have HM6 := Lib.hid (HM1.out.below B6.out)
    have HT6 := Lib.hid (HT1.out.below B6.out)
    have HX6 : Hid (W1.heap.size ≤ W6.heap.size) := B6.out.size
    rw [← hW6]
    clear y0 y1 c0 c1 p0 p1 hW6 B5 S5 hb6 hlt5
    go_wp2_with (first
      | (go_at_call 15; refine (falls_any m w7 HM7.out HT7.out).mono ?_; rintro e w8 ⟨rfl, b8⟩; have B8 := Lib.hid b8; clear b8)
      | (go_at_call 24; refine (HD.out _ _ _ _ _ ?hA ?hB).mono ?_; (case hA => exact S6'.out); (case hB => exact S6.out); rintro e w7 ⟨rfl, b7⟩; have HM7 := Lib.hid (HM6.out.below b7); have HT7 := Lib.hid (HT6.out.below b7); have B7 := Lib.hid b7; clear b7))
    go_ret
    exact ⟨by exact rfl, HB1.out.trans ((B6.out.trans ((B7.out.trans (B8.out.mono B7.out.size)).mono HX6.out)).mono HBX.out)⟩
  · have HG : Hid (Calls Tryd.prog 21 #[.agg #[lv, .bool rep]] W1 fun e w' => e = .returned (.bool true) ∧ Below W1.heap.size W1 w') := by
      have := great_any lv rep ds W1 hd1
      unfold GreatRes at this
      rw [greatB_yes hg] at this
      exact this
    go_enter Tryd.func4, Tryd.ntmps4
    go_wp2_with (first
      | (go_at_call 15; refine (falls_any m w2 HM2.out HT2.out).mono ?_; rintro e w3 ⟨rfl, b3⟩; have B3 := Lib.hid b3; clear b3)
      | (go_at_call 21; rw [← HW1.out]; refine HG.out.mono ?_; rintro e w2 ⟨rfl, b2⟩; have HM2 := Lib.hid (HM1.out.below b2); have HT2 := Lib.hid (HT1.out.below b2); have B2 := Lib.hid b2; clear b2))
    go_ret
    exact ⟨by exact rfl, HB1.out.trans ((B2.out.trans (B3.out.mono B2.out.size)).mono (by have := hlt1.out; omega))⟩
end Go.Proofs.YtgaeecphohlmpaaDoor
