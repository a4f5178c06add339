/- The law PolicyAsk. -/
import Derived.Test.YtgaeecphohlmpaaDoorTxt
import Derived.Test.YtgaeecphohlmpaaDoorAsk2
import Derived.Test.YtgaeecphohlmpaaDoorSay
import Derived.Deep.Cut
set_option linter.unusedVariables false
namespace Go.Proofs.YtgaeecphohlmpaaDoor
open Go.RowKit

theorem small_bnd {ds : List Dir} (h : SmallDs ds) : Bnd ds := ⟨by have := h.1; omega, fun d hd => by
  obtain ⟨h1, h2, h3⟩ := h.2 d hd
  exact ⟨by omega, by omega, fun v hv => by have := h3 v hv; omega⟩⟩

theorem cell_set_ne {w : World} {g j b o : Nat} {u v : Value} (h : b ≠ g) (hc : w.cell? ⟨b, o, none⟩ = some v) : (w.setCell ⟨g, j, none⟩ u).cell? ⟨b, o, none⟩ = some v := by
  refine Eq.trans (World.cell?_setCell_other _ (⟨g, j, none⟩ : Addr) (⟨b, o, none⟩ : Addr) u ?_) hc
  intro e
  injection e with e
  exact h e.symm

set_option maxHeartbeats 3200000 in
set_option maxRecDepth 100000 in
theorem policyAsk_law (lv : Value) (rep : Bool) (ds : List Dir) (nm : ByteArray) (m : Int) (w : World) (hd : DirsIn w lv ds) (hm : MaxOk m w) :
    Calls Tryd.prog 10 #[.agg #[lv, .bool rep], .string nm] w fun e w' => e = .returned (.bool true) ∧ Below w.heap.size w w' := by
  obtain ⟨W1, hW1⟩ : ∃ W1, W1 = w.alloc (.cells #[lv, .bool rep] 30) := ⟨_, rfl⟩
  have hb1 : Below w.heap.size w W1 := by rw [hW1]; exact (Below.refl _ w).alloc (Nat.le_refl _) _
  have hsz1 : W1.heap.size = w.heap.size + 1 := by rw [hW1]; simp
  have hlt1 : Hid (w.heap.size < W1.heap.size) := by show _ < _; omega
  have q0 : W1.cell? ⟨w.heap.size, 0, none⟩ = some lv := by rw [hW1, Lib.cell_of_heap (heap_alloc_new w _)]; rfl
  have q1 : W1.cell? ⟨w.heap.size, 1, none⟩ = some (.bool rep) := by rw [hW1, Lib.cell_of_heap (heap_alloc_new w _)]; rfl
  have Q0 := Lib.hid q0
  have Q1 := Lib.hid q1
  have hd1 := hd.below hb1
  have HM1 := Lib.hid (hm.below hb1)
  have HW1 := Lib.hid hW1
  have HB1 := Lib.hid hb1
  clear hW1 hm hb1 hsz1
  by_cases hg : SmallDs ds
  · have HG : Hid (Calls Tryd.prog 21 #[.agg #[lv, .bool rep]] W1 fun e w' => e = .returned (.bool false) ∧ Below W1.heap.size W1 w') := by
      have := great_any lv rep ds W1 hd1
      unfold GreatRes at this
      rw [greatB_no hg] at this
      exact this
    have hl : ds.length ≤ 1099511627776 := by have := hg.1; omega
    have hv : ∀ d ∈ ds, d.2.length ≤ 1099511627776 := fun d h => by have := (hg.2 d h).2.1; omega
    have hbd := small_bnd hg
    obtain ⟨D, hD⟩ : ∃ D, (fndL ds nm.data.toList).getD ([], []) = D := ⟨_, rfl⟩
    obtain ⟨bb, hbb⟩ : ∃ bb, (fndL ds nm.data.toList).isSome = bb := ⟨_, rfl⟩
    obtain ⟨nd, hnd⟩ : ∃ nd : ByteArray, (⟨D.1.toArray⟩ : ByteArray) = nd := ⟨_, rfl⟩
    obtain ⟨n, hn⟩ : ∃ n, D.2.length = n := ⟨_, rfl⟩
    obtain ⟨t, ht⟩ : ∃ t : ByteArray, (⟨(textL ds).toArray⟩ : ByteArray) = t := ⟨_, rfl⟩
    have hnl : n ≤ 1099511627776 := by
      rw [← hn, ← hD]
      cases hf : fndL ds nm.data.toList with
      | none => simp
      | some d =>
        have := List.mem_of_find?_eq_some (show ds.find? (fun d => d.1 == nm.data.toList) = some d from hf)
        exact hv d this
    have HF : Hid (∀ W, Below W1.heap.size W1 W → Calls Tryd.prog 37 #[.agg #[lv, .bool rep], .string nm] W fun e w' => (∃ sa sc, e = .returned (.tuple #[.agg #[.string nd, .slice sa n sc], .bool bb]) ∧ w'.ownsRow W.heap.size 9 1 (.slice sa n sc) n (strCells D.2)) ∧ Below W.heap.size W w') := by
      intro W hW
      refine (pfind_any lv rep ds nm W (hd1.below hW) hl hv).mono ?_
      rintro e w' ⟨⟨sv, rfl, h2⟩, b⟩
      rw [hD] at h2
      obtain ⟨sa, sc, rfl⟩ := owns_shape h2
      exact ⟨⟨sa, sc, by rw [hD, hbb, hnd, hn], by rw [← hn]; exact h2⟩, b⟩
    have HR : Hid (∀ W, Below W1.heap.size W1 W → Calls Tryd.prog 38 #[.agg #[lv, .bool rep], .string nm] W fun e w' => (∃ sa sc, e = .returned (.tuple #[.agg #[.string nd, .slice sa n sc], .bool bb]) ∧ SliceIn W1 (.slice sa n sc) (strCells D.2)) ∧ Below W.heap.size W w') := by
      intro W hW
      refine (rfind_any lv rep ds nm W1 W hd1 hW hl).mono ?_
      rintro e w' ⟨⟨sv, rfl, h3⟩, b⟩
      rw [hD] at h3
      obtain ⟨sa, sc, rfl⟩ := h3.shape
      exact ⟨⟨sa, sc, by rw [hD, hbb, hnd, hn], by rw [← hn]; exact h3⟩, b⟩
    have HD : Hid (∀ W sa sc sa2 sc2, SliceIn W (.slice sa n sc) (strCells D.2) → SliceIn W (.slice sa2 n sc2) (strCells D.2) → Calls Tryd.prog 24 #[.agg #[.string nd, .slice sa n sc], .agg #[.string nd, .slice sa2 n sc2]] W fun e w' => e = .returned (.bool true) ∧ Below W.heap.size W w') := by
      intro W sa sc sa2 sc2 h1 h2
      rw [← hnd]
      refine (directive_any _ _ D D W h1 h2).mono ?_
      rintro e w' ⟨rfl, b⟩
      exact ⟨by rw [beq_self_eq_true], b⟩
    have HTP : Hid (∀ W, Below W1.heap.size W1 W → Calls Tryd.prog 39 #[.agg #[lv, .bool rep]] W fun e w' => e = .returned (.string t) ∧ Below W.heap.size W w') := by
      intro W hW
      rw [← ht]
      exact ptext_any lv rep ds W (hd1.below hW) hbd
    have HTR : Hid (∀ W, Below W1.heap.size W1 W → Calls Tryd.prog 40 #[.agg #[lv, .bool rep]] W fun e w' => e = .returned (.string t) ∧ Below W.heap.size W w') := by
      intro W hW
      rw [← ht]
      exact rtext_any lv rep ds W (hd1.below hW) hbd
    have hbq : (bb != bb) = false := by simp
    have htq : (t.toList != t.toList) = false := by simp
    have htq2 : (t.toList == t.toList) = true := by simp
    have HNL := Lib.hid hn
    clear hD hbb hnd hn hg ht hbd hv
    go_enter Tryd.func10, Tryd.ntmps10
    go_upto_region 4 with (first
      | (go_at_call 37; refine (HF.out w2 ?hB).mono ?_; (case hB => exact B2.out); rintro e w3 ⟨⟨sa, sc, rfl, hs3⟩, b3⟩; have B3 := Lib.hid b3; have S3 := Lib.hid hs3; clear b3 hs3)
      | (go_at_call 21; rw [← HW1.out]; refine HG.out.mono ?_; rintro e w2 ⟨rfl, b2⟩; have r0 : w2.cell? ⟨w.heap.size, 0, none⟩ = some lv := (b2.cell (p := ⟨w.heap.size, 0, none⟩) hlt1.out).trans q0; have r1 : w2.cell? ⟨w.heap.size, 1, none⟩ = some (.bool rep) := (b2.cell (p := ⟨w.heap.size, 1, none⟩) hlt1.out).trans q1; have B2 := Lib.hid b2; clear b2))
    have hs2 := B2.out.size
    have hs3 := B3.out.size
    have hlt := hlt1.out
    obtain ⟨W4, hW4⟩ : ∃ W4, W4 = w3.alloc (.cells #[.string nd, .slice sa n sc] 33) := ⟨_, rfl⟩
    have hb4 : Below w3.heap.size w3 W4 := by rw [hW4]; exact (Below.refl _ w3).alloc (Nat.le_refl _) _
    have c0 : W4.cell? ⟨w3.heap.size, 0, none⟩ = some (.string nd) := by rw [hW4, Lib.cell_of_heap (heap_alloc_new w3 _)]; rfl
    have c1 : W4.cell? ⟨w3.heap.size, 1, none⟩ = some (.slice sa n sc) := by rw [hW4, Lib.cell_of_heap (heap_alloc_new w3 _)]; rfl
    have hs4 : w3.heap.size < W4.heap.size := by rw [hW4]; simp
    have BX : Hid (Below W1.heap.size W1 W4) := B2.out.trans ((B3.out.trans (hb4.mono hs3)).mono hs2)
    have p0 : W4.cell? ⟨w.heap.size, 0, none⟩ = some lv := (BX.out.cell (p := ⟨w.heap.size, 0, none⟩) hlt).trans q0
    have p1 : W4.cell? ⟨w.heap.size, 1, none⟩ = some (.bool rep) := (BX.out.cell (p := ⟨w.heap.size, 1, none⟩) hlt).trans q1
    have S4 := Lib.hid (owns_mono (owns_below S3.out hb4) (Nat.le_refl _))
    have LT4 := Lib.hid hs4
    have LW2 : Hid (W1.heap.size ≤ w2.heap.size) := hs2
    rw [← hW4]
    have hgl : Hid (0 < n → ∃ g, sa = some ⟨g, 0, none⟩ ∧ w2.heap.size ≤ g ∧ g < w3.heap.size) := by
      intro hp
      obtain ⟨g, cp, e, _, _, h1, h2, _⟩ := owns_cell S3.out (j := 0) hp
      injection e with e _ _
      exact ⟨g, e, h1, h2⟩
    clear r0 r1 q0 q1 hW4 B2 B3 S3 hb4 hs4 hlt
    have HX4 : Hid (W1.heap.size ≤ W4.heap.size) := BX.out.size
    clear hs2 hs3
    go_upto_region 5 with (go_at_call 38; refine (HR.out W4 ?hB).mono ?_; (case hB => exact BX.out); rintro e w5 ⟨⟨sa2, sc2, rfl, hs5⟩, b5⟩; have y0 : w5.cell? ⟨w3.heap.size, 0, none⟩ = some (.string nd) := (b5.cell (p := ⟨w3.heap.size, 0, none⟩) LT4.out).trans c0; have y1 : w5.cell? ⟨w3.heap.size, 1, none⟩ = some (.slice sa n sc) := (b5.cell (p := ⟨w3.heap.size, 1, none⟩) LT4.out).trans c1; have B5 := Lib.hid b5; have S5 := Lib.hid hs5; clear b5 hs5)
    obtain ⟨W6, hW6⟩ : ∃ W6, W6 = w5.alloc (.cells #[.string nd, .slice sa2 n sc2] 33) := ⟨_, rfl⟩
    have hb6 : Below w5.heap.size w5 W6 := by rw [hW6]; exact (Below.refl _ w5).alloc (Nat.le_refl _) _
    have d0 : W6.cell? ⟨w5.heap.size, 0, none⟩ = some (.string nd) := by rw [hW6, Lib.cell_of_heap (heap_alloc_new w5 _)]; rfl
    have d1 : W6.cell? ⟨w5.heap.size, 1, none⟩ = some (.slice sa2 n sc2) := by rw [hW6, Lib.cell_of_heap (heap_alloc_new w5 _)]; rfl
    have hlt5 : w3.heap.size < w5.heap.size := Nat.lt_of_lt_of_le LT4.out B5.out.size
    have e0 : W6.cell? ⟨w3.heap.size, 0, none⟩ = some (.string nd) := (hb6.cell (p := ⟨w3.heap.size, 0, none⟩) hlt5).trans y0
    have e1 : W6.cell? ⟨w3.heap.size, 1, none⟩ = some (.slice sa n sc) := (hb6.cell (p := ⟨w3.heap.size, 1, none⟩) hlt5).trans y1
    have B46 : Hid (Below W4.heap.size W4 W6) := B5.out.trans (hb6.mono B5.out.size)
    have B6 : Hid (Below W1.heap.size W1 W6) := BX.out.trans (B46.out.mono HX4.out)
    have z0 : W6.cell? ⟨w.heap.size, 0, none⟩ = some lv := (B6.out.cell (p := ⟨w.heap.size, 0, none⟩) hlt1.out).trans Q0.out
    have z1 : W6.cell? ⟨w.heap.size, 1, none⟩ = some (.bool rep) := (B6.out.cell (p := ⟨w.heap.size, 1, none⟩) hlt1.out).trans Q1.out
    have S6 := Lib.hid (S5.out.below B6.out)
    have O6 := Lib.hid (owns_below S4.out B46.out)
    have L6 : Hid (w5.heap.size < W6.heap.size) := by show _ < _; rw [hW6]; simp
    have L63 : Hid (w3.heap.size < W6.heap.size) := Nat.lt_trans hlt5 L6.out
    have LW6 : Hid (w.heap.size < W6.heap.size) := Nat.lt_of_lt_of_le hlt1.out B6.out.size
    rw [← hW6]
    clear y0 y1 c0 c1 p0 p1 hW6 B5 S5 hb6 hlt5
    have Z0 := Lib.hid z0
    have Z1 := Lib.hid z1
    have E0 := Lib.hid e0
    have E1 := Lib.hid e1
    have HDW : Hid (∀ W, Below W6.heap.size W6 W → Calls Tryd.prog 24 #[.agg #[.string nd, .slice sa n sc], .agg #[.string nd, .slice sa2 n sc2]] W fun e w' => e = .returned (.bool true) ∧ Below W.heap.size W w') := by
      intro W hW
      refine HD.out W _ _ _ _ ?_ (S6.out.below hW)
      exact owns_slice (owns_below O6.out hW) (by rw [strCells_len]; exact HNL.out)
    have HTP6 : Hid (∀ W, Below W6.heap.size W6 W → Calls Tryd.prog 39 #[.agg #[lv, .bool rep]] W fun e w' => e = .returned (.string t) ∧ Below W.heap.size W w') := fun W hW => HTP.out W (B6.out.trans (hW.mono B6.out.size))
    have HTR6 : Hid (∀ W, Below W6.heap.size W6 W → Calls Tryd.prog 40 #[.agg #[lv, .bool rep]] W fun e w' => e = .returned (.string t) ∧ Below W.heap.size W w') := fun W hW => HTR.out W (B6.out.trans (hW.mono B6.out.size))
    have HRF : Hid (Below W6.heap.size W6 W6) := Below.refl _ _
    go_wp2_with fail
    go_region_with (first
      | (go_at_call 40; refine (HTR6.out _ ?hA).mono ?_; (case hA => first | exact B8.out | exact below_drewN B8.out _); rintro e w9 ⟨rfl, b9⟩; have B9 : Hid (Below W6.heap.size W6 w9) := B8.out.trans (b9.mono B8.out.size); clear b9)
      | (go_at_call 39; refine (HTP6.out _ ?hA).mono ?_; (case hA => first | exact B7.out | exact below_drewN B7.out _); rintro e w8 ⟨rfl, b8⟩; have B8 : Hid (Below W6.heap.size W6 w8) := B7.out.trans (b8.mono B7.out.size); have m0 : w8.cell? ⟨w.heap.size, 0, none⟩ = some lv := (B8.out.cell (p := ⟨w.heap.size, 0, none⟩) LW6.out).trans Z0.out; have m1 : w8.cell? ⟨w.heap.size, 1, none⟩ = some (.bool rep) := (B8.out.cell (p := ⟨w.heap.size, 1, none⟩) LW6.out).trans Z1.out; clear b8)
      | (go_at_call 24; refine (HDW.out _ ?hA).mono ?_; (case hA => first | exact below_drewN HRF.out _ | exact HRF.out); rintro e w7 ⟨rfl, b7⟩; have B7 : Hid (Below W6.heap.size W6 w7) := (below_drewN HRF.out 1).trans (by exact b7); have l0 : w7.cell? ⟨w.heap.size, 0, none⟩ = some lv := (B7.out.cell (p := ⟨w.heap.size, 0, none⟩) LW6.out).trans Z0.out; have l1 : w7.cell? ⟨w.heap.size, 1, none⟩ = some (.bool rep) := (B7.out.cell (p := ⟨w.heap.size, 1, none⟩) LW6.out).trans Z1.out; clear b7))
    all_goals
      have hz69 := B9.out.size
      have O9 := owns_below O6.out B9.out
      have n0 : w9.cell? ⟨w.heap.size, 0, none⟩ = some lv := (B9.out.cell (p := ⟨w.heap.size, 0, none⟩) LW6.out).trans Z0.out
      have n1 : w9.cell? ⟨w.heap.size, 1, none⟩ = some (.bool rep) := (B9.out.cell (p := ⟨w.heap.size, 1, none⟩) LW6.out).trans Z1.out
      have E9 : Hid (w9.cell? ⟨w3.heap.size, 1, none⟩ = some (.slice sa n sc)) := (B9.out.cell (p := ⟨w3.heap.size, 1, none⟩) L63.out).trans E1.out
      have HRF9 : Hid (Below W1.heap.size W1 w9) := B6.out.trans (B9.out.mono B6.out.size)
      have O9' := Lib.hid O9
      clear O9
      go_wp2_with (go_at_call 40; refine (HTR.out _ ?hA).mono ?_; (case hA => first | exact HRF9.out.drew | exact HRF9.out | exact below_drewN HRF9.out _); rintro e w10 ⟨rfl, b10⟩; have B10 := Lib.hid b10; clear b10)
      have BA : Hid (Below W1.heap.size W1 w10) := HRF9.out.trans (B10.out.mono (by exact HRF9.out.size))
      have O10 : w10.ownsRow w2.heap.size 9 1 (.slice sa n sc) n (strCells D.2) := owns_below O9'.out (by exact B10.out)
      have E10 : w10.cell? ⟨w3.heap.size, 1, none⟩ = some (.slice sa n sc) := (B10.out.cell (p := ⟨w3.heap.size, 1, none⟩) (by exact Nat.lt_of_lt_of_le L63.out hz69)).trans (by exact E9.out)
      clear n0 n1 B10 E9 O9' HRF9
      go_loopw [10] (fun i wr => ∃ (j : Nat) (xs : List Value), j ≤ n ∧ i = .int .i64 j ∧ wr.ownsRow w2.heap.size 9 1 (.slice sa n sc) n xs ∧ wr.cell? ⟨w3.heap.size, 1, none⟩ = some (.slice sa n sc) ∧ Below W1.heap.size W1 wr) (fun i _ => n - (intOf i).toNat)
      case atStart => exact ⟨0, _, Nat.zero_le _, rfl, O10, E10, BA.out⟩
      case round =>
        obtain ⟨j, xs, hj, rfl, hown, he, hbw⟩ := hrel
        by_cases hlt : j < n
        · obtain ⟨g, hsa, hg1, hg2⟩ := hgl.out (by omega)
          subst hsa
          obtain ⟨g', cp', e', _, _, _, _, rr⟩ := owns_cell hown (j := 0) (by omega)
          injection e' with e' _ _
          injection e' with e'
          injection e' with e' _
          subst e'
          have hxl := hown.1
          obtain ⟨u, hu⟩ : ∃ u, xs[j]? = some u := ⟨_, List.getElem?_eq_getElem (by omega)⟩
          have x0 := rr j u hu
          have f0 := owns_free hown rfl j
          have hji : (j : Int) < n := by omega
          have HNX : Hid ((wr.setCell ⟨g, j, none⟩ (.string ⟨#[115, 112, 111, 105, 108, 116]⟩)).cell? ⟨w3.heap.size, 1, none⟩ = some (.slice (some ⟨g, 0, none⟩) n sc)) := by
            exact cell_set_ne (by omega) he
          clear rr hu hxl
          go_wp2_with fail
          go_roundw
          case rel => exact ⟨j + 1, _, by omega, by go_num, owns_set hown rfl _, HNX.out, hbw.setCell (by exact Nat.le_trans LW2.out hg1) _⟩
          case measure => simp [intOf]; omega
        · have n0 : wr.cell? ⟨w.heap.size, 0, none⟩ = some lv := (hbw.cell (p := ⟨w.heap.size, 0, none⟩) hlt1.out).trans Q0.out
          have n1 : wr.cell? ⟨w.heap.size, 1, none⟩ = some (.bool rep) := (hbw.cell (p := ⟨w.heap.size, 1, none⟩) hlt1.out).trans Q1.out
          have HBW := Lib.hid hbw
          clear hbw hown
          go_wp2_with (first
            | (go_at_call 26; refine (says_any m w11 HM11.out).mono ?_; rintro e w12 ⟨rfl, b12⟩; have B12 := Lib.hid b12; clear b12)
            | (go_at_call 40; refine (HTR.out _ ?hA).mono ?_; (case hA => exact HBW.out); rintro e w11 ⟨rfl, b11⟩; have B11 : Hid (Below W1.heap.size W1 w11) := HBW.out.trans (b11.mono HBW.out.size); have HM11 := Lib.hid (HM1.out.below B11.out); clear b11))
          go_ret
          exact ⟨by exact rfl, HB1.out.trans ((B11.out.trans (B12.out.mono B11.out.size)).mono (by have := hlt1.out; omega))⟩
  · have HG : Hid (Calls Tryd.prog 21 #[.agg #[lv, .bool rep]] W1 fun e w' => e = .returned (.bool true) ∧ Below W1.heap.size W1 w') := by
      have := great_any lv rep ds W1 hd1
      unfold GreatRes at this
      rw [greatB_yes hg] at this
      exact this
    go_enter Tryd.func10, Tryd.ntmps10
    go_wp2_with (first
      | (go_at_call 26; refine (says_any m w2 HM2.out).mono ?_; rintro e w3 ⟨rfl, b3⟩; have B3 := Lib.hid b3; clear b3)
      | (go_at_call 21; rw [← HW1.out]; refine HG.out.mono ?_; rintro e w2 ⟨rfl, b2⟩; have HM2 := Lib.hid (HM1.out.below b2); have B2 := Lib.hid b2; clear b2))
    go_ret
    exact ⟨by exact rfl, HB1.out.trans ((B2.out.trans (B3.out.mono B2.out.size)).mono (by have := hlt1.out; omega))⟩
end Go.Proofs.YtgaeecphohlmpaaDoor
