/- lazaretref28.Find. -/
import Derived.Test.YtgaeecphohlmpaaDoorAsk1
set_option linter.unusedVariables false
namespace Go.Proofs.YtgaeecphohlmpaaDoor
open Go.RowKit

set_option maxHeartbeats 3200000 in
set_option maxRecDepth 100000 in
theorem rcfind_any (lv : Value) (rep : Bool) (ds : List Dir) (k : Int) (w : World) (hd : DirsIn w lv ds) (hl : ds.length ≤ 1099511627776) :
    Calls Tryd.prog 23 #[.agg #[lv, .bool rep], .int .i64 k] w fun e w' => FindRd w (cfL ds k) e ∧ Below w.heap.size w w' := by
  obtain ⟨W3, hW3⟩ : ∃ W3, W3 = (w.alloc (.cells #[lv, .bool rep] 30)).alloc (.cells #[.string ⟨#[]⟩, .slice none 0 0] 33) := ⟨_, rfl⟩
  have hs3 : W3.heap.size = w.heap.size + 2 := by rw [hW3]; simp
  have hb3 : Below w.heap.size w W3 := by
    rw [hW3]
    exact ((Below.refl _ w).alloc (Nat.le_refl _) _).alloc (by simp) _
  have k2 : W3.heap[w.heap.size + 1]? = some (.cells #[.string ⟨#[]⟩, .slice none 0 0] 33 (0, 0)) := by
    rw [hW3]
    have := heap_alloc_new (w.alloc (.cells #[lv, .bool rep] 30)) (.cells #[.string ⟨#[]⟩, .slice none 0 0] 33)
    simpa using this
  have k0 : W3.heap[w.heap.size]? = some (.cells #[lv, .bool rep] 30 (0, 0)) := by
    rw [hW3, Below.heap_alloc _ _ _ (by simp)]
    exact heap_alloc_new w (.cells #[lv, .bool rep] 30)
  obtain ⟨nm, hnm⟩ : ∃ nm : ByteArray, (⟨(effS k).toArray⟩ : ByteArray) = nm := ⟨_, rfl⟩
  have hnl : nm.data.toList = effS k := by rw [← hnm]
  have HR : Hid (∀ W, Calls Tryd.prog 18 #[.int .i64 k] W fun e w' => e = .returned (.string nm) ∧ Below W.heap.size W w') := fun W => by rw [← hnm]; exact reff_any k W
  clear hnm
  have HW3 := Lib.hid hW3
  clear hW3
  by_cases he : effS k = []
  · have hr : Hid (cfL ds k = none) := by show cfL ds k = none; unfold cfL; rw [if_pos he]
    obtain rfl : nm = ⟨#[]⟩ := of_lst (hnl.trans he)
    clear he hnl
    go_enter Tryd.func23, Tryd.ntmps23
    go_upto_region 2 with (go_at_call 18; rw [← HW3.out]; refine (HR.out _).mono ?_; rintro e w1 ⟨rfl, b1⟩)
    have HB1 : Hid (Below w.heap.size w w1) := hb3.trans (b1.mono (by omega))
    have j2 := (b1.block _ (by omega)).trans k2
    clear k0 k2 hb3 b1
    have q2 : w1.cell? ⟨w.heap.size + 1, 0, none⟩ = some (.string ⟨#[]⟩) := by rw [Lib.cell_of_heap j2]; rfl
    have q3 : w1.cell? ⟨w.heap.size + 1, 1, none⟩ = some (.slice none 0 0) := by rw [Lib.cell_of_heap j2]; rfl
    have z2 := Lib.frozen_of_heap j2 0
    have z3 := Lib.frozen_of_heap j2 1
    go_wp2_with fail
    refine bodyPost_ret (v := .tuple #[.agg #[.string ⟨#[]⟩, .slice none 0 0], .bool false]) ?_ rfl ?_
    · rw [results_cell_tmp rfl]
      go_simp
    · exact ⟨⟨.slice none 0 0, by rw [hr.out]; exact rfl, by rw [hr.out]; exact nil_in _⟩, (HB1.out.setCell (by show _ ≤ w.heap.size + 1; omega) _).setCell (by show _ ≤ w.heap.size + 1; omega) _⟩
  have hr : Hid (cfL ds k = firstL ds (chainL (effS k))) := by show cfL ds k = _; unfold cfL; rw [if_neg he]
  have hq : (nm.toList == []) = false := ne_bq (by rw [hnl]; exact he)
  have hcl := Lib.hid (chain_len (effS k))
  have HC : Hid (∀ W, Calls Tryd.prog 20 #[.string nm] W fun e w' => ∃ v, e = .returned v ∧ w'.ownsRow W.heap.size 9 1 v (chainL (effS k)).length (strCells (chainL (effS k))) ∧ Below W.heap.size W w') := by rw [← hnl]; exact rchain_any nm
  clear he hnl
  generalize chainL (effS k) = C at *
  go_enter Tryd.func23, Tryd.ntmps23
  go_wp2_with (first
    | (go_at_call 20; refine (HC.out _).mono ?_; rintro e w3 ⟨v, rfl, o3, b3⟩; obtain ⟨ao, cp, hv⟩ := owns_shape o3; subst hv; have O3 := Lib.hid o3; have B3 := Lib.hid b3; clear o3 b3)
    | (go_at_call 18; refine (HR.out w1).mono ?_; rintro e w2 ⟨rfl, b2⟩; have B2 := Lib.hid b2; clear b2)
    | (go_at_call 18; rw [← HW3.out]; refine (HR.out _).mono ?_; rintro e w1 ⟨rfl, b1⟩; have B1 := Lib.hid b1; clear b1))
  have hs1 := B1.out.size
  have hs2 := B2.out.size
  have hs3' := B3.out.size
  have HBX : Hid (Below W3.heap.size W3 w3) := B1.out.trans ((B2.out.trans (B3.out.mono hs2)).mono hs1)
  have HB : Hid (Below w.heap.size w w3) := hb3.trans (HBX.out.mono (by omega))
  have k0' := (HBX.out.block _ (by omega)).trans k0
  have k2' := (HBX.out.block _ (by omega)).trans k2
  have hcl5 := hcl.out
  have hs33 : w.heap.size + 2 ≤ w3.heap.size := by omega
  have o3 := O3.out
  have hd3 := hd.below HB.out
  clear k0 k2 HBX B1 B2 B3 O3 hs1 hs2 hs3' hs3 hb3
  go_loopw [7] (fun i wr => ∃ j : Nat, j ≤ C.length ∧ i = .int .i64 j ∧ Hid (∀ c n, c < j → C[c]? = some n → fndL ds n = none) ∧ Below w3.heap.size w3 wr) (fun i _ => C.length - (intOf i).toNat)
  case atStart => exact ⟨0, Nat.zero_le _, rfl, by intro c n h; omega, Below.refl _ w3⟩
  case round =>
    obtain ⟨j, hj, rfl, hno, hb⟩ := hrel
    have r0 := (hb.block _ (by omega)).trans k0'
    have r2 := (hb.block _ (by omega)).trans k2'
    have hs := hb.size
    have HBW : Hid (Below w.heap.size w wr) := HB.out.trans (hb.mono (by omega))
    have q0 : wr.cell? ⟨w.heap.size, 0, none⟩ = some lv := by rw [Lib.cell_of_heap r0]; rfl
    have q1 : wr.cell? ⟨w.heap.size, 1, none⟩ = some (.bool rep) := by rw [Lib.cell_of_heap r0]; rfl
    by_cases hlt : j < C.length
    · obtain ⟨x, hx⟩ : ∃ x, C[j]? = some x := ⟨_, List.getElem?_eq_getElem hlt⟩
      obtain ⟨g, cap, hv2, _, _, _, hg2, rr⟩ := owns_cell (owns_below o3 hb) (j := j) (by omega)
      injection hv2 with e1 e2 e3
      subst e1 e3
      have hji : (j : Int) < C.length := by omega
      have hc := rr j (.string ⟨x.toArray⟩) (by simp [strCells, hx])
      have HX := Lib.hid hx
      clear rr hx
      have hsw : w.heap.size + 2 ≤ wr.heap.size := by omega
      cases hf : fndL ds x with
      | none =>
        have HFI : Hid (∀ W, Below w.heap.size w W → Calls Tryd.prog 38 #[.agg #[lv, .bool rep], .string ⟨x.toArray⟩] W fun e w' => (∃ sa sc, e = .returned (.tuple #[.agg #[.string ⟨#[]⟩, .slice sa 0 sc], .bool false])) ∧ Below W.heap.size W w') := by
          intro W hW
          refine (rfind_any lv rep ds ⟨x.toArray⟩ w W hd hW hl).mono ?_
          rintro e w' ⟨⟨sv, rfl, h2⟩, b⟩
          have hx2 : (⟨x.toArray⟩ : ByteArray).data.toList = x := by simp
          rw [hx2, hf] at h2 ⊢
          obtain ⟨sa, sc, rfl⟩ := h2.shape
          exact ⟨⟨sa, sc, rfl⟩, b⟩
        have hno2 : Hid (∀ c n, c < j + 1 → C[c]? = some n → fndL ds n = none) := by
          intro c n hc hn
          by_cases e : c = j
          · subst e
            rw [HX.out] at hn
            injection hn with hn
            rw [← hn]
            exact hf
          · exact hno.out c n (by omega) hn
        clear hf
        go_wp2_with fail
        have A0 : (wr.alloc (.cells #[.string ⟨#[]⟩, .slice none 0 0] 33)).cell? ⟨wr.heap.size, 0, none⟩ = some (.string ⟨#[]⟩) := by rw [Lib.cell_of_heap (heap_alloc_new wr _)]; rfl
        have A1 : (wr.alloc (.cells #[.string ⟨#[]⟩, .slice none 0 0] 33)).cell? ⟨wr.heap.size, 1, none⟩ = some (.slice none 0 0) := by rw [Lib.cell_of_heap (heap_alloc_new wr _)]; rfl
        have Z0 := Lib.frozen_of_heap (heap_alloc_new wr (.cells #[.string ⟨#[]⟩, .slice none 0 0] 33)) 0
        have Z1 := Lib.frozen_of_heap (heap_alloc_new wr (.cells #[.string ⟨#[]⟩, .slice none 0 0] 33)) 1
        have LT : wr.heap.size < (wr.alloc (.cells #[.string ⟨#[]⟩, .slice none 0 0] 33)).heap.size := by simp
        have HBA : Hid (Below w.heap.size w (wr.alloc (.cells #[.string ⟨#[]⟩, .slice none 0 0] 33))) := HBW.out.alloc (by omega) _
        have A0 := Lib.hid A0
        have A1 := Lib.hid A1
        have Z0 := Lib.hid Z0
        have Z1 := Lib.hid Z1
        have LT := Lib.hid LT
        have P0 : (wr.alloc (.cells #[.string ⟨#[]⟩, .slice none 0 0] 33)).cell? ⟨w.heap.size, 0, none⟩ = some lv := (((Below.refl _ wr).alloc (Nat.le_refl _) _).cell (p := ⟨w.heap.size, 0, none⟩) (by show w.heap.size < _; omega)).trans q0
        have P1 : (wr.alloc (.cells #[.string ⟨#[]⟩, .slice none 0 0] 33)).cell? ⟨w.heap.size, 1, none⟩ = some (.bool rep) := (((Below.refl _ wr).alloc (Nat.le_refl _) _).cell (p := ⟨w.heap.size, 1, none⟩) (by show w.heap.size < _; omega)).trans q1
        have PC : (wr.alloc (.cells #[.string ⟨#[]⟩, .slice none 0 0] 33)).cell? ⟨g, j, none⟩ = some (.string ⟨x.toArray⟩) := (((Below.refl _ wr).alloc (Nat.le_refl _) _).cell (p := ⟨g, j, none⟩) (by exact hg2)).trans hc
        have N0 : w.heap.size < wr.heap.size := by omega
        go_region_with (first
          | (go_at_call 38; refine (HFI.out _ ?hB).mono ?_; (case hB => exact below_drewN HBW.out 1); rintro e w4 ⟨⟨sa, sc, rfl⟩, b4⟩)
          | (go_at_call 38; refine (HFI.out _ ?hB).mono ?_; (case hB => exact below_drewN HBA.out 1); rintro e w4 ⟨⟨sa, sc, rfl⟩, b4⟩; have y0 : w4.cell? ⟨wr.heap.size, 0, none⟩ = some (.string ⟨#[]⟩) := (b4.cell (p := ⟨wr.heap.size, 0, none⟩) (by exact LT.out)).trans (by exact A0.out); have y1 : w4.cell? ⟨wr.heap.size, 1, none⟩ = some (.slice none 0 0) := (b4.cell (p := ⟨wr.heap.size, 1, none⟩) (by exact LT.out)).trans (by exact A1.out); have x0 : w4.frozen? ⟨wr.heap.size, 0, none⟩ = false := (b4.frozen (p := ⟨wr.heap.size, 0, none⟩) (by exact LT.out)).trans (by exact Z0.out); have x1 : w4.frozen? ⟨wr.heap.size, 1, none⟩ = false := (b4.frozen (p := ⟨wr.heap.size, 1, none⟩) (by exact LT.out)).trans (by exact Z1.out)))
        all_goals go_wp2_with fail
        all_goals go_roundw
        all_goals first
          | (simp [intOf]; omega)
          | exact ⟨j + 1, by omega, by go_num, hno2.out, (hb.drew.trans (b4.mono hs)).alloc (Nat.le_trans hs b4.size) _⟩
          | exact ⟨j + 1, by omega, by go_num, hno2.out, (((hb.alloc hs _).drew.trans (b4.mono (by simp; omega))).setCell (by exact hs) _).setCell (by exact hs) _⟩
      | some d =>
        have HFI : Hid (∀ W, Below w.heap.size w W → Calls Tryd.prog 38 #[.agg #[lv, .bool rep], .string ⟨x.toArray⟩] W fun e w' => (∃ sa sc, e = .returned (.tuple #[.agg #[.string ⟨d.1.toArray⟩, .slice sa d.2.length sc], .bool true]) ∧ SliceIn w (.slice sa d.2.length sc) (strCells d.2)) ∧ Below W.heap.size W w') := by
          intro W hW
          refine (rfind_any lv rep ds ⟨x.toArray⟩ w W hd hW hl).mono ?_
          rintro e w' ⟨⟨sv, rfl, h2⟩, b⟩
          have hx2 : (⟨x.toArray⟩ : ByteArray).data.toList = x := by simp
          rw [hx2, hf] at h2 ⊢
          obtain ⟨sa, sc, rfl⟩ := h2.shape
          exact ⟨⟨sa, sc, rfl, h2⟩, b⟩
        have hfin : Hid (firstL ds C = some d) := by
          show firstL ds C = some d
          rw [firstL_skip (j := j) hno.out]
          obtain ⟨hj1, hj2⟩ := List.getElem?_eq_some_iff.1 HX.out
          rw [List.drop_eq_getElem_cons hj1, hj2]
          simp [firstL, hf]
        clear hf
        go_wp2_with fail
        have HR2 : Hid (w.heap.size + 1 < wr.heap.size) := by show _ < _; omega
        have A0 : (wr.alloc (.cells #[.string ⟨#[]⟩, .slice none 0 0] 33)).cell? ⟨wr.heap.size, 0, none⟩ = some (.string ⟨#[]⟩) := by rw [Lib.cell_of_heap (heap_alloc_new wr _)]; rfl
        have A1 : (wr.alloc (.cells #[.string ⟨#[]⟩, .slice none 0 0] 33)).cell? ⟨wr.heap.size, 1, none⟩ = some (.slice none 0 0) := by rw [Lib.cell_of_heap (heap_alloc_new wr _)]; rfl
        have Z0 := Lib.frozen_of_heap (heap_alloc_new wr (.cells #[.string ⟨#[]⟩, .slice none 0 0] 33)) 0
        have Z1 := Lib.frozen_of_heap (heap_alloc_new wr (.cells #[.string ⟨#[]⟩, .slice none 0 0] 33)) 1
        have LT : wr.heap.size < (wr.alloc (.cells #[.string ⟨#[]⟩, .slice none 0 0] 33)).heap.size := by simp
        have HBA : Hid (Below w.heap.size w (wr.alloc (.cells #[.string ⟨#[]⟩, .slice none 0 0] 33))) := HBW.out.alloc (by omega) _
        have A0 := Lib.hid A0
        have A1 := Lib.hid A1
        have Z0 := Lib.hid Z0
        have Z1 := Lib.hid Z1
        have LT := Lib.hid LT
        have P0 : (wr.alloc (.cells #[.string ⟨#[]⟩, .slice none 0 0] 33)).cell? ⟨w.heap.size, 0, none⟩ = some lv := (((Below.refl _ wr).alloc (Nat.le_refl _) _).cell (p := ⟨w.heap.size, 0, none⟩) (by show w.heap.size < _; omega)).trans q0
        have P1 : (wr.alloc (.cells #[.string ⟨#[]⟩, .slice none 0 0] 33)).cell? ⟨w.heap.size, 1, none⟩ = some (.bool rep) := (((Below.refl _ wr).alloc (Nat.le_refl _) _).cell (p := ⟨w.heap.size, 1, none⟩) (by show w.heap.size < _; omega)).trans q1
        have PC : (wr.alloc (.cells #[.string ⟨#[]⟩, .slice none 0 0] 33)).cell? ⟨g, j, none⟩ = some (.string ⟨x.toArray⟩) := (((Below.refl _ wr).alloc (Nat.le_refl _) _).cell (p := ⟨g, j, none⟩) (by exact hg2)).trans hc
        have N0 : w.heap.size < wr.heap.size := by omega
        have R2A : Hid ((wr.alloc (.cells #[.string ⟨#[]⟩, .slice none 0 0] 33)).heap[w.heap.size + 1]? = some (.cells #[.string ⟨#[]⟩, .slice none 0 0] 33 (0, 0))) := (Below.heap_alloc wr _ _ HR2.out).trans r2
        have LT2 : Hid (w.heap.size + 1 < (wr.alloc (.cells #[.string ⟨#[]⟩, .slice none 0 0] 33)).heap.size) := by show _ < _; simp; omega
        have N1 : ¬ w.heap.size + 1 = wr.heap.size := by omega
        have hww : Hid (w.heap.size ≤ wr.heap.size) := by show _ ≤ _; omega
        have hwa : Hid (w.heap.size ≤ (wr.alloc (.cells #[.string ⟨#[]⟩, .slice none 0 0] 33)).heap.size) := by show _ ≤ _; simp; omega
        go_region_with (first
          | (go_at_call 38; refine (HFI.out _ ?hB).mono ?_; (case hB => exact below_drewN HBW.out 1); rintro e w4 ⟨⟨sa, sc, rfl, hsl⟩, b4⟩)
          | (go_at_call 38; refine (HFI.out _ ?hB).mono ?_; (case hB => exact below_drewN HBA.out 1); rintro e w4 ⟨⟨sa, sc, rfl, hsl⟩, b4⟩; have y0 : w4.cell? ⟨wr.heap.size, 0, none⟩ = some (.string ⟨#[]⟩) := (b4.cell (p := ⟨wr.heap.size, 0, none⟩) (by exact LT.out)).trans (by exact A0.out); have y1 : w4.cell? ⟨wr.heap.size, 1, none⟩ = some (.slice none 0 0) := (b4.cell (p := ⟨wr.heap.size, 1, none⟩) (by exact LT.out)).trans (by exact A1.out); have x0 : w4.frozen? ⟨wr.heap.size, 0, none⟩ = false := (b4.frozen (p := ⟨wr.heap.size, 0, none⟩) (by exact LT.out)).trans (by exact Z0.out); have x1 : w4.frozen? ⟨wr.heap.size, 1, none⟩ = false := (b4.frozen (p := ⟨wr.heap.size, 1, none⟩) (by exact LT.out)).trans (by exact Z1.out)))
        all_goals
          have t2 : w4.heap[w.heap.size + 1]? = some (.cells #[.string ⟨#[]⟩, .slice none 0 0] 33 (0, 0)) := by
            first
              | exact (b4.block _ (by exact HR2.out)).trans (by exact r2)
              | exact (b4.block _ (by exact LT2.out)).trans (by exact R2A.out)
          have p2 : w4.cell? ⟨w.heap.size + 1, 0, none⟩ = some (.string ⟨#[]⟩) := by rw [Lib.cell_of_heap t2]; rfl
          have p3 : w4.cell? ⟨w.heap.size + 1, 1, none⟩ = some (.slice none 0 0) := by rw [Lib.cell_of_heap t2]; rfl
          have z2 := Lib.frozen_of_heap t2 0
          have z3 := Lib.frozen_of_heap t2 1
          have hlt4 := (Array.getElem?_eq_some_iff.1 t2).1
          clear t2
          go_wp2_with fail
          refine bodyPost_ret (v := .tuple #[.agg #[.string ⟨d.1.toArray⟩, .slice sa d.2.length sc], .bool true]) ?_ rfl ?_
          · rw [results_cell_tmp rfl]
            go_simp
          · refine ⟨⟨.slice sa d.2.length sc, by rw [hr.out, hfin.out]; exact rfl, by rw [hr.out, hfin.out]; exact hsl⟩, ?_⟩
            first
              | exact (((HBW.out.drew.trans (b4.mono (by exact hww.out))).setCell (by show _ ≤ w.heap.size + 1; omega) _).setCell (by show _ ≤ w.heap.size + 1; omega) _).alloc (by simp [World.setCell]; omega) _
              | exact ((((HBA.out.drew.trans (b4.mono (by exact hwa.out))).setCell (by exact hww.out) _).setCell (by exact hww.out) _).setCell (by show _ ≤ w.heap.size + 1; omega) _).setCell (by show _ ≤ w.heap.size + 1; omega) _
    · have hfin : Hid (firstL ds C = none) := by
        show firstL ds C = none
        rw [firstL_skip (j := C.length) (fun c n hc hn => hno.out c n (by omega) hn)]
        simp [firstL]
      have p2 : wr.cell? ⟨w.heap.size + 1, 0, none⟩ = some (.string ⟨#[]⟩) := by rw [Lib.cell_of_heap r2]; rfl
      have p3 : wr.cell? ⟨w.heap.size + 1, 1, none⟩ = some (.slice none 0 0) := by rw [Lib.cell_of_heap r2]; rfl
      have z2 := Lib.frozen_of_heap r2 0
      have z3 := Lib.frozen_of_heap r2 1
      go_wp2_with fail
      refine bodyPost_ret (v := .tuple #[.agg #[.string ⟨#[]⟩, .slice none 0 0], .bool false]) ?_ rfl ?_
      · rw [results_cell_tmp rfl]
        go_simp
      · exact ⟨⟨.slice none 0 0, by rw [hr.out, hfin.out]; exact rfl, by rw [hr.out, hfin.out]; exact nil_in _⟩, (HBW.out.setCell (by show _ ≤ w.heap.size + 1; omega) _).setCell (by show _ ≤ w.heap.size + 1; omega) _⟩
end Go.Proofs.YtgaeecphohlmpaaDoor
