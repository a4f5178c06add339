/- lazaretlaw29.of: a policy of a text. The first lemmas are Fls's and Met's own, without layer 28. -/
import Derived.Test.YtgaeecphohlmpabDoorPrs29
import Derived.Test.YtgaeecphohlmpabDoorPol
set_option linter.unusedVariables false
namespace Go.Proofs.YtgaeecphohlmpabDoor
open Go.RowKit

theorem vals_slice {w : World} {sv : Value} {vs : List (List UInt8)} (h : ValsIn w sv vs) : SliceIn w sv (strCells vs) := by
  obtain ⟨b, off, cap, cs, fr, h1, h2, h3, h4, h5⟩ := h
  refine ⟨_, cap, by rw [strCells_len]; exact h1, by rw [strCells_len]; exact h2, h3, fun _ => ⟨b, off, rfl, (Array.getElem?_eq_some_iff.1 h4).1, fun i hi => ?_⟩⟩
  rw [Lib.cell_of_heap h4]
  exact h5 i _ (List.getElem?_eq_getElem hi)
theorem dirC_at {w : World} : ∀ {cs : List Value} {ds : List Dir}, DirC w cs ds → ∀ i (h : i < ds.length), cs[i * 2]? = some (.string ⟨ds[i].1.toArray⟩) ∧ ∃ sv, cs[i * 2 + 1]? = some sv ∧ SliceIn w sv (strCells ds[i].2)
  | [], [], _, i, h => by simp at h
  | [], _ :: _, h, _, _ => by cases h
  | [_], [], h, _, _ => by cases h
  | [_], _ :: _, h, _, _ => by cases h
  | _ :: _ :: _, [], h, _, _ => by cases h
  | a :: b :: cs, d :: ds, h, 0, _ => ⟨by simp [h.1], b, by simp, vals_slice h.2.1⟩
  | a :: b :: cs, d :: ds, h, i + 1, hi => by
    have := dirC_at h.2.2 i (by simpa using hi)
    have e1 : (i + 1) * 2 = i * 2 + 2 := by omega
    rw [e1]
    simpa using this
theorem dirs_in {w : World} {B : Nat} {v : Value} {ds : List Dir} {cs : List Value} (h : w.ownsRow B 42 2 v ds.length cs) (hc : DirC w cs ds) : DirsIn w v ds := by
  rcases h.2 with ⟨rfl, h0⟩ | ⟨g, cap, cur, rfl, hg, hh, hle, hcm, hcs, htake⟩
  · exact ⟨none, 0, by rw [h0], by omega, by unfold maxLen; omega, fun hne => absurd (List.length_eq_zero_iff.1 h0) hne⟩
  · refine ⟨_, cap, rfl, hle, hcm, fun hne => ⟨g, 0, rfl, (Array.getElem?_eq_some_iff.1 hh).1, fun i hi => ?_⟩⟩
    obtain ⟨c1, sv, c2, c3⟩ := dirC_at hc i hi
    have hadd : ∀ j, (⟨g, 0, none⟩ : Addr).add j = ⟨g, 0 + j, none⟩ := by intro j; unfold Addr.add; split <;> simp_all
    have r1 := h.cells (g := g) rfl _ _ c1
    have r2 := h.cells (g := g) rfl _ _ c2
    rw [hadd] at r1 r2
    exact ⟨r1, sv, r2, c3⟩
theorem ValsIn.celled {w : World} {sv : Value} {vs : List (List UInt8)} (h : ValsIn w sv vs) {g : Nat} {cur : Array Value} {e : TypeId} {fz : Nat × Nat} (hh : w.heap[g]? = some (.cells cur e fz)) (he : e ≠ 9) (k : Nat) (u : Value) : ValsIn (w.setCell ⟨g, k, none⟩ u) sv vs := by
  obtain ⟨b, off, cap', cs', fr, h1, h2, h3, h4, h5⟩ := h
  have hne : b ≠ g := by
    rintro rfl
    rw [h4] at hh
    injection hh with hh
    injection hh with _ hh _
    exact he hh.symm
  refine ⟨b, off, cap', cs', fr, h1, h2, h3, ?_, h5⟩
  unfold World.setCell
  simp only [Array.getElem?_modify]
  rw [if_neg (fun e => hne e.symm)]
  exact h4

set_option maxHeartbeats 1600000 in
theorem of_any (s : ByteArray) (m : Int) (w : World) (hs : s.size ≤ 1073741824) (hm : MaxOk m w) :
    Calls Tryd.prog 16 #[.string s] w fun e w' => (∃ v, e = .returned (.agg #[v, .bool false]) ∧ DirsIn w' v (oneL s.data.toList)) ∧ Below w.heap.size w w' := by
  obtain ⟨W1, hW1⟩ : ∃ W1, W1 = w.alloc (.cells #[.slice none 0 0, .bool false] 24) := ⟨_, rfl⟩
  have hb1 : Below w.heap.size w W1 := by rw [hW1]; exact (Below.refl _ w).alloc (Nat.le_refl _) _
  have hs1 : w.heap.size < W1.heap.size := by rw [hW1]; simp
  have k1 : W1.heap[w.heap.size]? = some (.cells #[.slice none 0 0, .bool false] 24 (0, 0)) := by rw [hW1]; exact heap_alloc_new w _
  have HP := Lib.hid (pone_any s m W1 hs (hm.below hb1))
  have HW1 := Lib.hid hW1
  have HB1 := Lib.hid hb1
  clear hW1 hb1
  obtain ⟨L, hL⟩ : ∃ L, oneL s.data.toList = L := ⟨_, rfl⟩
  rw [hL] at HP
  rw [hL]
  clear hL
  go_enter Tryd.func16, Tryd.ntmps16
  go_wp2_with (go_at_call 27; rw [← HW1.out]; refine HP.out.mono ?_; rintro e w2 ⟨⟨v, cs, rfl, o2, dc⟩, b2⟩; obtain ⟨va, vc, hvs⟩ := owns_shape o2; subst hvs; have k2 : w2.heap[w.heap.size]? = _ := (b2.block _ hs1).trans k1; have c0 : w2.cell? ⟨w.heap.size, 0, none⟩ = some (.slice none 0 0) := by { rw [Lib.cell_of_heap k2]; rfl }; have c1 : w2.cell? ⟨w.heap.size, 1, none⟩ = some (.bool false) := by { rw [Lib.cell_of_heap k2]; rfl }; have z0 := Lib.frozen_of_heap k2 0; have z1 := Lib.frozen_of_heap k2 1; have K2 := Lib.hid k2; have O2 := Lib.hid o2; have B2 := Lib.hid b2; have DC := Lib.hid dc; clear k2 o2 b2 dc)
  refine bodyPost_ret (v := .agg #[.slice va L.length vc, .bool false]) ?_ rfl ?_
  · exact results_cell_row rfl _ _ w.heap.size 24 #[.slice va L.length vc, .bool false] (0, 0) _ rfl (by have := set29 (set29 K2.out 0 (.slice va L.length vc)) 1 (.bool false); exact this) Tryd.underlying24 rfl (by rfl)
  · refine ⟨⟨.slice va L.length vc, rfl, ?_⟩, ((HB1.out.trans (B2.out.mono HB1.out.size)).setCell (by show _ ≤ w.heap.size; omega) _).setCell (by show _ ≤ w.heap.size; omega) _⟩
    refine dirs_in (ownsRow_setCell_below (ownsRow_setCell_below O2.out (by exact hs1) _) (by exact hs1) _) (DC.out.imp fun sv vs h => ?_)
    exact (h.celled K2.out (by decide) _ _).celled (set29 K2.out _ _) (by decide) _ _
end Go.Proofs.YtgaeecphohlmpabDoor
