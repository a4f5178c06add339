/- policy.Meta. -/
import Derived.Test.YtgaeecphohlmpaaDoorDel2
import Derived.Deep.Cut
set_option linter.unusedVariables false
namespace Go.Proofs.YtgaeecphohlmpaaDoor
open Go.RowKit

theorem ValsIn.celled {w : World} {sv : Value} {vs : List (List UInt8)} (h : ValsIn w sv vs) {g : Nat} {cur : Array Value} {e : TypeId} {fz : Nat × Nat} (hh : w.heap[g]? = some (.cells cur e fz)) (he : e ≠ 9) (k : Nat) (u : Value) : ValsIn (w.setCell ⟨g, k, none⟩ u) sv vs := by
  obtain ⟨b, off, cap', cs', fr, h1, h2, h3, h4, h5⟩ := h
  have hne : b ≠ g := by
    rintro rfl
    rw [h4] at hh
    injection hh with hh
    injection hh with _ hh _
    exact he hh.symm
  refine ⟨b, off, cap', cs', fr, h1, h2, h3, ?_, h5⟩
  unfold World.setCell
  simp only [Array.getElem?_modify]
  rw [if_neg (fun e => hne e.symm)]
  exact h4
theorem heap_setCell {w : World} {g : Nat} {cur : Array Value} {e : TypeId} {fz : Nat × Nat} (hh : w.heap[g]? = some (.cells cur e fz)) (k : Nat) (u : Value) : (w.setCell ⟨g, k, none⟩ u).heap[g]? = some (.cells (cur.setIfInBounds k u) e fz) := by
  unfold World.setCell; simp [Array.getElem?_modify, hh]
theorem metaL_len (ds : List Dir) : (metaL ds).length ≤ ds.length := List.length_filter_le _ _

/-- What Meta tells. -/
def MetaRes (w : World) (r : List Dir) (e : Ending) : Prop := ∃ lv, e = .returned (.tuple #[.agg #[lv, .bool false], .bool (!r.isEmpty)]) ∧ DirsIn w lv r

set_option maxHeartbeats 3200000 in
set_option maxRecDepth 100000 in
theorem pmeta_any (s : ByteArray) (m : Int) (w : World) (hs : s.size ≤ 1073741824) (hm : MaxOk m w) :
    Calls Tryd.prog 27 #[.string s] w fun e w' => MetaRes w' (metaL (oneL s.data.toList)) e ∧ Below w.heap.size w w' := by
  obtain ⟨W1, hW1⟩ : ∃ W1, W1 = w.alloc (.cells #[.slice none 0 0, .bool false] 30) := ⟨_, rfl⟩
  have hb1 : Below w.heap.size w W1 := by rw [hW1]; exact (Below.refl _ w).alloc (Nat.le_refl _) _
  have k0 : W1.heap[w.heap.size]? = some (.cells #[.slice none 0 0, .bool false] 30 (0, 0)) := by rw [hW1]; exact heap_alloc_new w _
  have hlt1 : w.heap.size < W1.heap.size := by rw [hW1]; simp
  have HM1 := Lib.hid (hm.below hb1)
  have HW1 := Lib.hid hW1
  have hll := Lib.hid (oneL_len s.data.toList)
  have hsl : Hid (s.data.toList.length = s.size) := by show s.data.toList.length = s.size; simp
  clear hW1
  have HP := Lib.hid (pone_any s m W1 hs HM1.out)
  generalize oneL s.data.toList = L at *
  obtain ⟨R, hR⟩ : ∃ R, metaL L = R := ⟨_, rfl⟩
  have HR := Lib.hid hR
  rw [hR]
  clear hR
  go_enter Tryd.func27, Tryd.ntmps27
  go_wp2_with fail
  rw [← HW1.out]
  refine HP.out.mono ?_
  rintro e w2 ⟨⟨v, cs, rfl, o2, c2⟩, b2⟩
  have hl : L.length ≤ 1099511627776 := by have := hll.out; rw [hsl.out] at this; omega
  have HD := Lib.hid (delete_any v L cs W1.heap.size w2 o2 c2 b2.size hl)
  have B2 := Lib.hid b2
  obtain ⟨va, vc, rfl⟩ := owns_shape o2
  clear o2 c2 b2
  go_wp2_with fail
  refine HD.out.mono ?_
  rintro e w3 ⟨⟨v3, cs3, rfl, o3, c3⟩, b3⟩
  have hv3 := owns_shape o3
  rw [HR.out] at hv3
  obtain ⟨va3, vc3, rfl⟩ := hv3
  have B3 : Hid (Below W1.heap.size W1 w3) := B2.out.trans b3
  have HB : Hid (Below w.heap.size w w3) := hb1.trans (B3.out.mono (Nat.le_of_lt hlt1))
  have k3 : w3.heap[w.heap.size]? = some (.cells #[.slice none 0 0, .bool false] 30 (0, 0)) := (B3.out.block _ hlt1).trans k0
  have q0 : w3.cell? ⟨w.heap.size, 0, none⟩ = some (.slice none 0 0) := by rw [Lib.cell_of_heap k3]; rfl
  have q1 : w3.cell? ⟨w.heap.size, 1, none⟩ = some (.bool false) := by rw [Lib.cell_of_heap k3]; rfl
  have z0 := Lib.frozen_of_heap k3 0
  have z1 := Lib.frozen_of_heap k3 1
  have hml := Nat.le_trans (metaL_len L) hl
  rw [HR.out] at hml o3 c3
  have O3 := Lib.hid o3
  have C3 := Lib.hid c3
  have K3 := Lib.hid k3
  have HLT := Lib.hid hlt1
  clear o3 c3 b3 k3 k0 HD HP B2 hb1 hlt1
  clear HR
  by_cases h0 : R = []
  · subst h0
    go_wp2_with fail
    refine bodyPost_ret (v := .tuple #[.agg #[.slice none 0 0, .bool false], .bool false]) ?_ rfl ?_
    · rw [results_cell_tmp rfl]
      go_simp
    · exact ⟨⟨.slice none 0 0, by exact rfl, ⟨none, 0, rfl, Nat.le_refl _, by unfold maxLen; omega, fun hne => absurd rfl hne⟩⟩, (HB.out.setCell (by show _ ≤ w.heap.size; omega) _).setCell (by show _ ≤ w.heap.size; omega) _⟩
  · have hne : ((R.length : Int) == 0) = false := by
      have := List.length_pos_iff.2 h0
      rw [beq_eq_false_iff_ne]; omega
    have hnz : ¬ R.length = 0 := by have := List.length_pos_iff.2 h0; omega
    have hok : Hid ((!R.isEmpty) = true) := by show (!R.isEmpty) = true; simpa using h0
    clear h0
    go_wp2_with fail
    refine bodyPost_ret (v := .tuple #[.agg #[.slice va3 R.length vc3, .bool false], .bool true]) ?_ rfl ?_
    · rw [results_cell_tmp rfl]
      go_simp
    · refine ⟨⟨.slice va3 R.length vc3, by rw [hok.out], ?_⟩, (HB.out.setCell (by show _ ≤ w.heap.size; omega) _).setCell (by show _ ≤ w.heap.size; omega) _⟩
      refine dirs_in (ownsRow_setCell_below (ownsRow_setCell_below O3.out (by exact HLT.out) _) (by exact HLT.out) _) (C3.out.imp fun sv vs h => ?_)
      exact (h.celled K3.out (by decide) _ _).celled (heap_setCell K3.out _ _) (by decide) _ _
end Go.Proofs.YtgaeecphohlmpaaDoor
