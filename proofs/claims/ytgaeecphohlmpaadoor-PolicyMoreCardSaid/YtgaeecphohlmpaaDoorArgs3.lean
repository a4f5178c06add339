/- An argument that is a policy: as the walks want it. -/
import Derived.Test.YtgaeecphohlmpaaDoorPol2
import Derived.Deep.SlicePairs
import Derived.Lib.SmallJoins
set_option linter.unusedVariables false
namespace Go.Proofs.YtgaeecphohlmpaaDoor
open Go.ChangeShapes Go.WideShapes Go.ChangeAt Go.RowKit Go.Deep

theorem strs_of_trod {H : Type} {enc : TypeId × Value → H} {W : World} {v : Value} {fuel : Nat} {x : DataW H × List MemPlace} (h : DataW.trod enc Tryd.prog W 0 (fun _ => true) true fuel 23 [v] = some x) :
    ∃ vs : List (List UInt8), SliceIn W v (strCells vs) := by
  rcases open_strings Tryd.underlying23 Tryd.underlying9 (by kernel_rfl) h with ⟨hcs, hx⟩ | ⟨a, len, cap, zs, hcs, _, hl, hm, hz, hx, hcell, hwz⟩
  · simp only [List.cons.injEq, and_true] at hcs
    subst hcs
    exact ⟨[], none, 0, rfl, Nat.le_refl _, by unfold maxLen; omega, fun hne => absurd rfl hne⟩
  · simp only [List.cons.injEq, and_true] at hcs
    subst hcs
    have hlen : (zs.take len).length = len := by
      rw [List.length_take, hz]; simp; omega
    refine ⟨(zs.take len).map (·.data.toList), ?_⟩
    have hsl : (strCells ((zs.take len).map (·.data.toList))) = (zs.take len).map Value.string := by
      unfold strCells
      rw [List.map_map]
      exact List.map_congr_left fun z _ => by simp
    rw [hsl]
    refine ⟨some a, cap, by rw [List.length_map, hlen], by rw [List.length_map, hlen]; exact hl, hm, fun hne => ?_⟩
    have hpos : 0 < len := by
      rcases Nat.eq_zero_or_pos len with h0 | h0
      · subst h0; simp at hne
      · exact h0
    have hz0 : 0 < zs.length := by rw [hz]; simp; omega
    have h0 := hcell 0 hz0
    obtain ⟨_, hadd⟩ := add_plain h0
    refine ⟨a.block, a.off, ?_, ?_, fun i hi => ?_⟩
    · have := World.cell?_spot h0
      obtain ⟨b, off, spot⟩ := a
      have hspot : spot = none := by simpa [Addr.add] using this
      subst hspot
      rfl
    · have := World.block_lt_of_cell? W _ h0
      rw [hadd 0] at this
      exact this
    · have hi2 : i < len := by rw [List.length_map, hlen] at hi; exact hi
      have := hcell i (by rw [hz]; simp; omega)
      rw [hadd i] at this
      rw [this]
      simp [List.getD, show i < zs.length by rw [hz]; simp; omega]

theorem dirs_of_trod {H : Type} {enc : TypeId × Value → H} {W : World} {v : Value} {fuel : Nat} {x : DataW H × List MemPlace} (h : DataW.trod enc Tryd.prog W 0 (fun _ => true) true fuel 28 [v] = some x) :
    ∃ ds : List Dir, DirsIn W v ds := by
  rcases open_slice_pairs Tryd.underlying28 Tryd.underlying33 (by kernel_rfl) rfl rfl (by kernel_rfl) (by kernel_rfl) h with ⟨hcs, hx⟩ | ⟨a, len, cap, m, n, V0, V1, D0, D1, P0, P1, hcs, _, hl, hm, hmm, hx, hcell⟩
  · simp only [List.cons.injEq, and_true] at hcs
    subst hcs
    exact ⟨[], none, 0, rfl, Nat.le_refl _, by unfold maxLen; omega, fun hne => absurd rfl hne⟩
  · simp only [List.cons.injEq, and_true] at hcs
    subst hcs
    have hlm : len ≤ m := by rw [hmm]; split <;> omega
    have each : ∀ i, i < len → ∃ d : Dir, W.cell? (a.add (i * 2)) = some (.string ⟨d.1.toArray⟩) ∧ ∃ sv, W.cell? (a.add (i * 2 + 1)) = some sv ∧ SliceIn W sv (strCells d.2) := by
      intro i hi
      obtain ⟨c0, c1, t0, t1⟩ := hcell i (by omega)
      obtain ⟨s, hs, _, _⟩ := DataW.trod_string Tryd.underlying9 t0
      simp only [List.cons.injEq, and_true] at hs
      obtain ⟨vs, hvs⟩ := strs_of_trod t1
      exact ⟨(s.data.toList, vs), by rw [c0, hs], V1 i, c1, hvs⟩
    obtain ⟨f, hf⟩ := choose_lt each
    refine ⟨(List.range len).map f, ?_⟩
    have hlen : ((List.range len).map f).length = len := by simp
    refine ⟨some a, cap, by rw [hlen], by rw [hlen]; exact hl, hm, fun hne => ?_⟩
    have hpos : 0 < len := by
      rcases Nat.eq_zero_or_pos len with h0 | h0
      · subst h0; simp at hne
      · exact h0
    have h0 := (hf 0 hpos).1
    rw [Nat.zero_mul] at h0
    obtain ⟨_, hadd⟩ := add_plain h0
    refine ⟨a.block, a.off, ?_, ?_, fun i hi => ?_⟩
    · have := World.cell?_spot h0
      obtain ⟨b, off, spot⟩ := a
      have hspot : spot = none := by simpa [Addr.add] using this
      subst hspot
      rfl
    · have := World.block_lt_of_cell? W _ h0
      rw [hadd 0] at this
      exact this
    · have hi2 : i < len := by rw [hlen] at hi; exact hi
      obtain ⟨c0, sv, c1, hs⟩ := hf i hi2
      rw [hadd] at c0 c1
      have he : ((List.range len).map f)[i] = f i := by simp
      rw [he]
      exact ⟨c0, sv, c1, hs⟩

/-- A policy, by value. -/
theorem policy_in {H : Type} {enc : TypeId × Value → H} {W : World} {v : Value} {d : DataW H} {p : List MemPlace} {base : Nat}
    (hv : Value.okWide Tryd.prog W .any base 30 v) (h : DataW.Trod enc Tryd.prog W 0 (fun _ => true) true 30 v d p) :
    ∃ (lv : Value) (rep : Bool) (ds : List Dir), v = .agg #[lv, .bool rep] ∧ DirsIn W lv ds := by
  obtain ⟨v0, v1, y0, y1, n, rfl, _, _, h0, h1⟩ := Go.Joins.open_agg2 Tryd.underlying30 (by kernel_rfl) (by kernel_rfl) hv h
  obtain ⟨b, hb, _⟩ := DataW.trod_bool Tryd.underlying4 h1
  simp only [List.cons.injEq, and_true] at hb
  subst hb
  obtain ⟨ds, hds⟩ := dirs_of_trod h0
  exact ⟨v0, b, ds, rfl, hds⟩
end Go.Proofs.YtgaeecphohlmpaaDoor
