/- A list of attributes that comes in. -/
import Derived.Test.YteeplfbaflldaaaDoorTg7
import Derived.Test.YteeplfbaflldaaaDoorArgs
import Derived.Deep.SlicePairs
set_option linter.unusedVariables false
namespace Go.Proofs.YteeplfbaflldaaaDoor.T10
open Go.RowKit R9

section
open Go.ChangeShapes Go.WideShapes Go.ChangeAt Go.Deep
set_option maxRecDepth 100000 in
theorem atts_of_trod {H : Type} {enc : TypeId × Value → H} {W : World} {v : Value} {fuel : Nat} {x : DataW H × List MemPlace} (h : DataW.trod enc Tryd.prog W 0 (fun _ => true) true fuel 23 [v] = some x) :
    ∃ hs : List At, AttIn W v hs := by
  rcases open_slice_pairs Tryd.underlying23 Tryd.underlying32 (by kernel_rfl) rfl rfl (by kernel_rfl) (by kernel_rfl) h with ⟨hcs, hx⟩ | ⟨a, len, cap, m, n, V0, V1, D0, D1, P0, P1, hcs, _, hl, hm, hmm, hx, hcell⟩
  · simp only [List.cons.injEq, and_true] at hcs
    subst hcs
    exact ⟨[], none, 0, rfl, Nat.le_refl _, by unfold maxLen; omega, fun hne => absurd rfl hne⟩
  · simp only [List.cons.injEq, and_true] at hcs
    subst hcs
    have hlm : len ≤ m := by rw [hmm]; split <;> omega
    have each : ∀ i, i < len → ∃ d : At, W.cell? (a.add (i * 2)) = some (.string ⟨d.1.toArray⟩) ∧ W.cell? (a.add (i * 2 + 1)) = some (.string ⟨d.2.toArray⟩) := by
      intro i hi
      obtain ⟨c0, c1, t0, t1⟩ := hcell i (by omega)
      obtain ⟨s, hs, _, _⟩ := DataW.trod_string Tryd.underlying9 t0
      obtain ⟨s2, hs2, _, _⟩ := DataW.trod_string Tryd.underlying9 t1
      simp only [List.cons.injEq, and_true] at hs hs2
      exact ⟨(s.data.toList, s2.data.toList), by rw [c0, hs], by rw [c1, hs2]⟩
    obtain ⟨f, hf⟩ := choose_lt each
    refine ⟨(List.range len).map f, ?_⟩
    have hlen : ((List.range len).map f).length = len := by simp
    refine ⟨some a, cap, by rw [hlen], by rw [hlen]; exact hl, hm, fun hne => ?_⟩
    have hpos : 0 < len := by
      rcases Nat.eq_zero_or_pos len with h0 | h0
      · subst h0; simp at hne
      · exact h0
    have h0 := (hf 0 hpos).1
    rw [Nat.zero_mul] at h0
    obtain ⟨_, hadd⟩ := add_plain h0
    refine ⟨a.block, a.off, ?_, ?_, fun i hi => ?_⟩
    · have := World.cell?_spot h0
      obtain ⟨b, off, spot⟩ := a
      have hspot : spot = none := by simpa [Addr.add] using this
      subst hspot
      rfl
    · have := World.block_lt_of_cell? W _ h0
      rw [hadd 0] at this
      exact this
    · have hi2 : i < len := by rw [hlen] at hi; exact hi
      obtain ⟨c0, c1⟩ := hf i hi2
      rw [hadd] at c0 c1
      have he : ((List.range len).map f)[i] = f i := by simp
      rw [he]
      exact ⟨c0, c1⟩
set_option maxRecDepth 100000 in
theorem atts_in {H : Type} {enc : TypeId × Value → H} {W : World} {v : Value} {d : DataW H} {p : List MemPlace} {base : Nat}
    (hv : Value.okWide Tryd.prog W .any base 23 v) (h : DataW.Trod enc Tryd.prog W 0 (fun _ => true) true 23 v d p) : ∃ hs : List At, AttIn W v hs := by
  obtain ⟨a0, len, cap, rfl⟩ := okWide_slice Tryd.underlying23 hv
  obtain ⟨fuel, hf⟩ := h
  have hf' : DataW.trod enc Tryd.prog W 0 (fun _ => true) true fuel 23 [.slice a0 len cap] = some (d, p) := hf
  exact atts_of_trod hf'
end
end Go.Proofs.YteeplfbaflldaaaDoor.T10
