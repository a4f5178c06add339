/- Arguments that are slices of texts, as the walks want them. -/
import Derived.Test.YtgaeecphohlmpabDoorArgs
import Derived.SliceStrings
set_option linter.unusedVariables false
namespace Go.Proofs.YtgaeecphohlmpabDoor
open Go.ChangeShapes Go.WideShapes Go.ChangeAt Go.RowKit Go.Deep

theorem strings_in {H : Type} {enc : TypeId × Value → H} {W : World} {t e : TypeId} {v : Value} {d : DataW H} {p : List MemPlace} {base : Nat} (ht : Tryd.prog.underlying t = some (.slice e)) (he : Tryd.prog.underlying e = some .string) (hc : Tryd.prog.cellsOf e = 1)
    (hv : Value.okWide Tryd.prog W .any base t v) (h : DataW.Trod enc Tryd.prog W 0 (fun _ => true) true t v d p) :
    ∃ zs : List ByteArray, SliceIn W v (zs.map Value.string) ∧ ∀ z ∈ zs, z.size ≤ maxLen := by
  obtain ⟨a0, len, cap, rfl⟩ := okWide_slice ht hv
  obtain ⟨fuel, hf⟩ := h
  have hf' : DataW.trod enc Tryd.prog W 0 (fun _ => true) true fuel t [.slice a0 len cap] = some (d, p) := hf
  rcases open_strings ht he hc hf' with ⟨hcs, hx⟩ | ⟨a, len', cap', zs, hcs, _, hl, hm, hz, hx, hcell, hwz⟩
  · simp only [List.cons.injEq, Value.slice.injEq, and_true] at hcs
    obtain ⟨rfl, rfl, rfl⟩ := hcs
    exact ⟨[], ⟨none, 0, rfl, Nat.le_refl _, by simp, fun hne => absurd rfl hne⟩, fun z hz => by simp at hz⟩
  · simp only [List.cons.injEq, Value.slice.injEq, and_true] at hcs
    obtain ⟨rfl, rfl, rfl⟩ := hcs
    have hlen : (zs.take len).length = len := by
      rw [List.length_take, hz]; simp; omega
    refine ⟨zs.take len, ⟨some a, cap, by rw [List.length_map, hlen], by rw [List.length_map, hlen]; exact hl, hm, fun hne => ?_⟩, fun z hz' => hwz z (List.mem_of_mem_take hz')⟩
    have hpos : 0 < len := by
      rcases Nat.eq_zero_or_pos len with h0 | h0
      · subst h0; simp at hne
      · exact h0
    have hz0 : 0 < zs.length := by rw [hz]; simp; omega
    have h0 := hcell 0 hz0
    obtain ⟨_, hadd⟩ := add_plain h0
    refine ⟨a.block, a.off, ?_, ?_, fun i hi => ?_⟩
    · have := World.cell?_spot h0
      obtain ⟨b, off, spot⟩ := a
      have hspot : spot = none := by simpa [Addr.add] using this
      subst hspot
      rfl
    · have := World.block_lt_of_cell? W _ h0
      rw [hadd 0] at this
      exact this
    · have hi2 : i < len := by rw [List.length_map, hlen] at hi; exact hi
      have := hcell i (by rw [hz]; simp; omega)
      rw [hadd i] at this
      rw [this]
      simp [List.getD, show i < zs.length by rw [hz]; simp; omega]
end Go.Proofs.YtgaeecphohlmpabDoor
