/- What '[]byte(s)' lays: a block of bytes, read, stored to, and made a text again. Of no program. -/
import Derived.Test.YteeplfbaflldaaaDoorLz
set_option linter.unusedVariables false
namespace Go.Proofs.YteeplfbaflldaaaDoor
open Go.RowKit

theorem alloc_size (w : World) (o : Obj) : (w.alloc o).heap.size = w.heap.size + 1 := by
  show (w.heap.push o).size = _
  rw [Array.size_push]

/-- The block's first cells are these bytes. -/
def Blk (w : World) (g : Nat) (e : TypeId) (l : List UInt8) : Prop :=
  ∃ cs : Array Value, w.heap[g]? = some (.cells cs e (cs.size, cs.size + 1)) ∧ l.length ≤ cs.size ∧ ∀ (k : Nat) (b : UInt8), l[k]? = some b → cs[k]? = some (Value.int .u8 (b.toNat : Int))
theorem Blk.lt {w : World} {g : Nat} {e : TypeId} {l : List UInt8} (h : Blk w g e l) : g < w.heap.size := by
  obtain ⟨cs, h1, _⟩ := h
  exact (Array.getElem?_eq_some_iff.1 h1).1
theorem Blk.cell {w : World} {g : Nat} {e : TypeId} {l : List UInt8} (h : Blk w g e l) {k : Nat} {b : UInt8} (hb : l[k]? = some b) : w.cell? ⟨g, k, none⟩ = some (Value.int .u8 (b.toNat : Int)) := by
  obtain ⟨cs, h1, h2, h3⟩ := h
  rw [Lib.cell_of_heap h1]
  exact h3 k b hb
theorem Blk.free {w : World} {g : Nat} {e : TypeId} {l : List UInt8} (h : Blk w g e l) {k : Nat} (hk : k < l.length) : w.frozen? ⟨g, k, none⟩ = false := by
  obtain ⟨cs, h1, h2, h3⟩ := h
  unfold World.frozen?
  rw [h1]
  simp
  omega
theorem Blk.set {w : World} {g : Nat} {e : TypeId} {l : List UInt8} (h : Blk w g e l) {k : Nat} (b : UInt8) : Blk (w.setCell ⟨g, k, none⟩ (.int .u8 (b.toNat : Int))) g e (l.set k b) := by
  obtain ⟨cs, h1, h2, h3⟩ := h
  have hlt := (Array.getElem?_eq_some_iff.1 h1).1
  have heq := (Array.getElem?_eq_some_iff.1 h1).2
  refine ⟨cs.setIfInBounds k (.int .u8 (b.toNat : Int)), ?_, ?_, ?_⟩
  · unfold World.setCell
    simp [Array.getElem?_modify, h1]
  · simpa using h2
  · intro j c hj
    rw [List.getElem?_set] at hj
    by_cases hkj : k = j
    · subst hkj
      rw [if_pos rfl] at hj
      split at hj
      · cases hj
        rw [Array.getElem?_setIfInBounds_self]
        simp
        omega
      · cases hj
    · rw [if_neg hkj] at hj
      rw [Array.getElem?_setIfInBounds_ne hkj]
      exact h3 j c hj
theorem Blk.below {w w' : World} {g : Nat} {e : TypeId} {l : List UInt8} (h : Blk w g e l) (hb : Below w.heap.size w w') : Blk w' g e l := by
  have hl := h.lt
  obtain ⟨cs, h1, h2, h3⟩ := h
  exact ⟨cs, (hb.block g hl).trans h1, h2, h3⟩
theorem Blk.text {P : Program} {w : World} {g : Nat} {e : TypeId} {l : List UInt8} (h : Blk w g e l) (cap : Nat) {src dst : TypeId} (hs : P.underlying src = some (.slice e)) (he : P.underlying e = some (.int .u8)) (hd : P.underlying dst = some .string) :
    (convert src dst (.slice (some ⟨g, 0, none⟩) l.length cap)).run P w = .ok (.string ⟨l.toArray⟩) w := by
  refine run_convert_bytes_back w src dst e ⟨g, 0, none⟩ cap l hs he hd fun j hj => ?_
  have := h.cell (k := j) (b := l[j]) (by simp [hj])
  have hadd : (⟨g, 0, none⟩ : Addr).add j = ⟨g, j, none⟩ := by unfold Addr.add; split <;> simp_all
  rw [hadd]; exact this

/-- '[]byte(s)'. -/
theorem bytes_blk {P : Program} (w : World) (src dst e : TypeId) (s : ByteArray) (hs : P.underlying src = some .string) (hd : P.underlying dst = some (.slice e)) (he : P.underlying e = some (.int .u8)) :
    ∃ cap w1, (convert src dst (.string s)).run P w = .ok (.slice (some ⟨w.heap.size, 0, none⟩) s.size cap) w1 ∧ Blk w1 w.heap.size e s.data.toList ∧ Below w.heap.size w w1 ∧ w1.heap.size = w.heap.size + 1 := by
  refine ⟨_, _, run_bytes_of_string w src dst e s hs hd he, ?_, ?_, ?_⟩
  · refine ⟨bytesRow s (grownCap w s.size 0 e), ?_, ?_, ?_⟩
    · show (w.heap.push _)[w.heap.size]? = _
      rw [Array.getElem?_push_size]
    · unfold bytesRow
      simp
    · intro k b hb
      obtain ⟨hk, rfl⟩ := List.getElem?_eq_some_iff.1 hb
      have hk' : k < s.data.size := by simpa using hk
      rw [bytesRow_at s _ k hk']
      simp
  · exact ((Below.refl _ w).drew).alloc (Nat.le_refl _) _
  · show (w.heap.push _).size = _
    simp
end Go.Proofs.YteeplfbaflldaaaDoor
