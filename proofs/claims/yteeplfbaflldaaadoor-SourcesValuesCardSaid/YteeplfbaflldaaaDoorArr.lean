/- Whole arrays in blocks: read, written, handed back. Of no program. -/
import Derived.Test.YteeplfbaflldaaaDoorBytes
import Derived.Laws.Rows
import Derived.Deep.MidRow
import Derived.Below
set_option linter.unusedVariables false
set_option linter.unusedSimpArgs false
namespace Go.Proofs.YteeplfbaflldaaaDoor
open Go.RowKit

theorem heap_setA {w : World} {g : Nat} {cur : Array Value} {e : TypeId} {fz : Nat × Nat} (hh : w.heap[g]? = some (.cells cur e fz)) (k : Nat) (u : Value) : (w.setCell ⟨g, k, none⟩ u).heap[g]? = some (.cells (cur.setIfInBounds k u) e fz) := by
  unfold World.setCell; simp [Array.getElem?_modify, hh]
def setFrom (cur : Array Value) : Nat → List Value → Array Value
  | _, [] => cur
  | o, v :: vs => setFrom (cur.setIfInBounds o v) (o + 1) vs
theorem setFrom_full : ∀ (vs : List Value) (o : Nat) (cur : Array Value), cur.size = o + vs.length → (setFrom cur o vs).toList = cur.toList.take o ++ vs
  | [], o, cur, h => by
    simp at h
    simp [setFrom, ← h, ← Array.length_toList]
  | v :: vs, o, cur, h => by
    simp at h
    rw [setFrom, setFrom_full vs (o + 1) _ (by simp; omega)]
    have hlt : o < cur.toList.length := by rw [Array.length_toList]; omega
    rw [Array.toList_setIfInBounds, List.take_add_one, List.getElem?_set_self hlt, List.take_set_of_le (Nat.le_refl _)]
    simp
theorem heap_setCells {g : Nat} {e : TypeId} {fz : Nat × Nat} : ∀ (vs : List Value) (o : Nat) (w : World) (cur : Array Value), w.heap[g]? = some (.cells cur e fz) → (w.setCells g o vs).heap[g]? = some (.cells (setFrom cur o vs) e fz)
  | [], _, _, _, h => h
  | v :: vs, o, w, cur, h => heap_setCells vs (o + 1) _ _ (heap_setA h o v)
theorem heap_setAll {w : World} {g : Nat} {e : TypeId} {fz : Nat × Nat} {cur : Array Value} (h : w.heap[g]? = some (.cells cur e fz)) (vs : List Value) (hl : cur.size = vs.length) : (w.setCells g 0 vs).heap[g]? = some (.cells vs.toArray e fz) := by
  rw [heap_setCells vs 0 w cur h]
  have := setFrom_full vs 0 cur (by omega)
  simp at this
  have e : setFrom cur 0 vs = vs.toArray := Array.ext' (by rw [this])
  rw [e]
theorem below_setCells {B g : Nat} {w0 : World} : ∀ (vs : List Value) (o : Nat) (w : World), Below B w0 w → B ≤ g → Below B w0 (w.setCells g o vs)
  | [], _, _, h, _ => h
  | v :: vs, o, w, h, hg => below_setCells vs (o + 1) _ (h.setCell (by exact hg) v) hg
theorem size_setCells {g : Nat} : ∀ (vs : List Value) (o : Nat) (w : World), (w.setCells g o vs).heap.size = w.heap.size
  | [], _, _ => rfl
  | v :: vs, o, w => by rw [World.setCells, size_setCells vs]; simp [World.setCell]
theorem heap_setCells_ne {g j : Nat} (h : j ≠ g) : ∀ (vs : List Value) (o : Nat) (w : World), (w.setCells g o vs).heap[j]? = w.heap[j]?
  | [], _, _ => rfl
  | v :: vs, o, w => by rw [World.setCells, heap_setCells_ne h vs]; exact Below.heap_setCell w ⟨g, o, none⟩ v j (by show j ≠ g; exact h)
theorem there_of {w : World} {g : Nat} {e : TypeId} {cur : Array Value} (h : w.heap[g]? = some (.cells cur e (0, 0))) : w.there g 0 cur.size := by
  intro j hj
  rw [Nat.zero_add]
  refine ⟨?_, Lib.frozen_of_heap h j⟩
  rw [Lib.cell_of_heap h, Array.getElem?_eq_getElem hj]
  rfl
end Go.Proofs.YteeplfbaflldaaaDoor
