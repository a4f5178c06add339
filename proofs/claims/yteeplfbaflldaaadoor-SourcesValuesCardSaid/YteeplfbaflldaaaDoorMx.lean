/- The cell of internal/bytealg.MaxLen; what draws leave as it is; a list of texts written out. -/
import Derived.Test.YteeplfbaflldaaaDoorLz
set_option linter.unusedVariables false
namespace Go.Proofs.YteeplfbaflldaaaDoor
open Go.RowKit

theorem below_drewN {B : Nat} {a w : World} (h : Below B a w) (n : Nat) : Below B a (w.drewN n) := ⟨h.os, h.tape, h.output, h.size, h.block⟩
theorem owns_drewN {w : World} {B : Nat} {e : TypeId} {size : Nat} {v : Value} {n : Nat} {xs : List Value} (h : w.ownsRow B e size v n xs) (k : Nat) : (w.drewN k).ownsRow B e size v n xs := h

theorem str_eq {a b : List UInt8} (h : a = b) : Ending.returned (.string ⟨a.toArray⟩) = .returned (.string ⟨b.toArray⟩) := by rw [h]

/-- The cell of internal/bytealg.MaxLen, whatever it holds. -/
def MaxOk (m : Int) (w : World) : Prop := w.cell? ⟨2, 0, none⟩ = some (.int .i64 m)
theorem MaxOk.below {m : Int} {w w' : World} (h : MaxOk m w) (hb : Below w.heap.size w w') : MaxOk m w' := by
  have hl := World.block_lt_of_cell? w _ h
  exact (hb.cell (p := ⟨2, 0, none⟩) hl).trans h

/-- A list of texts written out. -/
theorem lit_owns (w : World) (l : List (List UInt8)) (h : l.length ≤ 1099511627776) : (w.alloc (.cells (strCells l).toArray 9)).ownsRow w.heap.size 9 1 (.slice (some ⟨w.heap.size, 0, none⟩) l.length l.length) l.length (strCells l) := by
  refine ⟨by simp [strCells], .inr ⟨w.heap.size, l.length, (strCells l).toArray, rfl, Nat.le_refl _, heap_alloc_new w _, Nat.le_refl _, by unfold maxLen; omega, by simp [strCells], ?_⟩⟩
  simp only [Nat.mul_one]
  rw [List.take_of_length_le (by simp [strCells])]

end Go.Proofs.YteeplfbaflldaaaDoor
