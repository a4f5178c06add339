/- The law RefsNames. -/
import Derived.Test.YtbpdmbmooboimaaDoorNms2
set_option linter.unusedVariables false
set_option linter.unusedSimpArgs false
namespace Go.Proofs.YtbpdmbmooboimaaDoor.R9
open Go.RowKit

theorem namesC_at : ∀ (t : List (List UInt8 × List UInt8 × Bool)) (i : Nat) (h : i < t.length), (namesC t)[i * 3]? = some (.string ⟨t[i].1.toArray⟩) ∧ (namesC t)[i * 3 + 1]? = some (.string ⟨t[i].2.1.toArray⟩) ∧ (namesC t)[i * 3 + 2]? = some (.bool t[i].2.2)
  | [], i, h => by cases h
  | x :: r, 0, h => ⟨rfl, rfl, rfl⟩
  | x :: r, i + 1, h => by
    have h' : i < r.length := by simpa using h
    obtain ⟨a, b, c⟩ := namesC_at r i h'
    have e : namesC (x :: r) = [.string ⟨x.1.toArray⟩, .string ⟨x.2.1.toArray⟩, .bool x.2.2] ++ namesC r := rfl
    rw [e]
    have f : ∀ j, ([Value.string ⟨x.1.toArray⟩, .string ⟨x.2.1.toArray⟩, .bool x.2.2] ++ namesC r)[3 + j]? = (namesC r)[j]? := fun j => by rw [List.getElem?_append_right (by simp)]; simp
    rw [show (i + 1) * 3 = 3 + i * 3 by omega, show 3 + i * 3 + 1 = 3 + (i * 3 + 1) by omega, show 3 + i * 3 + 2 = 3 + (i * 3 + 2) by omega, f, f, f]
    exact ⟨a, b, c⟩

end Go.Proofs.YtbpdmbmooboimaaDoor.R9
