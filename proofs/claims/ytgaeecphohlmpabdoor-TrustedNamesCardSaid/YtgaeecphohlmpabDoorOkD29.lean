/- Of a text's policy: it is small; and the law TrustedMore's calls. -/
import Derived.Test.YtgaeecphohlmpabDoorTyp29
set_option linter.unusedVariables false
namespace Go.Proofs.YtgaeecphohlmpabDoor
open Go.RowKit

theorem addD_ok {acc : List Dir} {p : List UInt8} {N : Nat} (h : ∀ d ∈ acc, d.2.length ≤ N ∧ ∀ x ∈ d.2, x.length ≤ N) (hp : p.length + 1 ≤ N) : ∀ d ∈ addD acc p, d.2.length ≤ N ∧ ∀ x ∈ d.2, x.length ≤ N := by
  have hl := fieldsL_len p
  have hf := fun f => field_len (l := p) (f := f)
  unfold addD
  split
  · exact h
  · rename_i x ws e
    rw [e] at hl hf
    simp at hl
    split
    · exact h
    · intro d hd
      simp only [List.mem_append, List.mem_cons, List.not_mem_nil, or_false] at hd
      rcases hd with hd | rfl
      · exact h d hd
      · refine ⟨by show ws.length ≤ N; omega, fun y hy => ?_⟩
        have := hf y (List.mem_cons_of_mem _ hy)
        omega
theorem foldD_ok {N : Nat} : ∀ (ps : List (List UInt8)) (acc : List Dir), (∀ d ∈ acc, d.2.length ≤ N ∧ ∀ x ∈ d.2, x.length ≤ N) → (∀ p ∈ ps, p.length + 1 ≤ N) → ∀ d ∈ ps.foldl addD acc, d.2.length ≤ N ∧ ∀ x ∈ d.2, x.length ≤ N
  | [], acc, h, _ => h
  | p :: ps, acc, h, hp => foldD_ok ps (addD acc p) (addD_ok h (hp p (by simp))) fun q hq => hp q (by simp [hq])
theorem foldD_len : ∀ (ps : List (List UInt8)) (acc : List Dir), (ps.foldl addD acc).length ≤ acc.length + ps.length
  | [], acc => by simp
  | p :: ps, acc => by
    have h1 := foldD_len ps (addD acc p)
    have h2 := addD_len acc p
    simp only [List.foldl_cons, List.length_cons]
    omega
theorem oneL_len (s : List UInt8) : (oneL s).length ≤ s.length + 1 := by
  have h1 := foldD_len (spl 59 s) []
  have h2 := spl_len 59 s
  unfold oneL
  simp at h1
  omega
theorem oneL_ok {s : List UInt8} (h : s.length + 1 ≤ 1099511627776) : OkDs (oneL s) :=
  ⟨Nat.le_trans (oneL_len s) h, foldD_ok _ _ (by simp) fun p hp => by have := spl_mem hp; omega⟩
end Go.Proofs.YtgaeecphohlmpabDoor
