/- Lines of texts that are put one behind the other. Of no program. -/
import Derived.Test.YtfbmabbehiicmaaDoorLin
set_option linter.unusedVariables false
namespace Go.Proofs.YtfbmabbehiicmaaDoor

/-- Does a return stand at the end? -/
def lastCR (p : Bool) : List UInt8 → Bool
  | [] => p
  | c :: r => lastCR (c == 13) r
theorem linesU_app : ∀ (p : Bool) (a b : List UInt8), linesU p (a ++ b) = linesU p a ++ linesU (lastCR p a) b
  | p, [], b => by simp [linesU, lastCR]
  | p, c :: a, b => by
    rw [List.cons_append, linesU, linesU, lastCR]
    by_cases h : c = 13
    · rw [if_pos h, if_pos h, linesU_app true a b, h]
      rfl
    · rw [if_neg h, if_neg h, show (c == 13) = false by simpa using h]
      split
      · rw [linesU_app false a b]
      · rw [linesU_app false a b]; rfl
theorem lastCR_app : ∀ (p : Bool) (a b : List UInt8), lastCR p (a ++ b) = lastCR (lastCR p a) b
  | p, [], b => rfl
  | p, c :: a, b => by rw [List.cons_append, lastCR, lastCR, lastCR_app]
def keepB (c : UInt8) : Bool := c != 10 && c != 13
theorem linesU_plain : ∀ (p : Bool) (t : List UInt8), (∀ c ∈ t, keepB c = true) → linesU p t = t ∧ lastCR p t = (if t = [] then p else false)
  | p, [], _ => by simp [linesU, lastCR]
  | p, c :: t, h => by
    have hc := h c (by simp)
    unfold keepB at hc
    simp at hc
    have ih := linesU_plain false t (fun c hc => h c (by simp [hc]))
    rw [linesU, if_neg hc.2, if_neg (fun e => hc.1 e.1), ih.1, lastCR, show (c == 13) = false by simpa using hc.2, ih.2]
    simp
/-- No return in it: it is its own lines. -/
def noCR (l : List UInt8) : Prop := ∀ c ∈ l, c ≠ 13
theorem linesU_self : ∀ (l : List UInt8), noCR l → linesU false l = l
  | [], _ => rfl
  | c :: l, h => by
    have hc := h c (by simp)
    rw [linesU, if_neg hc, if_neg (fun e => by cases e.2), linesU_self l (fun c hc => h c (by simp [hc]))]
def LineSt (S W : List UInt8) : Prop := linesU false S = W ∧ noCR W ∧ S.length ≤ 2 * W.length
theorem LineSt.start : LineSt [] [] := ⟨rfl, fun c h => (List.not_mem_nil h).elim, Nat.le_refl _⟩
theorem LineSt.add {S W : List UInt8} (h : LineSt S W) {t : List UInt8} (ht : ∀ c ∈ t, keepB c = true) {E : List UInt8} (hE : E = [13, 10] ∨ E = [13] ∨ (E = [10] ∧ (t = [] → lastCR false S = false))) : LineSt (S ++ t ++ E) (W ++ t ++ [10]) := by
  have hp := linesU_plain (lastCR false S) t ht
  refine ⟨?_, ?_, ?_⟩
  · rw [linesU_app, linesU_app, h.1, lastCR_app, hp.1, hp.2]
    congr 1
    rcases hE with rfl | rfl | ⟨rfl, hl⟩
    · simp [linesU]
    · simp [linesU]
    · have hq : (if t = [] then lastCR false S else false) = false := by
        split
        · rename_i h0; exact hl h0
        · rfl
      rw [hq]
      simp [linesU]
  · intro c hc
    rw [List.mem_append, List.mem_append] at hc
    rcases hc with (hc | hc) | hc
    · exact h.2.1 c hc
    · have := ht c hc
      unfold keepB at this
      simp at this
      exact this.2
    · simp at hc
      rw [hc]
      decide
  · have hl := h.2.2
    rcases hE with rfl | rfl | ⟨rfl, _⟩ <;> simp <;> omega
theorem lastCR_snoc (p : Bool) (a : List UInt8) (c : UInt8) : lastCR p (a ++ [c]) = (c == 13) := by
  rw [lastCR_app]; rfl
theorem filter_keep (l : List UInt8) : ∀ c ∈ l.filter keepB, keepB c = true := fun c hc => (List.mem_filter.1 hc).2
end Go.Proofs.YtfbmabbehiicmaaDoor
