/- What is true of fields and commas of lists of bytes. No program. -/
import Derived.Test.YtgaeecphohlmpabDoorLists3
namespace Go.Proofs.YtgaeecphohlmpabDoor

def noSp (l : List UInt8) : Prop := ∀ x ∈ l, isSp x = false
theorem fRun_append (a b : List UInt8) : fRun (a ++ b) = b.foldl fStep (fRun a) := by simp [fRun]
theorem fFold_word (f : List UInt8) (h : noSp f) : ∀ st, f.foldl fStep st = (st.1, st.2 ++ f) := by
  induction f with
  | nil => intro st; simp
  | cons x r ih =>
    intro st
    have hx : isSp x = false := h x (by simp)
    rw [List.foldl_cons, ih fun y hy => h y (by simp [hy])]
    simp [fStep, hx]
theorem fFold_sp (x : UInt8) (h : isSp x = true) (out : List (List UInt8)) (f : List UInt8) : fStep (out, f) x = (if f = [] then out else out ++ [f], []) := by
  simp [fStep, h]
/-- One field more, a space ahead of it and one behind. -/
theorem fRun_group {t f : List UInt8} {out : List (List UInt8)} {x y : UInt8} (ht : fRun t = (out, [])) (hx : isSp x = true) (hy : isSp y = true) (hf : noSp f) (hne : f ≠ []) :
    fRun (t ++ [x] ++ f ++ [y]) = (out ++ [f], []) := by
  rw [fRun_append, fRun_append, fRun_append, ht]
  simp only [List.foldl_cons, List.foldl_nil]
  rw [fFold_sp x hx, fFold_word f hf]
  simp only [if_true, List.nil_append]
  rw [fFold_sp y hy, if_neg hne]
/-- Each field is a word, and not empty. -/
theorem fStep_words {st : List (List UInt8) × List UInt8} (x : UInt8) (h1 : ∀ f ∈ st.1, f ≠ [] ∧ noSp f) (h2 : noSp st.2) : (∀ f ∈ (fStep st x).1, f ≠ [] ∧ noSp f) ∧ noSp (fStep st x).2 := by
  unfold fStep
  by_cases hx : isSp x = true
  · rw [if_pos hx]
    by_cases h0 : st.2 = []
    · rw [if_pos h0]
      exact ⟨h1, fun y hy => by simp at hy⟩
    · rw [if_neg h0]
      refine ⟨fun f hf => ?_, fun y hy => by simp at hy⟩
      rcases List.mem_append.1 hf with hf | hf
      · exact h1 f hf
      · simp at hf; rw [hf]; exact ⟨h0, h2⟩
  · rw [if_neg hx]
    refine ⟨h1, fun y hy => ?_⟩
    rcases List.mem_append.1 hy with hy | hy
    · exact h2 y hy
    · simp at hy; rw [hy]; simpa using hx
theorem fFold_words (l : List UInt8) : ∀ st : List (List UInt8) × List UInt8, (∀ f ∈ st.1, f ≠ [] ∧ noSp f) → noSp st.2 → (∀ f ∈ (l.foldl fStep st).1, f ≠ [] ∧ noSp f) ∧ noSp (l.foldl fStep st).2 := by
  induction l with
  | nil => intro st h1 h2; exact ⟨h1, h2⟩
  | cons x r ih =>
    intro st h1 h2
    have h := fStep_words x h1 h2
    exact ih _ h.1 h.2
theorem fields_words (l : List UInt8) : ∀ f ∈ fieldsL l, f ≠ [] ∧ noSp f := by
  have h := fFold_words l ([], []) (fun f hf => by simp at hf) (fun y hy => by simp at hy)
  intro f hf
  unfold fieldsL fEnd at hf
  split at hf
  · exact h.1 f hf
  · rename_i hne
    rcases List.mem_append.1 hf with hf | hf
    · exact h.1 f hf
    · simp at hf; rw [hf]; exact ⟨hne, h.2⟩
theorem fieldsL_of {t : List UInt8} {out : List (List UInt8)} (h : fRun t = (out, [])) : fieldsL t = out := by
  unfold fieldsL; rw [h]; rfl

/-- Spaces at the front and at the end make no difference. -/
theorem fRun_front (l : List UInt8) : fRun (l.dropWhile isSp) = fRun l := by
  induction l with
  | nil => rfl
  | cons x r ih =>
    by_cases hx : isSp x = true
    · rw [List.dropWhile_cons_of_pos hx, ih]
      unfold fRun
      rw [List.foldl_cons]
      have : fStep ([], []) x = ([], []) := by simp [fStep, hx]
      rw [this]
    · rw [List.dropWhile_cons_of_neg hx]
theorem fields_end (l : List UInt8) (x : UInt8) (hx : isSp x = true) : fieldsL (l ++ [x]) = fieldsL l := by
  unfold fieldsL
  rw [fRun_snoc]
  have : fStep (fRun l) x = (fEnd (fRun l), []) := by simp [fStep, fEnd, hx]
  rw [this]
  rfl
theorem fields_rev (r : List UInt8) : fieldsL (r.dropWhile isSp).reverse = fieldsL r.reverse := by
  induction r with
  | nil => rfl
  | cons x r ih =>
    by_cases hx : isSp x = true
    · rw [List.dropWhile_cons_of_pos hx, ih, List.reverse_cons, fields_end _ _ hx]
    · rw [List.dropWhile_cons_of_neg hx]
theorem fields_strip (l : List UInt8) : fieldsL (stripL l) = fieldsL l := by
  unfold stripL
  rw [fields_rev, List.reverse_reverse]
  unfold fieldsL
  rw [fRun_front]
theorem fFold_bound (N : Nat) (l : List UInt8) : ∀ st : List (List UInt8) × List UInt8, (∀ f ∈ st.1, f.length ≤ N) → st.2.length + l.length ≤ N → (∀ f ∈ (l.foldl fStep st).1, f.length ≤ N) ∧ (l.foldl fStep st).2.length ≤ N := by
  induction l with
  | nil => intro st h1 h2; exact ⟨h1, by simpa using h2⟩
  | cons x r ih =>
    intro st h1 h2
    rw [List.foldl_cons]
    simp only [List.length_cons] at h2
    refine ih _ ?_ ?_
    · unfold fStep
      split
      · split
        · exact h1
        · intro f hf
          rcases List.mem_append.1 hf with hf | hf
          · exact h1 f hf
          · simp at hf; rw [hf]; omega
      · exact h1
    · unfold fStep
      split
      · simp; omega
      · simp; omega
theorem field_len {l f : List UInt8} (h : f ∈ fieldsL l) : f.length ≤ l.length := by
  have hb := fFold_bound l.length l ([], []) (fun f hf => by simp at hf) (by simp)
  unfold fieldsL fEnd at h
  split at h
  · exact hb.1 f h
  · rcases List.mem_append.1 h with h | h
    · exact hb.1 f h
    · simp at h; rw [h]; exact hb.2
/-- The five spaces. -/
def spaces5 : List UInt8 := [9, 10, 12, 13, 32]
theorem spaces5_at : ∀ g : Fin 5, isSp (spaces5[g.val]'(g.isLt)) = true := by decide
/-- A text put together out of fields, by which gaps. -/
def gapT (gs : List Nat) : List (List UInt8) → List UInt8 → List UInt8
  | [], t => t
  | f :: fs, t => gapT gs.tail fs (t ++ [spaces5.getD (gs.headD 0) 9] ++ f ++ [spaces5.getD (4 - gs.headD 0) 9])
end Go.Proofs.YtgaeecphohlmpabDoor
