/- Lines of a text, on lists of bytes. Of no program. -/
import Derived.Test.YteeplfbaflldaaaDoorShelf
import Derived.Lib.Replace
set_option linter.unusedVariables false
namespace Go.Proofs.YteeplfbaflldaaaDoor

theorem repl_hit (old new s : List UInt8) (h1 : old ≠ []) (h2 : (old == new) = false) : Lib.replaceAll (old ++ s) old new = new ++ Lib.replaceAll s old new := by
  have hi : Lib.index (old ++ s) old = ((0 : Nat) : Int) := Lib.index_first (Nat.zero_le _) (by unfold Lib.occAt; rw [List.drop_zero, List.isPrefixOf_iff_prefix]; exact List.prefix_append _ _) (fun j h => absurd h (Nat.not_lt_zero _))
  unfold Lib.replaceAll Lib.replace
  rw [h2]
  simp only [Bool.false_eq_true, if_false, Lib.replaceNum]
  rw [if_pos (.inl (by decide)), if_pos (.inl (by decide)), Lib.count_hit h1 hi, Nat.add_comm, Lib.replaceK_hit _ _ _ _ 0 hi]
  simp
theorem repl_nil (old new : List UInt8) (h1 : old ≠ []) (h2 : (old == new) = false) : Lib.replaceAll [] old new = [] := by
  have hi : Lib.index [] old = -1 := by
    unfold Lib.index
    cases old with
    | nil => exact absurd rfl h1
    | cons a b => rfl
  unfold Lib.replaceAll Lib.replace
  rw [h2]
  simp only [Bool.false_eq_true, if_false, Lib.replaceNum]
  rw [if_pos (.inl (by decide)), Lib.count_miss hi]
  rfl
theorem repl_miss (old new : List UInt8) (c : UInt8) (s : List UInt8) (h1 : old ≠ []) (h2 : (old == new) = false) (h3 : old.isPrefixOf (c :: s) = false) : Lib.replaceAll (c :: s) old new = c :: Lib.replaceAll s old new := by
  unfold Lib.replaceAll Lib.replace
  rw [h2]
  simp only [Bool.false_eq_true, if_false, Lib.replaceNum]
  rw [if_pos (.inl (by decide)), if_pos (.inl (by decide))]
  have hidx : Lib.index (c :: s) old = if Lib.index s old == -1 then -1 else Lib.index s old + 1 := by
    rw [Lib.index, if_neg (by rw [h3]; simp)]
  by_cases hm : Lib.index s old = -1
  · rw [Lib.count_miss (s := s) hm, Lib.count_miss (s := c :: s) (by rw [hidx, hm]; rfl)]
    rfl
  · have hge := Lib.index_ge s old
    obtain ⟨i, hi⟩ : ∃ i : Nat, Lib.index s old = i := ⟨(Lib.index s old).toNat, by omega⟩
    have hi2 : Lib.index (c :: s) old = ((i + 1 : Nat) : Int) := by
      rw [hidx, if_neg (by simp; exact hm), hi]
      rfl
    rw [Lib.count_hit h1 hi, Lib.count_hit h1 hi2]
    have e : i + 1 + old.length = (i + old.length) + 1 := by omega
    rw [e, List.drop_succ_cons, Nat.add_comm 1, Lib.replaceK_hit _ _ _ _ _ hi2, Lib.replaceK_hit _ _ _ _ _ hi, e, List.drop_succ_cons]
    simp

/-- A line feed for each return, and for each pair of both; p: a return stands ahead. -/
def linesU : Bool → List UInt8 → List UInt8
  | _, [] => []
  | p, c :: r => if c = 13 then 10 :: linesU true r else if c = 10 ∧ p = true then linesU false r else c :: linesU false r
def crlf (l : List UInt8) : List UInt8 := Lib.replaceAll l [13, 10] [10]
def crs (l : List UInt8) : List UInt8 := Lib.replaceAll l [13] [10]
theorem crs_nil : crs [] = [] := repl_nil _ _ (by simp) (by decide)
theorem crlf_nil : crlf [] = [] := repl_nil _ _ (by simp) (by decide)
theorem crs_cr (r : List UInt8) : crs (13 :: r) = 10 :: crs r := repl_hit [13] [10] r (by simp) (by decide)
theorem crs_other (c : UInt8) (r : List UInt8) (h : c ≠ 13) : crs (c :: r) = c :: crs r := repl_miss _ _ _ _ (by simp) (by decide) (by simp [List.isPrefixOf]; exact fun e => h e.symm)
theorem crlf_pair (r : List UInt8) : crlf (13 :: 10 :: r) = 10 :: crlf r := repl_hit [13, 10] [10] r (by simp) (by decide)
theorem crlf_other (c : UInt8) (r : List UInt8) (h : c ≠ 13 ∨ r.head? ≠ some 10) : crlf (c :: r) = c :: crlf r := by
  refine repl_miss _ _ _ _ (by simp) (by decide) ?_
  cases r with
  | nil => simp [List.isPrefixOf]
  | cons d r =>
    simp [List.isPrefixOf] at h ⊢
    intro e1 e2
    rcases h with h | h
    · exact h e1.symm
    · exact h e2.symm
theorem lines_both (l : List UInt8) : crs (crlf l) = linesU false l ∧ (l.head? ≠ some 10 → linesU true l = linesU false l) := by
  suffices h : ∀ n (l : List UInt8), l.length ≤ n → crs (crlf l) = linesU false l from ⟨h _ l (Nat.le_refl _), fun h => by
    cases l with
    | nil => rfl
    | cons c r =>
      have hc : c ≠ 10 := by simpa using h
      simp [linesU, hc]⟩
  intro n
  induction n with
  | zero => intro l h; have : l = [] := List.eq_nil_of_length_eq_zero (by omega); subst this; rw [crlf_nil, crs_nil]; rfl
  | succ n ih =>
    intro l h
    match l, h with
    | [], _ => rw [crlf_nil, crs_nil]; rfl
    | c :: r, h =>
      by_cases hc : c = 13
      · subst hc
        match r, h with
        | [], _ => rw [crlf_other _ _ (.inr (by simp)), crlf_nil, crs_cr, crs_nil]; rfl
        | d :: r, h =>
          by_cases hd : d = 10
          · subst hd
            rw [crlf_pair, crs_other _ _ (by decide), ih r (by simp at h; omega)]
            simp [linesU]
          · rw [crlf_other _ _ (.inr (by simpa using hd)), crs_cr, ih (d :: r) (by simp at h ⊢; omega)]
            simp [linesU, hd]
      · rw [crlf_other _ _ (.inl hc), crs_other _ _ hc, ih r (by simp at h; omega)]
        simp [linesU, hc]
theorem lines_eq (l : List UInt8) : crs (crlf l) = linesU false l := (lines_both l).1
theorem linesU_len : ∀ (p : Bool) (l : List UInt8), (linesU p l).length ≤ l.length
  | p, [] => by simp [linesU]
  | p, c :: r => by
    unfold linesU
    have h1 := linesU_len true r
    have h2 := linesU_len false r
    split
    · simp; omega
    · split <;> simp <;> omega
theorem crlf_len (l : List UInt8) : (crlf l).length ≤ l.length := by
  suffices h : ∀ n (l : List UInt8), l.length ≤ n → (crlf l).length ≤ l.length from h _ l (Nat.le_refl _)
  intro n
  induction n with
  | zero => intro l h; have : l = [] := List.eq_nil_of_length_eq_zero (by omega); subst this; rw [crlf_nil]; exact Nat.le_refl _
  | succ n ih =>
    intro l h
    match l, h with
    | [], _ => rw [crlf_nil]; exact Nat.le_refl _
    | c :: r, h =>
      by_cases hc : c ≠ 13 ∨ r.head? ≠ some 10
      · rw [crlf_other _ _ hc]
        have := ih r (by simp at h; omega)
        simp; omega
      · simp at hc
        obtain ⟨rfl, hr⟩ := hc
        match r, hr, h with
        | [], hr, _ => cases hr
        | d :: r, hr, h =>
          have hd : d = 10 := by simpa using hr
          subst hd
          rw [crlf_pair]
          have := ih r (by simp at h; omega)
          simp; omega
end Go.Proofs.YteeplfbaflldaaaDoor
