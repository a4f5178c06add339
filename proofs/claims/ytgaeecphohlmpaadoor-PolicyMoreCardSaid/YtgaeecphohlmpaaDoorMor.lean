/- Plain functions for layer 28: what a directive more changes. -/
import Derived.Test.YtgaeecphohlmpaaDoorRef28
set_option linter.unusedVariables false
namespace Go.Proofs.YtgaeecphohlmpaaDoor
open Go.RowKit

theorem spl_more (d : UInt8) (a r : List UInt8) : spl d (a ++ d :: r) = spl d a ++ spl d r := by
  induction a with
  | nil => rw [List.nil_append, spl_cons, if_pos rfl]; rfl
  | cons x a ih =>
    rw [List.cons_append, spl_cons, spl_cons]
    split
    · rw [ih]; rfl
    · rw [ih]
      cases h : spl d a with
      | nil => exact absurd h (spl_ne d a)
      | cons y ys => rfl
theorem one_more (s t : List UInt8) (ht : (59 : UInt8) ∉ t) : oneL (s ++ 59 :: t) = addD (oneL s) t := by
  unfold oneL
  rw [spl_more, spl_none ht, List.foldl_append]
  rfl
theorem one_front (t s : List UInt8) (ht : (59 : UInt8) ∉ t) : oneL (t ++ 59 :: s) = (spl 59 s).foldl addD (addD [] t) := by
  unfold oneL
  rw [spl_more, spl_none ht, List.foldl_append]
  rfl
theorem fnd_addD {acc : List Dir} {p n : List UInt8} {d : Dir} (h : fndL acc n = some d) : fndL (addD acc p) n = some d := by
  unfold addD
  repeat' split
  · exact h
  · exact h
  · unfold fndL at *; rw [List.find?_append, h]; rfl
theorem fnd_foldD {n : List UInt8} {d : Dir} : ∀ (ps : List (List UInt8)) (acc : List Dir), fndL acc n = some d → fndL (ps.foldl addD acc) n = some d
  | [], acc, h => h
  | p :: ps, acc, h => fnd_foldD ps (addD acc p) (fnd_addD h)

/-- The name of what counts, of a chain. -/
def nm1 (ds : List Dir) (l : List (List UInt8)) : List UInt8 := ((firstL ds l).getD ([], [])).1
theorem named_nm1 {s : List UInt8} {k : Int} (h : effS k ≠ []) : namedL s k = nm1 (oneL s) (chainL (effS k)) := by
  unfold namedL cfL nm1
  rw [if_neg h]
theorem fnd_name {ds : List Dir} {n : List UInt8} {d : Dir} (h : fndL ds n = some d) : d.1 = n := by
  have := List.find?_some h
  simpa using this
theorem fnd_none {ds : List Dir} {n : List UInt8} : fndL ds n = none ↔ hasD ds n = false := by
  unfold fndL hasD
  rw [List.find?_eq_none, List.any_eq_false]
theorem nm1_hit {ds : List Dir} {n : List UInt8} {d : Dir} (l : List (List UInt8)) (h : fndL ds n = some d) : nm1 ds (n :: l) = n := by
  unfold nm1 firstL
  rw [h]
  exact fnd_name h
theorem nm1_miss {ds : List Dir} {n : List UInt8} (l : List (List UInt8)) (h : fndL ds n = none) : nm1 ds (n :: l) = nm1 ds l := by
  show ((match fndL ds n with | some d => some d | none => firstL ds l).getD ([], [])).1 = _
  rw [h]
  rfl
theorem nm1_or (ds : List Dir) : ∀ l : List (List UInt8), nm1 ds l = [] ∨ hasD ds (nm1 ds l) = true
  | [] => .inl rfl
  | n :: l => by
    cases h : fndL ds n with
    | none => rw [nm1_miss l h]; exact nm1_or ds l
    | some d =>
      rw [nm1_hit l h]
      right
      cases h2 : hasD ds n with
      | true => rfl
      | false => rw [fnd_none.2 h2] at h; cases h
theorem fnd_snoc {ds : List Dir} {m n : List UInt8} {v : List (List UInt8)} (h : fndL ds n = none) : fndL (ds ++ [(m, v)]) n = if m = n then some (m, v) else none := by
  unfold fndL at *
  rw [List.find?_append, h]
  by_cases e : m = n
  · subst e; simp
  · simp [e]
theorem more_new {ds : List Dir} {m : List UInt8} {v : List (List UInt8)} (hm : hasD ds m = false) : ∀ l : List (List UInt8), [] ∉ l → nm1 (ds ++ [(m, v)]) l = if l.idxOf m < l.idxOf (nm1 ds l) then m else nm1 ds l
  | [], _ => rfl
  | n :: l, hl => by
    have hl' : [] ∉ l := fun h => hl (List.mem_cons_of_mem _ h)
    have hn : n ≠ [] := fun e => hl (e ▸ List.mem_cons_self)
    cases h : fndL ds n with
    | some d =>
      have h2 : fndL (ds ++ [(m, v)]) n = some d := by unfold fndL at *; rw [List.find?_append, h]; rfl
      rw [nm1_hit l h, nm1_hit l h2]
      rw [show (n :: l).idxOf n = 0 by simp]
      simp
    | none =>
      rw [nm1_miss l h]
      have hne : nm1 ds l ≠ n := by
        intro e
        rcases nm1_or ds l with h3 | h3
        · rw [h3] at e; exact hn e.symm
        · rw [e, ← Bool.not_eq_false] at h3; exact h3 (fnd_none.1 h)
      have hi : (n :: l).idxOf (nm1 ds l) = l.idxOf (nm1 ds l) + 1 := by
        rw [List.idxOf_cons, show (n == nm1 ds l) = false by rw [beq_eq_false_iff_ne]; exact hne.symm]; rfl
      rw [hi]
      by_cases e : m = n
      · subst e
        rw [nm1_hit l (d := (m, v)) (by rw [fnd_snoc h, if_pos rfl]), show (m :: l).idxOf m = 0 by simp]
        simp
      · rw [nm1_miss l (by rw [fnd_snoc h, if_neg e]), more_new hm l hl']
        have : (n :: l).idxOf m = l.idxOf m + 1 := by rw [List.idxOf_cons, show (n == m) = false by rw [beq_eq_false_iff_ne]; exact Ne.symm e]; rfl
        rw [this]
        simp
theorem more_old {ds : List Dir} {m : List UInt8} (hm : hasD ds m = true) : ∀ l : List (List UInt8), l.idxOf (nm1 ds l) ≤ l.idxOf m
  | [] => by simp
  | n :: l => by
    cases h : fndL ds n with
    | some d => rw [nm1_hit l h, show (n :: l).idxOf n = 0 by simp]; omega
    | none =>
      have e : n ≠ m := by
        rintro rfl
        rw [fnd_none.1 h] at hm
        cases hm
      rw [nm1_miss l h]
      have : (n :: l).idxOf m = l.idxOf m + 1 := by rw [List.idxOf_cons, show (n == m) = false by rw [beq_eq_false_iff_ne]; exact e]; rfl
      have ih := more_old hm l
      by_cases e2 : n = nm1 ds l
      · rw [← e2, show (n :: l).idxOf n = 0 by simp]
        exact Nat.zero_le _
      · have h3 : (n :: l).idxOf (nm1 ds l) = l.idxOf (nm1 ds l) + 1 := by rw [List.idxOf_cons, show (n == nm1 ds l) = false by rw [beq_eq_false_iff_ne]; exact e2]; rfl
        rw [this, h3]
        omega
/-- A directive more. -/
theorem more_all (ds : List Dir) (m : List UInt8) (v : List (List UInt8)) (l : List (List UInt8)) (hl : [] ∉ l) : nm1 (if hasD ds m then ds else ds ++ [(m, v)]) l = if l.idxOf m < l.idxOf (nm1 ds l) then m else nm1 ds l := by
  cases hm : hasD ds m with
  | false => exact more_new hm l hl
  | true =>
    have := more_old hm l
    rw [if_neg (by omega : ¬ l.idxOf m < l.idxOf (nm1 ds l)), if_pos rfl]

theorem first_facts : ∀ r : Fin 16, effS (1 + (r.val : Int)) ≠ [] ∧ addD [] (effS (1 + (r.val : Int)) ++ [32, 120]) = [(effS (1 + (r.val : Int)), [[120]])] ∧ (59 : UInt8) ∉ effS (1 + (r.val : Int)) ∧ [] ∉ chainL (effS (1 + (r.val : Int))) ∧ (effS (1 + (r.val : Int))).length ≤ 20 ∧
    namedL ([100, 101, 102, 97, 117, 108, 116, 45, 115, 114, 99, 32, 121, 59, 32, 120, 45] ++ effS (1 + (r.val : Int))) (1 + (r.val : Int)) = (if r.val = 14 ∨ r.val = 15 then [] else dsN) := by decide +kernel
theorem named_first {k : Int} {n s : List UInt8} (hk : effS k = n) (h0 : n ≠ []) (h1 : addD [] (n ++ [32, 120]) = [(n, [[120]])]) (h2 : (59 : UInt8) ∉ n) : namedL ((n ++ [32, 120, 59]) ++ s) k = n := by
  rw [named_nm1 (by rw [hk]; exact h0), hk]
  have e : (n ++ [32, 120, 59]) ++ s = (n ++ [32, 120]) ++ 59 :: s := by simp
  rw [e, one_front _ _ (by simp [h2]), h1]
  exact nm1_hit _ (fnd_foldD _ _ (d := (n, [[120]])) (by simp [fndL]))

def moreN : List (List UInt8) := [[100, 101, 102, 97, 117, 108, 116, 45, 115, 114, 99], [115, 99, 114, 105, 112, 116, 45, 115, 114, 99], [115, 99, 114, 105, 112, 116, 45, 115, 114, 99, 45, 101, 108, 101, 109], [115, 99, 114, 105, 112, 116, 45, 115, 114, 99, 45, 97, 116, 116, 114], [115, 116, 121, 108, 101, 45, 115, 114, 99], [115, 116, 121, 108, 101, 45, 115, 114, 99, 45, 101, 108, 101, 109], [105, 109, 103, 45, 115, 114, 99], [99, 104, 105, 108, 100, 45, 115, 114, 99], [102, 114, 97, 109, 101, 45, 115, 114, 99], [120]]
theorem more_facts : ∀ r : Fin 10, fieldsL (moreN.getD r.val [] ++ [32, 122]) = [moreN.getD r.val [], [122]] ∧ lowL (moreN.getD r.val []) = moreN.getD r.val [] ∧ (59 : UInt8) ∉ moreN.getD r.val [] ∧ (moreN.getD r.val []).length ≤ 20 := by decide +kernel
theorem named_more {k : Int} {m s : List UInt8} (h0 : effS k ≠ []) (hl : [] ∉ chainL (effS k)) (h1 : fieldsL (m ++ [32, 122]) = [m, [122]]) (h2 : lowL m = m) (h3 : (59 : UInt8) ∉ m) :
    namedL (((s ++ [59]) ++ m) ++ [32, 122]) k = if (chainL (effS k)).idxOf m < (chainL (effS k)).idxOf (namedL s k) then m else namedL s k := by
  rw [named_nm1 h0, named_nm1 h0]
  have e : ((s ++ [59]) ++ m) ++ [32, 122] = s ++ 59 :: (m ++ [32, 122]) := by simp
  rw [e, one_more _ _ (by simp [h3])]
  have ha : addD (oneL s) (m ++ [32, 122]) = if hasD (oneL s) m then oneL s else oneL s ++ [(m, [[122]])] := by
    unfold addD
    rw [h1]
    show (if hasD (oneL s) (lowL m) = true then oneL s else oneL s ++ [(lowL m, [[122]])]) = _
    rw [h2]
  rw [ha]
  exact more_all _ _ _ _ hl
end Go.Proofs.YtgaeecphohlmpaaDoor
