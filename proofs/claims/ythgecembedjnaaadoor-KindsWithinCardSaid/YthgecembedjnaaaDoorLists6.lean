/- Plain functions for layer 13: which words stand in a list between blanks. No program. -/
import Derived.Test.YthgecembedjnaaaDoorLists3
import Derived.Lib.IndexMore
namespace Go.Proofs.YthgecembedjnaaaDoor

theorem contains_iff (l sub : List UInt8) : Lib.contains l sub = true ↔ ∃ a b, l = a ++ (sub ++ b) := by
  unfold Lib.contains
  rw [decide_eq_true_iff]
  constructor
  · intro h
    rcases Lib.index_spec l sub with ⟨h1, _⟩ | ⟨i, h1, h2, h3, _⟩
    · omega
    · unfold Lib.occAt at h3
      obtain ⟨b, hb⟩ := List.isPrefixOf_iff_prefix.1 h3
      exact ⟨l.take i, b, by rw [hb, List.take_append_drop]⟩
  · rintro ⟨a, b, rfl⟩
    rcases Lib.index_spec (a ++ (sub ++ b)) sub with ⟨_, h2⟩ | ⟨i, h1, _⟩
    · have := h2 a.length (by simp)
      unfold Lib.occAt at this
      rw [List.drop_left] at this
      have hp : sub.isPrefixOf (sub ++ b) = true := List.isPrefixOf_iff_prefix.2 ⟨b, rfl⟩
      rw [hp] at this
      exact absurd this (by simp)
    · omega
theorem spl_append (d : UInt8) (a r : List UInt8) : spl d (a ++ d :: r) = spl d a ++ spl d r := by
  induction a with
  | nil => simp [spl]
  | cons x t ih =>
    rw [List.cons_append, spl_cons, spl_cons, ih]
    by_cases hx : x = d
    · rw [if_pos hx, if_pos hx]; rfl
    · rw [if_neg hx, if_neg hx]
      cases hr : spl d t with
      | nil => exact absurd hr (spl_ne d t)
      | cons q qs => rfl
def joinD (d : UInt8) : List (List UInt8) → List UInt8
  | [] => []
  | p :: ps => match ps with
    | [] => p
    | _ :: _ => p ++ d :: joinD d ps
theorem joinD_cons (d : UInt8) (p : List UInt8) (ps : List (List UInt8)) (h : ps ≠ []) : joinD d (p :: ps) = p ++ d :: joinD d ps := by
  cases ps with
  | nil => exact absurd rfl h
  | cons q qs => rfl
theorem joinD_append (d : UInt8) (A B : List (List UInt8)) (hA : A ≠ []) (hB : B ≠ []) : joinD d (A ++ B) = joinD d A ++ d :: joinD d B := by
  induction A with
  | nil => exact absurd rfl hA
  | cons p ps ih =>
    by_cases hp : ps = []
    · subst hp
      rw [List.singleton_append, joinD_cons d p B hB]
      rfl
    · rw [List.cons_append, joinD_cons d p _ (by simp [hp]), ih hp, joinD_cons d p ps hp]
      simp
theorem joinD_spl (d : UInt8) (l : List UInt8) : joinD d (spl d l) = l := by
  induction l with
  | nil => rfl
  | cons x r ih =>
    rw [spl_cons]
    by_cases hx : x = d
    · rw [if_pos hx, joinD_cons d [] _ (spl_ne d r), ih, hx]; rfl
    · rw [if_neg hx]
      cases hr : spl d r with
      | nil => exact absurd hr (spl_ne d r)
      | cons q qs =>
        rw [hr] at ih
        by_cases hq : qs = []
        · subst hq
          have e : q = r := ih
          show x :: q = x :: r
          rw [e]
        · rw [joinD_cons d q qs hq] at ih
          show joinD d ((x :: q) :: qs) = x :: r
          rw [joinD_cons d (x :: q) qs hq, List.cons_append, ih]

/-- Between two bytes d of a list stands a name that has none: it is one of the inner pieces. -/
theorem between (d : UInt8) (l name : List UInt8) (hn : d ∉ name) : Lib.contains l (d :: (name ++ [d])) = decide (name ∈ (spl d l).tail.dropLast) := by
  rw [Bool.eq_iff_iff, contains_iff, decide_eq_true_iff]
  constructor
  · rintro ⟨a, b, rfl⟩
    have e : a ++ (d :: (name ++ [d]) ++ b) = a ++ d :: (name ++ d :: b) := by simp
    rw [e, spl_append, spl_append, spl_none hn]
    have h1 := spl_ne d a
    have h2 := spl_ne d b
    cases hA : spl d a with
    | nil => exact absurd hA h1
    | cons p ps =>
      rw [List.cons_append, List.tail_cons, List.dropLast_append_of_ne_nil (by simp), List.singleton_append, List.dropLast_cons_of_ne_nil h2]
      simp
  · intro h
    obtain ⟨s, t, hst⟩ := List.append_of_mem h
    have hl := joinD_spl d l
    cases hS : spl d l with
    | nil => exact absurd hS (spl_ne d l)
    | cons p ps =>
      rw [hS, List.tail_cons] at hst
      have hps : ps ≠ [] := by intro e; rw [e] at hst; simp at hst
      have e := List.dropLast_concat_getLast hps
      rw [hst] at e
      rw [hS, ← e] at hl
      have e2 : p :: (s ++ name :: t ++ [ps.getLast hps]) = (p :: s) ++ ([name] ++ (t ++ [ps.getLast hps])) := by simp
      rw [e2, joinD_append d _ _ (by simp) (by simp), joinD_append d [name] _ (by simp) (by simp)] at hl
      exact ⟨joinD d (p :: s), joinD d (t ++ [ps.getLast hps]), by rw [← hl]; simp [joinD]⟩

/-- What layer 13's lists are asked: a name, not empty, without a blank, stands between blanks. -/
def hasL (list name : List UInt8) : Bool := !name.isEmpty && (!decide (0 ≤ Lib.indexByte name 32) && Lib.contains list (32 :: (name ++ [32])))
theorem noblank (name : List UInt8) : decide (0 ≤ Lib.indexByte name 32) = decide ((32 : UInt8) ∈ name) := by
  rw [← Lib.index_one]
  by_cases h : (32 : UInt8) ∈ name
  · obtain ⟨a, b, e, hn⟩ := first_of h
    rw [e, index_hit hn]
    simp
  · rw [index_miss h]
    simp [h]
theorem hasL_eq {list : List UInt8} {W : List (List UInt8)} (hm : (spl 32 list).tail.dropLast = W) (hw : W.all (fun x => !x.isEmpty && !(x.contains 32)) = true) (name : List UInt8) : hasL list name = W.contains name := by
  unfold hasL
  rw [noblank]
  by_cases h : name ∈ W
  · have := List.all_eq_true.1 hw name h
    simp at this
    have h32 : (32 : UInt8) ∉ name := this.2
    rw [between 32 list name h32, hm]
    simp [this.1, h32, h]
  · have hc : W.contains name = false := by simpa using h
    rw [hc]
    by_cases h32 : (32 : UInt8) ∈ name
    · simp [h32]
    · rw [between 32 list name h32, hm]
      simp [h]
end Go.Proofs.YthgecembedjnaaaDoor
