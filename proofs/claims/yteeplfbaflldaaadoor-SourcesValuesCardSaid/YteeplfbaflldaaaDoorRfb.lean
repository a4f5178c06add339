/- refs.Find: its answer's bounds. -/
import Derived.Test.YteeplfbaflldaaaDoorRf4
set_option linter.unusedVariables false
set_option linter.unusedSimpArgs false
namespace Go.Proofs.YteeplfbaflldaaaDoor.R9
open Go.RowKit

theorem find_le (s : ByteArray) (a : Nat) (attr : Bool) (w : World) (hT : RTab w) (ha : a ≤ s.size) (hs : s.size ≤ 5000) :
    Calls Tryd.prog 90 #[.string s, .int .i64 a, .bool attr] w fun e w' => e = .returned (ret3 a (findS (s.data.toList.drop a) attr)) ∧ w = w' := by
  by_cases h : a < s.size
  · exact find_in s a attr w hT h hs
  · have e : s.data.toList.drop a = [] := by
      rw [List.drop_eq_nil_iff]
      simp
      omega
    rw [e]
    exact find_out s a attr w (.inr (by omega))
theorem look_mem : ∀ (t : List (List UInt8 × Int)) (l : List UInt8), ¬ look t l = 0 → ∃ x ∈ t, l = x.1 ∧ look t l = x.2
  | [], l, h => absurd rfl h
  | (n, c) :: r, l, h => by
    rw [look] at h ⊢
    by_cases e : (l == n) = true
    · rw [if_pos e]
      exact ⟨(n, c), by simp, by simpa using e, rfl⟩
    · rw [if_neg e] at h ⊢
      obtain ⟨x, hx, h1, h2⟩ := look_mem r l h
      exact ⟨x, List.mem_cons_of_mem _ hx, h1, h2⟩
theorem tab_two : ∀ x ∈ (looseA ++ looseB) ++ (strictA ++ strictB), 2 ≤ x.1.length ∧ x.1.length ≤ 7 := by decide
theorem loose_two {l : List UInt8} (h : ¬ looseN l = 0) : 2 ≤ l.length := by
  obtain ⟨x, hx, h1, _⟩ := look_mem _ l h
  rw [h1]
  exact (tab_two x (List.mem_append_left _ hx)).1
theorem strict_two {l : List UInt8} (h : ¬ strictN l = 0) : 2 ≤ l.length := by
  obtain ⟨x, hx, h1, _⟩ := look_mem _ l h
  rw [h1]
  exact (tab_two x (List.mem_append_right _ hx)).1
theorem name_in (r : List UInt8) (attr : Bool) (c : Int) (k : Nat) : ∀ n, n ≤ r.length → nameF r attr n = some (c, k) → 2 ≤ k ∧ k ≤ r.length
  | 0, _, h => by cases h
  | n + 1, hn, h => by
    have hlen : (r.take (n + 1)).length = n + 1 := by rw [List.length_take]; omega
    rw [nameF] at h
    by_cases h1 : r[n + 1]? = some 59
    · have h2 := (List.getElem?_eq_some_iff.1 h1).1
      rw [if_pos h1] at h
      by_cases hL : looseN (r.take (n + 1)) = 0
      · rw [if_pos hL] at h
        by_cases hS : strictN (r.take (n + 1)) = 0
        · rw [if_pos hS] at h
          exact name_in r attr c k n (by omega) h
        · rw [if_neg hS] at h
          have := strict_two hS
          injection h with h
          injection h with _ h
          omega
      · rw [if_neg hL, if_neg hL] at h
        have := loose_two hL
        injection h with h
        injection h with _ h
        omega
    · rw [if_neg h1] at h
      by_cases h2 : attr = true ∧ goesL r (n + 1) = true ∧ ¬ looseN (r.take (n + 1)) = 0
      · rw [if_pos h2] at h; cases h
      · rw [if_neg h2] at h
        by_cases hL : looseN (r.take (n + 1)) = 0
        · rw [if_pos hL] at h
          exact name_in r attr c k n (by omega) h
        · rw [if_neg hL] at h
          have := loose_two hL
          injection h with h
          injection h with _ h
          omega
theorem num_in {r : List UInt8} {c : Int} {k : Nat} (h : numR r = some (c, k)) : 1 ≤ k ∧ k ≤ r.length := by
  unfold numR at h
  obtain ⟨b, hb1⟩ : ∃ b, (baseK r).1 = b := ⟨_, rfl⟩
  obtain ⟨j, hj1⟩ : ∃ j, (baseK r).2 = j := ⟨_, rfl⟩
  rw [hb1, hj1] at h
  obtain ⟨D, hD⟩ : ∃ D, (r.drop j).takeWhile (isD b) = D := ⟨_, rfl⟩
  rw [hD] at h
  by_cases h0 : D = []
  · rw [if_pos h0] at h; cases h
  · rw [if_neg h0] at h
    injection h with h
    injection h with _ h
    have h1 : 0 < D.length := List.length_pos_iff.2 h0
    have h2 := (List.takeWhile_prefix (isD b) (l := r.drop j)).length_le
    rw [hD, List.length_drop] at h2
    by_cases h3 : (r.drop (j + D.length)).head? = some 59
    · rw [if_pos h3] at h
      rw [List.head?_drop] at h3
      have := (List.getElem?_eq_some_iff.1 h3).1
      omega
    · rw [if_neg h3] at h
      omega
theorem find_bounds {r : List UInt8} {attr : Bool} {c : Int} {k : Nat} (h : findS r attr = some (c, k)) : 3 ≤ k ∧ k ≤ r.length ∧ r.head? = some 38 := by
  unfold findS at h
  by_cases h1 : r.head? = some 38
  · rw [if_pos h1] at h
    have hl : 0 < r.length := by
      cases r with
      | nil => cases h1
      | cons x t => simp
    by_cases h2 : (r.drop 1).head? = some 35
    · rw [if_pos h2] at h
      have hl2 : 1 < r.length := by
        rw [List.head?_drop] at h2
        exact (List.getElem?_eq_some_iff.1 h2).1
      obtain ⟨⟨c', k'⟩, h3, h4⟩ := Option.map_eq_some_iff.1 h
      have := num_in h3
      rw [List.length_drop] at this
      injection h4 with _ h4
      refine ⟨by omega, by omega, h1⟩
    · rw [if_neg h2] at h
      obtain ⟨⟨c', k'⟩, h3, h4⟩ := Option.map_eq_some_iff.1 h
      have := name_in _ _ _ _ _ (Nat.min_le_right _ _) h3
      rw [List.length_drop] at this
      injection h4 with _ h4
      refine ⟨by omega, by omega, h1⟩
  · rw [if_neg h1] at h; cases h
theorem enc_some (c : Int) : ((Utf8.encode c).toList == []) = false := by
  rw [beq_eq_false_iff_ne, ByteArray.toList_eq]
  unfold Utf8.encode
  simp only []
  repeat' split
  all_goals simp

end Go.Proofs.YteeplfbaflldaaaDoor.R9
