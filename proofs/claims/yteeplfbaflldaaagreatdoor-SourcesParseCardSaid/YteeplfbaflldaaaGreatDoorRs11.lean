/- lazaretref25: Parse, whole: the program's answer. -/
import Derived.Test.YteeplfbaflldaaaGreatDoorRs10
set_option linter.unusedVariables false
set_option linter.unusedSimpArgs false
namespace Go.Proofs.YteeplfbaflldaaaGreatDoor.S25
open Go.RowKit Go.Extern.Stop Go.Stop Go.Extern T10

theorem rparse_any (s : ByteArray) (w : World) (hs : s.size ≤ 1000000) (hT : PTab w) :
    Calls Tryz.prog 6 #[.string s] w fun e w' => e = .returned (parseV (parseL s.data.toList)) ∧ Below w.heap.size w w' := by
  have hl : s.data.toList.length = s.size := by simp
  unfold parseL
  by_cases h1 : 2 ≤ s.data.toList.length ∧ s.data.toList.head? = some 39 ∧ s.data.toList.getLast? = some 39
  · rw [if_pos h1]
    obtain ⟨a1, a2, a3⟩ := h1
    have h2 : 2 ≤ s.size := by omega
    rw [head_at (by omega)] at a2
    rw [last_at (by omega)] at a3
    injection a2 with a2
    injection a3 with a3
    have hq : (s.extract 1 (s.size - 1)).data.toList = (s.data.toList.drop 1).take (s.data.toList.length - 2) := by
      rw [ext_list, hl]
      rfl
    have := rparse_quoted s w hs hT h2 a2 a3
    rw [rquo_same, hq] at this
    exact this
  · rw [if_neg h1]
    by_cases h2 : Lib.hasSuffix s.data.toList [58] = true ∧ schB (s.data.toList.take (s.data.toList.length - 1)) = true
    · rw [if_pos h2]
      have e0 : (s.extract 0 (s.size - 1)).data.toList = s.data.toList.take (s.data.toList.length - 1) := by rw [ext_take, hl]
      have hne := schB_ne h2.2
      have e3 := suffix_58 h2.1
      have hlen : 2 ≤ s.size := by
        have h3 := congrArg List.length e3
        have h4 := List.length_pos_iff.2 hne
        rw [List.length_append] at h3
        simp only [List.length_cons, List.length_nil] at h3
        omega
      have ha : s[0]'(by omega) ≠ 39 := by
        intro e
        have e2 := head_at (s := s) (by omega)
        rw [e] at e2
        cases hL : s.data.toList.take (s.data.toList.length - 1) with
        | nil => exact hne hL
        | cons c r =>
          rw [hL] at e3
          rw [e3] at e2
          simp at e2
          have := (schB_chars h2.2 c (by rw [hL]; simp)).2.2
          exact this e2
      have hb : s[s.size - 1]'(by omega) = 58 := by
        have e2 := last_at (s := s) (by omega)
        rw [e3, List.getLast?_append] at e2
        simpa using e2.symm
      have := rparse_scheme s w hs hlen ha hb (by rw [e0]; exact h2.2)
      rw [e0] at this
      exact this
    · rw [if_neg h2]
      refine rparse_host s w hs ?_
      by_cases hz : s.size ≤ 1
      · exact .inl hz
      · have hz2 : 2 ≤ s.size := by omega
        refine .inr ⟨hz2, ?_, ?_⟩
        · by_cases h3 : s[0]'(by omega) = 39
          · refine .inr ⟨h3, fun h4 => h1 ⟨by omega, ?_, ?_⟩⟩
            · rw [head_at (by omega), h3]
            · rw [last_at (by omega), h4]
          · exact .inl h3
        · by_cases h4 : s[s.size - 1]'(by omega) = 58
          · refine .inr ⟨h4, ?_⟩
            rw [ext_take, ← hl]
            cases h6 : schB (s.data.toList.take (s.data.toList.length - 1)) with
            | false => rfl
            | true =>
              refine absurd ⟨?_, h6⟩ h2
              have e2 := last_at (s := s) (by omega)
              rw [h4] at e2
              unfold Lib.hasSuffix
              rw [List.isSuffixOf_iff_suffix]
              obtain ⟨t, ht⟩ : ∃ t, s.data.toList = t ++ [58] := ⟨s.data.toList.dropLast, by
                have hne : s.data.toList ≠ [] := by
                  intro e
                  rw [e] at e2
                  cases e2
                have h7 := List.dropLast_concat_getLast hne
                have h8 : s.data.toList.getLast hne = 58 := by
                  rw [List.getLast?_eq_some_getLast hne] at e2
                  exact Option.some.inj e2
                rw [h8] at h7
                exact h7.symm⟩
              rw [ht]
              exact List.suffix_append _ _
          · exact .inl h4
end Go.Proofs.YteeplfbaflldaaaGreatDoor.S25
