/- Ends and spoilt letters. Of no program. -/
import Derived.Test.YtfbmabbehiicmaaDoorB64q
set_option linter.unusedVariables false
namespace Go.Proofs.YtfbmabbehiicmaaDoor

def bareL (l : List UInt8) : List UInt8 := (l.reverse.dropWhile (fun c => c == 61)).reverse
theorem bare_nil : bareL [] = [] := rfl
theorem bare_eq (l : List UInt8) : bareL (l ++ [61]) = bareL l := by
  unfold bareL
  rw [List.reverse_append]
  simp
theorem bare_ne (l : List UInt8) {c : UInt8} (h : c ≠ 61) : bareL (l ++ [c]) = l ++ [c] := by
  unfold bareL
  rw [List.reverse_append]
  simp [h]
theorem bare_no {l : List UInt8} (h : ∀ c ∈ l, c ≠ 61) : bareL l = l := by
  rcases List.eq_nil_or_concat l with rfl | ⟨a, c, rfl⟩
  · rfl
  · rw [List.concat_eq_append] at *
    exact bare_ne a (h c (by simp))
theorem bare_rep (l : List UInt8) : ∀ n, bareL (l ++ List.replicate n 61) = bareL l
  | 0 => by simp
  | n + 1 => by rw [List.replicate_succ', ← List.append_assoc, bare_eq, bare_rep l n]
theorem bare_pad {l : List UInt8} (h : ∀ c ∈ l, c ≠ 61) : bareL (padE l) = l := by
  unfold padE
  rw [bare_rep, bare_no h]
theorem bare_enc (l : List UInt8) : bareL (encE l) = encC l := by
  rw [encE_eq, bare_pad (encC_let l).no61]
theorem trim_split (l : List UInt8) : ∃ j, j ≤ 1 ∧ l = Lib.trimSuffix l [61] ++ List.replicate j 61 := by
  unfold Lib.trimSuffix Lib.hasSuffix
  split
  · rename_i h
    rw [List.isSuffixOf_iff_suffix] at h
    obtain ⟨t, rfl⟩ := h
    exact ⟨1, Nat.le_refl _, by simp⟩
  · exact ⟨0, by omega, by simp⟩
theorem unpad_split (l : List UInt8) : ∃ j, l = unpadE l ++ List.replicate j 61 := by
  unfold unpadE
  split
  · exact ⟨0, by simp⟩
  · obtain ⟨j, _, h1⟩ := trim_split l
    obtain ⟨k, _, h2⟩ := trim_split (Lib.trimSuffix l [61])
    refine ⟨k + j, ?_⟩
    rw [← List.replicate_append_replicate, ← List.append_assoc, ← h2, ← h1]
theorem decC_bad : ∀ (l : List UInt8) (x : UInt8), x ∈ l → valN x.toNat = none → decC l = none
  | [], x, h, _ => by simp at h
  | [a], x, h, hx => by
    simp at h
    subst h
    rw [decC, hx]; rfl
  | [a, b], x, h, hx => by
    simp at h
    rw [decC]
    cases h1 : valN a.toNat with
    | none => rfl
    | some v =>
      rcases h with rfl | rfl
      · rw [hx] at h1; cases h1
      · rw [hx]; rfl
  | [a, b, c], x, h, hx => by
    simp at h
    rw [decC]
    cases h1 : valN a.toNat with
    | none => rfl
    | some v =>
      cases h2 : valN b.toNat with
      | none => rfl
      | some w =>
        rcases h with rfl | rfl | rfl
        · rw [hx] at h1; cases h1
        · rw [hx] at h2; cases h2
        · rw [hx]; rfl
  | a :: b :: c :: d :: r, x, h, hx => by
    simp at h
    rw [decC]
    cases h1 : valN a.toNat with
    | none => rfl
    | some v =>
      cases h2 : valN b.toNat with
      | none => rfl
      | some w =>
        cases h3 : valN c.toNat with
        | none => rfl
        | some q =>
          cases h4 : valN d.toNat with
          | none => rfl
          | some p =>
            rcases h with rfl | rfl | rfl | rfl | h
            · rw [hx] at h1; cases h1
            · rw [hx] at h2; cases h2
            · rw [hx] at h3; cases h3
            · rw [hx] at h4; cases h4
            · rw [decC_bad r x h hx]; rfl
theorem decC_plain : ∀ l : List UInt8, decC (plainL l) = decC l
  | [] => rfl
  | [a] => by simp [plainL, decC, valN_plain]
  | [a, b] => by simp [plainL, decC, valN_plain]
  | [a, b, c] => by simp [plainL, decC, valN_plain]
  | a :: b :: c :: d :: r => by
    have ih := decC_plain r
    unfold plainL at ih
    simp [plainL, decC, valN_plain, ih]
theorem plain_61 (c : UInt8) : plainB c = 61 ↔ c = 61 := by
  unfold plainB
  constructor
  · intro h
    split at h
    · cases h
    · split at h
      · cases h
      · exact h
  · rintro rfl; rfl
theorem plain_app (a b : List UInt8) : plainL (a ++ b) = plainL a ++ plainL b := by simp [plainL]
theorem trim_plain (l : List UInt8) : Lib.trimSuffix (plainL l) [61] = plainL (Lib.trimSuffix l [61]) := by
  rcases List.eq_nil_or_concat l with rfl | ⟨a, c, rfl⟩
  · rfl
  · rw [List.concat_eq_append]
    by_cases h : c = 61
    · subst h
      rw [trim_yes, plain_app, show plainL [61] = [61] from rfl, trim_yes]
    · have e1 : Lib.trimSuffix (a ++ [c]) [61] = a ++ [c] := by
        unfold Lib.trimSuffix Lib.hasSuffix
        rw [if_neg]
        intro e
        rw [List.isSuffixOf_iff_suffix] at e
        obtain ⟨t, ht⟩ := e
        have := List.append_inj' ht rfl
        simp at this
        exact h this.2.symm
      have e2 : Lib.trimSuffix (plainL a ++ [plainB c]) [61] = plainL a ++ [plainB c] := by
        unfold Lib.trimSuffix Lib.hasSuffix
        rw [if_neg]
        intro e
        rw [List.isSuffixOf_iff_suffix] at e
        obtain ⟨t, ht⟩ := e
        have := List.append_inj' ht rfl
        simp at this
        exact h ((plain_61 c).1 this.2.symm)
      rw [e1, plain_app, show plainL [c] = [plainB c] from rfl, e2]
theorem plain_len (l : List UInt8) : (plainL l).length = l.length := by simp [plainL]
theorem unpad_plain (l : List UInt8) : unpadE (plainL l) = plainL (unpadE l) := by
  unfold unpadE
  rw [plain_len]
  split
  · rfl
  · rw [trim_plain, trim_plain]
theorem decE_plain (l : List UInt8) : decE (plainL l) = decE l := by
  rw [decE_eq, decE_eq, unpad_plain, plain_len, decC_plain]
theorem plain_pad {l : List UInt8} (h : letL l) : plainL (padE l) = padE l := by
  unfold padE
  rw [plain_app, h.plain]
  congr 1
  unfold plainL
  rw [List.map_replicate]
  rfl
theorem plain_enc (l : List UInt8) : plainL (encE l) = encE l := by
  rw [encE_eq]
  exact plain_pad (encC_let l)
/-- A text that is decoded is the letters of its bytes. -/
theorem enc_decC : ∀ (l u : List UInt8), l.length % 4 ≠ 1 → decC l = some u → encC u = plainL l
  | [], u, _, h => by
    rw [decC] at h
    injection h with h
    subst h; rfl
  | [a], u, hl, _ => by simp at hl
  | [a, b], u, _, h => by
    rw [decC] at h
    cases h1 : valN a.toNat with
    | none => rw [h1] at h; cases h
    | some v =>
      cases h2 : valN b.toNat with
      | none => rw [h1, h2] at h; cases h
      | some w =>
        rw [h1, h2] at h
        simp only [Option.bind_some] at h
        have := valN_lt h1
        have := valN_lt h2
        split at h
        · injection h with h
          subst h
          have e := b8_toNat (n := v * 4 + w / 16) (by omega)
          rw [encC, e, show (v * 4 + w / 16) / 4 = v by omega, show (v * 4 + w / 16) % 4 * 16 = w by omega, L64_of h1, L64_of h2]
          rfl
        · cases h
  | [a, b, c], u, _, h => by
    rw [decC] at h
    cases h1 : valN a.toNat with
    | none => rw [h1] at h; cases h
    | some v =>
      cases h2 : valN b.toNat with
      | none => rw [h1, h2] at h; cases h
      | some w =>
        cases h3 : valN c.toNat with
        | none => rw [h1, h2, h3] at h; cases h
        | some q =>
          rw [h1, h2, h3] at h
          simp only [Option.bind_some] at h
          have := valN_lt h1
          have := valN_lt h2
          have := valN_lt h3
          split at h
          · injection h with h
            subst h
            have e1 := b8_toNat (n := v * 4 + w / 16) (by omega)
            have e2 := b8_toNat (n := w % 16 * 16 + q / 4) (by omega)
            rw [encC, e1, e2, show (v * 4 + w / 16) / 4 = v by omega, show (v * 4 + w / 16) % 4 * 16 + (w % 16 * 16 + q / 4) / 16 = w by omega, show (w % 16 * 16 + q / 4) % 16 * 4 = q by omega, L64_of h1, L64_of h2, L64_of h3]
            rfl
          · cases h
  | a :: b :: c :: d :: r, u, hl, h => by
    rw [decC] at h
    cases h1 : valN a.toNat with
    | none => rw [h1] at h; cases h
    | some v =>
      cases h2 : valN b.toNat with
      | none => rw [h1, h2] at h; cases h
      | some w =>
        cases h3 : valN c.toNat with
        | none => rw [h1, h2, h3] at h; cases h
        | some q =>
          cases h4 : valN d.toNat with
          | none => rw [h1, h2, h3, h4] at h; cases h
          | some p =>
            rw [h1, h2, h3, h4] at h
            simp only [Option.bind_some] at h
            have := valN_lt h1
            have := valN_lt h2
            have := valN_lt h3
            have := valN_lt h4
            cases h5 : decC r with
            | none => rw [h5] at h; cases h
            | some t =>
              rw [h5] at h
              simp only [Option.map_some] at h
              injection h with h
              subst h
              have ih := enc_decC r t (by simp at hl ⊢; omega) h5
              have e1 := b8_toNat (n := v * 4 + w / 16) (by omega)
              have e2 := b8_toNat (n := w % 16 * 16 + q / 4) (by omega)
              have e3 := b8_toNat (n := q % 4 * 64 + p) (by omega)
              rw [encC, e1, e2, e3, show (v * 4 + w / 16) / 4 = v by omega, show (v * 4 + w / 16) % 4 * 16 + (w % 16 * 16 + q / 4) / 16 = w by omega, show (w % 16 * 16 + q / 4) % 16 * 4 + (q % 4 * 64 + p) / 64 = q by omega, show (q % 4 * 64 + p) % 64 = p by omega, L64_of h1, L64_of h2, L64_of h3, L64_of h4, ih]
              rfl
/-- The law BaseWay, on lists. -/
theorem way_eq {l u : List UInt8} (h : decE l = some u) : bareL (encE u) = bareL (plainL l) := by
  rw [decE_eq] at h
  split at h
  · cases h
  · rename_i hl
    obtain ⟨j, hj⟩ := unpad_split l
    have hno : ∀ c ∈ unpadE l, c ≠ 61 := by
      rintro c hc rfl
      rw [decC_bad _ 61 hc val_61] at h
      cases h
    have hno2 : ∀ c ∈ plainL (unpadE l), c ≠ 61 := by
      intro c hc
      obtain ⟨d, hd, rfl⟩ := List.mem_map.1 hc
      exact fun e => hno d hd ((plain_61 d).1 e)
    rw [bare_enc, enc_decC _ u hl h]
    conv => rhs; rw [hj, plain_app]
    rw [show plainL (List.replicate j 61) = List.replicate j 61 by unfold plainL; rw [List.map_replicate]; rfl, bare_rep, bare_no hno2]
/-- One byte more among letters that is none. -/
theorem spoilt_in {a b : List UInt8} {c : UInt8} (ha : letL a) (hb : letL b) (hc : valN c.toNat = none) (h : c ≠ 61 ∨ b ≠ []) : decE (a ++ [c] ++ b) = none := by
  rw [decE_eq]
  have hu : unpadE (a ++ [c] ++ b) = a ++ [c] ++ b := by
    unfold unpadE
    split
    · rfl
    · have hn : Lib.trimSuffix (a ++ [c] ++ b) [61] = a ++ [c] ++ b := by
        unfold Lib.trimSuffix Lib.hasSuffix
        rw [if_neg]
        intro e
        rw [List.isSuffixOf_iff_suffix] at e
        rcases List.eq_nil_or_concat b with rfl | ⟨b', d, rfl⟩
        · obtain ⟨t, ht⟩ := e
          have := List.append_inj' (ht.trans (List.append_nil _)) rfl
          simp at this
          rcases h with h | h
          · exact h this.2.symm
          · exact h rfl
        · rw [List.concat_eq_append] at *
          obtain ⟨t, ht⟩ := e
          rw [← List.append_assoc] at ht
          have := List.append_inj' ht rfl
          simp at this
          exact hb.no61 d (by simp) this.2.symm
      rw [hn, hn]
  rw [hu]
  split
  · rfl
  · exact decC_bad _ c (by simp) hc
theorem spoilt_more {l : List UInt8} (c : UInt8) (h : l.length % 4 = 0) : decE (l ++ [c]) = none := by
  have h1 : (l ++ [c]).length % 4 = 1 := by simp; omega
  rw [decE_eq]
  have hu : unpadE (l ++ [c]) = l ++ [c] := by
    unfold unpadE
    rw [if_pos (by omega)]
  rw [hu, if_pos h1]
theorem val_letter : ∀ c : Fin 256, (valN c.val = none) = ¬ ((97 ≤ c.val ∧ c.val ≤ 122) ∨ (65 ≤ c.val ∧ c.val ≤ 90) ∨ (48 ≤ c.val ∧ c.val ≤ 57) ∨ c.val = 43 ∨ c.val = 47 ∨ c.val = 45 ∨ c.val = 95) := by
  intro c
  apply propext
  unfold valN
  repeat' split
  all_goals simp
  all_goals omega
theorem repl_map (a b : UInt8) (h : a ≠ b) : ∀ l : List UInt8, Lib.replaceAll l [a] [b] = l.map fun c => if c = a then b else c
  | [] => repl_nil _ _ (by simp) (by simpa using h)
  | c :: l => by
    by_cases hc : c = a
    · subst hc
      have := repl_hit [c] [b] l (by simp) (by simpa using h)
      rw [show c :: l = [c] ++ l from rfl, this, repl_map c b h l]
      simp
    · rw [repl_miss _ _ _ _ (by simp) (by simpa using h) (by simp [List.isPrefixOf]; exact fun e => hc e.symm), repl_map a b h l]
      simp [hc]
theorem plain_repl (l : List UInt8) : Lib.replaceAll (Lib.replaceAll l [45] [43]) [95] [47] = plainL l := by
  rw [repl_map _ _ (by decide), repl_map _ _ (by decide), List.map_map]
  unfold plainL
  refine List.map_congr_left fun c _ => ?_
  unfold plainB
  simp only [Function.comp]
  by_cases h : c = 45
  · subst h; decide
  · rw [if_neg h, if_neg h]
theorem repl_len (a b : UInt8) (h : a ≠ b) (l : List UInt8) : (Lib.replaceAll l [a] [b]).length = l.length := by
  rw [repl_map a b h, List.length_map]
end Go.Proofs.YtfbmabbehiicmaaDoor
