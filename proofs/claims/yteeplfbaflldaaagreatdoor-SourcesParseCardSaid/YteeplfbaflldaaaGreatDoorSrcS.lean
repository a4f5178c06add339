/- sources, as lists: what the document reads between quotes is what the program reads. No program. -/
import Derived.Test.YteeplfbaflldaaaGreatDoorRs6
set_option linter.unusedVariables false
set_option linter.unusedSimpArgs false
namespace Go.Proofs.YteeplfbaflldaaaGreatDoor.S25
open T10

theorem cut1_spec {l f b : List UInt8} {d : UInt8} (h : Lib.cut l [d] = (f, b, true)) : l = f ++ d :: b := by
  unfold Lib.cut at h
  rw [Lib.index_one] at h
  split at h
  · rename_i hi
    injection h with h1 h2
    injection h2 with h2 _
    obtain ⟨t, ht⟩ := ib_split l d hi
    have e : t = b := by
      rw [← h2, List.length_cons, List.length_nil, Nat.zero_add, ← List.drop_drop, ht]
      rfl
    rw [← e, ← ht, ← h1, List.take_append_drop]
  · cases h
theorem cut1_no {l f b : List UInt8} {d : UInt8} (h : Lib.cut l [d] = (f, b, true)) : d ∉ f := by
  unfold Lib.cut at h
  rw [Lib.index_one] at h
  split at h
  · rename_i hi
    injection h with h1 h2
    obtain ⟨o, ho⟩ : ∃ o : Nat, Lib.indexByte l d = o := ⟨(Lib.indexByte l d).toNat, by omega⟩
    have h3 := (Lib.indexByte_some ho).2
    rw [ho, Int.toNat_natCast] at h1
    intro hm
    obtain ⟨i, hi2⟩ := List.mem_iff_getElem?.1 hm
    rw [← h1, List.getElem?_take] at hi2
    split at hi2
    · rename_i hlt
      exact h3 i hlt hi2
    · cases hi2
  · cases h
theorem lowL_app (a b : List UInt8) : lowL (a ++ b) = lowL a ++ lowL b := by unfold lowL; rw [List.map_append]
theorem lowL_take (l : List UInt8) (n : Nat) : lowL (l.take n) = (lowL l).take n := by unfold lowL; rw [List.map_take]
/-- Behind a head is what stands behind the first dash, where the head's front stands ahead of it. -/
theorem behind_iff {l f v : List UInt8} (hf : (45 : UInt8) ∉ f) : behindL l (f ++ [45]) = some v ↔ ((Lib.cut (lowL l) [45]).1 = f ∧ (Lib.cut (lowL l) [45]).2.2 = true ∧ v = l.drop (f.length + 1)) := by
  have hn : (f ++ [45]).length = f.length + 1 := by simp
  constructor
  · intro h
    unfold behindL at h
    split at h
    · cases h
    · split at h
      · rename_i h1 h2
        injection h with h
        rw [hn] at h2 h
        have e : lowL l = f ++ 45 :: lowL (l.drop (f.length + 1)) := by
          conv => lhs; rw [← List.take_append_drop (f.length + 1) l]
          rw [lowL_app, h2]
          simp
        have hc : Lib.cut (lowL l) [45] = (f, lowL (l.drop (f.length + 1)), true) := by
          rw [e]
          exact cut1_app fun c hc e2 => hf (e2 ▸ hc)
        rw [hc]
        exact ⟨rfl, rfl, h.symm⟩
      · cases h
  · rintro ⟨h1, h2, h3⟩
    obtain ⟨a, b, ok, hc⟩ : ∃ a b ok, Lib.cut (lowL l) [45] = (a, b, ok) := ⟨_, _, _, rfl⟩
    rw [hc] at h1 h2
    simp only at h1 h2
    subst h1 h2
    have e := cut1_spec hc
    have hl : (lowL l).length = l.length := lowL_len l
    have hlen : a.length + 1 ≤ l.length := by
      rw [← hl, e, List.length_append, List.length_cons]; omega
    unfold behindL
    rw [hn, if_neg (by omega), if_pos, h3]
    rw [lowL_take, e, show a ++ 45 :: b = (a ++ [45]) ++ b by simp, List.take_append_of_le_length (by simp), List.take_of_length_le (by simp)]
def tryB (l head : List UInt8) : Option (List UInt8) := match behindL l head with
  | some v => if b64B v = true then some v else none
  | none => none
/-- The document's way to read what stands between quotes. -/
def rquoL (l : List UInt8) : Option SrcL :=
  if lowL l ∈ kws.map (·.data.toList) then some ⟨1, lowL l, 0, [], [], false, -1, []⟩
  else match tryB l ([110, 111, 110, 99, 101] ++ [45]) with
    | some v => some ⟨4, v, 0, [], [], false, -1, []⟩
    | none => match tryB l ([115, 104, 97, 50, 53, 54] ++ [45]) with
      | some v => some ⟨5, v, 256, [], [], false, -1, []⟩
      | none => match tryB l ([115, 104, 97, 51, 56, 52] ++ [45]) with
        | some v => some ⟨5, v, 384, [], [], false, -1, []⟩
        | none => match tryB l ([115, 104, 97, 53, 49, 50] ++ [45]) with
          | some v => some ⟨5, v, 512, [], [], false, -1, []⟩
          | none => none
theorem tryB_cut {l f : List UInt8} (hf : (45 : UInt8) ∉ f) : tryB l (f ++ [45]) = if (Lib.cut (lowL l) [45]).2.2 = true ∧ (Lib.cut (lowL l) [45]).1 = f ∧ b64B (l.drop (f.length + 1)) = true then some (l.drop (f.length + 1)) else none := by
  unfold tryB
  cases hb : behindL l (f ++ [45]) with
  | some v =>
    obtain ⟨h1, h2, h3⟩ := (behind_iff hf).1 hb
    simp only []
    rw [h3]
    by_cases h4 : b64B (l.drop (f.length + 1)) = true
    · rw [if_pos h4, if_pos ⟨h2, h1, h4⟩]
    · rw [if_neg h4, if_neg (fun h => h4 h.2.2)]
  | none =>
    rw [if_neg]
    rintro ⟨h1, h2, h3⟩
    rw [(behind_iff hf).2 ⟨h2, h1, rfl⟩] at hb
    cases hb
theorem rquo_same (l : List UInt8) : rquoL l = quoL l := by
  unfold rquoL quoL
  by_cases hk : lowL l ∈ kws.map (·.data.toList)
  · rw [if_pos hk, if_pos hk]
  · rw [if_neg hk, if_neg hk, tryB_cut (by decide), tryB_cut (by decide), tryB_cut (by decide), tryB_cut (by decide)]
    obtain ⟨f, b, ok, hc⟩ : ∃ f b ok, Lib.cut (lowL l) [45] = (f, b, ok) := ⟨_, _, _, rfl⟩
    rw [hc]
    simp only []
    cases ok with
    | false => simp
    | true =>
      by_cases h1 : f = [110, 111, 110, 99, 101]
      · subst h1
        by_cases hb : b64B (l.drop ([110, 111, 110, 99, 101].length + 1 : Nat)) = true
        · simp [hb] at *
          simp [hb]
        · simp at hb
          simp [hb]
      · by_cases h2 : f = [115, 104, 97, 50, 53, 54]
        · subst h2
          by_cases hb : b64B (l.drop ([115, 104, 97, 50, 53, 54].length + 1 : Nat)) = true
          · simp at hb
            simp [hb]
          · simp at hb
            simp [hb]
        · by_cases h3 : f = [115, 104, 97, 51, 56, 52]
          · subst h3
            by_cases hb : b64B (l.drop ([115, 104, 97, 51, 56, 52].length + 1 : Nat)) = true
            · simp at hb
              simp [hb]
            · simp at hb
              simp [hb]
          · by_cases h4 : f = [115, 104, 97, 53, 49, 50]
            · subst h4
              by_cases hb : b64B (l.drop ([115, 104, 97, 53, 49, 50].length + 1 : Nat)) = true
              · simp at hb
                simp [hb]
              · simp at hb
                simp [hb]
            · simp [h1, h2, h3, h4]
end Go.Proofs.YteeplfbaflldaaaGreatDoor.S25
