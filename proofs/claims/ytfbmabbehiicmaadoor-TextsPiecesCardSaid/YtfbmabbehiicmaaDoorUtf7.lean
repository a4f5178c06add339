/- Texts: what is decoded is characters alone. Of no program. -/
import Derived.Test.YtfbmabbehiicmaaDoorUtf
set_option linter.unusedVariables false
namespace Go.Proofs.YtfbmabbehiicmaaDoor

/-- The bytes of one character. -/
def CharU (u : List UInt8) : Prop := ∃ f t, u = f :: t ∧ moreI (f.toNat : Int) = (t.length : Int) ∧ ∀ (k : Nat) (c : UInt8), t[k]? = some c → mayI (f.toNat : Int) (c.toNat : Int) ((k : Int) + 1) = true
/-- Characters alone. -/
inductive CharsU : List UInt8 → Prop
  | nil : CharsU []
  | cons (u r : List UInt8) : CharU u → CharsU r → CharsU (u ++ r)
theorem CharsU.append {a b : List UInt8} (ha : CharsU a) (hb : CharsU b) : CharsU (a ++ b) := by
  induction ha with
  | nil => exact hb
  | cons u r hu _ ih => rw [List.append_assoc]; exact .cons u _ hu ih
theorem CharsU.one {u : List UInt8} (h : CharU u) : CharsU u := by
  have := CharsU.cons u [] h .nil
  rwa [List.append_nil] at this
theorem run_char (f : UInt8) : ∀ (t2 t1 r : List UInt8), (∀ (k : Nat) (c : UInt8), (t1 ++ t2)[k]? = some c → mayI (f.toNat : Int) (c.toNat : Int) ((k : Int) + 1) = true) → runU (t2 ++ r) (f :: t1) t2.length = (f :: t1) ++ t2 ++ decU r
  | [], t1, r, _ => by
    rw [List.nil_append, List.length_nil, runU_zero, List.append_nil]; rfl
  | c :: t2, t1, r, h => by
    have hc := h t1.length c (by simp)
    rw [List.cons_append, List.length_cons, runU_go (by simpa [firstI] using hc)]
    have := run_char f t2 (t1 ++ [c]) r (by simpa using h)
    rw [show f :: t1 ++ [c] = f :: (t1 ++ [c]) from rfl, this]
    simp
theorem dec_char {u : List UInt8} (h : CharU u) (r : List UInt8) : decU (u ++ r) = u ++ decU r := by
  obtain ⟨f, t, rfl, hm, hc⟩ := h
  unfold decU
  rw [List.cons_append, runU_first (by rw [hm]; omega), hm]
  have := run_char f t [] r (by simpa using hc)
  rw [show ((t.length : Int)).toNat = t.length from Int.toNat_natCast _, this]
  simp [decU]
theorem dec_chars {a : List UInt8} (h : CharsU a) (r : List UInt8) : decU (a ++ r) = a ++ decU r := by
  induction h with
  | nil => rfl
  | cons u t hu _ ih => rw [List.append_assoc, dec_char hu, ih, List.append_assoc]
theorem dec_self {a : List UInt8} (h : CharsU a) : decU a = a := by
  have := dec_chars h []
  rw [List.append_nil] at this
  rw [this]
  simp [decU, runU]
theorem repl_char : CharU repl := ⟨239, [191, 189], rfl, by decide, fun k c h => by
  match k, h with
  | 0, h => simp at h; subst h; decide
  | 1, h => simp at h; subst h; decide⟩
def StU (h : List UInt8) (n : Nat) : Prop := (h = [] ∧ n = 0) ∨ ∃ f t, h = f :: t ∧ moreI (f.toNat : Int) = (t.length : Int) + n ∧ ∀ (k : Nat) (c : UInt8), t[k]? = some c → mayI (f.toNat : Int) (c.toNat : Int) ((k : Int) + 1) = true
theorem StU.chars {h : List UInt8} (hs : StU h 0) : CharsU h := by
  rcases hs with ⟨rfl, _⟩ | ⟨f, t, rfl, hm, hc⟩
  · exact .nil
  · exact .one ⟨f, t, rfl, by simpa using hm, hc⟩
theorem StU.first (c : UInt8) (h : ¬ moreI (c.toNat : Int) < 0) : StU [c] (moreI (c.toNat : Int)).toNat :=
  .inr ⟨c, [], rfl, by simp; omega, fun k c h => by simp at h⟩
theorem run_chars : ∀ (r h : List UInt8) (n : Nat), StU h n → CharsU (runU r h n)
  | [], h, 0, hs => by unfold runU; exact hs.chars
  | [], h, n + 1, hs => by unfold runU; exact .one repl_char
  | c :: r, h, 0, hs => by
    unfold runU
    refine hs.chars.append ?_
    split
    · exact (CharsU.one repl_char).append (run_chars r [] 0 (.inl ⟨rfl, rfl⟩))
    · rename_i hm
      exact run_chars r [c] _ (StU.first c hm)
  | c :: r, h, n + 1, hs => by
    unfold runU
    split
    · rename_i hmay
      refine run_chars r (h ++ [c]) n ?_
      rcases hs with ⟨_, h0⟩ | ⟨f, t, rfl, hm, hc⟩
      · cases h0
      · refine .inr ⟨f, t ++ [c], rfl, by rw [hm]; simp; omega, fun k d hd => ?_⟩
        rcases Nat.lt_or_ge k t.length with hk | hk
        · rw [List.getElem?_append_left hk] at hd
          exact hc k d hd
        · rw [List.getElem?_append_right hk] at hd
          have hk0 : k - t.length = 0 := by
            by_cases hk2 : k - t.length = 0
            · exact hk2
            · rw [List.getElem?_eq_none (by simp; omega)] at hd; cases hd
          rw [hk0] at hd
          simp at hd
          subst hd
          have hk1 : k = t.length := by omega
          subst hk1
          simpa [firstI] using hmay
    · refine (CharsU.one repl_char).append ?_
      split
      · exact (CharsU.one repl_char).append (run_chars r [] 0 (.inl ⟨rfl, rfl⟩))
      · rename_i hm
        exact run_chars r [c] _ (StU.first c hm)
theorem decU_chars (l : List UInt8) : CharsU (decU l) := run_chars l [] 0 (.inl ⟨rfl, rfl⟩)
theorem textU_chars (l : List UInt8) : CharsU (textU l) := decU_chars _
theorem mark_tail {r : List UInt8} (h : CharsU (239 :: 187 :: 191 :: r)) : CharsU r := by
  generalize ha : (239 :: 187 :: 191 :: r : List UInt8) = a at h
  cases h with
  | nil => cases ha
  | cons u t hu ht =>
    obtain ⟨f, v, rfl, hm, hc⟩ := hu
    rw [List.cons_append] at ha
    injection ha with h1 h2
    subst h1
    have hv : v.length = 2 := by
      have e : moreI ((239 : UInt8).toNat : Int) = 2 := by decide
      rw [e] at hm
      omega
    match v, hv with
    | [x, y], _ =>
      simp at h2
      rw [h2.2.2]
      exact ht
theorem unmark_mark (r : List UInt8) : unmark ([239, 187, 191] ++ r) = r := by
  unfold unmark Lib.trimPrefix
  rw [if_pos (by simp [Lib.hasPrefix, List.isPrefixOf])]
  rfl
/-- What is decoded, decoded again: the same, but for a mark. -/
theorem text_again {s : List UInt8} (h : CharsU s) : (if Lib.hasPrefix s [239, 187, 191] = true then [239, 187, 191] ++ textU s else textU s) = s := by
  cases hp : Lib.hasPrefix s [239, 187, 191] with
  | false =>
    rw [if_neg (by simp)]
    unfold textU unmark Lib.trimPrefix
    rw [hp, if_neg (by simp), dec_self h]
  | true =>
    rw [if_pos rfl]
    obtain ⟨r, hr⟩ := List.isPrefixOf_iff_prefix.1 hp
    subst hr
    unfold textU
    rw [unmark_mark, dec_self (a := r) (mark_tail h)]
theorem text_marked {s : List UInt8} (h : CharsU s) : textU ([239, 187, 191] ++ s) = s := by
  unfold textU
  rw [unmark_mark, dec_self h]
theorem text_plain {s : List UInt8} (h : CharsU s) (hp : Lib.hasPrefix s [239, 187, 191] = false) : textU s = s := by
  unfold textU unmark Lib.trimPrefix
  rw [hp, if_neg (by simp), dec_self h]
end Go.Proofs.YtfbmabbehiicmaaDoor
