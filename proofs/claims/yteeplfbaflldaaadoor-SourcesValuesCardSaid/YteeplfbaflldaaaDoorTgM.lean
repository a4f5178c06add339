/- tags, as lists of bytes: what the program reads. -/
import Derived.Test.YteeplfbaflldaaaDoorTg1
import Derived.Test.YteeplfbaflldaaaDoorRfb
import Derived.Test.YteeplfbaflldaaaDoorLists
import Derived.Test.YteeplfbaflldaaaDoorLin
set_option linter.unusedVariables false
set_option linter.unusedSimpArgs false
namespace Go.Proofs.YteeplfbaflldaaaDoor.T10
open Go.RowKit R9

abbrev At := List UInt8 × List UInt8
def fffd : List UInt8 := [239, 191, 189]
def cleanB (c : UInt8) : List UInt8 := if c = 0 then fffd else [lowB c]
def cleanL (l : List UInt8) : List UInt8 := l.flatMap cleanB
theorem low_app (a b : List UInt8) : lowL (a ++ b) = lowL a ++ lowL b := by simp [lowL]
theorem clean_eq (l : List UInt8) : lowL (Lib.replaceAll l [0] fffd) = cleanL l := by
  induction l with
  | nil => rw [repl_nil _ _ (by simp) (by decide)]; rfl
  | cons c r ih =>
    by_cases h : c = 0
    · subst h
      have e : Lib.replaceAll (0 :: r) [0] fffd = fffd ++ Lib.replaceAll r [0] fffd := repl_hit [0] fffd r (by simp) (by decide)
      rw [e, low_app, ih]
      rfl
    · rw [repl_miss _ _ _ _ (by simp) (by decide) (by simp [List.isPrefixOf]; exact fun e => h e.symm)]
      show lowB c :: lowL (Lib.replaceAll r [0] fffd) = cleanL (c :: r)
      rw [ih]
      simp [cleanL, cleanB, h]

/-- A value as it is told. -/
def valF : Nat → List UInt8 → List UInt8
  | 0, _ => []
  | _ + 1, [] => []
  | n + 1, c :: r => match findS (c :: r) true with
    | some (ch, k) => (Utf8.encode ch).data.toList ++ valF n ((c :: r).drop k)
    | none => (if c = 0 then fffd else [c]) ++ valF n r
def valL (l : List UInt8) : List UInt8 := valF l.length l

def stopA (c : UInt8) : Bool := c == 47 || c == 62
def stopB (c : UInt8) : Bool := c == 47 || c == 62 || c == 61
def stopC (c : UInt8) : Bool := c == 62
def upN (p : UInt8 → Bool) (l : List UInt8) : Nat := (l.takeWhile fun c => !(blB c) && !(p c)).length

def toN (c : UInt8) (l : List UInt8) : Nat := (l.takeWhile fun x => x != c).length
/-- What a value is written as, from behind its quote or from its begin on, and how many bytes it takes. -/
def attrL (r : List UInt8) : At × Nat :=
  let e := 1 + upN stopB (r.drop 1)
  let nm := cleanL (r.take e)
  let b := e + skipN (r.drop e)
  if r[b]? = some 61 then
    let v := b + 1 + skipN (r.drop (b + 1))
    match r[v]? with
    | none => ((nm, []), v)
    | some c =>
      if c = 62 then ((nm, []), v)
      else if c = 34 ∨ c = 39 then
        (if v + 1 + toN c (r.drop (v + 1)) < r.length then ((nm, valL ((r.drop (v + 1)).take (toN c (r.drop (v + 1))))), v + 1 + toN c (r.drop (v + 1)) + 1)
          else ((nm, []), r.length))
      else ((nm, valL ((r.drop v).take (upN stopC (r.drop v)))), v + upN stopC (r.drop v))
  else ((nm, []), e)

/-- What stands behind a tag's name: its attributes, whether it closes itself, the place behind it. -/
def restF : Nat → List UInt8 → List At → Bool → Nat → Option (List At × Bool × Nat)
  | 0, _, _, _, _ => none
  | _ + 1, [], _, _, _ => none
  | n + 1, c :: t, acc, self, i =>
    if c = 62 then some (acc, self, i + 1)
    else if blB c = true then restF n t acc self (i + 1)
    else if c = 47 then restF n t acc (t.head? == some 62) (i + 1)
    else restF n ((c :: t).drop (attrL (c :: t)).2) (acc ++ [(attrL (c :: t)).1]) self (i + (attrL (c :: t)).2)

def addA (s : List At × Bool) (a : At) : List At × Bool := if s.1.any (fun x => x.1 == a.1) then (s.1, true) else (s.1 ++ [a], s.2)
def keepL (l : List At) : List At × Bool := l.foldl addA ([], false)

structure Tok where
  fin : Bool
  name : List UInt8
  attrs : List At
  dup : Bool
  self : Bool
  next : Nat
deriving DecidableEq
def readL (l : List UInt8) (a : Nat) : Option Tok :=
  if (beginL l a).1 = 0 then none else
  match restF (l.length + 1) (l.drop ((beginL l a).1 + upN stopA (l.drop (beginL l a).1))) [] false ((beginL l a).1 + upN stopA (l.drop (beginL l a).1)) with
  | none => none
  | some (acc, self, j) => some (if (beginL l a).2 then ⟨true, cleanL ((l.drop (beginL l a).1).take (upN stopA (l.drop (beginL l a).1))), [], false, false, j⟩
      else ⟨false, cleanL ((l.drop (beginL l a).1).take (upN stopA (l.drop (beginL l a).1))), (keepL acc).1, (keepL acc).2, self, j⟩)

theorem upN_le (p : UInt8 → Bool) (l : List UInt8) : upN p l ≤ l.length := (List.takeWhile_prefix _).length_le
theorem skipN_le (l : List UInt8) : skipN l ≤ l.length := (List.takeWhile_prefix _).length_le
theorem upN_step (p : UInt8 → Bool) (l : List UInt8) (i : Nat) (c : UInt8) (h : l[i]? = some c) (hb : blB c = false) (hp : p c = false) : upN p (l.drop i) = upN p (l.drop (i + 1)) + 1 := by
  have hl := (List.getElem?_eq_some_iff.1 h).1
  have he := (List.getElem?_eq_some_iff.1 h).2
  unfold upN
  rw [List.drop_eq_getElem_cons hl, he, List.takeWhile_cons]
  simp [hb, hp]
theorem upN_stop (p : UInt8 → Bool) (l : List UInt8) (i : Nat) (h : ∀ c, l[i]? = some c → blB c = true ∨ p c = true) : upN p (l.drop i) = 0 := by
  unfold upN
  cases hd : l.drop i with
  | nil => rfl
  | cons x t =>
    have h1 : (l.drop i)[0]? = some x := by rw [hd]; rfl
    rw [List.getElem?_drop] at h1
    rw [List.takeWhile_cons]
    rcases h x h1 with h2 | h2 <;> simp [h2]
theorem valF_more : ∀ (n : Nat) (l : List UInt8), l.length ≤ n → valF n l = valL l := by
  have key : ∀ (k n m : Nat) (l : List UInt8), l.length ≤ k → l.length ≤ n → l.length ≤ m → valF n l = valF m l := by
    intro k
    induction k with
    | zero =>
      intro n m l h _ _
      have : l = [] := List.eq_nil_of_length_eq_zero (by omega)
      subst this
      cases n <;> cases m <;> rfl
    | succ k ih =>
      intro n m l h h1 h2
      cases l with
      | nil => cases n <;> cases m <;> rfl
      | cons c r =>
        simp at h h1 h2
        obtain ⟨n, rfl⟩ : ∃ j, n = j + 1 := ⟨n - 1, by omega⟩
        obtain ⟨m, rfl⟩ : ∃ j, m = j + 1 := ⟨m - 1, by omega⟩
        unfold valF
        cases hf : findS (c :: r) true with
        | none => rw [ih n m r (by omega) (by omega) (by omega)]
        | some x =>
          obtain ⟨ch, j⟩ := x
          have hj := (find_bounds hf).1
          have hl : ((c :: r).drop j).length ≤ r.length := by rw [List.length_drop]; simp; omega
          simp only []
          rw [ih n m _ (by omega) (by omega) (by omega)]
  intro n l h
  exact key n n l.length l h h (Nat.le_refl _)
theorem attr_pos (r : List UInt8) (h : 0 < r.length) : 1 ≤ (attrL r).2 ∧ (attrL r).2 ≤ r.length := by
  have h1 := upN_le stopB (r.drop 1)
  rw [List.length_drop] at h1
  obtain ⟨e, he⟩ : ∃ e, 1 + upN stopB (r.drop 1) = e := ⟨_, rfl⟩
  have h2 := skipN_le (r.drop e)
  rw [List.length_drop] at h2
  obtain ⟨b, hb⟩ : ∃ b, e + skipN (r.drop e) = b := ⟨_, rfl⟩
  have h3 := skipN_le (r.drop (b + 1))
  rw [List.length_drop] at h3
  obtain ⟨v, hv⟩ : ∃ v, b + 1 + skipN (r.drop (b + 1)) = v := ⟨_, rfl⟩
  unfold attrL
  simp only [he, hb, hv]
  by_cases h61 : r[b]? = some 61
  · rw [if_pos h61]
    have hbl := (List.getElem?_eq_some_iff.1 h61).1
    cases hc : r[v]? with
    | none => simp only []; omega
    | some c =>
      have hvl := (List.getElem?_eq_some_iff.1 hc).1
      simp only []
      by_cases h62 : c = 62
      · rw [if_pos h62]; simp only []; omega
      · rw [if_neg h62]
        by_cases hq : c = 34 ∨ c = 39
        · rw [if_pos hq]
          by_cases hi : v + 1 + toN c (r.drop (v + 1)) < r.length
          · rw [if_pos hi]; simp only []; omega
          · rw [if_neg hi]; simp only []; omega
        · rw [if_neg hq]
          have h4 := upN_le stopC (r.drop v)
          rw [List.length_drop] at h4
          simp only []; omega
  · rw [if_neg h61]; simp only []; omega
end Go.Proofs.YteeplfbaflldaaaDoor.T10
