/- raws, as lists of bytes: what the program reads. raws, as lists of bytes: what the document reads is what the program reads. raws, as lists of bytes: comments that are put together; raw texts without an end; scripts within scripts. raws, as lists of bytes: scripts within scripts, put together. -/
import Derived.Test.YtbpdmbmooboimaaDoorTgM
import Derived.Test.YtbpdmbmooboimaaDoorRfb
import Derived.Lib.IndexMore
set_option linter.unusedVariables false
set_option linter.unusedSimpArgs false
namespace Go.Proofs.YtbpdmbmooboimaaDoor.R11
open Go R9 T10

def cleanC (c : UInt8) : List UInt8 := if c = 0 then [239, 191, 189] else [c]
/-- A text with U+FFFD for each byte 0. -/
def cleanR (l : List UInt8) : List UInt8 := l.flatMap cleanC
theorem cleanR_eq (l : List UInt8) : Lib.replaceAll l [0] [239, 191, 189] = cleanR l := by
  induction l with
  | nil => rw [repl_nil _ _ (by simp) (by decide)]; rfl
  | cons c r ih =>
    by_cases h : c = 0
    · subst h
      have e : Lib.replaceAll (0 :: r) [0] [239, 191, 189] = [239, 191, 189] ++ Lib.replaceAll r [0] [239, 191, 189] := repl_hit [0] [239, 191, 189] r (by simp) (by decide)
      rw [e, ih]
      simp [cleanR, cleanC]
    · rw [repl_miss _ _ _ _ (by simp) (by decide) (by simp [List.isPrefixOf]; exact fun e => h e.symm), ih]
      simp [cleanR, cleanC, h]
theorem cleanR_app (a b : List UInt8) : cleanR (a ++ b) = cleanR a ++ cleanR b := by simp [cleanR]
theorem cleanR_cons (c : UInt8) (r : List UInt8) : cleanR (c :: r) = cleanC c ++ cleanR r := by simp [cleanR]
theorem cleanC_len (c : UInt8) : (cleanC c).length ≤ 3 ∧ 1 ≤ (cleanC c).length := by unfold cleanC; split <;> simp
theorem cleanR_len (l : List UInt8) : (cleanR l).length ≤ 3 * l.length := by
  induction l with
  | nil => simp [cleanR]
  | cons c r ih =>
    rw [cleanR_cons, List.length_append, List.length_cons]
    have := (cleanC_len c).1
    omega
theorem cleanR_id {l : List UInt8} (h : ∀ c ∈ l, c ≠ 0) : cleanR l = l := by
  induction l with
  | nil => rfl
  | cons c r ih =>
    rw [cleanR_cons, ih (fun d hd => h d (List.mem_cons_of_mem _ hd))]
    unfold cleanC
    rw [if_neg (h c (by simp))]
    rfl

/-- Does a text stand at the front, but for A to Z? -/
def hasL (r t : List UInt8) : Bool := decide (t.length ≤ r.length) && sameL (r.take t.length) t

/-- The first place of a text in another one. -/
def fnd (l e : List UInt8) : Option Nat := if 0 ≤ Lib.index l e then some (Lib.index l e).toNat else none
theorem fnd_some {l e : List UInt8} {i : Nat} (h : fnd l e = some i) : Lib.index l e = (i : Int) ∧ i + e.length ≤ l.length ∧ e.isPrefixOf (l.drop i) = true ∧ ∀ j, j < i → e.isPrefixOf (l.drop j) = false := by
  unfold fnd at h
  split at h
  · rename_i h0
    injection h with h
    have hr := Lib.index_room l e h0
    rcases Lib.index_spec l e with ⟨h1, _⟩ | ⟨k, h1, h2, h3, h4⟩
    · omega
    · have hk : k = i := by omega
      subst hk
      exact ⟨h1, by omega, h3, h4⟩
  · cases h
theorem fnd_none {l e : List UInt8} (h : fnd l e = none) : Lib.index l e = -1 ∧ ∀ j, j ≤ l.length → e.isPrefixOf (l.drop j) = false := by
  unfold fnd at h
  split at h
  · cases h
  · rename_i h0
    rcases Lib.index_spec l e with ⟨h1, h2⟩ | ⟨k, h1, h2, h3, h4⟩
    · exact ⟨h1, h2⟩
    · omega
theorem fnd_first {l e : List UInt8} {i : Nat} (hi : i ≤ l.length) (h1 : e.isPrefixOf (l.drop i) = true) (h2 : ∀ j, j < i → e.isPrefixOf (l.drop j) = false) : fnd l e = some i := by
  have := Lib.index_first hi h1 h2
  unfold fnd
  rw [this, if_pos (by omega)]
  rfl
theorem fnd_no {l e : List UInt8} (h : ∀ j, j ≤ l.length → e.isPrefixOf (l.drop j) = false) : fnd l e = none := by
  have := Lib.index_none (s := l) (sub := e) h
  unfold fnd
  rw [this]
  rfl
theorem fnd_nil (e : List UInt8) (h : e ≠ []) : fnd [] e = none := by
  apply fnd_no
  intro j hj
  cases e with
  | nil => exact absurd rfl h
  | cons a t => simp [List.isPrefixOf]
theorem fnd_hit {l e : List UInt8} (h : e.isPrefixOf l = true) : fnd l e = some 0 := fnd_first (Nat.zero_le _) h (fun j hj => absurd hj (Nat.not_lt_zero _))
theorem fnd_miss {c : UInt8} {l e : List UInt8} (h : e.isPrefixOf (c :: l) = false) : fnd (c :: l) e = (fnd l e).map (· + 1) := by
  cases hf : fnd l e with
  | none =>
    have h1 := (fnd_none hf).2
    apply fnd_no
    intro j hj
    cases j with
    | zero => exact h
    | succ j => exact h1 j (by simpa using hj)
  | some i =>
    obtain ⟨_, h1, h2, h3⟩ := fnd_some hf
    show _ = some (i + 1)
    apply fnd_first (by simp; omega)
    · simpa using h2
    · intro j hj
      cases j with
      | zero => exact h
      | succ j => exact h3 j (by omega)
theorem fnd_drop {l e : List UInt8} {k : Nat} (hk : k ≤ l.length) (h : ∀ j, j < k → e.isPrefixOf (l.drop j) = false) : fnd l e = (fnd (l.drop k) e).map (· + k) := by
  induction k generalizing l with
  | zero => simp
  | succ k ih =>
    cases l with
    | nil => simp at hk
    | cons c t =>
      have h0 := h 0 (Nat.succ_pos _)
      rw [List.drop_zero] at h0
      rw [fnd_miss h0, ih (by simpa using hk) (fun j hj => by have := h (j + 1) (by omega); simpa using this), List.drop_succ_cons, Option.map_map]
      congr 1

/-- What stands ahead of the first end, how many bytes it is with the end, and whether there is one. -/
def upL (l e : List UInt8) : List UInt8 × Nat × Bool :=
  match fnd l e with
  | some i => (l.take i, i + e.length, true)
  | none => (l, l.length, false)
theorem upL_le (l e : List UInt8) : (upL l e).2.1 ≤ l.length ∧ (upL l e).1.length ≤ (upL l e).2.1 := by
  unfold upL
  cases hf : fnd l e with
  | none => exact ⟨Nat.le_refl _, Nat.le_refl _⟩
  | some i =>
    obtain ⟨_, h1, _⟩ := fnd_some hf
    simp only [List.length_take]
    omega

/-- A comment's text, and how many bytes it takes, of what stands behind its front. -/
def comL (r : List UInt8) : List UInt8 × Nat :=
  if [62].isPrefixOf r = true then ([], 1)
  else if [45, 62].isPrefixOf r = true then ([], 2)
  else match fnd r [45, 45, 62], fnd r [45, 45, 33, 62] with
    | some i, some j => if j < i then (r.take j, j + 4) else (r.take i, i + 3)
    | some i, none => (r.take i, i + 3)
    | none, some j => (r.take j, j + 4)
    | none, none =>
      if [45, 45, 33].isSuffixOf r = true then (r.take (r.length - 3), r.length)
      else if [45, 45].isSuffixOf r = true then (r.take (r.length - 2), r.length)
      else if [45].isSuffixOf r = true then (r.take (r.length - 1), r.length)
      else (r, r.length)
theorem comL_le (r : List UInt8) : (comL r).2 ≤ r.length ∧ (comL r).1.length ≤ r.length := by
  unfold comL
  split
  · rename_i h
    have := (List.isPrefixOf_iff_prefix.1 h).length_le
    simp at this ⊢; omega
  split
  · rename_i h
    have := (List.isPrefixOf_iff_prefix.1 h).length_le
    simp at this ⊢; omega
  split
  · rename_i i j h1 h2
    have e1 := (fnd_some h1).2.1
    have e2 := (fnd_some h2).2.1
    simp at e1 e2
    split <;> simp <;> omega
  · rename_i i h1 h2
    have e1 := (fnd_some h1).2.1
    simp at e1
    simp; omega
  · rename_i j h1 h2
    have e1 := (fnd_some h2).2.1
    simp at e1
    simp; omega
  · repeat' split
    all_goals (simp; try omega)

/-- A doctype's name, whether it asks for quirks, and how many bytes it takes, of what stands behind its front. -/
def docL (r : List UInt8) : List UInt8 × Bool × Nat :=
  let u := upL r [62]
  let t := u.1.drop (skipN u.1)
  let n := t.takeWhile (fun c => !blB c)
  (lowL (cleanR n), (n == [] || !u.2.2 || !((t.drop n.length).drop (skipN (t.drop n.length)) == [])), u.2.1)

/-- Does a name stand at the front, and a blank, / or > behind it? -/
def wordL (r nm : List UInt8) : Bool := hasL r nm && (match r[nm.length]? with | some c => blB c || c == 47 || c == 62 | none => false)
def endsL (r nm : List UInt8) : Bool := [60, 47].isPrefixOf r && wordL (r.drop 2) nm
def scr : List UInt8 := [115, 99, 114, 105, 112, 116]
def begL (r : List UInt8) : Bool := r.head? == some 60 && wordL (r.drop 1) scr
/-- How many bytes stand ahead of an end of a name. -/
def endN (nm : List UInt8) : List UInt8 → Nat
  | [] => 0
  | c :: r => if endsL (c :: r) nm = true then 0 else endN nm r + 1
def nxt (st : Nat) (l : List UInt8) : Nat :=
  if st = 0 then (if [60, 33, 45, 45].isPrefixOf l = true then 1 else 0)
  else if [45, 45, 62].isPrefixOf l = true then 0
  else if st = 1 then (if begL l = true then 2 else 1)
  else (if endsL l scr = true then 1 else 2)
/-- How many bytes stand ahead of a script's end. -/
def scan (nm : List UInt8) : Nat → List UInt8 → Nat
  | _, [] => 0
  | st, c :: r => if st < 2 ∧ endsL (c :: r) nm = true then 0 else scan nm (nxt st (c :: r)) r + 1
theorem endN_le (nm : List UInt8) : ∀ l, endN nm l ≤ l.length
  | [] => Nat.le_refl _
  | c :: r => by
    have := endN_le nm r
    unfold endN
    split <;> simp <;> omega
theorem scan_le (nm : List UInt8) : ∀ st l, scan nm st l ≤ l.length
  | _, [] => Nat.le_refl _
  | st, c :: r => by
    have := scan_le nm (nxt st (c :: r)) r
    unfold scan
    split <;> simp <;> omega
/-- A byte that is neither < nor - goes by. -/
theorem scan_plain (nm : List UInt8) (st : Nat) (hst : st ≤ 2) (c : UInt8) (r : List UInt8) (h1 : c ≠ 60) (h2 : c ≠ 45) : scan nm st (c :: r) = scan nm st r + 1 := by
  have e1 : ∀ n, endsL (c :: r) n = false := by
    intro n
    have : [60, 47].isPrefixOf (c :: r) = false := by simp [List.isPrefixOf]; intro h; exact absurd h.symm h1
    unfold endsL; rw [this]; rfl
  have e2 : [60, 33, 45, 45].isPrefixOf (c :: r) = false := by simp [List.isPrefixOf]; intro h; exact absurd h.symm h1
  have e3 : [45, 45, 62].isPrefixOf (c :: r) = false := by simp [List.isPrefixOf]; intro h; exact absurd h.symm h2
  have e4 : begL (c :: r) = false := by unfold begL; simp [h1]
  have e5 : nxt st (c :: r) = st := by
    unfold nxt
    rw [e2, e3, e4, e1]
    have : st = 0 ∨ st = 1 ∨ st = 2 := by omega
    rcases this with rfl | rfl | rfl <;> rfl
  conv => lhs; unfold scan
  rw [e1, e5]
  simp
/-- A text with the characters of its references, clean. -/
def resF : Nat → List UInt8 → List UInt8
  | 0, _ => []
  | _ + 1, [] => []
  | n + 1, c :: r => match findS (c :: r) false with
    | some (ch, k) => (Utf8.encode ch).data.toList ++ resF n ((c :: r).drop k)
    | none => cleanC c ++ resF n r
def resL (l : List UInt8) : List UInt8 := resF l.length l
theorem resF_more : ∀ (n : Nat) (l : List UInt8), l.length ≤ n → resF n l = resL l := by
  have key : ∀ (n m : Nat) (l : List UInt8), l.length ≤ n → l.length ≤ m → resF n l = resF m l := by
    intro n
    induction n with
    | zero =>
      intro m l h1 h2
      have : l = [] := List.length_eq_zero_iff.1 (by omega)
      subst this
      cases m <;> rfl
    | succ n ih =>
      intro m l h1 h2
      cases l with
      | nil => cases m <;> rfl
      | cons c r =>
        cases m with
        | zero => simp at h2
        | succ m =>
          unfold resF
          cases hf : findS (c :: r) false with
          | none => simp only []; rw [ih m r (by simpa using h1) (by simpa using h2)]
          | some x =>
            obtain ⟨ch, k⟩ := x
            have hb := find_bounds hf
            simp only []
            rw [ih m _ (by simp at h1 ⊢; omega) (by simp at h2 ⊢; omega)]
  intro n l h
  exact key n l.length l h (Nat.le_refl _)
theorem res_hit {l : List UInt8} {k : Nat} {ch : Int} {j : Nat} (h : findS (l.drop k) false = some (ch, j)) : resL (l.drop k) = (Utf8.encode ch).data.toList ++ resL (l.drop (k + j)) := by
  have hb := find_bounds h
  obtain ⟨c, r, hr⟩ : ∃ c r, l.drop k = c :: r := by
    cases hd : l.drop k with
    | nil => rw [hd] at hb; simp at hb
    | cons c r => exact ⟨c, r, rfl⟩
  rw [← List.drop_drop]
  rw [hr] at h hb ⊢
  conv => lhs; unfold resL
  show resF (r.length + 1) (c :: r) = _
  unfold resF
  rw [h]
  simp only []
  rw [resF_more _ _ (by rw [List.length_drop]; simp; omega)]
theorem res_miss {l : List UInt8} {k : Nat} {c : UInt8} (hc : l[k]? = some c) (h : findS (l.drop k) false = none) : resL (l.drop k) = cleanC c ++ resL (l.drop (k + 1)) := by
  have hl := (List.getElem?_eq_some_iff.1 hc).1
  have hd : l.drop k = c :: l.drop (k + 1) := by
    rw [List.drop_eq_getElem_cons hl]
    congr 1
    exact (List.getElem?_eq_some_iff.1 hc).2
  rw [hd] at h ⊢
  conv => lhs; unfold resL
  show resF ((l.drop (k + 1)).length + 1) (c :: l.drop (k + 1)) = _
  unfold resF
  rw [h]
  simp only []
  rw [resF_more _ _ (Nat.le_refl _)]
/-- How many bytes are raw, in a state of the tokenizer. -/
def rawN (l : List UInt8) (st : Nat) (nm : List UInt8) : Nat := if st = 1 ∨ st = 2 then endN nm l else if st = 3 then scan nm 0 l else l.length
theorem rawN_le (l : List UInt8) (st : Nat) (nm : List UInt8) : rawN l st nm ≤ l.length := by
  unfold rawN
  have := endN_le nm l
  have := scan_le nm 0 l
  split
  · assumption
  · split <;> omega
def rawT (l : List UInt8) (st : Nat) (nm : List UInt8) : List UInt8 := if st = 1 then resL (l.take (rawN l st nm)) else cleanR (l.take (rawN l st nm))
end Go.Proofs.YtbpdmbmooboimaaDoor.R11
set_option linter.unusedVariables false
set_option linter.unusedSimpArgs false
namespace Go.Proofs.YtbpdmbmooboimaaDoor.R11
open Go R9 T10

theorem isUp_bd (x : UInt8) (h : isUp x = true) : 97 ≤ (lowB x).toNat ∧ (lowB x).toNat ≤ 122 := by
  have h1 := lowB_up h
  have h2 := (isUp_iff x).1 h
  omega
/-- A byte that is no letter a to z is of lower case only by itself. -/
theorem low_is {x c : UInt8} (hc : c.toNat < 97 ∨ 122 < c.toNat) (hu : isUp c = false) : lowB x = c ↔ x = c := by
  constructor
  · intro h
    cases hx : isUp x with
    | true =>
      have := isUp_bd x hx
      rw [h] at this
      omega
    | false => rw [lowB_not hx] at h; exact h
  · rintro rfl
    exact lowB_not hu
def plainC (c : UInt8) : Bool := (decide (c.toNat < 65) || decide (90 < c.toNat)) && (decide (c.toNat < 97) || decide (122 < c.toNat))
theorem low_plain {x c : UInt8} (h : plainC c = true) : lowB x = c ↔ x = c := by
  unfold plainC at h
  simp at h
  apply low_is (by omega)
  cases hu : isUp c with
  | false => rfl
  | true => have := (isUp_iff c).1 hu; omega
theorem low_self {c : UInt8} (h : plainC c = true) : lowB c = c := (low_plain h).2 rfl
theorem lowL_plain : ∀ (a t : List UInt8), (∀ c ∈ t, plainC c = true) → (lowL a = lowL t ↔ a = t)
  | [], [], _ => by simp [lowL]
  | [], c :: t, _ => by simp [lowL]
  | x :: a, [], _ => by simp [lowL]
  | x :: a, c :: t, h => by
    have ih := lowL_plain a t (fun d hd => h d (List.mem_cons_of_mem _ hd))
    have hc := h c (by simp)
    have e1 : lowL (x :: a) = lowB x :: lowL a := rfl
    have e2 : lowL (c :: t) = lowB c :: lowL t := rfl
    rw [e1, e2, low_self hc]
    constructor
    · intro e
      injection e with e3 e4
      rw [(low_plain hc).1 e3, ih.1 e4]
    · intro e
      injection e with e3 e4
      rw [(low_plain hc).2 e3, ih.2 e4]
theorem prefix_take (t r : List UInt8) : t.isPrefixOf r = (decide (t.length ≤ r.length) && (r.take t.length == t)) := by
  rw [Bool.eq_iff_iff, List.isPrefixOf_iff_prefix, List.prefix_iff_eq_take]
  simp only [Bool.and_eq_true, decide_eq_true_eq, beq_iff_eq]
  constructor
  · intro h
    have := congrArg List.length h
    rw [List.length_take] at this
    exact ⟨by omega, h.symm⟩
  · rintro ⟨_, h⟩
    exact h.symm
/-- A text without letters stands there as it is. -/
theorem has_plain (r t : List UInt8) (h : ∀ c ∈ t, plainC c = true) : hasL r t = t.isPrefixOf r := by
  rw [prefix_take]
  unfold hasL
  congr 1
  rw [Bool.eq_iff_iff]
  unfold sameL
  simp only [beq_iff_eq]
  exact lowL_plain _ _ h
theorem has_app (r a b : List UInt8) : hasL r (a ++ b) = (hasL r a && hasL (r.drop a.length) b) := by
  rw [Bool.eq_iff_iff]
  unfold hasL sameL
  simp only [Bool.and_eq_true, decide_eq_true_eq, beq_iff_eq, List.length_append, List.length_drop]
  have e1 : ∀ x y : List UInt8, lowL (x ++ y) = lowL x ++ lowL y := by intro x y; simp [lowL]
  have e2 : ∀ x : List UInt8, (lowL x).length = x.length := by intro x; simp [lowL]
  constructor
  · rintro ⟨h1, h2⟩
    have e3 : r.take (a.length + b.length) = r.take a.length ++ (r.drop a.length).take b.length := by rw [List.take_add]
    rw [e3, e1, e1] at h2
    have h3 := List.append_inj h2 (by rw [e2, e2, List.length_take]; omega)
    exact ⟨⟨by omega, h3.1⟩, by omega, h3.2⟩
  · rintro ⟨⟨h1, h2⟩, h3, h4⟩
    refine ⟨by omega, ?_⟩
    rw [List.take_add, e1, e1, h2, h4]

theorem com_gt {r : List UInt8} (h : hasL r [62] = true) : comL r = ([], 1) := by
  rw [has_plain _ _ (by decide)] at h
  unfold comL
  rw [if_pos h]
theorem com_dash {r : List UInt8} (h1 : hasL r [62] = false) (h : hasL r [45, 62] = true) : comL r = ([], 2) := by
  rw [has_plain _ _ (by decide)] at h h1
  unfold comL
  rw [if_neg (by rw [h1]; simp), if_pos h]
theorem com_rest {r : List UInt8} (h1 : hasL r [62] = false) (h : hasL r [45, 62] = false) : comL r = match fnd r [45, 45, 62], fnd r [45, 45, 33, 62] with
    | some i, some j => if j < i then (r.take j, j + 4) else (r.take i, i + 3)
    | some i, none => (r.take i, i + 3)
    | none, some j => (r.take j, j + 4)
    | none, none =>
      if [45, 45, 33].isSuffixOf r = true then (r.take (r.length - 3), r.length)
      else if [45, 45].isSuffixOf r = true then (r.take (r.length - 2), r.length)
      else if [45].isSuffixOf r = true then (r.take (r.length - 1), r.length)
      else (r, r.length) := by
  rw [has_plain _ _ (by decide)] at h h1
  unfold comL
  rw [if_neg (by rw [h1]; simp), if_neg (by rw [h]; simp)]
  all_goals (cases fnd r [45, 45, 62] <;> cases fnd r [45, 45, 33, 62] <;> rfl)
theorem pre3 (l : List UInt8) (j : Nat) (a b c : UInt8) : [a, b, c].isPrefixOf (l.drop j) = true ↔ l[j]? = some a ∧ l[j + 1]? = some b ∧ l[j + 2]? = some c := by
  rw [List.isPrefixOf_iff_prefix]
  constructor
  · rintro ⟨t, ht⟩
    have h0 : (l.drop j)[0]? = some a := by rw [← ht]; rfl
    have h1 : (l.drop j)[1]? = some b := by rw [← ht]; rfl
    have h2 : (l.drop j)[2]? = some c := by rw [← ht]; rfl
    rw [List.getElem?_drop] at h0 h1 h2
    exact ⟨h0, h1, h2⟩
  · rintro ⟨h0, h1, h2⟩
    have e0 := (List.getElem?_eq_some_iff.1 h0)
    have e1 := (List.getElem?_eq_some_iff.1 h1)
    have e2 := (List.getElem?_eq_some_iff.1 h2)
    rw [List.drop_eq_getElem_cons e0.1, List.drop_eq_getElem_cons e1.1, List.drop_eq_getElem_cons e2.1, e0.2, e1.2, e2.2]
    exact ⟨_, rfl⟩
theorem pre1 (l : List UInt8) (j : Nat) (a : UInt8) : [a].isPrefixOf (l.drop j) = true ↔ l[j]? = some a := by
  rw [List.isPrefixOf_iff_prefix]
  constructor
  · rintro ⟨t, ht⟩
    have h0 : (l.drop j)[0]? = some a := by rw [← ht]; rfl
    rw [List.getElem?_drop] at h0
    exact h0
  · intro h0
    have e0 := (List.getElem?_eq_some_iff.1 h0)
    rw [List.drop_eq_getElem_cons e0.1, e0.2]
    exact ⟨_, rfl⟩
theorem pre2 (l : List UInt8) (j : Nat) (a b : UInt8) : [a, b].isPrefixOf (l.drop j) = true ↔ l[j]? = some a ∧ l[j + 1]? = some b := by
  rw [List.isPrefixOf_iff_prefix]
  constructor
  · rintro ⟨t, ht⟩
    have h0 : (l.drop j)[0]? = some a := by rw [← ht]; rfl
    have h1 : (l.drop j)[1]? = some b := by rw [← ht]; rfl
    rw [List.getElem?_drop] at h0 h1
    exact ⟨h0, h1⟩
  · rintro ⟨h0, h1⟩
    have e0 := (List.getElem?_eq_some_iff.1 h0)
    have e1 := (List.getElem?_eq_some_iff.1 h1)
    rw [List.drop_eq_getElem_cons e0.1, List.drop_eq_getElem_cons e1.1, e0.2, e1.2]
    exact ⟨_, rfl⟩
theorem pre4 (l : List UInt8) (j : Nat) (a b c d : UInt8) : [a, b, c, d].isPrefixOf (l.drop j) = true ↔ l[j]? = some a ∧ l[j + 1]? = some b ∧ l[j + 2]? = some c ∧ l[j + 3]? = some d := by
  rw [List.isPrefixOf_iff_prefix]
  constructor
  · rintro ⟨t, ht⟩
    have h0 : (l.drop j)[0]? = some a := by rw [← ht]; rfl
    have h1 : (l.drop j)[1]? = some b := by rw [← ht]; rfl
    have h2 : (l.drop j)[2]? = some c := by rw [← ht]; rfl
    have h3 : (l.drop j)[3]? = some d := by rw [← ht]; rfl
    rw [List.getElem?_drop] at h0 h1 h2 h3
    exact ⟨h0, h1, h2, h3⟩
  · rintro ⟨h0, h1, h2, h3⟩
    have e0 := (List.getElem?_eq_some_iff.1 h0)
    have e1 := (List.getElem?_eq_some_iff.1 h1)
    have e2 := (List.getElem?_eq_some_iff.1 h2)
    have e3 := (List.getElem?_eq_some_iff.1 h3)
    rw [List.drop_eq_getElem_cons e0.1, List.drop_eq_getElem_cons e1.1, List.drop_eq_getElem_cons e2.1, List.drop_eq_getElem_cons e3.1, e0.2, e1.2, e2.2, e3.2]
    exact ⟨_, rfl⟩
theorem two_ends {r : List UInt8} {i j : Nat} (h1 : fnd r [45, 45, 62] = some i) (h2 : fnd r [45, 45, 33, 62] = some j) : i ≠ j := by
  have e1 := (pre3 _ _ _ _ _).1 (fnd_some h1).2.2.1
  have e2 := (pre4 _ _ _ _ _ _).1 (fnd_some h2).2.2.1
  rintro rfl
  have := e1.2.2.symm.trans e2.2.2.1
  simp at this
theorem com_one {r : List UInt8} {i : Nat} (h1 : hasL r [62] = false) (h : hasL r [45, 62] = false) (hi : fnd r [45, 45, 62] = some i) (hj : ∀ j, fnd r [45, 45, 33, 62] = some j → i < j) : comL r = (r.take i, i + 3) := by
  rw [com_rest h1 h, hi]
  cases hf : fnd r [45, 45, 33, 62] with
  | none => rfl
  | some j =>
    simp only []
    rw [if_neg (by have := hj j hf; omega)]
theorem com_two {r : List UInt8} {j : Nat} (h1 : hasL r [62] = false) (h : hasL r [45, 62] = false) (hj : fnd r [45, 45, 33, 62] = some j) (hi : ∀ i, fnd r [45, 45, 62] = some i → ¬ i < j) : comL r = (r.take j, j + 4) := by
  rw [com_rest h1 h, hj]
  cases hf : fnd r [45, 45, 62] with
  | none => rfl
  | some i =>
    simp only []
    have := hi i hf
    have := two_ends hf hj
    rw [if_pos (by omega)]
theorem com_none {r : List UInt8} (h1 : hasL r [62] = false) (h : hasL r [45, 62] = false) (hi : fnd r [45, 45, 62] = none) (hj : fnd r [45, 45, 33, 62] = none) : comL r = if [45, 45, 33].isSuffixOf r = true then (r.take (r.length - 3), r.length)
      else if [45, 45].isSuffixOf r = true then (r.take (r.length - 2), r.length)
      else if [45].isSuffixOf r = true then (r.take (r.length - 1), r.length)
      else (r, r.length) := by
  rw [com_rest h1 h, hi, hj]
theorem suffix_take (t r : List UInt8) : t.isSuffixOf r = (decide (t.length ≤ r.length) && (r.drop (r.length - t.length) == t)) := by
  rw [Bool.eq_iff_iff, List.isSuffixOf_iff_suffix, List.suffix_iff_eq_drop]
  simp only [Bool.and_eq_true, decide_eq_true_eq, beq_iff_eq]
  constructor
  · intro h
    have := congrArg List.length h
    rw [List.length_drop] at this
    exact ⟨by omega, h.symm⟩
  · rintro ⟨_, h⟩
    exact h.symm

/-- What stands there in any case has those bytes. -/
theorem has_at {r t : List UInt8} (h : hasL r t = true) {j : Nat} (hj : j < t.length) : ∃ c, r[j]? = some c ∧ lowB c = lowB t[j] := by
  unfold hasL sameL at h
  simp only [Bool.and_eq_true, decide_eq_true_eq, beq_iff_eq] at h
  obtain ⟨h1, h2⟩ := h
  have hr : j < r.length := by omega
  refine ⟨r[j], List.getElem?_eq_getElem hr, ?_⟩
  have h3 := congrArg (fun l => l[j]?) h2
  simp only [lowL, List.getElem?_map, List.getElem?_take, if_pos hj] at h3
  rw [List.getElem?_eq_getElem hr, List.getElem?_eq_getElem hj] at h3
  simpa using h3
theorem has_len {r t : List UInt8} (h : hasL r t = true) : t.length ≤ r.length := by
  unfold hasL at h
  simp at h
  exact h.1
def docF : List UInt8 := [60, 33, 100, 111, 99, 116, 121, 112, 101]
theorem doc_find {r : List UInt8} (h : hasL r docF = true) : fnd r [62] = (fnd (r.drop 9) [62]).map (· + 9) := by
  apply fnd_drop (has_len h)
  intro j hj
  cases hp : [62].isPrefixOf (r.drop j) with
  | false => rfl
  | true =>
    have h1 := (pre1 _ _ _).1 hp
    obtain ⟨c, h2, h3⟩ := has_at h (j := j) hj
    rw [h1] at h2
    injection h2 with h2
    subst h2
    exfalso
    have : ∀ k (hk : k < 9), lowB (62 : UInt8) ≠ lowB (docF[k]'hk) := by decide
    exact this j hj h3
/-- The document's way through a text that is raw: its state, and how many dashes stand ahead. -/
def runt (nm : List UInt8) (sc : Bool) : Nat → Nat → List UInt8 → Nat
  | _, _, [] => 0
  | st, d, c :: r =>
    if st < 2 ∧ endsL (c :: r) nm = true then 0
    else if sc = false then runt nm sc st d r + 1
    else
      runt nm sc (let st1 := if c = 62 ∧ 2 ≤ d ∧ 0 < st then 0 else st
        if st1 = 1 ∧ begL (c :: r) = true then 2 else if st1 = 2 ∧ endsL (c :: r) scr = true then 1 else if st1 = 0 ∧ hasL (c :: r) [60, 33, 45, 45] = true then 1 else st1)
        (if c = 45 then d + 1 else 0) r + 1
theorem runt_plain (nm : List UInt8) (st d : Nat) : ∀ r, st < 2 → runt nm false st d r = endN nm r
  | [], _ => rfl
  | c :: r, h => by
    have ih := runt_plain nm st d r h
    unfold runt endN
    rw [ih]
    by_cases he : endsL (c :: r) nm = true
    · rw [if_pos ⟨h, he⟩, if_pos he]
    · rw [if_neg (fun x => he x.2), if_neg he]
      simp
/-- The two ways are as far. -/
def Alike (st su d : Nat) (r : List UInt8) : Prop :=
  (st = su ∧ (0 < su → ¬ (2 ≤ d ∧ r.head? = some 62) ∧ ¬ (1 ≤ d ∧ [45, 62].isPrefixOf r = true))) ∨
  (st = 0 ∧ 0 < su ∧ ((1 ≤ d ∧ [45, 62].isPrefixOf r = true) ∨ (2 ≤ d ∧ r.head? = some 62)))
theorem ends_head {c : UInt8} {r nm : List UInt8} (h : endsL (c :: r) nm = true) : c = 60 ∧ r.head? = some 47 := by
  unfold endsL at h
  simp only [Bool.and_eq_true] at h
  obtain ⟨h, _⟩ := h
  cases r with
  | nil => simp [List.isPrefixOf] at h
  | cons x t => simp [List.isPrefixOf] at h; exact ⟨h.1.symm, by rw [← h.2]; rfl⟩
theorem runt_scan (nm : List UInt8) : ∀ (r : List UInt8) (st su d : Nat), st ≤ 2 → su ≤ 2 → Alike st su d r → runt nm true su d r = scan nm st r
  | [], _, _, _, _, _, _ => by unfold runt scan; rfl
  | c :: r, st, su, d, hst, hsu, ha => by
    have ih := runt_scan nm r
    unfold runt scan
    by_cases h60 : c = 60
    · -- a <: both are in one state
      subst h60
      have hs : st = su := by
        rcases ha with ⟨h, _⟩ | ⟨_, _, ⟨_, h⟩ | ⟨_, h⟩⟩
        · exact h
        · simp [List.isPrefixOf] at h
        · simp at h
      subst hs
      by_cases he : st < 2 ∧ endsL (60 :: r) nm = true
      · rw [if_pos he, if_pos he]
      · rw [if_neg he, if_neg he, if_neg (by simp)]
        congr 1
        have e0 : [45, 45, 62].isPrefixOf ((60 : UInt8) :: r) = false := by simp [List.isPrefixOf]
        have e1 : hasL (60 :: r) [60, 33, 45, 45] = [60, 33, 45, 45].isPrefixOf ((60 : UInt8) :: r) := has_plain _ _ (by decide)
        have e2 : ((60 : UInt8) = 62 ∧ 2 ≤ d ∧ 0 < st) = False := by simp
        have e3 : ((60 : UInt8) = 45) = False := by simp
        simp only [e2, e3, if_false]
        have e4 : (if st = 1 ∧ begL (60 :: r) = true then 2 else if st = 2 ∧ endsL (60 :: r) scr = true then 1 else if st = 0 ∧ hasL (60 :: r) [60, 33, 45, 45] = true then 1 else st) = nxt st (60 :: r) := by
          unfold nxt
          rw [e0, e1]
          have : st = 0 ∨ st = 1 ∨ st = 2 := by omega
          rcases this with rfl | rfl | rfl <;> simp
        rw [e4]
        have hn : nxt st (60 :: r) ≤ 2 := by unfold nxt; repeat' split
                                             all_goals omega
        apply ih _ _ _ hn hn
        exact .inl ⟨rfl, fun _ => ⟨by simp, by simp⟩⟩
    · have he : ∀ n, endsL (c :: r) n = false := by
        intro n
        cases hq : endsL (c :: r) n with
        | false => rfl
        | true => exact absurd (ends_head hq).1 h60
      have hb : begL (c :: r) = false := by unfold begL; simp [h60]
      have hc4 : [60, 33, 45, 45].isPrefixOf (c :: r) = false := by simp [List.isPrefixOf]; intro h; exact absurd h.symm h60
      have hc5 : hasL (c :: r) [60, 33, 45, 45] = false := by rw [has_plain _ _ (by decide)]; exact hc4
      simp only [he, hb, hc5, Bool.false_eq_true, and_false, if_false, Bool.true_eq_false]
      congr 1
      by_cases h45 : c = 45
      · subst h45
        have e3 : ((45 : UInt8) = 62 ∧ 2 ≤ d ∧ 0 < su) = False := by simp
        simp only [e3, if_false, if_true]
        -- a dash
        by_cases hp : [45, 62].isPrefixOf r = true
        · -- the end of a comment begins here
          have hp3 : [45, 45, 62].isPrefixOf ((45 : UInt8) :: r) = true := by simpa [List.isPrefixOf] using hp
          have hn0 : nxt st (45 :: r) = 0 := by
            unfold nxt
            rw [hc4, hp3]
            split <;> simp
          rw [hn0]
          apply ih _ _ _ (by omega) hsu
          by_cases h0 : su = 0
          · exact .inl ⟨h0.symm, fun h => absurd h (by omega)⟩
          · exact .inr ⟨rfl, by omega, .inl ⟨by omega, hp⟩⟩
        · have hp3 : [45, 45, 62].isPrefixOf ((45 : UInt8) :: r) = false := by
            cases hq : [45, 45, 62].isPrefixOf ((45 : UInt8) :: r) with
            | false => rfl
            | true => exfalso; apply hp; simpa [List.isPrefixOf] using hq
          have hn : nxt st (45 :: r) = st := by
            unfold nxt
            rw [hc4, hp3, hb, he]
            have : st = 0 ∨ st = 1 ∨ st = 2 := by omega
            rcases this with rfl | rfl | rfl <;> rfl
          rw [hn]
          apply ih _ _ _ hst hsu
          rcases ha with ⟨h, h1⟩ | ⟨h, h1, h2⟩
          · refine .inl ⟨h, fun h0 => ⟨?_, fun hx => hp hx.2⟩⟩
            rintro ⟨hd, hr⟩
            apply (h1 h0).2
            refine ⟨by omega, ?_⟩
            cases r with
            | nil => cases hr
            | cons x t => simp at hr; subst hr; simp [List.isPrefixOf]
          · refine .inr ⟨h, h1, ?_⟩
            rcases h2 with ⟨hd, h2⟩ | ⟨hd, h2⟩
            · right
              refine ⟨by omega, ?_⟩
              cases r with
              | nil => simp [List.isPrefixOf] at h2
              | cons x t => simp [List.isPrefixOf] at h2; subst h2; rfl
            · simp at h2
      · have hp3 : [45, 45, 62].isPrefixOf (c :: r) = false := by simp [List.isPrefixOf]; intro h; exact absurd h.symm h45
        have hn : nxt st (c :: r) = st := by
          unfold nxt
          rw [hc4, hp3, hb, he]
          have : st = 0 ∨ st = 1 ∨ st = 2 := by omega
          rcases this with rfl | rfl | rfl <;> rfl
        rw [hn]
        simp only [h45, if_false]
        have fin : ∀ su2, su2 ≤ 2 → st = su2 → runt nm true su2 0 r = scan nm st r := fun su2 h2 h => ih _ _ _ hst h2 (.inl ⟨h, fun _ => ⟨by simp, by simp⟩⟩)
        by_cases h62 : c = 62 ∧ 2 ≤ d ∧ 0 < su
        · simp only [h62, and_self, if_true]
          apply fin 0 (by omega)
          rcases ha with ⟨h, h1⟩ | ⟨h, _⟩
          · exact absurd ⟨h62.2.1, by rw [h62.1]; rfl⟩ (h1 h62.2.2).1
          · exact h
        · simp only [h62, if_false]
          apply fin su hsu
          rcases ha with ⟨h, h1⟩ | ⟨h, h1, ⟨hd, h2⟩ | ⟨hd, h2⟩⟩
          · exact h
          · simp [List.isPrefixOf] at h2; exact absurd h2.1.symm h45
          · simp at h2; exact absurd ⟨h2, hd, h1⟩ h62
theorem until_script (nm r : List UInt8) : runt nm true 0 0 r = scan nm 0 r := runt_scan nm r 0 0 0 (by omega) (by omega) (.inl ⟨rfl, fun h => absurd h (by omega)⟩)
end Go.Proofs.YtbpdmbmooboimaaDoor.R11
set_option linter.unusedVariables false
set_option linter.unusedSimpArgs false
namespace Go.Proofs.YtbpdmbmooboimaaDoor.R11
open Go R9 T10

theorem suf3 (l : List UInt8) (a b c : UInt8) : [a, b, c].isSuffixOf l = true ↔ ∃ j, j + 3 = l.length ∧ l[j]? = some a ∧ l[j + 1]? = some b ∧ l[j + 2]? = some c := by
  rw [suffix_take]
  simp only [Bool.and_eq_true, decide_eq_true_eq, beq_iff_eq, List.length_cons, List.length_nil]
  constructor
  · rintro ⟨h1, h2⟩
    refine ⟨l.length - 3, by omega, ?_, ?_, ?_⟩
    · have := congrArg (fun t => t[0]?) h2; rw [List.getElem?_drop] at this; exact this
    · have := congrArg (fun t => t[1]?) h2; rw [List.getElem?_drop] at this; exact this
    · have := congrArg (fun t => t[2]?) h2; rw [List.getElem?_drop] at this; exact this
  · rintro ⟨j, h0, h1, h2, h3⟩
    have hp := (pre3 l j a b c).2 ⟨h1, h2, h3⟩
    refine ⟨by omega, ?_⟩
    obtain ⟨t, ht⟩ := List.isPrefixOf_iff_prefix.1 hp
    have hl := congrArg List.length ht
    rw [List.length_append, List.length_drop] at hl
    have ht0 : t = [] := List.length_eq_zero_iff.1 (by simp at hl; omega)
    rw [show l.length - (0 + 1 + 1 + 1) = j by omega, ← ht, ht0]
    rfl
theorem suf2 (l : List UInt8) (a b : UInt8) : [a, b].isSuffixOf l = true ↔ ∃ j, j + 2 = l.length ∧ l[j]? = some a ∧ l[j + 1]? = some b := by
  rw [suffix_take]
  simp only [Bool.and_eq_true, decide_eq_true_eq, beq_iff_eq, List.length_cons, List.length_nil]
  constructor
  · rintro ⟨h1, h2⟩
    refine ⟨l.length - 2, by omega, ?_, ?_⟩
    · have := congrArg (fun t => t[0]?) h2; rw [List.getElem?_drop] at this; exact this
    · have := congrArg (fun t => t[1]?) h2; rw [List.getElem?_drop] at this; exact this
  · rintro ⟨j, h0, h1, h2⟩
    have hp := (pre2 l j a b).2 ⟨h1, h2⟩
    refine ⟨by omega, ?_⟩
    obtain ⟨t, ht⟩ := List.isPrefixOf_iff_prefix.1 hp
    have hl := congrArg List.length ht
    rw [List.length_append, List.length_drop] at hl
    have ht0 : t = [] := List.length_eq_zero_iff.1 (by simp at hl; omega)
    rw [show l.length - (0 + 1 + 1) = j by omega, ← ht, ht0]
    rfl
theorem suf1 (l : List UInt8) (a : UInt8) : [a].isSuffixOf l = true ↔ ∃ j, j + 1 = l.length ∧ l[j]? = some a := by
  rw [suffix_take]
  simp only [Bool.and_eq_true, decide_eq_true_eq, beq_iff_eq, List.length_cons, List.length_nil]
  constructor
  · rintro ⟨h1, h2⟩
    refine ⟨l.length - 1, by omega, ?_⟩
    have := congrArg (fun t => t[0]?) h2; rw [List.getElem?_drop] at this; exact this
  · rintro ⟨j, h0, h1⟩
    have hp := (pre1 l j a).2 h1
    refine ⟨by omega, ?_⟩
    obtain ⟨t, ht⟩ := List.isPrefixOf_iff_prefix.1 hp
    have hl := congrArg List.length ht
    rw [List.length_append, List.length_drop] at hl
    have ht0 : t = [] := List.length_eq_zero_iff.1 (by simp at hl; omega)
    rw [show l.length - (0 + 1) = j by omega, ← ht, ht0]
    rfl
theorem app_lt {s e : List UInt8} {k : Nat} (h : k < s.length) : (s ++ e)[k]? = s[k]? := List.getElem?_append_left h
theorem app_ge {s e : List UInt8} {k : Nat} (h : s.length ≤ k) : (s ++ e)[k]? = e[k - s.length]? := List.getElem?_append_right h
/-- A text that may stand in a comment. -/
structure Calm (s : List UInt8) : Prop where
  one : fnd s [45, 45, 62] = none
  two : fnd s [45, 45, 33, 62] = none
  gt : s[0]? ≠ some 62
  dash : ¬ (s[0]? = some 45 ∧ s[1]? = some 62)
  last : ∀ i, i + 1 = s.length → s[i]? ≠ some 45
  odd : ∀ i, i + 3 = s.length → ¬ (s[i]? = some 45 ∧ s[i + 1]? = some 45 ∧ s[i + 2]? = some 33)
theorem Calm.no1 {s : List UInt8} (h : Calm s) (e : List UInt8) {j : Nat} (hj : j < s.length) : ¬ ((s ++ e)[j]? = some 45 ∧ (s ++ e)[j + 1]? = some 45 ∧ (s ++ e)[j + 2]? = some 62) := by
  rintro ⟨h0, h1, h2⟩
  rw [app_lt hj] at h0
  by_cases c1 : j + 1 = s.length
  · exact h.last j c1 h0
  rw [app_lt (by omega)] at h1
  by_cases c2 : j + 2 = s.length
  · exact h.last (j + 1) c2 h1
  rw [app_lt (by omega)] at h2
  have := (fnd_none h.one).2 j (by omega)
  rw [(pre3 _ _ _ _ _).2 ⟨h0, h1, h2⟩] at this
  cases this
theorem Calm.no2 {s : List UInt8} (h : Calm s) (e : List UInt8) {j : Nat} (hj : j < s.length) : ¬ ((s ++ e)[j]? = some 45 ∧ (s ++ e)[j + 1]? = some 45 ∧ (s ++ e)[j + 2]? = some 33 ∧ (s ++ e)[j + 3]? = some 62) := by
  rintro ⟨h0, h1, h2, h3⟩
  rw [app_lt hj] at h0
  by_cases c1 : j + 1 = s.length
  · exact h.last j c1 h0
  rw [app_lt (by omega)] at h1
  by_cases c2 : j + 2 = s.length
  · exact h.last (j + 1) c2 h1
  rw [app_lt (by omega)] at h2
  by_cases c3 : j + 3 = s.length
  · exact h.odd j c3 ⟨h0, h1, h2⟩
  rw [app_lt (by omega)] at h3
  have := (fnd_none h.two).2 j (by omega)
  rw [(pre4 _ _ _ _ _ _).2 ⟨h0, h1, h2, h3⟩] at this
  cases this
theorem Calm.front {s : List UInt8} (h : Calm s) (e : List UInt8) (he : e[0]? = none ∨ e[0]? = some 45) (he1 : e[1]? ≠ some 62) : hasL (s ++ e) [62] = false ∧ hasL (s ++ e) [45, 62] = false := by
  rw [has_plain _ _ (by decide), has_plain _ _ (by decide)]
  constructor
  · cases hq : [62].isPrefixOf (s ++ e) with
    | false => rfl
    | true =>
      exfalso
      have h1 := (pre1 (s ++ e) 0 62).1 (by rw [List.drop_zero]; exact hq)
      by_cases c : 0 < s.length
      · rw [app_lt c] at h1; exact h.gt h1
      · rw [app_ge (by omega)] at h1
        simp only [Nat.zero_sub] at h1
        rcases he with he | he <;> rw [he] at h1 <;> simp at h1
  · cases hq : [45, 62].isPrefixOf (s ++ e) with
    | false => rfl
    | true =>
      exfalso
      obtain ⟨h1, h2⟩ := (pre2 (s ++ e) 0 45 62).1 (by rw [List.drop_zero]; exact hq)
      by_cases c : 0 < s.length
      · rw [app_lt c] at h1
        by_cases c2 : 1 < s.length
        · rw [app_lt c2] at h2; exact h.dash ⟨h1, h2⟩
        · exact h.last 0 (by omega) h1
      · rw [app_ge (by omega)] at h2
        rw [show 0 + 1 - s.length = 1 by omega] at h2
        exact he1 h2
theorem com_end {s : List UInt8} (h : Calm s) (b : List UInt8) : comL (s ++ (45 :: 45 :: 62 :: b)) = (s, s.length + 3) := by
  obtain ⟨f1, f2⟩ := h.front (45 :: 45 :: 62 :: b) (.inr rfl) (by simp)
  have hi : fnd (s ++ (45 :: 45 :: 62 :: b)) [45, 45, 62] = some s.length := by
    apply fnd_first (by simp)
    · rw [pre3, app_ge (Nat.le_refl _), app_ge (by omega), app_ge (by omega)]
      simp
    · intro j hj
      cases hp : [45, 45, 62].isPrefixOf ((s ++ (45 :: 45 :: 62 :: b)).drop j) with
      | false => rfl
      | true => exact absurd ((pre3 _ _ _ _ _).1 hp) (h.no1 _ hj)
  have hj : ∀ j, fnd (s ++ (45 :: 45 :: 62 :: b)) [45, 45, 33, 62] = some j → s.length < j := by
    intro j hj
    have hp := (pre4 _ _ _ _ _ _).1 (fnd_some hj).2.2.1
    rcases Nat.lt_trichotomy j s.length with c | c | c
    · exact absurd hp (h.no2 _ c)
    · subst c
      have := hp.2.2.1
      rw [app_ge (by omega), show s.length + 2 - s.length = 2 by omega] at this
      simp at this
    · exact c
  rw [com_one f1 f2 hi hj, List.take_left]
theorem com_end2 {s : List UInt8} (h : Calm s) (b : List UInt8) : comL (s ++ (45 :: 45 :: 33 :: 62 :: b)) = (s, s.length + 4) := by
  obtain ⟨f1, f2⟩ := h.front (45 :: 45 :: 33 :: 62 :: b) (.inr rfl) (by simp)
  have hj : fnd (s ++ (45 :: 45 :: 33 :: 62 :: b)) [45, 45, 33, 62] = some s.length := by
    apply fnd_first (by simp)
    · rw [pre4, app_ge (Nat.le_refl _), app_ge (by omega), app_ge (by omega), app_ge (by omega)]
      simp
    · intro j hj
      cases hp : [45, 45, 33, 62].isPrefixOf ((s ++ (45 :: 45 :: 33 :: 62 :: b)).drop j) with
      | false => rfl
      | true => exact absurd ((pre4 _ _ _ _ _ _).1 hp) (h.no2 _ hj)
  have hi : ∀ i, fnd (s ++ (45 :: 45 :: 33 :: 62 :: b)) [45, 45, 62] = some i → ¬ i < s.length := by
    intro i hi c
    exact h.no1 _ c ((pre3 _ _ _ _ _).1 (fnd_some hi).2.2.1)
  rw [com_two f1 f2 hj hi, List.take_left]
theorem com_open {s : List UInt8} (h : Calm s) (e : List UInt8) (he : e = [] ∨ e = [45] ∨ e = [45, 45] ∨ e = [45, 45, 33]) : comL (s ++ e) = (s, s.length + e.length) := by
  have hd : e[0]? = none ∨ e[0]? = some 45 := by rcases he with rfl | rfl | rfl | rfl <;> simp
  have h62 : ∀ k : Nat, e[k]? ≠ some 62 := by
    intro k hk
    have := List.mem_of_getElem? hk
    rcases he with rfl | rfl | rfl | rfl <;> simp at this
  obtain ⟨f1, f2⟩ := h.front e hd (h62 1)
  have hi : fnd (s ++ e) [45, 45, 62] = none := by
    cases hf : fnd (s ++ e) [45, 45, 62] with
    | none => rfl
    | some i =>
      exfalso
      have hp := (pre3 _ _ _ _ _).1 (fnd_some hf).2.2.1
      by_cases c : i < s.length
      · exact h.no1 _ c hp
      · have := hp.2.2
        rw [app_ge (by omega)] at this
        exact h62 _ this
  have hj : fnd (s ++ e) [45, 45, 33, 62] = none := by
    cases hf : fnd (s ++ e) [45, 45, 33, 62] with
    | none => rfl
    | some i =>
      exfalso
      have hp := (pre4 _ _ _ _ _ _).1 (fnd_some hf).2.2.1
      by_cases c : i < s.length
      · exact h.no2 _ c hp
      · have := hp.2.2.2
        rw [app_ge (by omega)] at this
        exact h62 _ this
  rw [com_none f1 f2 hi hj]
  have n3 : ∀ e : List UInt8, (e = [] ∨ e = [45] ∨ e = [45, 45]) → ¬ [45, 45, 33].isSuffixOf (s ++ e) = true := by
    rintro e he hq
    obtain ⟨j, h0, h1, h2, h3⟩ := (suf3 _ _ _ _).1 hq
    rcases he with rfl | rfl | rfl
    · simp at h0 h1 h2 h3
      exact h.odd j h0 ⟨h1, h2, h3⟩
    · simp at h0
      rw [app_ge (by omega), show j + 2 - s.length = 0 by omega] at h3
      simp at h3
    · simp at h0
      rw [app_ge (by omega), show j + 2 - s.length = 1 by omega] at h3
      simp at h3
  have n2 : ∀ e : List UInt8, (e = [] ∨ e = [45]) → ¬ [45, 45].isSuffixOf (s ++ e) = true := by
    rintro e he hq
    obtain ⟨j, h0, h1, h2⟩ := (suf2 _ _ _).1 hq
    rcases he with rfl | rfl
    · simp at h0 h1 h2
      exact h.last (j + 1) (by omega) h2
    · simp at h0
      rw [app_lt (by omega)] at h1
      exact h.last j (by omega) h1
  have n1 : ¬ [45].isSuffixOf (s ++ []) = true := by
    intro hq
    obtain ⟨j, h0, h1⟩ := (suf1 _ _).1 hq
    simp at h0 h1
    exact h.last j h0 h1
  rcases he with rfl | rfl | rfl | rfl
  · rw [if_neg (n3 _ (.inl rfl)), if_neg (n2 _ (.inl rfl)), if_neg n1]
    simp
  · rw [if_neg (n3 _ (.inr (.inl rfl))), if_neg (n2 _ (.inr rfl)), if_pos ((suf1 _ _).2 ⟨s.length, by simp, by simp⟩)]
    simp
  · rw [if_neg (n3 _ (.inr (.inr rfl))), if_pos ((suf2 _ _ _).2 ⟨s.length, by simp, by simp, by rw [app_ge (by omega), show s.length + 1 - s.length = 1 by omega]; rfl⟩)]
    simp
  · rw [if_pos ((suf3 _ _ _ _).2 ⟨s.length, by simp, by simp, by rw [app_ge (by omega), show s.length + 1 - s.length = 1 by omega]; rfl, by rw [app_ge (by omega), show s.length + 2 - s.length = 2 by omega]; rfl⟩)]
    simp

/-- A text without < goes by. -/
theorem endN_skip (nm : List UInt8) : ∀ (s r : List UInt8), (∀ c ∈ s, c ≠ 60) → endN nm (s ++ r) = s.length + endN nm r
  | [], r, _ => by simp
  | c :: s, r, h => by
    have ih := endN_skip nm s r (fun d hd => h d (List.mem_cons_of_mem _ hd))
    show endN nm (c :: (s ++ r)) = _
    unfold endN
    rw [if_neg (fun he => h c (by simp) (ends_head he).1), ih]
    cases r <;> simp [endN] <;> omega
theorem scan_skip (nm : List UInt8) : ∀ (s r : List UInt8), (∀ c ∈ s, c ≠ 60) → scan nm 0 (s ++ r) = s.length + scan nm 0 r
  | [], r, _ => by simp
  | c :: s, r, h => by
    have ih := scan_skip nm s r (fun d hd => h d (List.mem_cons_of_mem _ hd))
    have hc := h c (by simp)
    show scan nm 0 (c :: (s ++ r)) = _
    have e1 : nxt 0 (c :: (s ++ r)) = 0 := by
      unfold nxt
      have : [60, 33, 45, 45].isPrefixOf (c :: (s ++ r)) = false := by simp [List.isPrefixOf]; intro e; exact absurd e.symm hc
      rw [this]
      rfl
    unfold scan
    rw [if_neg (fun he => hc (ends_head he.2).1), e1, ih]
    cases r <;> simp [scan] <;> omega
/-- A text without < and - goes by, whatever the state. -/
theorem scan_calm (nm : List UInt8) (st : Nat) (hst : st ≤ 2) : ∀ (s r : List UInt8), (∀ c ∈ s, c ≠ 60 ∧ c ≠ 45) → scan nm st (s ++ r) = s.length + scan nm st r
  | [], r, _ => by simp
  | c :: s, r, h => by
    have ih := scan_calm nm st hst s r (fun d hd => h d (List.mem_cons_of_mem _ hd))
    have hc := h c (by simp)
    show scan nm st (c :: (s ++ r)) = _
    rw [scan_plain nm st hst c _ hc.1 hc.2, ih]
    simp
    omega
theorem scan_nil (nm : List UInt8) (st : Nat) : scan nm st [] = 0 := by unfold scan; rfl
theorem endN_end {nm r : List UInt8} (h : endsL r nm = true) : endN nm r = 0 := by
  cases r with
  | nil => rfl
  | cons c t => unfold endN; rw [if_pos h]
theorem scan_end {nm r : List UInt8} {st : Nat} (hst : st < 2) (h : endsL r nm = true) : scan nm st r = 0 := by
  cases r with
  | nil => exact scan_nil _ _
  | cons c t => unfold scan; rw [if_pos ⟨hst, h⟩]
theorem scan_step {nm : List UInt8} {st : Nat} {c : UInt8} {r : List UInt8} {st' : Nat} (h : st < 2 → endsL (c :: r) nm = false) (hn : nxt st (c :: r) = st') : scan nm st (c :: r) = scan nm st' r + 1 := by
  conv => lhs; unfold scan
  rw [if_neg (by rintro ⟨h1, h2⟩; rw [h h1] at h2; cases h2), hn]
/-- A comment's front, in a script. -/
theorem scan_front (nm r : List UInt8) (hr : r[0]? ≠ some 62) (hr2 : ¬ (r[0]? = some 45 ∧ r[1]? = some 62)) : scan nm 0 (60 :: 33 :: 45 :: 45 :: r) = scan nm 1 r + 4 := by
  have no : ∀ (c : UInt8) (t n : List UInt8), t[0]? ≠ some 47 → endsL (c :: t) n = false := by
    intro c t n h
    cases hq : endsL (c :: t) n with
    | false => rfl
    | true => have := (ends_head hq).2; rw [List.head?_eq_getElem?] at this; exact absurd this h
  rw [scan_step (st' := 1) (fun _ => no _ _ _ (by simp)) (by unfold nxt; simp [List.isPrefixOf])]
  rw [scan_plain nm 1 (by omega) 33 _ (by decide) (by decide)]
  have e1 : [45, 45, 62].isPrefixOf ((45 : UInt8) :: 45 :: r) = false := by
    cases r with
    | nil => rfl
    | cons c t => simp [List.isPrefixOf] at hr ⊢; exact fun e => hr e.symm
  have e2 : [45, 45, 62].isPrefixOf ((45 : UInt8) :: r) = false := by
    cases r with
    | nil => rfl
    | cons c t =>
      cases t with
      | nil => simp [List.isPrefixOf]
      | cons d t => simp [List.isPrefixOf] at hr2 ⊢; exact fun e f => hr2 e.symm f.symm
  rw [scan_step (st' := 1) (fun _ => no _ _ _ (by simp)) (by unfold nxt; rw [e1]; simp [begL])]
  rw [scan_step (st' := 1) (fun _ => by
    cases hq : endsL (45 :: r) nm with
    | false => rfl
    | true => have := (ends_head hq).1; cases this) (by unfold nxt; rw [e2]; simp [begL])]
theorem scr_calm : ∀ c ∈ scr, c ≠ 60 ∧ c ≠ 45 := by decide
theorem has_self (t r : List UInt8) : hasL (t ++ r) t = true := by
  unfold hasL sameL
  simp
theorem has_low (u t r : List UInt8) (h : lowL u = lowL t) : hasL (u ++ r) t = true := by
  have hl : u.length = t.length := by have := congrArg List.length h; simpa [lowL] using this
  unfold hasL sameL
  rw [← hl, List.take_left, h]
  simp
theorem word_low (u t r : List UInt8) (c : UInt8) (h : lowL u = lowL t) (hc : (blB c || c == 47 || c == 62) = true) : wordL (u ++ c :: r) t = true := by
  have hl : u.length = t.length := by have := congrArg List.length h; simpa [lowL] using this
  unfold wordL
  rw [has_low u t _ h, ← hl, List.getElem?_append_right (Nat.le_refl _)]
  simpa using hc
/-- The start of a script, in a comment of a script. -/
theorem scan_inner (nm r : List UInt8) (c : UInt8) (hc : (blB c || c == 47 || c == 62) = true) (hc2 : c ≠ 60 ∧ c ≠ 45) : scan nm 1 (60 :: (scr ++ c :: r)) = scan nm 2 r + 8 := by
  have hb : begL (60 :: (scr ++ c :: r)) = true := by
    unfold begL
    rw [List.drop_one, List.tail_cons, word_low scr scr r c rfl hc]
    rfl
  rw [scan_step (st' := 2) (fun _ => by
    cases hq : endsL (60 :: (scr ++ c :: r)) nm with
    | false => rfl
    | true => have := (ends_head hq).2; simp [scr] at this) (by unfold nxt; rw [hb]; simp [List.isPrefixOf])]
  rw [scan_calm nm 2 (by omega) scr _ scr_calm, scan_plain nm 2 (by omega) c r hc2.1 hc2.2]
  simp [scr]
  omega
theorem ends_low (u t r : List UInt8) (c : UInt8) (h : lowL u = lowL t) (hc : (blB c || c == 47 || c == 62) = true) : endsL (60 :: 47 :: (u ++ c :: r)) t = true := by
  unfold endsL
  rw [show (60 :: 47 :: (u ++ c :: r)).drop 2 = u ++ c :: r from rfl, word_low u t r c h hc]
  simp [List.isPrefixOf]
/-- The end of a script within a script. -/
theorem scan_outer (nm u r : List UInt8) (c : UInt8) (hu : lowL u = lowL scr) (hu2 : ∀ x ∈ u, x ≠ 60 ∧ x ≠ 45) (hc : (blB c || c == 47 || c == 62) = true) (hc2 : c ≠ 60 ∧ c ≠ 45) : scan nm 2 (60 :: 47 :: (u ++ c :: r)) = scan nm 1 r + 9 := by
  have he := ends_low u scr r c hu hc
  have hl : u.length = 6 := by have := congrArg List.length hu; simpa [lowL, scr] using this
  rw [scan_step (st' := 1) (fun h => absurd h (by omega)) (by unfold nxt; rw [he]; simp [List.isPrefixOf])]
  rw [scan_plain nm 1 (by omega) 47 _ (by decide) (by decide), scan_calm nm 1 (by omega) u _ hu2, scan_plain nm 1 (by omega) c r hc2.1 hc2.2]
  omega
/-- The end of a comment in a script. -/
theorem scan_close (nm r : List UInt8) (st : Nat) (h0 : 0 < st) (hst : st ≤ 2) : scan nm st (45 :: 45 :: 62 :: r) = scan nm 0 r + 3 := by
  have no : ∀ (t : List UInt8), endsL (45 :: t) nm = false := by
    intro t
    cases hq : endsL (45 :: t) nm with
    | false => rfl
    | true => have := (ends_head hq).1; cases this
  rw [scan_step (st' := 0) (fun _ => no _) (by unfold nxt; rw [if_neg (by omega), if_pos (by simp [List.isPrefixOf])])]
  rw [scan_step (st' := 0) (fun _ => no _) (by unfold nxt; simp [List.isPrefixOf])]
  rw [scan_plain nm 0 (by omega) 62 _ (by decide) (by decide)]
end Go.Proofs.YtbpdmbmooboimaaDoor.R11
set_option linter.unusedVariables false
set_option linter.unusedSimpArgs false
namespace Go.Proofs.YtbpdmbmooboimaaDoor.R11
open Go R9 T10

def scrU : List UInt8 := [83, 67, 82, 73, 80, 84]
theorem head_app {a r : List UInt8} {x : UInt8} (h1 : a[0]? ≠ some x) (h2 : r[0]? ≠ some x) : (a ++ r)[0]? ≠ some x := by
  cases a with
  | nil => exact h2
  | cons c t => exact h1
theorem not_mem_head {a : List UInt8} {x : UInt8} (h : ∀ c ∈ a, c ≠ x) : a[0]? ≠ some x := by
  intro e
  exact h x (List.mem_of_getElem? e) rfl
theorem calm_front {a r : List UInt8} (ha : ∀ c ∈ a, c ≠ 60 ∧ c ≠ 45) (h62 : a[0]? ≠ some 62) (hr : r[0]? ≠ some 62) (hr2 : ¬ (r[0]? = some 45 ∧ r[1]? = some 62)) (nm : List UInt8) :
    scan nm 0 (60 :: 33 :: 45 :: 45 :: (a ++ r)) = 4 + a.length + scan nm 1 r := by
  rw [scan_front nm (a ++ r) (head_app h62 hr) ?_, scan_calm nm 1 (by omega) a r ha]
  · omega
  · cases a with
    | nil => exact hr2
    | cons c t =>
      rintro ⟨h1, _⟩
      injection h1 with h1
      exact (ha c (by simp)).2 h1
theorem scan_other (nm r : List UInt8) : scan nm 1 (60 :: (scr ++ 115 :: 62 :: r)) = 9 + scan nm 1 r := by
  have hb : begL (60 :: (scr ++ 115 :: 62 :: r)) = false := by
    unfold begL wordL
    rw [List.drop_one, List.tail_cons, List.getElem?_append_right (Nat.le_refl _), Nat.sub_self]
    have : (blB (115 : UInt8) || (115 : UInt8) == 47 || (115 : UInt8) == 62) = false := by decide
    simp only [List.getElem?_cons_zero, this, Bool.and_false]
  rw [scan_step (st' := 1) (fun _ => by
    cases hq : endsL (60 :: (scr ++ 115 :: 62 :: r)) nm with
    | false => rfl
    | true => have := (ends_head hq).2; simp [scr] at this) (by unfold nxt; rw [hb]; simp [List.isPrefixOf])]
  rw [scan_calm nm 1 (by omega) scr _ scr_calm, scan_plain nm 1 (by omega) 115 _ (by decide) (by decide), scan_plain nm 1 (by omega) 62 _ (by decide) (by decide)]
  simp [scr]
  omega
theorem low_scrU : lowL scrU = lowL scr := by decide
theorem twice_t {a b : List UInt8} (ha : ∀ c ∈ a, c ≠ 60 ∧ c ≠ 45) (hb : ∀ c ∈ b, c ≠ 60 ∧ c ≠ 45) (h62 : a[0]? ≠ some 62) :
    scan scr 0 (60 :: 33 :: 45 :: 45 :: (a ++ 60 :: (scr ++ 62 :: (b ++ 60 :: 47 :: (scrU ++ 62 :: (a ++ 60 :: 47 :: (scr ++ 32 :: [62]))))))) = 4 + a.length + 8 + b.length + 9 + a.length := by
  rw [calm_front ha h62 (by simp) (by simp), scan_inner scr _ 62 (by decide) (by decide), scan_calm scr 2 (by omega) b _ hb, scan_outer scr scrU _ 62 low_scrU (by decide) (by decide) (by decide), scan_calm scr 1 (by omega) a _ ha,
    scan_end (by omega) (ends_low scr scr _ 32 rfl (by decide))]
  omega
theorem twice_u {a b : List UInt8} (ha : ∀ c ∈ a, c ≠ 60 ∧ c ≠ 45) (hb : ∀ c ∈ b, c ≠ 60 ∧ c ≠ 45) (h62 : a[0]? ≠ some 62) :
    scan scr 0 (60 :: 33 :: 45 :: 45 :: (a ++ 45 :: 45 :: 62 :: (b ++ 60 :: 47 :: (scr ++ 62 :: a)))) = 7 + a.length + b.length := by
  rw [calm_front ha h62 (by simp) (by simp), scan_close scr _ 1 (by omega) (by omega), scan_skip scr b _ (fun c hc => (hb c hc).1), scan_end (by omega) (ends_low scr scr _ 62 rfl (by decide))]
  omega
theorem twice_v {a b : List UInt8} (ha : ∀ c ∈ a, c ≠ 60 ∧ c ≠ 45) (hb : ∀ c ∈ b, c ≠ 60 ∧ c ≠ 45) (h62 : a[0]? ≠ some 62) :
    scan scr 0 (60 :: 33 :: 45 :: 45 :: (a ++ 60 :: (scr ++ 62 :: (b ++ 45 :: 45 :: 62 :: (a ++ 60 :: 47 :: (scr ++ 47 :: [])))))) = 15 + 2 * a.length + b.length := by
  rw [calm_front ha h62 (by simp) (by simp), scan_inner scr _ 62 (by decide) (by decide), scan_calm scr 2 (by omega) b _ hb, scan_close scr _ 2 (by omega) (by omega), scan_skip scr a _ (fun c hc => (ha c hc).1), scan_end (by omega) (ends_low scr scr _ 47 rfl (by decide))]
  omega
theorem twice_w {a b : List UInt8} (ha : ∀ c ∈ a, c ≠ 60 ∧ c ≠ 45) (hb : ∀ c ∈ b, c ≠ 60 ∧ c ≠ 45) (h62 : a[0]? ≠ some 62) :
    scan scr 0 (60 :: 33 :: 45 :: 45 :: (a ++ 60 :: (scr ++ 115 :: 62 :: (b ++ 60 :: 47 :: (scr ++ 62 :: []))))) = 13 + a.length + b.length := by
  rw [calm_front ha h62 (by simp) (by simp), scan_other scr, scan_calm scr 1 (by omega) b _ hb, scan_end (by omega) (ends_low scr scr _ 62 rfl (by decide))]
  omega
/-- Raw up to an end in whichever case. -/
theorem whole_end {s u : List UInt8} (hs : ∀ c ∈ s, c ≠ 60) (hu : lowL u = lowL scr) (r : List UInt8) : endN scr (s ++ 60 :: 47 :: (u ++ 62 :: r)) = s.length ∧ scan scr 0 (s ++ 60 :: 47 :: (u ++ 62 :: r)) = s.length := by
  have he := ends_low u scr r 62 hu (by decide)
  rw [endN_skip scr s _ hs, scan_skip scr s _ hs, endN_end he, scan_end (by omega) he]
  exact ⟨rfl, rfl⟩
theorem whole_none {s : List UInt8} (hs : ∀ c ∈ s, c ≠ 60) : endN scr s = s.length ∧ scan scr 0 s = s.length := by
  have h1 := endN_skip scr s [] hs
  have h2 := scan_skip scr s [] hs
  rw [List.append_nil] at h1 h2
  rw [h1, h2, scan_nil]
  exact ⟨rfl, rfl⟩
end Go.Proofs.YtbpdmbmooboimaaDoor.R11
