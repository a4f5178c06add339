/- The document's way to read a tag, byte by byte with a state, as lists, and that it is the program's (with what stands behind a value's end, which is none of a reference). -/
import Derived.Test.YteeplfbaflldaaaDoorTgE
set_option linter.unusedVariables false
set_option linter.unusedSimpArgs false
namespace Go.Proofs.YteeplfbaflldaaaDoor.T10
open Go.RowKit R9

/-- A byte at which a value may end. -/
def stopX (c : UInt8) : Bool := c == 34 || c == 39 || blB c || c == 62
theorem stopX_not : ∀ c : UInt8, stopX c = true → ¬ c = 59 ∧ ¬ c = 35 ∧ ¬ c = 120 ∧ ¬ c = 88 ∧ ¬ c = 38 ∧ hexB c.toNat = false ∧ ((c.toNat : Int) == 61 || alI c.toNat || diI c.toNat) = false :=
  all_bytes (p := fun c => stopX c = true → ¬ c = 59 ∧ ¬ c = 35 ∧ ¬ c = 120 ∧ ¬ c = 88 ∧ ¬ c = 38 ∧ hexB c.toNat = false ∧ ((c.toNat : Int) == 61 || alI c.toNat || diI c.toNat) = false) (by decide +kernel)
theorem no_stop : ∀ x ∈ (looseA ++ looseB) ++ (strictA ++ strictB), ∀ c ∈ x.1, stopX c = false := by decide
theorem loose_stop {l : List UInt8} {c : UInt8} (h : c ∈ l) (hc : stopX c = true) : looseN l = 0 := look_none _ _ fun x hx e => by
  have := no_stop x (List.mem_append_left _ hx) c (e ▸ h)
  rw [hc] at this; cases this
theorem strict_stop {l : List UInt8} {c : UInt8} (h : c ∈ l) (hc : stopX c = true) : strictN l = 0 := look_none _ _ fun x hx e => by
  have := no_stop x (List.mem_append_right _ hx) c (e ▸ h)
  rw [hc] at this; cases this
theorem get_take {l : List UInt8} {m j : Nat} : (l.take m)[j]? = if j < m then l[j]? else none := List.getElem?_take
theorem goes_cut {r : List UInt8} {m k : Nat} (hk : k ≤ m) (hs : ∀ c, r[m]? = some c → stopX c = true) : goesL (r.take m) k = goesL r k := by
  unfold goesL
  rw [get_take]
  by_cases h : k < m
  · rw [if_pos h]
  · have e : k = m := by omega
    subst e
    rw [if_neg h]
    cases hc : r[k]? with
    | none => rfl
    | some c => exact (stopX_not c (hs c hc)).2.2.2.2.2.2.symm
theorem semi_cut {r : List UInt8} {m k : Nat} (hk : k ≤ m) (hs : ∀ c, r[m]? = some c → stopX c = true) : ((r.take m)[k]? = some 59) = (r[k]? = some 59) := by
  rw [get_take]
  by_cases h : k < m
  · rw [if_pos h]
  · have e : k = m := by omega
    subst e
    rw [if_neg h]
    apply propext
    constructor
    · intro h; cases h
    · intro h
      exact absurd rfl (stopX_not 59 (hs 59 h)).1
theorem nameF_cut {r : List UInt8} {m : Nat} (hs : ∀ c, r[m]? = some c → stopX c = true) : ∀ k, k ≤ m → nameF (r.take m) true k = nameF r true k
  | 0, _ => rfl
  | n + 1, h => by
    have ih := nameF_cut hs n (by omega)
    have ht : (r.take m).take (n + 1) = r.take (n + 1) := by rw [List.take_take]; congr 1; omega
    unfold nameF
    simp only [semi_cut h hs, goes_cut h hs, ht, ih]
theorem nameF_drop {r : List UInt8} {m : Nat} {c : UInt8} (hc : r[m]? = some c) (hx : stopX c = true) : ∀ k, nameF r true (m + k) = nameF r true m
  | 0 => rfl
  | k + 1 => by
    have ih := nameF_drop hc hx k
    have hm : c ∈ r.take (m + k + 1) := by
      refine List.mem_of_getElem? (i := m) ?_
      rw [get_take, if_pos (by omega), hc]
    show nameF r true (m + k + 1) = _
    conv => lhs; unfold nameF
    rw [loose_stop hm hx, strict_stop hm hx]
    by_cases h : r[m + k + 1]? = some 59 <;> simp [h, ih]
theorem nameR_cut {r : List UInt8} {m : Nat} (hm : m ≤ r.length) (hs : ∀ c, r[m]? = some c → stopX c = true) : nameR (r.take m) true = nameR r true := by
  unfold nameR
  rw [List.length_take, Nat.min_eq_left hm]
  by_cases h : min 7 r.length ≤ m
  · have e : min 7 m = min 7 r.length := by omega
    rw [e, nameF_cut hs _ h]
  · have hlt : m < r.length := by omega
    have hg : r[m]? = some r[m] := List.getElem?_eq_getElem hlt
    have h2 := nameF_drop hg (hs _ hg) (min 7 r.length - m)
    rw [show m + (min 7 r.length - m) = min 7 r.length by omega] at h2
    rw [h2, show min 7 m = m by omega, nameF_cut hs m (Nat.le_refl _)]
theorem tw_cut {r : List UInt8} {m : Nat} {f : UInt8 → Bool} (hs : ∀ c, r[m]? = some c → f c = false) : (r.take m).takeWhile f = r.takeWhile f := by
  induction m generalizing r with
  | zero =>
    cases r with
    | nil => rfl
    | cons x t =>
      have := hs x rfl
      rw [List.take_zero, List.takeWhile_cons, this]
      rfl
  | succ m ih =>
    cases r with
    | nil => rfl
    | cons x t =>
      rw [List.take_succ_cons, List.takeWhile_cons, List.takeWhile_cons]
      cases f x with
      | false => rfl
      | true => rw [if_pos rfl, if_pos rfl, ih (fun c hc => hs c (by simpa using hc))]
theorem isD_stop {b : Int} {c : UInt8} (h : stopX c = true) : isD b c = false := by
  unfold isD
  rw [(stopX_not c h).2.2.2.2.2.1]
  rfl
theorem numR_cut {r : List UInt8} {m : Nat} (hm : m ≤ r.length) (hs : ∀ c, r[m]? = some c → stopX c = true) : numR (r.take m) = numR r := by
  by_cases h0 : m = 0
  · subst h0
    have e1 : r.takeWhile (isD 10) = [] := by
      cases r with
      | nil => rfl
      | cons x t => rw [List.takeWhile_cons, isD_stop (hs x rfl)]; rfl
    have e2 : baseK r = (10, 0) := by
      unfold baseK
      cases r with
      | nil => rfl
      | cons x t =>
        have := stopX_not x (hs x rfl)
        show (if x = 120 ∨ x = 88 then ((16 : Int), 1) else (10, 0)) = (10, 0)
        rw [if_neg (by
          rintro (h | h)
          · exact this.2.2.1 h
          · exact this.2.2.2.1 h)]
    have e3 : numR r = none := by
      unfold numR
      rw [e2]
      simp [e1]
    rw [e3, List.take_zero]
    rfl
  · have hb : baseK (r.take m) = baseK r := by
      unfold baseK
      rw [List.head?_take, if_neg h0]
    obtain ⟨b, hbb⟩ : ∃ b, (baseK r).1 = b := ⟨_, rfl⟩
    obtain ⟨j, hj⟩ : ∃ j, (baseK r).2 = j := ⟨_, rfl⟩
    have hj1 : j ≤ m := by
      rw [← hj]
      unfold baseK
      cases r.head? with
      | none => simp
      | some c => simp only []; split <;> simp <;> omega
    have hd : (r.take m).drop j = (r.drop j).take (m - j) := by rw [List.drop_take]
    have hs2 : ∀ c, (r.drop j)[m - j]? = some c → isD b c = false := fun c hc => by
      rw [List.getElem?_drop, show j + (m - j) = m by omega] at hc
      exact isD_stop (hs c hc)
    have htw : ((r.take m).drop j).takeWhile (isD b) = (r.drop j).takeWhile (isD b) := by rw [hd]; exact tw_cut hs2
    have hle : j + ((r.drop j).takeWhile (isD b)).length ≤ m := by
      rw [← htw]
      have := (List.takeWhile_prefix (isD b) (l := (r.take m).drop j)).length_le
      rw [List.length_drop, List.length_take] at this
      omega
    have hsm : (((r.take m).drop (j + ((r.drop j).takeWhile (isD b)).length)).head? = some 59) = ((r.drop (j + ((r.drop j).takeWhile (isD b)).length)).head? = some 59) := by
      rw [List.head?_drop, List.head?_drop]
      exact semi_cut hle hs
    unfold numR
    rw [hb]
    simp only [hbb, hj, htw, hsm]
theorem find_cut {r : List UInt8} {m : Nat} (h0 : 0 < m) (hm : m ≤ r.length) (hs : ∀ c, r[m]? = some c → stopX c = true) : findS (r.take m) true = findS r true := by
  obtain ⟨x, t, rfl⟩ : ∃ x t, r = x :: t := by
    cases r with
    | nil => simp at hm; omega
    | cons x t => exact ⟨x, t, rfl⟩
  obtain ⟨u, rfl⟩ : ∃ u, m = u + 1 := ⟨m - 1, by omega⟩
  have hs' : ∀ c, t[u]? = some c → stopX c = true := fun c hc => hs c (by simpa using hc)
  have hu : u ≤ t.length := by simpa using hm
  have hh : ((t.take u).head? = some 35) = (t.head? = some 35) := by
    rw [List.head?_take]
    by_cases h : u = 0
    · subst h
      rw [if_pos rfl]
      apply propext
      constructor
      · intro h; cases h
      · intro h
        cases t with
        | nil => cases h
        | cons y s =>
          have : y = 35 := by simpa using h
          subst this
          exact absurd rfl (stopX_not 35 (hs' 35 rfl)).2.1
    · rw [if_neg h]
  unfold findS
  rw [List.take_succ_cons]
  simp only [List.head?_cons, List.drop_succ_cons, List.drop_zero]
  simp only [hh, nameR_cut hu hs']
  by_cases h35 : t.head? = some 35
  · rw [if_pos h35, if_pos h35]
    have h1 : 1 ≤ u := by
      by_cases h : u = 0
      · subst h
        cases t with
        | nil => cases h35
        | cons y s =>
          have : y = 35 := by simpa using h35
          subst this
          exact absurd rfl (stopX_not 35 (hs' 35 rfl)).2.1
      · omega
    have hd : (t.take u).drop 1 = (t.drop 1).take (u - 1) := by rw [List.drop_take]
    have hn : numR ((t.take u).drop 1) = numR (t.drop 1) := by
      rw [hd]
      refine numR_cut (by rw [List.length_drop]; omega) fun c hc => ?_
      rw [List.getElem?_drop, show 1 + (u - 1) = u by omega] at hc
      exact hs' c hc
    rw [hn]
  · rw [if_neg h35, if_neg h35]

inductive St | tag | slash | ahead | name | behind | value | double | single | bare | done
deriving DecidableEq
structure RS where
  st : St
  name : List UInt8
  l : List At
  self : Bool
  i : Nat
def addN (l : List At) (x : List UInt8) : List At := match l.reverse with
  | [] => []
  | a :: r => r.reverse ++ [(a.1 ++ x, a.2)]
def addV (l : List At) (x : List UInt8) : List At := match l.reverse with
  | [] => []
  | a :: r => r.reverse ++ [(a.1, a.2 ++ x)]
theorem addN_snoc (p : List At) (n v x : List UInt8) : addN (p ++ [(n, v)]) x = p ++ [(n ++ x, v)] := by simp [addN]
theorem addV_snoc (p : List At) (n v x : List UInt8) : addV (p ++ [(n, v)]) x = p ++ [(n, v ++ x)] := by simp [addV]
/-- Does a value in a state end at a byte? -/
def ends : St → UInt8 → Bool
  | .double, c => c == 34
  | .single, c => c == 39
  | .bare, c => blB c || c == 62
  | _, _ => false
def stepC (t : List UInt8) (s : RS) (c : UInt8) : RS :=
  match s.st with
  | .tag => if blB c = true then { s with st := .ahead, i := s.i + 1 } else if c = 47 then { s with st := .slash, i := s.i + 1 } else if c = 62 then { s with st := .done, i := s.i + 1 } else { s with name := s.name ++ cleanB c, i := s.i + 1 }
  | .slash => if c = 62 then { s with self := true, st := .done, i := s.i + 1 } else { s with st := .ahead }
  | .ahead => if c = 47 then { s with st := .slash, i := s.i + 1 } else if c = 62 then { s with st := .done, i := s.i + 1 } else if blB c = true then { s with i := s.i + 1 } else { s with l := s.l ++ [(cleanB c, [])], st := .name, i := s.i + 1 }
  | .name => if blB c = true then { s with st := .behind, i := s.i + 1 } else if c = 47 ∨ c = 62 then { s with st := .ahead } else if c = 61 then { s with st := .value, i := s.i + 1 } else { s with l := addN s.l (cleanB c), i := s.i + 1 }
  | .behind => if c = 61 then { s with st := .value, i := s.i + 1 } else if blB c = true then { s with i := s.i + 1 } else if c = 47 ∨ c = 62 then { s with st := .ahead } else { s with l := s.l ++ [(cleanB c, [])], st := .name, i := s.i + 1 }
  | .value => if c = 34 then { s with st := .double, i := s.i + 1 } else if c = 39 then { s with st := .single, i := s.i + 1 } else if c = 62 then { s with st := .done, i := s.i + 1 } else if blB c = true then { s with i := s.i + 1 } else { s with st := .bare }
  | .done => s
  | _ =>
    if ends s.st c = true then (if c = 62 then { s with st := .done, i := s.i + 1 } else { s with st := .ahead, i := s.i + 1 })
    else match findS (t.drop s.i) true with
      | some (ch, k) => { s with l := addV s.l (Utf8.encode ch).data.toList, i := s.i + k }
      | none => { s with l := addV s.l (if c = 0 then fffd else [c]), i := s.i + 1 }
def rank : St → Nat
  | .slash | .name | .behind | .value => 1
  | _ => 0
def mu (t : List UInt8) (s : RS) : Nat := 2 * (t.length - s.i) + rank s.st
theorem mu_step (t : List UInt8) (s : RS) (c : UInt8) (hc : t[s.i]? = some c) (hd : s.st ≠ .done) : mu t (stepC t s c) < mu t s := by
  have hl := (List.getElem?_eq_some_iff.1 hc).1
  obtain ⟨st, nm, l, self, i⟩ := s
  simp only [] at hc hd hl
  have val : ∀ st : St, mu t (if ends st c = true then (if c = 62 then (⟨.done, nm, l, self, i + 1⟩ : RS) else ⟨.ahead, nm, l, self, i + 1⟩) else match findS (t.drop i) true with
      | some (ch, k) => ⟨st, nm, addV l (Utf8.encode ch).data.toList, self, i + k⟩
      | none => ⟨st, nm, addV l (if c = 0 then fffd else [c]), self, i + 1⟩) < 2 * (t.length - i) + rank st := by
    intro st
    by_cases he : ends st c = true
    · rw [if_pos he]
      by_cases h62 : c = 62
      · rw [if_pos h62]; unfold mu; simp only [rank]; omega
      · rw [if_neg h62]; unfold mu; simp only [rank]; omega
    · rw [if_neg he]
      cases hf : findS (t.drop i) true with
      | none => unfold mu; simp only []; omega
      | some x =>
        obtain ⟨ch, k⟩ := x
        have hb := find_bounds hf
        rw [List.length_drop] at hb
        unfold mu
        simp only []
        omega
  cases st with
  | done => exact absurd rfl hd
  | double => exact val .double
  | single => exact val .single
  | bare => exact val .bare
  | tag => unfold stepC mu; simp only []; repeat' split
           all_goals (simp only [rank]; omega)
  | slash => unfold stepC mu; simp only []; repeat' split
             all_goals (simp only [rank]; omega)
  | ahead => unfold stepC mu; simp only []; repeat' split
             all_goals (simp only [rank]; omega)
  | name => unfold stepC mu; simp only []; repeat' split
            all_goals (simp only [rank]; omega)
  | behind => unfold stepC mu; simp only []; repeat' split
              all_goals (simp only [rank]; omega)
  | value => unfold stepC mu; simp only []; repeat' split
             all_goals (simp only [rank]; omega)
/-- The rounds, till the end of the text, or of the tag. -/
def runF (t : List UInt8) : Nat → RS → RS
  | 0, s => s
  | n + 1, s => if s.st = .done then s else match t[s.i]? with
    | none => s
    | some c => runF t n (stepC t s c)
def runR (t : List UInt8) (s : RS) : RS := runF t (mu t s) s
theorem runF_more (t : List UInt8) : ∀ (n : Nat) (s : RS), mu t s ≤ n → runF t n s = runR t s := by
  have key : ∀ (k n m : Nat) (s : RS), mu t s ≤ k → mu t s ≤ n → mu t s ≤ m → runF t n s = runF t m s := by
    intro k
    induction k with
    | zero =>
      intro n m s h _ _
      have hi : t[s.i]? = none := by rw [List.getElem?_eq_none]; unfold mu at h; omega
      have e : ∀ n, runF t n s = s := by
        intro n
        cases n with
        | zero => rfl
        | succ n => unfold runF; rw [hi]; split <;> rfl
      rw [e, e]
    | succ k ih =>
      intro n m s h h1 h2
      by_cases hd : s.st = .done
      · have e : ∀ n, runF t n s = s := by
          intro n
          cases n with
          | zero => rfl
          | succ n => unfold runF; rw [if_pos hd]
        rw [e, e]
      · cases hc : t[s.i]? with
        | none =>
          have e : ∀ n, runF t n s = s := by
            intro n
            cases n with
            | zero => rfl
            | succ n => unfold runF; rw [hc]; split <;> rfl
          rw [e, e]
        | some c =>
          have hs := mu_step t s c hc hd
          obtain ⟨n, rfl⟩ : ∃ j, n = j + 1 := ⟨n - 1, by omega⟩
          obtain ⟨m, rfl⟩ : ∃ j, m = j + 1 := ⟨m - 1, by omega⟩
          unfold runF
          rw [if_neg hd, if_neg hd, hc]
          exact ih n m _ (by omega) (by omega) (by omega)
  intro n s h
  exact key n n (mu t s) s h h (Nat.le_refl _)
theorem run_step {t : List UInt8} {s : RS} {c : UInt8} (hc : t[s.i]? = some c) (hd : s.st ≠ .done) : runR t s = runR t (stepC t s c) := by
  have hs := mu_step t s c hc hd
  rw [← runF_more t (mu t s + 1) s (by omega)]
  conv => lhs; unfold runF
  rw [if_neg hd, hc]
  exact runF_more t _ _ (by omega)
theorem run_done {t : List UInt8} {s : RS} (hd : s.st = .done) : runR t s = s := by
  rw [← runF_more t (mu t s + 1) s (by omega)]
  unfold runF
  rw [if_pos hd]
theorem run_end {t : List UInt8} {s : RS} (h : t[s.i]? = none) : runR t s = s := by
  rw [← runF_more t (mu t s + 1) s (by omega)]
  unfold runF
  rw [h]
  split <;> rfl
def outR (s : RS) : Option (List UInt8 × List At × Bool × Nat) := if s.st = .done then some (s.name, s.l, s.self, s.i) else none

theorem drop_cons {t : List UInt8} {i : Nat} {c : UInt8} (h : t[i]? = some c) : t.drop i = c :: t.drop (i + 1) := by
  have hl := (List.getElem?_eq_some_iff.1 h).1
  rw [List.drop_eq_getElem_cons hl]
  congr 1
  exact (List.getElem?_eq_some_iff.1 h).2
theorem clean_cons (c : UInt8) (l : List UInt8) : cleanL (c :: l) = cleanB c ++ cleanL l := by simp [cleanL]
theorem up_pos {p : UInt8 → Bool} {t : List UInt8} {i u : Nat} (h : upN p (t.drop i) = u + 1) : ∃ c, t[i]? = some c ∧ blB c = false ∧ p c = false ∧ upN p (t.drop (i + 1)) = u := by
  obtain ⟨c, h1, h2⟩ := tw_in (fun c => !(blB c) && !(p c)) (t.drop i) 0 (by unfold upN at h; omega)
  rw [List.getElem?_drop, Nat.add_zero] at h1
  simp at h2
  have h3 := upN_step p t i c h1 h2.1 h2.2
  exact ⟨c, h1, h2.1, h2.2, by omega⟩
theorem skip_pos {t : List UInt8} {i u : Nat} (h : skipN (t.drop i) = u + 1) : ∃ c, t[i]? = some c ∧ blB c = true ∧ skipN (t.drop (i + 1)) = u := by
  obtain ⟨c, h1, h2⟩ := tw_in blB (t.drop i) 0 (by unfold skipN at h; omega)
  rw [List.getElem?_drop, Nat.add_zero] at h1
  have h3 := skipN_step t i c h1 h2
  exact ⟨c, h1, h2, by omega⟩
theorem skip_at {t : List UInt8} {i : Nat} {c : UInt8} (h : t[i + skipN (t.drop i)]? = some c) : blB c = false := by
  refine tw_at blB (t.drop i) c ?_
  rw [List.getElem?_drop]
  exact h
theorem up_at {p : UInt8 → Bool} {t : List UInt8} {i : Nat} {c : UInt8} (h : t[i + upN p (t.drop i)]? = some c) : blB c = true ∨ p c = true := by
  have := tw_at (fun c => !(blB c) && !(p c)) (t.drop i) c (by rw [List.getElem?_drop]; exact h)
  cases hb : blB c with
  | true => exact .inl rfl
  | false => rw [hb] at this; simp at this; exact .inr this
theorem blank_is {c : UInt8} (h : blB c = true) : ¬ c = 47 ∧ ¬ c = 62 ∧ ¬ c = 61 ∧ ¬ c = 34 ∧ ¬ c = 39 := by
  refine ⟨?_, ?_, ?_, ?_, ?_⟩ <;> (rintro rfl; revert h; decide)
section
variable {t : List UInt8}
theorem tag_run (l : List At) (b : Bool) : ∀ (u : Nat) (nm : List UInt8) (i : Nat), upN stopA (t.drop i) = u → runR t ⟨.tag, nm, l, b, i⟩ = runR t ⟨.tag, nm ++ cleanL ((t.drop i).take u), l, b, i + u⟩
  | 0, nm, i, h => by simp [cleanL]
  | u + 1, nm, i, h => by
    obtain ⟨c, h1, h2, h3, h4⟩ := up_pos h
    unfold stopA at h3
    simp at h3
    rw [run_step (s := ⟨.tag, nm, l, b, i⟩) h1 (by simp)]
    have e : stepC t ⟨.tag, nm, l, b, i⟩ c = ⟨.tag, nm ++ cleanB c, l, b, i + 1⟩ := by
      unfold stepC
      simp only []
      rw [if_neg (by rw [h2]; simp), if_neg h3.1, if_neg h3.2]
    rw [e, tag_run l b u _ _ h4, drop_cons h1, List.take_succ_cons, clean_cons, List.append_assoc, show i + 1 + u = i + (u + 1) by omega]
theorem name_run (nm : List UInt8) (p : List At) (v : List UInt8) (b : Bool) : ∀ (u : Nat) (n : List UInt8) (i : Nat), upN stopB (t.drop i) = u → runR t ⟨.name, nm, p ++ [(n, v)], b, i⟩ = runR t ⟨.name, nm, p ++ [(n ++ cleanL ((t.drop i).take u), v)], b, i + u⟩
  | 0, n, i, h => by simp [cleanL]
  | u + 1, n, i, h => by
    obtain ⟨c, h1, h2, h3, h4⟩ := up_pos h
    unfold stopB at h3
    simp at h3
    rw [run_step (s := ⟨.name, nm, p ++ [(n, v)], b, i⟩) h1 (by simp)]
    have e : stepC t ⟨.name, nm, p ++ [(n, v)], b, i⟩ c = ⟨.name, nm, p ++ [(n ++ cleanB c, v)], b, i + 1⟩ := by
      unfold stepC
      simp only []
      rw [if_neg (by rw [h2]; simp), if_neg (by rintro (h | h); exact h3.1.1 h; exact h3.1.2 h), if_neg h3.2, addN_snoc]
    rw [e, name_run nm p v b u _ _ h4, drop_cons h1, List.take_succ_cons, clean_cons, List.append_assoc, show i + 1 + u = i + (u + 1) by omega]
theorem behind_run (nm : List UInt8) (l : List At) (b : Bool) : ∀ (u i : Nat), skipN (t.drop i) = u → runR t ⟨.behind, nm, l, b, i⟩ = runR t ⟨.behind, nm, l, b, i + u⟩
  | 0, i, h => rfl
  | u + 1, i, h => by
    obtain ⟨c, h1, h2, h4⟩ := skip_pos h
    rw [run_step (s := ⟨.behind, nm, l, b, i⟩) h1 (by simp)]
    have e : stepC t ⟨.behind, nm, l, b, i⟩ c = ⟨.behind, nm, l, b, i + 1⟩ := by
      unfold stepC
      simp only []
      rw [if_neg (blank_is h2).2.2.1, if_pos h2]
    rw [e, behind_run nm l b u _ h4, show i + 1 + u = i + (u + 1) by omega]
theorem value_run (nm : List UInt8) (l : List At) (b : Bool) : ∀ (u i : Nat), skipN (t.drop i) = u → runR t ⟨.value, nm, l, b, i⟩ = runR t ⟨.value, nm, l, b, i + u⟩
  | 0, i, h => rfl
  | u + 1, i, h => by
    obtain ⟨c, h1, h2, h4⟩ := skip_pos h
    rw [run_step (s := ⟨.value, nm, l, b, i⟩) h1 (by simp)]
    have e : stepC t ⟨.value, nm, l, b, i⟩ c = ⟨.value, nm, l, b, i + 1⟩ := by
      unfold stepC
      simp only []
      rw [if_neg (blank_is h2).2.2.2.1, if_neg (blank_is h2).2.2.2.2, if_neg (blank_is h2).2.1, if_pos h2]
    rw [e, value_run nm l b u _ h4, show i + 1 + u = i + (u + 1) by omega]
theorem step_val {st : St} (hst : st = .double ∨ st = .single ∨ st = .bare) (nm : List UInt8) (l : List At) (b : Bool) (i : Nat) (c : UInt8) : stepC t ⟨st, nm, l, b, i⟩ c =
    if ends st c = true then (if c = 62 then ⟨.done, nm, l, b, i + 1⟩ else ⟨.ahead, nm, l, b, i + 1⟩)
    else match findS (t.drop i) true with
      | some (ch, k) => ⟨st, nm, addV l (Utf8.encode ch).data.toList, b, i + k⟩
      | none => ⟨st, nm, addV l (if c = 0 then fffd else [c]), b, i + 1⟩ := by
  rcases hst with rfl | rfl | rfl <;> rfl
def endN (st : St) (r : List UInt8) : Nat := (r.takeWhile fun c => !(ends st c)).length
theorem endN_drop {st : St} {r : List UInt8} {k : Nat} (hk : k ≤ endN st r) : endN st (r.drop k) = endN st r - k := by
  unfold endN at hk ⊢
  refine tw_len _ _ _ (fun j hj => ?_) (fun c hc => ?_)
  · obtain ⟨c, h1, h2⟩ := tw_in (fun c => !(ends st c)) r (k + j) (by omega)
    exact ⟨c, by rw [List.getElem?_drop]; exact h1, h2⟩
  · rw [List.getElem?_drop, Nat.add_sub_cancel' hk] at hc
    exact tw_at _ r c hc
theorem endN_le (st : St) (r : List UInt8) : endN st r ≤ r.length := (List.takeWhile_prefix _).length_le
theorem val_run {st : St} (hst : st = .double ∨ st = .single ∨ st = .bare) (nm : List UInt8) (p : List At) (an : List UInt8) (b : Bool) : ∀ (N m : Nat) (av : List UInt8) (i : Nat), m ≤ N → endN st (t.drop i) = m → runR t ⟨st, nm, p ++ [(an, av)], b, i⟩ = runR t ⟨st, nm, p ++ [(an, av ++ valL ((t.drop i).take m))], b, i + m⟩
  | N, 0, av, i, _, h => by simp [valL, valF]
  | 0, m + 1, av, i, hN, h => by omega
  | N + 1, m + 1, av, i, hN, h => by
    have hX : ∀ c, ends st c = true → stopX c = true := by
      intro c hc
      rcases hst with rfl | rfl | rfl
      · have e : c = 34 := by simpa [ends] using hc
        subst e; rfl
      · have e : c = 39 := by simpa [ends] using hc
        subst e; rfl
      · have e : blB c = true ∨ c = 62 := by simpa [ends] using hc
        unfold stopX
        rcases e with h | h <;> simp [h]
    have hm := endN_le st (t.drop i)
    rw [h] at hm
    obtain ⟨c, h1, h2⟩ := tw_in (fun c => !(ends st c)) (t.drop i) 0 (by unfold endN at h; omega)
    have h1' := h1
    rw [List.getElem?_drop, Nat.add_zero] at h1'
    have h2' : ends st c = false := by simpa using h2
    have hs : ∀ c, (t.drop i)[m + 1]? = some c → stopX c = true := by
      intro c hc
      rw [← h] at hc
      have := tw_at (fun c => !(ends st c)) (t.drop i) c hc
      exact hX c (by simpa using this)
    have hcut := find_cut (r := t.drop i) (m := m + 1) (by omega) hm hs
    have hne : st ≠ .done := by rcases hst with rfl | rfl | rfl <;> simp
    rw [run_step (s := ⟨st, nm, p ++ [(an, av)], b, i⟩) h1' hne, step_val hst, if_neg (by rw [h2']; simp)]
    cases hf : findS (t.drop i) true with
    | none =>
      simp only []
      rw [addV_snoc]
      have hd : endN st (t.drop (i + 1)) = m := by
        rw [← List.drop_drop, endN_drop (by omega), h]; omega
      rw [val_run hst nm p an b N m _ (i + 1) (by omega) hd]
      rw [hf] at hcut
      have hv := val_miss (l := (t.drop i).take (m + 1)) (k := 0) (c := c) (by rw [List.getElem?_take, if_pos (by omega)]; exact h1) (by rw [List.drop_zero]; exact hcut)
      rw [List.drop_zero] at hv
      rw [hv, List.drop_take, List.drop_drop, List.append_assoc, show i + 1 + m = i + (m + 1) by omega]
      rfl
    | some x =>
      obtain ⟨ch, k⟩ := x
      simp only []
      rw [addV_snoc]
      rw [hf] at hcut
      have hb := find_bounds hcut
      rw [List.length_take] at hb
      have hkm : k ≤ m + 1 := by omega
      have hd : endN st (t.drop (i + k)) = m + 1 - k := by
        rw [← List.drop_drop, endN_drop (by omega), h]
      rw [val_run hst nm p an b N (m + 1 - k) _ (i + k) (by omega) hd]
      have hv := val_hit (l := (t.drop i).take (m + 1)) (k := 0) (by rw [List.drop_zero]; exact hcut)
      rw [List.drop_zero, Nat.zero_add] at hv
      rw [hv, List.drop_take, List.drop_drop, List.append_assoc, show i + k + (m + 1 - k) = i + (m + 1) by omega]
def RF (t : List UInt8) (i : Nat) (l : List At) (b : Bool) : Option (List At × Bool × Nat) := restF (t.length + 1) (t.drop i) l b i
theorem RF_end {i : Nat} {l : List At} {b : Bool} (h : t[i]? = none) : RF t i l b = none := by
  rw [List.getElem?_eq_none_iff] at h
  unfold RF
  rw [List.drop_of_length_le h]
  rfl
theorem RF_cons {i : Nat} {l : List At} {b : Bool} {c : UInt8} (h : t[i]? = some c) : RF t i l b =
    if c = 62 then some (l, b, i + 1) else if blB c = true then RF t (i + 1) l b else if c = 47 then RF t (i + 1) l (t[i + 1]? == some 62)
    else RF t (i + (attrL (t.drop i)).2) (l ++ [(attrL (t.drop i)).1]) b := by
  have hl := (List.getElem?_eq_some_iff.1 h).1
  have hd := drop_cons h
  have hp := attr_pos (t.drop i) (by rw [List.length_drop]; omega)
  have hfuel : ∀ (j : Nat) (l : List At) (b : Bool), i < j → restF t.length (t.drop j) l b j = RF t j l b := fun j l b hj => rest_same (by rw [List.length_drop]; omega) (by rw [List.length_drop]; omega)
  conv => lhs; unfold RF
  rw [hd]
  conv => lhs; unfold restF
  rw [← hd, List.drop_drop, List.head?_drop, hfuel _ _ _ (by omega), hfuel _ _ _ (by omega), hfuel _ _ _ (by omega)]
theorem RF_skip {l : List At} {b : Bool} : ∀ (u i : Nat), skipN (t.drop i) = u → RF t i l b = RF t (i + u) l b
  | 0, i, _ => rfl
  | u + 1, i, h => by
    obtain ⟨c, h1, h2, h4⟩ := skip_pos h
    rw [RF_cons h1, if_neg (blank_is h2).2.1, if_pos h2, RF_skip u _ h4, show i + 1 + u = i + (u + 1) by omega]
end

section
variable {t : List UInt8}
def mapO (nm : List UInt8) (o : Option (List At × Bool × Nat)) : Option (List UInt8 × List At × Bool × Nat) := o.map fun x => (nm, x.1, x.2.1, x.2.2)
theorem endN_bare (r : List UInt8) : endN .bare r = upN stopC r := by
  unfold endN upN
  congr 2
  funext c
  show (!(blB c || c == 62)) = (!(blB c) && !(c == 62))
  rw [Bool.not_or]
theorem value_tail (nm : List UInt8) (l : List At) (i : Nat) (hi : i < t.length) (hIH : ∀ j l, i < j → outR (runR t ⟨.ahead, nm, l, false, j⟩) = mapO nm (RF t j l false))
    (r : List UInt8) (hr : t.drop i = r) (e b : Nat) (he : 1 + upN stopB (r.drop 1) = e) (hb : e + skipN (r.drop e) = b) (h61 : r[b]? = some 61) :
    outR (runR t ⟨.value, nm, l ++ [(cleanL (r.take e), [])], false, i + b + 1⟩) = mapO nm (RF t (i + (attrL r).2) (l ++ [(attrL r).1]) false) := by
  have hrl : r.length = t.length - i := by rw [← hr, List.length_drop]
  have hd : ∀ j, r.drop j = t.drop (i + j) := fun j => by rw [← hr, List.drop_drop]
  have hg : ∀ j, r[j]? = t[i + j]? := fun j => by rw [← hr, List.getElem?_drop]
  obtain ⟨n', hn'⟩ : ∃ n', cleanL (r.take e) = n' := ⟨_, rfl⟩
  obtain ⟨v, hv⟩ : ∃ v, b + 1 + skipN (r.drop (b + 1)) = v := ⟨_, rfl⟩
  have hv' : i + b + 1 + skipN (t.drop (i + b + 1)) = i + v := by
    rw [hd, ← Nat.add_assoc] at hv
    omega
  rw [hn', value_run nm _ false _ (i + b + 1) rfl, hv']
  unfold attrL
  simp only [he, hb]
  rw [if_pos h61]
  simp only [hv, hn']
  cases hc : t[i + v]? with
  | none =>
    rw [hg v, hc]
    simp only []
    rw [run_end (s := ⟨.value, nm, l ++ [(n', [])], false, i + v⟩) hc, RF_end hc]
    rfl
  | some c =>
    have hnb : blB c = false := skip_at (i := i + b + 1) (by rw [hv']; exact hc)
    have hvl := (List.getElem?_eq_some_iff.1 hc).1
    rw [hg v, hc]
    simp only []
    rw [run_step (s := ⟨.value, nm, l ++ [(n', [])], false, i + v⟩) hc (by simp)]
    have hquote : ∀ (q : UInt8) (st : St), (st = .double ∨ st = .single) → (∀ d, ends st d = (d == q)) → q ≠ 62 → outR (runR t ⟨st, nm, l ++ [(n', [])], false, i + v + 1⟩) =
        mapO nm (RF t (i + (if v + 1 + toN q (r.drop (v + 1)) < r.length then ((n', valL ((r.drop (v + 1)).take (toN q (r.drop (v + 1))))), v + 1 + toN q (r.drop (v + 1)) + 1) else ((n', []), r.length)).2)
          (l ++ [(if v + 1 + toN q (r.drop (v + 1)) < r.length then ((n', valL ((r.drop (v + 1)).take (toN q (r.drop (v + 1))))), v + 1 + toN q (r.drop (v + 1)) + 1) else ((n', []), r.length)).1]) false) := by
      intro q st hst hends hq62
      have hst3 : st = .double ∨ st = .single ∨ st = .bare := by rcases hst with h | h; exact .inl h; exact .inr (.inl h)
      have hto : endN st (t.drop (i + v + 1)) = toN q (r.drop (v + 1)) := by
        rw [hd, ← Nat.add_assoc]
        unfold endN toN
        congr 2
        funext d
        rw [hends]
        rfl
      obtain ⟨m, hm⟩ : ∃ m, toN q (r.drop (v + 1)) = m := ⟨_, rfl⟩
      rw [hm] at hto ⊢
      rw [val_run hst3 nm l n' false m m [] (i + v + 1) (Nat.le_refl _) hto, List.nil_append]
      have hdd : (t.drop (i + v + 1)) = r.drop (v + 1) := by rw [hd, ← Nat.add_assoc]
      rw [hdd]
      by_cases hlt : v + 1 + m < r.length
      · rw [if_pos hlt]
        simp only []
        have hx : i + v + 1 + m < t.length := by omega
        obtain ⟨d, hdd2⟩ : ∃ d, t[i + v + 1 + m]? = some d := ⟨_, List.getElem?_eq_getElem hx⟩
        have hed : ends st d = true := by
          have h := tw_at (fun c => !(ends st c)) (t.drop (i + v + 1)) d (by
            rw [List.getElem?_drop]
            rw [show ((t.drop (i + v + 1)).takeWhile fun c => !(ends st c)).length = m from hto]
            exact hdd2)
          simpa using h
        have hdq : d = q := by rw [hends] at hed; simpa using hed
        rw [run_step (s := ⟨st, nm, l ++ [(n', valL ((r.drop (v + 1)).take m))], false, i + v + 1 + m⟩) hdd2 (by rcases hst with rfl | rfl <;> simp), step_val hst3, if_pos hed, if_neg (by rw [hdq]; exact hq62)]
        rw [show i + v + 1 + m + 1 = i + (v + 1 + m + 1) by omega]
        exact hIH _ _ (by omega)
      · rw [if_neg hlt]
        simp only []
        have hn1 : t[i + v + 1 + m]? = none := by rw [List.getElem?_eq_none_iff]; omega
        rw [run_end (s := ⟨st, nm, l ++ [(n', valL ((r.drop (v + 1)).take m))], false, i + v + 1 + m⟩) hn1, RF_end (i := i + r.length) (by rw [List.getElem?_eq_none_iff]; omega)]
        rcases hst with rfl | rfl <;> rfl
    by_cases h34 : c = 34
    · have e1 : stepC t ⟨.value, nm, l ++ [(n', [])], false, i + v⟩ c = ⟨.double, nm, l ++ [(n', [])], false, i + v + 1⟩ := by unfold stepC; simp only []; rw [if_pos h34]
      rw [e1, if_neg (by rw [h34]; decide), if_pos (.inl h34), h34]
      exact hquote 34 .double (.inl rfl) (fun d => rfl) (by decide)
    · by_cases h39 : c = 39
      · have e1 : stepC t ⟨.value, nm, l ++ [(n', [])], false, i + v⟩ c = ⟨.single, nm, l ++ [(n', [])], false, i + v + 1⟩ := by unfold stepC; simp only []; rw [if_neg h34, if_pos h39]
        rw [e1, if_neg (by rw [h39]; decide), if_pos (.inr h39), h39]
        exact hquote 39 .single (.inr rfl) (fun d => rfl) (by decide)
      · by_cases h62 : c = 62
        · have e1 : stepC t ⟨.value, nm, l ++ [(n', [])], false, i + v⟩ c = ⟨.done, nm, l ++ [(n', [])], false, i + v + 1⟩ := by unfold stepC; simp only []; rw [if_neg h34, if_neg h39, if_pos h62]
          rw [e1, if_pos h62, run_done rfl]
          simp only []
          rw [RF_cons hc, if_pos h62]
          rfl
        · have e1 : stepC t ⟨.value, nm, l ++ [(n', [])], false, i + v⟩ c = ⟨.bare, nm, l ++ [(n', [])], false, i + v⟩ := by unfold stepC; simp only []; rw [if_neg h34, if_neg h39, if_neg h62, if_neg (by rw [hnb]; simp)]
          rw [e1, if_neg h62, if_neg (by rintro (h | h); exact h34 h; exact h39 h)]
          simp only []
          obtain ⟨m, hm⟩ : ∃ m, upN stopC (r.drop v) = m := ⟨_, rfl⟩
          have hto : endN .bare (t.drop (i + v)) = m := by rw [endN_bare, ← hd, hm]
          rw [hm, val_run (.inr (.inr rfl)) nm l n' false m m [] (i + v) (Nat.le_refl _) hto, List.nil_append, ← hd]
          rw [show i + (v + m) = i + v + m by omega]
          cases hdd : t[i + v + m]? with
          | none =>
            rw [run_end (s := ⟨.bare, nm, l ++ [(n', valL ((r.drop v).take m))], false, i + v + m⟩) hdd, RF_end hdd]
            rfl
          | some d =>
            have hed : ends .bare d = true := by
              have h := tw_at (fun c => !(ends .bare c)) (t.drop (i + v)) d (by
                rw [List.getElem?_drop]
                rw [show ((t.drop (i + v)).takeWhile fun c => !(ends .bare c)).length = m from hto]
                exact hdd)
              simpa using h
            rw [run_step (s := ⟨.bare, nm, l ++ [(n', valL ((r.drop v).take m))], false, i + v + m⟩) hdd (by simp), step_val (.inr (.inr rfl)), if_pos hed, RF_cons hdd]
            by_cases hd62 : d = 62
            · rw [if_pos hd62, if_pos hd62, run_done rfl]
              rfl
            · have hbl : blB d = true := by
                have : blB d = true ∨ d = 62 := by simpa [ends] using hed
                rcases this with h | h
                · exact h
                · exact absurd h hd62
              rw [if_neg hd62, if_neg hd62, if_pos hbl]
              exact hIH _ _ (by omega)
theorem ahead_run (nm : List UInt8) : ∀ (N i : Nat) (l : List At), t.length - i ≤ N → outR (runR t ⟨.ahead, nm, l, false, i⟩) = mapO nm (RF t i l false) := by
  intro N
  induction N with
  | zero =>
    intro i l h
    have hn : t[i]? = none := by rw [List.getElem?_eq_none_iff]; omega
    rw [run_end (s := ⟨.ahead, nm, l, false, i⟩) hn, RF_end hn]
    rfl
  | succ N ih =>
    intro i l h
    cases hc : t[i]? with
    | none =>
      rw [run_end (s := ⟨.ahead, nm, l, false, i⟩) hc, RF_end hc]
      rfl
    | some c =>
      have hl := (List.getElem?_eq_some_iff.1 hc).1
      have hIH : ∀ j l, i < j → outR (runR t ⟨.ahead, nm, l, false, j⟩) = mapO nm (RF t j l false) := fun j l hj => ih j l (by omega)
      rw [run_step (s := ⟨.ahead, nm, l, false, i⟩) hc (by simp), RF_cons hc]
      by_cases h62 : c = 62
      · have e1 : stepC t ⟨.ahead, nm, l, false, i⟩ c = ⟨.done, nm, l, false, i + 1⟩ := by unfold stepC; simp only []; rw [if_neg (by rw [h62]; decide), if_pos h62]
        rw [e1, if_pos h62, run_done rfl]
        rfl
      · rw [if_neg h62]
        by_cases hb : blB c = true
        · have e1 : stepC t ⟨.ahead, nm, l, false, i⟩ c = ⟨.ahead, nm, l, false, i + 1⟩ := by unfold stepC; simp only []; rw [if_neg (blank_is hb).1, if_neg h62, if_pos hb]
          rw [e1, if_pos hb]
          exact hIH _ _ (by omega)
        · rw [if_neg hb]
          by_cases h47 : c = 47
          · have e1 : stepC t ⟨.ahead, nm, l, false, i⟩ c = ⟨.slash, nm, l, false, i + 1⟩ := by unfold stepC; simp only []; rw [if_pos h47]
            rw [e1, if_pos h47]
            cases hd : t[i + 1]? with
            | none =>
              rw [run_end (s := ⟨.slash, nm, l, false, i + 1⟩) hd, RF_end hd]
              rfl
            | some d =>
              rw [run_step (s := ⟨.slash, nm, l, false, i + 1⟩) hd (by simp)]
              by_cases hd62 : d = 62
              · have e2 : stepC t ⟨.slash, nm, l, false, i + 1⟩ d = ⟨.done, nm, l, true, i + 1 + 1⟩ := by unfold stepC; simp only []; rw [if_pos hd62]
                rw [e2, run_done rfl, RF_cons hd, if_pos hd62, hd62]
                rfl
              · have e2 : stepC t ⟨.slash, nm, l, false, i + 1⟩ d = ⟨.ahead, nm, l, false, i + 1⟩ := by unfold stepC; simp only []; rw [if_neg hd62]
                have e3 : (some d == some (62 : UInt8)) = false := by simpa using hd62
                rw [e2, e3]
                exact hIH _ _ (by omega)
          · rw [if_neg h47]
            have e1 : stepC t ⟨.ahead, nm, l, false, i⟩ c = ⟨.name, nm, l ++ [(cleanB c, [])], false, i + 1⟩ := by unfold stepC; simp only []; rw [if_neg h47, if_neg h62, if_neg hb]
            rw [e1]
            obtain ⟨r, hr⟩ : ∃ r, t.drop i = r := ⟨_, rfl⟩
            have hg : ∀ j, r[j]? = t[i + j]? := fun j => by rw [← hr, List.getElem?_drop]
            have hdr : ∀ j, r.drop j = t.drop (i + j) := fun j => by rw [← hr, List.drop_drop]
            obtain ⟨u, hu⟩ : ∃ u, upN stopB (t.drop (i + 1)) = u := ⟨_, rfl⟩
            have hur : upN stopB (r.drop 1) = u := by rw [hdr]; exact hu
            have he : 1 + upN stopB (r.drop 1) = 1 + u := by rw [hur]
            have hname : cleanB c ++ cleanL ((t.drop (i + 1)).take u) = cleanL (r.take (1 + u)) := by
              rw [← hr, drop_cons hc, show 1 + u = u + 1 by omega, List.take_succ_cons, clean_cons]
            rw [name_run nm l [] false u _ (i + 1) hu, hname, hr]
            obtain ⟨n', hn'⟩ : ∃ n', cleanL (r.take (1 + u)) = n' := ⟨_, rfl⟩
            have hnot : ∀ b, (1 + u) + skipN (r.drop (1 + u)) = b → ¬ r[b]? = some 61 → attrL r = ((n', []), 1 + u) := by
              intro b hb h61
              unfold attrL
              simp only [he, hb]
              rw [if_neg h61, hn']
            rw [hn']
            have hE : i + 1 + u = i + (1 + u) := by omega
            rw [hE]
            cases hd : t[i + (1 + u)]? with
            | none =>
              have hlen : t.length ≤ i + (1 + u) := by rw [List.getElem?_eq_none_iff] at hd; exact hd
              have hA := hnot _ rfl (by rw [hg, List.getElem?_eq_none (by omega)]; simp)
              rw [run_end (s := ⟨.name, nm, l ++ [(n', [])], false, i + (1 + u)⟩) hd, hA, RF_end hd]
              rfl
            | some d =>
              have hstop := up_at (p := stopB) (t := t) (i := i + 1) (c := d) (by rw [hu, hE]; exact hd)
              rw [run_step (s := ⟨.name, nm, l ++ [(n', [])], false, i + (1 + u)⟩) hd (by simp)]
              by_cases hdb : blB d = true
              · have e2 : stepC t ⟨.name, nm, l ++ [(n', [])], false, i + (1 + u)⟩ d = ⟨.behind, nm, l ++ [(n', [])], false, i + (1 + u) + 1⟩ := by unfold stepC; simp only []; rw [if_pos hdb]
                obtain ⟨w, hw⟩ : ∃ w, skipN (t.drop (i + (1 + u) + 1)) = w := ⟨_, rfl⟩
                have hsk : skipN (t.drop (i + (1 + u))) = w + 1 := by rw [skipN_step t _ d hd hdb, hw]
                obtain ⟨b, hb⟩ : ∃ b, (1 + u) + skipN (r.drop (1 + u)) = b := ⟨_, rfl⟩
                have hbB : i + (1 + u) + 1 + w = i + b := by rw [hdr, hsk] at hb; omega
                rw [e2, behind_run nm _ false w _ hw, hbB]
                have hskip : RF t (i + (1 + u)) (l ++ [(n', [])]) false = RF t (i + b) (l ++ [(n', [])]) false := by
                  rw [RF_skip (w + 1) _ hsk]
                  congr 1
                  omega
                cases hf : t[i + b]? with
                | none =>
                  have hA := hnot b hb (by rw [hg, hf]; simp)
                  rw [run_end (s := ⟨.behind, nm, l ++ [(n', [])], false, i + b⟩) hf, hA, hskip, RF_end hf]
                  rfl
                | some f =>
                  have hfb : blB f = false := skip_at (i := i + (1 + u) + 1) (by rw [hw, hbB]; exact hf)
                  by_cases h61 : f = 61
                  · have e3 : stepC t ⟨.behind, nm, l ++ [(n', [])], false, i + b⟩ f = ⟨.value, nm, l ++ [(n', [])], false, i + b + 1⟩ := by unfold stepC; simp only []; rw [if_pos h61]
                    rw [run_step (s := ⟨.behind, nm, l ++ [(n', [])], false, i + b⟩) hf (by simp), e3, ← hn']
                    exact value_tail nm l i hl hIH r hr (1 + u) b he hb (by rw [hg, hf, h61])
                  · have hA := hnot b hb (by rw [hg, hf]; simpa using h61)
                    rw [hA, hskip]
                    have e4 : runR t ⟨.behind, nm, l ++ [(n', [])], false, i + b⟩ = runR t ⟨.ahead, nm, l ++ [(n', [])], false, i + b⟩ := by
                      rw [run_step (s := ⟨.behind, nm, l ++ [(n', [])], false, i + b⟩) hf (by simp)]
                      by_cases hs : f = 47 ∨ f = 62
                      · have e3 : stepC t ⟨.behind, nm, l ++ [(n', [])], false, i + b⟩ f = ⟨.ahead, nm, l ++ [(n', [])], false, i + b⟩ := by unfold stepC; simp only []; rw [if_neg h61, if_neg (by rw [hfb]; simp), if_pos hs]
                        rw [e3]
                      · have h47f : ¬ f = 47 := fun h => hs (.inl h)
                        have h62f : ¬ f = 62 := fun h => hs (.inr h)
                        have e3 : stepC t ⟨.behind, nm, l ++ [(n', [])], false, i + b⟩ f = ⟨.name, nm, l ++ [(n', [])] ++ [(cleanB f, [])], false, i + b + 1⟩ := by unfold stepC; simp only []; rw [if_neg h61, if_neg (by rw [hfb]; simp), if_neg hs]
                        have e5 : stepC t ⟨.ahead, nm, l ++ [(n', [])], false, i + b⟩ f = ⟨.name, nm, l ++ [(n', [])] ++ [(cleanB f, [])], false, i + b + 1⟩ := by unfold stepC; simp only []; rw [if_neg h47f, if_neg h62f, if_neg (by rw [hfb]; simp)]
                        rw [e3, run_step (s := ⟨.ahead, nm, l ++ [(n', [])], false, i + b⟩) hf (by simp), e5]
                    rw [e4]
                    exact hIH _ _ (by omega)
              · have hsk0 : skipN (r.drop (1 + u)) = 0 := by
                  rw [hdr]
                  exact skipN_stop t _ fun x hx => by rw [hd] at hx; injection hx with hx; subst hx; simpa using hdb
                have hbb : (1 + u) + skipN (r.drop (1 + u)) = 1 + u := by omega
                by_cases hs : d = 47 ∨ d = 62
                · have e2 : stepC t ⟨.name, nm, l ++ [(n', [])], false, i + (1 + u)⟩ d = ⟨.ahead, nm, l ++ [(n', [])], false, i + (1 + u)⟩ := by unfold stepC; simp only []; rw [if_neg hdb, if_pos hs]
                  have hA := hnot _ hbb (by rw [hg, hd]; rcases hs with h | h <;> (rw [h]; decide))
                  rw [e2, hA]
                  exact hIH _ _ (by omega)
                · have h61 : d = 61 := by
                    rcases hstop with h | h
                    · exact absurd h hdb
                    · unfold stopB at h
                      simp at h
                      rcases h with (h | h) | h
                      · exact absurd (.inl h) hs
                      · exact absurd (.inr h) hs
                      · exact h
                  have e2 : stepC t ⟨.name, nm, l ++ [(n', [])], false, i + (1 + u)⟩ d = ⟨.value, nm, l ++ [(n', [])], false, i + (1 + u) + 1⟩ := by unfold stepC; simp only []; rw [if_neg hdb, if_neg hs, if_pos h61]
                  rw [e2, ← hn']
                  exact value_tail nm l i hl hIH r hr (1 + u) (1 + u) he hbb (by rw [hg, hd, h61])
/-- The whole: from the name on. -/
theorem tag_same (i : Nat) : outR (runR t ⟨.tag, [], [], false, i⟩) = mapO (cleanL ((t.drop i).take (upN stopA (t.drop i)))) (RF t (i + upN stopA (t.drop i)) [] false) := by
  obtain ⟨u, hu⟩ : ∃ u, upN stopA (t.drop i) = u := ⟨_, rfl⟩
  rw [tag_run [] false u [] i hu, hu, List.nil_append]
  obtain ⟨nm, hnm⟩ : ∃ nm, cleanL ((t.drop i).take u) = nm := ⟨_, rfl⟩
  rw [hnm]
  cases hc : t[i + u]? with
  | none =>
    rw [run_end (s := ⟨.tag, nm, [], false, i + u⟩) hc, RF_end hc]
    rfl
  | some c =>
    have hstop := up_at (p := stopA) (t := t) (i := i) (c := c) (by rw [hu]; exact hc)
    have e4 : runR t ⟨.tag, nm, [], false, i + u⟩ = runR t ⟨.ahead, nm, [], false, i + u⟩ := by
      rw [run_step (s := ⟨.tag, nm, [], false, i + u⟩) hc (by simp), run_step (s := ⟨.ahead, nm, [], false, i + u⟩) hc (by simp)]
      congr 1
      unfold stepC
      simp only []
      by_cases hb : blB c = true
      · rw [if_pos hb, if_neg (blank_is hb).1, if_neg (blank_is hb).2.1, if_pos hb]
      · rw [if_neg hb]
        by_cases h47 : c = 47
        · rw [if_pos h47, if_pos h47]
        · have h62 : c = 62 := by
            rcases hstop with h | h
            · exact absurd h hb
            · unfold stopA at h
              simp at h
              rcases h with h | h
              · exact absurd h h47
              · exact h
          rw [if_neg h47, if_neg h47, if_pos h62, if_pos h62]
    rw [e4]
    exact ahead_run nm _ _ _ (Nat.le_refl _)
end
end Go.Proofs.YteeplfbaflldaaaDoor.T10
