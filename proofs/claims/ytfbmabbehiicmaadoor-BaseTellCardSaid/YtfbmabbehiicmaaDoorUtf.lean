/- Texts: bytes decoded, by definition: an automaton over a list. Of no program. -/
import Derived.Test.YtfbmabbehiicmaaDoorShelf
set_option linter.unusedVariables false
namespace Go.Proofs.YtfbmabbehiicmaaDoor

/-- How many bytes come behind a first one; below 0: it is none. -/
def moreI (c : Int) : Int := if c < 128 then 0 else if 194 ≤ c ∧ c ≤ 223 then 1 else if 224 ≤ c ∧ c ≤ 239 then 2 else if 240 ≤ c ∧ c ≤ 244 then 3 else -1
/-- The bounds of the byte in the k-th place behind a first one. -/
def lowI (f : Int) : Int := if f = 224 then 160 else if f = 240 then 144 else 128
def highI (f : Int) : Int := if f = 237 then 159 else if f = 244 then 143 else 191
def mayI (f c k : Int) : Bool := decide (128 ≤ c) && decide (c ≤ 191) && (decide (1 < k) || (decide (lowI f ≤ c) && decide (c ≤ highI f)))
def repl : List UInt8 := [239, 191, 189]
def firstI (l : List UInt8) : Int := (l.headD 0).toNat
/-- The text of bytes: 'have' has come of a character that needs so many bytes more. -/
def runU : List UInt8 → List UInt8 → Nat → List UInt8
  | [], have', 0 => have'
  | [], _, _ + 1 => repl
  | c :: r, have', 0 => have' ++ (if moreI (c.toNat : Int) < 0 then repl ++ runU r [] 0 else runU r [c] (moreI (c.toNat : Int)).toNat)
  | c :: r, have', n + 1 => if mayI (firstI have') (c.toNat : Int) (have'.length : Int) = true then runU r (have' ++ [c]) n
      else repl ++ (if moreI (c.toNat : Int) < 0 then repl ++ runU r [] 0 else runU r [c] (moreI (c.toNat : Int)).toNat)
theorem runU_zero (r h : List UInt8) : runU r h 0 = h ++ runU r [] 0 := by
  cases r with
  | nil => simp [runU]
  | cons c r => simp [runU]
theorem runU_fail {c : UInt8} {r h : List UInt8} {n : Nat} (hm : mayI (firstI h) (c.toNat : Int) (h.length : Int) = false) : runU (c :: r) h (n + 1) = repl ++ runU (c :: r) [] 0 := by
  simp [runU, hm]
theorem runU_go {c : UInt8} {r h : List UInt8} {n : Nat} (hm : mayI (firstI h) (c.toNat : Int) (h.length : Int) = true) : runU (c :: r) h (n + 1) = runU r (h ++ [c]) n := by
  simp [runU, hm]
theorem runU_end (h : List UInt8) (n : Nat) : runU [] h (n + 1) = repl ++ runU [] [] 0 := by simp [runU]
theorem runU_none {c : UInt8} {r : List UInt8} (hm : moreI (c.toNat : Int) < 0) : runU (c :: r) [] 0 = repl ++ runU r [] 0 := by
  simp [runU, hm]
theorem runU_first {c : UInt8} {r : List UInt8} (hm : ¬ moreI (c.toNat : Int) < 0) : runU (c :: r) [] 0 = runU r [c] (moreI (c.toNat : Int)).toNat := by
  simp [runU, hm]
def decU (l : List UInt8) : List UInt8 := runU l [] 0
/-- Without the mark at the front. -/
def unmark (l : List UInt8) : List UInt8 := Lib.trimPrefix l [239, 187, 191]
def textU (l : List UInt8) : List UInt8 := decU (unmark l)

/-- What stands at the front: how many bytes, and whether they are a character. -/
theorem piece_step {l : List UInt8} {f : UInt8} (hf : l.head? = some f) (n : Nat) (hn1 : 1 ≤ n) (hinv : decU l = runU (l.drop n) (l.take n) ((moreI (f.toNat : Int)).toNat + 1 - n)) (hn : n ≤ (moreI (f.toNat : Int)).toNat) :
    (n < l.length → (∀ c, l[n]? = some c → mayI (f.toNat : Int) (c.toNat : Int) (n : Int) = true) → decU l = runU (l.drop (n + 1)) (l.take (n + 1)) ((moreI (f.toNat : Int)).toNat + 1 - (n + 1))) ∧
    ((l.length ≤ n ∨ ∃ c, l[n]? = some c ∧ mayI (f.toNat : Int) (c.toNat : Int) (n : Int) = false) → decU l = repl ++ decU (l.drop n)) := by
  generalize hM : (moreI (f.toNat : Int)).toNat = M at *
  obtain ⟨m, hm⟩ : ∃ m, M + 1 - n = m + 1 := ⟨M - n, by omega⟩
  have hne : l ≠ [] := by intro e; rw [e] at hf; cases hf
  have hfirst : n ≤ l.length → firstI (l.take n) = (f.toNat : Int) := by
    intro h
    cases l with
    | nil => cases hf
    | cons x r =>
      have hf2 : x = f := by simpa using hf
      rw [← hf2]
      obtain ⟨n', rfl⟩ : ∃ n', n = n' + 1 := ⟨n - 1, by omega⟩
      unfold firstI
      simp
  rw [hm] at hinv
  constructor
  · intro hlt hc
    have e := List.drop_eq_getElem_cons hlt
    have hmay := hc l[n] (List.getElem?_eq_getElem hlt)
    rw [hinv, e, runU_go (by rw [hfirst (by omega), List.length_take, Nat.min_eq_left (by omega)]; exact hmay)]
    rw [List.take_append_getElem hlt, show M + 1 - (n + 1) = m by omega]
  · rintro (hge | ⟨c, hc, hmay⟩)
    · have e : l.drop n = [] := List.drop_eq_nil_of_le hge
      rw [hinv, e, runU_end]
      rfl
    · obtain ⟨hlt, rfl⟩ := List.getElem?_eq_some_iff.1 hc
      have e := List.drop_eq_getElem_cons hlt
      rw [hinv, e, runU_fail (by rw [hfirst (by omega), List.length_take, Nat.min_eq_left (by omega)]; exact hmay)]
      rfl
end Go.Proofs.YtfbmabbehiicmaaDoor
