/- Triples: lists of bytes, decoded and encoded. Of no program. -/
import Derived.Test.YtfbmabbehiicmaaBytes
set_option linter.unusedVariables false
namespace Go.Proofs.Ytfbmabbehiicmaa

def hxB (c : UInt8) : Bool := hexB (c.toNat : Int)
def hxV (c : UInt8) : Nat := (hexV (c.toNat : Int)).toNat
def trip : List UInt8 → Option UInt8
  | c :: h :: x :: _ => if c = 37 ∧ hxB h = true ∧ hxB x = true then some (UInt8.ofNat (16 * hxV h + hxV x)) else none
  | _ => none
def decS : Nat → List UInt8 → List UInt8
  | _, [] => []
  | k + 1, _ :: r => decS k r
  | 0, x :: r => match trip (x :: r) with
    | some v => v :: decS 2 r
    | none => x :: decS 0 r
def decP (l : List UInt8) : List UInt8 := decS 0 l
theorem decS_drop : ∀ (k : Nat) (l : List UInt8), decS k l = decS 0 (l.drop k)
  | 0, l => rfl
  | k + 1, [] => by simp [decS]
  | k + 1, x :: r => by
    show decS k r = _
    rw [decS_drop k r]
    rfl
theorem decP_nil : decP [] = [] := rfl
theorem decP_some {l : List UInt8} {x : UInt8} {r : List UInt8} {v : UInt8} (hl : l = x :: r) (h : trip l = some v) : decP l = v :: decP (l.drop 3) := by
  subst hl
  unfold decP
  rw [decS, h]
  show v :: decS 2 r = _
  rw [decS_drop 2 r]
  rfl
theorem decP_none {x : UInt8} {r : List UInt8} (h : trip (x :: r) = none) : decP (x :: r) = x :: decP r := by
  unfold decP
  rw [decS, h]
theorem trip_head {x : UInt8} {r : List UInt8} (h : x ≠ 37) : trip (x :: r) = none := by
  unfold trip
  split
  · rename_i heq
    injection heq with h1 h2
    subst h1
    rw [if_neg (fun e => h e.1)]
  · rfl
theorem decP_plain {x : UInt8} {r : List UInt8} (h : x ≠ 37) : decP (x :: r) = x :: decP r := decP_none (trip_head h)

/-- The digit that is worth k. -/
def dg (k : Nat) : UInt8 := if k < 10 then UInt8.ofNat (48 + k) else UInt8.ofNat (55 + k)
def encB (p : UInt8 → Bool) (c : UInt8) : List UInt8 := if p c = true then [37, dg (c.toNat / 16), dg (c.toNat % 16)] else [c]
def encP (p : UInt8 → Bool) (l : List UInt8) : List UInt8 := l.flatMap (encB p)
theorem encP_cons (p : UInt8 → Bool) (c : UInt8) (l : List UInt8) : encP p (c :: l) = encB p c ++ encP p l := by simp [encP]
theorem encP_append (p : UInt8 → Bool) (a b : List UInt8) : encP p (a ++ b) = encP p a ++ encP p b := by simp [encP]
theorem every_byte {p : UInt8 → Prop} [DecidablePred p] (h : (List.range 256).all (fun k => decide (p (UInt8.ofNat k))) = true) (x : UInt8) : p x := by
  have := List.all_eq_true.1 h x.toNat (List.mem_range.2 x.toNat_lt)
  simpa using this
theorem dg_hex (c : UInt8) : hxB (dg (c.toNat / 16)) = true ∧ hxB (dg (c.toNat % 16)) = true ∧ UInt8.ofNat (16 * hxV (dg (c.toNat / 16)) + hxV (dg (c.toNat % 16))) = c :=
  every_byte (p := fun c => hxB (dg (c.toNat / 16)) = true ∧ hxB (dg (c.toNat % 16)) = true ∧ UInt8.ofNat (16 * hxV (dg (c.toNat / 16)) + hxV (dg (c.toNat % 16))) = c) (by decide +kernel) c
theorem trip_enc (c : UInt8) (r : List UInt8) : trip (37 :: dg (c.toNat / 16) :: dg (c.toNat % 16) :: r) = some c := by
  have := dg_hex c
  show (if (37 : UInt8) = 37 ∧ hxB (dg (c.toNat / 16)) = true ∧ hxB (dg (c.toNat % 16)) = true then some (UInt8.ofNat (16 * hxV (dg (c.toNat / 16)) + hxV (dg (c.toNat % 16)))) else none) = some c
  rw [if_pos ⟨rfl, this.1, this.2.1⟩, this.2.2]
theorem dec_enc {p : UInt8 → Bool} : ∀ {l : List UInt8}, (∀ c ∈ l, c = 37 → p c = true) → decP (encP p l) = l
  | [], _ => rfl
  | c :: l, h => by
    have ih := dec_enc (l := l) fun x hx => h x (List.mem_cons_of_mem _ hx)
    rw [encP_cons]
    unfold encB
    by_cases hp : p c = true
    · rw [if_pos hp]
      show decP (37 :: dg (c.toNat / 16) :: dg (c.toNat % 16) :: encP p l) = _
      rw [decP_some rfl (trip_enc c _)]
      show c :: decP (encP p l) = _
      rw [ih]
    · rw [if_neg hp]
      show decP (c :: encP p l) = _
      rw [decP_plain (fun e => hp (h c (List.mem_cons_self ..) e)), ih]
theorem enc_same {p : UInt8 → Bool} : ∀ {l : List UInt8}, (∀ c ∈ l, p c = false) → encP p l = l
  | [], _ => rfl
  | c :: l, h => by
    rw [encP_cons, enc_same fun x hx => h x (List.mem_cons_of_mem _ hx)]
    unfold encB
    rw [if_neg (by rw [h c (List.mem_cons_self ..)]; simp)]
    rfl
theorem dec_same : ∀ {l : List UInt8}, (∀ c ∈ l, c ≠ 37) → decP l = l
  | [], _ => rfl
  | c :: l, h => by rw [decP_plain (h c (List.mem_cons_self ..)), dec_same fun x hx => h x (List.mem_cons_of_mem _ hx)]
/-- Each byte of what is encoded is one that no triple stands for, or a triple's. -/
theorem enc_mem {p : UInt8 → Bool} {l : List UInt8} {x : UInt8} (h : x ∈ encP p l) : (p x = false ∧ x ∈ l) ∨ x = 37 ∨ ∃ k, k < 16 ∧ x = dg k := by
  unfold encP at h
  obtain ⟨c, hc, hx⟩ := List.mem_flatMap.1 h
  unfold encB at hx
  by_cases hp : p c = true
  · rw [if_pos hp] at hx
    have hlt := c.toNat_lt
    simp only [List.mem_cons, List.not_mem_nil, or_false] at hx
    rcases hx with rfl | rfl | rfl
    · exact .inr (.inl rfl)
    · exact .inr (.inr ⟨_, by omega, rfl⟩)
    · exact .inr (.inr ⟨_, by omega, rfl⟩)
  · rw [if_neg hp] at hx
    simp only [List.mem_cons, List.not_mem_nil, or_false] at hx
    subst hx
    exact .inl ⟨by simpa using hp, hc⟩
theorem enc_twice {p : UInt8 → Bool} (h37 : p 37 = false) (hd : ∀ k, k < 16 → p (dg k) = false) (l : List UInt8) : encP p (encP p l) = encP p l := by
  apply enc_same
  intro x hx
  rcases enc_mem hx with h | rfl | ⟨k, hk, rfl⟩
  · exact h.1
  · exact h37
  · exact hd k hk
theorem trip_append {x : UInt8} {r b : List UInt8} (h : x ≠ 37 ∨ 2 ≤ r.length) : trip (x :: (r ++ b)) = trip (x :: r) := by
  rcases h with h | h
  · rw [trip_head h, trip_head h]
  · match r, h with
    | y :: z :: r, _ => rfl
theorem dec_append : ∀ (n : Nat) {a b : List UInt8}, a.length ≤ n → (∀ j, a.length - 2 ≤ j → a[j]? ≠ some 37) → decP (a ++ b) = decP a ++ decP b
  | _, [], b, _, _ => rfl
  | 0, x :: r, b, hn, _ => by simp at hn
  | n + 1, x :: r, b, hn, h => by
    have hx : x ≠ 37 ∨ 2 ≤ r.length := by
      by_cases hl : 2 ≤ r.length
      · exact .inr hl
      · refine .inl fun e => h 0 (by simp; omega) (by rw [e]; rfl)
    have ht := trip_append (b := b) hx
    cases hv : trip (x :: r) with
    | none =>
      rw [hv] at ht
      rw [decP_none hv]
      show decP (x :: (r ++ b)) = _
      rw [decP_none ht, dec_append n (a := r) (b := b) (by simpa using hn) fun j hj => ?_]
      · rfl
      · have := h (j + 1) (by simp; omega)
        simpa using this
    | some v =>
      rw [hv] at ht
      have hl : 2 ≤ r.length := by
        rcases hx with hx | hx
        · rw [trip_head hx] at hv; cases hv
        · exact hx
      rw [decP_some rfl hv]
      show decP (x :: (r ++ b)) = _
      rw [decP_some rfl ht]
      show v :: decP ((r ++ b).drop 2) = v :: decP (r.drop 2) ++ decP b
      rw [List.drop_append_of_le_length hl, dec_append n (a := r.drop 2) (b := b) (by simp at hn ⊢; omega) fun j hj => ?_]
      · rfl
      · have := h (j + 3) (by simp at hj ⊢; omega)
        rw [List.getElem?_drop]
        simpa [Nat.add_comm] using this

/-- The sets of layer 6: what they have beside the bytes that all have. -/
def setL (k : Int) : List UInt8 :=
  if k = 1 then [32, 34, 60, 62, 96] else if k = 2 then [32, 34, 35, 60, 62] else if k = 3 then [32, 34, 35, 60, 62, 39]
  else if k = 4 then [32, 34, 35, 60, 62, 63, 94, 96, 123, 125]
  else if k = 5 then [32, 34, 35, 60, 62, 63, 94, 96, 123, 125, 47, 58, 59, 61, 64, 91, 92, 93, 124]
  else if k = 6 then [32, 34, 35, 60, 62, 63, 94, 96, 123, 125, 47, 58, 59, 61, 64, 91, 92, 93, 124, 36, 37, 38, 43, 44] else []
def inS (k : Int) (c : UInt8) : Bool := decide (c.toNat < 32) || decide (126 < c.toNat) || (setL k).contains c
end Go.Proofs.Ytfbmabbehiicmaa
