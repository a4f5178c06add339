/- Bytes by their bits: the document's way to letters. Of no program. -/
import Derived.Test.YtfbmabbehiicmaaDoorB64r
set_option linter.unusedVariables false
namespace Go.Proofs.YtfbmabbehiicmaaDoor

/-- The bit in the k-th place; 0 behind the end. -/
def bitAt (l : List UInt8) (k : Nat) : Nat := (l.getD (k / 8) 0).toNat / 2 ^ (7 - k % 8) % 2
/-- So many bits from a place on, as a number. -/
def sxt (l : List UInt8) (a : Nat) : Nat → Nat
  | 0 => 0
  | j + 1 => 2 * sxt l a j + bitAt l (a + j)
theorem sxt_lt (l : List UInt8) (a : Nat) : ∀ j, sxt l a j < 2 ^ j
  | 0 => by simp [sxt]
  | j + 1 => by
    have := sxt_lt l a j
    have h : bitAt l (a + j) < 2 := Nat.mod_lt _ (by decide)
    unfold sxt
    rw [Nat.pow_succ]
    omega
theorem bit_shift (a b c : UInt8) (r : List UInt8) (k : Nat) : bitAt (a :: b :: c :: r) (k + 24) = bitAt r k := by
  unfold bitAt
  rw [show (k + 24) / 8 = k / 8 + 3 by omega, show (k + 24) % 8 = k % 8 by omega]
  rfl
theorem sxt_shift (a b c : UInt8) (r : List UInt8) (p : Nat) : ∀ j, sxt (a :: b :: c :: r) (p + 24) j = sxt r p j
  | 0 => rfl
  | j + 1 => by
    unfold sxt
    rw [sxt_shift a b c r p j, show p + 24 + j = (p + j) + 24 by omega, bit_shift]
def encR (l : List UInt8) (n : Nat) : List UInt8 := (List.range n).map fun q => L64 (sxt l (6 * q) 6)
theorem sx6 (l : List UInt8) (a : Nat) : sxt l a 6 = 32 * bitAt l a + 16 * bitAt l (a + 1) + 8 * bitAt l (a + 2) + 4 * bitAt l (a + 3) + 2 * bitAt l (a + 4) + bitAt l (a + 5) := by
  simp only [sxt, Nat.add_zero]
  omega
theorem s0 (a : UInt8) (r : List UInt8) : sxt (a :: r) 0 6 = a.toNat / 4 := by
  have ha := a.toNat_lt
  rw [sx6]
  simp [bitAt]
  omega
theorem s1 (a b : UInt8) (r : List UInt8) : sxt (a :: b :: r) 6 6 = a.toNat % 4 * 16 + b.toNat / 16 := by
  have ha := a.toNat_lt
  have hb := b.toNat_lt
  rw [sx6]
  simp [bitAt]
  omega
theorem s1' (a : UInt8) : sxt [a] 6 6 = a.toNat % 4 * 16 := by
  have ha := a.toNat_lt
  rw [sx6]
  simp [bitAt]
  omega
theorem s2 (a b c : UInt8) (r : List UInt8) : sxt (a :: b :: c :: r) 12 6 = b.toNat % 16 * 4 + c.toNat / 64 := by
  have ha := b.toNat_lt
  have hb := c.toNat_lt
  rw [sx6]
  simp [bitAt]
  omega
theorem s2' (a b : UInt8) : sxt [a, b] 12 6 = b.toNat % 16 * 4 := by
  have ha := b.toNat_lt
  rw [sx6]
  simp [bitAt]
  omega
theorem s3 (a b c : UInt8) (r : List UInt8) : sxt (a :: b :: c :: r) 18 6 = c.toNat % 64 := by
  have hb := c.toNat_lt
  rw [sx6]
  simp [bitAt]
  omega
theorem encR_eq : ∀ l : List UInt8, encR l ((4 * l.length + 2) / 3) = encC l
  | [] => rfl
  | [a] => by
    have e : (List.range ((4 * [a].length + 2) / 3)) = [0, 1] := by rw [show (4 * [a].length + 2) / 3 = 2 by simp]; rfl
    unfold encR
    rw [e]
    simp only [List.map_cons, List.map_nil, Nat.mul_zero, Nat.mul_one, s0, s1', encC]
  | [a, b] => by
    have e : (List.range ((4 * [a, b].length + 2) / 3)) = [0, 1, 2] := by rw [show (4 * [a, b].length + 2) / 3 = 3 by simp]; rfl
    unfold encR
    rw [e]
    simp only [List.map_cons, List.map_nil, Nat.mul_zero, Nat.mul_one, s0, s1, show 6 * 2 = 12 from rfl, s2', encC]
  | a :: b :: c :: r => by
    have ih := encR_eq r
    have e : (4 * (a :: b :: c :: r).length + 2) / 3 = 4 + (4 * r.length + 2) / 3 := by simp; omega
    unfold encR at ih ⊢
    rw [e, List.range_add, List.map_append, encC, ← ih, List.map_map]
    have e2 : List.range 4 = [0, 1, 2, 3] := rfl
    rw [e2]
    simp only [List.map_cons, List.map_nil, Nat.mul_zero, Nat.mul_one, s0, s1, show 6 * 2 = 12 from rfl, show 6 * 3 = 18 from rfl, s2, s3, List.cons_append, List.nil_append]
    congr 4
    refine List.map_congr_left fun q _ => ?_
    simp only [Function.comp]
    rw [show 6 * (4 + q) = 6 * q + 24 by omega, sxt_shift]
theorem encR_snoc (l : List UInt8) (n : Nat) : encR l (n + 1) = encR l n ++ [L64 (sxt l (6 * n) 6)] := by
  unfold encR
  rw [List.range_succ, List.map_append]
  rfl
theorem encR_len (l : List UInt8) (n : Nat) : (encR l n).length = n := by simp [encR]
theorem bit_beyond (l : List UInt8) (k : Nat) (h : 8 * l.length ≤ k) : bitAt l k = 0 := by
  unfold bitAt
  rw [List.getD_eq_getElem?_getD, List.getElem?_eq_none (by omega)]
  simp
/-- What a letter is worth, as the document has it. -/
def valZ (c : UInt8) : Int := match valN c.toNat with
  | some v => v
  | none => -1
theorem valZ_at {c : UInt8} {k : Nat} (hk : k < 64) (h : L64 k = plainB c) : valZ c = k := by
  unfold valZ
  rw [← valN_plain, ← h, val_of hk]
theorem valZ_none {c : UInt8} (h : ∀ k, k < 64 → L64 k ≠ plainB c) : valZ c = -1 := by
  unfold valZ
  cases hv : valN c.toNat with
  | none => rfl
  | some v => exact absurd (L64_of hv) (h v (valN_lt hv))
end Go.Proofs.YtfbmabbehiicmaaDoor
