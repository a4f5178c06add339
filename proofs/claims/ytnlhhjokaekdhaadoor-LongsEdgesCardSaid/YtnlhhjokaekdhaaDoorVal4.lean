/- The values of numbers by digits: times is the product, above the order, Root's rounds the greatest root. -/
import Derived.Test.YtnlhhjokaekdhaaDoorDgt4
set_option linter.unusedVariables false
set_option linter.unusedSimpArgs false
namespace Go.Proofs.YtnlhhjokaekdhaaDoor.R4
open Go.RowKit

/-- A number's value: its lowest n digits. -/
def V (a : List Int) : Nat → Int
  | 0 => 0
  | n + 1 => V a n + a.getD n 0 * 65536 ^ n
theorem getD_set (l : List Int) (i j : Nat) (z : Int) (h : i < l.length) : (l.set i z).getD j 0 = if j = i then z else l.getD j 0 := by
  rw [List.getD_eq_getElem?_getD, List.getD_eq_getElem?_getD, List.getElem?_set]
  by_cases e : i = j
  · subst e; simp [h]
  · have e2 : ¬ j = i := fun q => e q.symm
    simp [e, e2]
theorem V_set {l : List Int} {i : Nat} {z : Int} (h : i < l.length) : ∀ n, V (l.set i z) n = V l n + if i < n then (z - l.getD i 0) * 65536 ^ i else 0
  | 0 => by simp [V]
  | n + 1 => by
    rw [V, V, V_set h n, getD_set l i n z h]
    by_cases e : n = i
    · subst e
      simp
      grind
    · by_cases e2 : i < n
      · simp [e, e2, show i < n + 1 by omega]; grind
      · simp [e, e2, show ¬ i < n + 1 by omega]
theorem V_bound {l : List Int} (h : ∀ i, 0 ≤ l.getD i 0 ∧ l.getD i 0 ≤ 65535) : ∀ n, 0 ≤ V l n ∧ V l n < 65536 ^ n
  | 0 => by simp [V]
  | n + 1 => by
    obtain ⟨h1, h2⟩ := V_bound h n
    obtain ⟨d0, d1⟩ := h n
    rw [V, Int.pow_succ]
    have hp : (0 : Int) < 65536 ^ n := Int.pow_pos (by decide)
    have m0 : 0 ≤ l.getD n 0 * 65536 ^ n := Int.mul_nonneg d0 (by omega)
    have m1 : l.getD n 0 * 65536 ^ n ≤ 65535 * 65536 ^ n := Int.mul_le_mul_of_nonneg_right d1 (by omega)
    omega
theorem innL_len (ai : Int) (b out : List Int) (i : Nat) : ∀ k, (innL ai b i out k).1.length = out.length
  | 0 => rfl
  | k + 1 => by rw [innL_step]; simp [innL_len ai b out i k]
theorem innL_above (ai : Int) (b out : List Int) (i j : Nat) : ∀ k, i + k ≤ j → i + k ≤ out.length → (innL ai b i out k).1.getD j 0 = out.getD j 0
  | 0, _, _ => rfl
  | k + 1, h, hl => by
    rw [innL_step]
    show (List.set _ _ _).getD j 0 = _
    rw [getD_set _ _ _ _ (by rw [innL_len]; omega), if_neg (by omega)]
    exact innL_above ai b out i j k (by omega) (by omega)
theorem innL_V (ai : Int) (b out : List Int) (i N : Nat) : ∀ k, i + k ≤ out.length → i + k ≤ N → V (innL ai b i out k).1 N + (innL ai b i out k).2 * 65536 ^ (i + k) = V out N + ai * V b k * 65536 ^ i
  | 0, _, _ => by simp [innL, V]
  | k + 1, h, hN => by
    have ih := innL_V ai b out i N k (by omega) (by omega)
    rw [innL_step]
    show V (List.set _ _ _) N + _ * _ = _
    rw [V_set (by rw [innL_len]; omega), if_pos (by omega), V]
    generalize hT : (innL ai b i out k).1 = T at *
    generalize hC : (innL ai b i out k).2 = C at *
    generalize T.getD (i + k) 0 = D at *
    generalize b.getD k 0 = y at *
    have hdm := Int.mul_ediv_add_emod (D + ai * y + C) 65536
    generalize (D + ai * y + C) % 65536 = r at *
    generalize (D + ai * y + C) / 65536 = q at *
    have e : (65536 : Int) ^ (i + (k + 1)) = 65536 ^ i * 65536 ^ k * 65536 := by rw [← Int.pow_add, ← Int.pow_succ]; rfl
    rw [e]
    rw [Int.pow_add] at *
    generalize (65536 : Int) ^ i = X at *
    generalize (65536 : Int) ^ k = Y at *
    grind
theorem outr_len (a b : List Int) : ∀ i, (outr a b i).length = a.length + b.length
  | 0 => by simp [outr]
  | i + 1 => by rw [outr_step]; simp [innL_len, outr_len a b i]
theorem outr_zero (a b : List Int) : ∀ i, i ≤ a.length → ∀ j, i + b.length ≤ j → (outr a b i).getD j 0 = 0
  | 0, _, j, _ => by
    rw [outr, List.getD_eq_getElem?_getD, List.getElem?_replicate]
    split <;> rfl
  | i + 1, hi, j, hj => by
    rw [outr_step, getD_set _ _ _ _ (by rw [innL_len, outr_len]; omega), if_neg (by omega), innL_above _ _ _ _ _ _ (by omega) (by rw [outr_len]; omega)]
    exact outr_zero a b i (by omega) j (by omega)
theorem outr_V (a b : List Int) : ∀ i, i ≤ a.length → V (outr a b i) (a.length + b.length) = V a i * V b b.length
  | 0, _ => by
    have : ∀ n m, V (List.replicate m 0) n = 0 := by
      intro n m
      induction n with
      | zero => rfl
      | succ n ih =>
        rw [V, ih, List.getD_eq_getElem?_getD, List.getElem?_replicate]
        split <;> simp
    rw [outr, this]; simp [V]
  | i + 1, hi => by
    have ih := outr_V a b i (by omega)
    have h1 := innL_V (a.getD i 0) b (outr a b i) i (a.length + b.length) b.length (by rw [outr_len]; omega) (by omega)
    rw [outr_step, V_set (by rw [innL_len, outr_len]; omega), if_pos (by omega), innL_above _ _ _ _ _ _ (by omega) (by rw [outr_len]; omega), outr_zero a b i (by omega) _ (Nat.le_refl _), V, Int.sub_zero, h1, ih]
    grind
theorem times_V (a b : List Int) : V (timesL a b) (a.length + b.length) = V a a.length * V b b.length := outr_V a b a.length (Nat.le_refl _)
theorem times_len (a b : List Int) : (timesL a b).length = a.length + b.length := outr_len a b _
theorem above_V {a b : List Int} (ha : ∀ i, 0 ≤ a.getD i 0 ∧ a.getD i 0 ≤ 65535) (hb : ∀ i, 0 ≤ b.getD i 0 ∧ b.getD i 0 ≤ 65535) : ∀ n, aboveL a b n = decide (V b n < V a n)
  | 0 => by simp [aboveL, V]
  | n + 1 => by
    rw [aboveL, V, V]
    have h1 := V_bound ha n
    have h2 := V_bound hb n
    have hp : (0 : Int) < 65536 ^ n := Int.pow_pos (by decide)
    by_cases e : a.getD n 0 = b.getD n 0
    · rw [if_pos e, above_V ha hb n, e]
      exact decide_eq_decide.2 (by omega)
    · rw [if_neg e]
      refine decide_eq_decide.2 ?_
      generalize a.getD n 0 = x at *
      generalize b.getD n 0 = y at *
      rcases Int.lt_or_gt_of_ne e with h | h
      · have : (x + 1) * 65536 ^ n ≤ y * 65536 ^ n := Int.mul_le_mul_of_nonneg_right (by omega) (by omega)
        rw [Int.add_mul] at this
        omega
      · have : (y + 1) * 65536 ^ n ≤ x * 65536 ^ n := Int.mul_le_mul_of_nonneg_right (by omega) (by omega)
        rw [Int.add_mul] at this
        omega
theorem V_more {l : List Int} : ∀ {n : Nat}, l.length ≤ n → V l n = V l l.length
  | n, h => by
    induction n with
    | zero => have : l.length = 0 := by omega
              rw [this]
    | succ n ih =>
      by_cases e : l.length = n + 1
      · rw [e]
      · rw [V, ih (by omega), List.getD_eq_getElem?_getD, List.getElem?_eq_none (by omega)]; simp

/-- All of a number's bits below n are 0. -/
def Low (n : Nat) (x : List Int) : Prop := ∀ i, 16 * i < n → (2 : Int) ^ (min 16 (n - 16 * i)) ∣ x.getD i 0
theorem pow_dvd {m n : Nat} (h : m ≤ n) : (2 : Int) ^ m ∣ 2 ^ n := ⟨2 ^ (n - m), by rw [← Int.pow_add]; congr 1; omega⟩
theorem Low.next {bit : Nat} {x : List Int} (h : Low (bit + 1) x) : Low bit x := fun i hi => Int.dvd_trans (pow_dvd (by omega)) (h i (by omega))
def addB (x : List Int) (bit : Nat) : List Int := x.set (bit / 16) (x.getD (bit / 16) 0 + 2 ^ (bit % 16))
def subB (x : List Int) (bit : Nat) : List Int := x.set (bit / 16) (x.getD (bit / 16) 0 - 2 ^ (bit % 16))
theorem Low.add {bit : Nat} {x : List Int} (h : Low (bit + 1) x) (hl : bit / 16 < x.length) : Low bit (addB x bit) := by
  intro i hi
  unfold addB
  rw [getD_set _ _ _ _ hl]
  by_cases e : i = bit / 16
  · rw [if_pos e, ← e]
    refine Int.dvd_add ?_ (pow_dvd (by omega))
    exact h.next i hi
  · rw [if_neg e]
    exact h.next i hi
theorem Low.room {bit : Nat} {x : List Int} (h : Low (bit + 1) x) (h0 : 0 ≤ x.getD (bit / 16) 0) (h1 : x.getD (bit / 16) 0 ≤ 65535) : x.getD (bit / 16) 0 + 2 ^ (bit % 16) ≤ 65535 := by
  obtain ⟨q, hq⟩ := h (bit / 16) (by omega)
  rw [show min 16 (bit + 1 - 16 * (bit / 16)) = bit % 16 + 1 by omega] at hq
  generalize x.getD (bit / 16) 0 = d at *
  have hr : bit % 16 < 16 := Nat.mod_lt _ (by decide)
  generalize bit % 16 = r at *
  subst hq
  rcases (by omega : r = 0 ∨ r = 1 ∨ r = 2 ∨ r = 3 ∨ r = 4 ∨ r = 5 ∨ r = 6 ∨ r = 7 ∨ r = 8 ∨ r = 9 ∨ r = 10 ∨ r = 11 ∨ r = 12 ∨ r = 13 ∨ r = 14 ∨ r = 15) with rfl | rfl | rfl | rfl | rfl | rfl | rfl | rfl | rfl | rfl | rfl | rfl | rfl | rfl | rfl | rfl
  all_goals simp at *; omega
theorem sub_add {bit : Nat} {x : List Int} (hl : bit / 16 < x.length) : subB (addB x bit) bit = x := by
  unfold subB addB
  rw [getD_set _ _ _ _ hl, if_pos rfl, List.set_set, Int.add_sub_cancel]
  apply List.ext_getElem?
  intro j
  rw [List.getElem?_set]
  by_cases e : bit / 16 = j
  · subst e; simp [hl, List.getD]
  · simp [e]
theorem add_V {bit : Nat} {x : List Int} (hl : bit / 16 < x.length) (n : Nat) (hn : bit / 16 < n) : V (addB x bit) n = V x n + 2 ^ bit := by
  unfold addB
  rw [V_set hl, if_pos hn, Int.add_comm (x.getD _ _), Int.add_sub_cancel]
  congr 1
  rw [show (65536 : Int) = 2 ^ 16 by decide, ← Int.pow_mul, ← Int.pow_add]
  congr 1
  omega
def cubeL (d : Nat) (x : List Int) : List Int := if d = 3 then timesL (timesL x x) x else timesL x x
def mostL (p : Int) (d : Nat) : List Int := (List.replicate (4 * d + 1) 0).set (4 * d) p
def stepR (p : Int) (d : Nat) (x : List Int) (bit : Nat) : List Int :=
  if aboveL (cubeL d (addB x bit)) (mostL p d) (max (cubeL d (addB x bit)).length (mostL p d).length) then subB (addB x bit) bit else addB x bit
def rootN (p d : Nat) : Nat → Nat
  | 0 => 0
  | j + 1 => if p * 2 ^ (64 * d) < (rootN p d j + 2 ^ (68 - j)) ^ d then rootN p d j else rootN p d j + 2 ^ (68 - j)
theorem V_zeros (m : Nat) : ∀ n, V (List.replicate m 0) n = 0
  | 0 => rfl
  | n + 1 => by
    rw [V, V_zeros m n, List.getD_eq_getElem?_getD, List.getElem?_replicate]
    split <;> simp
theorem most_V (p : Int) (d n : Nat) (h : 4 * d < n) : V (mostL p d) n = p * 2 ^ (64 * d) := by
  unfold mostL
  rw [V_set (by simp), if_pos h, V_zeros, List.getD_eq_getElem?_getD, List.getElem?_replicate]
  rw [show (65536 : Int) = 2 ^ 16 by decide, ← Int.pow_mul, show 16 * (4 * d) = 64 * d by omega]
  simp
/-- What holds of the digits ahead of each bit. -/
structure RootAt (p d j : Nat) (x : List Int) : Prop where
  len : x.length = 5
  dig : ∀ i, 0 ≤ x.getD i 0 ∧ x.getD i 0 ≤ 65535
  val : V x 5 = rootN p d j
  low : Low (69 - j) x
theorem RootAt.start (p d : Nat) : RootAt p d 0 (List.replicate 5 0) := by
  have hz : ∀ i, (List.replicate 5 (0 : Int)).getD i 0 = 0 := fun i => by
    rw [List.getD_eq_getElem?_getD, List.getElem?_replicate]
    split <;> rfl
  exact ⟨rfl, fun i => by rw [hz]; omega, V_zeros 5 5, fun i _ => by rw [hz]; exact Int.dvd_zero _⟩
theorem RootAt.dig1 {p d j : Nat} {x : List Int} (h : RootAt p d j x) (hj : j < 69) : ∀ i, 0 ≤ (addB x (68 - j)).getD i 0 ∧ (addB x (68 - j)).getD i 0 ≤ 65535 := by
  intro i
  have hl : (68 - j) / 16 < x.length := by rw [h.len]; omega
  have hlow := h.low
  rw [show 69 - j = 68 - j + 1 by omega] at hlow
  unfold addB
  rw [getD_set _ _ _ _ hl]
  split
  · have := hlow.room (h.dig _).1 (h.dig _).2
    have hp : (0 : Int) < 2 ^ ((68 - j) % 16) := Int.pow_pos (by decide)
    have := (h.dig ((68 - j) / 16)).1
    omega
  · exact h.dig i

theorem Dig.of {l : List Int} (h : ∀ i, 0 ≤ l.getD i 0 ∧ l.getD i 0 ≤ 65535) : Dig l := by
  intro x hx
  obtain ⟨i, hi, rfl⟩ := List.mem_iff_getElem.1 hx
  have := h i
  rw [List.getD_eq_getElem?_getD, List.getElem?_eq_getElem hi] at this
  exact this
theorem times_dig {a b : List Int} (ha : Dig a) (hb : Dig b) : Dig (timesL a b) := (outr_dig ha hb _).1
theorem cube_dig {x : List Int} (d : Nat) (h : Dig x) : Dig (cubeL d x) := by
  unfold cubeL
  split
  · exact times_dig (times_dig h h) h
  · exact times_dig h h
theorem cube_len {x : List Int} (d : Nat) (hd : d = 2 ∨ d = 3) (h : x.length = 5) : (cubeL d x).length = 5 * d := by
  unfold cubeL
  rcases hd with rfl | rfl <;> simp [times_len, h]
theorem cube_V {x : List Int} (d : Nat) (hd : d = 2 ∨ d = 3) (h : x.length = 5) : V (cubeL d x) (5 * d) = V x 5 ^ d := by
  unfold cubeL
  have e := times_V x x
  rw [h] at e
  rcases hd with rfl | rfl
  · simp
    rw [e, Int.pow_succ, Int.pow_succ, Int.pow_zero, Int.one_mul]
  · have e2 := times_V (timesL x x) x
    rw [times_len, h, e] at e2
    simp
    rw [e2, Int.pow_succ, Int.pow_succ, Int.pow_succ, Int.pow_zero, Int.one_mul]
theorem most_len (p : Int) (d : Nat) : (mostL p d).length = 4 * d + 1 := by unfold mostL; simp
theorem most_dig {p : Int} (d : Nat) (h0 : 0 ≤ p) (h1 : p ≤ 65535) : Dig (mostL p d) := (Dig.zeros _).set _ h0 h1
theorem root_cond {p d j : Nat} {x : List Int} (h : RootAt p d j x) (hj : j < 69) (hd : d = 2 ∨ d = 3) (hp : p ≤ 65535) :
    aboveL (cubeL d (addB x (68 - j))) (mostL p d) (max (cubeL d (addB x (68 - j))).length (mostL p d).length) = decide (p * 2 ^ (64 * d) < (rootN p d j + 2 ^ (68 - j)) ^ d) := by
  have hx1 : Dig (addB x (68 - j)) := Dig.of (h.dig1 hj)
  have hl1 : (addB x (68 - j)).length = 5 := by unfold addB; rw [List.length_set, h.len]
  have hv1 : V (addB x (68 - j)) 5 = V x 5 + 2 ^ (68 - j) := add_V (by rw [h.len]; omega) 5 (by omega)
  have hm : max (cubeL d (addB x (68 - j))).length (mostL p d).length = 5 * d := by
    rw [cube_len d hd hl1, most_len]
    rcases hd with rfl | rfl <;> rfl
  rw [hm, above_V (cube_dig d hx1).get (most_dig d (by omega) (by omega)).get, cube_V d hd hl1, most_V _ _ _ (by omega), hv1, h.val]
  refine decide_eq_decide.2 ?_
  rw [show ((rootN p d j : Int) + 2 ^ (68 - j)) = ((rootN p d j + 2 ^ (68 - j) : Nat) : Int) by push_cast; rfl]
  rw [← Int.natCast_pow, show (p : Int) * 2 ^ (64 * d) = ((p * 2 ^ (64 * d) : Nat) : Int) by push_cast; rfl]
  exact Int.ofNat_lt
theorem RootAt.step {p d j : Nat} {x : List Int} (h : RootAt p d j x) (hj : j < 69) (hd : d = 2 ∨ d = 3) (hp : p ≤ 65535) : RootAt p d (j + 1) (stepR p d x (68 - j)) := by
  have hl : (68 - j) / 16 < x.length := by rw [h.len]; omega
  have hlow := h.low
  rw [show 69 - j = 68 - j + 1 by omega] at hlow
  have e68 : 69 - (j + 1) = 68 - j := by omega
  unfold stepR
  rw [root_cond h hj hd hp, sub_add hl]
  by_cases c : p * 2 ^ (64 * d) < (rootN p d j + 2 ^ (68 - j)) ^ d
  · rw [if_pos (decide_eq_true c)]
    exact ⟨h.len, h.dig, by rw [rootN, if_pos c]; exact h.val, by rw [e68]; exact hlow.next⟩
  · rw [if_neg (by simpa using c)]
    refine ⟨by unfold addB; rw [List.length_set, h.len], h.dig1 hj, ?_, by rw [e68]; exact hlow.add hl⟩
    rw [rootN, if_neg c, add_V hl 5 (by omega), h.val]
    push_cast
    rfl
end Go.Proofs.YtnlhhjokaekdhaaDoor.R4
