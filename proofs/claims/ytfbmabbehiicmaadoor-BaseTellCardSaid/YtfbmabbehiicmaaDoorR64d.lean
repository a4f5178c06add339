/- Letters by their bits, and bits by eights: the document's way back. Of no program. -/
import Derived.Test.YtfbmabbehiicmaaDoorR64
set_option linter.unusedVariables false
namespace Go.Proofs.YtfbmabbehiicmaaDoor

/-- The six bits of a letter's worth. -/
def btsN (v : Nat) : List UInt8 := [b8 (v / 32 % 2), b8 (v / 16 % 2), b8 (v / 8 % 2), b8 (v / 4 % 2), b8 (v / 2 % 2), b8 (v % 2)]
def bitsO : List UInt8 → List UInt8
  | [] => []
  | c :: r => btsN ((valN c.toNat).getD 0) ++ bitsO r
theorem bitsO_len : ∀ l : List UInt8, (bitsO l).length = 6 * l.length
  | [] => rfl
  | c :: r => by unfold bitsO; rw [List.length_append, bitsO_len r]; simp [btsN]; omega
theorem b8_le {n : Nat} (h : n < 2) : (b8 n).toNat = n := b8_toNat (by omega)
/-- So many bits of a list from a place on, as a number. -/
def oct (B : List UInt8) (a : Nat) : Nat → Nat
  | 0 => 0
  | j + 1 => 2 * oct B a j + (B.getD (a + j) 0).toNat
def BitsL (B : List UInt8) : Prop := ∀ c ∈ B, c.toNat < 2
theorem bitsO_bits : ∀ l : List UInt8, BitsL (bitsO l)
  | [] => fun c h => by simp [bitsO] at h
  | c :: r => fun d h => by
    unfold bitsO at h
    rw [List.mem_append] at h
    rcases h with h | h
    · simp [btsN] at h
      rcases h with rfl | rfl | rfl | rfl | rfl | rfl <;> (rw [b8_le (by omega)]; omega)
    · exact bitsO_bits r d h
theorem getD_bit {B : List UInt8} (h : BitsL B) (k : Nat) : (B.getD k 0).toNat < 2 := by
  rw [List.getD_eq_getElem?_getD]
  rcases Nat.lt_or_ge k B.length with hk | hk
  · rw [List.getElem?_eq_getElem hk]
    exact h _ (List.getElem_mem hk)
  · rw [List.getElem?_eq_none hk]
    decide
theorem oct_lt {B : List UInt8} (h : BitsL B) (a : Nat) : ∀ j, oct B a j < 2 ^ j
  | 0 => by simp [oct]
  | j + 1 => by
    have := oct_lt h a j
    have h2 := getD_bit h (a + j)
    unfold oct
    rw [Nat.pow_succ]
    omega
def outR (B : List UInt8) (m : Nat) : List UInt8 := (List.range m).map fun i => b8 (oct B (8 * i) 8)
theorem outR_snoc (B : List UInt8) (m : Nat) : outR B (m + 1) = outR B m ++ [b8 (oct B (8 * m) 8)] := by
  unfold outR
  rw [List.range_succ, List.map_append]
  rfl
theorem outR_len (B : List UInt8) (m : Nat) : (outR B m).length = m := by simp [outR]
def decR (B : List UInt8) : Option (List UInt8) := if ∀ c ∈ B.drop (8 * (B.length / 8)), c.toNat = 0 then some (outR B (B.length / 8)) else none
theorem oct_shift (X B : List UInt8) (hX : X.length = 24) (a : Nat) : ∀ j, oct (X ++ B) (a + 24) j = oct B a j
  | 0 => rfl
  | j + 1 => by
    unfold oct
    rw [oct_shift X B hX a j]
    congr 2
    rw [List.getD_eq_getElem?_getD, List.getD_eq_getElem?_getD, List.getElem?_append_right (by omega)]
    congr 2
    omega
theorem oct8 (B : List UInt8) (a : Nat) : oct B a 8 = 128 * (B.getD a 0).toNat + 64 * (B.getD (a + 1) 0).toNat + 32 * (B.getD (a + 2) 0).toNat + 16 * (B.getD (a + 3) 0).toNat + 8 * (B.getD (a + 4) 0).toNat + 4 * (B.getD (a + 5) 0).toNat + 2 * (B.getD (a + 6) 0).toNat + (B.getD (a + 7) 0).toNat := by
  simp only [oct, Nat.add_zero]
  omega
theorem bv (n : Nat) : (b8 (n % 2)).toNat = n % 2 := b8_le (Nat.mod_lt _ (by decide))
theorem o0 (v w : Nat) (hv : v < 64) (hw : w < 64) (r : List UInt8) : oct (btsN v ++ (btsN w ++ r)) 0 8 = v * 4 + w / 16 := by
  rw [oct8]
  simp only [btsN, List.cons_append, List.nil_append, List.getD_cons_zero, List.getD_cons_succ, Nat.zero_add, bv]
  omega
theorem o1 (v w q : Nat) (hv : v < 64) (hw : w < 64) (hq : q < 64) (r : List UInt8) : oct (btsN v ++ (btsN w ++ (btsN q ++ r))) 8 8 = w % 16 * 16 + q / 4 := by
  rw [oct8]
  simp only [btsN, List.cons_append, List.nil_append, List.getD_cons_zero, List.getD_cons_succ, bv, Nat.reduceAdd]
  omega
theorem o2 (v w q p : Nat) (hv : v < 64) (hw : w < 64) (hq : q < 64) (hp : p < 64) (r : List UInt8) : oct (btsN v ++ (btsN w ++ (btsN q ++ (btsN p ++ r)))) 16 8 = q % 4 * 64 + p := by
  rw [oct8]
  simp only [btsN, List.cons_append, List.nil_append, List.getD_cons_zero, List.getD_cons_succ, bv, Nat.reduceAdd]
  omega
theorem bts_zero (v : Nat) (hv : v < 64) : (∀ c ∈ btsN v, c.toNat = 0) ↔ v = 0 := by
  unfold btsN
  simp [bv]
  omega
theorem dr4 (w : Nat) (hw : w < 64) : (∀ c ∈ (btsN w).drop 2, c.toNat = 0) ↔ w % 16 = 0 := by
  unfold btsN
  simp [bv]
  omega
theorem dr2 (w : Nat) (hw : w < 64) : (∀ c ∈ (btsN w).drop 4, c.toNat = 0) ↔ w % 4 = 0 := by
  unfold btsN
  simp [bv]
  omega
/-- All letters are letters. -/
def allV (l : List UInt8) : Prop := ∀ c ∈ l, valN c.toNat ≠ none
theorem some_of {c : UInt8} (h : valN c.toNat ≠ none) : ∃ v, valN c.toNat = some v := by
  cases e : valN c.toNat with
  | none => exact absurd e h
  | some v => exact ⟨v, rfl⟩
theorem ite_some {α : Type} {p q : Prop} [Decidable p] [Decidable q] (h : p ↔ q) (a b : α) (e : a = b) : (if p then some a else none) = if q then some b else none := by
  subst e
  by_cases hp : p
  · rw [if_pos hp, if_pos (h.1 hp)]
  · rw [if_neg hp, if_neg (fun x => hp (h.2 x))]
theorem decR_eq : ∀ l : List UInt8, allV l → decR (bitsO l) = decC l
  | [], _ => by simp [bitsO, decR, decC, outR]
  | [x], h => by
    obtain ⟨v, hv⟩ := some_of (h x (by simp))
    have hv6 := valN_lt hv
    rw [decC, hv]
    simp only [bitsO, hv, Option.getD_some, List.append_nil, Option.bind_some]
    unfold decR
    have hl : (btsN v).length / 8 = 0 := by simp [btsN]
    rw [hl]
    exact ite_some (by simpa using bts_zero v hv6) _ _ rfl
  | [x, y], h => by
    obtain ⟨v, hv⟩ := some_of (h x (by simp))
    obtain ⟨w, hw⟩ := some_of (h y (by simp))
    have hv6 := valN_lt hv
    have hw6 := valN_lt hw
    rw [decC, hv, hw]
    simp only [bitsO, hv, hw, Option.getD_some, List.append_nil, Option.bind_some]
    unfold decR
    have hl : (btsN v ++ btsN w).length / 8 = 1 := by simp [btsN]
    have hd : (btsN v ++ btsN w).drop (8 * 1) = (btsN w).drop 2 := rfl
    rw [hl, hd]
    refine ite_some (dr4 w hw6) _ _ ?_
    have := o0 v w hv6 hw6 []
    rw [List.append_nil] at this
    show [b8 (oct (btsN v ++ btsN w) (8 * 0) 8)] = _
    rw [this]
  | [x, y, z], h => by
    obtain ⟨v, hv⟩ := some_of (h x (by simp))
    obtain ⟨w, hw⟩ := some_of (h y (by simp))
    obtain ⟨q, hq⟩ := some_of (h z (by simp))
    have hv6 := valN_lt hv
    have hw6 := valN_lt hw
    have hq6 := valN_lt hq
    rw [decC, hv, hw, hq]
    simp only [bitsO, hv, hw, hq, Option.getD_some, List.append_nil, Option.bind_some]
    unfold decR
    have hl : (btsN v ++ (btsN w ++ btsN q)).length / 8 = 2 := by simp [btsN]
    have hd : (btsN v ++ (btsN w ++ btsN q)).drop (8 * 2) = (btsN q).drop 4 := rfl
    rw [hl, hd]
    refine ite_some (dr2 q hq6) _ _ ?_
    have e1 := o0 v w hv6 hw6 (btsN q)
    have e2 := o1 v w q hv6 hw6 hq6 []
    rw [List.append_nil] at e2
    show [b8 (oct (btsN v ++ (btsN w ++ btsN q)) (8 * 0) 8), b8 (oct (btsN v ++ (btsN w ++ btsN q)) (8 * 1) 8)] = _
    rw [e1, e2]
  | x :: y :: z :: u :: r, h => by
    obtain ⟨v, hv⟩ := some_of (h x (by simp))
    obtain ⟨w, hw⟩ := some_of (h y (by simp))
    obtain ⟨q, hq⟩ := some_of (h z (by simp))
    obtain ⟨p, hp⟩ := some_of (h u (by simp))
    have hv6 := valN_lt hv
    have hw6 := valN_lt hw
    have hq6 := valN_lt hq
    have hp6 := valN_lt hp
    have ih := decR_eq r (fun c hc => h c (by simp [hc]))
    rw [decC, hv, hw, hq, hp, ← ih]
    simp only [bitsO, hv, hw, hq, hp, Option.getD_some, Option.bind_some]
    generalize bitsO r = B
    obtain ⟨X, hX⟩ : ∃ X, X = btsN v ++ btsN w ++ btsN q ++ btsN p := ⟨_, rfl⟩
    have hXl : X.length = 24 := by rw [hX]; rfl
    have hXB : btsN v ++ (btsN w ++ (btsN q ++ (btsN p ++ B))) = X ++ B := by rw [hX]; simp
    unfold decR
    have hl : (btsN v ++ (btsN w ++ (btsN q ++ (btsN p ++ B)))).length / 8 = 3 + B.length / 8 := by
      rw [hXB, List.length_append, hXl]; omega
    have hd : (X ++ B).drop (8 * (3 + B.length / 8)) = B.drop (8 * (B.length / 8)) := by
      rw [show 8 * (3 + B.length / 8) = X.length + 8 * (B.length / 8) by omega, List.drop_append]
      simp
    rw [hl, hXB, hd]
    have hout : outR (X ++ B) (3 + B.length / 8) = b8 (v * 4 + w / 16) :: b8 (w % 16 * 16 + q / 4) :: b8 (q % 4 * 64 + p) :: outR B (B.length / 8) := by
      unfold outR
      rw [List.range_add, List.map_append, List.map_map]
      have e3 : List.range 3 = [0, 1, 2] := rfl
      rw [e3]
      simp only [List.map_cons, List.map_nil, List.cons_append, List.nil_append, Nat.mul_zero, Nat.mul_one, show 8 * 2 = 16 from rfl]
      rw [← hXB, o0 v w hv6 hw6, o1 v w q hv6 hw6 hq6, o2 v w q p hv6 hw6 hq6 hp6, hXB]
      congr 3
      refine List.map_congr_left fun i _ => ?_
      simp only [Function.comp]
      rw [show 8 * (3 + i) = 8 * i + 24 by omega, oct_shift X B hXl]
    rw [hout]
    by_cases hz : ∀ c ∈ B.drop (8 * (B.length / 8)), c.toNat = 0
    · rw [if_pos hz, if_pos hz]; rfl
    · rw [if_neg hz, if_neg hz]; rfl
/-- So many = at the end are left out, where they stand. -/
def trimN : Nat → List UInt8 → List UInt8
  | 0, l => l
  | n + 1, l => trimN n (Lib.trimSuffix l [61])
theorem trimN_eq (l : List UInt8) (h : l.length % 4 = 0) : trimN 2 l = unpadE l := by
  unfold unpadE
  rw [if_neg (by omega)]
  rfl
theorem trimN_stop {l : List UInt8} (h : Lib.trimSuffix l [61] = l) : ∀ n, trimN n l = l
  | 0 => rfl
  | n + 1 => by rw [trimN, h, trimN_stop h n]
theorem mem_drop_getD {B : List UInt8} {a : Nat} {c : UInt8} (h : c ∈ B.drop a) : ∃ t, a ≤ t ∧ t < B.length ∧ B.getD t 0 = c := by
  obtain ⟨i, hi⟩ := List.mem_iff_getElem?.1 h
  rw [List.getElem?_drop] at hi
  obtain ⟨hlt, he⟩ := List.getElem?_eq_some_iff.1 hi
  exact ⟨a + i, by omega, hlt, by rw [List.getD_eq_getElem?_getD, hi]; rfl⟩
theorem getD_mem_drop {B : List UInt8} {a t : Nat} (h1 : a ≤ t) (h2 : t < B.length) : B.getD t 0 ∈ B.drop a := by
  refine List.mem_iff_getElem?.2 ⟨t - a, ?_⟩
  rw [List.getElem?_drop, show a + (t - a) = t by omega, List.getD_eq_getElem?_getD, List.getElem?_eq_getElem h2]
  rfl
theorem decR_none {B : List UInt8} {m t : Nat} (hm : m = B.length / 8) (h1 : 8 * m ≤ t) (h2 : t < B.length) (h3 : (B.getD t 0).toNat ≠ 0) : decR B = none := by
  unfold decR
  rw [if_neg]
  intro h
  exact h3 (h _ (getD_mem_drop (by omega) h2))
theorem decR_some {B : List UInt8} {m : Nat} (hm : m = B.length / 8) (h : ∀ t, 8 * m ≤ t → t < B.length → (B.getD t 0).toNat = 0) : decR B = some (outR B m) := by
  unfold decR
  rw [if_pos, hm]
  intro c hc
  obtain ⟨t, h1, h2, rfl⟩ := mem_drop_getD hc
  exact h t (by omega) h2
theorem bitsO_app : ∀ a b : List UInt8, bitsO (a ++ b) = bitsO a ++ bitsO b
  | [], b => rfl
  | c :: a, b => by rw [List.cons_append, bitsO, bitsO, bitsO_app a b, List.append_assoc]
end Go.Proofs.YtfbmabbehiicmaaDoor
