/- The sums of layer 5, as plain functions on integers: a block's numbers. -/
import Derived.Test.YtnlhhjokaekdhaaDoorRot64
set_option linter.unusedVariables false
set_option linter.unusedSimpArgs false
namespace Go.Proofs.YtnlhhjokaekdhaaDoor.L5
open Go.RowKit

abbrev w64 (x : Int) : Int := x % 18446744073709551616
abbrev xor64 (x y : Int) : Int := bits .xor .u64 x y
abbrev and64 (x y : Int) : Int := bits .and .u64 x y
abbrev or64 (x y : Int) : Int := bits .or .u64 x y
def byteI (l : List UInt8) (i : Nat) : Int := ((l.getD i 0).toNat : Int)
/-- The first j bytes of the word t. -/
def part (l : List UInt8) (t : Nat) : Nat → Int
  | 0 => 0
  | j + 1 => or64 (w64 (part l t j * 256)) (w64 (byteI l (8 * t + j)))
def sig0 (x : Int) : Int := xor64 (xor64 (rotF x 1) (rotF x 8)) (x / 128)
def sig1 (x : Int) : Int := xor64 (xor64 (rotF x 19) (rotF x 61)) (x / 64)
def schN (ws : List Int) (n : Nat) : Int := w64 (w64 (w64 (ws.getD (n - 16) 0 + sig0 (ws.getD (n - 15) 0)) + ws.getD (n - 7) 0) + sig1 (ws.getD (n - 2) 0))
/-- The first n numbers of a block. -/
def sch (l : List UInt8) : Nat → List Int
  | 0 => []
  | n + 1 => sch l n ++ [if n < 16 then part l n 8 else schN (sch l n) n]
theorem sch_len (l : List UInt8) : ∀ n, (sch l n).length = n
  | 0 => rfl
  | n + 1 => by simp [sch, sch_len l n]
theorem getD_snoc (ws : List Int) (x : Int) (t : Nat) : (ws ++ [x]).getD t 0 = if t = ws.length then x else ws.getD t 0 := by
  simp only [List.getD_eq_getElem?_getD]
  by_cases h : t < ws.length
  · rw [List.getElem?_append_left h, if_neg (by omega)]
  · rw [List.getElem?_append_right (by omega)]
    by_cases h2 : t = ws.length
    · subst h2; simp
    · rw [if_neg h2, List.getElem?_eq_none (by simp; omega), List.getElem?_eq_none (by omega)]
theorem sch_get (l : List UInt8) : ∀ n t, n ≤ 16 → t < n → (sch l n).getD t 0 = part l t 8
  | 0, t, _, h => by omega
  | n + 1, t, hn, h => by
    rw [sch, getD_snoc, sch_len]
    by_cases e : t = n
    · rw [if_pos e, if_pos (by omega), e]
    · rw [if_neg e]; exact sch_get l n t (by omega) (by omega)
theorem sch_past (l : List UInt8) (n t : Nat) (h : n ≤ t) : (sch l n).getD t 0 = 0 := by
  rw [List.getD_eq_getElem?_getD, List.getElem?_eq_none (by rw [sch_len]; exact h)]
  rfl
/-- A row of 80 numbers. -/
def rowF (f : Nat → Int) : Array Value := ((List.range 80).map fun t => Value.int .u64 (f t)).toArray
theorem rowF_size (f : Nat → Int) : (rowF f).size = 80 := by simp [rowF]
theorem rowF_get (f : Nat → Int) {t : Nat} (h : t < 80) : (rowF f)[t]? = some (Value.int .u64 (f t)) := by
  unfold rowF
  rw [List.getElem?_toArray, List.getElem?_map, List.getElem?_range h]
  rfl
theorem rowF_congr {f g : Nat → Int} (h : ∀ t, t < 80 → f t = g t) : rowF f = rowF g := by
  unfold rowF
  rw [List.map_congr_left fun t ht => by rw [h t (List.mem_range.1 ht)]]
theorem rowF_set (f : Nat → Int) (t : Nat) (x : Int) : (rowF f).setIfInBounds t (Value.int .u64 x) = rowF fun u => if u = t then x else f u := by
  unfold rowF
  apply Array.ext'
  rw [Array.toList_setIfInBounds]
  apply List.ext_getElem?
  intro i
  by_cases hi : i < 80
  · by_cases e : i = t
    · subst e
      rw [List.getElem?_set_self (by simpa using hi)]
      simp [hi]
    · rw [List.getElem?_set_ne (fun h => e h.symm)]
      simp [hi, e]
  · rw [List.getElem?_eq_none (by simp; omega), List.getElem?_eq_none (by simp; omega)]
theorem rowF_list {ws : List Int} (h : ws.length = 80) : rowF (fun t => ws.getD t 0) = (ws.map (Value.int .u64)).toArray := by
  unfold rowF
  congr 1
  apply List.ext_getElem?
  intro i
  by_cases hi : i < 80
  · simp [hi, List.getD, h]
  · rw [List.getElem?_eq_none (by simp; omega), List.getElem?_eq_none (by simp; omega)]
theorem row_zero : rowF (fun _ => 0) = Tryd.zeroCells95 := by rfl
end Go.Proofs.YtnlhhjokaekdhaaDoor.L5
