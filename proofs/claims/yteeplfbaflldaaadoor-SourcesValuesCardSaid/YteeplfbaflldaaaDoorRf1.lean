/- The tables of refs, and the contracts of its small functions. -/
import Derived.Test.YteeplfbaflldaaaDoorBytes
import Derived.Test.YteeplfbaflldaaaDoorLz
import Derived.Below
set_option linter.unusedVariables false
set_option linter.unusedSimpArgs false
namespace Go.Proofs.YteeplfbaflldaaaDoor.R9
open Go.RowKit

/-- What a table says of a name; 0: nothing. -/
def look : List (List UInt8 × Int) → List UInt8 → Int
  | [], _ => 0
  | (n, c) :: r, l => if (l == n) = true then c else look r l
def looseA : List (List UInt8 × Int) := [([97, 109, 112], 38), ([65, 77, 80], 38), ([108, 116], 60), ([76, 84], 60), ([103, 116], 62), ([71, 84], 62), ([113, 117, 111, 116], 34), ([81, 85, 79, 84], 34), ([110, 98, 115, 112], 160), ([99, 101, 110, 116], 162), ([112, 111, 117, 110, 100], 163), ([121, 101, 110], 165), ([115, 101, 99, 116], 167), ([99, 111, 112, 121], 169), ([67, 79, 80, 89], 169), ([108, 97, 113, 117, 111], 171), ([110, 111, 116], 172), ([114, 101, 103], 174), ([82, 69, 71], 174), ([100, 101, 103], 176), ([112, 108, 117, 115, 109, 110], 177)]
def looseB : List (List UInt8 × Int) := [([112, 97, 114, 97], 182), ([109, 105, 100, 100, 111, 116], 183), ([114, 97, 113, 117, 111], 187), ([102, 114, 97, 99, 49, 50], 189), ([69, 97, 99, 117, 116, 101], 201), ([116, 105, 109, 101, 115], 215), ([115, 122, 108, 105, 103], 223), ([101, 97, 99, 117, 116, 101], 233), ([117, 117, 109, 108], 252)]
def strictA : List (List UInt8 × Int) := [([97, 112, 111, 115], 39), ([104, 101, 108, 108, 105, 112], 8230), ([109, 100, 97, 115, 104], 8212), ([110, 100, 97, 115, 104], 8211), ([110, 111, 116, 105, 110], 8713), ([99, 111, 108, 111, 110], 58), ([115, 101, 109, 105], 59), ([108, 112, 97, 114], 40), ([114, 112, 97, 114], 41), ([108, 115, 113, 98], 91), ([114, 115, 113, 98], 93), ([115, 111, 108], 47)]
def strictB : List (List UInt8 × Int) := [([98, 115, 111, 108], 92), ([110, 117, 109], 35), ([113, 117, 101, 115, 116], 63), ([101, 113, 117, 97, 108, 115], 61), ([101, 120, 99, 108], 33), ([112, 101, 114, 105, 111, 100], 46), ([99, 111, 109, 109, 97, 116], 64), ([112, 101, 114, 99, 110, 116], 37), ([84, 97, 98], 9), ([78, 101, 119, 76, 105, 110, 101], 10)]

def looseN (l : List UInt8) : Int := look (looseA ++ looseB) l
def strictN (l : List UInt8) : Int := look (strictA ++ strictB) l
def winL : List Int := [8364, 0, 8218, 402, 8222, 8230, 8224, 8225, 710, 8240, 352, 8249, 338, 0, 381, 0, 0, 8216, 8217, 8220, 8221, 8226, 8211, 8212, 732, 8482, 353, 8250, 339, 0, 382, 376]
def i32A (l : List Int) : Array Value := (l.map (Value.int .i32)).toArray
/-- The table as it is laid. -/
def RTab (w : World) : Prop := ∃ t fr, w.heap[(7 : Nat)]? = some (.cells (i32A winL) t fr)
theorem RTab.below {w w' : World} (h : RTab w) (hb : Below w.heap.size w w') : RTab w' := by
  obtain ⟨t, fr, h1⟩ := h
  exact ⟨t, fr, (hb.block _ (Array.getElem?_eq_some_iff.1 h1).1).trans h1⟩
theorem ret_i32 {a b : Int} (h : a = b) : Ending.returned (.int .i32 a) = .returned (.int .i32 b) := by rw [h]
set_option maxHeartbeats 1600000 in
set_option maxRecDepth 100000 in
theorem looseToo_any (name : ByteArray) (w : World) : Calls Tryd.prog 129 #[.string name] w fun e w' => e = .returned (.int .i32 (look looseB name.toList)) ∧ w = w' := by
  go_enter Tryd.func129, Tryd.ntmps129
  go_wp2
  all_goals (go_ret; refine ⟨ret_i32 ?_, rfl⟩; simp [look, looseB, *])
set_option maxHeartbeats 1600000 in
set_option maxRecDepth 100000 in
theorem loose_any (name : ByteArray) (w : World) : Calls Tryd.prog 124 #[.string name] w fun e w' => e = .returned (.int .i32 (looseN name.toList)) ∧ w = w' := by
  have H := Lib.hid (looseToo_any name)
  obtain ⟨X, hX⟩ : ∃ X, look looseB name.toList = X := ⟨_, rfl⟩
  rw [hX] at H
  have HX := Lib.hid hX
  clear hX
  go_enter Tryd.func124, Tryd.ntmps124
  go_wp2_with (go_at_call 129; refine (H.out _).mono ?_; rintro e w' ⟨rfl, rfl⟩)
  all_goals (go_ret; refine ⟨ret_i32 ?_, rfl⟩; first | (unfold looseN looseA; simp only [List.cons_append, List.nil_append, look, *, if_true, if_false, Bool.false_eq_true, HX.out]; done) | (exfalso; simp_all only [Bool.false_eq_true, reduceCtorEq]; done))
set_option maxHeartbeats 1600000 in
set_option maxRecDepth 100000 in
theorem strictToo_any (name : ByteArray) (w : World) : Calls Tryd.prog 130 #[.string name] w fun e w' => e = .returned (.int .i32 (look strictB name.toList)) ∧ w = w' := by
  go_enter Tryd.func130, Tryd.ntmps130
  go_wp2
  all_goals (go_ret; refine ⟨ret_i32 ?_, rfl⟩; simp [look, strictB, *])
set_option maxHeartbeats 1600000 in
set_option maxRecDepth 100000 in
theorem strict_any (name : ByteArray) (w : World) : Calls Tryd.prog 125 #[.string name] w fun e w' => e = .returned (.int .i32 (strictN name.toList)) ∧ w = w' := by
  have H := Lib.hid (strictToo_any name)
  obtain ⟨X, hX⟩ : ∃ X, look strictB name.toList = X := ⟨_, rfl⟩
  rw [hX] at H
  have HX := Lib.hid hX
  clear hX
  go_enter Tryd.func125, Tryd.ntmps125
  go_wp2_with (go_at_call 130; refine (H.out _).mono ?_; rintro e w' ⟨rfl, rfl⟩)
  all_goals (go_ret; refine ⟨ret_i32 ?_, rfl⟩; unfold strictN strictA; simp only [List.cons_append, List.nil_append, look, *, if_true, if_false, Bool.false_eq_true, HX.out])
/-- A number's character. -/
def charN (n : Int) : Int := if n = 0 ∨ 1114111 < n ∨ (55296 ≤ n ∧ n ≤ 57343) then 65533 else if 128 ≤ n ∧ n ≤ 159 then (if winL.getD (n - 128).toNat 0 = 0 then n else winL.getD (n - 128).toNat 0) else n
set_option maxHeartbeats 1600000 in
set_option maxRecDepth 100000 in
theorem char_any (n : Int) (w : World) (hT : RTab w) (h0 : 0 ≤ n) (h1 : n ≤ 1114112) : Calls Tryd.prog 123 #[.int .i64 n] w fun e w' => e = .returned (.int .i32 (charN n)) ∧ w = w' := by
  by_cases hw : 128 ≤ n ∧ n ≤ 159
  · obtain ⟨m, hm⟩ : ∃ m : Nat, n - 128 = (m : Int) := ⟨(n - 128).toNat, by omega⟩
    obtain ⟨t, fr, hh⟩ := hT
    obtain ⟨o, ho⟩ : ∃ o, winL.getD m 0 = o := ⟨_, rfl⟩
    have hm32 : m < winL.length := by show m < 32; omega
    have hmi : (m : Int) < 32 := by omega
    have hc : w.cell? ⟨(7 : Nat), m, none⟩ = some (.int .i32 o) := by
      rw [Lib.cell_of_heap hh]
      unfold i32A
      rw [List.getElem?_toArray, List.getElem?_map, List.getElem?_eq_getElem hm32, ← ho, List.getD_eq_getElem?_getD, List.getElem?_eq_getElem hm32]
      rfl
    have hN : Hid (charN n = if o = 0 then n else o) := by
      show _ = _
      have e : (n - 128).toNat = m := by omega
      unfold charN
      rw [if_neg (by omega), if_pos hw, e, ho]
    obtain ⟨hw1, hw2⟩ := hw
    have hm0 : (0 : Int) ≤ m := by omega
    have hnz : (n == 0) = false := by simp; omega
    have hn1 : ¬ (1114111 : Int) < n := by omega
    have hn2 : n < 55296 := by omega
    have hn3 : ¬ (55296 : Int) ≤ n := by omega
    clear hh ho hm32
    by_cases hz : o = 0
    · subst hz
      go_enter Tryd.func123, Tryd.ntmps123
      go_wp2
      all_goals (go_ret; refine ⟨ret_i32 ?_, rfl⟩; rw [hN.out]; simp)
    · have hz' : (o == 0) = false := by simpa using hz
      go_enter Tryd.func123, Tryd.ntmps123
      go_wp2
      all_goals (go_ret; refine ⟨ret_i32 ?_, rfl⟩; rw [hN.out, if_neg hz])
  · clear hT
    go_enter Tryd.func123, Tryd.ntmps123
    go_wp2
    all_goals (first | (exfalso; simp at *; omega) | (go_ret; refine ⟨ret_i32 ?_, rfl⟩; unfold charN; simp at *; (repeat' split) <;> omega))
/-- Does it go on behind a name as a query does? -/
def goesL (r : List UInt8) (k : Nat) : Bool := match r[k]? with
  | some c => (c.toNat : Int) == 61 || alI c.toNat || diI c.toNat
  | none => false
set_option maxHeartbeats 1600000 in
set_option maxRecDepth 100000 in
theorem goes_any (s : ByteArray) (k : Nat) (w : World) : Calls Tryd.prog 126 #[.string s, .int .i64 k] w fun e w' => e = .returned (.bool (goesL s.data.toList k)) ∧ w = w' := by
  by_cases hk : k < s.size
  · obtain ⟨c, hc⟩ : ∃ c, s[k] = c := ⟨_, rfl⟩
    have hG : Hid (goesL s.data.toList k = ((c.toNat : Int) == 61 || alI c.toNat || diI c.toNat)) := by
      show _ = _
      unfold goesL
      have hl : k < s.data.toList.length := by simpa using hk
      rw [List.getElem?_eq_getElem hl, ← hc]
      rfl
    have hki : (k : Int) < s.size := by omega
    go_enter Tryd.func126, Tryd.ntmps126
    go_wp2_with (first | (go_at_call 38; refine (alpha_any _ _).mono ?_; rintro e w' ⟨rfl, rfl⟩) | (go_at_call 94; refine (digit_any _ _).mono ?_; rintro e w' ⟨rfl, rfl⟩))
    all_goals (go_ret; refine ⟨ret_bool ?_, rfl⟩; rw [hG.out]; simp [*])
  · have hG : Hid (goesL s.data.toList k = false) := by
      show _ = _
      unfold goesL
      rw [List.getElem?_eq_none (by simpa using hk)]
    have hki : ¬ (k : Int) < s.size := by omega
    go_enter Tryd.func126, Tryd.ntmps126
    go_wp2
    all_goals (go_ret; refine ⟨ret_bool ?_, rfl⟩; rw [hG.out])
end Go.Proofs.YteeplfbaflldaaaDoor.R9
