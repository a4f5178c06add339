/- The contract of Texts: are two lists of texts the same? And the chapter's examples. -/
import Derived.Test.YthgecembedjnaaaDoorAscii5
set_option linter.unusedVariables false
namespace Go.Proofs.YthgecembedjnaaaDoor
open Go.RowKit

theorem below_drewN {B : Nat} {a w : World} (h : Below B a w) (n : Nat) : Below B a (w.drewN n) := ⟨h.os, h.tape, h.output, h.size, h.block⟩
theorem owns_drewN {w : World} {B : Nat} {e : TypeId} {size : Nat} {v : Value} {n : Nat} {xs : List Value} (h : w.ownsRow B e size v n xs) (k : Nat) : (w.drewN k).ownsRow B e size v n xs := h

theorem beq_take {a b : List (List UInt8)} (hl : a.length = b.length) (k : Nat) (hk : k < a.length) (ht : a.take k = b.take k) (x y : List UInt8) (hx : a[k]? = some x) (hy : b[k]? = some y) :
    (x = y → a.take (k + 1) = b.take (k + 1)) ∧ (x ≠ y → (a == b) = false) := by
  constructor
  · intro e
    rw [List.take_add_one, List.take_add_one, ht, hx, hy, e]
  · intro e
    rw [beq_eq_false_iff_ne]
    intro h
    rw [h, hy] at hx
    exact e (Option.some.inj hx).symm

set_option maxHeartbeats 1000000 in
set_option maxRecDepth 100000 in
theorem texts_any (B1 B2 : Nat) (va vb : Value) (la lb : List (List UInt8)) (w : World) (ha : w.ownsRow B1 9 1 va la.length (strCells la)) (hb : w.ownsRow B2 9 1 vb lb.length (strCells lb)) (h1 : la.length ≤ 1099511627776) (h2 : lb.length ≤ 1099511627776) :
    Calls Tryd.prog 28 #[va, vb] w fun e w' => e = .returned (.bool (la == lb)) ∧ Below w.heap.size w w' := by
  by_cases hl : la.length = lb.length
  · obtain ⟨aa, ca, hva⟩ := owns_shape ha
    obtain ⟨ab, cb, hvb⟩ := owns_shape hb
    subst hva hvb
    have hl' : ((la.length : Int) == (lb.length : Int)) = true := by simp [hl]
    have hl2 : ((la.length : Int) != (lb.length : Int)) = false := by simp [hl]
    have HL := Lib.hid hl
    clear hl
    go_enter Tryd.func28, Tryd.ntmps28
    go_wp2
    go_loopw [5] (fun i wr => ∃ k n : Nat, k ≤ la.length ∧ i = .int .i64 k ∧ wr = w.drewN n ∧ Hid (la.take k = lb.take k)) (fun i _ => la.length - (intOf i).toNat)
    case atStart => exact ⟨0, 0, Nat.zero_le _, rfl, rfl, rfl⟩
    case round =>
      obtain ⟨k, n, hk, rfl, rfl, ht⟩ := hrel
      by_cases hlt : k < la.length
      · have hlt2 : k < lb.length := by have := HL.out; omega
        obtain ⟨g1, c1, e1, _, _, _, _, r1⟩ := owns_cell ha hlt
        obtain ⟨g2, c2, e2, _, _, _, _, r2⟩ := owns_cell hb hlt2
        obtain ⟨rfl, _, rfl⟩ : aa = some ⟨g1, 0, none⟩ ∧ la.length = la.length ∧ ca = c1 := by injection e1 with a b c; exact ⟨a, b, c⟩
        obtain ⟨rfl, _, rfl⟩ : ab = some ⟨g2, 0, none⟩ ∧ lb.length = lb.length ∧ cb = c2 := by injection e2 with a b c; exact ⟨a, b, c⟩
        have q1 := r1 k (.string ⟨la[k].toArray⟩) (by simp [strCells, hlt])
        have q2 := r2 k (.string ⟨lb[k].toArray⟩) (by simp [strCells, hlt2])
        have hbt := beq_take HL.out k hlt ht.out la[k] lb[k] (List.getElem?_eq_getElem hlt) (List.getElem?_eq_getElem hlt2)
        have i1 : (0 : Int) ≤ (k : Int) := Int.natCast_nonneg _
        have i2 : (k : Int) < (la.length : Int) := by omega
        have i3 : (k : Int) < (lb.length : Int) := by omega
        clear r1 r2 e1 e2
        by_cases he : la[k] = lb[k]
        · have HN := Lib.hid (hbt.1 he)
          have he2 : (la[k] == lb[k]) = true := by simp [he]
          have he3 : (la[k] != lb[k]) = false := by simp [he]
          clear hbt he
          go_wp2
          go_quiet (fail)
          go_wp2
          go_roundw
          case rel => exact ⟨k + 1, _, by omega, by go_num, rfl, HN.out⟩
          case measure => simp [intOf]; omega
        · have HN := Lib.hid (hbt.2 he)
          have he2 : (la[k] == lb[k]) = false := by simp [he]
          have he3 : (la[k] != lb[k]) = true := by simp [he]
          clear hbt he
          go_wp2
          go_quiet (fail)
          go_wp2
          go_ret
          exact ⟨ret_bool HN.out.symm, (by repeat (first | exact Below.refl _ _ | refine below_drewN ?_ _))⟩
      · have HN : Hid ((la == lb) = true) := by
          have e := ht.out
          have := HL.out
          rw [List.take_of_length_le (by omega), List.take_of_length_le (by omega)] at e
          show (la == lb) = true
          rw [e]
          simp
        go_wp2
        go_ret
        exact ⟨ret_bool HN.out.symm, (by repeat (first | exact Below.refl _ _ | refine below_drewN ?_ _))⟩
  · obtain ⟨aa, ca, hva⟩ := owns_shape ha
    obtain ⟨ab, cb, hvb⟩ := owns_shape hb
    subst hva hvb
    have hl' : ((la.length : Int) == (lb.length : Int)) = false := by simp; omega
    have hl2 : ((la.length : Int) != (lb.length : Int)) = true := by simp; omega
    have HN : Hid ((la == lb) = false) := by
      show (la == lb) = false
      rw [beq_eq_false_iff_ne]
      intro e
      exact hl (by rw [e])
    clear hl
    go_enter Tryd.func28, Tryd.ntmps28
    go_wp2
    go_ret
    exact ⟨ret_bool HN.out.symm, Below.refl _ _⟩

theorem str_eq {a b : List UInt8} (h : a = b) : Ending.returned (.string ⟨a.toArray⟩) = .returned (.string ⟨b.toArray⟩) := by rw [h]

/-- The cell of internal/bytealg.MaxLen, whatever it holds. -/
def MaxOk (m : Int) (w : World) : Prop := w.cell? ⟨4, 0, none⟩ = some (.int .i64 m)
theorem MaxOk.below {m : Int} {w w' : World} (h : MaxOk m w) (hb : Below w.heap.size w w') : MaxOk m w' := by
  have hl := World.block_lt_of_cell? w _ h
  exact (hb.cell (p := ⟨4, 0, none⟩) hl).trans h

/-- A list of texts written out. -/
theorem lit_owns (w : World) (l : List (List UInt8)) (h : l.length ≤ 1099511627776) : (w.alloc (.cells (strCells l).toArray 9)).ownsRow w.heap.size 9 1 (.slice (some ⟨w.heap.size, 0, none⟩) l.length l.length) l.length (strCells l) := by
  refine ⟨by simp [strCells], .inr ⟨w.heap.size, l.length, (strCells l).toArray, rfl, Nat.le_refl _, heap_alloc_new w _, Nat.le_refl _, by unfold maxLen; omega, by simp [strCells], ?_⟩⟩
  simp only [Nat.mul_one]
  rw [List.take_of_length_le (by simp [strCells])]

set_option maxHeartbeats 2000000 in
set_option maxRecDepth 100000 in
theorem spelt_any (m : Int) (w : World) (hm : MaxOk m w) :
    Calls Tryd.prog 23 #[] w fun e w' => e = .returned (.bool true) ∧ Below w.heap.size w w' := by
  have HM := Lib.hid hm
  clear hm
  go_enter Tryd.func23, Tryd.ntmps23
  go_wp2_with fail
  refine (hex_any 70 _ (by decide) (by decide)).mono ?_
  rintro e w' ⟨rfl, rfl⟩
  rw [show hexV 70 = 15 from by decide, show hexB 70 = true from by decide]
  go_wp2_with fail
  refine (hex_any 103 _ (by decide) (by decide)).mono ?_
  rintro e w' ⟨rfl, rfl⟩
  rw [show hexV 103 = 0 from by decide, show hexB 103 = false from by decide]
  go_wp2_with fail
  refine (lower_any ⟨#[65, 98, 90, 91]⟩ _ (by decide)).mono ?_
  rintro e w1 ⟨rfl, b1⟩
  rw [show lowL (⟨#[65, 98, 90, 91]⟩ : ByteArray).data.toList = [97, 98, 122, 91] from by decide]
  go_wp2_with fail
  refine (same_any ⟨#[65, 97]⟩ ⟨#[97, 65]⟩ _ (by decide) (by decide)).mono ?_
  rintro e w2 ⟨rfl, b2⟩
  rw [show sameL (⟨#[65, 97]⟩ : ByteArray).data.toList (⟨#[97, 65]⟩ : ByteArray).data.toList = true from by decide]
  go_wp2_with fail
  refine (same_any ⟨#[75]⟩ ⟨#[226, 132, 170]⟩ _ (by decide) (by decide)).mono ?_
  rintro e w3 ⟨rfl, b3⟩
  rw [show sameL (⟨#[75]⟩ : ByteArray).data.toList (⟨#[226, 132, 170]⟩ : ByteArray).data.toList = false from by decide]
  go_wp2_with fail
  refine (strip_any ⟨#[32, 97, 9, 98, 99, 13]⟩ _ (by decide)).mono ?_
  rintro e w' ⟨rfl, rfl⟩
  rw [show stripL (⟨#[32, 97, 9, 98, 99, 13]⟩ : ByteArray).data.toList = [97, 9, 98, 99] from by decide]
  go_wp2_with fail
  refine (fields_any ⟨#[32, 97, 9, 98, 99, 13]⟩ _ (by decide)).mono ?_
  rintro e w4 ⟨⟨v4, rfl, o4⟩, b4⟩
  rw [show fieldsL (⟨#[32, 97, 9, 98, 99, 13]⟩ : ByteArray).data.toList = [[97], [98, 99]] from by decide] at o4
  go_wp2_with fail
  have o5 : (w4.alloc (.cells #[.string ⟨#[97]⟩, .string ⟨#[98, 99]⟩] 9)).ownsRow w4.heap.size 9 1 (.slice (some ⟨w4.heap.size, 0, none⟩) 2 2) 2 (strCells [[97], [98, 99]]) := lit_owns w4 [[97], [98, 99]] (by decide)
  refine (texts_any _ _ _ _ [[97], [98, 99]] [[97], [98, 99]] _ (owns_below o4 ((Below.refl _ w4).alloc (Nat.le_refl _) _)) o5 (by decide) (by decide)).mono ?_
  rintro e w5 ⟨rfl, b5⟩
  rw [show (([[97], [98, 99]] : List (List UInt8)) == [[97], [98, 99]]) = true from by decide]
  have c1 := b1.trans (b2.mono b1.size)
  have c2 := c1.trans (b3.mono c1.size)
  have c3 := c2.trans (b4.mono c2.size)
  have c4 := (c3.alloc c3.size (.cells #[.string ⟨#[97]⟩, .string ⟨#[98, 99]⟩] 9))
  have c5 := c4.trans (b5.mono c4.size)
  clear c1 c2 c3 c4 o4 o5 b1 b2 b3 b4 b5
  go_wp2_with fail
  refine (commas_any ⟨#[32, 97, 44, 44, 98, 32, 99, 44]⟩ m _ (by decide) (HM.out.below c5)).mono ?_
  rintro e w6 ⟨⟨v6, rfl, o6⟩, b6⟩
  rw [show commasL (⟨#[32, 97, 44, 44, 98, 32, 99, 44]⟩ : ByteArray).data.toList = [[97], [98, 32, 99]] from by decide] at o6
  go_wp2_with fail
  have o7 : (w6.alloc (.cells #[.string ⟨#[97]⟩, .string ⟨#[98, 32, 99]⟩] 9)).ownsRow w6.heap.size 9 1 (.slice (some ⟨w6.heap.size, 0, none⟩) 2 2) 2 (strCells [[97], [98, 32, 99]]) := lit_owns w6 [[97], [98, 32, 99]] (by decide)
  refine (texts_any _ _ _ _ [[97], [98, 32, 99]] [[97], [98, 32, 99]] _ (owns_below o6 ((Below.refl _ w6).alloc (Nat.le_refl _) _)) o7 (by decide) (by decide)).mono ?_
  rintro e w7 ⟨rfl, b7⟩
  rw [show (([[97], [98, 32, 99]] : List (List UInt8)) == [[97], [98, 32, 99]]) = true from by decide]
  have d1 := c5.trans (b6.mono c5.size)
  have d2 := (d1.alloc d1.size (.cells #[.string ⟨#[97]⟩, .string ⟨#[98, 32, 99]⟩] 9))
  have d3 := d2.trans (b7.mono d2.size)
  clear c5 d1 d2 o6 o7 b6 b7
  go_wp2
  go_ret
  exact ⟨rfl, d3⟩
end Go.Proofs.YthgecembedjnaaaDoor
