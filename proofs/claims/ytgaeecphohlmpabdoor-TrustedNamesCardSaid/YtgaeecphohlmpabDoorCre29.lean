/- trusted.Creates. -/
import Derived.Test.YtgaeecphohlmpabDoorPrs29
set_option linter.unusedVariables false
namespace Go.Proofs.YtgaeecphohlmpabDoor
open Go.RowKit

def creB (ds : List Dir) (name : List UInt8) (there : List (List UInt8)) : Bool :=
  !(fndL ds tttN).isSome || ((((fndL ds tttN).getD ([], [])).2.any isDup || !(there.any (· == name))) && (((fndL ds tttN).getD ([], [])).2.any isStar || (((fndL ds tttN).getD ([], [])).2.filter namL).any (· == name)))

set_option maxHeartbeats 3200000 in
set_option maxRecDepth 100000 in
theorem creates_any (lv : Value) (rep : Bool) (ds : List Dir) (c : ByteArray) (tv : Value) (there : List (List UInt8)) (w : World) (hd : DirsIn w lv ds) (hl : ds.length ≤ 1099511627776) (hv : ∀ d ∈ ds, d.2.length ≤ 1099511627776 ∧ ∀ x ∈ d.2, x.length ≤ 1099511627776) (ht : SliceIn w tv (strCells there)) :
    Calls Tryd.prog 11 #[.agg #[lv, .bool rep], .string c, tv] w fun e w' => e = .returned (.bool (creB ds c.data.toList there)) ∧ Below w.heap.size w w' := by
  obtain ⟨W1, hW1⟩ : ∃ W1, W1 = w.alloc (.cells #[lv, .bool rep] 24) := ⟨_, rfl⟩
  have hb1 : Below w.heap.size w W1 := by rw [hW1]; exact (Below.refl _ w).alloc (Nat.le_refl _) _
  have q0 : W1.cell? ⟨w.heap.size, 0, none⟩ = some lv := by rw [hW1, Lib.cell_of_heap (heap_alloc_new w _)]; rfl
  have q1 : W1.cell? ⟨w.heap.size, 1, none⟩ = some (.bool rep) := by rw [hW1, Lib.cell_of_heap (heap_alloc_new w _)]; rfl
  have HP := Lib.hid (parse_any lv rep ds W1 (hd.below hb1) hl hv)
  unfold ParRes at HP
  have HC : Hid (creB ds c.data.toList there = (!(fndL ds tttN).isSome || ((((fndL ds tttN).getD ([], [])).2.any isDup || !(there.any (· == c.data.toList))) && (((fndL ds tttN).getD ([], [])).2.any isStar || (((fndL ds tttN).getD ([], [])).2.filter namL).any (· == c.data.toList))))) := rfl
  obtain ⟨S, hS⟩ : ∃ S, (fndL ds tttN).isSome = S := ⟨_, rfl⟩
  obtain ⟨A, hA⟩ : ∃ A, ((fndL ds tttN).getD ([], [])).2.any isStar = A := ⟨_, rfl⟩
  obtain ⟨T, hT⟩ : ∃ T, ((fndL ds tttN).getD ([], [])).2.any isDup = T := ⟨_, rfl⟩
  obtain ⟨F, hF⟩ : ∃ F, ((fndL ds tttN).getD ([], [])).2.filter namL = F := ⟨_, rfl⟩
  rw [hS, hA, hT, hF] at HP HC
  have HW1 := Lib.hid hW1
  have HB1 := Lib.hid hb1
  rw [hW1] at q0 q1
  clear hW1 hb1 hS hA hT hF
  obtain ⟨X, hX⟩ : ∃ X, there.any (· == c.data.toList) = X := ⟨_, rfl⟩
  obtain ⟨Y, hY⟩ : ∃ Y, F.any (· == c.data.toList) = Y := ⟨_, rfl⟩
  rw [hX, hY] at HC
  go_enter Tryd.func11, Tryd.ntmps11
  go_upto_region 2 with (go_at_call 8; rw [← HW1.out]; refine HP.out.mono ?_; rintro e w2 ⟨⟨sv, rfl, o2⟩, b2⟩; obtain ⟨sa, sc, hsv⟩ := owns_shape o2; subst hsv)
  obtain ⟨W3, hW3⟩ : ∃ W3, W3 = w2.alloc (.cells #[.slice sa F.length sc, .bool A, .bool T, .bool S] 29) := ⟨_, rfl⟩
  have hb3 : Below w2.heap.size w2 W3 := by rw [hW3]; exact (Below.refl _ w2).alloc (Nat.le_refl _) _
  have n0 : W3.cell? ⟨w2.heap.size, 0, none⟩ = some (.slice sa F.length sc) := by rw [hW3, Lib.cell_of_heap (heap_alloc_new w2 _)]; rfl
  have n1 : W3.cell? ⟨w2.heap.size, 1, none⟩ = some (.bool A) := by rw [hW3, Lib.cell_of_heap (heap_alloc_new w2 _)]; rfl
  have n2 : W3.cell? ⟨w2.heap.size, 2, none⟩ = some (.bool T) := by rw [hW3, Lib.cell_of_heap (heap_alloc_new w2 _)]; rfl
  have n3 : W3.cell? ⟨w2.heap.size, 3, none⟩ = some (.bool S) := by rw [hW3, Lib.cell_of_heap (heap_alloc_new w2 _)]; rfl
  have HW3 : Hid (Below w.heap.size w W3) := HB1.out.trans ((b2.trans (hb3.mono b2.size)).mono HB1.out.size)
  have HT1 := Lib.hid (has_text _ _ c W3 (ht.below HW3.out))
  have HL1 := Lib.hid (has_text _ _ c W3 ((owns_slice o2 (strCells_len _)).below hb3))
  rw [hX] at HT1
  rw [hY] at HL1
  obtain ⟨fl, hfl⟩ : ∃ fl, F.length = fl := ⟨_, rfl⟩
  rw [hfl] at HL1 n0
  rw [hfl] at hW3
  rw [hfl, ← hW3]
  clear hW3 hb3 b2 o2 HP q0 q1 hX hY hfl
  cases S <;> cases T <;> cases A <;> cases X
  all_goals go_wp2_with (first
    | (go_at_call 23; refine HT1.out.mono ?_; rintro e w' ⟨rfl, rfl⟩)
    | (go_at_call 23; refine HL1.out.mono ?_; rintro e w' ⟨rfl, rfl⟩))
  all_goals first
    | (go_ret; exact ⟨by rw [HC.out]; first | rfl | (cases Y <;> rfl), HW3.out⟩)
    | fail
end Go.Proofs.YtgaeecphohlmpabDoor
