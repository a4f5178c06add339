/- lazaretlaw29.types. -/
import Derived.Test.YtgaeecphohlmpabDoorLit29
set_option linter.unusedVariables false
namespace Go.Proofs.YtgaeecphohlmpabDoor
open Go.RowKit

theorem DirsIn.shape29 {w : World} {lv : Value} {ds : List Dir} (h : DirsIn w lv ds) : ∃ ao cap, lv = .slice ao ds.length cap := by
  obtain ⟨ao, cap, h1, _⟩ := h
  exact ⟨ao, cap, h1⟩
def OkDs (ds : List Dir) : Prop := ds.length ≤ 1099511627776 ∧ ∀ d ∈ ds, d.2.length ≤ 1099511627776 ∧ ∀ x ∈ d.2, x.length ≤ 1099511627776
instance (ds : List Dir) : Decidable (OkDs ds) := by unfold OkDs; infer_instance

set_option maxHeartbeats 3200000 in
set_option maxRecDepth 100000 in
theorem types_any (m : Int) (w : World) (hm : MaxOk m w) :
    Calls Tryd.prog 7 #[] w fun e w' => e = .returned (.bool true) ∧ Below w.heap.size w w' := by
  have HOF := Lib.hid (fun s w => of_any s m w)
  obtain ⟨A, hA⟩ : ∃ A, oneL txA = A := ⟨_, rfl⟩
  obtain ⟨N, hN⟩ : ∃ N, oneL txN = N := ⟨_, rfl⟩
  obtain ⟨R, hR⟩ : ∃ R, oneL txR = R := ⟨_, rfl⟩
  have okA : Hid (OkDs A) := by rw [← hA]; show OkDs _; decide +kernel
  have okN : Hid (OkDs N) := by rw [← hN]; show OkDs _; decide +kernel
  have okR : Hid (OkDs R) := by rw [← hR]; show OkDs _; decide +kernel
  have F1 := Lib.hid litA_list
  have F2 := Lib.hid litA_star
  have F3 := Lib.hid litA_dup
  have F4 := Lib.hid litA_has
  have G1 := Lib.hid litA_a
  have G2 := Lib.hid litA_b
  have G3 := Lib.hid litN_a
  have G4 := Lib.hid litN_n
  have G5 := Lib.hid litR
  rw [hA] at F1 F2 F3 F4 G1 G2
  rw [hN] at G3 G4
  rw [hR] at G5
  have HA1 := Lib.hid (of_any ⟨txA.toArray⟩ m w (by decide) hm)
  rw [show (⟨txA.toArray⟩ : ByteArray).data.toList = txA from by simp, hA] at HA1
  unfold txA at HA1
  go_enter Tryd.func7, Tryd.ntmps7
  go_upto_region 2 with (go_at_call 16; refine HA1.out.mono ?_; rintro e w1 ⟨⟨v1, rfl, d1⟩, b1⟩; obtain ⟨ao1, cp1, hv1⟩ := DirsIn.shape29 d1; subst hv1)
  obtain ⟨W1, hW1⟩ : ∃ W1, W1 = w1.alloc (.cells #[.slice ao1 A.length cp1, .bool false] 24) := ⟨_, rfl⟩
  have hb1 : Below w1.heap.size w1 W1 := by rw [hW1]; exact (Below.refl _ w1).alloc (Nat.le_refl _) _
  have hs1 : w1.heap.size < W1.heap.size := by rw [hW1]; simp
  have k1 : W1.heap[w1.heap.size]? = some (.cells #[.slice ao1 A.length cp1, .bool false] 24 (0, 0)) := by rw [hW1]; exact heap_alloc_new w1 _
  have p0 : W1.cell? ⟨w1.heap.size, 0, none⟩ = some (.slice ao1 A.length cp1) := by rw [Lib.cell_of_heap k1]; rfl
  have p1 : W1.cell? ⟨w1.heap.size, 1, none⟩ = some (.bool false) := by rw [Lib.cell_of_heap k1]; rfl
  have B1 : Hid (Below w.heap.size w W1) := b1.trans (hb1.mono b1.size)
  have D1 := Lib.hid (d1.below hb1)
  have K1 := Lib.hid k1
  have HP := Lib.hid (parse_any _ false A W1 D1.out okA.out.1 okA.out.2)
  unfold ParRes at HP
  rw [F1.out, F2.out, F3.out, F4.out] at HP
  rw [← hW1]
  clear hW1 hb1 d1 b1 k1 HA1
  go_upto_region 3 with (go_at_call 8; refine HP.out.mono ?_; rintro e w2 ⟨⟨sv, rfl, o2⟩, b2⟩; obtain ⟨sa, sc, hsv⟩ := owns_shape o2; subst hsv)
  obtain ⟨W2, hW2⟩ : ∃ W2, W2 = w2.alloc (.cells #[.slice sa 1 sc, .bool false, .bool true, .bool true] 29) := ⟨_, rfl⟩
  have hb2 : Below w2.heap.size w2 W2 := by rw [hW2]; exact (Below.refl _ w2).alloc (Nat.le_refl _) _
  have hs2 : w2.heap.size < W2.heap.size := by rw [hW2]; simp
  have k2 : W2.heap[w2.heap.size]? = some (.cells #[.slice sa 1 sc, .bool false, .bool true, .bool true] 29 (0, 0)) := by rw [hW2]; exact heap_alloc_new w2 _
  have B2 : Hid (Below W1.heap.size W1 W2) := b2.trans (hb2.mono b2.size)
  have S2 : Hid (SliceIn W2 (.slice sa 1 sc) (strCells [[97]])) := (owns_slice o2 (strCells_len _)).below hb2
  have K2 := Lib.hid k2
  have B12 : Hid (Below w.heap.size w W2) := B1.out.trans (B2.out.mono B1.out.size)
  have HN1 := Lib.hid (of_any ⟨txN.toArray⟩ m W2 (by decide) (hm.below B12.out))
  rw [show (⟨txN.toArray⟩ : ByteArray).data.toList = txN from by simp, hN] at HN1
  unfold txN at HN1
  rw [← hW2]
  clear hW2 hb2 o2 b2 k2 HP p0 p1
  go_upto_region 4 with (go_at_call 16; refine HN1.out.mono ?_; rintro e w3 ⟨⟨v3, rfl, d3⟩, b3⟩; obtain ⟨ao3, cp3, hv3⟩ := DirsIn.shape29 d3; subst hv3)
  obtain ⟨W3, hW3⟩ : ∃ W3, W3 = w3.alloc (.cells #[.slice ao3 N.length cp3, .bool false] 24) := ⟨_, rfl⟩
  have hb3 : Below w3.heap.size w3 W3 := by rw [hW3]; exact (Below.refl _ w3).alloc (Nat.le_refl _) _
  have hs3 : w3.heap.size < W3.heap.size := by rw [hW3]; simp
  have k3 : W3.heap[w3.heap.size]? = some (.cells #[.slice ao3 N.length cp3, .bool false] 24 (0, 0)) := by rw [hW3]; exact heap_alloc_new w3 _
  have B3 : Hid (Below W2.heap.size W2 W3) := b3.trans (hb3.mono b3.size)
  have z2 := B2.out.size
  have z3 := B3.out.size
  have B13 : Hid (Below W1.heap.size W1 W3) := B2.out.trans (B3.out.mono z2)
  have B03 : Hid (Below w.heap.size w W3) := B1.out.trans (B13.out.mono B1.out.size)
  have k1' : W3.heap[w1.heap.size]? = _ := (B13.out.block _ hs1).trans K1.out
  have k2' : W3.heap[w2.heap.size]? = _ := (B3.out.block _ hs2).trans K2.out
  have DA3 := Lib.hid (D1.out.below B13.out)
  have DN3 := Lib.hid (d3.below hb3)
  have S3 := Lib.hid (S2.out.below B3.out)
  have CP : Hid (∀ W, Below W3.heap.size W3 W → W.cell? ⟨w1.heap.size, 0, none⟩ = some (.slice ao1 A.length cp1) ∧ W.cell? ⟨w1.heap.size, 1, none⟩ = some (.bool false)) := fun W hW => by
    have := (hW.block _ (by omega)).trans k1'
    exact ⟨by rw [Lib.cell_of_heap this]; rfl, by rw [Lib.cell_of_heap this]; rfl⟩
  have CN : Hid (∀ W, Below W3.heap.size W3 W → W.cell? ⟨w3.heap.size, 0, none⟩ = some (.slice ao3 N.length cp3) ∧ W.cell? ⟨w3.heap.size, 1, none⟩ = some (.bool false)) := fun W hW => by
    have := (hW.block _ (by omega)).trans k3
    exact ⟨by rw [Lib.cell_of_heap this]; rfl, by rw [Lib.cell_of_heap this]; rfl⟩
  obtain ⟨p0, p1⟩ := CP.out W3 (Below.refl _ _)
  have n0 : W3.cell? ⟨w2.heap.size, 0, none⟩ = some (.slice sa 1 sc) := by rw [Lib.cell_of_heap k2']; rfl
  have n1 : W3.cell? ⟨w2.heap.size, 1, none⟩ = some (.bool false) := by rw [Lib.cell_of_heap k2']; rfl
  have n2 : W3.cell? ⟨w2.heap.size, 2, none⟩ = some (.bool true) := by rw [Lib.cell_of_heap k2']; rfl
  have n3 : W3.cell? ⟨w2.heap.size, 3, none⟩ = some (.bool true) := by rw [Lib.cell_of_heap k2']; rfl
  obtain ⟨b, off, cap2, e1, hbl, hc⟩ := text_at S3.out (i := 0) (by decide)
  injection e1 with f1 f2 f3
  clear f2
  subst f1 f3
  have hc1 : W3.cell? ⟨b, off, none⟩ = some (.string ⟨#[97]⟩) := hc
  have hln : (1 : Nat) = 1 := rfl
  rw [← hW3]
  clear hc hln
  clear hW3 hb3 d3 b3 k3 HN1 k1' k2'
  go_wp2_with fail
  obtain ⟨W4, hW4⟩ : ∃ W4, W4 = W3.alloc (.cells #[.string ⟨#[97]⟩] 9) := ⟨_, rfl⟩
  have E4 : Hid (Below W3.heap.size W3 W4) := by rw [hW4]; exact (Below.refl _ W3).alloc (Nat.le_refl _) _
  have L4 : SliceIn W4 (.slice (some ⟨W3.heap.size, 0, none⟩) 1 1) (strCells [[97]]) := by rw [hW4]; exact owns_slice (lit_owns W3 [[97]] (by decide)) (strCells_len _)
  have nil : ∀ W : World, SliceIn W (.slice none 0 0) (strCells []) := fun W => ⟨none, 0, rfl, Nat.le_refl _, by unfold maxLen; omega, fun h => absurd rfl h⟩
  rw [← hW4]
  clear hW4
  have R1 := creates_any _ false A ⟨#[97]⟩ _ [[97]] W4 (DA3.out.below E4.out) okA.out.1 okA.out.2 L4
  rw [show (⟨#[97]⟩ : ByteArray).data.toList = [97] from rfl, G1.out] at R1
  refine R1.mono ?_
  rintro e x1 ⟨rfl, c1⟩
  have X1 : Hid (Below W3.heap.size W3 x1) := E4.out.trans (c1.mono E4.out.size)
  clear c1 R1 L4 p0 p1 hc1
  obtain ⟨p0, p1⟩ := CP.out x1 X1.out
  go_wp2_with fail
  have R1 := creates_any _ false A ⟨#[98]⟩ _ [] x1 (DA3.out.below X1.out) okA.out.1 okA.out.2 (nil x1)
  rw [show (⟨#[98]⟩ : ByteArray).data.toList = [98] from rfl, G2.out] at R1
  refine R1.mono ?_
  rintro e x2 ⟨rfl, c2⟩
  have X2 : Hid (Below W3.heap.size W3 x2) := X1.out.trans (c2.mono X1.out.size)
  clear c2 R1 p0 p1
  obtain ⟨p0, p1⟩ := CN.out x2 X2.out
  go_wp2_with fail
  have R1 := creates_any _ false N ⟨#[97]⟩ _ [] x2 (DN3.out.below X2.out) okN.out.1 okN.out.2 (nil x2)
  rw [show (⟨#[97]⟩ : ByteArray).data.toList = [97] from rfl, G3.out] at R1
  refine R1.mono ?_
  rintro e x3 ⟨rfl, c3⟩
  have X3 : Hid (Below W3.heap.size W3 x3) := X2.out.trans (c3.mono X2.out.size)
  clear c3 R1 p0 p1
  obtain ⟨p0, p1⟩ := CN.out x3 X3.out
  go_wp2_with fail
  have R1 := creates_any _ false N ⟨#[39, 110, 111, 110, 101, 39]⟩ _ [] x3 (DN3.out.below X3.out) okN.out.1 okN.out.2 (nil x3)
  rw [show (⟨#[39, 110, 111, 110, 101, 39]⟩ : ByteArray).data.toList = [39, 110, 111, 110, 101, 39] from rfl, G4.out] at R1
  refine R1.mono ?_
  rintro e x4 ⟨rfl, c4⟩
  have X4 : Hid (Below W3.heap.size W3 x4) := X3.out.trans (c4.mono X3.out.size)
  clear c4 R1 p0 p1
  go_wp2_with fail
  have X40 : Hid (Below w.heap.size w x4) := B03.out.trans (X4.out.mono B03.out.size)
  have HR1 := of_any ⟨txR.toArray⟩ m x4 (by decide) (hm.below X40.out)
  rw [show (⟨txR.toArray⟩ : ByteArray).data.toList = txR from by simp, hR] at HR1
  unfold txR at HR1
  refine HR1.mono ?_
  rintro e x5 ⟨⟨v5, rfl, d5⟩, c5⟩
  have X5 : Hid (Below w.heap.size w x5) := X40.out.trans (c5.mono X40.out.size)
  clear c5 HR1
  go_wp2_with fail
  have R1 := requires_any v5 false R x5 d5 okR.out.1 okR.out.2
  rw [G5.out] at R1
  refine R1.mono ?_
  rintro e x6 ⟨rfl, c6⟩
  have X6 : Hid (Below w.heap.size w x6) := X5.out.trans (c6.mono X5.out.size)
  clear c6 R1
  go_wp2_with fail
  go_ret
  exact ⟨rfl, X6.out⟩
end Go.Proofs.YtgaeecphohlmpabDoor
