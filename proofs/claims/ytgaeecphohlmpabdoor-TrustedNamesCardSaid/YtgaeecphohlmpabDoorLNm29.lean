/- The law TrustedNames. -/
import Derived.Test.YtgaeecphohlmpabDoorLetB29
import Derived.Deep.Cut
set_option linter.unusedVariables false
namespace Go.Proofs.YtgaeecphohlmpabDoor
open Go.RowKit

def preN : List UInt8 := [116, 114, 117, 115, 116, 101, 100, 45, 116, 121, 112, 101, 115, 32]
def dupT : List UInt8 := [32, 39, 97, 108, 108, 111, 119, 45, 100, 117, 112, 108, 105, 99, 97, 116, 101, 115, 39]
/-- The policy's text as it is put together. -/
def txB (A : ByteArray) : Bool → Bool → ByteArray
  | false, false => ⟨#[116, 114, 117, 115, 116, 101, 100, 45, 116, 121, 112, 101, 115, 32]⟩ ++ A
  | true, false => ⟨#[116, 114, 117, 115, 116, 101, 100, 45, 116, 121, 112, 101, 115, 32]⟩ ++ A ++ ⟨#[32, 39, 97, 108, 108, 111, 119, 45, 100, 117, 112, 108, 105, 99, 97, 116, 101, 115, 39]⟩
  | false, true => ⟨#[116, 114, 117, 115, 116, 101, 100, 45, 116, 121, 112, 101, 115, 32]⟩ ++ A ++ ⟨#[32, 42]⟩
  | true, true => ⟨#[116, 114, 117, 115, 116, 101, 100, 45, 116, 121, 112, 101, 115, 32]⟩ ++ A ++ ⟨#[32, 39, 97, 108, 108, 111, 119, 45, 100, 117, 112, 108, 105, 99, 97, 116, 101, 115, 39]⟩ ++ ⟨#[32, 42]⟩
theorem txB_list (A : ByteArray) (z : List UInt8) (h : A.data.toList = letL z) (dup any : Bool) : (txB A dup any).data.toList = txtN (letL z) dup any := by
  cases dup <;> cases any <;> simp [txB, txtN, valsN, Lib.joinTail, tttN, dupN, ByteArray.data_append, h]
theorem of_txB (A : ByteArray) (z : List UInt8) (h : A.data.toList = letL z) (dup any : Bool) (m : Int) (w : World) (hm : MaxOk m w) :
    Calls Tryd.prog 16 #[.string (txB A dup any)] w fun e w' => (∃ v, e = .returned (.agg #[v, .bool false]) ∧ DirsIn w' v (oneL (txtN (letL z) dup any))) ∧ Below w.heap.size w w' := by
  have hl := txB_list A z h dup any
  have h1 := of_any (txB A dup any) m w (by
    have e1 : (txB A dup any).data.toList.length = (txB A dup any).size := by simp
    rw [← e1, hl]
    exact Nat.le_trans (txt_len z dup any) (by decide)) hm
  rw [hl] at h1
  exact h1

set_option maxHeartbeats 6400000 in
set_option maxRecDepth 100000 in
theorem trustedNames_law (a0 a1 : Option Addr) (c0 c1 : Nat) (z0 z1 : List UInt8) (dup any : Bool) (m : Int) (w : World) (h0 : SliceIn w (.slice a0 z0.length c0) (byteV z0)) (h1 : SliceIn w (.slice a1 z1.length c1) (byteV z1)) (hm : MaxOk m w) :
    Calls Tryd.prog 4 #[.agg #[.slice a0 z0.length c0, .slice a1 z1.length c1], .bool dup, .bool any] w fun e w' => e = .returned (.bool true) ∧ Below w.heap.size w w' := by
  obtain ⟨W1, hW1⟩ : ∃ W1, W1 = w.alloc (.cells #[.slice a0 z0.length c0, .slice a1 z1.length c1] 36) := ⟨_, rfl⟩
  have hb1 : Below w.heap.size w W1 := by rw [hW1]; exact (Below.refl _ w).alloc (Nat.le_refl _) _
  have hs1 : w.heap.size < W1.heap.size := by rw [hW1]; simp
  have k1 : W1.heap[w.heap.size]? = some (.cells #[.slice a0 z0.length c0, .slice a1 z1.length c1] 36 (0, 0)) := by rw [hW1]; exact heap_alloc_new w _
  have K1 := Lib.hid k1
  have CP : Hid (∀ W, Below W1.heap.size W1 W → W.cell? ⟨w.heap.size, 0, none⟩ = some (.slice a0 z0.length c0) ∧ W.cell? ⟨w.heap.size, 1, none⟩ = some (.slice a1 z1.length c1)) := fun W hW => by
    have := (hW.block _ hs1).trans k1
    exact ⟨by rw [Lib.cell_of_heap this]; rfl, by rw [Lib.cell_of_heap this]; rfl⟩
  obtain ⟨p0, p1⟩ := CP.out W1 (Below.refl _ _)
  have B1 := Lib.hid hb1
  obtain ⟨A, hA⟩ : ∃ A : ByteArray, (⟨(letL z0).toArray⟩ : ByteArray) = A := ⟨_, rfl⟩
  obtain ⟨Bb, hBb⟩ : ∃ A : ByteArray, (⟨(letL z1).toArray⟩ : ByteArray) = A := ⟨_, rfl⟩
  have HL0 : Hid (∀ W, Below W1.heap.size W1 W → Calls Tryd.prog 15 #[.slice a0 z0.length c0] W fun e w' => e = .returned (.string A) ∧ Below W.heap.size W w') := fun W hW => by
    rw [← hA]; exact letters_any _ z0 W ((h0.below B1.out).below (hW.mono (Nat.le_refl _)))
  have HL1 : Hid (∀ W, Below W1.heap.size W1 W → Calls Tryd.prog 15 #[.slice a1 z1.length c1] W fun e w' => e = .returned (.string Bb) ∧ Below W.heap.size W w') := fun W hW => by
    rw [← hBb]; exact letters_any _ z1 W ((h1.below B1.out).below (hW.mono (Nat.le_refl _)))
  have HA := Lib.hid hA
  have HBb := Lib.hid hBb
  clear hA hBb hb1 k1 h0 h1 hs1
  go_enter Tryd.func4, Tryd.ntmps4
  go_upto_region 1 with fail
  rw [← hW1]
  clear hW1
  go_cut [7, 8] from 11 (fun a b wc => a = .string A ∧ b = .string Bb ∧ Hid (Below W1.heap.size W1 wc))
  case first =>
    go_region_with (go_at_call 15; first
        | ((with_reducible refine (HL1.out _ ?hA).mono ?_); (case hA => exact BA.out); rintro e wb ⟨rfl, bb⟩; have BB : Hid (Below W1.heap.size W1 wb) := BA.out.trans (bb.mono BA.out.size); obtain ⟨x0, x1⟩ := CP.out wb BB.out; clear bb BA)
        | ((with_reducible refine (HL0.out _ ?hA).mono ?_); (case hA => exact BB.out); rintro e wa ⟨rfl, ba⟩; have BA : Hid (Below W1.heap.size W1 wa) := BB.out.trans (ba.mono BB.out.size); obtain ⟨x0, x1⟩ := CP.out wa BA.out; clear ba BB)
        | ((with_reducible refine (HL1.out _ ?hA).mono ?_); (case hA => exact (Below.refl _ W1).drew); rintro e wb ⟨rfl, bb⟩; have BB : Hid (Below W1.heap.size W1 wb) := ((Below.refl _ W1).drew).trans (bb.mono (by exact Nat.le_refl _)); obtain ⟨y0, y1⟩ := CP.out wb BB.out; clear bb)
        | ((with_reducible refine (HL0.out _ ?hA).mono ?_); (case hA => exact (Below.refl _ W1).drew); rintro e wa ⟨rfl, ba⟩; have BA : Hid (Below W1.heap.size W1 wa) := ((Below.refl _ W1).drew).trans (ba.mono (by exact Nat.le_refl _)); obtain ⟨y0, y1⟩ := CP.out wa BA.out; clear ba))
    all_goals
      go_wp2_with fail
      go_meet
    all_goals first
      | exact ⟨rfl, rfl, BB⟩
      | exact ⟨rfl, rfl, BA⟩
  case rest =>
    obtain ⟨rfl, rfl, HBc⟩ := hcut
    have BC : Hid (Below w.heap.size w wc) := B1.out.trans (HBc.out.mono B1.out.size)
    have hAl : A.data.toList = letL z0 := by rw [← HA.out]
    have hBl : Bb.data.toList = letL z1 := by rw [← HBb.out]
    have HOF := Lib.hid (of_txB A z0 hAl dup any m wc (hm.below BC.out))
    have HOK : Hid (OkDs (oneL (txtN (letL z0) dup any))) := oneL_ok (Nat.le_trans (Nat.succ_le_succ (txt_len z0 dup any)) (by decide))
    have HCR := Lib.hid (cre_txt z0 dup any)
    have HRQ := Lib.hid (req_txt z0 dup any)
    obtain ⟨X, hX⟩ : ∃ X, oneL (txtN (letL z0) dup any) = X := ⟨_, rfl⟩
    rw [hX] at HOF HOK HCR HRQ
    have HAL := Lib.hid hAl
    have HBL := Lib.hid hBl
    have hasz : A.size ≤ 31 := by
      have e1 : A.data.toList.length = A.size := by simp
      rw [← e1, hAl]; exact let_len z0
    have hbsz : Bb.size ≤ 31 := by
      have e1 : Bb.data.toList.length = Bb.size := by simp
      rw [← e1, hBl]; exact let_len z1
    have HMX := Lib.hid hm
    clear hX hAl hBl hm p0 p1 K1 HL0 HL1 HA HBb CP HBc
    obtain ⟨Q, hQ⟩ : ∃ Q, (letL z0 == letL z1) = Q := ⟨_, rfl⟩
    obtain ⟨T, hT⟩ : ∃ T, (letL z1 == letL z0 ++ [122]) = T := ⟨_, rfl⟩
    have HC1 : Hid (creB X (letL z0) [] = true) := by
      show _ = _
      rw [HCR.out]; simp
    have HC2 : Hid (creB X (letL z0) [[122], letL z0] = dup) := by
      show _ = _
      rw [HCR.out]; simp
    have HC3 : Hid (creB X (letL z1) [letL z0 ++ [122]] = ((dup || !T) && (any || Q))) := by
      show _ = _
      rw [HCR.out, ← hQ, ← hT]
      have e1 : ((letL z0 ++ [122]) == letL z1) = (letL z1 == letL z0 ++ [122]) := by
        rw [Bool.eq_iff_iff, beq_iff_eq, beq_iff_eq]
        exact eq_comm
      simp only [List.any_cons, List.any_nil, Bool.or_false, e1]
    have hq : (A.toList == Bb.toList) = Q := by rw [ByteArray.toList_eq, ByteArray.toList_eq, HAL.out, HBL.out, hQ]
    have ht : (Bb.toList != (A ++ ⟨#[122]⟩).toList) = !T := by
      rw [ByteArray.toList_eq, ByteArray.toList_eq, HBL.out, ByteArray.data_append, Array.toList_append, HAL.out, bne, hT]
    have ht2 : (Bb.toList == (A ++ ⟨#[122]⟩).toList) = T := by
      rw [ByteArray.toList_eq, ByteArray.toList_eq, HBL.out, ByteArray.data_append, Array.toList_append, HAL.out, hT]
    have HQT : Hid (¬ (Q = true ∧ T = true)) := by
      rintro ⟨rfl, rfl⟩
      have e1 := beq_iff_eq.1 hQ
      have e2 := beq_iff_eq.1 hT
      rw [← e1] at e2
      have := congrArg List.length e2
      simp at this
    have HQ1 := Lib.hid hq
    have HT2 := Lib.hid ht2
    have HT1 := Lib.hid ht
    have L1 : Hid (∀ W : World, SliceIn (W.alloc (.cells #[.string ⟨#[122]⟩, .string A] 9)) (.slice (some ⟨W.heap.size, 0, none⟩) 2 2) (strCells [[122], letL z0])) := fun W => by
      have := owns_slice (lit_owns W [[122], letL z0] (by simp)) (strCells_len _)
      have e : A = ⟨(letL z0).toArray⟩ := by rw [← HAL.out]
      rw [e]; exact this
    have L2 : Hid (∀ W : World, SliceIn (W.alloc (.cells #[.string (A ++ ⟨#[122]⟩)] 9)) (.slice (some ⟨W.heap.size, 0, none⟩) 1 1) (strCells [letL z0 ++ [122]])) := fun W => by
      have := owns_slice (lit_owns W [letL z0 ++ [122]] (by simp)) (strCells_len _)
      have e : A ++ ⟨#[122]⟩ = ⟨(letL z0 ++ [122]).toArray⟩ := by
        rw [← HAL.out]; exact ByteArray.ext (Array.ext' (by simp [ByteArray.data_append]))
      rw [e]; exact this
    have L3 : Hid (∀ W : World, SliceIn (W.alloc (.cells #[.string Bb] 9)) (.slice (some ⟨W.heap.size, 0, none⟩) 1 1) (strCells [letL z1])) := fun W => by
      have := owns_slice (lit_owns W [letL z1] (by simp)) (strCells_len _)
      have e : Bb = ⟨(letL z1).toArray⟩ := by rw [← HBL.out]
      rw [e]; exact this
    have nil : Hid (∀ W : World, SliceIn W (.slice none 0 0) (strCells [])) := fun W => ⟨none, 0, rfl, Nat.le_refl _, by unfold maxLen; omega, fun h => absurd rfl h⟩
    have HD0 : Hid (∀ W : World, DirsIn W (.slice none 0 0) []) := fun W => ⟨none, 0, rfl, Nat.le_refl _, by unfold maxLen; omega, fun h => absurd rfl h⟩
    clear hq ht ht2 hQ hT HCR
    cases dup <;> cases any
    all_goals
      unfold txB at HOF
      go_wp2_with fail
      refine HOF.out.mono ?_
      rintro e w2 ⟨⟨v2, rfl, d2⟩, b2⟩
      obtain ⟨ao2, cp2, hv2⟩ := DirsIn.shape29 d2
      subst hv2
      have D2 := Lib.hid d2
      have BB2 := Lib.hid b2
      clear d2 b2 HOF
      go_upto_region 8 with fail
      obtain ⟨W2, hW2⟩ : ∃ W2, W2 = w2.alloc (.cells #[.slice ao2 X.length cp2, .bool false] 24) := ⟨_, rfl⟩
      have hb2 : Below w2.heap.size w2 W2 := by rw [hW2]; exact (Below.refl _ w2).alloc (Nat.le_refl _) _
      have hs2 : w2.heap.size < W2.heap.size := by rw [hW2]; simp
      have k2 : W2.heap[w2.heap.size]? = some (.cells #[.slice ao2 X.length cp2, .bool false] 24 (0, 0)) := by rw [hW2]; exact heap_alloc_new w2 _
      have CP : Hid (∀ W, Below W2.heap.size W2 W → W.cell? ⟨w2.heap.size, 0, none⟩ = some (.slice ao2 X.length cp2) ∧ W.cell? ⟨w2.heap.size, 1, none⟩ = some (.bool false)) := fun W hW => by
        have := (hW.block _ hs2).trans k2
        exact ⟨by rw [Lib.cell_of_heap this]; rfl, by rw [Lib.cell_of_heap this]; rfl⟩
      have B2 : Hid (Below w.heap.size w W2) := BC.out.trans ((BB2.out.trans (hb2.mono BB2.out.size)).mono BC.out.size)
      have DX := Lib.hid (D2.out.below hb2)
      obtain ⟨p0, p1⟩ := CP.out W2 (Below.refl _ _)
      rw [← hW2]
      clear hW2 hb2 k2 D2 BB2
      have R1 := Lib.hid (creates_any _ false X A _ [] W2 DX.out HOK.out.1 HOK.out.2 (nil.out W2))
      rw [HAL.out, HC1.out] at R1
      go_wp2_with fail
      refine R1.out.mono ?_
      rintro e x1 ⟨rfl, c1⟩
      have X1 := Lib.hid c1
      clear c1 R1 p0 p1
      obtain ⟨p0, p1⟩ := CP.out x1 X1.out
      go_wp2_with fail
      have E4 : Hid (Below W2.heap.size W2 (x1.alloc (.cells #[.string ⟨#[122]⟩, .string A] 9))) := X1.out.alloc X1.out.size _
      have R1 := Lib.hid (creates_any _ false X A _ [[122], letL z0] _ (DX.out.below E4.out) HOK.out.1 HOK.out.2 (L1.out x1))
      rw [HAL.out, HC2.out] at R1
      refine R1.out.mono ?_
      rintro e x2 ⟨rfl, c2⟩
      have X2 : Hid (Below W2.heap.size W2 x2) := E4.out.trans (c2.mono E4.out.size)
      clear c2 R1 E4 X1 p0 p1
      obtain ⟨p0, p1⟩ := CP.out x2 X2.out
      go_wp2_with fail
      have E5 : Hid (Below W2.heap.size W2 (x2.alloc (.cells #[.string (A ++ ⟨#[122]⟩)] 9))) := X2.out.alloc X2.out.size _
      have R1 := Lib.hid (creates_any _ false X Bb _ [letL z0 ++ [122]] _ (DX.out.below E5.out) HOK.out.1 HOK.out.2 (L2.out x2))
      rw [HBL.out, HC3.out] at R1
      refine R1.out.mono ?_
      rintro e x3 ⟨rfl, c3⟩
      have X3 : Hid (Below W2.heap.size W2 x3) := E5.out.trans (c3.mono E5.out.size)
      clear c3 R1 E5 X2 p0 p1
      have q1 := HQ1.out
      have t1 := HT1.out
      have t2 := HT2.out
      cases Q <;> cases T
      case true.true => exact absurd ⟨rfl, rfl⟩ HQT.out
      all_goals
        simp only [Bool.not_true, Bool.not_false] at t1
        have BX : Hid (Below W2.heap.size W2 (x3.alloc (.cells #[.string Bb] 9))) := X3.out.alloc X3.out.size _
        have R1 := Lib.hid (creates_any (.slice none 0 0) false [] Bb _ [letL z1] _ (HD0.out (x3.alloc (.cells #[.string Bb] 9))) (by decide) (by simp) (L3.out x3))
        rw [cre_none] at R1
        go_wp2_with fail
        refine R1.out.mono ?_
        rintro e x4 ⟨rfl, c4⟩
        have X4 : Hid (Below W2.heap.size W2 x4) := BX.out.trans (c4.mono BX.out.size)
        clear c4 R1 BX X3
        obtain ⟨p0, p1⟩ := CP.out x4 X4.out
        have R1 := Lib.hid (requires_any _ false X x4 (DX.out.below X4.out) HOK.out.1 HOK.out.2)
        rw [HRQ.out] at R1
        clear q1 t1 t2
        go_wp2_with fail
        refine R1.out.mono ?_
        rintro e x5 ⟨rfl, c5⟩
        have X5 : Hid (Below W2.heap.size W2 x5) := X4.out.trans (c5.mono X4.out.size)
        clear c5 R1 X4 p0 p1
        have X50 : Hid (Below w.heap.size w x5) := B2.out.trans (X5.out.mono B2.out.size)
        have R1 := Lib.hid (types_any m x5 (HMX.out.below X50.out))
        go_wp2_with fail
        refine R1.out.mono ?_
        rintro e x6 ⟨rfl, c6⟩
        have X6 : Hid (Below w.heap.size w x6) := X50.out.trans (c6.mono X50.out.size)
        clear c6 R1
        go_wp2_with fail
        go_ret
        exact ⟨by exact rfl, X6.out⟩
end Go.Proofs.YtgaeecphohlmpabDoor
