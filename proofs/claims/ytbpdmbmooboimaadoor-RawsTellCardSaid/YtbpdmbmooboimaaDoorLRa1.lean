/- Law RawsTell. (Made by tools/gen/lra1.py.) -/
import Derived.Test.YtbpdmbmooboimaaDoorRwu
set_option linter.unusedVariables false
set_option linter.unusedSimpArgs false
namespace Go.Proofs.YtbpdmbmooboimaaDoor.R11
open Go.RowKit R9 T10

set_option maxHeartbeats 3200000 in
set_option maxRecDepth 100000 in
theorem rawsTell_law (s : ByteArray) (z m : Int) (w : World) (hs : s.size ≤ maxLen) (hz : -9223372036854775808 ≤ z) (hz2 : z ≤ 9223372036854775807) (hT : RTab w) (hm : MaxOk m w) :
    Calls Tryd.prog 3 #[.string s, .int .i64 z] w fun e w' => e = .returned (.bool true) ∧ Below w.heap.size w w' := by
  unfold maxLen at hs
  have HT := Lib.hid hT
  have HM := Lib.hid hm
  clear hT hm
  by_cases hl : 2000 < s.size
  · have hl2 : (2000 : Int) < s.size := by omega
    clear hl
    go_enter Tryd.func3, Tryd.ntmps3
    go_wp2_with fail
    refine (raw_any m _ HT.out HM.out).mono ?_
    rintro e w1 ⟨rfl, b1⟩
    have B1 : Hid (Below w.heap.size w w1) := b1
    clear b1
    go_wp2_with fail
    go_ret
    exact ⟨by exact rfl, B1.out⟩
  · have hl2 : ¬ (2000 : Int) < s.size := by omega
    obtain ⟨kA, aA, bA, NA, nA, xA, qA, fA, gA⟩ := Comment_both s z m (by omega)
    have FA := Lib.hid fA
    have GA := Lib.hid gA
    have SA := Lib.hid (fun W => tk_same kA aA bA nA xA qA W)
    unfold tkV at FA GA SA
    have iA := int_self NA
    clear fA gA
    obtain ⟨kC, aC, bC, NC, nC, xC, qC, fC, gC⟩ := Bogus_both s z m (by omega) hz hz2
    have FC := Lib.hid fC
    have GC := Lib.hid gC
    have SC := Lib.hid (fun W => tk_same kC aC bC nC xC qC W)
    unfold tkV at FC GC SC
    have iC := int_self NC
    clear fC gC
    obtain ⟨kD, aD, bD, ND, nD, xD, qD, fD, gD⟩ := Doctype_both s z m (by omega)
    have FD := Lib.hid fD
    have GD := Lib.hid gD
    have SD := Lib.hid (fun W => tk_same kD aD bD nD xD qD W)
    unfold tkV at FD GD SD
    have iD := int_self ND
    clear fD gD
    obtain ⟨xE, NE, fE, gE⟩ := CData_both s z m (by omega)
    have FE := Lib.hid fE
    have GE := Lib.hid gE
    have iE := int_self NE
    have jE := str_self xE
    clear fE gE hl
    go_enter Tryd.func3, Tryd.ntmps3
    go_wp2_with fail
    refine (FA.out _ (HM.out.below (Below.refl _ w))).mono ?_
    rintro e w1 ⟨rfl, b1⟩
    have B1 : Hid (Below w.heap.size w w1) := b1
    have hs1 : w1.heap.size ≤ w1.heap.size := Nat.le_refl _
    have T1 : Hid (TkAt w1.heap.size kA nA xA qA aA bA (w1.alloc (.cells #[.int .i64 kA, .string nA, .string xA, .slice none 0 0, .bool false, .bool false, .bool qA, .int .i64 aA, .int .i64 bA] 25))) := TkAt.new w1 _ _ _ _ _ _
    clear b1 hs1
    go_wp2_with fail
    refine (GA.out _ (HM.out.below (B1.out.alloc B1.out.size _))).mono ?_
    rintro e w2 ⟨rfl, b2⟩
    have B2 : Hid (Below w.heap.size w w2) := (B1.out.alloc B1.out.size _).trans (b2.mono (by have := B1.out.size; simp; omega))
    have T1' := Lib.hid (T1.out.up b2)
    clear T1
    have hs2 : w2.heap.size ≤ w2.heap.size := Nat.le_refl _
    have T1'a : Hid (TkAt w1.heap.size kA nA xA qA aA bA (w2.alloc (.cells #[.int .i64 kA, .string nA, .string xA, .slice none 0 0, .bool false, .bool false, .bool qA, .int .i64 aA, .int .i64 bA] 25))) := T1'.out.up ((Below.refl _ w2).alloc (Nat.le_refl _) _)
    clear T1'
    have T2 : Hid (TkAt w2.heap.size kA nA xA qA aA bA (w2.alloc (.cells #[.int .i64 kA, .string nA, .string xA, .slice none 0 0, .bool false, .bool false, .bool qA, .int .i64 aA, .int .i64 bA] 25))) := TkAt.new w2 _ _ _ _ _ _
    clear b2 hs2
    go_wp2_with fail
    refine (FC.out _ (HM.out.below (B2.out.alloc B2.out.size _))).mono ?_
    rintro e w3 ⟨rfl, b3⟩
    have B3 : Hid (Below w.heap.size w w3) := (B2.out.alloc B2.out.size _).trans (b3.mono (by have := B2.out.size; simp; omega))
    have T1'a' := Lib.hid (T1'a.out.up b3)
    clear T1'a
    have T2' := Lib.hid (T2.out.up b3)
    clear T2
    have hs3 : w3.heap.size ≤ w3.heap.size := Nat.le_refl _
    have T1'a'a : Hid (TkAt w1.heap.size kA nA xA qA aA bA (w3.alloc (.cells #[.int .i64 kC, .string nC, .string xC, .slice none 0 0, .bool false, .bool false, .bool qC, .int .i64 aC, .int .i64 bC] 25))) := T1'a'.out.up ((Below.refl _ w3).alloc (Nat.le_refl _) _)
    clear T1'a'
    have T2'a : Hid (TkAt w2.heap.size kA nA xA qA aA bA (w3.alloc (.cells #[.int .i64 kC, .string nC, .string xC, .slice none 0 0, .bool false, .bool false, .bool qC, .int .i64 aC, .int .i64 bC] 25))) := T2'.out.up ((Below.refl _ w3).alloc (Nat.le_refl _) _)
    clear T2'
    have T3 : Hid (TkAt w3.heap.size kC nC xC qC aC bC (w3.alloc (.cells #[.int .i64 kC, .string nC, .string xC, .slice none 0 0, .bool false, .bool false, .bool qC, .int .i64 aC, .int .i64 bC] 25))) := TkAt.new w3 _ _ _ _ _ _
    clear b3 hs3
    go_wp2_with fail
    refine (GC.out _ (HM.out.below (B3.out.alloc B3.out.size _))).mono ?_
    rintro e w4 ⟨rfl, b4⟩
    have B4 : Hid (Below w.heap.size w w4) := (B3.out.alloc B3.out.size _).trans (b4.mono (by have := B3.out.size; simp; omega))
    have T1'a'a' := Lib.hid (T1'a'a.out.up b4)
    clear T1'a'a
    have T2'a' := Lib.hid (T2'a.out.up b4)
    clear T2'a
    have T3' := Lib.hid (T3.out.up b4)
    clear T3
    have hs4 : w4.heap.size ≤ w4.heap.size := Nat.le_refl _
    have T1'a'a'a : Hid (TkAt w1.heap.size kA nA xA qA aA bA (w4.alloc (.cells #[.int .i64 kC, .string nC, .string xC, .slice none 0 0, .bool false, .bool false, .bool qC, .int .i64 aC, .int .i64 bC] 25))) := T1'a'a'.out.up ((Below.refl _ w4).alloc (Nat.le_refl _) _)
    clear T1'a'a'
    have T2'a'a : Hid (TkAt w2.heap.size kA nA xA qA aA bA (w4.alloc (.cells #[.int .i64 kC, .string nC, .string xC, .slice none 0 0, .bool false, .bool false, .bool qC, .int .i64 aC, .int .i64 bC] 25))) := T2'a'.out.up ((Below.refl _ w4).alloc (Nat.le_refl _) _)
    clear T2'a'
    have T3'a : Hid (TkAt w3.heap.size kC nC xC qC aC bC (w4.alloc (.cells #[.int .i64 kC, .string nC, .string xC, .slice none 0 0, .bool false, .bool false, .bool qC, .int .i64 aC, .int .i64 bC] 25))) := T3'.out.up ((Below.refl _ w4).alloc (Nat.le_refl _) _)
    clear T3'
    have T4 : Hid (TkAt w4.heap.size kC nC xC qC aC bC (w4.alloc (.cells #[.int .i64 kC, .string nC, .string xC, .slice none 0 0, .bool false, .bool false, .bool qC, .int .i64 aC, .int .i64 bC] 25))) := TkAt.new w4 _ _ _ _ _ _
    clear b4 hs4
    go_wp2_with fail
    refine (FD.out _ (HM.out.below (B4.out.alloc B4.out.size _))).mono ?_
    rintro e w5 ⟨rfl, b5⟩
    have B5 : Hid (Below w.heap.size w w5) := (B4.out.alloc B4.out.size _).trans (b5.mono (by have := B4.out.size; simp; omega))
    have T1'a'a'a' := Lib.hid (T1'a'a'a.out.up b5)
    clear T1'a'a'a
    have T2'a'a' := Lib.hid (T2'a'a.out.up b5)
    clear T2'a'a
    have T3'a' := Lib.hid (T3'a.out.up b5)
    clear T3'a
    have T4' := Lib.hid (T4.out.up b5)
    clear T4
    have hs5 : w5.heap.size ≤ w5.heap.size := Nat.le_refl _
    have T1'a'a'a'a : Hid (TkAt w1.heap.size kA nA xA qA aA bA (w5.alloc (.cells #[.int .i64 kD, .string nD, .string xD, .slice none 0 0, .bool false, .bool false, .bool qD, .int .i64 aD, .int .i64 bD] 25))) := T1'a'a'a'.out.up ((Below.refl _ w5).alloc (Nat.le_refl _) _)
    clear T1'a'a'a'
    have T2'a'a'a : Hid (TkAt w2.heap.size kA nA xA qA aA bA (w5.alloc (.cells #[.int .i64 kD, .string nD, .string xD, .slice none 0 0, .bool false, .bool false, .bool qD, .int .i64 aD, .int .i64 bD] 25))) := T2'a'a'.out.up ((Below.refl _ w5).alloc (Nat.le_refl _) _)
    clear T2'a'a'
    have T3'a'a : Hid (TkAt w3.heap.size kC nC xC qC aC bC (w5.alloc (.cells #[.int .i64 kD, .string nD, .string xD, .slice none 0 0, .bool false, .bool false, .bool qD, .int .i64 aD, .int .i64 bD] 25))) := T3'a'.out.up ((Below.refl _ w5).alloc (Nat.le_refl _) _)
    clear T3'a'
    have T4'a : Hid (TkAt w4.heap.size kC nC xC qC aC bC (w5.alloc (.cells #[.int .i64 kD, .string nD, .string xD, .slice none 0 0, .bool false, .bool false, .bool qD, .int .i64 aD, .int .i64 bD] 25))) := T4'.out.up ((Below.refl _ w5).alloc (Nat.le_refl _) _)
    clear T4'
    have T5 : Hid (TkAt w5.heap.size kD nD xD qD aD bD (w5.alloc (.cells #[.int .i64 kD, .string nD, .string xD, .slice none 0 0, .bool false, .bool false, .bool qD, .int .i64 aD, .int .i64 bD] 25))) := TkAt.new w5 _ _ _ _ _ _
    clear b5 hs5
    go_wp2_with fail
    refine (GD.out _ (HM.out.below (B5.out.alloc B5.out.size _))).mono ?_
    rintro e w6 ⟨rfl, b6⟩
    have B6 : Hid (Below w.heap.size w w6) := (B5.out.alloc B5.out.size _).trans (b6.mono (by have := B5.out.size; simp; omega))
    have T1'a'a'a'a' := Lib.hid (T1'a'a'a'a.out.up b6)
    clear T1'a'a'a'a
    have T2'a'a'a' := Lib.hid (T2'a'a'a.out.up b6)
    clear T2'a'a'a
    have T3'a'a' := Lib.hid (T3'a'a.out.up b6)
    clear T3'a'a
    have T4'a' := Lib.hid (T4'a.out.up b6)
    clear T4'a
    have T5' := Lib.hid (T5.out.up b6)
    clear T5
    have hs6 : w6.heap.size ≤ w6.heap.size := Nat.le_refl _
    have T1'a'a'a'a'a : Hid (TkAt w1.heap.size kA nA xA qA aA bA (w6.alloc (.cells #[.int .i64 kD, .string nD, .string xD, .slice none 0 0, .bool false, .bool false, .bool qD, .int .i64 aD, .int .i64 bD] 25))) := T1'a'a'a'a'.out.up ((Below.refl _ w6).alloc (Nat.le_refl _) _)
    clear T1'a'a'a'a'
    have T2'a'a'a'a : Hid (TkAt w2.heap.size kA nA xA qA aA bA (w6.alloc (.cells #[.int .i64 kD, .string nD, .string xD, .slice none 0 0, .bool false, .bool false, .bool qD, .int .i64 aD, .int .i64 bD] 25))) := T2'a'a'a'.out.up ((Below.refl _ w6).alloc (Nat.le_refl _) _)
    clear T2'a'a'a'
    have T3'a'a'a : Hid (TkAt w3.heap.size kC nC xC qC aC bC (w6.alloc (.cells #[.int .i64 kD, .string nD, .string xD, .slice none 0 0, .bool false, .bool false, .bool qD, .int .i64 aD, .int .i64 bD] 25))) := T3'a'a'.out.up ((Below.refl _ w6).alloc (Nat.le_refl _) _)
    clear T3'a'a'
    have T4'a'a : Hid (TkAt w4.heap.size kC nC xC qC aC bC (w6.alloc (.cells #[.int .i64 kD, .string nD, .string xD, .slice none 0 0, .bool false, .bool false, .bool qD, .int .i64 aD, .int .i64 bD] 25))) := T4'a'.out.up ((Below.refl _ w6).alloc (Nat.le_refl _) _)
    clear T4'a'
    have T5'a : Hid (TkAt w5.heap.size kD nD xD qD aD bD (w6.alloc (.cells #[.int .i64 kD, .string nD, .string xD, .slice none 0 0, .bool false, .bool false, .bool qD, .int .i64 aD, .int .i64 bD] 25))) := T5'.out.up ((Below.refl _ w6).alloc (Nat.le_refl _) _)
    clear T5'
    have T6 : Hid (TkAt w6.heap.size kD nD xD qD aD bD (w6.alloc (.cells #[.int .i64 kD, .string nD, .string xD, .slice none 0 0, .bool false, .bool false, .bool qD, .int .i64 aD, .int .i64 bD] 25))) := TkAt.new w6 _ _ _ _ _ _
    clear b6 hs6
    go_wp2_with fail
    refine (FE.out _ (HM.out.below (B6.out.alloc B6.out.size _))).mono ?_
    rintro e w7 ⟨rfl, b7⟩
    have B7 : Hid (Below w.heap.size w w7) := (B6.out.alloc B6.out.size _).trans (b7.mono (by have := B6.out.size; simp; omega))
    have U0_7 := Lib.hid (T1'a'a'a'a'a.out.up b7)
    clear T1'a'a'a'a'a
    have U1_7 := Lib.hid (T2'a'a'a'a.out.up b7)
    clear T2'a'a'a'a
    have U2_7 := Lib.hid (T3'a'a'a.out.up b7)
    clear T3'a'a'a
    have U3_7 := Lib.hid (T4'a'a.out.up b7)
    clear T4'a'a
    have U4_7 := Lib.hid (T5'a.out.up b7)
    clear T5'a
    have U5_7 := Lib.hid (T6.out.up b7)
    clear T6
    clear b7
    go_wp2_with fail
    refine (GE.out _ (HM.out.below B7.out)).mono ?_
    rintro e w8 ⟨rfl, b8⟩
    have B8 : Hid (Below w.heap.size w w8) := B7.out.trans (b8.mono B7.out.size)
    have U0_8 := Lib.hid (U0_7.out.up b8)
    clear U0_7
    have U1_8 := Lib.hid (U1_7.out.up b8)
    clear U1_7
    have U2_8 := Lib.hid (U2_7.out.up b8)
    clear U2_7
    have U3_8 := Lib.hid (U3_7.out.up b8)
    clear U3_7
    have U4_8 := Lib.hid (U4_7.out.up b8)
    clear U4_7
    have U5_8 := Lib.hid (U5_7.out.up b8)
    clear U5_7
    clear b8
    obtain ⟨⟨c0, c1, c2, c3, c4, c5, c6, c7, c8⟩, _⟩ := nine U0_8.out
    obtain ⟨⟨d0, d1, d2, d3, d4, d5, d6, d7, d8⟩, _⟩ := nine U1_8.out
    go_wp2_with fail
    refine (SA.out _).mono ?_
    rintro e w9 ⟨rfl, b9⟩
    have B9 : Hid (Below w.heap.size w w9) := B8.out.trans (b9.mono B8.out.size)
    have U0_9 := Lib.hid (U0_8.out.up b9)
    clear U0_8
    have U1_9 := Lib.hid (U1_8.out.up b9)
    clear U1_8
    have U2_9 := Lib.hid (U2_8.out.up b9)
    clear U2_8
    have U3_9 := Lib.hid (U3_8.out.up b9)
    clear U3_8
    have U4_9 := Lib.hid (U4_8.out.up b9)
    clear U4_8
    have U5_9 := Lib.hid (U5_8.out.up b9)
    clear U5_8
    clear b9
    clear c0 c1 c2 c3 c4 c5 c6 c7 c8 d0 d1 d2 d3 d4 d5 d6 d7 d8
    obtain ⟨⟨c0, c1, c2, c3, c4, c5, c6, c7, c8⟩, _⟩ := nine U2_9.out
    obtain ⟨⟨d0, d1, d2, d3, d4, d5, d6, d7, d8⟩, _⟩ := nine U3_9.out
    go_wp2_with fail
    refine (SC.out _).mono ?_
    rintro e w10 ⟨rfl, b10⟩
    have B10 : Hid (Below w.heap.size w w10) := B9.out.trans (b10.mono B9.out.size)
    have U0_10 := Lib.hid (U0_9.out.up b10)
    clear U0_9
    have U1_10 := Lib.hid (U1_9.out.up b10)
    clear U1_9
    have U2_10 := Lib.hid (U2_9.out.up b10)
    clear U2_9
    have U3_10 := Lib.hid (U3_9.out.up b10)
    clear U3_9
    have U4_10 := Lib.hid (U4_9.out.up b10)
    clear U4_9
    have U5_10 := Lib.hid (U5_9.out.up b10)
    clear U5_9
    clear b10
    clear c0 c1 c2 c3 c4 c5 c6 c7 c8 d0 d1 d2 d3 d4 d5 d6 d7 d8
    obtain ⟨⟨c0, c1, c2, c3, c4, c5, c6, c7, c8⟩, _⟩ := nine U4_10.out
    obtain ⟨⟨d0, d1, d2, d3, d4, d5, d6, d7, d8⟩, _⟩ := nine U5_10.out
    go_wp2_with fail
    refine (SD.out _).mono ?_
    rintro e w11 ⟨rfl, b11⟩
    have B11 : Hid (Below w.heap.size w w11) := B10.out.trans (b11.mono B10.out.size)
    have U0_11 := Lib.hid (U0_10.out.up b11)
    clear U0_10
    have U1_11 := Lib.hid (U1_10.out.up b11)
    clear U1_10
    have U2_11 := Lib.hid (U2_10.out.up b11)
    clear U2_10
    have U3_11 := Lib.hid (U3_10.out.up b11)
    clear U3_10
    have U4_11 := Lib.hid (U4_10.out.up b11)
    clear U4_10
    have U5_11 := Lib.hid (U5_10.out.up b11)
    clear U5_10
    clear b11
    clear c0 c1 c2 c3 c4 c5 c6 c7 c8 d0 d1 d2 d3 d4 d5 d6 d7 d8
    go_wp2_with fail
    refine (raw_any m _ (HT.out.below B11.out) (HM.out.below B11.out)).mono ?_
    rintro e w12 ⟨rfl, b12⟩
    have B12 : Hid (Below w.heap.size w w12) := B11.out.trans (b12.mono B11.out.size)
    have U0_12 := Lib.hid (U0_11.out.up b12)
    clear U0_11
    have U1_12 := Lib.hid (U1_11.out.up b12)
    clear U1_11
    have U2_12 := Lib.hid (U2_11.out.up b12)
    clear U2_11
    have U3_12 := Lib.hid (U3_11.out.up b12)
    clear U3_11
    have U4_12 := Lib.hid (U4_11.out.up b12)
    clear U4_11
    have U5_12 := Lib.hid (U5_11.out.up b12)
    clear U5_11
    clear b12
    go_wp2_with fail
    go_ret
    exact ⟨by exact rfl, B12.out⟩
end Go.Proofs.YtbpdmbmooboimaaDoor.R11
