/- lazaretref11: Comment, Bogus, CData. (Made by tools/gen/rw12.py.) -/
import Derived.Test.YtbpdmbmooboimaaDoorRwt
set_option linter.unusedVariables false
set_option linter.unusedSimpArgs false
namespace Go.Proofs.YtbpdmbmooboimaaDoor.R11
open Go.RowKit R9 T10


set_option maxHeartbeats 800000 in
set_option maxRecDepth 100000 in
theorem rComment_no (s : ByteArray) (z m : Int) (w : World) (hs : s.size ≤ 300000) (hm : MaxOk m w) (h : hasZ s cmF z = false) :
    Calls Tryd.prog 12 #[.string s, .int .i64 z] w fun e w' => e = .returned (.tuple #[zTok, .int .i64 0]) ∧ Below w.heap.size w w' := by
  obtain ⟨W1, hW1⟩ : ∃ W1, W1 = w.alloc (.cells #[.int .i64 0, .string ⟨#[]⟩, .string ⟨#[]⟩, .slice none 0 0, .bool false, .bool false, .bool false, .int .i64 0, .int .i64 0] 25) := ⟨_, rfl⟩
  have ht := tokW w W1 hW1
  have HT := Lib.hid ht
  have HM : Hid (∀ W, Below W1.heap.size W1 W → MaxOk m W) := fun W hb => hm.below (ht.up hb)
  have HS := Lib.hid (fun W => rstands_any s cmF z W (by omega) (by decide) (by decide))
  rw [h] at HS
  unfold cmF at HS
  have HW := Lib.hid hW1
  have HB0 : Hid (Below W1.heap.size W1 W1) := Below.refl _ _
  clear hW1 hm ht h
  go_enter Tryd.func12, Tryd.ntmps12
  go_upto_region 1 with fail
  rw [← HW.out]
  go_wp2_with fail
  refine (HS.out _).mono ?_
  rintro e w2 ⟨rfl, b2⟩
  have B2 : Hid (Below W1.heap.size W1 w2) := HB0.out.trans (b2.mono HB0.out.size)
  clear b2
  obtain ⟨⟨c0, c1, c2, c3, c4, c5, c6, c7, c8⟩, f0, f1, f2, f3, f4, f5, f6, f7, f8⟩ := nine (HT.out.at B2.out)
  go_wp2_with fail
  refine bodyPost_ret (v := .tuple #[zTok, .int .i64 0]) ?_ rfl ?_
  · rw [results_cell_tmpR rfl]
    go_simp
    rfl
  · exact ⟨rfl, below_set9 (HT.out.up B2.out) _ _ _ _ _ _ _ _ _⟩

set_option maxHeartbeats 6400000 in
set_option maxRecDepth 100000 in
theorem rComment_yes (s : ByteArray) (a : Nat) (m : Int) (w : World) (hs : s.size ≤ 300000) (hm : MaxOk m w) (h : hasZ s cmF (a : Int) = true) :
    Calls Tryd.prog 12 #[.string s, .int .i64 (a : Int)] w fun e w' => e = .returned (.tuple #[tkV 4 ⟨#[]⟩ (bytesOf (cleanR (comL (s.data.toList.drop (a + 4))).1)) false a ((a + 4 + (comL (s.data.toList.drop (a + 4))).2 : Nat) : Int), .int .i64 ((a + 4 + (comL (s.data.toList.drop (a + 4))).2 : Nat) : Int)]) ∧ Below w.heap.size w w' := by
  obtain ⟨W1, hW1⟩ : ∃ W1, W1 = w.alloc (.cells #[.int .i64 0, .string ⟨#[]⟩, .string ⟨#[]⟩, .slice none 0 0, .bool false, .bool false, .bool false, .int .i64 0, .int .i64 0] 25) := ⟨_, rfl⟩
  have ht := tokW w W1 hW1
  have HT := Lib.hid ht
  have HM : Hid (∀ W, Below W1.heap.size W1 W → MaxOk m W) := fun W hb => hm.below (ht.up hb)
  have HS := Lib.hid (fun W => rstands_any s cmF (a : Int) W (by omega) (by decide) (by decide))
  rw [h] at HS
  unfold cmF at HS
  have hla : a + 4 ≤ s.size := hasZ_le h (by decide)
  obtain ⟨A, hA⟩ : ∃ A, a + 4 = A := ⟨_, rfl⟩
  have i1 : (a : Int) + 4 = A := by omega
  have i2 : (A : Int) ≤ s.size := by omega
  obtain ⟨R, hR⟩ : ∃ R, s.extract A s.size = R := ⟨_, rfl⟩
  have hRl : R.data.toList = s.data.toList.drop A := by rw [← hR]; exact ext_tail s A
  have hRs : R.size ≤ 300000 := by rw [← hR]; simp; omega
  have hRe : R.data.toList.length = R.size := by simp
  have hAR : A + R.size ≤ s.size := by rw [← hR]; simp; omega
  rw [hA, ← hRl]
  have HF1 : Hid (∀ W, Calls Tryd.prog 39 #[.string R, .int .i64 0, .string ⟨#[45, 45, 62]⟩] W fun e w' => e = .returned (.int .i64 (fndZ R.data.toList [45, 45, 62] 0)) ∧ W = w') := fun W => rfindT_any R ⟨#[45, 45, 62]⟩ 0 W (by omega) (by decide) (by decide) (by omega)
  have HF2 : Hid (∀ W, Calls Tryd.prog 39 #[.string R, .int .i64 0, .string ⟨#[45, 45, 33, 62]⟩] W fun e w' => e = .returned (.int .i64 (fndZ R.data.toList [45, 45, 33, 62] 0)) ∧ W = w') := fun W => rfindT_any R ⟨#[45, 45, 33, 62]⟩ 0 W (by omega) (by decide) (by decide) (by omega)
  have HG1 : Hid (∀ W, Calls Tryd.prog 38 #[.string R, .int .i64 0, .string ⟨#[62]⟩] W fun e w' => e = .returned (.bool (hasL R.data.toList [62])) ∧ Below W.heap.size W w') := fun W => by
    have := rstands_any R ⟨#[62]⟩ ((0 : Nat) : Int) W (by omega) (by decide) (by decide)
    rw [hasZ_nat, List.drop_zero] at this
    exact this
  have HG2 : Hid (∀ W, Calls Tryd.prog 38 #[.string R, .int .i64 0, .string ⟨#[45, 62]⟩] W fun e w' => e = .returned (.bool (hasL R.data.toList [45, 62])) ∧ Below W.heap.size W w') := fun W => by
    have := rstands_any R ⟨#[45, 62]⟩ ((0 : Nat) : Int) W (by omega) (by decide) (by decide)
    rw [hasZ_nat, List.drop_zero] at this
    exact this
  rw [fndZ0] at HF1 HF2
  clear h hA hRl
  cases g1 : hasL R.data.toList [62] with
  | true =>
    obtain ⟨J1, hJ1⟩ : ∃ J, fndI R.data.toList [45, 45, 62] = J := ⟨_, rfl⟩
    obtain ⟨J2, hJ2⟩ : ∃ J, fndI R.data.toList [45, 45, 33, 62] = J := ⟨_, rfl⟩
    rw [hJ1] at HF1
    rw [hJ2] at HF2
    rw [g1] at HG1
    have h1R : 1 ≤ R.size := by have := has_len g1; simpa using this
    have hcom : comL R.data.toList = ([], 1) := com_gt g1
    rw [hcom]
    simp only []
    have hTl : (⟨#[]⟩ : ByteArray).data.toList = [] := rfl
    have hTs : (⟨#[]⟩ : ByteArray).size ≤ 300000 := by decide
    have HCL := Lib.hid (fun W => rclean_any (⟨#[]⟩) W (by omega))
    rw [hTl] at HCL
    obtain ⟨C, hC⟩ : ∃ C, bytesOf (cleanR ([])) = C := ⟨_, rfl⟩
    rw [hC] at HCL ⊢
    obtain ⟨M, hM⟩ : ∃ M, 1 = M := ⟨_, rfl⟩
    have hMR : M ≤ R.size := by omega
    obtain ⟨E, hE⟩ : ∃ E, A + M = E := ⟨_, rfl⟩
    have i3 : (A : Int) + 1 = E := by omega
    have i4 : (E : Int) ≤ 1000000 := by omega
    rw [hM, hE]
    clear hcom hTl hC hM hE hJ1 hJ2 g1
    have HW := Lib.hid hW1
    have HB0 : Hid (Below W1.heap.size W1 W1) := Below.refl _ _
    clear hW1 hm ht 
    go_enter Tryd.func12, Tryd.ntmps12
    go_upto_region 1 with fail
    rw [← HW.out]
    go_wp2_with fail
    refine (HS.out _).mono ?_
    rintro e w2 ⟨rfl, b2⟩
    have B2 : Hid (Below W1.heap.size W1 w2) := HB0.out.trans (b2.mono HB0.out.size)
    clear b2
    go_wp2_with fail
    refine (HF1.out _).mono ?_
    rintro e w3 ⟨rfl, rfl⟩
    go_wp2_with fail
    refine (HF2.out _).mono ?_
    rintro e w4 ⟨rfl, rfl⟩
    go_wp2_with fail
    refine (HG1.out _).mono ?_
    rintro e w5 ⟨rfl, b5⟩
    have B5 : Hid (Below W1.heap.size W1 w5) := B2.out.trans (b5.mono B2.out.size)
    clear b5
    go_wp2_with fail
    refine (HCL.out _).mono ?_
    rintro e w6 ⟨rfl, rfl⟩
    obtain ⟨⟨c0, c1, c2, c3, c4, c5, c6, c7, c8⟩, f0, f1, f2, f3, f4, f5, f6, f7, f8⟩ := nine (HT.out.at B5.out)
    go_wp2_with fail
    refine bodyPost_ret (v := .tuple #[tkV 4 ⟨#[]⟩ C false a E, .int .i64 (E : Int)]) ?_ rfl ?_
    · rw [results_cell_tmpR rfl]
      go_simp
      rfl
    · exact ⟨rfl, below_set9 (HT.out.up B5.out) _ _ _ _ _ _ _ _ _⟩
  | false =>
    rw [g1] at HG1
    cases g2 : hasL R.data.toList [45, 62] with
    | true =>
      obtain ⟨J1, hJ1⟩ : ∃ J, fndI R.data.toList [45, 45, 62] = J := ⟨_, rfl⟩
      obtain ⟨J2, hJ2⟩ : ∃ J, fndI R.data.toList [45, 45, 33, 62] = J := ⟨_, rfl⟩
      rw [hJ1] at HF1
      rw [hJ2] at HF2
      rw [g2] at HG2
      have h1R : 2 ≤ R.size := by have := has_len g2; simpa using this
      have hcom : comL R.data.toList = ([], 2) := com_dash g1 g2
      rw [hcom]
      simp only []
      have hTl : (⟨#[]⟩ : ByteArray).data.toList = [] := rfl
      have hTs : (⟨#[]⟩ : ByteArray).size ≤ 300000 := by decide
      have HCL := Lib.hid (fun W => rclean_any (⟨#[]⟩) W (by omega))
      rw [hTl] at HCL
      obtain ⟨C, hC⟩ : ∃ C, bytesOf (cleanR ([])) = C := ⟨_, rfl⟩
      rw [hC] at HCL ⊢
      obtain ⟨M, hM⟩ : ∃ M, 2 = M := ⟨_, rfl⟩
      have hMR : M ≤ R.size := by omega
      obtain ⟨E, hE⟩ : ∃ E, A + M = E := ⟨_, rfl⟩
      have i3 : (A : Int) + 2 = E := by omega
      have i4 : (E : Int) ≤ 1000000 := by omega
      rw [hM, hE]
      clear hcom hTl hC hM hE hJ1 hJ2 g1 g2
      have HW := Lib.hid hW1
      have HB0 : Hid (Below W1.heap.size W1 W1) := Below.refl _ _
      clear hW1 hm ht 
      go_enter Tryd.func12, Tryd.ntmps12
      go_upto_region 1 with fail
      rw [← HW.out]
      go_wp2_with fail
      refine (HS.out _).mono ?_
      rintro e w2 ⟨rfl, b2⟩
      have B2 : Hid (Below W1.heap.size W1 w2) := HB0.out.trans (b2.mono HB0.out.size)
      clear b2
      go_wp2_with fail
      refine (HF1.out _).mono ?_
      rintro e w3 ⟨rfl, rfl⟩
      go_wp2_with fail
      refine (HF2.out _).mono ?_
      rintro e w4 ⟨rfl, rfl⟩
      go_wp2_with fail
      refine (HG1.out _).mono ?_
      rintro e w5 ⟨rfl, b5⟩
      have B5 : Hid (Below W1.heap.size W1 w5) := B2.out.trans (b5.mono B2.out.size)
      clear b5
      go_wp2_with fail
      refine (HG2.out _).mono ?_
      rintro e w6 ⟨rfl, b6⟩
      have B6 : Hid (Below W1.heap.size W1 w6) := B5.out.trans (b6.mono B5.out.size)
      clear b6
      go_wp2_with fail
      refine (HCL.out _).mono ?_
      rintro e w7 ⟨rfl, rfl⟩
      obtain ⟨⟨c0, c1, c2, c3, c4, c5, c6, c7, c8⟩, f0, f1, f2, f3, f4, f5, f6, f7, f8⟩ := nine (HT.out.at B6.out)
      go_wp2_with fail
      refine bodyPost_ret (v := .tuple #[tkV 4 ⟨#[]⟩ C false a E, .int .i64 (E : Int)]) ?_ rfl ?_
      · rw [results_cell_tmpR rfl]
        go_simp
        rfl
      · exact ⟨rfl, below_set9 (HT.out.up B6.out) _ _ _ _ _ _ _ _ _⟩
    | false =>
      rw [g2] at HG2
      cases f1 : fnd R.data.toList [45, 45, 62] with
      | some i =>
        have hi := (fnd_some f1).2.1
        rw [hRe] at hi
        simp only [List.length_cons, List.length_nil] at hi
        rw [fndI_some f1] at HF1
        have n1 : (0 : Int) ≤ i := by omega
        have n2 : (i : Int) ≤ R.size := by omega
        cases f2 : fnd R.data.toList [45, 45, 33, 62] with
        | none =>
          rw [fndI_none f2] at HF2
          have hcom : comL R.data.toList = (R.data.toList.take i, i + 3) := com_one g1 g2 f1 (fun j hj => by rw [f2] at hj; cases hj)
          rw [hcom]
          simp only []
          have hTl : (R.extract 0 i : ByteArray).data.toList = R.data.toList.take i := ext_init R i
          have hTs : (R.extract 0 i : ByteArray).size ≤ 300000 := by simp; omega
          have HCL := Lib.hid (fun W => rclean_any (R.extract 0 i) W (by omega))
          rw [hTl] at HCL
          obtain ⟨C, hC⟩ : ∃ C, bytesOf (cleanR (R.data.toList.take i)) = C := ⟨_, rfl⟩
          rw [hC] at HCL ⊢
          obtain ⟨M, hM⟩ : ∃ M, i + 3 = M := ⟨_, rfl⟩
          have hMR : M ≤ R.size := by omega
          have i5 : (i : Int) + 3 = M := by omega
          obtain ⟨E, hE⟩ : ∃ E, A + M = E := ⟨_, rfl⟩
          have i3 : (A : Int) + M = E := by omega
          have i4 : (E : Int) ≤ 1000000 := by omega
          rw [hM, hE]
          clear hcom hTl hC hM hE g1 g2 f1 f2 hi hRe
          have HW := Lib.hid hW1
          have HB0 : Hid (Below W1.heap.size W1 W1) := Below.refl _ _
          clear hW1 hm ht 
          go_enter Tryd.func12, Tryd.ntmps12
          go_upto_region 1 with fail
          rw [← HW.out]
          go_wp2_with fail
          refine (HS.out _).mono ?_
          rintro e w2 ⟨rfl, b2⟩
          have B2 : Hid (Below W1.heap.size W1 w2) := HB0.out.trans (b2.mono HB0.out.size)
          clear b2
          go_wp2_with fail
          refine (HF1.out _).mono ?_
          rintro e w3 ⟨rfl, rfl⟩
          go_wp2_with fail
          refine (HF2.out _).mono ?_
          rintro e w4 ⟨rfl, rfl⟩
          go_wp2_with fail
          refine (HG1.out _).mono ?_
          rintro e w5 ⟨rfl, b5⟩
          have B5 : Hid (Below W1.heap.size W1 w5) := B2.out.trans (b5.mono B2.out.size)
          clear b5
          go_wp2_with fail
          refine (HG2.out _).mono ?_
          rintro e w6 ⟨rfl, b6⟩
          have B6 : Hid (Below W1.heap.size W1 w6) := B5.out.trans (b6.mono B5.out.size)
          clear b6
          go_wp2_with fail
          refine (HCL.out _).mono ?_
          rintro e w7 ⟨rfl, rfl⟩
          obtain ⟨⟨c0, c1, c2, c3, c4, c5, c6, c7, c8⟩, f0, f1, f2, f3, f4, f5, f6, f7, f8⟩ := nine (HT.out.at B6.out)
          go_wp2_with fail
          refine bodyPost_ret (v := .tuple #[tkV 4 ⟨#[]⟩ C false a E, .int .i64 (E : Int)]) ?_ rfl ?_
          · rw [results_cell_tmpR rfl]
            go_simp
            rfl
          · exact ⟨rfl, below_set9 (HT.out.up B6.out) _ _ _ _ _ _ _ _ _⟩
        | some j =>
          have hj := (fnd_some f2).2.1
          rw [hRe] at hj
          simp only [List.length_cons, List.length_nil] at hj
          rw [fndI_some f2] at HF2
          have n3 : (0 : Int) ≤ j := by omega
          have n4 : (j : Int) ≤ R.size := by omega
          have n5 : ¬ (j : Int) < 0 := by omega
          by_cases hij : i < j
          · have n6 : (i : Int) < j := by omega
            have hcom : comL R.data.toList = (R.data.toList.take i, i + 3) := com_one g1 g2 f1 (fun j2 hj2 => by rw [f2] at hj2; injection hj2 with e; omega)
            rw [hcom]
            simp only []
            have hTl : (R.extract 0 i : ByteArray).data.toList = R.data.toList.take i := ext_init R i
            have hTs : (R.extract 0 i : ByteArray).size ≤ 300000 := by simp; omega
            have HCL := Lib.hid (fun W => rclean_any (R.extract 0 i) W (by omega))
            rw [hTl] at HCL
            obtain ⟨C, hC⟩ : ∃ C, bytesOf (cleanR (R.data.toList.take i)) = C := ⟨_, rfl⟩
            rw [hC] at HCL ⊢
            obtain ⟨M, hM⟩ : ∃ M, i + 3 = M := ⟨_, rfl⟩
            have hMR : M ≤ R.size := by omega
            have i5 : (i : Int) + 3 = M := by omega
            obtain ⟨E, hE⟩ : ∃ E, A + M = E := ⟨_, rfl⟩
            have i3 : (A : Int) + M = E := by omega
            have i4 : (E : Int) ≤ 1000000 := by omega
            rw [hM, hE]
            clear hcom hTl hC hM hE g1 g2 f1 f2 hi hj hij hRe
            have HW := Lib.hid hW1
            have HB0 : Hid (Below W1.heap.size W1 W1) := Below.refl _ _
            clear hW1 hm ht 
            go_enter Tryd.func12, Tryd.ntmps12
            go_upto_region 1 with fail
            rw [← HW.out]
            go_wp2_with fail
            refine (HS.out _).mono ?_
            rintro e w2 ⟨rfl, b2⟩
            have B2 : Hid (Below W1.heap.size W1 w2) := HB0.out.trans (b2.mono HB0.out.size)
            clear b2
            go_wp2_with fail
            refine (HF1.out _).mono ?_
            rintro e w3 ⟨rfl, rfl⟩
            go_wp2_with fail
            refine (HF2.out _).mono ?_
            rintro e w4 ⟨rfl, rfl⟩
            go_wp2_with fail
            refine (HG1.out _).mono ?_
            rintro e w5 ⟨rfl, b5⟩
            have B5 : Hid (Below W1.heap.size W1 w5) := B2.out.trans (b5.mono B2.out.size)
            clear b5
            go_wp2_with fail
            refine (HG2.out _).mono ?_
            rintro e w6 ⟨rfl, b6⟩
            have B6 : Hid (Below W1.heap.size W1 w6) := B5.out.trans (b6.mono B5.out.size)
            clear b6
            go_wp2_with fail
            refine (HCL.out _).mono ?_
            rintro e w7 ⟨rfl, rfl⟩
            obtain ⟨⟨c0, c1, c2, c3, c4, c5, c6, c7, c8⟩, f0, f1, f2, f3, f4, f5, f6, f7, f8⟩ := nine (HT.out.at B6.out)
            go_wp2_with fail
            refine bodyPost_ret (v := .tuple #[tkV 4 ⟨#[]⟩ C false a E, .int .i64 (E : Int)]) ?_ rfl ?_
            · rw [results_cell_tmpR rfl]
              go_simp
              rfl
            · exact ⟨rfl, below_set9 (HT.out.up B6.out) _ _ _ _ _ _ _ _ _⟩
          · have n6 : ¬ (i : Int) < j := by omega
            have hcom : comL R.data.toList = (R.data.toList.take j, j + 4) := com_two g1 g2 f2 (fun i2 hi2 => by rw [f1] at hi2; injection hi2 with e; omega)
            rw [hcom]
            simp only []
            have hTl : (R.extract 0 j : ByteArray).data.toList = R.data.toList.take j := ext_init R j
            have hTs : (R.extract 0 j : ByteArray).size ≤ 300000 := by simp; omega
            have HCL := Lib.hid (fun W => rclean_any (R.extract 0 j) W (by omega))
            rw [hTl] at HCL
            obtain ⟨C, hC⟩ : ∃ C, bytesOf (cleanR (R.data.toList.take j)) = C := ⟨_, rfl⟩
            rw [hC] at HCL ⊢
            obtain ⟨M, hM⟩ : ∃ M, j + 4 = M := ⟨_, rfl⟩
            have hMR : M ≤ R.size := by omega
            have i5 : (j : Int) + 4 = M := by omega
            obtain ⟨E, hE⟩ : ∃ E, A + M = E := ⟨_, rfl⟩
            have i3 : (A : Int) + M = E := by omega
            have i4 : (E : Int) ≤ 1000000 := by omega
            rw [hM, hE]
            clear hcom hTl hC hM hE g1 g2 f1 f2 hi hj hij hRe
            have HW := Lib.hid hW1
            have HB0 : Hid (Below W1.heap.size W1 W1) := Below.refl _ _
            clear hW1 hm ht 
            go_enter Tryd.func12, Tryd.ntmps12
            go_upto_region 1 with fail
            rw [← HW.out]
            go_wp2_with fail
            refine (HS.out _).mono ?_
            rintro e w2 ⟨rfl, b2⟩
            have B2 : Hid (Below W1.heap.size W1 w2) := HB0.out.trans (b2.mono HB0.out.size)
            clear b2
            go_wp2_with fail
            refine (HF1.out _).mono ?_
            rintro e w3 ⟨rfl, rfl⟩
            go_wp2_with fail
            refine (HF2.out _).mono ?_
            rintro e w4 ⟨rfl, rfl⟩
            go_wp2_with fail
            refine (HG1.out _).mono ?_
            rintro e w5 ⟨rfl, b5⟩
            have B5 : Hid (Below W1.heap.size W1 w5) := B2.out.trans (b5.mono B2.out.size)
            clear b5
            go_wp2_with fail
            refine (HG2.out _).mono ?_
            rintro e w6 ⟨rfl, b6⟩
            have B6 : Hid (Below W1.heap.size W1 w6) := B5.out.trans (b6.mono B5.out.size)
            clear b6
            go_wp2_with fail
            refine (HCL.out _).mono ?_
            rintro e w7 ⟨rfl, rfl⟩
            obtain ⟨⟨c0, c1, c2, c3, c4, c5, c6, c7, c8⟩, f0, f1, f2, f3, f4, f5, f6, f7, f8⟩ := nine (HT.out.at B6.out)
            go_wp2_with fail
            refine bodyPost_ret (v := .tuple #[tkV 4 ⟨#[]⟩ C false a E, .int .i64 (E : Int)]) ?_ rfl ?_
            · rw [results_cell_tmpR rfl]
              go_simp
              rfl
            · exact ⟨rfl, below_set9 (HT.out.up B6.out) _ _ _ _ _ _ _ _ _⟩
      | none =>
        rw [fndI_none f1] at HF1
        cases f2 : fnd R.data.toList [45, 45, 33, 62] with
        | some j =>
          have hj := (fnd_some f2).2.1
          rw [hRe] at hj
          simp only [List.length_cons, List.length_nil] at hj
          rw [fndI_some f2] at HF2
          have n3 : (0 : Int) ≤ j := by omega
          have n4 : (j : Int) ≤ R.size := by omega
          have hcom : comL R.data.toList = (R.data.toList.take j, j + 4) := com_two g1 g2 f2 (fun i2 hi2 => by rw [f1] at hi2; cases hi2)
          rw [hcom]
          simp only []
          have hTl : (R.extract 0 j : ByteArray).data.toList = R.data.toList.take j := ext_init R j
          have hTs : (R.extract 0 j : ByteArray).size ≤ 300000 := by simp; omega
          have HCL := Lib.hid (fun W => rclean_any (R.extract 0 j) W (by omega))
          rw [hTl] at HCL
          obtain ⟨C, hC⟩ : ∃ C, bytesOf (cleanR (R.data.toList.take j)) = C := ⟨_, rfl⟩
          rw [hC] at HCL ⊢
          obtain ⟨M, hM⟩ : ∃ M, j + 4 = M := ⟨_, rfl⟩
          have hMR : M ≤ R.size := by omega
          have i5 : (j : Int) + 4 = M := by omega
          obtain ⟨E, hE⟩ : ∃ E, A + M = E := ⟨_, rfl⟩
          have i3 : (A : Int) + M = E := by omega
          have i4 : (E : Int) ≤ 1000000 := by omega
          rw [hM, hE]
          clear hcom hTl hC hM hE g1 g2 f1 f2 hj hRe
          have HW := Lib.hid hW1
          have HB0 : Hid (Below W1.heap.size W1 W1) := Below.refl _ _
          clear hW1 hm ht 
          go_enter Tryd.func12, Tryd.ntmps12
          go_upto_region 1 with fail
          rw [← HW.out]
          go_wp2_with fail
          refine (HS.out _).mono ?_
          rintro e w2 ⟨rfl, b2⟩
          have B2 : Hid (Below W1.heap.size W1 w2) := HB0.out.trans (b2.mono HB0.out.size)
          clear b2
          go_wp2_with fail
          refine (HF1.out _).mono ?_
          rintro e w3 ⟨rfl, rfl⟩
          go_wp2_with fail
          refine (HF2.out _).mono ?_
          rintro e w4 ⟨rfl, rfl⟩
          go_wp2_with fail
          refine (HG1.out _).mono ?_
          rintro e w5 ⟨rfl, b5⟩
          have B5 : Hid (Below W1.heap.size W1 w5) := B2.out.trans (b5.mono B2.out.size)
          clear b5
          go_wp2_with fail
          refine (HG2.out _).mono ?_
          rintro e w6 ⟨rfl, b6⟩
          have B6 : Hid (Below W1.heap.size W1 w6) := B5.out.trans (b6.mono B5.out.size)
          clear b6
          go_wp2_with fail
          refine (HCL.out _).mono ?_
          rintro e w7 ⟨rfl, rfl⟩
          obtain ⟨⟨c0, c1, c2, c3, c4, c5, c6, c7, c8⟩, f0, f1, f2, f3, f4, f5, f6, f7, f8⟩ := nine (HT.out.at B6.out)
          go_wp2_with fail
          refine bodyPost_ret (v := .tuple #[tkV 4 ⟨#[]⟩ C false a E, .int .i64 (E : Int)]) ?_ rfl ?_
          · rw [results_cell_tmpR rfl]
            go_simp
            rfl
          · exact ⟨rfl, below_set9 (HT.out.up B6.out) _ _ _ _ _ _ _ _ _⟩
        | none =>
          rw [fndI_none f2] at HF2
          have hcn := com_none g1 g2 f1 f2
          rw [hRe] at hcn
          clear g1 g2 f1 f2
          by_cases y3 : 3 ≤ R.size
          · obtain ⟨N3, hN3⟩ : ∃ N, R.size - 3 = N := ⟨_, rfl⟩
            have k3 : (R.size : Int) - 3 = N3 := by omega
            have k3a : (N3 : Int) ≤ R.size := by omega
            have k3b : (3 : Int) ≤ R.size := by omega
            obtain ⟨X3, hX3⟩ : ∃ X, R.extract N3 R.size = X := ⟨_, rfl⟩
            have q3 := suf_is R X3 [45, 45, 33] N3 (by simp; omega) hX3
            cases z3 : [45, 45, 33].isSuffixOf R.data.toList with
            | true =>
              rw [z3] at q3
              have hcom : comL R.data.toList = (R.data.toList.take N3, R.size) := by rw [hcn, if_pos z3, hN3]
              rw [hcom]
              simp only []
              have hTl : (R.extract 0 N3 : ByteArray).data.toList = R.data.toList.take N3 := ext_init R N3
              have hTs : (R.extract 0 N3 : ByteArray).size ≤ 300000 := by simp; omega
              have HCL := Lib.hid (fun W => rclean_any (R.extract 0 N3) W (by omega))
              rw [hTl] at HCL
              obtain ⟨C, hC⟩ : ∃ C, bytesOf (cleanR (R.data.toList.take N3)) = C := ⟨_, rfl⟩
              rw [hC] at HCL ⊢
              obtain ⟨M, hM⟩ : ∃ M, R.size = M := ⟨_, rfl⟩
              have hMR : M ≤ R.size := by omega
              have i5 : (R.size : Int) = M := by omega
              clear i5
              obtain ⟨E, hE⟩ : ∃ E, A + M = E := ⟨_, rfl⟩
              have i3 : (A : Int) + R.size = E := by omega
              have i4 : (E : Int) ≤ 1000000 := by omega
              rw [hM, hE]
              clear hcom hTl hC hM hE hcn hRe z3 hN3
              have HW := Lib.hid hW1
              have HB0 : Hid (Below W1.heap.size W1 W1) := Below.refl _ _
              clear hW1 hm ht 
              go_enter Tryd.func12, Tryd.ntmps12
              go_upto_region 1 with fail
              rw [← HW.out]
              go_wp2_with fail
              refine (HS.out _).mono ?_
              rintro e w2 ⟨rfl, b2⟩
              have B2 : Hid (Below W1.heap.size W1 w2) := HB0.out.trans (b2.mono HB0.out.size)
              clear b2
              go_wp2_with fail
              refine (HF1.out _).mono ?_
              rintro e w3 ⟨rfl, rfl⟩
              go_wp2_with fail
              refine (HF2.out _).mono ?_
              rintro e w4 ⟨rfl, rfl⟩
              go_wp2_with fail
              refine (HG1.out _).mono ?_
              rintro e w5 ⟨rfl, b5⟩
              have B5 : Hid (Below W1.heap.size W1 w5) := B2.out.trans (b5.mono B2.out.size)
              clear b5
              go_wp2_with fail
              refine (HG2.out _).mono ?_
              rintro e w6 ⟨rfl, b6⟩
              have B6 : Hid (Below W1.heap.size W1 w6) := B5.out.trans (b6.mono B5.out.size)
              clear b6
              go_wp2_with fail
              refine (HCL.out _).mono ?_
              rintro e w7 ⟨rfl, rfl⟩
              obtain ⟨⟨c0, c1, c2, c3, c4, c5, c6, c7, c8⟩, f0, f1, f2, f3, f4, f5, f6, f7, f8⟩ := nine (HT.out.at B6.out)
              go_wp2_with fail
              refine bodyPost_ret (v := .tuple #[tkV 4 ⟨#[]⟩ C false a E, .int .i64 (E : Int)]) ?_ rfl ?_
              · rw [results_cell_tmpR rfl]
                go_simp
                rfl
              · exact ⟨rfl, below_set9 (HT.out.up B6.out) _ _ _ _ _ _ _ _ _⟩
            | false =>
              rw [z3] at q3
              obtain ⟨N2, hN2⟩ : ∃ N, R.size - 2 = N := ⟨_, rfl⟩
              have k2 : (R.size : Int) - 2 = N2 := by omega
              have k2a : (N2 : Int) ≤ R.size := by omega
              have k2b : (2 : Int) ≤ R.size := by omega
              obtain ⟨X2, hX2⟩ : ∃ X, R.extract N2 R.size = X := ⟨_, rfl⟩
              have q2 := suf_is R X2 [45, 45] N2 (by simp; omega) hX2
              cases z2 : [45, 45].isSuffixOf R.data.toList with
              | true =>
                rw [z2] at q2
                have hcom : comL R.data.toList = (R.data.toList.take N2, R.size) := by rw [hcn, if_neg (by rw [z3]; simp), if_pos z2, hN2]
                rw [hcom]
                simp only []
                have hTl : (R.extract 0 N2 : ByteArray).data.toList = R.data.toList.take N2 := ext_init R N2
                have hTs : (R.extract 0 N2 : ByteArray).size ≤ 300000 := by simp; omega
                have HCL := Lib.hid (fun W => rclean_any (R.extract 0 N2) W (by omega))
                rw [hTl] at HCL
                obtain ⟨C, hC⟩ : ∃ C, bytesOf (cleanR (R.data.toList.take N2)) = C := ⟨_, rfl⟩
                rw [hC] at HCL ⊢
                obtain ⟨M, hM⟩ : ∃ M, R.size = M := ⟨_, rfl⟩
                have hMR : M ≤ R.size := by omega
                have i5 : (R.size : Int) = M := by omega
                clear i5
                obtain ⟨E, hE⟩ : ∃ E, A + M = E := ⟨_, rfl⟩
                have i3 : (A : Int) + R.size = E := by omega
                have i4 : (E : Int) ≤ 1000000 := by omega
                rw [hM, hE]
                clear hcom hTl hC hM hE hcn hRe z3 z2 hN3 hN2
                have HW := Lib.hid hW1
                have HB0 : Hid (Below W1.heap.size W1 W1) := Below.refl _ _
                clear hW1 hm ht 
                go_enter Tryd.func12, Tryd.ntmps12
                go_upto_region 1 with fail
                rw [← HW.out]
                go_wp2_with fail
                refine (HS.out _).mono ?_
                rintro e w2 ⟨rfl, b2⟩
                have B2 : Hid (Below W1.heap.size W1 w2) := HB0.out.trans (b2.mono HB0.out.size)
                clear b2
                go_wp2_with fail
                refine (HF1.out _).mono ?_
                rintro e w3 ⟨rfl, rfl⟩
                go_wp2_with fail
                refine (HF2.out _).mono ?_
                rintro e w4 ⟨rfl, rfl⟩
                go_wp2_with fail
                refine (HG1.out _).mono ?_
                rintro e w5 ⟨rfl, b5⟩
                have B5 : Hid (Below W1.heap.size W1 w5) := B2.out.trans (b5.mono B2.out.size)
                clear b5
                go_wp2_with fail
                refine (HG2.out _).mono ?_
                rintro e w6 ⟨rfl, b6⟩
                have B6 : Hid (Below W1.heap.size W1 w6) := B5.out.trans (b6.mono B5.out.size)
                clear b6
                go_wp2_with fail
                refine (HCL.out _).mono ?_
                rintro e w7 ⟨rfl, rfl⟩
                obtain ⟨⟨c0, c1, c2, c3, c4, c5, c6, c7, c8⟩, f0, f1, f2, f3, f4, f5, f6, f7, f8⟩ := nine (HT.out.at B6.out)
                go_wp2_with fail
                refine bodyPost_ret (v := .tuple #[tkV 4 ⟨#[]⟩ C false a E, .int .i64 (E : Int)]) ?_ rfl ?_
                · rw [results_cell_tmpR rfl]
                  go_simp
                  rfl
                · exact ⟨rfl, below_set9 (HT.out.up B6.out) _ _ _ _ _ _ _ _ _⟩
              | false =>
                rw [z2] at q2
                obtain ⟨N1, hN1⟩ : ∃ N, R.size - 1 = N := ⟨_, rfl⟩
                have k1 : (R.size : Int) - 1 = N1 := by omega
                have k1a : (N1 : Int) < R.size := by omega
                have k1n : N1 < R.size := by omega
                have k1b : (1 : Int) ≤ R.size := by omega
                have k1c : (N1 : Int) ≤ R.size := by omega
                obtain ⟨c1, hc1⟩ : ∃ c, R[N1] = c := ⟨_, rfl⟩
                have hg1 := at_get k1n
                rw [hc1] at hg1
                have q1 := suf_one R N1 c1 (by omega) hg1
                cases z1 : [45].isSuffixOf R.data.toList with
                | true =>
                  rw [z1] at q1
                  have hcom : comL R.data.toList = (R.data.toList.take N1, R.size) := by rw [hcn, if_neg (by rw [z3]; simp), if_neg (by rw [z2]; simp), if_pos z1, hN1]
                  rw [hcom]
                  simp only []
                  have hTl : (R.extract 0 N1 : ByteArray).data.toList = R.data.toList.take N1 := ext_init R N1
                  have hTs : (R.extract 0 N1 : ByteArray).size ≤ 300000 := by simp; omega
                  have HCL := Lib.hid (fun W => rclean_any (R.extract 0 N1) W (by omega))
                  rw [hTl] at HCL
                  obtain ⟨C, hC⟩ : ∃ C, bytesOf (cleanR (R.data.toList.take N1)) = C := ⟨_, rfl⟩
                  rw [hC] at HCL ⊢
                  obtain ⟨M, hM⟩ : ∃ M, R.size = M := ⟨_, rfl⟩
                  have hMR : M ≤ R.size := by omega
                  have i5 : (R.size : Int) = M := by omega
                  clear i5
                  obtain ⟨E, hE⟩ : ∃ E, A + M = E := ⟨_, rfl⟩
                  have i3 : (A : Int) + R.size = E := by omega
                  have i4 : (E : Int) ≤ 1000000 := by omega
                  rw [hM, hE]
                  clear hcom hTl hC hM hE hcn hRe z3 z2 z1 hN3 hN2 hN1 hg1 
                  have HW := Lib.hid hW1
                  have HB0 : Hid (Below W1.heap.size W1 W1) := Below.refl _ _
                  clear hW1 hm ht 
                  go_enter Tryd.func12, Tryd.ntmps12
                  go_upto_region 1 with fail
                  rw [← HW.out]
                  go_wp2_with fail
                  refine (HS.out _).mono ?_
                  rintro e w2 ⟨rfl, b2⟩
                  have B2 : Hid (Below W1.heap.size W1 w2) := HB0.out.trans (b2.mono HB0.out.size)
                  clear b2
                  go_wp2_with fail
                  refine (HF1.out _).mono ?_
                  rintro e w3 ⟨rfl, rfl⟩
                  go_wp2_with fail
                  refine (HF2.out _).mono ?_
                  rintro e w4 ⟨rfl, rfl⟩
                  go_wp2_with fail
                  refine (HG1.out _).mono ?_
                  rintro e w5 ⟨rfl, b5⟩
                  have B5 : Hid (Below W1.heap.size W1 w5) := B2.out.trans (b5.mono B2.out.size)
                  clear b5
                  go_wp2_with fail
                  refine (HG2.out _).mono ?_
                  rintro e w6 ⟨rfl, b6⟩
                  have B6 : Hid (Below W1.heap.size W1 w6) := B5.out.trans (b6.mono B5.out.size)
                  clear b6
                  go_wp2_with fail
                  refine (HCL.out _).mono ?_
                  rintro e w7 ⟨rfl, rfl⟩
                  obtain ⟨⟨c0, c1, c2, c3, c4, c5, c6, c7, c8⟩, f0, f1, f2, f3, f4, f5, f6, f7, f8⟩ := nine (HT.out.at B6.out)
                  go_wp2_with fail
                  refine bodyPost_ret (v := .tuple #[tkV 4 ⟨#[]⟩ C false a E, .int .i64 (E : Int)]) ?_ rfl ?_
                  · rw [results_cell_tmpR rfl]
                    go_simp
                    rfl
                  · exact ⟨rfl, below_set9 (HT.out.up B6.out) _ _ _ _ _ _ _ _ _⟩
                | false =>
                  rw [z1] at q1
                  have hcom : comL R.data.toList = (R.data.toList, R.size) := by rw [hcn, if_neg (by rw [z3]; simp), if_neg (by rw [z2]; simp), if_neg (by rw [z1]; simp)]
                  rw [hcom]
                  simp only []
                  have hTl : (R : ByteArray).data.toList = R.data.toList := rfl
                  have hTs : (R : ByteArray).size ≤ 300000 := by omega
                  have HCL := Lib.hid (fun W => rclean_any (R) W (by omega))
                  rw [hTl] at HCL
                  obtain ⟨C, hC⟩ : ∃ C, bytesOf (cleanR (R.data.toList)) = C := ⟨_, rfl⟩
                  rw [hC] at HCL ⊢
                  obtain ⟨M, hM⟩ : ∃ M, R.size = M := ⟨_, rfl⟩
                  have hMR : M ≤ R.size := by omega
                  have i5 : (R.size : Int) = M := by omega
                  clear i5
                  obtain ⟨E, hE⟩ : ∃ E, A + M = E := ⟨_, rfl⟩
                  have i3 : (A : Int) + R.size = E := by omega
                  have i4 : (E : Int) ≤ 1000000 := by omega
                  rw [hM, hE]
                  clear hcom hTl hC hM hE hcn hRe z1 z2 z3 hN3 hN2 hN1 hg1
                  have HW := Lib.hid hW1
                  have HB0 : Hid (Below W1.heap.size W1 W1) := Below.refl _ _
                  clear hW1 hm ht 
                  go_enter Tryd.func12, Tryd.ntmps12
                  go_upto_region 1 with fail
                  rw [← HW.out]
                  go_wp2_with fail
                  refine (HS.out _).mono ?_
                  rintro e w2 ⟨rfl, b2⟩
                  have B2 : Hid (Below W1.heap.size W1 w2) := HB0.out.trans (b2.mono HB0.out.size)
                  clear b2
                  go_wp2_with fail
                  refine (HF1.out _).mono ?_
                  rintro e w3 ⟨rfl, rfl⟩
                  go_wp2_with fail
                  refine (HF2.out _).mono ?_
                  rintro e w4 ⟨rfl, rfl⟩
                  go_wp2_with fail
                  refine (HG1.out _).mono ?_
                  rintro e w5 ⟨rfl, b5⟩
                  have B5 : Hid (Below W1.heap.size W1 w5) := B2.out.trans (b5.mono B2.out.size)
                  clear b5
                  go_wp2_with fail
                  refine (HG2.out _).mono ?_
                  rintro e w6 ⟨rfl, b6⟩
                  have B6 : Hid (Below W1.heap.size W1 w6) := B5.out.trans (b6.mono B5.out.size)
                  clear b6
                  go_wp2_with fail
                  refine (HCL.out _).mono ?_
                  rintro e w7 ⟨rfl, rfl⟩
                  obtain ⟨⟨c0, c1, c2, c3, c4, c5, c6, c7, c8⟩, f0, f1, f2, f3, f4, f5, f6, f7, f8⟩ := nine (HT.out.at B6.out)
                  go_wp2_with fail
                  refine bodyPost_ret (v := .tuple #[tkV 4 ⟨#[]⟩ C false a E, .int .i64 (E : Int)]) ?_ rfl ?_
                  · rw [results_cell_tmpR rfl]
                    go_simp
                    rfl
                  · exact ⟨rfl, below_set9 (HT.out.up B6.out) _ _ _ _ _ _ _ _ _⟩
          · have z3 : [45, 45, 33].isSuffixOf R.data.toList = false := suf_no (by rw [hRe]; simp only [List.length_cons, List.length_nil]; omega)
            have k3b : ¬ (3 : Int) ≤ R.size := by omega
            by_cases y2 : 2 ≤ R.size
            · obtain ⟨N2, hN2⟩ : ∃ N, R.size - 2 = N := ⟨_, rfl⟩
              have k2 : (R.size : Int) - 2 = N2 := by omega
              have k2a : (N2 : Int) ≤ R.size := by omega
              have k2b : (2 : Int) ≤ R.size := by omega
              obtain ⟨X2, hX2⟩ : ∃ X, R.extract N2 R.size = X := ⟨_, rfl⟩
              have q2 := suf_is R X2 [45, 45] N2 (by simp; omega) hX2
              cases z2 : [45, 45].isSuffixOf R.data.toList with
              | true =>
                rw [z2] at q2
                have hcom : comL R.data.toList = (R.data.toList.take N2, R.size) := by rw [hcn, if_neg (by rw [z3]; simp), if_pos z2, hN2]
                rw [hcom]
                simp only []
                have hTl : (R.extract 0 N2 : ByteArray).data.toList = R.data.toList.take N2 := ext_init R N2
                have hTs : (R.extract 0 N2 : ByteArray).size ≤ 300000 := by simp; omega
                have HCL := Lib.hid (fun W => rclean_any (R.extract 0 N2) W (by omega))
                rw [hTl] at HCL
                obtain ⟨C, hC⟩ : ∃ C, bytesOf (cleanR (R.data.toList.take N2)) = C := ⟨_, rfl⟩
                rw [hC] at HCL ⊢
                obtain ⟨M, hM⟩ : ∃ M, R.size = M := ⟨_, rfl⟩
                have hMR : M ≤ R.size := by omega
                have i5 : (R.size : Int) = M := by omega
                clear i5
                obtain ⟨E, hE⟩ : ∃ E, A + M = E := ⟨_, rfl⟩
                have i3 : (A : Int) + R.size = E := by omega
                have i4 : (E : Int) ≤ 1000000 := by omega
                rw [hM, hE]
                clear hcom hTl hC hM hE hcn hRe z3 z2 hN2
                have HW := Lib.hid hW1
                have HB0 : Hid (Below W1.heap.size W1 W1) := Below.refl _ _
                clear hW1 hm ht 
                go_enter Tryd.func12, Tryd.ntmps12
                go_upto_region 1 with fail
                rw [← HW.out]
                go_wp2_with fail
                refine (HS.out _).mono ?_
                rintro e w2 ⟨rfl, b2⟩
                have B2 : Hid (Below W1.heap.size W1 w2) := HB0.out.trans (b2.mono HB0.out.size)
                clear b2
                go_wp2_with fail
                refine (HF1.out _).mono ?_
                rintro e w3 ⟨rfl, rfl⟩
                go_wp2_with fail
                refine (HF2.out _).mono ?_
                rintro e w4 ⟨rfl, rfl⟩
                go_wp2_with fail
                refine (HG1.out _).mono ?_
                rintro e w5 ⟨rfl, b5⟩
                have B5 : Hid (Below W1.heap.size W1 w5) := B2.out.trans (b5.mono B2.out.size)
                clear b5
                go_wp2_with fail
                refine (HG2.out _).mono ?_
                rintro e w6 ⟨rfl, b6⟩
                have B6 : Hid (Below W1.heap.size W1 w6) := B5.out.trans (b6.mono B5.out.size)
                clear b6
                go_wp2_with fail
                refine (HCL.out _).mono ?_
                rintro e w7 ⟨rfl, rfl⟩
                obtain ⟨⟨c0, c1, c2, c3, c4, c5, c6, c7, c8⟩, f0, f1, f2, f3, f4, f5, f6, f7, f8⟩ := nine (HT.out.at B6.out)
                go_wp2_with fail
                refine bodyPost_ret (v := .tuple #[tkV 4 ⟨#[]⟩ C false a E, .int .i64 (E : Int)]) ?_ rfl ?_
                · rw [results_cell_tmpR rfl]
                  go_simp
                  rfl
                · exact ⟨rfl, below_set9 (HT.out.up B6.out) _ _ _ _ _ _ _ _ _⟩
              | false =>
                rw [z2] at q2
                obtain ⟨N1, hN1⟩ : ∃ N, R.size - 1 = N := ⟨_, rfl⟩
                have k1 : (R.size : Int) - 1 = N1 := by omega
                have k1a : (N1 : Int) < R.size := by omega
                have k1n : N1 < R.size := by omega
                have k1b : (1 : Int) ≤ R.size := by omega
                have k1c : (N1 : Int) ≤ R.size := by omega
                obtain ⟨c1, hc1⟩ : ∃ c, R[N1] = c := ⟨_, rfl⟩
                have hg1 := at_get k1n
                rw [hc1] at hg1
                have q1 := suf_one R N1 c1 (by omega) hg1
                cases z1 : [45].isSuffixOf R.data.toList with
                | true =>
                  rw [z1] at q1
                  have hcom : comL R.data.toList = (R.data.toList.take N1, R.size) := by rw [hcn, if_neg (by rw [z3]; simp), if_neg (by rw [z2]; simp), if_pos z1, hN1]
                  rw [hcom]
                  simp only []
                  have hTl : (R.extract 0 N1 : ByteArray).data.toList = R.data.toList.take N1 := ext_init R N1
                  have hTs : (R.extract 0 N1 : ByteArray).size ≤ 300000 := by simp; omega
                  have HCL := Lib.hid (fun W => rclean_any (R.extract 0 N1) W (by omega))
                  rw [hTl] at HCL
                  obtain ⟨C, hC⟩ : ∃ C, bytesOf (cleanR (R.data.toList.take N1)) = C := ⟨_, rfl⟩
                  rw [hC] at HCL ⊢
                  obtain ⟨M, hM⟩ : ∃ M, R.size = M := ⟨_, rfl⟩
                  have hMR : M ≤ R.size := by omega
                  have i5 : (R.size : Int) = M := by omega
                  clear i5
                  obtain ⟨E, hE⟩ : ∃ E, A + M = E := ⟨_, rfl⟩
                  have i3 : (A : Int) + R.size = E := by omega
                  have i4 : (E : Int) ≤ 1000000 := by omega
                  rw [hM, hE]
                  clear hcom hTl hC hM hE hcn hRe z3 z2 z1 hN2 hN1 hg1 
                  have HW := Lib.hid hW1
                  have HB0 : Hid (Below W1.heap.size W1 W1) := Below.refl _ _
                  clear hW1 hm ht 
                  go_enter Tryd.func12, Tryd.ntmps12
                  go_upto_region 1 with fail
                  rw [← HW.out]
                  go_wp2_with fail
                  refine (HS.out _).mono ?_
                  rintro e w2 ⟨rfl, b2⟩
                  have B2 : Hid (Below W1.heap.size W1 w2) := HB0.out.trans (b2.mono HB0.out.size)
                  clear b2
                  go_wp2_with fail
                  refine (HF1.out _).mono ?_
                  rintro e w3 ⟨rfl, rfl⟩
                  go_wp2_with fail
                  refine (HF2.out _).mono ?_
                  rintro e w4 ⟨rfl, rfl⟩
                  go_wp2_with fail
                  refine (HG1.out _).mono ?_
                  rintro e w5 ⟨rfl, b5⟩
                  have B5 : Hid (Below W1.heap.size W1 w5) := B2.out.trans (b5.mono B2.out.size)
                  clear b5
                  go_wp2_with fail
                  refine (HG2.out _).mono ?_
                  rintro e w6 ⟨rfl, b6⟩
                  have B6 : Hid (Below W1.heap.size W1 w6) := B5.out.trans (b6.mono B5.out.size)
                  clear b6
                  go_wp2_with fail
                  refine (HCL.out _).mono ?_
                  rintro e w7 ⟨rfl, rfl⟩
                  obtain ⟨⟨c0, c1, c2, c3, c4, c5, c6, c7, c8⟩, f0, f1, f2, f3, f4, f5, f6, f7, f8⟩ := nine (HT.out.at B6.out)
                  go_wp2_with fail
                  refine bodyPost_ret (v := .tuple #[tkV 4 ⟨#[]⟩ C false a E, .int .i64 (E : Int)]) ?_ rfl ?_
                  · rw [results_cell_tmpR rfl]
                    go_simp
                    rfl
                  · exact ⟨rfl, below_set9 (HT.out.up B6.out) _ _ _ _ _ _ _ _ _⟩
                | false =>
                  rw [z1] at q1
                  have hcom : comL R.data.toList = (R.data.toList, R.size) := by rw [hcn, if_neg (by rw [z3]; simp), if_neg (by rw [z2]; simp), if_neg (by rw [z1]; simp)]
                  rw [hcom]
                  simp only []
                  have hTl : (R : ByteArray).data.toList = R.data.toList := rfl
                  have hTs : (R : ByteArray).size ≤ 300000 := by omega
                  have HCL := Lib.hid (fun W => rclean_any (R) W (by omega))
                  rw [hTl] at HCL
                  obtain ⟨C, hC⟩ : ∃ C, bytesOf (cleanR (R.data.toList)) = C := ⟨_, rfl⟩
                  rw [hC] at HCL ⊢
                  obtain ⟨M, hM⟩ : ∃ M, R.size = M := ⟨_, rfl⟩
                  have hMR : M ≤ R.size := by omega
                  have i5 : (R.size : Int) = M := by omega
                  clear i5
                  obtain ⟨E, hE⟩ : ∃ E, A + M = E := ⟨_, rfl⟩
                  have i3 : (A : Int) + R.size = E := by omega
                  have i4 : (E : Int) ≤ 1000000 := by omega
                  rw [hM, hE]
                  clear hcom hTl hC hM hE hcn hRe z1 z2 z3 hN2 hN1 hg1
                  have HW := Lib.hid hW1
                  have HB0 : Hid (Below W1.heap.size W1 W1) := Below.refl _ _
                  clear hW1 hm ht 
                  go_enter Tryd.func12, Tryd.ntmps12
                  go_upto_region 1 with fail
                  rw [← HW.out]
                  go_wp2_with fail
                  refine (HS.out _).mono ?_
                  rintro e w2 ⟨rfl, b2⟩
                  have B2 : Hid (Below W1.heap.size W1 w2) := HB0.out.trans (b2.mono HB0.out.size)
                  clear b2
                  go_wp2_with fail
                  refine (HF1.out _).mono ?_
                  rintro e w3 ⟨rfl, rfl⟩
                  go_wp2_with fail
                  refine (HF2.out _).mono ?_
                  rintro e w4 ⟨rfl, rfl⟩
                  go_wp2_with fail
                  refine (HG1.out _).mono ?_
                  rintro e w5 ⟨rfl, b5⟩
                  have B5 : Hid (Below W1.heap.size W1 w5) := B2.out.trans (b5.mono B2.out.size)
                  clear b5
                  go_wp2_with fail
                  refine (HG2.out _).mono ?_
                  rintro e w6 ⟨rfl, b6⟩
                  have B6 : Hid (Below W1.heap.size W1 w6) := B5.out.trans (b6.mono B5.out.size)
                  clear b6
                  go_wp2_with fail
                  refine (HCL.out _).mono ?_
                  rintro e w7 ⟨rfl, rfl⟩
                  obtain ⟨⟨c0, c1, c2, c3, c4, c5, c6, c7, c8⟩, f0, f1, f2, f3, f4, f5, f6, f7, f8⟩ := nine (HT.out.at B6.out)
                  go_wp2_with fail
                  refine bodyPost_ret (v := .tuple #[tkV 4 ⟨#[]⟩ C false a E, .int .i64 (E : Int)]) ?_ rfl ?_
                  · rw [results_cell_tmpR rfl]
                    go_simp
                    rfl
                  · exact ⟨rfl, below_set9 (HT.out.up B6.out) _ _ _ _ _ _ _ _ _⟩
            · have z2 : [45, 45].isSuffixOf R.data.toList = false := suf_no (by rw [hRe]; simp only [List.length_cons, List.length_nil]; omega)
              have k2b : ¬ (2 : Int) ≤ R.size := by omega
              by_cases y1 : 1 ≤ R.size
              · obtain ⟨N1, hN1⟩ : ∃ N, R.size - 1 = N := ⟨_, rfl⟩
                have k1 : (R.size : Int) - 1 = N1 := by omega
                have k1a : (N1 : Int) < R.size := by omega
                have k1n : N1 < R.size := by omega
                have k1b : (1 : Int) ≤ R.size := by omega
                have k1c : (N1 : Int) ≤ R.size := by omega
                obtain ⟨c1, hc1⟩ : ∃ c, R[N1] = c := ⟨_, rfl⟩
                have hg1 := at_get k1n
                rw [hc1] at hg1
                have q1 := suf_one R N1 c1 (by omega) hg1
                cases z1 : [45].isSuffixOf R.data.toList with
                | true =>
                  rw [z1] at q1
                  have hcom : comL R.data.toList = (R.data.toList.take N1, R.size) := by rw [hcn, if_neg (by rw [z3]; simp), if_neg (by rw [z2]; simp), if_pos z1, hN1]
                  rw [hcom]
                  simp only []
                  have hTl : (R.extract 0 N1 : ByteArray).data.toList = R.data.toList.take N1 := ext_init R N1
                  have hTs : (R.extract 0 N1 : ByteArray).size ≤ 300000 := by simp; omega
                  have HCL := Lib.hid (fun W => rclean_any (R.extract 0 N1) W (by omega))
                  rw [hTl] at HCL
                  obtain ⟨C, hC⟩ : ∃ C, bytesOf (cleanR (R.data.toList.take N1)) = C := ⟨_, rfl⟩
                  rw [hC] at HCL ⊢
                  obtain ⟨M, hM⟩ : ∃ M, R.size = M := ⟨_, rfl⟩
                  have hMR : M ≤ R.size := by omega
                  have i5 : (R.size : Int) = M := by omega
                  clear i5
                  obtain ⟨E, hE⟩ : ∃ E, A + M = E := ⟨_, rfl⟩
                  have i3 : (A : Int) + R.size = E := by omega
                  have i4 : (E : Int) ≤ 1000000 := by omega
                  rw [hM, hE]
                  clear hcom hTl hC hM hE hcn hRe z3 z2 z1 hN1 hg1 
                  have HW := Lib.hid hW1
                  have HB0 : Hid (Below W1.heap.size W1 W1) := Below.refl _ _
                  clear hW1 hm ht 
                  go_enter Tryd.func12, Tryd.ntmps12
                  go_upto_region 1 with fail
                  rw [← HW.out]
                  go_wp2_with fail
                  refine (HS.out _).mono ?_
                  rintro e w2 ⟨rfl, b2⟩
                  have B2 : Hid (Below W1.heap.size W1 w2) := HB0.out.trans (b2.mono HB0.out.size)
                  clear b2
                  go_wp2_with fail
                  refine (HF1.out _).mono ?_
                  rintro e w3 ⟨rfl, rfl⟩
                  go_wp2_with fail
                  refine (HF2.out _).mono ?_
                  rintro e w4 ⟨rfl, rfl⟩
                  go_wp2_with fail
                  refine (HG1.out _).mono ?_
                  rintro e w5 ⟨rfl, b5⟩
                  have B5 : Hid (Below W1.heap.size W1 w5) := B2.out.trans (b5.mono B2.out.size)
                  clear b5
                  go_wp2_with fail
                  refine (HG2.out _).mono ?_
                  rintro e w6 ⟨rfl, b6⟩
                  have B6 : Hid (Below W1.heap.size W1 w6) := B5.out.trans (b6.mono B5.out.size)
                  clear b6
                  go_wp2_with fail
                  refine (HCL.out _).mono ?_
                  rintro e w7 ⟨rfl, rfl⟩
                  obtain ⟨⟨c0, c1, c2, c3, c4, c5, c6, c7, c8⟩, f0, f1, f2, f3, f4, f5, f6, f7, f8⟩ := nine (HT.out.at B6.out)
                  go_wp2_with fail
                  refine bodyPost_ret (v := .tuple #[tkV 4 ⟨#[]⟩ C false a E, .int .i64 (E : Int)]) ?_ rfl ?_
                  · rw [results_cell_tmpR rfl]
                    go_simp
                    rfl
                  · exact ⟨rfl, below_set9 (HT.out.up B6.out) _ _ _ _ _ _ _ _ _⟩
                | false =>
                  rw [z1] at q1
                  have hcom : comL R.data.toList = (R.data.toList, R.size) := by rw [hcn, if_neg (by rw [z3]; simp), if_neg (by rw [z2]; simp), if_neg (by rw [z1]; simp)]
                  rw [hcom]
                  simp only []
                  have hTl : (R : ByteArray).data.toList = R.data.toList := rfl
                  have hTs : (R : ByteArray).size ≤ 300000 := by omega
                  have HCL := Lib.hid (fun W => rclean_any (R) W (by omega))
                  rw [hTl] at HCL
                  obtain ⟨C, hC⟩ : ∃ C, bytesOf (cleanR (R.data.toList)) = C := ⟨_, rfl⟩
                  rw [hC] at HCL ⊢
                  obtain ⟨M, hM⟩ : ∃ M, R.size = M := ⟨_, rfl⟩
                  have hMR : M ≤ R.size := by omega
                  have i5 : (R.size : Int) = M := by omega
                  clear i5
                  obtain ⟨E, hE⟩ : ∃ E, A + M = E := ⟨_, rfl⟩
                  have i3 : (A : Int) + R.size = E := by omega
                  have i4 : (E : Int) ≤ 1000000 := by omega
                  rw [hM, hE]
                  clear hcom hTl hC hM hE hcn hRe z1 z2 z3 hN1 hg1
                  have HW := Lib.hid hW1
                  have HB0 : Hid (Below W1.heap.size W1 W1) := Below.refl _ _
                  clear hW1 hm ht 
                  go_enter Tryd.func12, Tryd.ntmps12
                  go_upto_region 1 with fail
                  rw [← HW.out]
                  go_wp2_with fail
                  refine (HS.out _).mono ?_
                  rintro e w2 ⟨rfl, b2⟩
                  have B2 : Hid (Below W1.heap.size W1 w2) := HB0.out.trans (b2.mono HB0.out.size)
                  clear b2
                  go_wp2_with fail
                  refine (HF1.out _).mono ?_
                  rintro e w3 ⟨rfl, rfl⟩
                  go_wp2_with fail
                  refine (HF2.out _).mono ?_
                  rintro e w4 ⟨rfl, rfl⟩
                  go_wp2_with fail
                  refine (HG1.out _).mono ?_
                  rintro e w5 ⟨rfl, b5⟩
                  have B5 : Hid (Below W1.heap.size W1 w5) := B2.out.trans (b5.mono B2.out.size)
                  clear b5
                  go_wp2_with fail
                  refine (HG2.out _).mono ?_
                  rintro e w6 ⟨rfl, b6⟩
                  have B6 : Hid (Below W1.heap.size W1 w6) := B5.out.trans (b6.mono B5.out.size)
                  clear b6
                  go_wp2_with fail
                  refine (HCL.out _).mono ?_
                  rintro e w7 ⟨rfl, rfl⟩
                  obtain ⟨⟨c0, c1, c2, c3, c4, c5, c6, c7, c8⟩, f0, f1, f2, f3, f4, f5, f6, f7, f8⟩ := nine (HT.out.at B6.out)
                  go_wp2_with fail
                  refine bodyPost_ret (v := .tuple #[tkV 4 ⟨#[]⟩ C false a E, .int .i64 (E : Int)]) ?_ rfl ?_
                  · rw [results_cell_tmpR rfl]
                    go_simp
                    rfl
                  · exact ⟨rfl, below_set9 (HT.out.up B6.out) _ _ _ _ _ _ _ _ _⟩
              · have z1 : [45].isSuffixOf R.data.toList = false := suf_no (by rw [hRe]; simp only [List.length_cons, List.length_nil]; omega)
                have k1b : ¬ (1 : Int) ≤ R.size := by omega
                have hcom : comL R.data.toList = (R.data.toList, R.size) := by rw [hcn, if_neg (by rw [z3]; simp), if_neg (by rw [z2]; simp), if_neg (by rw [z1]; simp)]
                rw [hcom]
                simp only []
                have hTl : (R : ByteArray).data.toList = R.data.toList := rfl
                have hTs : (R : ByteArray).size ≤ 300000 := by omega
                have HCL := Lib.hid (fun W => rclean_any (R) W (by omega))
                rw [hTl] at HCL
                obtain ⟨C, hC⟩ : ∃ C, bytesOf (cleanR (R.data.toList)) = C := ⟨_, rfl⟩
                rw [hC] at HCL ⊢
                obtain ⟨M, hM⟩ : ∃ M, R.size = M := ⟨_, rfl⟩
                have hMR : M ≤ R.size := by omega
                have i5 : (R.size : Int) = M := by omega
                clear i5
                obtain ⟨E, hE⟩ : ∃ E, A + M = E := ⟨_, rfl⟩
                have i3 : (A : Int) + R.size = E := by omega
                have i4 : (E : Int) ≤ 1000000 := by omega
                rw [hM, hE]
                clear hcom hTl hC hM hE hcn hRe z1 z2 z3 
                have HW := Lib.hid hW1
                have HB0 : Hid (Below W1.heap.size W1 W1) := Below.refl _ _
                clear hW1 hm ht 
                go_enter Tryd.func12, Tryd.ntmps12
                go_upto_region 1 with fail
                rw [← HW.out]
                go_wp2_with fail
                refine (HS.out _).mono ?_
                rintro e w2 ⟨rfl, b2⟩
                have B2 : Hid (Below W1.heap.size W1 w2) := HB0.out.trans (b2.mono HB0.out.size)
                clear b2
                go_wp2_with fail
                refine (HF1.out _).mono ?_
                rintro e w3 ⟨rfl, rfl⟩
                go_wp2_with fail
                refine (HF2.out _).mono ?_
                rintro e w4 ⟨rfl, rfl⟩
                go_wp2_with fail
                refine (HG1.out _).mono ?_
                rintro e w5 ⟨rfl, b5⟩
                have B5 : Hid (Below W1.heap.size W1 w5) := B2.out.trans (b5.mono B2.out.size)
                clear b5
                go_wp2_with fail
                refine (HG2.out _).mono ?_
                rintro e w6 ⟨rfl, b6⟩
                have B6 : Hid (Below W1.heap.size W1 w6) := B5.out.trans (b6.mono B5.out.size)
                clear b6
                go_wp2_with fail
                refine (HCL.out _).mono ?_
                rintro e w7 ⟨rfl, rfl⟩
                obtain ⟨⟨c0, c1, c2, c3, c4, c5, c6, c7, c8⟩, f0, f1, f2, f3, f4, f5, f6, f7, f8⟩ := nine (HT.out.at B6.out)
                go_wp2_with fail
                refine bodyPost_ret (v := .tuple #[tkV 4 ⟨#[]⟩ C false a E, .int .i64 (E : Int)]) ?_ rfl ?_
                · rw [results_cell_tmpR rfl]
                  go_simp
                  rfl
                · exact ⟨rfl, below_set9 (HT.out.up B6.out) _ _ _ _ _ _ _ _ _⟩
end Go.Proofs.YtbpdmbmooboimaaDoor.R11
