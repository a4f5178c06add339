/- raws.Raw, lazaretref11.Raw. -/
import Derived.Test.YtbpdmbmooboimaaDoorRws
import Derived.Test.YtbpdmbmooboimaaDoorRt4
set_option linter.unusedVariables false
set_option linter.unusedSimpArgs false
namespace Go.Proofs.YtbpdmbmooboimaaDoor.R11
open Go.RowKit R9 T10

theorem ba_ext1 {A B : ByteArray} (h : A.data.toList = B.data.toList) : A = B := by
  cases A; cases B
  congr 1
  exact Array.toList_inj.1 h
theorem Raw_no (s nm : ByteArray) (z st : Int) (w : World) (hs : s.size ≤ 300000) (h : z < 0 ∨ (s.size : Int) < z ∨ (st ≠ 1 ∧ st ≠ 2 ∧ st ≠ 3 ∧ st ≠ 4)) :
    Calls Tryd.prog 20 #[.string s, .int .i64 z, .int .i64 st, .string nm] w fun e w' => e = .returned (.tuple #[.string ⟨#[]⟩, .int .i64 z]) ∧ Below w.heap.size w w' := by
  by_cases h0 : z < 0
  · clear h
    go_enter Tryd.func20, Tryd.ntmps20
    go_wp2_with fail
    go_ret2
    exact ⟨rfl, Below.refl _ _⟩
  · by_cases h1 : (s.size : Int) < z
    · clear h
      go_enter Tryd.func20, Tryd.ntmps20
      go_wp2_with fail
      go_ret2
      exact ⟨rfl, Below.refl _ _⟩
    · have h2 := (h.resolve_left h0).resolve_left h1
      have t1 : (st == 1) = false := by simpa using h2.1
      have t2 : (st == 2) = false := by simpa using h2.2.1
      have t3 : (st == 3) = false := by simpa using h2.2.2.1
      have t4 : (st == 4) = false := by simpa using h2.2.2.2
      clear h h2
      go_enter Tryd.func20, Tryd.ntmps20
      go_wp2_with fail
      go_ret2
      exact ⟨rfl, Below.refl _ _⟩
set_option maxHeartbeats 1600000 in
theorem Raw_any (s nm : ByteArray) (a st : Nat) (m : Int) (w : World) (hs : s.size ≤ 5000) (hn : nm.size ≤ 1000) (hT : RTab w) (hm : MaxOk m w) (ha : a ≤ s.size) (hst : 1 ≤ st ∧ st ≤ 4) :
    Calls Tryd.prog 20 #[.string s, .int .i64 (a : Int), .int .i64 (st : Int), .string nm] w fun e w' => e = .returned (.tuple #[.string (bytesOf (rawT (s.data.toList.drop a) st nm.data.toList)), .int .i64 ((a + rawN (s.data.toList.drop a) st nm.data.toList : Nat) : Int)]) ∧ Below w.heap.size w w' := by
  have hle := rawN_le (s.data.toList.drop a) st nm.data.toList
  rw [drop_size] at hle
  unfold rawT
  obtain ⟨n, hn0⟩ : ∃ n, rawN (s.data.toList.drop a) st nm.data.toList = n := ⟨_, rfl⟩
  rw [hn0] at hle ⊢
  obtain ⟨P, hP⟩ : ∃ P, a + n = P := ⟨_, rfl⟩
  rw [hP]
  have i0 : ¬ (a : Int) < 0 := by omega
  have i1 : ¬ (s.size : Int) < a := by omega
  have i2 : (a : Int) ≤ P := by omega
  have i3 : (P : Int) ≤ s.size := by omega
  obtain ⟨X, hX⟩ : ∃ X, s.extract a P = X := ⟨_, rfl⟩
  have hXl : X.data.toList = (s.data.toList.drop a).take n := by rw [← hX, ext_toList, ← hP, Nat.add_sub_cancel_left]
  have hXs : X.size ≤ 5000 := by rw [← hX]; simp; omega
  have HCL := Lib.hid (fun W (h : MaxOk m W) => clean_any X m W (by omega) h)
  have HRS := Lib.hid (fun W (h1 : RTab W) (h : MaxOk m W) => resolved_any X m W h1 h hXs)
  rw [hXl] at HCL HRS
  have HT := Lib.hid hT
  have HM := Lib.hid hm
  have HE := Lib.hid (fun W => endOf_any s nm a W (by omega) hn ha)
  have HSE := Lib.hid (fun W => scriptEnd_any s nm a W (by omega) hn ha)
  have hcase : st = 1 ∨ st = 2 ∨ st = 3 ∨ st = 4 := by omega
  rcases hcase with rfl | rfl | rfl | rfl
  · have hr : endN nm.data.toList (s.data.toList.drop a) = n := hn0
    rw [hr, hP] at HE
    simp only [if_true]
    clear hr hn0 hP hXl hT hm
    go_enter Tryd.func20, Tryd.ntmps20
    go_wp2_with fail
    refine (HE.out _).mono ?_
    rintro e w1 ⟨rfl, b1⟩
    have B1 : Hid (Below w.heap.size w w1) := b1
    clear b1
    go_wp2_with fail
    refine (HRS.out _ (HT.out.below B1.out) (HM.out.below B1.out)).mono ?_
    rintro e w2 ⟨rfl, b2⟩
    have B2 : Hid (Below w.heap.size w w2) := B1.out.trans (b2.mono B1.out.size)
    clear b2
    go_wp2_with fail
    go_ret2
    exact ⟨rfl, B2.out⟩
  · have hr : endN nm.data.toList (s.data.toList.drop a) = n := hn0
    rw [hr, hP] at HE
    simp only [show ¬ ((2 : Nat) = 1) by omega, if_false]
    clear hr hn0 hP hXl hT hm
    go_enter Tryd.func20, Tryd.ntmps20
    go_wp2_with fail
    refine (HE.out _).mono ?_
    rintro e w1 ⟨rfl, b1⟩
    have B1 : Hid (Below w.heap.size w w1) := b1
    clear b1
    go_wp2_with fail
    refine (HCL.out _ (HM.out.below B1.out)).mono ?_
    rintro e w2 ⟨rfl, b2⟩
    have B2 : Hid (Below w.heap.size w w2) := B1.out.trans (b2.mono B1.out.size)
    clear b2
    go_wp2_with fail
    go_ret2
    exact ⟨rfl, B2.out⟩
  · have hr : scan nm.data.toList 0 (s.data.toList.drop a) = n := hn0
    rw [hr, hP] at HSE
    simp only [show ¬ ((3 : Nat) = 1) by omega, if_false]
    clear hr hn0 hP hXl hT hm
    go_enter Tryd.func20, Tryd.ntmps20
    go_wp2_with fail
    refine (HSE.out _).mono ?_
    rintro e w1 ⟨rfl, b1⟩
    have B1 : Hid (Below w.heap.size w w1) := b1
    clear b1
    go_wp2_with fail
    refine (HCL.out _ (HM.out.below B1.out)).mono ?_
    rintro e w2 ⟨rfl, b2⟩
    have B2 : Hid (Below w.heap.size w w2) := B1.out.trans (b2.mono B1.out.size)
    clear b2
    go_wp2_with fail
    go_ret2
    exact ⟨rfl, B2.out⟩
  · have hr : (s.data.toList.drop a).length = n := hn0
    have hPs : P = s.size := by rw [drop_size] at hr; omega
    subst hPs
    simp only [show ¬ ((4 : Nat) = 1) by omega, if_false]
    clear hr hn0 hP hXl hT hm
    go_enter Tryd.func20, Tryd.ntmps20
    go_wp2_with fail
    refine (HCL.out _ (HM.out.below (Below.refl _ _))).mono ?_
    rintro e w1 ⟨rfl, b1⟩
    have B1 : Hid (Below w.heap.size w w1) := b1
    clear b1
    go_wp2_with fail
    go_ret2
    exact ⟨rfl, B1.out⟩
theorem rRaw_no (s nm : ByteArray) (z st : Int) (w : World) (hs : s.size ≤ 300000) (h : z < 0 ∨ (s.size : Int) < z ∨ (st ≠ 1 ∧ st ≠ 2 ∧ st ≠ 3 ∧ st ≠ 4)) :
    Calls Tryd.prog 21 #[.string s, .int .i64 z, .int .i64 st, .string nm] w fun e w' => e = .returned (.tuple #[.string ⟨#[]⟩, .int .i64 z]) ∧ Below w.heap.size w w' := by
  by_cases h0 : z < 0
  · clear h
    go_enter Tryd.func21, Tryd.ntmps21
    go_wp2_with fail
    go_ret2
    exact ⟨rfl, Below.refl _ _⟩
  · by_cases h1 : (s.size : Int) < z
    · clear h
      go_enter Tryd.func21, Tryd.ntmps21
      go_wp2_with fail
      go_ret2
      exact ⟨rfl, Below.refl _ _⟩
    · have h2 := (h.resolve_left h0).resolve_left h1
      have t1 : (st != 1) = true := by simpa using h2.1
      have t2 : (st != 2) = true := by simpa using h2.2.1
      have t3 : (st != 3) = true := by simpa using h2.2.2.1
      have t4 : (st == 4) = false := by simpa using h2.2.2.2
      clear h h2
      go_enter Tryd.func21, Tryd.ntmps21
      go_wp2_with fail
      go_ret2
      exact ⟨rfl, Below.refl _ _⟩
set_option maxHeartbeats 3200000 in
set_option maxRecDepth 100000 in
theorem rRaw_any (s nm : ByteArray) (a st : Nat) (w : World) (hs : s.size ≤ 5000) (hn : nm.size ≤ 1000) (ha : a ≤ s.size) (hst : 1 ≤ st ∧ st ≤ 4) :
    Calls Tryd.prog 21 #[.string s, .int .i64 (a : Int), .int .i64 (st : Int), .string nm] w fun e w' => e = .returned (.tuple #[.string (bytesOf (rawT (s.data.toList.drop a) st nm.data.toList)), .int .i64 ((a + rawN (s.data.toList.drop a) st nm.data.toList : Nat) : Int)]) ∧ Below w.heap.size w w' := by
  have hle := rawN_le (s.data.toList.drop a) st nm.data.toList
  rw [drop_size] at hle
  unfold rawT
  obtain ⟨n, hn0⟩ : ∃ n, rawN (s.data.toList.drop a) st nm.data.toList = n := ⟨_, rfl⟩
  rw [hn0] at hle ⊢
  obtain ⟨P, hP⟩ : ∃ P, a + n = P := ⟨_, rfl⟩
  rw [hP]
  have i0 : ¬ (a : Int) < 0 := by omega
  have i1 : ¬ (s.size : Int) < a := by omega
  have i2 : (a : Int) ≤ P := by omega
  have i3 : (P : Int) ≤ s.size := by omega
  have i4 : (a : Int) ≤ s.size := by omega
  obtain ⟨X, hX⟩ : ∃ X, s.extract a P = X := ⟨_, rfl⟩
  have hXl : X.data.toList = (s.data.toList.drop a).take n := by rw [← hX, ext_toList, ← hP, Nat.add_sub_cancel_left]
  have hXs : X.size ≤ 5000 := by rw [← hX]; simp; omega
  have HCL := Lib.hid (fun W => rclean_any X W (by omega))
  rw [hXl] at HCL
  have HU1 := Lib.hid (fun W => until_any s nm false a W (by omega) hn ha)
  have HU2 := Lib.hid (fun W => until_any s nm true a W (by omega) hn ha)
  rw [runt_plain _ _ _ _ (by omega)] at HU1
  rw [until_script] at HU2
  have hcase : st = 1 ∨ st = 2 ∨ st = 3 ∨ st = 4 := by omega
  rcases hcase with rfl | rfl | rfl | rfl
  · have hr : endN nm.data.toList (s.data.toList.drop a) = n := hn0
    rw [hr, hP] at HU1
    simp only [if_true]
    obtain ⟨Q, hQ⟩ : ∃ Q, s.extract 0 P = Q := ⟨_, rfl⟩
    have hQl : Q.data.toList = s.data.toList.take P := by rw [← hQ]; exact ext_init s P
    have hQs : Q.size = P := by rw [← hQ]; simp; omega
    have hQd : Q.data.toList.drop a = (s.data.toList.drop a).take n := by
      rw [hQl, List.drop_take]
      congr 1
      omega
    rw [← hQd]
    obtain ⟨Z, hZ⟩ : ∃ Z, resL (Q.data.toList.drop a) = Z := ⟨_, rfl⟩
    rw [hZ]
    have HZ0 : Hid (([] : List UInt8) ++ resL (Q.data.toList.drop a) = Z) := hZ
    have HQL := Lib.hid hQl
    have HQS := Lib.hid hQs
    have j1 : (0 : Int) ≤ P := by omega
    clear hr hn0 hP hXl hZ hQd hQl hQs HCL
    go_enter Tryd.func21, Tryd.ntmps21
    go_wp2_with fail
    refine (HU1.out _).mono ?_
    rintro e w1 ⟨rfl, b1⟩
    have B1 : Hid (Below w.heap.size w w1) := b1
    clear b1
    go_wp2_with fail
    go_loopw [11, 12] (fun v i wr => ∃ (k : Nat) (T : ByteArray), a ≤ k ∧ k ≤ P ∧ T.size ≤ 4 * (k - a) ∧ i = .int .i64 k ∧ v = .string T ∧ Hid (T.data.toList ++ resL (Q.data.toList.drop k) = Z) ∧ Hid (Below w.heap.size w wr)) (fun _ i _ => P - (intOf i).toNat)
    case atStart => exact ⟨a, ⟨#[]⟩, Nat.le_refl _, by omega, Nat.zero_le _, rfl, rfl, HZ0, B1⟩
    case round =>
      obtain ⟨k, T, hk1, hk2, hTs, rfl, rfl, HZ, HB⟩ := hrel
      by_cases hlt : k < P
      · have hki : (k : Int) < P := by omega
        have hks : k < s.size := by omega
        have hkQ : k < Q.size := by have := HQS.out; omega
        have HFI := Lib.hid (fun W => rfind_in Q k false W hkQ (by have := HQS.out; omega))
        have hg := at_get hkQ
        obtain ⟨c, hc⟩ : ∃ c, Q[k] = c := ⟨_, rfl⟩
        rw [hc] at hg
        cases hf : findS (Q.data.toList.drop k) false with
        | some x =>
          obtain ⟨ch, j⟩ := x
          have hj := find_bounds hf
          rw [drop_size] at hj
          have hv := res_hit hf
          have he := enc_len ch
          have e1 : ret3 k (some (ch, j)) = .tuple #[.string (Utf8.encode ch), .int .i64 ((k + j : Nat) : Int), .bool true] := rfl
          rw [hf, e1] at HFI
          clear e1
          obtain ⟨V, hV⟩ : ∃ V, Utf8.encode ch = V := ⟨_, rfl⟩
          rw [hV] at HFI hv he
          obtain ⟨J, hJ⟩ : ∃ J, k + j = J := ⟨_, rfl⟩
          rw [hJ] at HFI hv
          have HV := Lib.hid hv
          have hVs : V.size ≤ 4 := by simpa using he
          have hJ2 : k + 3 ≤ J := by omega
          have hJs : J ≤ P := by have := HQS.out; omega
          have hz : (T ++ V).size ≤ 4 * (J - a) := by rw [ByteArray.size_append]; omega
          have HN : Hid ((T ++ V).data.toList ++ resL (Q.data.toList.drop J) = Z) := by
            show _ = _
            rw [app_data, List.append_assoc, ← HV.out]
            exact HZ.out
          clear hf hj hv hV hg he hJ hc
          go_wp2_with fail
          refine (HFI.out _).mono ?_
          rintro e w1 ⟨rfl, b1⟩
          go_wp2_with fail
          go_roundw
          case rel => exact ⟨J, _, by omega, hJs, hz, rfl, rfl, HN.out, HB.out.trans (b1.mono HB.out.size)⟩
          case measure => simp [intOf]; omega
        | none =>
          have hv := res_miss hg hf
          have e1 : ret3 k none = .tuple #[.string ⟨#[]⟩, .int .i64 0, .bool false] := rfl
          rw [hf, e1] at HFI
          clear e1
          have HV := Lib.hid hv
          obtain ⟨J, hJ⟩ : ∃ J, k + 1 = J := ⟨_, rfl⟩
          have hJi : (k : Int) + 1 = J := by omega
          have hJs : (J : Int) ≤ s.size := by omega
          have hkJ : (k : Int) ≤ J := by omega
          obtain ⟨Y, hY⟩ : ∃ Y, s.extract k J = Y := ⟨_, rfl⟩
          have hgs : s.data.toList[k]? = some c := by
            have h1 := hg
            rw [HQL.out, List.getElem?_take, if_pos hlt] at h1
            exact h1
          have hYl : Y.data.toList = [c] := by rw [← hY]; exact one_byte' s k J c hJ hgs
          have hYs : Y.size = 1 := by have := congrArg List.length hYl; simpa using this
          have HCL := Lib.hid (fun W => rclean_any Y W (by omega))
          rw [hYl, clean_one] at HCL
          obtain ⟨V, hV⟩ : ∃ V, bytesOf (cleanC c) = V := ⟨_, rfl⟩
          have hVl : V.data.toList = cleanC c := by rw [← hV]; exact bytesOf_data _
          have hVs : V.size ≤ 3 := by rw [← hV, bytesOf_size]; exact (cleanC_len c).1
          rw [hV] at HCL
          rw [hJ] at HV
          have hz : (T ++ V).size ≤ 4 * (J - a) := by rw [ByteArray.size_append]; omega
          have HN : Hid ((T ++ V).data.toList ++ resL (Q.data.toList.drop J) = Z) := by
            show _ = _
            rw [app_data, List.append_assoc, hVl, ← HV.out]
            exact HZ.out
          have HJ := Lib.hid hJ
          clear hf hv hg hgs hYl hYs hV hVl hJ hc
          go_wp2_with fail
          refine (HFI.out _).mono ?_
          rintro e w1 ⟨rfl, b1⟩
          go_wp2_with fail
          refine (HCL.out _).mono ?_
          rintro e w2 ⟨rfl, rfl⟩
          go_wp2_with fail
          go_roundw
          case rel => exact ⟨J, _, by have := HJ.out; omega, by have := HJ.out; omega, hz, by have := HJ.out; go_num, rfl, HN.out, HB.out.trans (b1.mono HB.out.size)⟩
          case measure => simp [intOf]; have := HJ.out; omega
      · have hki : ¬ (k : Int) < P := by omega
        have HR : Hid (T = bytesOf Z) := by
          show _ = _
          apply ba_ext1
          rw [bytesOf_data, ← HZ.out, List.drop_of_length_le (by have := HQS.out; simp; omega)]
          simp [resL, resF]
        clear hlt
        go_wp2_with fail
        go_ret2
        exact ⟨by rw [HR.out]; rfl, HB.out⟩
  · have hr : endN nm.data.toList (s.data.toList.drop a) = n := hn0
    rw [hr, hP] at HU1
    simp only [show ¬ ((2 : Nat) = 1) by omega, if_false]
    clear hr hn0 hP hXl
    go_enter Tryd.func21, Tryd.ntmps21
    go_wp2_with fail
    refine (HU1.out _).mono ?_
    rintro e w1 ⟨rfl, b1⟩
    have B1 : Hid (Below w.heap.size w w1) := b1
    clear b1
    go_wp2_with fail
    refine (HCL.out _).mono ?_
    rintro e w2 ⟨rfl, rfl⟩
    go_wp2_with fail
    go_ret2
    exact ⟨rfl, B1.out⟩
  · have hr : scan nm.data.toList 0 (s.data.toList.drop a) = n := hn0
    rw [hr, hP] at HU2
    simp only [show ¬ ((3 : Nat) = 1) by omega, if_false]
    clear hr hn0 hP hXl
    go_enter Tryd.func21, Tryd.ntmps21
    go_wp2_with fail
    refine (HU2.out _).mono ?_
    rintro e w1 ⟨rfl, b1⟩
    have B1 : Hid (Below w.heap.size w w1) := b1
    clear b1
    go_wp2_with fail
    refine (HCL.out _).mono ?_
    rintro e w2 ⟨rfl, rfl⟩
    go_wp2_with fail
    go_ret2
    exact ⟨rfl, B1.out⟩
  · have hr : (s.data.toList.drop a).length = n := hn0
    have hPs : P = s.size := by rw [drop_size] at hr; omega
    subst hPs
    simp only [show ¬ ((4 : Nat) = 1) by omega, if_false]
    clear hr hn0 hP hXl
    go_enter Tryd.func21, Tryd.ntmps21
    go_wp2_with fail
    refine (HCL.out _).mono ?_
    rintro e w1 ⟨rfl, rfl⟩
    go_wp2_with fail
    go_ret2
    exact ⟨rfl, Below.refl _ _⟩
end Go.Proofs.YtbpdmbmooboimaaDoor.R11
