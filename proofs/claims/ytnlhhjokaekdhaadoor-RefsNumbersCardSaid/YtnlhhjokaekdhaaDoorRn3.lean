/- The law RefsNumbers. -/
import Derived.Test.YtnlhhjokaekdhaaDoorRn2
import Derived.Test.YtnlhhjokaekdhaaDoorRt1
import Derived.Test.YtnlhhjokaekdhaaDoorShelf
import Derived.Lib.ItoaLen
import Derived.Lib.AppendIntMem
set_option linter.unusedVariables false
set_option linter.unusedSimpArgs false
namespace Go.Proofs.YtnlhhjokaekdhaaDoor.R9
open Go.RowKit

theorem hexF_len : ∀ k u, (hexF k u).length ≤ k + 1 := by
  intro k
  induction k with
  | zero => intro u; simp [hexF]
  | succ k ih =>
    intro u
    rw [hexF]
    split
    · simp
    · have := ih (u / 16)
      simp
      omega
theorem dec_num (z n : Nat) (h : n ≤ 2000000) : numR ((List.replicate z 48 ++ Lib.decDigits n) ++ 59 :: [59]) = some (charN (min (n : Int) 1114112), (List.replicate z 48 ++ Lib.decDigits n).length + 1) ∧ numR ((List.replicate z 48 ++ Lib.decDigits n) ++ 103 :: []) = some (charN (min (n : Int) 1114112), (List.replicate z 48 ++ Lib.decDigits n).length) := by
  obtain ⟨h1, h2, h3⟩ := dec_val n
  have ha := all_zeros 10 (.inl rfl) z _ h2
  have hne : List.replicate z 48 ++ Lib.decDigits n ≠ [] := fun e => h3 (List.append_eq_nil_iff.1 e).2
  have hv : numV 10 (List.replicate z 48 ++ Lib.decDigits n) = min (n : Int) 1114112 := by rw [numV_val 10 (.inl rfl) _ ha, val_zeros, h1]
  refine ⟨?_, ?_⟩
  · rw [num_dec _ 59 [59] ha hne (by decide), hv]; rfl
  · rw [num_dec _ 103 [] ha hne (by decide), hv]; rfl
theorem hex_num (x : UInt8) (hx : x = 120 ∨ x = 88) (z n : Nat) (h : n ≤ 2000000) : numR ((x :: (List.replicate z 48 ++ hexF 6 n)) ++ 59 :: [59]) = some (charN (min (n : Int) 1114112), (x :: (List.replicate z 48 ++ hexF 6 n)).length + 1) ∧ numR ((x :: (List.replicate z 48 ++ hexF 6 n)) ++ 103 :: []) = some (charN (min (n : Int) 1114112), (x :: (List.replicate z 48 ++ hexF 6 n)).length) := by
  obtain ⟨h1, h2, h3⟩ := hexF_val 6 n (by omega)
  have ha := all_zeros 16 (.inr rfl) z _ h2
  have hne : List.replicate z 48 ++ hexF 6 n ≠ [] := fun e => h3 (List.append_eq_nil_iff.1 e).2
  have hv : numV 16 (List.replicate z 48 ++ hexF 6 n) = min (n : Int) 1114112 := by rw [numV_val 16 (.inr rfl) _ ha, val_zeros, h1]
  refine ⟨?_, ?_⟩
  · rw [List.cons_append, num_hex x hx _ 59 [59] ha hne (by decide), hv, List.length_cons, Nat.add_comm 1]; rfl
  · rw [List.cons_append, num_hex x hx _ 103 [] ha hne (by decide), hv, List.length_cons, Nat.add_comm 1]; rfl
theorem find_s (ahead S : ByteArray) (r : List UInt8) (C : Int) (w : World) (hT : RTab w) (ha : ahead.size ≤ 500) (hS6 : S.size ≤ 60) (hS : S.data.toList = 38 :: 35 :: r) (h1 : numR (r ++ 59 :: [59]) = some (C, r.length + 1)) (h2 : numR (r ++ 103 :: []) = some (C, r.length)) :
    (Calls Tryd.prog 22 #[.string (ahead ++ S ++ ⟨#[59, 59]⟩), .int .i64 ahead.size, .bool true] w fun e w' => e = .returned (.tuple #[.string (Utf8.encode C), .int .i64 ((ahead.size + S.size + 1 : Nat) : Int), .bool true]) ∧ w = w') ∧
    (Calls Tryd.prog 22 #[.string (ahead ++ S ++ ⟨#[103]⟩), .int .i64 ahead.size, .bool true] w fun e w' => e = .returned (.tuple #[.string (Utf8.encode C), .int .i64 ((ahead.size + S.size : Nat) : Int), .bool true]) ∧ w = w') := by
  have hsz : S.size = r.length + 2 := by
    have e1 : S.data.toList.length = S.size := by simp
    rw [← e1, hS]
    simp
  have g : ∀ X : ByteArray, (ahead ++ S ++ X).data.toList.drop ahead.size = 38 :: 35 :: (r ++ X.data.toList) := fun X => by
    rw [ByteArray.data_append, ByteArray.data_append, Array.toList_append, Array.toList_append, List.append_assoc, List.drop_left' (by simp), hS]
    rfl
  refine ⟨?_, ?_⟩
  · have h := find_le (ahead ++ S ++ ⟨#[59, 59]⟩) ahead.size true w hT (by simp [ByteArray.size_append]; omega) (by simp [ByteArray.size_append]; have : (⟨#[59, 59]⟩ : ByteArray).size = 2 := rfl; omega)
    rw [g, find_num, show (⟨#[59, 59]⟩ : ByteArray).data.toList = 59 :: [59] from rfl, h1] at h
    have e : ret3 ahead.size ((some (C, r.length + 1)).map fun x => (x.1, x.2 + 2)) = .tuple #[.string (Utf8.encode C), .int .i64 ((ahead.size + S.size + 1 : Nat) : Int), .bool true] := by
      show Value.tuple #[_, .int .i64 ((ahead.size + (r.length + 1 + 2) : Nat) : Int), _] = _
      rw [hsz, show ahead.size + (r.length + 1 + 2) = ahead.size + (r.length + 2) + 1 by omega]
    rw [e] at h
    exact h
  · have h := find_le (ahead ++ S ++ ⟨#[103]⟩) ahead.size true w hT (by simp [ByteArray.size_append]; omega) (by simp [ByteArray.size_append]; have : (⟨#[103]⟩ : ByteArray).size = 1 := rfl; omega)
    rw [g, find_num, show (⟨#[103]⟩ : ByteArray).data.toList = 103 :: [] from rfl, h2] at h
    have e : ret3 ahead.size ((some (C, r.length)).map fun x => (x.1, x.2 + 2)) = .tuple #[.string (Utf8.encode C), .int .i64 ((ahead.size + S.size : Nat) : Int), .bool true] := by
      show Value.tuple #[_, .int .i64 ((ahead.size + (r.length + 2) : Nat) : Int), _] = _
      rw [hsz]
    rw [e] at h
    exact h

set_option maxHeartbeats 6400000 in
set_option maxRecDepth 100000 in
theorem refsNumbers_law (x0 x1 : Int) (ahead : ByteArray) (w : World) (hT : RTab w) (hz : ZTab w) (hp : Lib.TabIs Tryd.prog w "internal/strconv.uint64pow10" .u64 Lib.pow10Tab) (h0 : 0 ≤ x0 ∧ x0 ≤ 4294967295) (h1 : 0 ≤ x1 ∧ x1 ≤ 255) :
    Calls Tryd.prog 11 #[.int .u32 x0, .int .u8 x1, .string ahead] w fun e w' => e = .returned (.bool true) ∧ Below w.heap.size w w' := by
  have HT := Lib.hid hT
  have HZ := Lib.hid hz
  have HP := Lib.hid hp
  clear hz hp
  obtain ⟨h00, h01⟩ := h0
  obtain ⟨h10, h11⟩ := h1
  by_cases hl : (500 : Int) < ahead.size
  · clear hT
    go_enter Tryd.func11, Tryd.ntmps11
    go_wp2_with fail
    refine (refers_any _ HT.out).mono ?_
    rintro e w' ⟨rfl, rfl⟩
    go_wp2_with fail
    go_ret
    exact ⟨by exact rfl, Below.refl _ _⟩
  · obtain ⟨n, hnn⟩ : ∃ n : Nat, x0 % 1179648 = (n : Int) := ⟨(x0 % 1179648).toNat, by omega⟩
    obtain ⟨N, hn⟩ : ∃ N, x0 % 1179648 = N := ⟨_, rfl⟩
    have hNn : N = (n : Int) := by omega
    have HNN := Lib.hid hNn
    clear hnn
    obtain ⟨z, hzz⟩ : ∃ z : Nat, x1 % 30 = (z : Int) := ⟨(x1 % 30).toNat, by omega⟩
    have hn2 : n < 1179648 := by omega
    have hz30 : z < 30 := by omega
    by_cases hw : 128 ≤ n ∧ n ≤ 159
    · obtain ⟨hw1, hw2⟩ := hw
      have a1 : (0 : Int) < N := by omega
      have a2 : N ≤ 1114111 := by omega
      have a3 : N < 55296 := by omega
      have a4 : (128 : Int) ≤ N := by omega
      have a5 : N ≤ 159 := by omega
      clear hT hn2 hNn hw1 hw2
      go_enter Tryd.func11, Tryd.ntmps11
      go_wp2_with fail
      refine (refers_any _ HT.out).mono ?_
      rintro e w' ⟨rfl, rfl⟩
      go_wp2_with fail
      go_ret
      exact ⟨by exact rfl, Below.refl _ _⟩
    · obtain ⟨WT, hWT⟩ : ∃ WT, Utf8.encode (charN (min (n : Int) 1114112)) = WT := ⟨_, rfl⟩
      have HWT := Lib.hid hWT
      have he : Utf8.encode 65533 = ⟨#[239, 191, 189]⟩ := by kernel_rfl
      by_cases hg : 0 < n ∧ n ≤ 1114111 ∧ (n < 55296 ∨ 57343 < n)
      · have hc : charN (min (n : Int) 1114112) = (n : Int) := by rw [show min (n : Int) 1114112 = (n : Int) by omega]; exact charN_out (by omega) (by omega) (by omega) (by omega)
        rw [hc, ← hNn] at hWT
        have HE := Lib.hid hWT
        have a1 : (0 : Int) < N := by omega
        have a2 : N ≤ 1114111 := by omega
        obtain ⟨g1, g2, g3⟩ := hg
        by_cases hlow : n < 55296
        · have a3 : N < 55296 := by omega
          by_cases h128 : 128 ≤ n
          · have a4 : (128 : Int) ≤ N := by omega
            have a5 : ¬ N ≤ 159 := by omega
            clear hw hc he hWT g1 g2 g3 h128 hlow
            have HN2 : Hid (n < 1179648) := hn2
            clear hT hn2 hNn
            go_enter Tryd.func11, Tryd.ntmps11
            go_wp2_with fail
            rw [HE.out]
            obtain rfl : N = (n : Int) := HNN.out
            try clear a1
            try clear a2
            try clear a3
            try clear a3'
            try clear a4
            try clear a5
            have hn2 := HN2.out
            go_loop [8, 9] (fun s i => ∃ (k : Nat) (O : ByteArray), k ≤ z ∧ i = .int .i64 k ∧ s = .string O ∧ Hid (O.data.toList = List.replicate k 48)) (fun _ i => z - (intOf i).toNat)
            case atStart => exact ⟨0, ⟨#[]⟩, Nat.zero_le _, rfl, rfl, rfl⟩
            case round =>
              obtain ⟨k, O, hk, rfl, rfl, HO⟩ := hrel
              have hos : O.size = k := by
                have e1 : O.data.toList.length = O.size := by simp
                rw [← e1, HO.out, List.length_replicate]
              by_cases hlt : k < z
              · have hki : (k : Int) < z := by omega
                have hos2 : O.size ≤ 30 := by omega
                clear hos
                go_wp2_with fail
                go_round
                case rel => exact ⟨k + 1, O ++ ⟨#[48]⟩, by omega, by go_num, rfl, by show _ = _; rw [ByteArray.data_append, Array.toList_append, HO.out, List.replicate_succ']⟩
                case measure => simp [intOf]; omega
              · obtain rfl : k = z := by omega
                have hnk : ¬ (k : Int) < k := by omega
                have hos2 : O.size ≤ 30 := by omega
                clear hlt hos
                go_wp2_with fail
                refine (Tryd.strconv_Itoa (n : Int) (by omega) (by omega) w HP.out).mono ?_
                rintro e w1 ⟨rfl, kk, os, hw1⟩
                have B1 : Hid (Below w.heap.size w w1) := by rw [hw1]; exact Lib.below_grow _ w (Nat.le_refl _) kk os
                obtain ⟨DC, hDC⟩ : ∃ DC : ByteArray, (⟨(Lib.itoa (n : Int)).toArray⟩ : ByteArray) = DC := ⟨_, rfl⟩
                have HDC : Hid (DC.data.toList = Lib.decDigits n) := by show _ = _; rw [← hDC, ← Lib.itoa_nonneg]
                have hdc : DC.size ≤ 21 := by rw [← hDC]; exact Lib.itoa_length_le (n : Int) (by omega) (by omega)
                rw [hDC]
                clear hDC hw1
                go_wp2_with fail
                refine (fmtUint_any n _ (by omega) (ztab_below HZ.out B1.out)).mono ?_
                rintro e w2 ⟨rfl, b2⟩
                have B2 : Hid (Below w.heap.size w w2) := B1.out.trans (b2.mono B1.out.size)
                obtain ⟨HX, hHX⟩ : ∃ HX : ByteArray, (⟨(hexF 6 n).toArray⟩ : ByteArray) = HX := ⟨_, rfl⟩
                have HHX : Hid (HX.data.toList = hexF 6 n) := by show _ = _; rw [← hHX]
                have hhx : HX.size ≤ 10 := by rw [← hHX]; exact Nat.le_trans (hexF_len 6 n) (by decide)
                have HXE := Lib.hid hHX
                rw [hHX]
                clear b2 hHX
                go_wp2_with fail
                refine (fmtUint_any n _ (by omega) (ztab_below HZ.out B2.out)).mono ?_
                rintro e w3 ⟨rfl, b3⟩
                have B3 : Hid (Below w.heap.size w w3) := B2.out.trans (b3.mono B2.out.size)
                rw [HXE.out]
                clear b3
                go_wp2_with fail
                obtain ⟨S1, hS1⟩ : ∃ S : ByteArray, (⟨#[38, 35]⟩ : ByteArray) ++ O ++ DC = S := ⟨_, rfl⟩
                obtain ⟨S2, hS2⟩ : ∃ S : ByteArray, (⟨#[38, 35, 120]⟩ : ByteArray) ++ O ++ HX = S := ⟨_, rfl⟩
                obtain ⟨S3, hS3⟩ : ∃ S : ByteArray, (⟨#[38, 35, 88]⟩ : ByteArray) ++ O ++ HX = S := ⟨_, rfl⟩
                rw [hS1, hS2, hS3]
                have hT3 : RTab w3 := HT.out.below B3.out
                have hl1 : S1.data.toList = 38 :: 35 :: (List.replicate k 48 ++ Lib.decDigits n) := by rw [← hS1, ByteArray.data_append, ByteArray.data_append, Array.toList_append, Array.toList_append, HO.out, HDC.out]; rfl
                have hl2 : S2.data.toList = 38 :: 35 :: 120 :: (List.replicate k 48 ++ hexF 6 n) := by rw [← hS2, ByteArray.data_append, ByteArray.data_append, Array.toList_append, Array.toList_append, HO.out, HHX.out]; rfl
                have hl3 : S3.data.toList = 38 :: 35 :: 88 :: (List.replicate k 48 ++ hexF 6 n) := by rw [← hS3, ByteArray.data_append, ByteArray.data_append, Array.toList_append, Array.toList_append, HO.out, HHX.out]; rfl
                have hz1 : S1.size ≤ 60 := by rw [← hS1]; simp [ByteArray.size_append]; have : (⟨#[38, 35]⟩ : ByteArray).size = 2 := rfl; omega
                have hz2 : S2.size ≤ 60 := by rw [← hS2]; simp [ByteArray.size_append]; have : (⟨#[38, 35, 120]⟩ : ByteArray).size = 3 := rfl; omega
                have hz3 : S3.size ≤ 60 := by rw [← hS3]; simp [ByteArray.size_append]; have : (⟨#[38, 35, 88]⟩ : ByteArray).size = 3 := rfl; omega
                have d1 := dec_num k n (by omega)
                have d2 := hex_num 120 (.inl rfl) k n (by omega)
                have d3 := hex_num 88 (.inr rfl) k n (by omega)
                obtain ⟨q1, r1⟩ := find_s ahead S1 _ _ w3 hT3 (by omega) hz1 hl1 d1.1 d1.2
                obtain ⟨q2, r2⟩ := find_s ahead S2 _ _ w3 hT3 (by omega) hz2 hl2 d2.1 d2.2
                obtain ⟨q3, r3⟩ := find_s ahead S3 _ _ w3 hT3 (by omega) hz3 hl3 d3.1 d3.2
                rw [HWT.out] at q1 r1 q2 r2 q3 r3
                obtain ⟨M1, hM1⟩ : ∃ M, ahead.size + S1.size = M := ⟨_, rfl⟩
                obtain ⟨M2, hM2⟩ : ∃ M, ahead.size + S2.size = M := ⟨_, rfl⟩
                obtain ⟨M3, hM3⟩ : ∃ M, ahead.size + S3.size = M := ⟨_, rfl⟩
                rw [hM1] at q1 r1
                rw [hM2] at q2 r2
                rw [hM3] at q3 r3
                have HA1 := Lib.hid q1
                have HG1 := Lib.hid r1
                have HA2 := Lib.hid q2
                have HG2 := Lib.hid r2
                have HA3 := Lib.hid q3
                have HG3 := Lib.hid r3
                have m1 : (ahead.size : Int) + S1.size = M1 := by omega
                have m2 : (ahead.size : Int) + S2.size = M2 := by omega
                have m3 : (ahead.size : Int) + S3.size = M3 := by omega
                have b1 : M1 ≤ 600 := by omega
                have b2 : M2 ≤ 600 := by omega
                have b3 : M3 ≤ 600 := by omega
                have hq : (WT.toList != WT.toList) = false := by simp
                have i0 : ∀ W, (Instr.index 41 (.agg #[.string S1, .string S2, .string S3]) (.int .i64 0)).run Tryd.prog W = .ok (.string S1) W := fun _ => rfl
                have i1 : ∀ W, (Instr.index 41 (.agg #[.string S1, .string S2, .string S3]) (.int .i64 1)).run Tryd.prog W = .ok (.string S2) W := fun _ => rfl
                have i2 : ∀ W, (Instr.index 41 (.agg #[.string S1, .string S2, .string S3]) (.int .i64 2)).run Tryd.prog W = .ok (.string S3) W := fun _ => rfl
                clear q1 r1 q2 r2 q3 r3 d1 d2 d3 hl1 hl2 hl3 hS1 hS2 hS3 hM1 hM2 hM3
                go_loop [76] (fun i => ∃ j : Nat, j ≤ 3 ∧ i = .int .i64 j) (fun i => 3 - (intOf i).toNat)
                case atStart => exact ⟨0, by omega, rfl⟩
                case round =>
                  obtain ⟨j, hj, rfl⟩ := hrel
                  by_cases hj3 : j < 3
                  · rcases (by omega : j = 0 ∨ j = 1 ∨ j = 2) with rfl | rfl | rfl
                    · go_wp2_with fail
                      refine HA1.out.mono ?_
                      rintro e w' ⟨rfl, rfl⟩
                      go_wp2_with fail
                      refine HG1.out.mono ?_
                      rintro e w' ⟨rfl, rfl⟩
                      go_wp2_with fail
                      go_round
                      case rel => exact ⟨1, by omega, by first | go_num | rfl⟩
                      case measure => first | (simp [intOf]; done) | (simp [intOf]; omega)
                    · go_wp2_with fail
                      refine HA2.out.mono ?_
                      rintro e w' ⟨rfl, rfl⟩
                      go_wp2_with fail
                      refine HG2.out.mono ?_
                      rintro e w' ⟨rfl, rfl⟩
                      go_wp2_with fail
                      go_round
                      case rel => exact ⟨2, by omega, by first | go_num | rfl⟩
                      case measure => first | (simp [intOf]; done) | (simp [intOf]; omega)
                    · go_wp2_with fail
                      refine HA3.out.mono ?_
                      rintro e w' ⟨rfl, rfl⟩
                      go_wp2_with fail
                      refine HG3.out.mono ?_
                      rintro e w' ⟨rfl, rfl⟩
                      go_wp2_with fail
                      go_round
                      case rel => exact ⟨3, by omega, by first | go_num | rfl⟩
                      case measure => first | (simp [intOf]; done) | (simp [intOf]; omega)
                  · obtain rfl : j = 3 := by omega
                    go_wp2_with fail
                    refine (refers_any _ hT3).mono ?_
                    rintro e w' ⟨rfl, rfl⟩
                    go_wp2_with fail
                    go_ret
                    exact ⟨by exact rfl, B3.out⟩
          · have a4 : ¬ (128 : Int) ≤ N := by omega
            clear hw hc he hWT g1 g2 g3 h128 hlow
            have HN2 : Hid (n < 1179648) := hn2
            clear hT hn2 hNn
            go_enter Tryd.func11, Tryd.ntmps11
            go_wp2_with fail
            rw [HE.out]
            obtain rfl : N = (n : Int) := HNN.out
            try clear a1
            try clear a2
            try clear a3
            try clear a3'
            try clear a4
            try clear a5
            have hn2 := HN2.out
            go_loop [8, 9] (fun s i => ∃ (k : Nat) (O : ByteArray), k ≤ z ∧ i = .int .i64 k ∧ s = .string O ∧ Hid (O.data.toList = List.replicate k 48)) (fun _ i => z - (intOf i).toNat)
            case atStart => exact ⟨0, ⟨#[]⟩, Nat.zero_le _, rfl, rfl, rfl⟩
            case round =>
              obtain ⟨k, O, hk, rfl, rfl, HO⟩ := hrel
              have hos : O.size = k := by
                have e1 : O.data.toList.length = O.size := by simp
                rw [← e1, HO.out, List.length_replicate]
              by_cases hlt : k < z
              · have hki : (k : Int) < z := by omega
                have hos2 : O.size ≤ 30 := by omega
                clear hos
                go_wp2_with fail
                go_round
                case rel => exact ⟨k + 1, O ++ ⟨#[48]⟩, by omega, by go_num, rfl, by show _ = _; rw [ByteArray.data_append, Array.toList_append, HO.out, List.replicate_succ']⟩
                case measure => simp [intOf]; omega
              · obtain rfl : k = z := by omega
                have hnk : ¬ (k : Int) < k := by omega
                have hos2 : O.size ≤ 30 := by omega
                clear hlt hos
                go_wp2_with fail
                refine (Tryd.strconv_Itoa (n : Int) (by omega) (by omega) w HP.out).mono ?_
                rintro e w1 ⟨rfl, kk, os, hw1⟩
                have B1 : Hid (Below w.heap.size w w1) := by rw [hw1]; exact Lib.below_grow _ w (Nat.le_refl _) kk os
                obtain ⟨DC, hDC⟩ : ∃ DC : ByteArray, (⟨(Lib.itoa (n : Int)).toArray⟩ : ByteArray) = DC := ⟨_, rfl⟩
                have HDC : Hid (DC.data.toList = Lib.decDigits n) := by show _ = _; rw [← hDC, ← Lib.itoa_nonneg]
                have hdc : DC.size ≤ 21 := by rw [← hDC]; exact Lib.itoa_length_le (n : Int) (by omega) (by omega)
                rw [hDC]
                clear hDC hw1
                go_wp2_with fail
                refine (fmtUint_any n _ (by omega) (ztab_below HZ.out B1.out)).mono ?_
                rintro e w2 ⟨rfl, b2⟩
                have B2 : Hid (Below w.heap.size w w2) := B1.out.trans (b2.mono B1.out.size)
                obtain ⟨HX, hHX⟩ : ∃ HX : ByteArray, (⟨(hexF 6 n).toArray⟩ : ByteArray) = HX := ⟨_, rfl⟩
                have HHX : Hid (HX.data.toList = hexF 6 n) := by show _ = _; rw [← hHX]
                have hhx : HX.size ≤ 10 := by rw [← hHX]; exact Nat.le_trans (hexF_len 6 n) (by decide)
                have HXE := Lib.hid hHX
                rw [hHX]
                clear b2 hHX
                go_wp2_with fail
                refine (fmtUint_any n _ (by omega) (ztab_below HZ.out B2.out)).mono ?_
                rintro e w3 ⟨rfl, b3⟩
                have B3 : Hid (Below w.heap.size w w3) := B2.out.trans (b3.mono B2.out.size)
                rw [HXE.out]
                clear b3
                go_wp2_with fail
                obtain ⟨S1, hS1⟩ : ∃ S : ByteArray, (⟨#[38, 35]⟩ : ByteArray) ++ O ++ DC = S := ⟨_, rfl⟩
                obtain ⟨S2, hS2⟩ : ∃ S : ByteArray, (⟨#[38, 35, 120]⟩ : ByteArray) ++ O ++ HX = S := ⟨_, rfl⟩
                obtain ⟨S3, hS3⟩ : ∃ S : ByteArray, (⟨#[38, 35, 88]⟩ : ByteArray) ++ O ++ HX = S := ⟨_, rfl⟩
                rw [hS1, hS2, hS3]
                have hT3 : RTab w3 := HT.out.below B3.out
                have hl1 : S1.data.toList = 38 :: 35 :: (List.replicate k 48 ++ Lib.decDigits n) := by rw [← hS1, ByteArray.data_append, ByteArray.data_append, Array.toList_append, Array.toList_append, HO.out, HDC.out]; rfl
                have hl2 : S2.data.toList = 38 :: 35 :: 120 :: (List.replicate k 48 ++ hexF 6 n) := by rw [← hS2, ByteArray.data_append, ByteArray.data_append, Array.toList_append, Array.toList_append, HO.out, HHX.out]; rfl
                have hl3 : S3.data.toList = 38 :: 35 :: 88 :: (List.replicate k 48 ++ hexF 6 n) := by rw [← hS3, ByteArray.data_append, ByteArray.data_append, Array.toList_append, Array.toList_append, HO.out, HHX.out]; rfl
                have hz1 : S1.size ≤ 60 := by rw [← hS1]; simp [ByteArray.size_append]; have : (⟨#[38, 35]⟩ : ByteArray).size = 2 := rfl; omega
                have hz2 : S2.size ≤ 60 := by rw [← hS2]; simp [ByteArray.size_append]; have : (⟨#[38, 35, 120]⟩ : ByteArray).size = 3 := rfl; omega
                have hz3 : S3.size ≤ 60 := by rw [← hS3]; simp [ByteArray.size_append]; have : (⟨#[38, 35, 88]⟩ : ByteArray).size = 3 := rfl; omega
                have d1 := dec_num k n (by omega)
                have d2 := hex_num 120 (.inl rfl) k n (by omega)
                have d3 := hex_num 88 (.inr rfl) k n (by omega)
                obtain ⟨q1, r1⟩ := find_s ahead S1 _ _ w3 hT3 (by omega) hz1 hl1 d1.1 d1.2
                obtain ⟨q2, r2⟩ := find_s ahead S2 _ _ w3 hT3 (by omega) hz2 hl2 d2.1 d2.2
                obtain ⟨q3, r3⟩ := find_s ahead S3 _ _ w3 hT3 (by omega) hz3 hl3 d3.1 d3.2
                rw [HWT.out] at q1 r1 q2 r2 q3 r3
                obtain ⟨M1, hM1⟩ : ∃ M, ahead.size + S1.size = M := ⟨_, rfl⟩
                obtain ⟨M2, hM2⟩ : ∃ M, ahead.size + S2.size = M := ⟨_, rfl⟩
                obtain ⟨M3, hM3⟩ : ∃ M, ahead.size + S3.size = M := ⟨_, rfl⟩
                rw [hM1] at q1 r1
                rw [hM2] at q2 r2
                rw [hM3] at q3 r3
                have HA1 := Lib.hid q1
                have HG1 := Lib.hid r1
                have HA2 := Lib.hid q2
                have HG2 := Lib.hid r2
                have HA3 := Lib.hid q3
                have HG3 := Lib.hid r3
                have m1 : (ahead.size : Int) + S1.size = M1 := by omega
                have m2 : (ahead.size : Int) + S2.size = M2 := by omega
                have m3 : (ahead.size : Int) + S3.size = M3 := by omega
                have b1 : M1 ≤ 600 := by omega
                have b2 : M2 ≤ 600 := by omega
                have b3 : M3 ≤ 600 := by omega
                have hq : (WT.toList != WT.toList) = false := by simp
                have i0 : ∀ W, (Instr.index 41 (.agg #[.string S1, .string S2, .string S3]) (.int .i64 0)).run Tryd.prog W = .ok (.string S1) W := fun _ => rfl
                have i1 : ∀ W, (Instr.index 41 (.agg #[.string S1, .string S2, .string S3]) (.int .i64 1)).run Tryd.prog W = .ok (.string S2) W := fun _ => rfl
                have i2 : ∀ W, (Instr.index 41 (.agg #[.string S1, .string S2, .string S3]) (.int .i64 2)).run Tryd.prog W = .ok (.string S3) W := fun _ => rfl
                clear q1 r1 q2 r2 q3 r3 d1 d2 d3 hl1 hl2 hl3 hS1 hS2 hS3 hM1 hM2 hM3
                go_loop [76] (fun i => ∃ j : Nat, j ≤ 3 ∧ i = .int .i64 j) (fun i => 3 - (intOf i).toNat)
                case atStart => exact ⟨0, by omega, rfl⟩
                case round =>
                  obtain ⟨j, hj, rfl⟩ := hrel
                  by_cases hj3 : j < 3
                  · rcases (by omega : j = 0 ∨ j = 1 ∨ j = 2) with rfl | rfl | rfl
                    · go_wp2_with fail
                      refine HA1.out.mono ?_
                      rintro e w' ⟨rfl, rfl⟩
                      go_wp2_with fail
                      refine HG1.out.mono ?_
                      rintro e w' ⟨rfl, rfl⟩
                      go_wp2_with fail
                      go_round
                      case rel => exact ⟨1, by omega, by first | go_num | rfl⟩
                      case measure => first | (simp [intOf]; done) | (simp [intOf]; omega)
                    · go_wp2_with fail
                      refine HA2.out.mono ?_
                      rintro e w' ⟨rfl, rfl⟩
                      go_wp2_with fail
                      refine HG2.out.mono ?_
                      rintro e w' ⟨rfl, rfl⟩
                      go_wp2_with fail
                      go_round
                      case rel => exact ⟨2, by omega, by first | go_num | rfl⟩
                      case measure => first | (simp [intOf]; done) | (simp [intOf]; omega)
                    · go_wp2_with fail
                      refine HA3.out.mono ?_
                      rintro e w' ⟨rfl, rfl⟩
                      go_wp2_with fail
                      refine HG3.out.mono ?_
                      rintro e w' ⟨rfl, rfl⟩
                      go_wp2_with fail
                      go_round
                      case rel => exact ⟨3, by omega, by first | go_num | rfl⟩
                      case measure => first | (simp [intOf]; done) | (simp [intOf]; omega)
                  · obtain rfl : j = 3 := by omega
                    go_wp2_with fail
                    refine (refers_any _ hT3).mono ?_
                    rintro e w' ⟨rfl, rfl⟩
                    go_wp2_with fail
                    go_ret
                    exact ⟨by exact rfl, B3.out⟩
        · have a3 : ¬ N < 55296 := by omega
          have a3' : (57343 : Int) < N := by omega
          have a4 : (128 : Int) ≤ N := by omega
          have a5 : ¬ N ≤ 159 := by omega
          clear hw hc he hWT g1 g2 g3 hlow
          have HN2 : Hid (n < 1179648) := hn2
          clear hT hn2 hNn
          go_enter Tryd.func11, Tryd.ntmps11
          go_wp2_with fail
          rw [HE.out]
          obtain rfl : N = (n : Int) := HNN.out
          try clear a1
          try clear a2
          try clear a3
          try clear a3'
          try clear a4
          try clear a5
          have hn2 := HN2.out
          go_loop [8, 9] (fun s i => ∃ (k : Nat) (O : ByteArray), k ≤ z ∧ i = .int .i64 k ∧ s = .string O ∧ Hid (O.data.toList = List.replicate k 48)) (fun _ i => z - (intOf i).toNat)
          case atStart => exact ⟨0, ⟨#[]⟩, Nat.zero_le _, rfl, rfl, rfl⟩
          case round =>
            obtain ⟨k, O, hk, rfl, rfl, HO⟩ := hrel
            have hos : O.size = k := by
              have e1 : O.data.toList.length = O.size := by simp
              rw [← e1, HO.out, List.length_replicate]
            by_cases hlt : k < z
            · have hki : (k : Int) < z := by omega
              have hos2 : O.size ≤ 30 := by omega
              clear hos
              go_wp2_with fail
              go_round
              case rel => exact ⟨k + 1, O ++ ⟨#[48]⟩, by omega, by go_num, rfl, by show _ = _; rw [ByteArray.data_append, Array.toList_append, HO.out, List.replicate_succ']⟩
              case measure => simp [intOf]; omega
            · obtain rfl : k = z := by omega
              have hnk : ¬ (k : Int) < k := by omega
              have hos2 : O.size ≤ 30 := by omega
              clear hlt hos
              go_wp2_with fail
              refine (Tryd.strconv_Itoa (n : Int) (by omega) (by omega) w HP.out).mono ?_
              rintro e w1 ⟨rfl, kk, os, hw1⟩
              have B1 : Hid (Below w.heap.size w w1) := by rw [hw1]; exact Lib.below_grow _ w (Nat.le_refl _) kk os
              obtain ⟨DC, hDC⟩ : ∃ DC : ByteArray, (⟨(Lib.itoa (n : Int)).toArray⟩ : ByteArray) = DC := ⟨_, rfl⟩
              have HDC : Hid (DC.data.toList = Lib.decDigits n) := by show _ = _; rw [← hDC, ← Lib.itoa_nonneg]
              have hdc : DC.size ≤ 21 := by rw [← hDC]; exact Lib.itoa_length_le (n : Int) (by omega) (by omega)
              rw [hDC]
              clear hDC hw1
              go_wp2_with fail
              refine (fmtUint_any n _ (by omega) (ztab_below HZ.out B1.out)).mono ?_
              rintro e w2 ⟨rfl, b2⟩
              have B2 : Hid (Below w.heap.size w w2) := B1.out.trans (b2.mono B1.out.size)
              obtain ⟨HX, hHX⟩ : ∃ HX : ByteArray, (⟨(hexF 6 n).toArray⟩ : ByteArray) = HX := ⟨_, rfl⟩
              have HHX : Hid (HX.data.toList = hexF 6 n) := by show _ = _; rw [← hHX]
              have hhx : HX.size ≤ 10 := by rw [← hHX]; exact Nat.le_trans (hexF_len 6 n) (by decide)
              have HXE := Lib.hid hHX
              rw [hHX]
              clear b2 hHX
              go_wp2_with fail
              refine (fmtUint_any n _ (by omega) (ztab_below HZ.out B2.out)).mono ?_
              rintro e w3 ⟨rfl, b3⟩
              have B3 : Hid (Below w.heap.size w w3) := B2.out.trans (b3.mono B2.out.size)
              rw [HXE.out]
              clear b3
              go_wp2_with fail
              obtain ⟨S1, hS1⟩ : ∃ S : ByteArray, (⟨#[38, 35]⟩ : ByteArray) ++ O ++ DC = S := ⟨_, rfl⟩
              obtain ⟨S2, hS2⟩ : ∃ S : ByteArray, (⟨#[38, 35, 120]⟩ : ByteArray) ++ O ++ HX = S := ⟨_, rfl⟩
              obtain ⟨S3, hS3⟩ : ∃ S : ByteArray, (⟨#[38, 35, 88]⟩ : ByteArray) ++ O ++ HX = S := ⟨_, rfl⟩
              rw [hS1, hS2, hS3]
              have hT3 : RTab w3 := HT.out.below B3.out
              have hl1 : S1.data.toList = 38 :: 35 :: (List.replicate k 48 ++ Lib.decDigits n) := by rw [← hS1, ByteArray.data_append, ByteArray.data_append, Array.toList_append, Array.toList_append, HO.out, HDC.out]; rfl
              have hl2 : S2.data.toList = 38 :: 35 :: 120 :: (List.replicate k 48 ++ hexF 6 n) := by rw [← hS2, ByteArray.data_append, ByteArray.data_append, Array.toList_append, Array.toList_append, HO.out, HHX.out]; rfl
              have hl3 : S3.data.toList = 38 :: 35 :: 88 :: (List.replicate k 48 ++ hexF 6 n) := by rw [← hS3, ByteArray.data_append, ByteArray.data_append, Array.toList_append, Array.toList_append, HO.out, HHX.out]; rfl
              have hz1 : S1.size ≤ 60 := by rw [← hS1]; simp [ByteArray.size_append]; have : (⟨#[38, 35]⟩ : ByteArray).size = 2 := rfl; omega
              have hz2 : S2.size ≤ 60 := by rw [← hS2]; simp [ByteArray.size_append]; have : (⟨#[38, 35, 120]⟩ : ByteArray).size = 3 := rfl; omega
              have hz3 : S3.size ≤ 60 := by rw [← hS3]; simp [ByteArray.size_append]; have : (⟨#[38, 35, 88]⟩ : ByteArray).size = 3 := rfl; omega
              have d1 := dec_num k n (by omega)
              have d2 := hex_num 120 (.inl rfl) k n (by omega)
              have d3 := hex_num 88 (.inr rfl) k n (by omega)
              obtain ⟨q1, r1⟩ := find_s ahead S1 _ _ w3 hT3 (by omega) hz1 hl1 d1.1 d1.2
              obtain ⟨q2, r2⟩ := find_s ahead S2 _ _ w3 hT3 (by omega) hz2 hl2 d2.1 d2.2
              obtain ⟨q3, r3⟩ := find_s ahead S3 _ _ w3 hT3 (by omega) hz3 hl3 d3.1 d3.2
              rw [HWT.out] at q1 r1 q2 r2 q3 r3
              obtain ⟨M1, hM1⟩ : ∃ M, ahead.size + S1.size = M := ⟨_, rfl⟩
              obtain ⟨M2, hM2⟩ : ∃ M, ahead.size + S2.size = M := ⟨_, rfl⟩
              obtain ⟨M3, hM3⟩ : ∃ M, ahead.size + S3.size = M := ⟨_, rfl⟩
              rw [hM1] at q1 r1
              rw [hM2] at q2 r2
              rw [hM3] at q3 r3
              have HA1 := Lib.hid q1
              have HG1 := Lib.hid r1
              have HA2 := Lib.hid q2
              have HG2 := Lib.hid r2
              have HA3 := Lib.hid q3
              have HG3 := Lib.hid r3
              have m1 : (ahead.size : Int) + S1.size = M1 := by omega
              have m2 : (ahead.size : Int) + S2.size = M2 := by omega
              have m3 : (ahead.size : Int) + S3.size = M3 := by omega
              have b1 : M1 ≤ 600 := by omega
              have b2 : M2 ≤ 600 := by omega
              have b3 : M3 ≤ 600 := by omega
              have hq : (WT.toList != WT.toList) = false := by simp
              have i0 : ∀ W, (Instr.index 41 (.agg #[.string S1, .string S2, .string S3]) (.int .i64 0)).run Tryd.prog W = .ok (.string S1) W := fun _ => rfl
              have i1 : ∀ W, (Instr.index 41 (.agg #[.string S1, .string S2, .string S3]) (.int .i64 1)).run Tryd.prog W = .ok (.string S2) W := fun _ => rfl
              have i2 : ∀ W, (Instr.index 41 (.agg #[.string S1, .string S2, .string S3]) (.int .i64 2)).run Tryd.prog W = .ok (.string S3) W := fun _ => rfl
              clear q1 r1 q2 r2 q3 r3 d1 d2 d3 hl1 hl2 hl3 hS1 hS2 hS3 hM1 hM2 hM3
              go_loop [76] (fun i => ∃ j : Nat, j ≤ 3 ∧ i = .int .i64 j) (fun i => 3 - (intOf i).toNat)
              case atStart => exact ⟨0, by omega, rfl⟩
              case round =>
                obtain ⟨j, hj, rfl⟩ := hrel
                by_cases hj3 : j < 3
                · rcases (by omega : j = 0 ∨ j = 1 ∨ j = 2) with rfl | rfl | rfl
                  · go_wp2_with fail
                    refine HA1.out.mono ?_
                    rintro e w' ⟨rfl, rfl⟩
                    go_wp2_with fail
                    refine HG1.out.mono ?_
                    rintro e w' ⟨rfl, rfl⟩
                    go_wp2_with fail
                    go_round
                    case rel => exact ⟨1, by omega, by first | go_num | rfl⟩
                    case measure => first | (simp [intOf]; done) | (simp [intOf]; omega)
                  · go_wp2_with fail
                    refine HA2.out.mono ?_
                    rintro e w' ⟨rfl, rfl⟩
                    go_wp2_with fail
                    refine HG2.out.mono ?_
                    rintro e w' ⟨rfl, rfl⟩
                    go_wp2_with fail
                    go_round
                    case rel => exact ⟨2, by omega, by first | go_num | rfl⟩
                    case measure => first | (simp [intOf]; done) | (simp [intOf]; omega)
                  · go_wp2_with fail
                    refine HA3.out.mono ?_
                    rintro e w' ⟨rfl, rfl⟩
                    go_wp2_with fail
                    refine HG3.out.mono ?_
                    rintro e w' ⟨rfl, rfl⟩
                    go_wp2_with fail
                    go_round
                    case rel => exact ⟨3, by omega, by first | go_num | rfl⟩
                    case measure => first | (simp [intOf]; done) | (simp [intOf]; omega)
                · obtain rfl : j = 3 := by omega
                  go_wp2_with fail
                  refine (refers_any _ hT3).mono ?_
                  rintro e w' ⟨rfl, rfl⟩
                  go_wp2_with fail
                  go_ret
                  exact ⟨by exact rfl, B3.out⟩
      · have hc : charN (min (n : Int) 1114112) = 65533 := by unfold charN; rw [if_pos (by omega)]
        rw [hc, he] at hWT
        have HE := Lib.hid hWT
        by_cases hn0 : n = 0
        · have a1 : ¬ (0 : Int) < N := by omega
          have a4 : ¬ (128 : Int) ≤ N := by omega
          clear hw hc he hWT hg hn0
          have HN2 : Hid (n < 1179648) := hn2
          clear hT hn2 hNn
          go_enter Tryd.func11, Tryd.ntmps11
          go_wp2_with fail
          rw [HE.out]
          obtain rfl : N = (n : Int) := HNN.out
          try clear a1
          try clear a2
          try clear a3
          try clear a3'
          try clear a4
          try clear a5
          have hn2 := HN2.out
          go_loop [8, 9] (fun s i => ∃ (k : Nat) (O : ByteArray), k ≤ z ∧ i = .int .i64 k ∧ s = .string O ∧ Hid (O.data.toList = List.replicate k 48)) (fun _ i => z - (intOf i).toNat)
          case atStart => exact ⟨0, ⟨#[]⟩, Nat.zero_le _, rfl, rfl, rfl⟩
          case round =>
            obtain ⟨k, O, hk, rfl, rfl, HO⟩ := hrel
            have hos : O.size = k := by
              have e1 : O.data.toList.length = O.size := by simp
              rw [← e1, HO.out, List.length_replicate]
            by_cases hlt : k < z
            · have hki : (k : Int) < z := by omega
              have hos2 : O.size ≤ 30 := by omega
              clear hos
              go_wp2_with fail
              go_round
              case rel => exact ⟨k + 1, O ++ ⟨#[48]⟩, by omega, by go_num, rfl, by show _ = _; rw [ByteArray.data_append, Array.toList_append, HO.out, List.replicate_succ']⟩
              case measure => simp [intOf]; omega
            · obtain rfl : k = z := by omega
              have hnk : ¬ (k : Int) < k := by omega
              have hos2 : O.size ≤ 30 := by omega
              clear hlt hos
              go_wp2_with fail
              refine (Tryd.strconv_Itoa (n : Int) (by omega) (by omega) w HP.out).mono ?_
              rintro e w1 ⟨rfl, kk, os, hw1⟩
              have B1 : Hid (Below w.heap.size w w1) := by rw [hw1]; exact Lib.below_grow _ w (Nat.le_refl _) kk os
              obtain ⟨DC, hDC⟩ : ∃ DC : ByteArray, (⟨(Lib.itoa (n : Int)).toArray⟩ : ByteArray) = DC := ⟨_, rfl⟩
              have HDC : Hid (DC.data.toList = Lib.decDigits n) := by show _ = _; rw [← hDC, ← Lib.itoa_nonneg]
              have hdc : DC.size ≤ 21 := by rw [← hDC]; exact Lib.itoa_length_le (n : Int) (by omega) (by omega)
              rw [hDC]
              clear hDC hw1
              go_wp2_with fail
              refine (fmtUint_any n _ (by omega) (ztab_below HZ.out B1.out)).mono ?_
              rintro e w2 ⟨rfl, b2⟩
              have B2 : Hid (Below w.heap.size w w2) := B1.out.trans (b2.mono B1.out.size)
              obtain ⟨HX, hHX⟩ : ∃ HX : ByteArray, (⟨(hexF 6 n).toArray⟩ : ByteArray) = HX := ⟨_, rfl⟩
              have HHX : Hid (HX.data.toList = hexF 6 n) := by show _ = _; rw [← hHX]
              have hhx : HX.size ≤ 10 := by rw [← hHX]; exact Nat.le_trans (hexF_len 6 n) (by decide)
              have HXE := Lib.hid hHX
              rw [hHX]
              clear b2 hHX
              go_wp2_with fail
              refine (fmtUint_any n _ (by omega) (ztab_below HZ.out B2.out)).mono ?_
              rintro e w3 ⟨rfl, b3⟩
              have B3 : Hid (Below w.heap.size w w3) := B2.out.trans (b3.mono B2.out.size)
              rw [HXE.out]
              clear b3
              go_wp2_with fail
              obtain ⟨S1, hS1⟩ : ∃ S : ByteArray, (⟨#[38, 35]⟩ : ByteArray) ++ O ++ DC = S := ⟨_, rfl⟩
              obtain ⟨S2, hS2⟩ : ∃ S : ByteArray, (⟨#[38, 35, 120]⟩ : ByteArray) ++ O ++ HX = S := ⟨_, rfl⟩
              obtain ⟨S3, hS3⟩ : ∃ S : ByteArray, (⟨#[38, 35, 88]⟩ : ByteArray) ++ O ++ HX = S := ⟨_, rfl⟩
              rw [hS1, hS2, hS3]
              have hT3 : RTab w3 := HT.out.below B3.out
              have hl1 : S1.data.toList = 38 :: 35 :: (List.replicate k 48 ++ Lib.decDigits n) := by rw [← hS1, ByteArray.data_append, ByteArray.data_append, Array.toList_append, Array.toList_append, HO.out, HDC.out]; rfl
              have hl2 : S2.data.toList = 38 :: 35 :: 120 :: (List.replicate k 48 ++ hexF 6 n) := by rw [← hS2, ByteArray.data_append, ByteArray.data_append, Array.toList_append, Array.toList_append, HO.out, HHX.out]; rfl
              have hl3 : S3.data.toList = 38 :: 35 :: 88 :: (List.replicate k 48 ++ hexF 6 n) := by rw [← hS3, ByteArray.data_append, ByteArray.data_append, Array.toList_append, Array.toList_append, HO.out, HHX.out]; rfl
              have hz1 : S1.size ≤ 60 := by rw [← hS1]; simp [ByteArray.size_append]; have : (⟨#[38, 35]⟩ : ByteArray).size = 2 := rfl; omega
              have hz2 : S2.size ≤ 60 := by rw [← hS2]; simp [ByteArray.size_append]; have : (⟨#[38, 35, 120]⟩ : ByteArray).size = 3 := rfl; omega
              have hz3 : S3.size ≤ 60 := by rw [← hS3]; simp [ByteArray.size_append]; have : (⟨#[38, 35, 88]⟩ : ByteArray).size = 3 := rfl; omega
              have d1 := dec_num k n (by omega)
              have d2 := hex_num 120 (.inl rfl) k n (by omega)
              have d3 := hex_num 88 (.inr rfl) k n (by omega)
              obtain ⟨q1, r1⟩ := find_s ahead S1 _ _ w3 hT3 (by omega) hz1 hl1 d1.1 d1.2
              obtain ⟨q2, r2⟩ := find_s ahead S2 _ _ w3 hT3 (by omega) hz2 hl2 d2.1 d2.2
              obtain ⟨q3, r3⟩ := find_s ahead S3 _ _ w3 hT3 (by omega) hz3 hl3 d3.1 d3.2
              rw [HWT.out] at q1 r1 q2 r2 q3 r3
              obtain ⟨M1, hM1⟩ : ∃ M, ahead.size + S1.size = M := ⟨_, rfl⟩
              obtain ⟨M2, hM2⟩ : ∃ M, ahead.size + S2.size = M := ⟨_, rfl⟩
              obtain ⟨M3, hM3⟩ : ∃ M, ahead.size + S3.size = M := ⟨_, rfl⟩
              rw [hM1] at q1 r1
              rw [hM2] at q2 r2
              rw [hM3] at q3 r3
              have HA1 := Lib.hid q1
              have HG1 := Lib.hid r1
              have HA2 := Lib.hid q2
              have HG2 := Lib.hid r2
              have HA3 := Lib.hid q3
              have HG3 := Lib.hid r3
              have m1 : (ahead.size : Int) + S1.size = M1 := by omega
              have m2 : (ahead.size : Int) + S2.size = M2 := by omega
              have m3 : (ahead.size : Int) + S3.size = M3 := by omega
              have b1 : M1 ≤ 600 := by omega
              have b2 : M2 ≤ 600 := by omega
              have b3 : M3 ≤ 600 := by omega
              have hq : (WT.toList != WT.toList) = false := by simp
              have i0 : ∀ W, (Instr.index 41 (.agg #[.string S1, .string S2, .string S3]) (.int .i64 0)).run Tryd.prog W = .ok (.string S1) W := fun _ => rfl
              have i1 : ∀ W, (Instr.index 41 (.agg #[.string S1, .string S2, .string S3]) (.int .i64 1)).run Tryd.prog W = .ok (.string S2) W := fun _ => rfl
              have i2 : ∀ W, (Instr.index 41 (.agg #[.string S1, .string S2, .string S3]) (.int .i64 2)).run Tryd.prog W = .ok (.string S3) W := fun _ => rfl
              clear q1 r1 q2 r2 q3 r3 d1 d2 d3 hl1 hl2 hl3 hS1 hS2 hS3 hM1 hM2 hM3
              go_loop [76] (fun i => ∃ j : Nat, j ≤ 3 ∧ i = .int .i64 j) (fun i => 3 - (intOf i).toNat)
              case atStart => exact ⟨0, by omega, rfl⟩
              case round =>
                obtain ⟨j, hj, rfl⟩ := hrel
                by_cases hj3 : j < 3
                · rcases (by omega : j = 0 ∨ j = 1 ∨ j = 2) with rfl | rfl | rfl
                  · go_wp2_with fail
                    refine HA1.out.mono ?_
                    rintro e w' ⟨rfl, rfl⟩
                    go_wp2_with fail
                    refine HG1.out.mono ?_
                    rintro e w' ⟨rfl, rfl⟩
                    go_wp2_with fail
                    go_round
                    case rel => exact ⟨1, by omega, by first | go_num | rfl⟩
                    case measure => first | (simp [intOf]; done) | (simp [intOf]; omega)
                  · go_wp2_with fail
                    refine HA2.out.mono ?_
                    rintro e w' ⟨rfl, rfl⟩
                    go_wp2_with fail
                    refine HG2.out.mono ?_
                    rintro e w' ⟨rfl, rfl⟩
                    go_wp2_with fail
                    go_round
                    case rel => exact ⟨2, by omega, by first | go_num | rfl⟩
                    case measure => first | (simp [intOf]; done) | (simp [intOf]; omega)
                  · go_wp2_with fail
                    refine HA3.out.mono ?_
                    rintro e w' ⟨rfl, rfl⟩
                    go_wp2_with fail
                    refine HG3.out.mono ?_
                    rintro e w' ⟨rfl, rfl⟩
                    go_wp2_with fail
                    go_round
                    case rel => exact ⟨3, by omega, by first | go_num | rfl⟩
                    case measure => first | (simp [intOf]; done) | (simp [intOf]; omega)
                · obtain rfl : j = 3 := by omega
                  go_wp2_with fail
                  refine (refers_any _ hT3).mono ?_
                  rintro e w' ⟨rfl, rfl⟩
                  go_wp2_with fail
                  go_ret
                  exact ⟨by exact rfl, B3.out⟩
        · have a1 : (0 : Int) < N := by omega
          have a4 : (128 : Int) ≤ N := by omega
          have a5 : ¬ N ≤ 159 := by omega
          by_cases hbig : n ≤ 1114111
          · have a2 : N ≤ 1114111 := by omega
            have a3 : ¬ N < 55296 := by omega
            have a3' : ¬ (57343 : Int) < N := by omega
            clear hw hc he hWT hg hn0 hbig
            have HN2 : Hid (n < 1179648) := hn2
            clear hT hn2 hNn
            go_enter Tryd.func11, Tryd.ntmps11
            go_wp2_with fail
            rw [HE.out]
            obtain rfl : N = (n : Int) := HNN.out
            try clear a1
            try clear a2
            try clear a3
            try clear a3'
            try clear a4
            try clear a5
            have hn2 := HN2.out
            go_loop [8, 9] (fun s i => ∃ (k : Nat) (O : ByteArray), k ≤ z ∧ i = .int .i64 k ∧ s = .string O ∧ Hid (O.data.toList = List.replicate k 48)) (fun _ i => z - (intOf i).toNat)
            case atStart => exact ⟨0, ⟨#[]⟩, Nat.zero_le _, rfl, rfl, rfl⟩
            case round =>
              obtain ⟨k, O, hk, rfl, rfl, HO⟩ := hrel
              have hos : O.size = k := by
                have e1 : O.data.toList.length = O.size := by simp
                rw [← e1, HO.out, List.length_replicate]
              by_cases hlt : k < z
              · have hki : (k : Int) < z := by omega
                have hos2 : O.size ≤ 30 := by omega
                clear hos
                go_wp2_with fail
                go_round
                case rel => exact ⟨k + 1, O ++ ⟨#[48]⟩, by omega, by go_num, rfl, by show _ = _; rw [ByteArray.data_append, Array.toList_append, HO.out, List.replicate_succ']⟩
                case measure => simp [intOf]; omega
              · obtain rfl : k = z := by omega
                have hnk : ¬ (k : Int) < k := by omega
                have hos2 : O.size ≤ 30 := by omega
                clear hlt hos
                go_wp2_with fail
                refine (Tryd.strconv_Itoa (n : Int) (by omega) (by omega) w HP.out).mono ?_
                rintro e w1 ⟨rfl, kk, os, hw1⟩
                have B1 : Hid (Below w.heap.size w w1) := by rw [hw1]; exact Lib.below_grow _ w (Nat.le_refl _) kk os
                obtain ⟨DC, hDC⟩ : ∃ DC : ByteArray, (⟨(Lib.itoa (n : Int)).toArray⟩ : ByteArray) = DC := ⟨_, rfl⟩
                have HDC : Hid (DC.data.toList = Lib.decDigits n) := by show _ = _; rw [← hDC, ← Lib.itoa_nonneg]
                have hdc : DC.size ≤ 21 := by rw [← hDC]; exact Lib.itoa_length_le (n : Int) (by omega) (by omega)
                rw [hDC]
                clear hDC hw1
                go_wp2_with fail
                refine (fmtUint_any n _ (by omega) (ztab_below HZ.out B1.out)).mono ?_
                rintro e w2 ⟨rfl, b2⟩
                have B2 : Hid (Below w.heap.size w w2) := B1.out.trans (b2.mono B1.out.size)
                obtain ⟨HX, hHX⟩ : ∃ HX : ByteArray, (⟨(hexF 6 n).toArray⟩ : ByteArray) = HX := ⟨_, rfl⟩
                have HHX : Hid (HX.data.toList = hexF 6 n) := by show _ = _; rw [← hHX]
                have hhx : HX.size ≤ 10 := by rw [← hHX]; exact Nat.le_trans (hexF_len 6 n) (by decide)
                have HXE := Lib.hid hHX
                rw [hHX]
                clear b2 hHX
                go_wp2_with fail
                refine (fmtUint_any n _ (by omega) (ztab_below HZ.out B2.out)).mono ?_
                rintro e w3 ⟨rfl, b3⟩
                have B3 : Hid (Below w.heap.size w w3) := B2.out.trans (b3.mono B2.out.size)
                rw [HXE.out]
                clear b3
                go_wp2_with fail
                obtain ⟨S1, hS1⟩ : ∃ S : ByteArray, (⟨#[38, 35]⟩ : ByteArray) ++ O ++ DC = S := ⟨_, rfl⟩
                obtain ⟨S2, hS2⟩ : ∃ S : ByteArray, (⟨#[38, 35, 120]⟩ : ByteArray) ++ O ++ HX = S := ⟨_, rfl⟩
                obtain ⟨S3, hS3⟩ : ∃ S : ByteArray, (⟨#[38, 35, 88]⟩ : ByteArray) ++ O ++ HX = S := ⟨_, rfl⟩
                rw [hS1, hS2, hS3]
                have hT3 : RTab w3 := HT.out.below B3.out
                have hl1 : S1.data.toList = 38 :: 35 :: (List.replicate k 48 ++ Lib.decDigits n) := by rw [← hS1, ByteArray.data_append, ByteArray.data_append, Array.toList_append, Array.toList_append, HO.out, HDC.out]; rfl
                have hl2 : S2.data.toList = 38 :: 35 :: 120 :: (List.replicate k 48 ++ hexF 6 n) := by rw [← hS2, ByteArray.data_append, ByteArray.data_append, Array.toList_append, Array.toList_append, HO.out, HHX.out]; rfl
                have hl3 : S3.data.toList = 38 :: 35 :: 88 :: (List.replicate k 48 ++ hexF 6 n) := by rw [← hS3, ByteArray.data_append, ByteArray.data_append, Array.toList_append, Array.toList_append, HO.out, HHX.out]; rfl
                have hz1 : S1.size ≤ 60 := by rw [← hS1]; simp [ByteArray.size_append]; have : (⟨#[38, 35]⟩ : ByteArray).size = 2 := rfl; omega
                have hz2 : S2.size ≤ 60 := by rw [← hS2]; simp [ByteArray.size_append]; have : (⟨#[38, 35, 120]⟩ : ByteArray).size = 3 := rfl; omega
                have hz3 : S3.size ≤ 60 := by rw [← hS3]; simp [ByteArray.size_append]; have : (⟨#[38, 35, 88]⟩ : ByteArray).size = 3 := rfl; omega
                have d1 := dec_num k n (by omega)
                have d2 := hex_num 120 (.inl rfl) k n (by omega)
                have d3 := hex_num 88 (.inr rfl) k n (by omega)
                obtain ⟨q1, r1⟩ := find_s ahead S1 _ _ w3 hT3 (by omega) hz1 hl1 d1.1 d1.2
                obtain ⟨q2, r2⟩ := find_s ahead S2 _ _ w3 hT3 (by omega) hz2 hl2 d2.1 d2.2
                obtain ⟨q3, r3⟩ := find_s ahead S3 _ _ w3 hT3 (by omega) hz3 hl3 d3.1 d3.2
                rw [HWT.out] at q1 r1 q2 r2 q3 r3
                obtain ⟨M1, hM1⟩ : ∃ M, ahead.size + S1.size = M := ⟨_, rfl⟩
                obtain ⟨M2, hM2⟩ : ∃ M, ahead.size + S2.size = M := ⟨_, rfl⟩
                obtain ⟨M3, hM3⟩ : ∃ M, ahead.size + S3.size = M := ⟨_, rfl⟩
                rw [hM1] at q1 r1
                rw [hM2] at q2 r2
                rw [hM3] at q3 r3
                have HA1 := Lib.hid q1
                have HG1 := Lib.hid r1
                have HA2 := Lib.hid q2
                have HG2 := Lib.hid r2
                have HA3 := Lib.hid q3
                have HG3 := Lib.hid r3
                have m1 : (ahead.size : Int) + S1.size = M1 := by omega
                have m2 : (ahead.size : Int) + S2.size = M2 := by omega
                have m3 : (ahead.size : Int) + S3.size = M3 := by omega
                have b1 : M1 ≤ 600 := by omega
                have b2 : M2 ≤ 600 := by omega
                have b3 : M3 ≤ 600 := by omega
                have hq : (WT.toList != WT.toList) = false := by simp
                have i0 : ∀ W, (Instr.index 41 (.agg #[.string S1, .string S2, .string S3]) (.int .i64 0)).run Tryd.prog W = .ok (.string S1) W := fun _ => rfl
                have i1 : ∀ W, (Instr.index 41 (.agg #[.string S1, .string S2, .string S3]) (.int .i64 1)).run Tryd.prog W = .ok (.string S2) W := fun _ => rfl
                have i2 : ∀ W, (Instr.index 41 (.agg #[.string S1, .string S2, .string S3]) (.int .i64 2)).run Tryd.prog W = .ok (.string S3) W := fun _ => rfl
                clear q1 r1 q2 r2 q3 r3 d1 d2 d3 hl1 hl2 hl3 hS1 hS2 hS3 hM1 hM2 hM3
                go_loop [76] (fun i => ∃ j : Nat, j ≤ 3 ∧ i = .int .i64 j) (fun i => 3 - (intOf i).toNat)
                case atStart => exact ⟨0, by omega, rfl⟩
                case round =>
                  obtain ⟨j, hj, rfl⟩ := hrel
                  by_cases hj3 : j < 3
                  · rcases (by omega : j = 0 ∨ j = 1 ∨ j = 2) with rfl | rfl | rfl
                    · go_wp2_with fail
                      refine HA1.out.mono ?_
                      rintro e w' ⟨rfl, rfl⟩
                      go_wp2_with fail
                      refine HG1.out.mono ?_
                      rintro e w' ⟨rfl, rfl⟩
                      go_wp2_with fail
                      go_round
                      case rel => exact ⟨1, by omega, by first | go_num | rfl⟩
                      case measure => first | (simp [intOf]; done) | (simp [intOf]; omega)
                    · go_wp2_with fail
                      refine HA2.out.mono ?_
                      rintro e w' ⟨rfl, rfl⟩
                      go_wp2_with fail
                      refine HG2.out.mono ?_
                      rintro e w' ⟨rfl, rfl⟩
                      go_wp2_with fail
                      go_round
                      case rel => exact ⟨2, by omega, by first | go_num | rfl⟩
                      case measure => first | (simp [intOf]; done) | (simp [intOf]; omega)
                    · go_wp2_with fail
                      refine HA3.out.mono ?_
                      rintro e w' ⟨rfl, rfl⟩
                      go_wp2_with fail
                      refine HG3.out.mono ?_
                      rintro e w' ⟨rfl, rfl⟩
                      go_wp2_with fail
                      go_round
                      case rel => exact ⟨3, by omega, by first | go_num | rfl⟩
                      case measure => first | (simp [intOf]; done) | (simp [intOf]; omega)
                  · obtain rfl : j = 3 := by omega
                    go_wp2_with fail
                    refine (refers_any _ hT3).mono ?_
                    rintro e w' ⟨rfl, rfl⟩
                    go_wp2_with fail
                    go_ret
                    exact ⟨by exact rfl, B3.out⟩
          · have a2 : ¬ N ≤ 1114111 := by omega
            clear hw hc he hWT hg hn0 hbig
            have HN2 : Hid (n < 1179648) := hn2
            clear hT hn2 hNn
            go_enter Tryd.func11, Tryd.ntmps11
            go_wp2_with fail
            rw [HE.out]
            obtain rfl : N = (n : Int) := HNN.out
            try clear a1
            try clear a2
            try clear a3
            try clear a3'
            try clear a4
            try clear a5
            have hn2 := HN2.out
            go_loop [8, 9] (fun s i => ∃ (k : Nat) (O : ByteArray), k ≤ z ∧ i = .int .i64 k ∧ s = .string O ∧ Hid (O.data.toList = List.replicate k 48)) (fun _ i => z - (intOf i).toNat)
            case atStart => exact ⟨0, ⟨#[]⟩, Nat.zero_le _, rfl, rfl, rfl⟩
            case round =>
              obtain ⟨k, O, hk, rfl, rfl, HO⟩ := hrel
              have hos : O.size = k := by
                have e1 : O.data.toList.length = O.size := by simp
                rw [← e1, HO.out, List.length_replicate]
              by_cases hlt : k < z
              · have hki : (k : Int) < z := by omega
                have hos2 : O.size ≤ 30 := by omega
                clear hos
                go_wp2_with fail
                go_round
                case rel => exact ⟨k + 1, O ++ ⟨#[48]⟩, by omega, by go_num, rfl, by show _ = _; rw [ByteArray.data_append, Array.toList_append, HO.out, List.replicate_succ']⟩
                case measure => simp [intOf]; omega
              · obtain rfl : k = z := by omega
                have hnk : ¬ (k : Int) < k := by omega
                have hos2 : O.size ≤ 30 := by omega
                clear hlt hos
                go_wp2_with fail
                refine (Tryd.strconv_Itoa (n : Int) (by omega) (by omega) w HP.out).mono ?_
                rintro e w1 ⟨rfl, kk, os, hw1⟩
                have B1 : Hid (Below w.heap.size w w1) := by rw [hw1]; exact Lib.below_grow _ w (Nat.le_refl _) kk os
                obtain ⟨DC, hDC⟩ : ∃ DC : ByteArray, (⟨(Lib.itoa (n : Int)).toArray⟩ : ByteArray) = DC := ⟨_, rfl⟩
                have HDC : Hid (DC.data.toList = Lib.decDigits n) := by show _ = _; rw [← hDC, ← Lib.itoa_nonneg]
                have hdc : DC.size ≤ 21 := by rw [← hDC]; exact Lib.itoa_length_le (n : Int) (by omega) (by omega)
                rw [hDC]
                clear hDC hw1
                go_wp2_with fail
                refine (fmtUint_any n _ (by omega) (ztab_below HZ.out B1.out)).mono ?_
                rintro e w2 ⟨rfl, b2⟩
                have B2 : Hid (Below w.heap.size w w2) := B1.out.trans (b2.mono B1.out.size)
                obtain ⟨HX, hHX⟩ : ∃ HX : ByteArray, (⟨(hexF 6 n).toArray⟩ : ByteArray) = HX := ⟨_, rfl⟩
                have HHX : Hid (HX.data.toList = hexF 6 n) := by show _ = _; rw [← hHX]
                have hhx : HX.size ≤ 10 := by rw [← hHX]; exact Nat.le_trans (hexF_len 6 n) (by decide)
                have HXE := Lib.hid hHX
                rw [hHX]
                clear b2 hHX
                go_wp2_with fail
                refine (fmtUint_any n _ (by omega) (ztab_below HZ.out B2.out)).mono ?_
                rintro e w3 ⟨rfl, b3⟩
                have B3 : Hid (Below w.heap.size w w3) := B2.out.trans (b3.mono B2.out.size)
                rw [HXE.out]
                clear b3
                go_wp2_with fail
                obtain ⟨S1, hS1⟩ : ∃ S : ByteArray, (⟨#[38, 35]⟩ : ByteArray) ++ O ++ DC = S := ⟨_, rfl⟩
                obtain ⟨S2, hS2⟩ : ∃ S : ByteArray, (⟨#[38, 35, 120]⟩ : ByteArray) ++ O ++ HX = S := ⟨_, rfl⟩
                obtain ⟨S3, hS3⟩ : ∃ S : ByteArray, (⟨#[38, 35, 88]⟩ : ByteArray) ++ O ++ HX = S := ⟨_, rfl⟩
                rw [hS1, hS2, hS3]
                have hT3 : RTab w3 := HT.out.below B3.out
                have hl1 : S1.data.toList = 38 :: 35 :: (List.replicate k 48 ++ Lib.decDigits n) := by rw [← hS1, ByteArray.data_append, ByteArray.data_append, Array.toList_append, Array.toList_append, HO.out, HDC.out]; rfl
                have hl2 : S2.data.toList = 38 :: 35 :: 120 :: (List.replicate k 48 ++ hexF 6 n) := by rw [← hS2, ByteArray.data_append, ByteArray.data_append, Array.toList_append, Array.toList_append, HO.out, HHX.out]; rfl
                have hl3 : S3.data.toList = 38 :: 35 :: 88 :: (List.replicate k 48 ++ hexF 6 n) := by rw [← hS3, ByteArray.data_append, ByteArray.data_append, Array.toList_append, Array.toList_append, HO.out, HHX.out]; rfl
                have hz1 : S1.size ≤ 60 := by rw [← hS1]; simp [ByteArray.size_append]; have : (⟨#[38, 35]⟩ : ByteArray).size = 2 := rfl; omega
                have hz2 : S2.size ≤ 60 := by rw [← hS2]; simp [ByteArray.size_append]; have : (⟨#[38, 35, 120]⟩ : ByteArray).size = 3 := rfl; omega
                have hz3 : S3.size ≤ 60 := by rw [← hS3]; simp [ByteArray.size_append]; have : (⟨#[38, 35, 88]⟩ : ByteArray).size = 3 := rfl; omega
                have d1 := dec_num k n (by omega)
                have d2 := hex_num 120 (.inl rfl) k n (by omega)
                have d3 := hex_num 88 (.inr rfl) k n (by omega)
                obtain ⟨q1, r1⟩ := find_s ahead S1 _ _ w3 hT3 (by omega) hz1 hl1 d1.1 d1.2
                obtain ⟨q2, r2⟩ := find_s ahead S2 _ _ w3 hT3 (by omega) hz2 hl2 d2.1 d2.2
                obtain ⟨q3, r3⟩ := find_s ahead S3 _ _ w3 hT3 (by omega) hz3 hl3 d3.1 d3.2
                rw [HWT.out] at q1 r1 q2 r2 q3 r3
                obtain ⟨M1, hM1⟩ : ∃ M, ahead.size + S1.size = M := ⟨_, rfl⟩
                obtain ⟨M2, hM2⟩ : ∃ M, ahead.size + S2.size = M := ⟨_, rfl⟩
                obtain ⟨M3, hM3⟩ : ∃ M, ahead.size + S3.size = M := ⟨_, rfl⟩
                rw [hM1] at q1 r1
                rw [hM2] at q2 r2
                rw [hM3] at q3 r3
                have HA1 := Lib.hid q1
                have HG1 := Lib.hid r1
                have HA2 := Lib.hid q2
                have HG2 := Lib.hid r2
                have HA3 := Lib.hid q3
                have HG3 := Lib.hid r3
                have m1 : (ahead.size : Int) + S1.size = M1 := by omega
                have m2 : (ahead.size : Int) + S2.size = M2 := by omega
                have m3 : (ahead.size : Int) + S3.size = M3 := by omega
                have b1 : M1 ≤ 600 := by omega
                have b2 : M2 ≤ 600 := by omega
                have b3 : M3 ≤ 600 := by omega
                have hq : (WT.toList != WT.toList) = false := by simp
                have i0 : ∀ W, (Instr.index 41 (.agg #[.string S1, .string S2, .string S3]) (.int .i64 0)).run Tryd.prog W = .ok (.string S1) W := fun _ => rfl
                have i1 : ∀ W, (Instr.index 41 (.agg #[.string S1, .string S2, .string S3]) (.int .i64 1)).run Tryd.prog W = .ok (.string S2) W := fun _ => rfl
                have i2 : ∀ W, (Instr.index 41 (.agg #[.string S1, .string S2, .string S3]) (.int .i64 2)).run Tryd.prog W = .ok (.string S3) W := fun _ => rfl
                clear q1 r1 q2 r2 q3 r3 d1 d2 d3 hl1 hl2 hl3 hS1 hS2 hS3 hM1 hM2 hM3
                go_loop [76] (fun i => ∃ j : Nat, j ≤ 3 ∧ i = .int .i64 j) (fun i => 3 - (intOf i).toNat)
                case atStart => exact ⟨0, by omega, rfl⟩
                case round =>
                  obtain ⟨j, hj, rfl⟩ := hrel
                  by_cases hj3 : j < 3
                  · rcases (by omega : j = 0 ∨ j = 1 ∨ j = 2) with rfl | rfl | rfl
                    · go_wp2_with fail
                      refine HA1.out.mono ?_
                      rintro e w' ⟨rfl, rfl⟩
                      go_wp2_with fail
                      refine HG1.out.mono ?_
                      rintro e w' ⟨rfl, rfl⟩
                      go_wp2_with fail
                      go_round
                      case rel => exact ⟨1, by omega, by first | go_num | rfl⟩
                      case measure => first | (simp [intOf]; done) | (simp [intOf]; omega)
                    · go_wp2_with fail
                      refine HA2.out.mono ?_
                      rintro e w' ⟨rfl, rfl⟩
                      go_wp2_with fail
                      refine HG2.out.mono ?_
                      rintro e w' ⟨rfl, rfl⟩
                      go_wp2_with fail
                      go_round
                      case rel => exact ⟨2, by omega, by first | go_num | rfl⟩
                      case measure => first | (simp [intOf]; done) | (simp [intOf]; omega)
                    · go_wp2_with fail
                      refine HA3.out.mono ?_
                      rintro e w' ⟨rfl, rfl⟩
                      go_wp2_with fail
                      refine HG3.out.mono ?_
                      rintro e w' ⟨rfl, rfl⟩
                      go_wp2_with fail
                      go_round
                      case rel => exact ⟨3, by omega, by first | go_num | rfl⟩
                      case measure => first | (simp [intOf]; done) | (simp [intOf]; omega)
                  · obtain rfl : j = 3 := by omega
                    go_wp2_with fail
                    refine (refers_any _ hT3).mono ?_
                    rintro e w' ⟨rfl, rfl⟩
                    go_wp2_with fail
                    go_ret
                    exact ⟨by exact rfl, B3.out⟩
end Go.Proofs.YtnlhhjokaekdhaaDoor.R9
