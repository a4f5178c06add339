/- lazaretref04.Message at blocks of 128. -/
import Derived.Test.YtnlhhjokaekdhaaDoorBuf
import Derived.Test.YtnlhhjokaekdhaaDoorEnd4
import Derived.Test.YtnlhhjokaekdhaaDoorDgt4
set_option linter.unusedVariables false
set_option linter.unusedSimpArgs false
namespace Go.Proofs.YtnlhhjokaekdhaaDoor.R4
open Go.RowKit

def zeros5M (n : Nat) : Nat := (239 - n % 128) % 128
def msg5L (r : List UInt8) : List UInt8 := r ++ 128 :: List.replicate (zeros5M r.length) 0 ++ (List.replicate 8 0 ++ bytesBy ((r.length : Int) * 8) divs8)
theorem zeros5M_at (n : Nat) : (n + 1 + zeros5M n + 16) % 128 = 0 ∧ zeros5M n < 128 := by unfold zeros5M; omega
theorem zeros5M_below (n k : Nat) (h : k < zeros5M n) : ¬ (n + 1 + k + 16) % 128 = 0 := by unfold zeros5M at h; omega
def len5V : Value → Nat
  | .slice _ n _ => n
  | _ => 0

set_option maxHeartbeats 3200000 in
set_option maxRecDepth 100000 in
theorem message5_any (s : ByteArray) (w : World) (hs : s.size ≤ 1000000) :
    Calls Tryd.prog 34 #[.string s, .int .i64 128, .int .i64 16] w fun e w' => e = .returned (.string ⟨(msg5L s.data.toList).toArray⟩) ∧ Below w.heap.size w w' := by
  obtain ⟨v0, W1, hrun, hb0, hbel0⟩ := buf_bytes (P := Tryd.prog) w 9 26 5 s Tryd.underlying9 Tryd.underlying26 Tryd.underlying5 (by unfold maxLen; omega)
  obtain ⟨ao0, cap0, hv0⟩ := hb0.shape
  have hl0 : s.data.toList.length = s.size := by simp
  obtain ⟨R, hR⟩ : ∃ R, s.data.toList = R := ⟨_, rfl⟩
  rw [hR] at hb0 hv0 hl0
  rw [hR]
  have HR := Lib.hid hR
  have hr1 : R.length ≤ 1000000 := by omega
  have HL := Lib.hid hl0
  clear hR hl0
  obtain ⟨Z, hZ⟩ : ∃ Z, zeros5M R.length = Z := ⟨_, rfl⟩
  have hz := zeros5M_at R.length
  rw [hZ] at hz
  have HZ := Lib.hid hZ
  have HZ2 := Lib.hid hz
  have hsz0 := hbel0.size
  subst hv0
  clear hZ hz
  go_enter Tryd.func34, Tryd.ntmps34
  go_wp2_with (at_builtin; refine buf_app (c := 128) rfl _ _ 26 rfl infoByte Tryd.underlying26 rfl hb0 rfl rfl (by omega) hsz0 ?_; intro v1 w1 hbuf hbel; obtain ⟨ao1, cap1, hv1⟩ := hbuf.shape; have B1 := Lib.hid hbuf; have E1 := Lib.hid hbel; subst hv1; clear hbuf hbel)
  have B2 : Hid (Buf w1 w.heap.size 5 (.slice ao1 (R.length + 1) cap1) (R ++ 128 :: List.replicate 0 0)) := by
    have b := B1.out
    have hx : (R ++ [(128 : UInt8)]).length = R.length + 1 := by simp
    rw [hx] at b
    exact b
  have E2 : Hid (Below w.heap.size w w1) := hbel0.trans E1.out
  clear B1 E1 hbel0 hsz0 hb0 hrun
  go_loopw [7] (fun v wr => ∃ (k : Nat) (ao : Option Addr) (cap : Nat), k ≤ Z ∧ v = .slice ao (R.length + 1 + k) cap ∧ Hid (Buf wr w.heap.size 5 v (R ++ 128 :: List.replicate k 0)) ∧ Hid (Below w.heap.size w wr)) (fun v _ => R.length + 1 + Z - len5V v)
  case atStart => exact ⟨0, ao1, cap1, Nat.zero_le _, rfl, B2, E2⟩
  case round =>
    clear B2 E2
    obtain ⟨k, ao, cap, hk, rfl, B, E⟩ := hrel
    have hsz := E.out.size
    by_cases hlt : k < Z
    · have hnz : ¬ (R.length + 1 + k + 16) % 128 = 0 := zeros5M_below R.length k (by rw [HZ.out]; exact hlt)
      have hq : (((R.length + 1 + k : Nat) : Int) + 16) % 128 ≠ 0 := by omega
      have hq2 : (((R.length : Int) + 1 + (k : Int)) + 16) % 128 ≠ 0 := by omega
      have hzz := HZ2.out.2
      have hb0 := B.out
      have hln : (R ++ 128 :: List.replicate k (0 : UInt8)).length = R.length + 1 + k := by simp; omega
      have HLN := Lib.hid hln
      clear hnz hln
      go_wp2_with (at_builtin; refine buf_app (c := 0) rfl _ _ 26 rfl infoByte Tryd.underlying26 rfl hb0 rfl rfl (by rw [HLN.out]; omega) hsz ?_; intro v1 w1 hbuf hbel; obtain ⟨ao1, cap1, hv1⟩ := hbuf.shape; have B1 := Lib.hid hbuf; have E1 := Lib.hid hbel; subst hv1; clear hbuf hbel)
      have hL : (R ++ 128 :: List.replicate k (0 : UInt8)) ++ [0] = R ++ 128 :: List.replicate (k + 1) 0 := by rw [List.replicate_succ']; simp
      have hl2 : (R ++ 128 :: List.replicate (k + 1) (0 : UInt8)).length = R.length + (k + 1 + 1) := by simp
      have b := B1.out
      rw [hL, hl2] at b
      refine ⟨⟨k + 1, ao1, cap1, by omega, by rw [show R.length + (k + 1 + 1) = R.length + 1 + (k + 1) by omega], b, E.out.trans E1.out⟩, ?_⟩
      simp only [len5V]
      omega
    · have hkz : k = Z := by omega
      have hz1 := HZ2.out.1
      have hq : (((R.length + 1 + k : Nat) : Int) + 16) % 128 = 0 := by omega
      have hq2 : (((R.length : Int) + 1 + (k : Int)) + 16) % 128 = 0 := by omega
      have hzz := HZ2.out.2
      obtain ⟨T, hT⟩ : ∃ T, R ++ 128 :: List.replicate k (0 : UInt8) = T := ⟨_, rfl⟩
      have htl : T.length = R.length + 1 + k := by rw [← hT]; simp; omega
      rw [hT, ← htl] at B
      rw [← htl]
      have htl2 : T.length ≤ 1000100 := by omega
      have HTT := Lib.hid hT
      have HTL := Lib.hid htl
      have HKZ := Lib.hid hkz
      have HQ1 := Lib.hid hq
      have hq3 : ((T.length : Int) + 16) % 128 = 0 := by rw [htl]; exact hq
      clear hT htl hkz hq hq2 hz1 hlt hk
      go_wp2_with fail
      have B3 : Hid (Buf wr w.heap.size 5 (.slice ao (T.length + 0) cap) (T ++ (List.replicate 8 (0 : UInt8) ++ bytesBy ((s.size : Int) * 8) divs8).take 0)) := by
        show Buf _ _ _ _ _
        rw [List.take_zero, List.append_nil]
        exact B.out
      clear B hq3 hsz
      go_loopw [7, 8] (fun v i wx => ∃ (j : Nat) (ao : Option Addr) (cap : Nat), j ≤ 16 ∧ i = .int .i64 (15 - (j : Int)) ∧ v = .slice ao (T.length + j) cap ∧ Hid (Buf wx w.heap.size 5 v (T ++ (List.replicate 8 (0 : UInt8) ++ bytesBy ((s.size : Int) * 8) divs8).take j)) ∧ Hid (Below w.heap.size w wx)) (fun _ i _ => (intOf i + 1).toNat)
      case atStart => exact ⟨0, ao, cap, Nat.zero_le _, rfl, rfl, B3, E⟩
      case round =>
        clear B3 E
        obtain ⟨j, ao, cap, hj, rfl, rfl, B, E⟩ := hrel
        have hsz := E.out.size
        have hs8 : (0 : Int) ≤ s.size := by omega
        have HLENS : Hid (∀ j : Nat, j ≤ 16 → (T ++ (List.replicate 8 (0 : UInt8) ++ bytesBy ((s.size : Int) * 8) divs8).take j).length = T.length + j) := by
          intro j hj
          rw [List.length_append, List.length_take]
          simp [bytesBy, divs8]
          omega
        by_cases hlt : j < 16
        · rcases (by omega : j = 0 ∨ j = 1 ∨ j = 2 ∨ j = 3 ∨ j = 4 ∨ j = 5 ∨ j = 6 ∨ j = 7 ∨ j = 8 ∨ j = 9 ∨ j = 10 ∨ j = 11 ∨ j = 12 ∨ j = 13 ∨ j = 14 ∨ j = 15) with rfl | rfl | rfl | rfl | rfl | rfl | rfl | rfl | rfl | rfl | rfl | rfl | rfl | rfl | rfl | rfl
          · have hb0 := B.out
            have HLJ : Hid ((T ++ (List.replicate 8 (0 : UInt8) ++ bytesBy ((s.size : Int) * 8) divs8).take 0) ++ [0] = T ++ (List.replicate 8 (0 : UInt8) ++ bytesBy ((s.size : Int) * 8) divs8).take 1) := by show _ = _; rw [List.append_assoc]; rfl
            go_wp2_with (at_builtin; refine buf_app' (c := 0) rfl _ _ 26 rfl infoByte Tryd.underlying26 rfl hb0 rfl rfl (by rw [HLENS.out 0 (by decide)]; omega) hsz (by rfl) ?_; intro v1 w1 hbuf hbel; rw [HLJ.out] at hbuf; obtain ⟨ao1, cap1, hv1⟩ := hbuf.shape; rw [HLENS.out 1 (by decide)] at hv1; have B1 := Lib.hid hbuf; have E1 := Lib.hid hbel; subst hv1; clear hbuf hbel)
            refine ⟨⟨1, ao1, cap1, by decide, by go_num, rfl, B1, E.out.trans E1.out⟩, ?_⟩
            simp [intOf]
          · have hb0 := B.out
            have HLJ : Hid ((T ++ (List.replicate 8 (0 : UInt8) ++ bytesBy ((s.size : Int) * 8) divs8).take 1) ++ [0] = T ++ (List.replicate 8 (0 : UInt8) ++ bytesBy ((s.size : Int) * 8) divs8).take 2) := by show _ = _; rw [List.append_assoc]; rfl
            go_wp2_with (at_builtin; refine buf_app' (c := 0) rfl _ _ 26 rfl infoByte Tryd.underlying26 rfl hb0 rfl rfl (by rw [HLENS.out 1 (by decide)]; omega) hsz (by rfl) ?_; intro v1 w1 hbuf hbel; rw [HLJ.out] at hbuf; obtain ⟨ao1, cap1, hv1⟩ := hbuf.shape; rw [HLENS.out 2 (by decide)] at hv1; have B1 := Lib.hid hbuf; have E1 := Lib.hid hbel; subst hv1; clear hbuf hbel)
            refine ⟨⟨2, ao1, cap1, by decide, by go_num, rfl, B1, E.out.trans E1.out⟩, ?_⟩
            simp [intOf]
          · have hb0 := B.out
            have HLJ : Hid ((T ++ (List.replicate 8 (0 : UInt8) ++ bytesBy ((s.size : Int) * 8) divs8).take 2) ++ [0] = T ++ (List.replicate 8 (0 : UInt8) ++ bytesBy ((s.size : Int) * 8) divs8).take 3) := by show _ = _; rw [List.append_assoc]; rfl
            go_wp2_with (at_builtin; refine buf_app' (c := 0) rfl _ _ 26 rfl infoByte Tryd.underlying26 rfl hb0 rfl rfl (by rw [HLENS.out 2 (by decide)]; omega) hsz (by rfl) ?_; intro v1 w1 hbuf hbel; rw [HLJ.out] at hbuf; obtain ⟨ao1, cap1, hv1⟩ := hbuf.shape; rw [HLENS.out 3 (by decide)] at hv1; have B1 := Lib.hid hbuf; have E1 := Lib.hid hbel; subst hv1; clear hbuf hbel)
            refine ⟨⟨3, ao1, cap1, by decide, by go_num, rfl, B1, E.out.trans E1.out⟩, ?_⟩
            simp [intOf]
          · have hb0 := B.out
            have HLJ : Hid ((T ++ (List.replicate 8 (0 : UInt8) ++ bytesBy ((s.size : Int) * 8) divs8).take 3) ++ [0] = T ++ (List.replicate 8 (0 : UInt8) ++ bytesBy ((s.size : Int) * 8) divs8).take 4) := by show _ = _; rw [List.append_assoc]; rfl
            go_wp2_with (at_builtin; refine buf_app' (c := 0) rfl _ _ 26 rfl infoByte Tryd.underlying26 rfl hb0 rfl rfl (by rw [HLENS.out 3 (by decide)]; omega) hsz (by rfl) ?_; intro v1 w1 hbuf hbel; rw [HLJ.out] at hbuf; obtain ⟨ao1, cap1, hv1⟩ := hbuf.shape; rw [HLENS.out 4 (by decide)] at hv1; have B1 := Lib.hid hbuf; have E1 := Lib.hid hbel; subst hv1; clear hbuf hbel)
            refine ⟨⟨4, ao1, cap1, by decide, by go_num, rfl, B1, E.out.trans E1.out⟩, ?_⟩
            simp [intOf]
          · have hb0 := B.out
            have HLJ : Hid ((T ++ (List.replicate 8 (0 : UInt8) ++ bytesBy ((s.size : Int) * 8) divs8).take 4) ++ [0] = T ++ (List.replicate 8 (0 : UInt8) ++ bytesBy ((s.size : Int) * 8) divs8).take 5) := by show _ = _; rw [List.append_assoc]; rfl
            go_wp2_with (at_builtin; refine buf_app' (c := 0) rfl _ _ 26 rfl infoByte Tryd.underlying26 rfl hb0 rfl rfl (by rw [HLENS.out 4 (by decide)]; omega) hsz (by rfl) ?_; intro v1 w1 hbuf hbel; rw [HLJ.out] at hbuf; obtain ⟨ao1, cap1, hv1⟩ := hbuf.shape; rw [HLENS.out 5 (by decide)] at hv1; have B1 := Lib.hid hbuf; have E1 := Lib.hid hbel; subst hv1; clear hbuf hbel)
            refine ⟨⟨5, ao1, cap1, by decide, by go_num, rfl, B1, E.out.trans E1.out⟩, ?_⟩
            simp [intOf]
          · have hb0 := B.out
            have HLJ : Hid ((T ++ (List.replicate 8 (0 : UInt8) ++ bytesBy ((s.size : Int) * 8) divs8).take 5) ++ [0] = T ++ (List.replicate 8 (0 : UInt8) ++ bytesBy ((s.size : Int) * 8) divs8).take 6) := by show _ = _; rw [List.append_assoc]; rfl
            go_wp2_with (at_builtin; refine buf_app' (c := 0) rfl _ _ 26 rfl infoByte Tryd.underlying26 rfl hb0 rfl rfl (by rw [HLENS.out 5 (by decide)]; omega) hsz (by rfl) ?_; intro v1 w1 hbuf hbel; rw [HLJ.out] at hbuf; obtain ⟨ao1, cap1, hv1⟩ := hbuf.shape; rw [HLENS.out 6 (by decide)] at hv1; have B1 := Lib.hid hbuf; have E1 := Lib.hid hbel; subst hv1; clear hbuf hbel)
            refine ⟨⟨6, ao1, cap1, by decide, by go_num, rfl, B1, E.out.trans E1.out⟩, ?_⟩
            simp [intOf]
          · have hb0 := B.out
            have HLJ : Hid ((T ++ (List.replicate 8 (0 : UInt8) ++ bytesBy ((s.size : Int) * 8) divs8).take 6) ++ [0] = T ++ (List.replicate 8 (0 : UInt8) ++ bytesBy ((s.size : Int) * 8) divs8).take 7) := by show _ = _; rw [List.append_assoc]; rfl
            go_wp2_with (at_builtin; refine buf_app' (c := 0) rfl _ _ 26 rfl infoByte Tryd.underlying26 rfl hb0 rfl rfl (by rw [HLENS.out 6 (by decide)]; omega) hsz (by rfl) ?_; intro v1 w1 hbuf hbel; rw [HLJ.out] at hbuf; obtain ⟨ao1, cap1, hv1⟩ := hbuf.shape; rw [HLENS.out 7 (by decide)] at hv1; have B1 := Lib.hid hbuf; have E1 := Lib.hid hbel; subst hv1; clear hbuf hbel)
            refine ⟨⟨7, ao1, cap1, by decide, by go_num, rfl, B1, E.out.trans E1.out⟩, ?_⟩
            simp [intOf]
          · have hb0 := B.out
            have HLJ : Hid ((T ++ (List.replicate 8 (0 : UInt8) ++ bytesBy ((s.size : Int) * 8) divs8).take 7) ++ [0] = T ++ (List.replicate 8 (0 : UInt8) ++ bytesBy ((s.size : Int) * 8) divs8).take 8) := by show _ = _; rw [List.append_assoc]; rfl
            go_wp2_with (at_builtin; refine buf_app' (c := 0) rfl _ _ 26 rfl infoByte Tryd.underlying26 rfl hb0 rfl rfl (by rw [HLENS.out 7 (by decide)]; omega) hsz (by rfl) ?_; intro v1 w1 hbuf hbel; rw [HLJ.out] at hbuf; obtain ⟨ao1, cap1, hv1⟩ := hbuf.shape; rw [HLENS.out 8 (by decide)] at hv1; have B1 := Lib.hid hbuf; have E1 := Lib.hid hbel; subst hv1; clear hbuf hbel)
            refine ⟨⟨8, ao1, cap1, by decide, by go_num, rfl, B1, E.out.trans E1.out⟩, ?_⟩
            simp [intOf]
          · have hb0 := B.out
            have HLJ : Hid ((T ++ (List.replicate 8 (0 : UInt8) ++ bytesBy ((s.size : Int) * 8) divs8).take 8) ++ [bI ((s.size : Int) * 8 / 72057594037927936)] = T ++ (List.replicate 8 (0 : UInt8) ++ bytesBy ((s.size : Int) * 8) divs8).take 9) := by show _ = _; rw [List.append_assoc]; rfl
            go_wp2_with (at_builtin; refine buf_app' (c := bI ((s.size : Int) * 8 / 72057594037927936)) rfl _ _ 26 rfl infoByte Tryd.underlying26 rfl hb0 rfl rfl (by rw [HLENS.out 8 (by decide)]; omega) hsz (by first | exact bI_val _ | (rw [bI_val]; omega)) ?_; intro v1 w1 hbuf hbel; rw [HLJ.out] at hbuf; obtain ⟨ao1, cap1, hv1⟩ := hbuf.shape; rw [HLENS.out 9 (by decide)] at hv1; have B1 := Lib.hid hbuf; have E1 := Lib.hid hbel; subst hv1; clear hbuf hbel)
            refine ⟨⟨9, ao1, cap1, by decide, by go_num, rfl, B1, E.out.trans E1.out⟩, ?_⟩
            simp [intOf]
          · have hb0 := B.out
            have HLJ : Hid ((T ++ (List.replicate 8 (0 : UInt8) ++ bytesBy ((s.size : Int) * 8) divs8).take 9) ++ [bI ((s.size : Int) * 8 / 281474976710656)] = T ++ (List.replicate 8 (0 : UInt8) ++ bytesBy ((s.size : Int) * 8) divs8).take 10) := by show _ = _; rw [List.append_assoc]; rfl
            go_wp2_with (at_builtin; refine buf_app' (c := bI ((s.size : Int) * 8 / 281474976710656)) rfl _ _ 26 rfl infoByte Tryd.underlying26 rfl hb0 rfl rfl (by rw [HLENS.out 9 (by decide)]; omega) hsz (by first | exact bI_val _ | (rw [bI_val]; omega)) ?_; intro v1 w1 hbuf hbel; rw [HLJ.out] at hbuf; obtain ⟨ao1, cap1, hv1⟩ := hbuf.shape; rw [HLENS.out 10 (by decide)] at hv1; have B1 := Lib.hid hbuf; have E1 := Lib.hid hbel; subst hv1; clear hbuf hbel)
            refine ⟨⟨10, ao1, cap1, by decide, by go_num, rfl, B1, E.out.trans E1.out⟩, ?_⟩
            simp [intOf]
          · have hb0 := B.out
            have HLJ : Hid ((T ++ (List.replicate 8 (0 : UInt8) ++ bytesBy ((s.size : Int) * 8) divs8).take 10) ++ [bI ((s.size : Int) * 8 / 1099511627776)] = T ++ (List.replicate 8 (0 : UInt8) ++ bytesBy ((s.size : Int) * 8) divs8).take 11) := by show _ = _; rw [List.append_assoc]; rfl
            go_wp2_with (at_builtin; refine buf_app' (c := bI ((s.size : Int) * 8 / 1099511627776)) rfl _ _ 26 rfl infoByte Tryd.underlying26 rfl hb0 rfl rfl (by rw [HLENS.out 10 (by decide)]; omega) hsz (by first | exact bI_val _ | (rw [bI_val]; omega)) ?_; intro v1 w1 hbuf hbel; rw [HLJ.out] at hbuf; obtain ⟨ao1, cap1, hv1⟩ := hbuf.shape; rw [HLENS.out 11 (by decide)] at hv1; have B1 := Lib.hid hbuf; have E1 := Lib.hid hbel; subst hv1; clear hbuf hbel)
            refine ⟨⟨11, ao1, cap1, by decide, by go_num, rfl, B1, E.out.trans E1.out⟩, ?_⟩
            simp [intOf]
          · have hb0 := B.out
            have HLJ : Hid ((T ++ (List.replicate 8 (0 : UInt8) ++ bytesBy ((s.size : Int) * 8) divs8).take 11) ++ [bI ((s.size : Int) * 8 / 4294967296)] = T ++ (List.replicate 8 (0 : UInt8) ++ bytesBy ((s.size : Int) * 8) divs8).take 12) := by show _ = _; rw [List.append_assoc]; rfl
            go_wp2_with (at_builtin; refine buf_app' (c := bI ((s.size : Int) * 8 / 4294967296)) rfl _ _ 26 rfl infoByte Tryd.underlying26 rfl hb0 rfl rfl (by rw [HLENS.out 11 (by decide)]; omega) hsz (by first | exact bI_val _ | (rw [bI_val]; omega)) ?_; intro v1 w1 hbuf hbel; rw [HLJ.out] at hbuf; obtain ⟨ao1, cap1, hv1⟩ := hbuf.shape; rw [HLENS.out 12 (by decide)] at hv1; have B1 := Lib.hid hbuf; have E1 := Lib.hid hbel; subst hv1; clear hbuf hbel)
            refine ⟨⟨12, ao1, cap1, by decide, by go_num, rfl, B1, E.out.trans E1.out⟩, ?_⟩
            simp [intOf]
          · have hb0 := B.out
            have HLJ : Hid ((T ++ (List.replicate 8 (0 : UInt8) ++ bytesBy ((s.size : Int) * 8) divs8).take 12) ++ [bI ((s.size : Int) * 8 / 16777216)] = T ++ (List.replicate 8 (0 : UInt8) ++ bytesBy ((s.size : Int) * 8) divs8).take 13) := by show _ = _; rw [List.append_assoc]; rfl
            go_wp2_with (at_builtin; refine buf_app' (c := bI ((s.size : Int) * 8 / 16777216)) rfl _ _ 26 rfl infoByte Tryd.underlying26 rfl hb0 rfl rfl (by rw [HLENS.out 12 (by decide)]; omega) hsz (by first | exact bI_val _ | (rw [bI_val]; omega)) ?_; intro v1 w1 hbuf hbel; rw [HLJ.out] at hbuf; obtain ⟨ao1, cap1, hv1⟩ := hbuf.shape; rw [HLENS.out 13 (by decide)] at hv1; have B1 := Lib.hid hbuf; have E1 := Lib.hid hbel; subst hv1; clear hbuf hbel)
            refine ⟨⟨13, ao1, cap1, by decide, by go_num, rfl, B1, E.out.trans E1.out⟩, ?_⟩
            simp [intOf]
          · have hb0 := B.out
            have HLJ : Hid ((T ++ (List.replicate 8 (0 : UInt8) ++ bytesBy ((s.size : Int) * 8) divs8).take 13) ++ [bI ((s.size : Int) * 8 / 65536)] = T ++ (List.replicate 8 (0 : UInt8) ++ bytesBy ((s.size : Int) * 8) divs8).take 14) := by show _ = _; rw [List.append_assoc]; rfl
            go_wp2_with (at_builtin; refine buf_app' (c := bI ((s.size : Int) * 8 / 65536)) rfl _ _ 26 rfl infoByte Tryd.underlying26 rfl hb0 rfl rfl (by rw [HLENS.out 13 (by decide)]; omega) hsz (by first | exact bI_val _ | (rw [bI_val]; omega)) ?_; intro v1 w1 hbuf hbel; rw [HLJ.out] at hbuf; obtain ⟨ao1, cap1, hv1⟩ := hbuf.shape; rw [HLENS.out 14 (by decide)] at hv1; have B1 := Lib.hid hbuf; have E1 := Lib.hid hbel; subst hv1; clear hbuf hbel)
            refine ⟨⟨14, ao1, cap1, by decide, by go_num, rfl, B1, E.out.trans E1.out⟩, ?_⟩
            simp [intOf]
          · have hb0 := B.out
            have HLJ : Hid ((T ++ (List.replicate 8 (0 : UInt8) ++ bytesBy ((s.size : Int) * 8) divs8).take 14) ++ [bI ((s.size : Int) * 8 / 256)] = T ++ (List.replicate 8 (0 : UInt8) ++ bytesBy ((s.size : Int) * 8) divs8).take 15) := by show _ = _; rw [List.append_assoc]; rfl
            go_wp2_with (at_builtin; refine buf_app' (c := bI ((s.size : Int) * 8 / 256)) rfl _ _ 26 rfl infoByte Tryd.underlying26 rfl hb0 rfl rfl (by rw [HLENS.out 14 (by decide)]; omega) hsz (by first | exact bI_val _ | (rw [bI_val]; omega)) ?_; intro v1 w1 hbuf hbel; rw [HLJ.out] at hbuf; obtain ⟨ao1, cap1, hv1⟩ := hbuf.shape; rw [HLENS.out 15 (by decide)] at hv1; have B1 := Lib.hid hbuf; have E1 := Lib.hid hbel; subst hv1; clear hbuf hbel)
            refine ⟨⟨15, ao1, cap1, by decide, by go_num, rfl, B1, E.out.trans E1.out⟩, ?_⟩
            simp [intOf]
          · have hb0 := B.out
            have HLJ : Hid ((T ++ (List.replicate 8 (0 : UInt8) ++ bytesBy ((s.size : Int) * 8) divs8).take 15) ++ [bI ((s.size : Int) * 8 / 1)] = T ++ (List.replicate 8 (0 : UInt8) ++ bytesBy ((s.size : Int) * 8) divs8).take 16) := by show _ = _; rw [List.append_assoc]; rfl
            go_wp2_with (at_builtin; refine buf_app' (c := bI ((s.size : Int) * 8 / 1)) rfl _ _ 26 rfl infoByte Tryd.underlying26 rfl hb0 rfl rfl (by rw [HLENS.out 15 (by decide)]; omega) hsz (by first | exact bI_val _ | (rw [bI_val]; omega)) ?_; intro v1 w1 hbuf hbel; rw [HLJ.out] at hbuf; obtain ⟨ao1, cap1, hv1⟩ := hbuf.shape; rw [HLENS.out 16 (by decide)] at hv1; have B1 := Lib.hid hbuf; have E1 := Lib.hid hbel; subst hv1; clear hbuf hbel)
            refine ⟨⟨16, ao1, cap1, by decide, by go_num, rfl, B1, E.out.trans E1.out⟩, ?_⟩
            simp [intOf]
        · obtain rfl : j = 16 := by omega
          have HC : Hid ((convert 26 9 (.slice ao (T.length + 16) cap)).run Tryd.prog wr = .ok (.string ⟨(T ++ (List.replicate 8 (0 : UInt8) ++ bytesBy ((s.size : Int) * 8) divs8).take 16).toArray⟩) wr) := B.out.text Tryd.underlying26 Tryd.underlying5 Tryd.underlying9
          have hn8 : ¬ (0 : Int) ≤ 15 - ((16 : Nat) : Int) := by omega
          have hend : Hid (T ++ (List.replicate 8 (0 : UInt8) ++ bytesBy ((s.size : Int) * 8) divs8).take 16 = msg5L R) := by
            show _ = _
            have ht : (List.replicate 8 (0 : UInt8) ++ bytesBy ((s.size : Int) * 8) divs8).take 16 = List.replicate 8 (0 : UInt8) ++ bytesBy ((s.size : Int) * 8) divs8 := rfl
            rw [ht]
            unfold msg5L
            rw [HZ.out, ← HKZ.out, HTT.out, HL.out]
          clear B hlt
          go_wp2_with fail
          rw [HC.out, hend.out]
          go_wp2_with fail
          go_ret
          exact ⟨rfl, E.out⟩
end Go.Proofs.YtnlhhjokaekdhaaDoor.R4
