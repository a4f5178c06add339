/- Law RawsTwice. (Made by tools/gen/lra6.py.) -/
import Derived.Test.YtbpdmbmooboimaaDoorLRah
set_option linter.unusedVariables false
set_option linter.unusedSimpArgs false
namespace Go.Proofs.YtbpdmbmooboimaaDoor.R11
open Go.RowKit R9 T10

theorem raw_put (S X P : ByteArray) (Q : List UInt8) (m : Int) (w : World) (hS : S.data.toList = P.data.toList ++ Q) (h : scan scr 0 (P.data.toList ++ Q) = P.data.toList.length) (hX : X.data.toList = cleanR P.data.toList) (hs : S.size ≤ 5000) (hT : RTab w) (hm : MaxOk m w) :
    Calls Tryd.prog 20 #[.string S, .int .i64 0, .int .i64 3, .string ⟨#[115, 99, 114, 105, 112, 116]⟩] w fun e w' => e = .returned (.tuple #[.string X, .int .i64 (P.size : Int)]) ∧ Below w.heap.size w w' := by
  have := Raw_any S ⟨#[115, 99, 114, 105, 112, 116]⟩ 0 3 m w hs (by decide) hT hm (Nat.zero_le _) (by decide)
  have e0 : (⟨#[115, 99, 114, 105, 112, 116]⟩ : ByteArray).data.toList = scr := rfl
  obtain ⟨h1, h2⟩ := raw_script h
  rw [e0, List.drop_zero, Nat.zero_add, hS, h1, h2, show P.data.toList.length = P.size by simp] at this
  have e1 : bytesOf (cleanR P.data.toList) = X := by apply ba_ext1; rw [bytesOf_data, hX]
  rw [e1] at this
  exact this

set_option maxHeartbeats 6400000 in
set_option maxRecDepth 100000 in
theorem rawsTwice_law (a b : ByteArray) (m : Int) (w : World) (hsa : a.size ≤ maxLen) (hsb : b.size ≤ maxLen) (hT : RTab w) (hm : MaxOk m w) :
    Calls Tryd.prog 8 #[.string a, .string b] w fun e w' => e = .returned (.bool true) ∧ Below w.heap.size w w' := by
  unfold maxLen at hsa hsb
  have HT := Lib.hid hT
  have HM := Lib.hid hm
  clear hT hm
  by_cases h1 : 500 < a.size
  · have g1 : (500 : Int) < a.size := by omega
    clear h1
    go_enter Tryd.func8, Tryd.ntmps8
    go_wp2_with fail
    refine (raw_any m _ HT.out HM.out).mono ?_
    rintro e w1 ⟨rfl, b1⟩
    have B1 : Hid (Below w.heap.size w w1) := b1
    clear b1
    go_wp2_with fail
    go_ret
    exact ⟨by exact rfl, B1.out⟩
  have g1 : ¬ (500 : Int) < a.size := by omega
  by_cases h2 : 500 < b.size
  · have g2 : (500 : Int) < b.size := by omega
    clear h1 h2
    go_enter Tryd.func8, Tryd.ntmps8
    go_wp2_with fail
    refine (raw_any m _ HT.out HM.out).mono ?_
    rintro e w1 ⟨rfl, b1⟩
    have B1 : Hid (Below w.heap.size w w1) := b1
    clear b1
    go_wp2_with fail
    go_ret
    exact ⟨by exact rfl, B1.out⟩
  have g2 : ¬ (500 : Int) < b.size := by omega
  obtain ⟨AB, hAB⟩ : ∃ AB, a ++ b = AB := ⟨_, rfl⟩
  have hABl : AB.data.toList = a.data.toList ++ b.data.toList := by rw [← hAB]; exact app_data a b
  have hABs : AB.size ≤ 1000 := by rw [← hAB, ByteArray.size_append]; omega
  have H1 := Lib.hid (fun W => has_any AB ⟨#[60]⟩ W (by omega) (by decide) (by decide))
  have H2 := Lib.hid (fun W => has_any AB ⟨#[45]⟩ W (by omega) (by decide) (by decide))
  rw [show (⟨#[60]⟩ : ByteArray).data.toList = [60] from rfl] at H1
  rw [show (⟨#[45]⟩ : ByteArray).data.toList = [45] from rfl] at H2
  cases h3 : (fnd AB.data.toList [60]).isSome with
  | true =>
    rw [h3] at H1
    clear h1 h2 h3 hABl
    go_enter Tryd.func8, Tryd.ntmps8
    go_wp2_with fail
    refine (H1.out _).mono ?_
    rintro e w1 ⟨rfl, rfl⟩
    go_wp2_with fail
    refine (raw_any m _ HT.out HM.out).mono ?_
    rintro e w2 ⟨rfl, b2⟩
    have B2 : Hid (Below w.heap.size w w2) := b2
    clear b2
    go_wp2_with fail
    go_ret
    exact ⟨by exact rfl, B2.out⟩
  | false =>
  rw [h3] at H1
  cases h4 : (fnd AB.data.toList [45]).isSome with
  | true =>
    rw [h4] at H2
    clear h1 h2 h3 h4 hABl
    go_enter Tryd.func8, Tryd.ntmps8
    go_wp2_with fail
    refine (H1.out _).mono ?_
    rintro e w1 ⟨rfl, rfl⟩
    go_wp2_with fail
    refine (H2.out _).mono ?_
    rintro e w2 ⟨rfl, rfl⟩
    go_wp2_with fail
    refine (raw_any m _ HT.out HM.out).mono ?_
    rintro e w3 ⟨rfl, b3⟩
    have B3 : Hid (Below w.heap.size w w3) := b3
    clear b3
    go_wp2_with fail
    go_ret
    exact ⟨by exact rfl, B3.out⟩
  | false =>
  rw [h4] at H2
  have n60 := fnd1_none (none_of_isSome h3)
  have n45 := fnd1_none (none_of_isSome h4)
  rw [hABl] at n60 n45
  have ha : ∀ c ∈ a.data.toList, c ≠ 60 ∧ c ≠ 45 := fun c hc => ⟨n60 c (List.mem_append_left _ hc), n45 c (List.mem_append_left _ hc)⟩
  have hb : ∀ c ∈ b.data.toList, c ≠ 60 ∧ c ≠ 45 := fun c hc => ⟨n60 c (List.mem_append_right _ hc), n45 c (List.mem_append_right _ hc)⟩
  have key : a.data.toList[0]? = some 62 ∨ a.data.toList[0]? ≠ some 62 := by
    by_cases h : a.data.toList[0]? = some 62
    · exact .inl h
    · exact .inr h
  rcases key with h62 | h62
  · have h0 : 0 < a.size := by have := (List.getElem?_eq_some_iff.1 h62).1; simpa using this
    have g3 : (0 : Int) < a.size := by omega
    have g4 : a[0] = 62 := by have := at_get h0; rw [h62] at this; exact (Option.some.inj this).symm
    have t0 := byte_is (z := 62) g4 rfl
    clear h1 h2 h3 h4 hABl n60 n45 ha hb h62 g4
    go_enter Tryd.func8, Tryd.ntmps8
    go_wp2_with fail
    refine (H1.out _).mono ?_
    rintro e w1 ⟨rfl, rfl⟩
    go_wp2_with fail
    refine (H2.out _).mono ?_
    rintro e w2 ⟨rfl, rfl⟩
    go_wp2_with fail
    refine (raw_any m _ HT.out HM.out).mono ?_
    rintro e w3 ⟨rfl, b3⟩
    have B3 : Hid (Below w.heap.size w w3) := b3
    clear b3
    go_wp2_with fail
    go_ret
    exact ⟨by exact rfl, B3.out⟩
  obtain ⟨C, hC0⟩ : ∃ C, bytesOf (cleanR a.data.toList) = C := ⟨_, rfl⟩
  have hC : C.data.toList = cleanR a.data.toList := by rw [← hC0]; exact bytesOf_data _
  obtain ⟨D, hD0⟩ : ∃ D, bytesOf (cleanR b.data.toList) = D := ⟨_, rfl⟩
  have hD : D.data.toList = cleanR b.data.toList := by rw [← hD0]; exact bytesOf_data _
  have HCa := Lib.hid (fun W => rclean_any a W (by omega))
  have HCb := Lib.hid (fun W => rclean_any b W (by omega))
  rw [hC0] at HCa
  rw [hD0] at HCb
  have zc0 : (⟨#[60, 33, 45, 45]⟩ : ByteArray).size = 4 := rfl
  have zc1 : (⟨#[60, 115, 99, 114, 105, 112, 116, 62]⟩ : ByteArray).size = 8 := rfl
  have zc2 : (⟨#[60, 47, 83, 67, 82, 73, 80, 84, 62]⟩ : ByteArray).size = 9 := rfl
  have zc3 : (⟨#[45, 45, 62]⟩ : ByteArray).size = 3 := rfl
  have zc4 : (⟨#[60, 115, 99, 114, 105, 112, 116, 115, 62]⟩ : ByteArray).size = 9 := rfl
  have zc5 : (⟨#[60, 47, 115, 99, 114, 105, 112, 116, 32, 62]⟩ : ByteArray).size = 10 := rfl
  have zc6 : (⟨#[60, 47, 115, 99, 114, 105, 112, 116, 62]⟩ : ByteArray).size = 9 := rfl
  have zc7 : (⟨#[60, 47, 115, 99, 114, 105, 112, 116, 47]⟩ : ByteArray).size = 9 := rfl
  obtain ⟨Pt, hPt⟩ : ∃ P, ((((((⟨#[60, 33, 45, 45]⟩ : ByteArray) ++ a) ++ (⟨#[60, 115, 99, 114, 105, 112, 116, 62]⟩ : ByteArray)) ++ b) ++ (⟨#[60, 47, 83, 67, 82, 73, 80, 84, 62]⟩ : ByteArray)) ++ a) = P := ⟨_, rfl⟩
  obtain ⟨St, hSt⟩ : ∃ S, (Pt ++ (⟨#[60, 47, 115, 99, 114, 105, 112, 116, 32, 62]⟩ : ByteArray)) = S := ⟨_, rfl⟩
  obtain ⟨Xt, hXt⟩ : ∃ X, ((((((⟨#[60, 33, 45, 45]⟩ : ByteArray) ++ C) ++ (⟨#[60, 115, 99, 114, 105, 112, 116, 62]⟩ : ByteArray)) ++ D) ++ (⟨#[60, 47, 83, 67, 82, 73, 80, 84, 62]⟩ : ByteArray)) ++ C) = X := ⟨_, rfl⟩
  have lSt : St.data.toList = Pt.data.toList ++ ([60, 47, 115, 99, 114, 105, 112, 116, 32, 62]) := by rw [← hSt]; simp [app_data, List.append_assoc]
  have lPt : Pt.size = 4 + a.size + 8 + b.size + 9 + a.size := by rw [← hPt]; simp only [ByteArray.size_append]; simp <;> omega
  have sct : scan scr 0 (Pt.data.toList ++ ([60, 47, 115, 99, 114, 105, 112, 116, 32, 62])) = Pt.data.toList.length := by
    have h := twice_t (a := a.data.toList) (b := b.data.toList) ha hb h62
    rw [show Pt.data.toList.length = Pt.size by simp, lPt]
    simp only [show a.data.toList.length = a.size by simp, show b.data.toList.length = b.size by simp] at h
    rw [← hPt]
    refine Eq.trans (congrArg (scan scr 0) ?_) (h.trans (by omega))
    simp [app_data, List.append_assoc, scr, scrU]
  have xXt : Xt.data.toList = cleanR Pt.data.toList := by rw [← hXt, ← hPt]; simp only [app_data, cleanR_app, hC, hD]; rfl
  have HRt := Lib.hid (fun W (h1 : RTab W) (h2 : MaxOk m W) => raw_put St Xt Pt _ m W lSt sct xXt (by rw [← hSt]; simp only [ByteArray.size_append, zc0, zc1, zc2, zc3, zc4, zc5, zc6, zc7]; omega) h1 h2)
  obtain ⟨Pu, hPu⟩ : ∃ P, ((((⟨#[60, 33, 45, 45]⟩ : ByteArray) ++ a) ++ (⟨#[45, 45, 62]⟩ : ByteArray)) ++ b) = P := ⟨_, rfl⟩
  obtain ⟨Su, hSu⟩ : ∃ S, ((Pu ++ (⟨#[60, 47, 115, 99, 114, 105, 112, 116, 62]⟩ : ByteArray)) ++ a) = S := ⟨_, rfl⟩
  obtain ⟨Xu, hXu⟩ : ∃ X, ((((⟨#[60, 33, 45, 45]⟩ : ByteArray) ++ C) ++ (⟨#[45, 45, 62]⟩ : ByteArray)) ++ D) = X := ⟨_, rfl⟩
  have lSu : Su.data.toList = Pu.data.toList ++ ([60, 47, 115, 99, 114, 105, 112, 116, 62] ++ a.data.toList) := by rw [← hSu]; simp [app_data, List.append_assoc]
  have lPu : Pu.size = 4 + a.size + 3 + b.size := by rw [← hPu]; simp only [ByteArray.size_append]; simp <;> omega
  have scu : scan scr 0 (Pu.data.toList ++ ([60, 47, 115, 99, 114, 105, 112, 116, 62] ++ a.data.toList)) = Pu.data.toList.length := by
    have h := twice_u (a := a.data.toList) (b := b.data.toList) ha hb h62
    rw [show Pu.data.toList.length = Pu.size by simp, lPu]
    simp only [show a.data.toList.length = a.size by simp, show b.data.toList.length = b.size by simp] at h
    rw [← hPu]
    refine Eq.trans (congrArg (scan scr 0) ?_) (h.trans (by omega))
    simp [app_data, List.append_assoc, scr, scrU]
  have xXu : Xu.data.toList = cleanR Pu.data.toList := by rw [← hXu, ← hPu]; simp only [app_data, cleanR_app, hC, hD]; rfl
  have HRu := Lib.hid (fun W (h1 : RTab W) (h2 : MaxOk m W) => raw_put Su Xu Pu _ m W lSu scu xXu (by rw [← hSu]; simp only [ByteArray.size_append, zc0, zc1, zc2, zc3, zc4, zc5, zc6, zc7]; omega) h1 h2)
  obtain ⟨Pv, hPv⟩ : ∃ P, ((((((⟨#[60, 33, 45, 45]⟩ : ByteArray) ++ a) ++ (⟨#[60, 115, 99, 114, 105, 112, 116, 62]⟩ : ByteArray)) ++ b) ++ (⟨#[45, 45, 62]⟩ : ByteArray)) ++ a) = P := ⟨_, rfl⟩
  obtain ⟨Sv, hSv⟩ : ∃ S, (Pv ++ (⟨#[60, 47, 115, 99, 114, 105, 112, 116, 47]⟩ : ByteArray)) = S := ⟨_, rfl⟩
  obtain ⟨Xv, hXv⟩ : ∃ X, ((((((⟨#[60, 33, 45, 45]⟩ : ByteArray) ++ C) ++ (⟨#[60, 115, 99, 114, 105, 112, 116, 62]⟩ : ByteArray)) ++ D) ++ (⟨#[45, 45, 62]⟩ : ByteArray)) ++ C) = X := ⟨_, rfl⟩
  have lSv : Sv.data.toList = Pv.data.toList ++ ([60, 47, 115, 99, 114, 105, 112, 116, 47]) := by rw [← hSv]; simp [app_data, List.append_assoc]
  have lPv : Pv.size = 4 + a.size + 8 + b.size + 3 + a.size := by rw [← hPv]; simp only [ByteArray.size_append]; simp <;> omega
  have scv : scan scr 0 (Pv.data.toList ++ ([60, 47, 115, 99, 114, 105, 112, 116, 47])) = Pv.data.toList.length := by
    have h := twice_v (a := a.data.toList) (b := b.data.toList) ha hb h62
    rw [show Pv.data.toList.length = Pv.size by simp, lPv]
    simp only [show a.data.toList.length = a.size by simp, show b.data.toList.length = b.size by simp] at h
    rw [← hPv]
    refine Eq.trans (congrArg (scan scr 0) ?_) (h.trans (by omega))
    simp [app_data, List.append_assoc, scr, scrU]
  have xXv : Xv.data.toList = cleanR Pv.data.toList := by rw [← hXv, ← hPv]; simp only [app_data, cleanR_app, hC, hD]; rfl
  have HRv := Lib.hid (fun W (h1 : RTab W) (h2 : MaxOk m W) => raw_put Sv Xv Pv _ m W lSv scv xXv (by rw [← hSv]; simp only [ByteArray.size_append, zc0, zc1, zc2, zc3, zc4, zc5, zc6, zc7]; omega) h1 h2)
  obtain ⟨Pw, hPw⟩ : ∃ P, ((((⟨#[60, 33, 45, 45]⟩ : ByteArray) ++ a) ++ (⟨#[60, 115, 99, 114, 105, 112, 116, 115, 62]⟩ : ByteArray)) ++ b) = P := ⟨_, rfl⟩
  obtain ⟨Sw, hSw⟩ : ∃ S, (Pw ++ (⟨#[60, 47, 115, 99, 114, 105, 112, 116, 62]⟩ : ByteArray)) = S := ⟨_, rfl⟩
  obtain ⟨Xw, hXw⟩ : ∃ X, ((((⟨#[60, 33, 45, 45]⟩ : ByteArray) ++ C) ++ (⟨#[60, 115, 99, 114, 105, 112, 116, 115, 62]⟩ : ByteArray)) ++ D) = X := ⟨_, rfl⟩
  have lSw : Sw.data.toList = Pw.data.toList ++ ([60, 47, 115, 99, 114, 105, 112, 116, 62]) := by rw [← hSw]; simp [app_data, List.append_assoc]
  have lPw : Pw.size = 4 + a.size + 9 + b.size := by rw [← hPw]; simp only [ByteArray.size_append]; simp <;> omega
  have scw : scan scr 0 (Pw.data.toList ++ ([60, 47, 115, 99, 114, 105, 112, 116, 62])) = Pw.data.toList.length := by
    have h := twice_w (a := a.data.toList) (b := b.data.toList) ha hb h62
    rw [show Pw.data.toList.length = Pw.size by simp, lPw]
    simp only [show a.data.toList.length = a.size by simp, show b.data.toList.length = b.size by simp] at h
    rw [← hPw]
    refine Eq.trans (congrArg (scan scr 0) ?_) (h.trans (by omega))
    simp [app_data, List.append_assoc, scr, scrU]
  have xXw : Xw.data.toList = cleanR Pw.data.toList := by rw [← hXw, ← hPw]; simp only [app_data, cleanR_app, hC, hD]; rfl
  have HRw := Lib.hid (fun W (h1 : RTab W) (h2 : MaxOk m W) => raw_put Sw Xw Pw _ m W lSw scw xXw (by rw [← hSw]; simp only [ByteArray.size_append, zc0, zc1, zc2, zc3, zc4, zc5, zc6, zc7]; omega) h1 h2)
  have bPt : Pt.size ≤ 4000 := by omega
  have bPu : Pu.size ≤ 4000 := by omega
  have bPv : Pv.size ≤ 4000 := by omega
  have bPw : Pw.size ≤ 4000 := by omega
  have bC : C.size ≤ 1500 := by rw [← hC0, bytesOf_size]; have := cleanR_len a.data.toList; rw [show a.data.toList.length = a.size by simp] at this; omega
  have bD : D.size ≤ 1500 := by rw [← hD0, bytesOf_size]; have := cleanR_len b.data.toList; rw [show b.data.toList.length = b.size by simp] at this; omega
  have et := str_self Xt
  have eu := str_self Xu
  have ev := str_self Xv
  have ew := str_self Xw
  have zt : (7 : Int) + a.size + b.size = (Pu.size : Int) := by rw [lPu]; omega
  obtain ⟨A2, hA2⟩ : ∃ A2, 2 * (a.size : Int) = A2 := ⟨_, rfl⟩
  have zv : (15 : Int) + A2 + b.size = (Pv.size : Int) := by rw [lPv]; omega
  have zw : (13 : Int) + a.size + b.size = (Pw.size : Int) := by rw [lPw]; omega
  have it := int_self Pt.size
  have iu := int_self Pu.size
  have iv := int_self Pv.size
  have iw := int_self Pw.size
  have hfin : (0 : Int) < a.size ∧ (∃ c, a[0]? = some c) ∨ ¬ (0 : Int) < a.size := by
    by_cases h : 0 < a.size
    · exact .inl ⟨by omega, ⟨a[0], by simp [h]⟩⟩
    · exact .inr (by omega)
  clear h1 h2 h3 h4 hABl n60 n45 ha hb hC0 hD0 hC hD lSt lSu lSv lSw lPt lPu lPv lPw sct scu scv scw xXt xXu xXv xXw hfin zc0 zc1 zc2 zc3 zc4 zc5 zc6 zc7
  by_cases h0 : 0 < a.size
  · have g3 : (0 : Int) < a.size := by omega
    have g4 : a[0] ≠ 62 := by intro e; apply h62; have := at_get h0; rw [e] at this; exact this
    have t0 := byte_not (z := 62) g4 rfl
    clear h62 g4
    go_enter Tryd.func8, Tryd.ntmps8
    go_wp2_with fail
    refine (H1.out _).mono ?_
    rintro e w1 ⟨rfl, rfl⟩
    go_wp2_with fail
    refine (H2.out _).mono ?_
    rintro e w2 ⟨rfl, rfl⟩
    go_wp2_with fail
    refine (HRt.out _ (HT.out.below (Below.refl _ _)) (HM.out.below (Below.refl _ _))).mono ?_
    rintro e w3 ⟨rfl, b3⟩
    have B3 : Hid (Below w.heap.size w w3) := b3
    clear b3
    go_wp2_with fail
    refine (HRu.out _ (HT.out.below B3.out) (HM.out.below B3.out)).mono ?_
    rintro e w4 ⟨rfl, b4⟩
    have B4 : Hid (Below w.heap.size w w4) := B3.out.trans (b4.mono B3.out.size)
    clear b4
    go_wp2_with fail
    refine (HRv.out _ (HT.out.below B4.out) (HM.out.below B4.out)).mono ?_
    rintro e w5 ⟨rfl, b5⟩
    have B5 : Hid (Below w.heap.size w w5) := B4.out.trans (b5.mono B4.out.size)
    clear b5
    go_wp2_with fail
    refine (HRw.out _ (HT.out.below B5.out) (HM.out.below B5.out)).mono ?_
    rintro e w6 ⟨rfl, b6⟩
    have B6 : Hid (Below w.heap.size w w6) := B5.out.trans (b6.mono B5.out.size)
    clear b6
    go_wp2_with fail
    refine (HCa.out _).mono ?_
    rintro e w7 ⟨rfl, rfl⟩
    go_wp2_with fail
    refine (HCb.out _).mono ?_
    rintro e w8 ⟨rfl, rfl⟩
    go_wp2_with fail
    refine (raw_any m _ (HT.out.below B6.out) (HM.out.below B6.out)).mono ?_
    rintro e w9 ⟨rfl, b9⟩
    have B9 : Hid (Below w.heap.size w w9) := B6.out.trans (b9.mono B6.out.size)
    clear b9
    go_wp2_with fail
    go_ret
    exact ⟨by exact rfl, B9.out⟩
  · have g3 : ¬ (0 : Int) < a.size := by omega
    clear h62
    go_enter Tryd.func8, Tryd.ntmps8
    go_wp2_with fail
    refine (H1.out _).mono ?_
    rintro e w1 ⟨rfl, rfl⟩
    go_wp2_with fail
    refine (H2.out _).mono ?_
    rintro e w2 ⟨rfl, rfl⟩
    go_wp2_with fail
    refine (HRt.out _ (HT.out.below (Below.refl _ _)) (HM.out.below (Below.refl _ _))).mono ?_
    rintro e w3 ⟨rfl, b3⟩
    have B3 : Hid (Below w.heap.size w w3) := b3
    clear b3
    go_wp2_with fail
    refine (HRu.out _ (HT.out.below B3.out) (HM.out.below B3.out)).mono ?_
    rintro e w4 ⟨rfl, b4⟩
    have B4 : Hid (Below w.heap.size w w4) := B3.out.trans (b4.mono B3.out.size)
    clear b4
    go_wp2_with fail
    refine (HRv.out _ (HT.out.below B4.out) (HM.out.below B4.out)).mono ?_
    rintro e w5 ⟨rfl, b5⟩
    have B5 : Hid (Below w.heap.size w w5) := B4.out.trans (b5.mono B4.out.size)
    clear b5
    go_wp2_with fail
    refine (HRw.out _ (HT.out.below B5.out) (HM.out.below B5.out)).mono ?_
    rintro e w6 ⟨rfl, b6⟩
    have B6 : Hid (Below w.heap.size w w6) := B5.out.trans (b6.mono B5.out.size)
    clear b6
    go_wp2_with fail
    refine (HCa.out _).mono ?_
    rintro e w7 ⟨rfl, rfl⟩
    go_wp2_with fail
    refine (HCb.out _).mono ?_
    rintro e w8 ⟨rfl, rfl⟩
    go_wp2_with fail
    refine (raw_any m _ (HT.out.below B6.out) (HM.out.below B6.out)).mono ?_
    rintro e w9 ⟨rfl, b9⟩
    have B9 : Hid (Below w.heap.size w w9) := B6.out.trans (b9.mono B6.out.size)
    clear b9
    go_wp2_with fail
    go_ret
    exact ⟨by exact rfl, B9.out⟩
end Go.Proofs.YtbpdmbmooboimaaDoor.R11
