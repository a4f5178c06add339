/- The laws BaseWay and BaseBack. -/
import Derived.Test.YtfbmabbehiicmaaDoorB64o
set_option linter.unusedVariables false
namespace Go.Proofs.YtfbmabbehiicmaaDoor
open Go.RowKit

theorem decE_len {l u : List UInt8} (h : decE l = some u) : u.length ≤ l.length := by
  have h2 := h
  rw [decE_eq] at h
  split at h
  · cases h
  · rename_i hl
    have e := enc_decC _ u hl h
    have e2 := encC_len u
    have e3 := unpad_len l
    rw [e, plain_len] at e2
    omega
set_option maxHeartbeats 4000000 in
set_option maxRecDepth 100000 in
theorem baseWay_law (s : ByteArray) (m : Int) (w : World) (hs : s.size ≤ maxLen) (hm : MaxOk m w) :
    Calls Tryd.prog 9 #[.string s] w fun e w' => e = .returned (.bool true) ∧ Below w.heap.size w w' := by
  have HM := Lib.hid hm
  clear hm
  unfold maxLen at hs
  by_cases h1 : 2000 < s.size
  · go_enter Tryd.func9, Tryd.ntmps9
    go_wp2_with fail
    refine (lettered_any m _ HM.out).mono ?_
    rintro e w1 ⟨rfl, b1⟩
    go_wp2_with fail
    go_ret
    exact ⟨rfl, b1⟩
  · cases hd : decE s.data.toList with
    | none =>
      have HD := Lib.hid hd
      clear hd
      go_enter Tryd.func9, Tryd.ntmps9
      go_wp2_with fail
      refine (bdecode_any s _ (by omega)).mono ?_
      rintro e w1 ⟨d1, b1⟩
      obtain rfl : e = .returned (.tuple #[.string ⟨#[]⟩, .int .i64 30]) := decRes_is d1 HD.out
      clear d1
      go_wp2_with fail
      refine (lettered_any m _ (HM.out.below b1)).mono ?_
      rintro e w2 ⟨rfl, b2⟩
      go_wp2_with fail
      go_ret
      exact ⟨rfl, b1.trans (b2.mono b1.size)⟩
    | some u =>
      obtain ⟨U, hU⟩ : ∃ U : ByteArray, (⟨u.toArray⟩ : ByteArray) = U := ⟨_, rfl⟩
      have hUs : U.size ≤ 2000 := by
        have := decE_len hd
        rw [← hU]
        show u.toArray.size ≤ _
        rw [List.size_toArray]
        simp at this
        omega
      have hUd : Hid (U.data.toList = u) := by show U.data.toList = u; rw [← hU]
      obtain ⟨E, hE⟩ : ∃ E : ByteArray, (⟨(encE U.data.toList).toArray⟩ : ByteArray) = E := ⟨_, rfl⟩
      have hEs : E.size ≤ 10000 := by rw [← hE, encB_size]; omega
      have hEd : Hid (E.data.toList = encE u) := by show E.data.toList = _; rw [← hE, ← hUd.out]
      obtain ⟨P, hP⟩ : ∃ P : ByteArray, (⟨(plainL s.data.toList).toArray⟩ : ByteArray) = P := ⟨_, rfl⟩
      have hPs : P.size ≤ 2000 := by
        rw [← hP]
        show (plainL s.data.toList).toArray.size ≤ _
        rw [List.size_toArray, plain_len]
        simp
        omega
      have hPd : Hid (P.data.toList = plainL s.data.toList) := by show P.data.toList = _; rw [← hP]
      have hway : Hid ((⟨(bareL E.data.toList).toArray⟩ : ByteArray) = ⟨(bareL P.data.toList).toArray⟩) := by
        show (⟨(bareL E.data.toList).toArray⟩ : ByteArray) = ⟨(bareL P.data.toList).toArray⟩
        rw [hEd.out, hPd.out, way_eq hd]
      have HD := Lib.hid hd
      have HU := Lib.hid hU
      have HE := Lib.hid hE
      have HP := Lib.hid hP
      clear hd hU hE hP
      go_enter Tryd.func9, Tryd.ntmps9
      go_wp2_with fail
      refine (bdecode_any s _ (by omega)).mono ?_
      rintro e w1 ⟨d1, b1⟩
      obtain rfl : e = .returned (.tuple #[.string U, .int .i64 0]) := by rw [← HU.out]; exact decRes_is d1 HD.out
      clear d1
      go_wp2_with fail
      refine (bencode_any U _ (by omega)).mono ?_
      rintro e w2 ⟨rfl, b2⟩
      rw [HE.out]
      have c2 := b1.trans (b2.mono b1.size)
      go_wp2_with fail
      refine (bare_any E _ (by omega)).mono ?_
      rintro e w' ⟨rfl, rfl⟩
      rw [hway.out]
      go_wp2_with fail
      refine (bplain_any s m _ (by omega) (HM.out.below c2)).mono ?_
      rintro e w3 ⟨rfl, b3⟩
      rw [HP.out]
      have c3 := c2.trans (b3.mono c2.size)
      go_wp2_with fail
      refine (bare_any P _ (by omega)).mono ?_
      rintro e w' ⟨rfl, rfl⟩
      go_wp2_with fail
      refine (lettered_any m _ (HM.out.below c3)).mono ?_
      rintro e w4 ⟨rfl, b4⟩
      go_wp2_with fail
      go_ret
      exact ⟨rfl, c3.trans (b4.mono c3.size)⟩

theorem tri_at0 (a b c : Value) (w : World) : (Instr.index 34 (.agg #[a, b, c]) (.int .i64 0)).run Tryd.prog w = .ok a w := by kernel_rfl
theorem tri_at1 (a b c : Value) (w : World) : (Instr.index 34 (.agg #[a, b, c]) (.int .i64 1)).run Tryd.prog w = .ok b w := by kernel_rfl
theorem tri_at2 (a b c : Value) (w : World) : (Instr.index 34 (.agg #[a, b, c]) (.int .i64 2)).run Tryd.prog w = .ok c w := by kernel_rfl
set_option maxHeartbeats 4000000 in
set_option maxRecDepth 100000 in
theorem baseBack_law (s : ByteArray) (tv : Value) (bs : List Bool) (m : Int) (w : World) (hs : s.size ≤ maxLen) (htv : SliceIn w tv (bs.map Value.bool)) (hm : MaxOk m w) :
    Calls Tryd.prog 8 #[.string s, tv] w fun e w' => e = .returned (.bool true) ∧ Below w.heap.size w w' := by
  have HM := Lib.hid hm
  clear hm
  unfold maxLen at hs
  have HTV := Lib.hid htv
  clear htv
  by_cases h1 : 2000 < s.size
  · go_enter Tryd.func8, Tryd.ntmps8
    go_wp2_with fail
    refine (lettered_any m _ HM.out).mono ?_
    rintro e w1 ⟨rfl, b1⟩
    go_wp2_with fail
    go_ret
    exact ⟨rfl, b1⟩
  · obtain ⟨T, hT⟩ : ∃ T : ByteArray, (⟨(encE s.data.toList).toArray⟩ : ByteArray) = T := ⟨_, rfl⟩
    have hTs : T.size = (s.size + 2) / 3 * 4 := by rw [← hT, encB_size]
    have hTd : Hid (T.data.toList = encE s.data.toList) := by show T.data.toList = _; rw [← hT]
    obtain ⟨B, hB⟩ : ∃ B : ByteArray, (⟨(bareL T.data.toList).toArray⟩ : ByteArray) = B := ⟨_, rfl⟩
    have hBd : Hid (B.data.toList = encC s.data.toList) := by show B.data.toList = _; rw [← hB, ← bare_enc, ← hTd.out]
    have hBs : B.size ≤ 4000 := by
      have h2 := encC_len s.data.toList
      have h3 : B.data.toList.length = B.size := by simp
      rw [hBd.out] at h3
      simp at h2
      omega
    have hd1 : Hid (decE T.data.toList = some s.data.toList) := by show decE T.data.toList = _; rw [hTd.out, decE_encE]
    have hd2 : Hid (decE B.data.toList = some s.data.toList) := by show decE B.data.toList = _; rw [hBd.out, decE_encC]
    have hTp : Hid (plainL T.data.toList = T.data.toList) := by show plainL T.data.toList = T.data.toList; rw [hTd.out, plain_enc]
    have hT4 : T.size ≤ 4000 := by omega
    have hq : ((T.size : Int) != ((s.size : Int) + 2) / 3 * 4) = false := by simp; omega
    have HT := Lib.hid hT
    have HB := Lib.hid hB
    clear hT hB hTs
    go_enter Tryd.func8, Tryd.ntmps8
    go_wp2_with fail
    refine (bencode_any s _ (by omega)).mono ?_
    rintro e w1 ⟨rfl, b1⟩
    rw [HT.out]
    go_wp2_with fail
    refine (bare_any T _ (by omega)).mono ?_
    rintro e w' ⟨rfl, rfl⟩
    rw [HB.out]
    go_wp2_with fail
    refine (other_any T tv bs _ (by omega) (HTV.out.below b1)).mono ?_
    rintro e w2 ⟨⟨L, rfl, hLs, hLp⟩, b2⟩
    have c2 := b1.trans (b2.mono b1.size)
    have hL4 : L.size ≤ 4000 := by omega
    have hd3 : Hid (decE L.data.toList = some s.data.toList) := by show decE L.data.toList = _; rw [← decE_plain, hLp, hTp.out, hd1.out]
    clear hLs hLp
    have i0 := fun w => tri_at0 (.string T) (.string B) (.string L) w
    have i1 := fun w => tri_at1 (.string T) (.string B) (.string L) w
    have i2 := fun w => tri_at2 (.string T) (.string B) (.string L) w
    go_wp2_with fail
    go_loopw [31] (fun i wr => ∃ j : Nat, j ≤ 3 ∧ i = .int .i64 j ∧ Hid (Below w.heap.size w wr)) (fun i _ => 3 - (intOf i).toNat)
    case atStart => exact ⟨0, by omega, rfl, c2⟩
    case round =>
      obtain ⟨j, hj, rfl, HBl⟩ := hrel
      obtain h | h | h | h : j = 0 ∨ j = 1 ∨ j = 2 ∨ j = 3 := by omega
      · subst h
        go_wp2_with fail
        refine (bdecode_any T _ (by omega)).mono ?_
        rintro e w3 ⟨d3, b3⟩
        obtain rfl : e = .returned (.tuple #[.string s, .int .i64 0]) := decRes_is d3 hd1.out
        clear d3
        go_wp2_with fail
        go_roundw
        case rel => exact ⟨1, by omega, by go_num, HBl.out.trans (b3.mono HBl.out.size)⟩
        case measure => simp [intOf]
      · subst h
        go_wp2_with fail
        refine (bdecode_any B _ (by omega)).mono ?_
        rintro e w3 ⟨d3, b3⟩
        obtain rfl : e = .returned (.tuple #[.string s, .int .i64 0]) := decRes_is d3 hd2.out
        clear d3
        go_wp2_with fail
        go_roundw
        case rel => exact ⟨2, by omega, by go_num, HBl.out.trans (b3.mono HBl.out.size)⟩
        case measure => simp [intOf]
      · subst h
        go_wp2_with fail
        refine (bdecode_any L _ (by omega)).mono ?_
        rintro e w3 ⟨d3, b3⟩
        obtain rfl : e = .returned (.tuple #[.string s, .int .i64 0]) := decRes_is d3 hd3.out
        clear d3
        go_wp2_with fail
        go_roundw
        case rel => exact ⟨3, by omega, by go_num, HBl.out.trans (b3.mono HBl.out.size)⟩
        case measure => simp [intOf]
      · subst h
        go_wp2_with fail
        refine (other_any T tv bs _ (by omega) (HTV.out.below HBl.out)).mono ?_
        rintro e w3 ⟨⟨M, rfl, hMs, hMp⟩, b3⟩
        have c3 := HBl.out.trans (b3.mono HBl.out.size)
        have hM4 : M.size ≤ 4000 := by omega
        have HMP : Hid ((⟨(plainL M.data.toList).toArray⟩ : ByteArray) = T) := by
          show (⟨(plainL M.data.toList).toArray⟩ : ByteArray) = T
          rw [hMp, hTp.out]
        clear hMs hMp
        go_wp2_with fail
        refine (bplain_any M m _ (by omega) (HM.out.below c3)).mono ?_
        rintro e w4 ⟨rfl, b4⟩
        rw [HMP.out]
        have c4 := c3.trans (b4.mono c3.size)
        go_wp2_with fail
        refine (lettered_any m _ (HM.out.below c4)).mono ?_
        rintro e w5 ⟨rfl, b5⟩
        go_wp2_with fail
        go_ret
        exact ⟨rfl, c4.trans (b5.mono c4.size)⟩
end Go.Proofs.YtfbmabbehiicmaaDoor
