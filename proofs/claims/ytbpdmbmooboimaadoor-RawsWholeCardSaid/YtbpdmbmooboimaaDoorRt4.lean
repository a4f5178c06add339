/- lazaretref09.Find. -/
import Derived.Test.YtbpdmbmooboimaaDoorRt2
import Derived.Test.YtbpdmbmooboimaaDoorRt3
set_option linter.unusedVariables false
set_option linter.unusedSimpArgs false
namespace Go.Proofs.YtbpdmbmooboimaaDoor.R9
open Go.RowKit

theorem pref_one (r : List UInt8) (c : UInt8) : pref r [c] = (r.head? == some c) := by
  cases r with
  | nil => rfl
  | cons x t => simp [pref]
theorem pref_two (r : List UInt8) (c d : UInt8) (h : r.head? = some c) : pref r [c, d] = ((r.drop 1).head? == some d) := by
  cases r with
  | nil => cases h
  | cons x t =>
    injection h with h
    subst h
    cases t with
    | nil => simp [pref]
    | cons y t => simp [pref]
theorem ref_none {A a : Nat} {r : List UInt8} {attr : Bool} (h : refN r attr = none) : ret3 A (nameR r attr) = .tuple #[.string ⟨#[]⟩, .int .i64 0, .bool false] := by
  rw [← nameR_same] at h
  cases hn : nameR r attr with
  | none => rfl
  | some q => rw [hn] at h; cases h
theorem ref_some {A : Nat} {r : List UInt8} {attr : Bool} {tx : List UInt8} {e : Nat} (h : refN r attr = some (tx, e)) : ret3 A (nameR r attr) = .tuple #[.string ⟨tx.toArray⟩, .int .i64 ((A + e : Nat) : Int), .bool true] := by
  rw [← nameR_same] at h
  cases hn : nameR r attr with
  | none => rw [hn] at h; cases h
  | some q =>
    obtain ⟨c, k⟩ := q
    rw [hn] at h
    injection h with h
    injection h with h1 h2
    subst h1 h2
    rfl
theorem best_in {r : List UInt8} {tx : List UInt8} {e : Nat} (h : bestL r namesT = some (tx, e)) : 2 ≤ e ∧ e ≤ r.length := by
  rcases (fold_inv r namesT none).1 with h1 | ⟨y, hy, e', h1, h2⟩
  · unfold bestL at h; rw [h1] at h; cases h
  · unfold bestL at h
    rw [h] at h2
    injection h2 with h2
    injection h2 with _ h2
    subst h2
    obtain ⟨hp, l1, l2, l3⟩ := end_le h1
    have h3 := (names_all y hy).1.1
    have h4 := congrArg List.length (pref_take hp)
    rw [List.length_take] at h4
    rcases Nat.lt_or_ge y.1.length e with h5 | h5
    · have h6 := (List.getElem?_eq_some_iff.1 (l3 (by omega))).1
      omega
    · omega

set_option maxHeartbeats 6400000 in
set_option maxRecDepth 100000 in
theorem rfind_in (s : ByteArray) (a : Nat) (attr : Bool) (w : World) (ha : a < s.size) (hs : s.size ≤ 5000) :
    Calls Tryd.prog 52 #[.string s, .int .i64 a, .bool attr] w fun e w' => e = .returned (ret3 a (findS (s.data.toList.drop a) attr)) ∧ Below w.heap.size w w' := by
  obtain ⟨F, hF⟩ : ∃ F, findS (s.data.toList.drop a) attr = F := ⟨_, rfl⟩
  have hhd : (s.data.toList.drop a).head? = some s[a] := by
    have hl : a < s.data.toList.length := by simpa using ha
    rw [List.head?_drop, List.getElem?_eq_getElem hl]
    rfl
  have hai : (a : Int) < s.size := by omega
  have hai2 : ¬ (s.size : Int) ≤ a := by omega
  have ha0 : ¬ (a : Int) < 0 := by omega
  rw [hF]
  by_cases h38 : s[a] = 38
  · have hq : ((s[a].toNat : Int) != 38) = false := by rw [h38]; rfl
    have HHA := begins_any s ⟨#[38, 35]⟩ a w (by omega) hs (by decide)
    have eA : pref (s.data.toList.drop a) (⟨#[38, 35]⟩ : ByteArray).data.toList = ((s.data.toList.drop (a + 1)).head? == some 35) := by
      have := pref_two (s.data.toList.drop a) 38 35 (by rw [hhd, h38])
      rw [List.drop_drop] at this
      exact this
    rw [eA] at HHA
    rw [findS, hhd, if_pos (by rw [h38]), List.drop_drop, List.drop_drop] at hF
    by_cases h35 : (s.data.toList.drop (a + 1)).head? = some 35
    · rw [if_pos h35] at hF
      have hb : ((s.data.toList.drop (a + 1)).head? == some 35) = true := by rw [h35]; rfl
      rw [hb] at HHA
      have HHA := Lib.hid HHA
      have hA2 : a + 2 ≤ s.size := by
        have h1 : a + 1 < s.data.toList.length := by
          rw [List.head?_drop] at h35
          exact (List.getElem?_eq_some_iff.1 h35).1
        have h2 : s.data.toList.length = s.size := by simp
        omega
      obtain ⟨B, hB⟩ : ∃ B, a + 2 = B := ⟨_, rfl⟩
      have hBi : (a : Int) + 2 = (B : Int) := by omega
      have hBs : B ≤ s.size := by omega
      rw [hB] at hF
      have HF : Hid (ret3 B (numR (s.data.toList.drop B)) = ret3 a F) := by show _ = _; rw [← hF, ← hB, ret3_more]
      have HX1 := begins_any s ⟨#[120]⟩ B w hBs hs (by decide)
      have HX2 := begins_any s ⟨#[88]⟩ B w hBs hs (by decide)
      have e1 : pref (s.data.toList.drop B) (⟨#[120]⟩ : ByteArray).data.toList = ((s.data.toList.drop B).head? == some 120) := pref_one _ _
      have e2 : pref (s.data.toList.drop B) (⟨#[88]⟩ : ByteArray).data.toList = ((s.data.toList.drop B).head? == some 88) := pref_one _ _
      rw [e1] at HX1
      rw [e2] at HX2
      clear hF hhd h38 eA h35 hb hA2 hB e1 e2
      by_cases hx1 : (s.data.toList.drop B).head? = some 120
      · have HB : Hid (baseK (s.data.toList.drop B) = (16, 1)) := by show _ = _; unfold baseK; rw [hx1]; rfl
        have hl : B < s.size := by
          rw [List.head?_drop] at hx1
          have h1 := (List.getElem?_eq_some_iff.1 hx1).1
          have h2 : s.data.toList.length = s.size := by simp
          omega
        rw [show ((s.data.toList.drop B).head? == some 120) = true by rw [hx1]; rfl] at HX1
        have HH1 := Lib.hid HX1
        obtain ⟨A, hA⟩ : ∃ A, B + 1 = A := ⟨_, rfl⟩
        have HA := Lib.hid hA
        have HA1 : Hid (A ≤ s.size) := by show _ ≤ _; omega
        have hA1i : (B : Int) + 1 = (A : Int) := by omega
        clear hA hx1 HX1 HX2
        go_enter Tryd.func52, Tryd.ntmps52
        go_wp2_with fail
        refine HHA.out.mono ?_
        rintro e w' ⟨rfl, rfl⟩
        go_wp2_with fail
        refine HH1.out.mono ?_
        rintro e w' ⟨rfl, rfl⟩
        go_wp2_with fail
        clear hq
        refine loop_out (rnloop_any _ rfl _ s 16 A (by decide) HA1.out hs ?hQ1) (fun _ _ h => h)
        intro u13 u14 u49 u50 u51 u52 u53 u54 u55 u56 u57 u58 u59 u60 u61 u62 u63 u64 u65 u66 u67 u68 u69 u70 u71 u72 u73 u74 u75 u76
        obtain ⟨D, hD⟩ : ∃ D, (s.data.toList.drop A).takeWhile (isD 16) = D := ⟨_, rfl⟩
        rw [hD]
        have hall : D.all (isD 16) = true := by rw [← hD]; exact List.all_takeWhile
        have hnb := numV_in 16 (by decide) D hall
        have hDl : A + D.length ≤ s.size := by
          have h1 := (List.takeWhile_prefix (isD 16) (l := s.data.toList.drop A)).length_le
          rw [hD, List.length_drop] at h1
          have h2 : s.data.toList.length = s.size := by simp
          have h3 := HA1.out
          omega
        have HR : Hid (numR (s.data.toList.drop B) = if D = [] then none else some (charN (numV 16 D), 1 + D.length + (if (s.data.toList.drop (A + D.length)).head? = some 59 then 1 else 0))) := by
          show _ = _
          unfold numR
          rw [HB.out]
          simp only [List.drop_drop, HA.out, hD]
          rw [← HA.out]; simp only [Nat.add_assoc]
        obtain ⟨n, hn⟩ : ∃ n, numV 16 D = n := ⟨_, rfl⟩
        rw [hn] at hnb HR
        rw [hn]
        clear hn hall
        by_cases hD0 : D = []
        · rw [if_pos hD0] at HR
          have hl0 : D.length = 0 := by rw [hD0]; rfl
          rw [hl0]
          clear hD hD0 hl0 hDl hnb
          go_wp2_with fail
          go_ret3
          exact ⟨by rw [← HF.out, HR.out]; rfl, Below.refl _ _⟩
        · rw [if_neg hD0] at HR
          obtain ⟨J, hJ⟩ : ∃ J, A + D.length = J := ⟨_, rfl⟩
          have hlen : 0 < D.length := List.length_pos_iff.2 hD0
          rw [hJ] at HR hDl
          rw [hJ]
          obtain ⟨dl, hdl⟩ : ∃ d, D.length = d := ⟨_, rfl⟩
          rw [hdl] at HR hlen hJ
          rw [hdl]
          have hne : ((dl : Int) == 0) = false := by rw [beq_eq_false_iff_ne]; omega
          have HCH := Lib.hid (rchar_any n w hnb.1 hnb.2)
          obtain ⟨C, hC⟩ : ∃ C, charN n = C := ⟨_, rfl⟩
          rw [hC] at HCH HR
          have HJ := Lib.hid hJ
          have HAL := Lib.hid (HA.out)
          have HB59 := begins_any s ⟨#[59]⟩ J w hDl hs (by decide)
          have e59 : pref (s.data.toList.drop J) (⟨#[59]⟩ : ByteArray).data.toList = ((s.data.toList.drop J).head? == some 59) := pref_one _ _
          rw [e59] at HB59
          clear hJ hlen hD0 hD hC hnb hdl e59
          by_cases h59 : (s.data.toList.drop J).head? = some 59
          · have hb : ((s.data.toList.drop J).head? == some 59) = true := by rw [h59]; rfl
            rw [hb] at HB59
            rw [if_pos h59] at HR
            have HH59 := Lib.hid HB59
            clear h59 hb HB59
            go_wp2_with fail
            refine HH59.out.mono ?_
            rintro e w' ⟨rfl, rfl⟩
            go_wp2_with fail
            refine HCH.out.mono ?_
            rintro e w' ⟨rfl, rfl⟩
            go_wp2_with fail
            go_ret3
            refine ⟨?_, Below.refl _ _⟩
            rw [← HF.out, HR.out]
            have h1 := HJ.out
            have h2 := HAL.out
            exact ret_num (by omega)
          · have hb : ((s.data.toList.drop J).head? == some 59) = false := by rw [beq_eq_false_iff_ne]; exact h59
            rw [hb] at HB59
            rw [if_neg h59] at HR
            have HH59 := Lib.hid HB59
            clear h59 hb HB59
            go_wp2_with fail
            refine HH59.out.mono ?_
            rintro e w' ⟨rfl, rfl⟩
            go_wp2_with fail
            refine HCH.out.mono ?_
            rintro e w' ⟨rfl, rfl⟩
            go_wp2_with fail
            go_ret3
            refine ⟨?_, Below.refl _ _⟩
            rw [← HF.out, HR.out]
            have h1 := HJ.out
            have h2 := HAL.out
            exact ret_num (by omega)
      · rw [show ((s.data.toList.drop B).head? == some 120) = false by rw [beq_eq_false_iff_ne]; exact hx1] at HX1
        have HH1 := Lib.hid HX1
        by_cases hx2 : (s.data.toList.drop B).head? = some 88
        · have HB : Hid (baseK (s.data.toList.drop B) = (16, 1)) := by show _ = _; unfold baseK; rw [hx2]; rfl
          have hl : B < s.size := by
            rw [List.head?_drop] at hx2
            have h1 := (List.getElem?_eq_some_iff.1 hx2).1
            have h2 : s.data.toList.length = s.size := by simp
            omega
          rw [show ((s.data.toList.drop B).head? == some 88) = true by rw [hx2]; rfl] at HX2
          have HH2 := Lib.hid HX2
          obtain ⟨A, hA⟩ : ∃ A, B + 1 = A := ⟨_, rfl⟩
          have HA := Lib.hid hA
          have HA1 : Hid (A ≤ s.size) := by show _ ≤ _; omega
          have hA1i : (B : Int) + 1 = (A : Int) := by omega
          clear hA hx1 hx2 HX1 HX2
          go_enter Tryd.func52, Tryd.ntmps52
          go_wp2_with fail
          refine HHA.out.mono ?_
          rintro e w' ⟨rfl, rfl⟩
          go_wp2_with fail
          refine HH1.out.mono ?_
          rintro e w' ⟨rfl, rfl⟩
          go_wp2_with fail
          refine HH2.out.mono ?_
          rintro e w' ⟨rfl, rfl⟩
          go_wp2_with fail
          clear hq
          refine loop_out (rnloop_any _ rfl _ s 16 A (by decide) HA1.out hs ?hQ2) (fun _ _ h => h)
          intro u13 u14 u49 u50 u51 u52 u53 u54 u55 u56 u57 u58 u59 u60 u61 u62 u63 u64 u65 u66 u67 u68 u69 u70 u71 u72 u73 u74 u75 u76
          obtain ⟨D, hD⟩ : ∃ D, (s.data.toList.drop A).takeWhile (isD 16) = D := ⟨_, rfl⟩
          rw [hD]
          have hall : D.all (isD 16) = true := by rw [← hD]; exact List.all_takeWhile
          have hnb := numV_in 16 (by decide) D hall
          have hDl : A + D.length ≤ s.size := by
            have h1 := (List.takeWhile_prefix (isD 16) (l := s.data.toList.drop A)).length_le
            rw [hD, List.length_drop] at h1
            have h2 : s.data.toList.length = s.size := by simp
            have h3 := HA1.out
            omega
          have HR : Hid (numR (s.data.toList.drop B) = if D = [] then none else some (charN (numV 16 D), 1 + D.length + (if (s.data.toList.drop (A + D.length)).head? = some 59 then 1 else 0))) := by
            show _ = _
            unfold numR
            rw [HB.out]
            simp only [List.drop_drop, HA.out, hD]
            rw [← HA.out]; simp only [Nat.add_assoc]
          obtain ⟨n, hn⟩ : ∃ n, numV 16 D = n := ⟨_, rfl⟩
          rw [hn] at hnb HR
          rw [hn]
          clear hn hall
          by_cases hD0 : D = []
          · rw [if_pos hD0] at HR
            have hl0 : D.length = 0 := by rw [hD0]; rfl
            rw [hl0]
            clear hD hD0 hl0 hDl hnb
            go_wp2_with fail
            go_ret3
            exact ⟨by rw [← HF.out, HR.out]; rfl, Below.refl _ _⟩
          · rw [if_neg hD0] at HR
            obtain ⟨J, hJ⟩ : ∃ J, A + D.length = J := ⟨_, rfl⟩
            have hlen : 0 < D.length := List.length_pos_iff.2 hD0
            rw [hJ] at HR hDl
            rw [hJ]
            obtain ⟨dl, hdl⟩ : ∃ d, D.length = d := ⟨_, rfl⟩
            rw [hdl] at HR hlen hJ
            rw [hdl]
            have hne : ((dl : Int) == 0) = false := by rw [beq_eq_false_iff_ne]; omega
            have HCH := Lib.hid (rchar_any n w hnb.1 hnb.2)
            obtain ⟨C, hC⟩ : ∃ C, charN n = C := ⟨_, rfl⟩
            rw [hC] at HCH HR
            have HJ := Lib.hid hJ
            have HAL := Lib.hid (HA.out)
            have HB59 := begins_any s ⟨#[59]⟩ J w hDl hs (by decide)
            have e59 : pref (s.data.toList.drop J) (⟨#[59]⟩ : ByteArray).data.toList = ((s.data.toList.drop J).head? == some 59) := pref_one _ _
            rw [e59] at HB59
            clear hJ hlen hD0 hD hC hnb hdl e59
            by_cases h59 : (s.data.toList.drop J).head? = some 59
            · have hb : ((s.data.toList.drop J).head? == some 59) = true := by rw [h59]; rfl
              rw [hb] at HB59
              rw [if_pos h59] at HR
              have HH59 := Lib.hid HB59
              clear h59 hb HB59
              go_wp2_with fail
              refine HH59.out.mono ?_
              rintro e w' ⟨rfl, rfl⟩
              go_wp2_with fail
              refine HCH.out.mono ?_
              rintro e w' ⟨rfl, rfl⟩
              go_wp2_with fail
              go_ret3
              refine ⟨?_, Below.refl _ _⟩
              rw [← HF.out, HR.out]
              have h1 := HJ.out
              have h2 := HAL.out
              exact ret_num (by omega)
            · have hb : ((s.data.toList.drop J).head? == some 59) = false := by rw [beq_eq_false_iff_ne]; exact h59
              rw [hb] at HB59
              rw [if_neg h59] at HR
              have HH59 := Lib.hid HB59
              clear h59 hb HB59
              go_wp2_with fail
              refine HH59.out.mono ?_
              rintro e w' ⟨rfl, rfl⟩
              go_wp2_with fail
              refine HCH.out.mono ?_
              rintro e w' ⟨rfl, rfl⟩
              go_wp2_with fail
              go_ret3
              refine ⟨?_, Below.refl _ _⟩
              rw [← HF.out, HR.out]
              have h1 := HJ.out
              have h2 := HAL.out
              exact ret_num (by omega)
        · have HB : Hid (baseK (s.data.toList.drop B) = (10, 0)) := by
            show _ = _
            unfold baseK
            cases hh : (s.data.toList.drop B).head? with
            | none => rfl
            | some c =>
              rw [hh] at hx1 hx2
              have : ¬ (c = 120 ∨ c = 88) := by rintro (rfl | rfl); exact hx1 rfl; exact hx2 rfl
              simp only [if_neg this]
          rw [show ((s.data.toList.drop B).head? == some 88) = false by rw [beq_eq_false_iff_ne]; exact hx2] at HX2
          have HH2 := Lib.hid HX2
          have HA1 : Hid (B ≤ s.size) := hBs
          clear hx1 hx2 HX1 HX2
          go_enter Tryd.func52, Tryd.ntmps52
          go_wp2_with fail
          refine HHA.out.mono ?_
          rintro e w' ⟨rfl, rfl⟩
          go_wp2_with fail
          refine HH1.out.mono ?_
          rintro e w' ⟨rfl, rfl⟩
          go_wp2_with fail
          refine HH2.out.mono ?_
          rintro e w' ⟨rfl, rfl⟩
          go_wp2_with fail
          clear hq
          refine loop_out (rnloop_any _ rfl _ s 10 B (by decide) HA1.out hs ?hQ3) (fun _ _ h => h)
          intro u13 u14 u49 u50 u51 u52 u53 u54 u55 u56 u57 u58 u59 u60 u61 u62 u63 u64 u65 u66 u67 u68 u69 u70 u71 u72 u73 u74 u75 u76
          obtain ⟨D, hD⟩ : ∃ D, (s.data.toList.drop B).takeWhile (isD 10) = D := ⟨_, rfl⟩
          rw [hD]
          have hall : D.all (isD 10) = true := by rw [← hD]; exact List.all_takeWhile
          have hnb := numV_in 10 (by decide) D hall
          have hDl : B + D.length ≤ s.size := by
            have h1 := (List.takeWhile_prefix (isD 10) (l := s.data.toList.drop B)).length_le
            rw [hD, List.length_drop] at h1
            have h2 : s.data.toList.length = s.size := by simp
            have h3 := HA1.out
            omega
          have HR : Hid (numR (s.data.toList.drop B) = if D = [] then none else some (charN (numV 10 D), 0 + D.length + (if (s.data.toList.drop (B + D.length)).head? = some 59 then 1 else 0))) := by
            show _ = _
            unfold numR
            rw [HB.out]
            simp only [List.drop_drop, Nat.zero_add, Nat.add_zero, hD]
            skip
          obtain ⟨n, hn⟩ : ∃ n, numV 10 D = n := ⟨_, rfl⟩
          rw [hn] at hnb HR
          rw [hn]
          clear hn hall
          by_cases hD0 : D = []
          · rw [if_pos hD0] at HR
            have hl0 : D.length = 0 := by rw [hD0]; rfl
            rw [hl0]
            clear hD hD0 hl0 hDl hnb
            go_wp2_with fail
            go_ret3
            exact ⟨by rw [← HF.out, HR.out]; rfl, Below.refl _ _⟩
          · rw [if_neg hD0] at HR
            obtain ⟨J, hJ⟩ : ∃ J, B + D.length = J := ⟨_, rfl⟩
            have hlen : 0 < D.length := List.length_pos_iff.2 hD0
            rw [hJ] at HR hDl
            rw [hJ]
            obtain ⟨dl, hdl⟩ : ∃ d, D.length = d := ⟨_, rfl⟩
            rw [hdl] at HR hlen hJ
            rw [hdl]
            have hne : ((dl : Int) == 0) = false := by rw [beq_eq_false_iff_ne]; omega
            have HCH := Lib.hid (rchar_any n w hnb.1 hnb.2)
            obtain ⟨C, hC⟩ : ∃ C, charN n = C := ⟨_, rfl⟩
            rw [hC] at HCH HR
            have HJ := Lib.hid hJ
            have HAL := Lib.hid ((rfl : B = B))
            have HB59 := begins_any s ⟨#[59]⟩ J w hDl hs (by decide)
            have e59 : pref (s.data.toList.drop J) (⟨#[59]⟩ : ByteArray).data.toList = ((s.data.toList.drop J).head? == some 59) := pref_one _ _
            rw [e59] at HB59
            clear hJ hlen hD0 hD hC hnb hdl e59
            by_cases h59 : (s.data.toList.drop J).head? = some 59
            · have hb : ((s.data.toList.drop J).head? == some 59) = true := by rw [h59]; rfl
              rw [hb] at HB59
              rw [if_pos h59] at HR
              have HH59 := Lib.hid HB59
              clear h59 hb HB59
              go_wp2_with fail
              refine HH59.out.mono ?_
              rintro e w' ⟨rfl, rfl⟩
              go_wp2_with fail
              refine HCH.out.mono ?_
              rintro e w' ⟨rfl, rfl⟩
              go_wp2_with fail
              go_ret3
              refine ⟨?_, Below.refl _ _⟩
              rw [← HF.out, HR.out]
              have h1 := HJ.out
              have h2 := HAL.out
              exact ret_num (by omega)
            · have hb : ((s.data.toList.drop J).head? == some 59) = false := by rw [beq_eq_false_iff_ne]; exact h59
              rw [hb] at HB59
              rw [if_neg h59] at HR
              have HH59 := Lib.hid HB59
              clear h59 hb HB59
              go_wp2_with fail
              refine HH59.out.mono ?_
              rintro e w' ⟨rfl, rfl⟩
              go_wp2_with fail
              refine HCH.out.mono ?_
              rintro e w' ⟨rfl, rfl⟩
              go_wp2_with fail
              go_ret3
              refine ⟨?_, Below.refl _ _⟩
              rw [← HF.out, HR.out]
              have h1 := HJ.out
              have h2 := HAL.out
              exact ret_num (by omega)
    · rw [if_neg h35] at hF
      have hb : ((s.data.toList.drop (a + 1)).head? == some 35) = false := by rw [beq_eq_false_iff_ne]; exact h35
      rw [hb] at HHA
      have HHA := Lib.hid HHA
      obtain ⟨A, hA⟩ : ∃ A, a + 1 = A := ⟨_, rfl⟩
      have hAs : A ≤ s.size := by omega
      rw [hA] at hF
      obtain ⟨r, hr⟩ : ∃ r, s.data.toList.drop A = r := ⟨_, rfl⟩
      rw [hr] at hF
      have HF : Hid (ret3 A (nameR r attr) = ret3 a F) := by show _ = _; rw [← hF, ← hA, ret3_more]
      have hrl : r.length = s.size - A := by rw [← hr, List.length_drop]; simp
      clear hF hhd h38 eA h35 hb
      go_enter Tryd.func52, Tryd.ntmps52
      go_wp2_with fail
      refine HHA.out.mono ?_
      rintro e w' ⟨rfl, rfl⟩
      go_wp2_with fail
      refine (names_any _).mono ?_
      rintro e w1 ⟨rfl, hw1⟩
      have B1 : Hid (Below w.heap.size w w1) := by rw [hw1]; exact (Below.refl _ w).alloc (Nat.le_refl _) _
      have HCL : Hid (∀ i (h : i < namesT.length), w1.cell? ⟨w.heap.size, i * 3, none⟩ = some (.string ⟨namesT[i].1.toArray⟩) ∧ w1.cell? ⟨w.heap.size, i * 3 + 1, none⟩ = some (.string ⟨namesT[i].2.1.toArray⟩) ∧ w1.cell? ⟨w.heap.size, i * 3 + 2, none⟩ = some (.bool namesT[i].2.2)) := by
        intro i h
        obtain ⟨a0, a1, a2⟩ := namesC_at namesT i h
        rw [hw1, Lib.cell_of_heap (heap_alloc_new w _), Lib.cell_of_heap (heap_alloc_new w _), Lib.cell_of_heap (heap_alloc_new w _)]
        rw [List.getElem?_toArray, List.getElem?_toArray, List.getElem?_toArray]
        exact ⟨a0, a1, a2⟩
      clear hw1
      go_wp2_with fail
      refine loop_out (bloop_any _ rfl _ s a A hA hAs hs w.heap.size HCL.out ?hQ4) (fun _ _ h => h)
      intro u18 u19 u88 u89 u90 u91 u92 u93 u94 u95 u96 u97 u98 u99 u100 u101 u102 u103 u104 u105 u106 u107 u108 u109 u110 u111 u112 u113 u114 u115 u116 u117 u118 u119 u120 u121 u122 u123 u124 u125 u126 u127 u128 u129 u130 u131 u132
      rw [hr]
      clear hq
      cases ho : bestL r namesT with
      | none =>
        have HRES : Hid (ret3 a F = .tuple #[.string ⟨#[]⟩, .int .i64 0, .bool false]) := by
          show _ = _
          rw [← HF.out]
          exact ref_none (a := a) (by unfold refN; rw [ho])
        rw [show textOf none = ⟨#[]⟩ from rfl, show nextOf A none = 0 from rfl]
        clear ho hr hrl
        go_wp2_with fail
        go_ret3
        exact ⟨by rw [HRES.out]; rfl, B1.out⟩
      | some q =>
        obtain ⟨tx, e⟩ := q
        obtain ⟨he2, hel⟩ := best_in ho
        obtain ⟨N, hN⟩ : ∃ N, A + e = N := ⟨_, rfl⟩
        obtain ⟨TX, hTX⟩ : ∃ TX : ByteArray, (⟨tx.toArray⟩ : ByteArray) = TX := ⟨_, rfl⟩
        rw [show textOf (some (tx, e)) = TX from hTX, show nextOf A (some (tx, e)) = N from hN]
        have hN0 : ((N : Int) == 0) = false := by rw [beq_eq_false_iff_ne]; omega
        have hNs : N ≤ s.size := by omega
        obtain ⟨M, hM⟩ : ∃ M, N - 1 = M := ⟨_, rfl⟩
        have hMi : (N : Int) - 1 = (M : Int) := by omega
        have hMs : M < s.size := by omega
        have hMsi : (M : Int) < s.size := by omega
        have hre : r[e - 1]? = some s[M] := by
          rw [← hr, List.getElem?_drop, show A + (e - 1) = M by omega, List.getElem?_eq_getElem (by simpa using hMs)]
          rfl
        have hRN : refN r attr = if attr = true ∧ r[e - 1]? ≠ some 59 ∧ goesL r e = true then none else some (tx, e) := by unfold refN; rw [ho]
        rw [hre] at hRN
        have hgo : goesL r e = goesL s.data.toList N := by rw [← hr, goes_drop, hN]
        rw [hgo] at hRN
        have hyes : refN r attr = some (tx, e) → ret3 a F = .tuple #[.string TX, .int .i64 N, .bool true] := fun h => by rw [← HF.out, ref_some h, hTX, hN]
        have hno : refN r attr = none → ret3 a F = .tuple #[.string ⟨#[]⟩, .int .i64 0, .bool false] := fun h => by rw [← HF.out, ref_none (a := a) h]
        clear ho hr hrl he2 hel hN hTX hre hgo hM
        cases attr with
        | false =>
          have HRES := Lib.hid (hyes (by rw [hRN, if_neg (by simp)]))
          clear hRN hyes hno
          go_wp2_with fail
          go_ret3
          exact ⟨by rw [HRES.out]; rfl, B1.out⟩
        | true =>
          by_cases hse : s[M] = 59
          · have hqs : ((s[M].toNat : Int) != 59) = false := by rw [hse]; rfl
            have HRES := Lib.hid (hyes (by rw [hRN, if_neg (by rw [hse]; simp)]))
            clear hRN hyes hno hse
            go_wp2_with fail
            go_ret3
            exact ⟨by rw [HRES.out]; rfl, B1.out⟩
          · have hqs : ((s[M].toNat : Int) != 59) = true := by unfold bne; rw [byte_ne (c := 59) (z := 59) hse rfl]; rfl
            have hse' : some s[M] ≠ some 59 := fun h => hse (Option.some.inj h)
            by_cases hNl : N < s.size
            · have hNi : (N : Int) < s.size := by omega
              obtain ⟨c, hc⟩ : ∃ c, s[N] = c := ⟨_, rfl⟩
              have hgl : goesL s.data.toList N = ((c.toNat : Int) == 61 || alI c.toNat || diI c.toNat) := by
                unfold goesL
                rw [List.getElem?_eq_getElem (show N < s.data.toList.length by simpa using hNl), ← hc]
                rfl
              have HAL := Lib.hid (ralpha_any (c.toNat : Int) w1)
              have HDI := Lib.hid (rdigit_any (c.toNat : Int) w1)
              rw [hgl] at hRN
              obtain ⟨p, hp⟩ : ∃ p, alI (c.toNat : Int) = p := ⟨_, rfl⟩
              obtain ⟨d, hd⟩ : ∃ d, diI (c.toNat : Int) = d := ⟨_, rfl⟩
              rw [hp] at hRN HAL
              rw [hd] at hRN HDI
              by_cases h61 : ((c.toNat : Int) == 61) = true
              · have HRES := Lib.hid (hno (by rw [hRN, if_pos ⟨rfl, hse', by rw [h61]; rfl⟩]))
                clear hRN hyes hno hse hse' hgl hp hd
                go_wp2_with fail
                go_ret3
                exact ⟨by rw [HRES.out]; rfl, B1.out⟩
              · have h61f : ((c.toNat : Int) == 61) = false := by simpa using h61
                rw [h61f] at hRN
                clear h61
                cases p with
                | true =>
                  have HRES := Lib.hid (hno (by rw [hRN, if_pos ⟨rfl, hse', rfl⟩]))
                  clear hRN hyes hno hse hse' hgl hp hd
                  go_wp2_with fail
                  refine HAL.out.mono ?_
                  rintro e w' ⟨rfl, rfl⟩
                  go_wp2_with fail
                  go_ret3
                  exact ⟨by rw [HRES.out]; rfl, B1.out⟩
                | false =>
                  cases d with
                  | true =>
                    have HRES := Lib.hid (hno (by rw [hRN, if_pos ⟨rfl, hse', rfl⟩]))
                    clear hRN hyes hno hse hse' hgl hp hd
                    go_wp2_with fail
                    refine HAL.out.mono ?_
                    rintro e w' ⟨rfl, rfl⟩
                    go_wp2_with fail
                    refine HDI.out.mono ?_
                    rintro e w' ⟨rfl, rfl⟩
                    go_wp2_with fail
                    go_ret3
                    exact ⟨by rw [HRES.out]; rfl, B1.out⟩
                  | false =>
                    have HRES := Lib.hid (hyes (by rw [hRN, if_neg (by simp)]))
                    clear hRN hyes hno hse hse' hgl hp hd
                    go_wp2_with fail
                    refine HAL.out.mono ?_
                    rintro e w' ⟨rfl, rfl⟩
                    go_wp2_with fail
                    refine HDI.out.mono ?_
                    rintro e w' ⟨rfl, rfl⟩
                    go_wp2_with fail
                    go_ret3
                    exact ⟨by rw [HRES.out]; rfl, B1.out⟩
            · have hNi : ¬ (N : Int) < s.size := by omega
              have hgl : goesL s.data.toList N = false := by
                unfold goesL
                rw [List.getElem?_eq_none (by simpa using hNl)]
              have HRES := Lib.hid (hyes (by rw [hRN, hgl, if_neg (by simp)]))
              clear hRN hyes hno hse hse' hgl
              go_wp2_with fail
              go_ret3
              exact ⟨by rw [HRES.out]; rfl, B1.out⟩
  · have hq : ((s[a].toNat : Int) != 38) = true := by unfold bne; rw [byte_ne (c := 38) (z := 38) h38 rfl]; rfl
    rw [findS, hhd, if_neg (by simpa using h38)] at hF
    subst hF
    clear hhd h38
    go_enter Tryd.func52, Tryd.ntmps52
    go_wp2
    go_ret3
    exact ⟨rfl, Below.refl _ _⟩
set_option maxHeartbeats 1600000 in
set_option maxRecDepth 100000 in
theorem rfind_out (s : ByteArray) (z : Int) (attr : Bool) (w : World) (hz : z < 0 ∨ (s.size : Int) ≤ z) :
    Calls Tryd.prog 52 #[.string s, .int .i64 z, .bool attr] w fun e w' => e = .returned (ret3 0 none) ∧ Below w.heap.size w w' := by
  by_cases h0 : z < 0
  · go_enter Tryd.func52, Tryd.ntmps52
    go_wp2
    go_ret3
    exact ⟨rfl, Below.refl _ _⟩
  · have h1 : (s.size : Int) ≤ z := by omega
    go_enter Tryd.func52, Tryd.ntmps52
    go_wp2
    go_ret3
    exact ⟨rfl, Below.refl _ _⟩
end Go.Proofs.YtbpdmbmooboimaaDoor.R9
