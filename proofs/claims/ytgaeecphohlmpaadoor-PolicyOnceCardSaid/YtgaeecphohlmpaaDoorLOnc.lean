/- The law PolicyOnce. -/
import Derived.Test.YtgaeecphohlmpaaDoorSam
import Derived.Test.YtgaeecphohlmpaaDoorRnd
import Derived.Test.YtgaeecphohlmpaaDoorSay
import Derived.Deep.Cut
set_option linter.unusedVariables false
namespace Go.Proofs.YtgaeecphohlmpaaDoor
open Go.RowKit

/-- What stands ahead stays ahead. -/
theorem addD_pre (acc : List Dir) (p : List UInt8) : acc <+: addD acc p := by
  unfold addD
  split
  · exact List.prefix_refl _
  · split
    · exact List.prefix_refl _
    · exact List.prefix_append _ _
theorem foldD_pre : ∀ (ps : List (List UInt8)) (acc : List Dir), acc <+: ps.foldl addD acc
  | [], acc => List.prefix_refl _
  | p :: ps, acc => (addD_pre acc p).trans (foldD_pre ps (addD acc p))
theorem one_pre (a s : List UInt8) : oneL a <+: oneL (a ++ 59 :: s) := by
  unfold oneL
  rw [spl_more, List.foldl_append]
  exact foldD_pre _ _
theorem noUp_test {b : UInt8} (h : isUp b = false) : (¬ (65 : Int) ≤ (b.toNat : Int)) ∨ ((65 : Int) ≤ (b.toNat : Int) ∧ ¬ (b.toNat : Int) ≤ 90) := by
  unfold isUp upI at h
  simp at h
  by_cases h1 : (65 : Int) ≤ (b.toNat : Int)
  · right; refine ⟨h1, ?_⟩; omega
  · exact .inl h1
/-- A part of a row of directives, from its start. -/
theorem DirsIn.cut {w : World} {b off cap : Nat} {ds : List Dir} (h : DirsIn w (.slice (some ⟨b, off, none⟩) ds.length cap) ds) {n : Nat} (hn : n ≤ ds.length) : DirsIn w (.slice (some ⟨b, off, none⟩) n cap) (ds.take n) := by
  obtain ⟨ao, cap', h1, h2, h3, h4⟩ := h
  injection h1 with e1 _ e3
  subst e3
  have hl : (ds.take n).length = n := by rw [List.length_take]; omega
  refine ⟨ao, cap, by rw [hl, e1], by omega, h3, fun hne => ?_⟩
  obtain ⟨b', off', ha, hlt, hc⟩ := h4 (by intro e; apply hne; rw [e]; simp)
  refine ⟨b', off', ha, hlt, fun i hi => ?_⟩
  have hi2 : i < n := by omega
  obtain ⟨c1, sv, c2, c3⟩ := hc i (by omega)
  have e : (ds.take n)[i] = ds[i] := by simp
  rw [e]
  exact ⟨c1, sv, c2, c3⟩

set_option maxHeartbeats 3200000 in
set_option maxRecDepth 100000 in
theorem policyOnce_law (s f : ByteArray) (m : Int) (w : World) (hm : MaxOk m w) :
    Calls Tryd.prog 12 #[.string s, .string f] w fun e w' => e = .returned (.bool true) ∧ Below w.heap.size w w' := by
  by_cases hl : 2000 < s.size
  · have hl' : (2000 : Int) < s.size := by omega
    go_enter Tryd.func12, Tryd.ntmps12
    go_wp2_with (go_at_call 26; refine (says_any m w hm).mono ?_; rintro e w1 ⟨rfl, b1⟩)
    go_ret
    exact ⟨by exact rfl, b1⟩
  have hl' : ¬ (2000 : Int) < s.size := by omega
  by_cases hl2 : 100 < f.size
  · have hl2' : (100 : Int) < f.size := by omega
    go_enter Tryd.func12, Tryd.ntmps12
    go_wp2_with (go_at_call 26; refine (says_any m w hm).mono ?_; rintro e w1 ⟨rfl, b1⟩)
    go_ret
    exact ⟨by exact rfl, b1⟩
  have hl2' : ¬ (100 : Int) < f.size := by omega
  have HG := Lib.hid (one_good s.data.toList)
  have hll := oneL_len s.data.toList
  have hsl : s.data.toList.length = s.size := by simp
  have HBN := Lib.hid (one_bnd s.data.toList (by omega))
  have H1 := Lib.hid (fun W (h : MaxOk m W) => pone_any s m W (by omega) h)
  have htx : (f ++ ⟨#[59]⟩ ++ s).data.toList = f.data.toList ++ 59 :: s.data.toList := by simp
  have hpre := one_pre f.data.toList s.data.toList
  have H3 := Lib.hid (fun W (h : MaxOk m W) => pone_any (f ++ ⟨#[59]⟩ ++ s) m W (by simp only [ByteArray.size_append]; show f.size + 1 + s.size ≤ _; omega) h)
  rw [htx] at H3
  have H2 := Lib.hid (fun W (h : MaxOk m W) => pone_any f m W (by omega) h)
  have hA := oneL_len f.data.toList
  have hfl : f.data.toList.length = f.size := by simp
  have hB := oneL_len (f.data.toList ++ 59 :: s.data.toList)
  have hBl : (f.data.toList ++ 59 :: s.data.toList).length = f.size + 1 + s.size := by simp; omega
  generalize oneL (f.data.toList ++ 59 :: s.data.toList) = Bd at *
  generalize oneL f.data.toList = A at *
  have HA := Lib.hid (List.prefix_iff_eq_take.1 hpre)
  have hAB := hpre.length_le
  have hA2 : A.length ≤ 200 := by omega
  have hB2 : Bd.length ≤ 3000 := by omega
  clear htx hpre hA hfl hB hBl
  generalize oneL s.data.toList = L at *
  have hL : L.length ≤ 2001 := by omega
  have HM := Lib.hid hm
  clear hm hll hsl hl hl2
  go_enter Tryd.func12, Tryd.ntmps12
  go_upto_region 4 with (go_at_call 30; refine (H1.out w HM.out).mono ?_; rintro e w1 ⟨⟨v1, cs1, rfl, o1, c1⟩, b1⟩)
  have D1 := dirs_in o1 c1
  obtain ⟨ao1, cp1, rfl⟩ := owns_shape o1
  have B1 := Lib.hid b1
  have HM1 := Lib.hid (HM.out.below b1)
  clear o1 c1 b1 H1
  go_wp2_with fail
  go_loopw [6] (fun i wr => ∃ k : Nat, k ≤ L.length ∧ i = .int .i64 k ∧ Below w1.heap.size w1 wr) (fun i _ => L.length - (intOf i).toNat)
  case atStart => exact ⟨0, Nat.zero_le _, rfl, Below.refl _ _⟩
  case round =>
    obtain ⟨k, hk, rfl, hb⟩ := hrel
    have HB := Lib.hid hb
    have Dw := D1.below hb
    clear hb
    by_cases hlt : k < L.length
    · have hki : (k : Int) < L.length := by omega
      obtain ⟨b2, o2, c2, sv, e2, hb2, x0, x1, hsl⟩ := Dw.at hlt
      injection e2 with f1 _ f3
      subst f1 f3
      obtain ⟨d, hd⟩ : ∃ d, L[k] = d := ⟨_, rfl⟩
      have HDK : Hid (L[k]? = some d) := by show _ = _; rw [← hd]; exact List.getElem?_eq_getElem hlt
      rw [hd] at x0 hsl
      clear hd
      have hg := HG.out.1 d (List.mem_of_getElem? HDK.out)
      have hbd := HBN.out.2 d (List.mem_of_getElem? HDK.out)
      obtain ⟨nk, hnk⟩ : ∃ nk : ByteArray, (⟨d.1.toArray⟩ : ByteArray) = nk := ⟨_, rfl⟩
      have hnl : nk.data.toList = d.1 := by rw [← hnk]
      rw [hnk] at x0
      clear hnk
      have HNL := Lib.hid hnl
      have HGN := Lib.hid hg
      have hnz : (nk.toList == []) = false := ne_bq (by rw [hnl]; exact hg.1.1)
      have hns : nk.size ≤ 8192 := by
        have h2 : nk.data.toList.length = nk.size := by simp
        rw [← h2, hnl]; exact hbd.1
      have hvs := hbd.2.1
      obtain ⟨ao3, cp3, rfl⟩ := hsl.shape
      clear hg hbd hnl
      go_wp2_with fail
      go_loopw [7] (fun i wr2 => ∃ j : Nat, j ≤ nk.size ∧ i = .int .i64 j ∧ wr2 = wr) (fun i _ => nk.size - (intOf i).toNat)
      case atStart => exact ⟨0, Nat.zero_le _, rfl, rfl⟩
      case round =>
        obtain ⟨j, hj, rfl, rfl⟩ := hrel
        by_cases hlt2 : j < nk.size
        · have hji : (j : Int) < nk.size := by omega
          have hmem : nk[j] ∈ d.1 := by
            rw [← HNL.out]
            exact Array.mem_toList_iff.2 (Array.getElem_mem _)
          have u1 := noUp_test (HGN.out.1.2.2.2 _ hmem)
          have u2 : ((nk[j].toNat : Int) == 32) = false := by
            rw [beq_eq_false_iff_ne]
            intro e
            have e2 : nk[j] = 32 := UInt8.toNat_inj.1 (by show nk[j].toNat = 32; omega)
            have := HGN.out.1.2.1 _ hmem
            rw [e2] at this
            cases this
          have u3 : ((nk[j].toNat : Int) == 59) = false := by
            rw [beq_eq_false_iff_ne]
            intro e
            have e2 : nk[j] = 59 := UInt8.toNat_inj.1 (by show nk[j].toNat = 59; omega)
            rw [e2] at hmem
            exact HGN.out.1.2.2.1 hmem
          clear hmem
          rcases u1 with u1 | ⟨u1, u4⟩
          all_goals
            go_wp2_with fail
            go_roundw
            case rel => exact ⟨j + 1, by omega, by go_num, by first | rfl | trivial⟩
            case measure => simp [intOf]; omega
        · go_wp2_with fail
          go_loopw [9] (fun i wr2 => ∃ j : Nat, j ≤ d.2.length ∧ i = .int .i64 j ∧ wr2 = wr) (fun i _ => d.2.length - (intOf i).toNat)
          case atStart => exact ⟨0, Nat.zero_le _, rfl, rfl⟩
          case round =>
            obtain ⟨j2, hj2, rfl, rfl⟩ := hrel
            by_cases hlt3 : j2 < d.2.length
            · have hji : (j2 : Int) < d.2.length := by omega
              obtain ⟨b3, off3, cap3, hv3, _, c3⟩ := hsl.text hlt3
              injection hv3 with g1 _ g3
              subst g1 g3
              obtain ⟨vk, hvk⟩ : ∃ vk : ByteArray, (⟨d.2[j2].toArray⟩ : ByteArray) = vk := ⟨_, rfl⟩
              have hvl : vk.data.toList = d.2[j2] := by rw [← hvk]
              have hvz : (vk.toList == []) = false := ne_bq (by rw [hvl]; exact (HGN.out.2 _ (List.getElem_mem _)).1)
              rw [hvk] at c3
              clear hvk hvl
              go_wp2_with fail
              go_roundw
              case rel => exact ⟨j2 + 1, by omega, by go_num, by first | rfl | trivial⟩
              case measure => simp [intOf]; omega
            · go_wp2_with fail
              go_loopw [10] (fun i wr2 => ∃ j : Nat, j ≤ k ∧ i = .int .i64 j ∧ Below w1.heap.size w1 wr2) (fun i _ => k - (intOf i).toNat)
              case atStart => exact ⟨0, Nat.zero_le _, rfl, HB.out⟩
              case round =>
                obtain ⟨j3, hj3, rfl, hb3⟩ := hrel
                have HB3 := Lib.hid hb3
                have Dw3 := D1.below hb3
                clear hb3
                by_cases hlt4 : j3 < k
                · obtain ⟨b4, o4, c4, sv4, e4, hb4, y0, _, _⟩ := Dw3.at hlt
                  injection e4 with g1 _ g3
                  injection g1 with g1
                  injection g1 with g1 g2
                  subst g1 g2 g3
                  obtain ⟨b5, o5, c5, sv5, e5, hb5, z0, _, _⟩ := Dw3.at (i := j3) (by omega)
                  injection e5 with g1 _ g3
                  injection g1 with g1
                  injection g1 with g1 g2
                  subst g1 g2 g3
                  have hj3i : (j3 : Int) < k := by omega
                  have hj3L : (j3 : Int) < L.length := by omega
                  obtain ⟨ny, hny⟩ : ∃ ny : ByteArray, (⟨L[k].1.toArray⟩ : ByteArray) = ny := ⟨_, rfl⟩
                  have hyl : ny.data.toList = L[k].1 := by rw [← hny]
                  rw [hny] at y0
                  obtain ⟨nz, hnz2⟩ : ∃ nz : ByteArray, (⟨(L[j3]'(by omega)).1.toArray⟩ : ByteArray) = nz := ⟨_, rfl⟩
                  have hzl : nz.data.toList = (L[j3]'(by omega)).1 := by rw [← hnz2]
                  rw [hnz2] at z0
                  have hne : (nz.toList == ny.toList) = false := by
                    rw [ByteArray.toList_eq, ByteArray.toList_eq, beq_eq_false_iff_ne, hyl, hzl]
                    intro e
                    have := List.pairwise_iff_getElem.1 HG.out.2 j3 k (by simp; omega) (by simp; omega) hlt4
                    simp at this
                    exact this e
                  clear hny hnz2 hyl hzl
                  go_wp2_with fail
                  go_region
                  all_goals go_wp2_with fail
                  all_goals go_roundw
                  all_goals first
                    | exact ⟨j3 + 1, by omega, by go_num, HB3.out.drew⟩
                    | (simp [intOf]; omega)
                · go_wp2_with fail
                  go_roundw
                  case rel => exact ⟨k + 1, by omega, by go_num, HB3.out⟩
                  case measure => simp [intOf]; omega
    · have HMw := Lib.hid (HM1.out.below HB.out)
      clear Dw D1
      have hABi : (A.length : Int) ≤ Bd.length := by omega
      go_upto_region 26 with (go_at_call 30; refine (H2.out wr HMw.out).mono ?_; rintro e w2 ⟨⟨v2, cs2, rfl, o2, c2⟩, b2⟩)
      have D2 := Lib.hid (dirs_in o2 c2)
      obtain ⟨ao2, cp2, rfl⟩ := owns_shape o2
      have B2 := Lib.hid b2
      have HM2 := Lib.hid (HMw.out.below b2)
      clear o2 c2 b2
      go_upto_region 27 with (go_at_call 30; refine (H3.out w2 HM2.out).mono ?_; rintro e w3 ⟨⟨v3, cs3, rfl, o3, c3⟩, b3⟩)
      have D3 := Lib.hid (dirs_in o3 c3)
      have D2' := Lib.hid (D2.out.below b3)
      have B3 := Lib.hid b3
      have HM3 := Lib.hid (HM2.out.below b3)
      have HBB : Hid (Below w.heap.size w w3) := B1.out.trans ((HB.out.trans ((B2.out.trans (B3.out.mono B2.out.size)).mono HB.out.size)).mono B1.out.size)
      rcases o3.2 with ⟨rfl, h0⟩ | ⟨g, cap, cur, rfl, _, _, hle, hcm, _, _⟩
      · have hA0 : A = [] := List.eq_nil_of_length_eq_zero (by omega)
        have hB0 : Bd = [] := List.eq_nil_of_length_eq_zero h0
        subst hA0 hB0
        have HSM : Hid (∀ W v, DirsIn W v [] → Calls Tryd.prog 29 #[.agg #[.slice none 0 0, .bool false], .agg #[v, .bool false]] W fun e w' => e = .returned (.bool true) ∧ Below W.heap.size W w') := fun W v h => same_is _ v false [] W ⟨none, 0, rfl, Nat.le_refl _, by unfold maxLen; omega, fun hne => absurd rfl hne⟩ h
        clear o3 c3 b3 h0
        go_wp2_with (first
          | (go_at_call 26; refine (says_any m w4 HM4.out).mono ?_; rintro e w5 ⟨rfl, b5⟩; have B5 := Lib.hid b5; clear b5)
          | (go_at_call 29; refine (HSM.out w3 _ ?hA).mono ?_; (case hA => exact D2'.out); rintro e w4 ⟨rfl, b4⟩; have B4 := Lib.hid b4; have HM4 := Lib.hid (HM3.out.below b4); clear b4))
        go_ret
        exact ⟨by exact rfl, HBB.out.trans ((B4.out.trans (B5.out.mono B4.out.size)).mono HBB.out.size)⟩
      · unfold maxLen at hcm
        have hAc : (A.length : Int) ≤ cap := by omega
        have HSM : Hid (∀ W v, DirsIn W (.slice (some ⟨g, 0, none⟩) Bd.length cap) Bd → DirsIn W v A → Calls Tryd.prog 29 #[.agg #[.slice (some ⟨g, 0, none⟩) A.length cap, .bool false], .agg #[v, .bool false]] W fun e w' => e = .returned (.bool true) ∧ Below W.heap.size W w') := by
          intro W v h h'
          have h2 := h.cut hAB
          rw [← HA.out] at h2
          exact same_is _ v false A W h2 h'
        clear o3 c3 b3
        go_wp2_with (first
          | (go_at_call 26; refine (says_any m w4 HM4.out).mono ?_; rintro e w5 ⟨rfl, b5⟩; have B5 := Lib.hid b5; clear b5)
          | (go_at_call 29; refine (HSM.out w3 _ ?hA ?hB).mono ?_; (case hA => exact D3.out); (case hB => exact D2'.out); rintro e w4 ⟨rfl, b4⟩; have B4 := Lib.hid b4; have HM4 := Lib.hid (HM3.out.below b4); clear b4))
        go_ret
        exact ⟨by exact rfl, HBB.out.trans ((B4.out.trans (B5.out.mono B4.out.size)).mono HBB.out.size)⟩
end Go.Proofs.YtgaeecphohlmpaaDoor
