/- The law PolicyMeta. -/
import Derived.Test.YtgaeecphohlmpaaDoorSam
import Derived.Test.YtgaeecphohlmpaaDoorRnd
import Derived.Test.YtgaeecphohlmpaaDoorSay
import Derived.Deep.Cut
set_option linter.unusedVariables false
namespace Go.Proofs.YtgaeecphohlmpaaDoor
open Go.RowKit

theorem metaL_at {L : List Dir} {i : Nat} {d : Dir} (h : L[i]? = some d) (hn : hdrB d.1 = false) : (metaL L)[(metaL (L.take i)).length]? = some d := by
  obtain ⟨hi, hd⟩ := List.getElem?_eq_some_iff.1 h
  have e : L = L.take i ++ d :: L.drop (i + 1) := by
    conv => lhs; rw [← List.take_append_drop i L, List.drop_eq_getElem_cons hi, hd]
  have e2 : metaL L = metaL (L.take i) ++ d :: metaL (L.drop (i + 1)) := by
    conv => lhs; rw [e]
    unfold metaL
    rw [List.filter_append, List.filter_cons_of_pos (by simp [hn])]
  rw [e2]
  simp

set_option maxHeartbeats 20000000 in
set_option maxRecDepth 100000 in
theorem policyMeta_law (s : ByteArray) (m : Int) (w : World) (hm : MaxOk m w) :
    Calls Tryd.prog 14 #[.string s] w fun e w' => e = .returned (.bool true) ∧ Below w.heap.size w w' := by
  by_cases hl : 2000 < s.size
  · have hl' : (2000 : Int) < s.size := by omega
    go_enter Tryd.func14, Tryd.ntmps14
    go_wp2_with (go_at_call 26; refine (says_any m w hm).mono ?_; rintro e w1 ⟨rfl, b1⟩)
    go_ret
    exact ⟨by exact rfl, b1⟩
  have hl' : ¬ (2000 : Int) < s.size := by omega
  have hll := oneL_len s.data.toList
  have hsl : s.data.toList.length = s.size := by simp
  have H1 := Lib.hid (fun W (h : MaxOk m W) => pone_any s m W (by omega) h)
  have H0 := Lib.hid (fun W (h : MaxOk m W) => pmeta_any s m W (by omega) h)
  generalize oneL s.data.toList = L at *
  have hL : L.length ≤ 2001 := by omega
  have hRL := metaL_len L
  have HAT := Lib.hid (fun i d (h : L[i]? = some d) (hn : hdrB d.1 = false) => metaL_at h hn)
  have HEND : Hid (metaL (L.take L.length) = metaL L) := by show _ = _; rw [List.take_length]
  obtain ⟨R, hR⟩ : ∃ R, metaL L = R := ⟨_, rfl⟩
  rw [hR] at H0 hRL HEND HAT
  have HM := Lib.hid hm
  have hok : (!R.isEmpty) = decide (0 < R.length) := by cases R <;> simp
  have H0 : Hid (∀ W, MaxOk m W → Calls Tryd.prog 27 #[.string s] W fun e w' => (∃ ao cp, e = .returned (.tuple #[.agg #[.slice ao R.length cp, .bool false], .bool (decide (0 < R.length))]) ∧ DirsIn w' (.slice ao R.length cp) R) ∧ Below W.heap.size W w') := by
    intro W h
    refine (H0.out W h).mono ?_
    rintro e w' ⟨⟨lv, rfl, D⟩, b⟩
    obtain ⟨ao, cp, rfl⟩ := D.shape
    exact ⟨⟨ao, cp, by rw [hok], D⟩, b⟩
  clear hm hll hsl hl hR hok
  go_enter Tryd.func14, Tryd.ntmps14
  go_upto_region 4 with (go_at_call 27; refine (H0.out w HM.out).mono ?_; rintro e w1 ⟨⟨ao1, cp1, rfl, D1⟩, b1⟩)
  obtain ⟨W2, hW2⟩ : ∃ W2, W2 = w1.alloc (.cells #[.slice ao1 R.length cp1, .bool false] 30) := ⟨_, rfl⟩
  have hb2 : Below w1.heap.size w1 W2 := by rw [hW2]; exact (Below.refl _ w1).alloc (Nat.le_refl _) _
  have c0 : W2.cell? ⟨w1.heap.size, 0, none⟩ = some (.slice ao1 R.length cp1) := by rw [hW2, Lib.cell_of_heap (heap_alloc_new w1 _)]; rfl
  have c1 : W2.cell? ⟨w1.heap.size, 1, none⟩ = some (.bool false) := by rw [hW2, Lib.cell_of_heap (heap_alloc_new w1 _)]; rfl
  have hlt2 : w1.heap.size < W2.heap.size := by rw [hW2]; simp
  rw [← hW2]
  have HM2 := Lib.hid ((HM.out.below b1).below hb2)
  have D2 := D1.below hb2
  have B2 : Hid (Below w.heap.size w W2) := b1.trans (hb2.mono b1.size)
  clear hW2 hb2 D1 b1
  go_upto_region 5 with (go_at_call 30; refine (H1.out W2 HM2.out).mono ?_; rintro e w3 ⟨⟨v3, cs3, rfl, o3, k3⟩, b3⟩; obtain ⟨ao3, cp3, hv3⟩ := owns_shape o3; subst hv3)
  have D3 := dirs_in o3 k3
  have DR := D2.below b3
  have p0 : w3.cell? ⟨w1.heap.size, 0, none⟩ = some (.slice ao1 R.length cp1) := (b3.cell (p := ⟨w1.heap.size, 0, none⟩) hlt2).trans c0
  have p1 : w3.cell? ⟨w1.heap.size, 1, none⟩ = some (.bool false) := (b3.cell (p := ⟨w1.heap.size, 1, none⟩) hlt2).trans c1
  have hlt3 : w1.heap.size < w3.heap.size := Nat.lt_of_lt_of_le hlt2 b3.size
  have HM3 := Lib.hid (HM2.out.below b3)
  have B3 : Hid (Below w.heap.size w w3) := B2.out.trans (b3.mono B2.out.size)
  have P0 := Lib.hid p0
  have P1 := Lib.hid p1
  have LT3 := Lib.hid hlt3
  clear o3 k3 b3 c0 c1 D2 hlt2 hlt3 p0 p1
  go_wp2_with fail
  go_loopw [6, 7] (fun a i wr => ∃ k n : Nat, k ≤ L.length ∧ i = .int .i64 k ∧ a = .int .i64 n ∧ Hid (n = (metaL (L.take k)).length) ∧ n ≤ k ∧ Below w3.heap.size w3 wr) (fun _ i _ => L.length - (intOf i).toNat)
  case atStart => exact ⟨0, 0, Nat.zero_le _, rfl, rfl, by rfl, Nat.le_refl _, Below.refl _ _⟩
  case round =>
    obtain ⟨k, n, hk, rfl, rfl, hn, hnk, hb⟩ := hrel
    have HB := Lib.hid hb
    have r0 : wr.cell? ⟨w1.heap.size, 0, none⟩ = some (.slice ao1 R.length cp1) := (hb.cell (p := ⟨w1.heap.size, 0, none⟩) LT3.out).trans P0.out
    have r1 : wr.cell? ⟨w1.heap.size, 1, none⟩ = some (.bool false) := (hb.cell (p := ⟨w1.heap.size, 1, none⟩) LT3.out).trans P1.out
    have DL := D3.below hb
    have DM := DR.below hb
    clear hb
    by_cases hlt : k < L.length
    · have hki : (k : Int) < L.length := by omega
      obtain ⟨b2, o2, c2, sv, e2, hb2, x0, x1, hsl⟩ := DL.at hlt
      injection e2 with f1 _ f3
      subst f1 f3
      obtain ⟨d, hd⟩ : ∃ d, L[k] = d := ⟨_, rfl⟩
      have HDK : Hid (L[k]? = some d) := by show _ = _; rw [← hd]; exact List.getElem?_eq_getElem hlt
      rw [hd] at x0 hsl
      clear hd
      have HST := Lib.hid (metaL_step HDK.out)
      obtain ⟨nk, hnk2⟩ : ∃ nk : ByteArray, (⟨d.1.toArray⟩ : ByteArray) = nk := ⟨_, rfl⟩
      have HNL : Hid (nk.data.toList = d.1) := by show nk.data.toList = _; rw [← hnk2]
      have HNK := Lib.hid hnk2
      rw [hnk2] at x0
      clear hnk2
      have hskip : hdrB d.1 = true → Hid (n = (metaL (L.take (k + 1))).length) := by
        intro h
        show n = _
        rw [HST.out, if_pos h]
        exact hn.out
      by_cases h1 : d.1 = [114, 101, 112, 111, 114, 116, 45, 117, 114, 105]
      · have hh := hskip (by unfold hdrB; rw [h1]; decide)
        obtain rfl := of_lst (HNL.out.trans h1)
        clear h1 hskip
        go_wp2_with fail
        go_roundw
        case rel => exact ⟨k + 1, n, by omega, by go_num, rfl, hh.out, by omega, HB.out⟩
        case measure => simp [intOf]; omega
      have q1 : (nk.toList == [114, 101, 112, 111, 114, 116, 45, 117, 114, 105]) = false := ne_bq (by rw [HNL.out]; exact h1)
      by_cases h2 : d.1 = [115, 97, 110, 100, 98, 111, 120]
      · have hh := hskip (by unfold hdrB; rw [h2]; decide)
        obtain rfl := of_lst (HNL.out.trans h2)
        clear h1 h2 hskip q1
        go_wp2_with fail
        go_roundw
        case rel => exact ⟨k + 1, n, by omega, by go_num, rfl, hh.out, by omega, HB.out⟩
        case measure => simp [intOf]; omega
      have q2 : (nk.toList == [115, 97, 110, 100, 98, 111, 120]) = false := ne_bq (by rw [HNL.out]; exact h2)
      by_cases h3 : d.1 = [102, 114, 97, 109, 101, 45, 97, 110, 99, 101, 115, 116, 111, 114, 115]
      · have hh := hskip (by unfold hdrB; rw [h3]; decide)
        obtain rfl := of_lst (HNL.out.trans h3)
        clear h1 h2 h3 hskip q1 q2
        go_wp2_with fail
        go_roundw
        case rel => exact ⟨k + 1, n, by omega, by go_num, rfl, hh.out, by omega, HB.out⟩
        case measure => simp [intOf]; omega
      have q3 : (nk.toList == [102, 114, 97, 109, 101, 45, 97, 110, 99, 101, 115, 116, 111, 114, 115]) = false := ne_bq (by rw [HNL.out]; exact h3)
      have hno : hdrB d.1 = false := by
        unfold hdrB
        simp [h1, h2, h3]
      have HN1 : Hid (n + 1 = (metaL (L.take (k + 1))).length) := by
        show n + 1 = _
        rw [HST.out, if_neg (by rw [hno]; decide), List.length_append, ← hn.out]
        rfl
      have hRn := HAT.out k d HDK.out hno
      rw [← hn.out] at hRn
      obtain ⟨hnR, hRd⟩ := List.getElem?_eq_some_iff.1 hRn
      obtain ⟨b4, o4, c4, sv4, e4, hb4, y0, y1, hsl4⟩ := DM.at hnR
      rw [hRd, HNK.out] at y0
      rw [hRd] at hsl4
      injection e4 with f1 _ f3
      subst f1 f3
      have hnRi : (n : Int) < R.length := by omega
      have hnRj : decide (R.length ≤ n) = false := decide_eq_false (by omega)
      have HDI : Hid (∀ W, Below wr.heap.size wr W → Calls Tryd.prog 24 #[.agg #[.string nk, sv4], .agg #[.string nk, sv]] W fun e w' => e = .returned (.bool true) ∧ Below W.heap.size W w') := by
        intro W hW
        rw [← HNK.out]
        refine (directive_any sv4 sv d d W (hsl4.below hW) (hsl.below hW)).mono ?_
        rintro e w' ⟨rfl, b⟩
        exact ⟨by rw [beq_self_eq_true], b⟩
      have HRF : Hid (Below wr.heap.size wr wr) := Below.refl _ _
      clear h1 h2 h3 hno hRn hRd hskip hsl hsl4 DL DM hnR
      go_wp2_with fail
      go_region_with (go_at_call 24; refine (HDI.out _ ?hA).mono ?_; (case hA => first | exact below_drewN HRF.out _ | exact HRF.out.drew | exact HRF.out); rintro e w4 ⟨rfl, b4'⟩; have B4 := Lib.hid b4'; clear b4')
      all_goals go_wp2_with fail
      all_goals go_roundw
      all_goals first
        | (simp [intOf]; omega)
        | exact ⟨k + 1, n + 1, by omega, by go_num, by go_num, HN1.out, by omega, HB.out.drew.trans (B4.out.mono (by exact HB.out.size))⟩
    · have hkk : k = L.length := by omega
      have hnR : n = R.length := by rw [hn.out, hkk, HEND.out]
      subst hnR
      have HMw := Lib.hid (HM3.out.below HB.out)
      have hrr : ((R.length : Int) == (R.length : Int)) = true := by simp
      clear hkk hn DL DM
      go_wp2_with (go_at_call 26; refine (says_any m _ HMw.out).mono ?_; rintro e w5 ⟨rfl, b5⟩; have B5 := Lib.hid b5; clear b5)
      go_ret
      exact ⟨by exact rfl, B3.out.trans ((HB.out.trans (B5.out.mono HB.out.size)).mono B3.out.size)⟩
end Go.Proofs.YtgaeecphohlmpaaDoor
