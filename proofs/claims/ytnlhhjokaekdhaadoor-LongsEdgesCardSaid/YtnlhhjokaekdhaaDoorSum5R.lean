/- lazaretref05.sum, Sum512, Sum384. -/
import Derived.Test.YtnlhhjokaekdhaaDoorLpR5
import Derived.Test.YtnlhhjokaekdhaaDoorLpO5
import Derived.Test.YtnlhhjokaekdhaaDoorMsg5
import Derived.Test.YtnlhhjokaekdhaaDoorRts5
import Derived.Test.YtnlhhjokaekdhaaDoorBlk5
import Derived.Test.YtnlhhjokaekdhaaDoorRot5R
import Derived.StillTailTactics
set_option linter.unusedVariables false
set_option linter.unusedSimpArgs false
namespace Go.Proofs.YtnlhhjokaekdhaaDoor.L5
open Go.RowKit
open Go.Proofs.YtnlhhjokaekdhaaDoor.R4 (u64V infoU64 owns_base msg5L message5_any rootsL rootV prAt roots_any root_two root_three rootN)

theorem rootsL_map (K fr d : Nat) : ∀ j, fr + j ≤ (prAt K).length → rootsL K fr d j = (((prAt K).drop fr).take j).map (fun p => rootV p.toNat d)
  | 0, _ => by simp [rootsL]
  | j + 1, h => by
    have hl : j < ((prAt K).drop fr).length := by rw [List.length_drop]; omega
    rw [rootsL, rootsL_map K fr d j (by omega), List.take_succ_eq_append_getElem hl, List.map_append]
    congr 1
    have : (prAt K).getD (fr + j) 0 = ((prAt K).drop fr)[j] := by
      rw [List.getElem_drop, List.getD_eq_getElem?_getD, List.getElem?_eq_getElem (by omega)]
      rfl
    rw [this]
    rfl
theorem k_roots : rootsL 408 0 3 80 = kL := by
  rw [rootsL_map _ _ _ _ (by rw [R4.p80b]; decide), List.drop_zero, List.take_of_length_le (by rw [R4.p80b]; decide)]
  exact R4.roots5_three
theorem f512_roots : rootsL 18 0 2 8 = f512S.list := by
  rw [rootsL_map _ _ _ _ (by rw [R4.p8b]; decide), List.drop_zero, List.take_of_length_le (by rw [R4.p8b]; decide)]
  exact R4.roots5_two
theorem f384_roots : rootsL 52 8 2 8 = f384S.list := by
  rw [rootsL_map _ _ _ _ (by rw [R4.p16b]; decide), List.take_of_length_le (by rw [List.length_drop, R4.p16b]; decide)]
  exact R4.roots5_next
theorem own8 (w : World) (B : Nat) (l : List Int) (hB : B ≤ w.heap.size) (h8 : l.length = 8 := by rfl) : (w.alloc (.cells (u64V l).toArray 40)).ownsRow B 40 1 (.slice (some ⟨w.heap.size, 0, none⟩) 8 8) 8 (u64V l) := by
  have hl : (u64V l).length = 8 := by unfold u64V; rw [List.length_map, h8]
  refine ⟨by rw [hl], .inr ⟨w.heap.size, 8, (u64V l).toArray, rfl, hB, heap_alloc_new w _, Nat.le_refl _, by unfold maxLen; omega, by simp [hl], ?_⟩⟩
  simp only [Nat.mul_one]
  rw [List.take_of_length_le (by simp [hl])]
theorem wrap128q {q : Nat} (h : 128 * q + 128 ≤ 2000000) : wrap64 (128 * (q : Int) + 128) = 128 * ((q : Int) + 1) := by unfold wrap64; omega

set_option maxHeartbeats 3200000 in
set_option maxRecDepth 100000 in
theorem rsum_any (v : Value) (B0 : Nat) (σ0 : St) (s : ByteArray) (w : World) (hs : s.size ≤ 1000000) (hv : w.ownsRow B0 40 1 v 8 (u64V σ0.list)) (hB0 : B0 ≤ w.heap.size) :
    Calls Tryd.prog 38 #[v, .string s] w fun e w' => e = .returned (.string ⟨(outL (wholeS σ0 s.data.toList) 8).toArray⟩) ∧ Below w.heap.size w w' := by
  obtain ⟨g0, c0, hv0, _, _, _, _, _⟩ := owns_cell hv (j := 0) (by decide)
  subst hv0
  have HV := Lib.hid hv
  have HB0 := Lib.hid hB0
  clear hv hB0
  have HRK := Lib.hid (fun W => roots_any 0 80 3 408 W (by decide) (by decide) (by rw [R4.p80a]; decide) R4.p80b (by decide) (fun p w hp => root_three p w hp))
  go_enter Tryd.func38, Tryd.ntmps38
  go_wp2_with fail
  refine (HRK.out _).mono ?_
  rintro e w1 ⟨vk, rfl, o1, b1⟩
  rw [k_roots] at o1
  obtain ⟨gk, ck, hvk, _, _, _, hgk2, _⟩ := owns_cell o1 (j := 0) (by decide)
  subst hvk
  have OK := Lib.hid o1
  have B1 := Lib.hid b1
  have HGK := Lib.hid hgk2
  clear o1 b1 hgk2
  go_wp2_with fail
  refine (message5_any s _ hs).mono ?_
  rintro e w4 ⟨rfl, b4⟩
  obtain ⟨Ms, hMs⟩ : ∃ Ms : ByteArray, (⟨(msg5L s.data.toList).toArray⟩ : ByteArray) = Ms := ⟨_, rfl⟩
  have HM : Hid (Ms.data.toList = msg5L s.data.toList) := by show _ = _; rw [← hMs]
  rw [hMs]
  have B4 : Hid (Below w.heap.size w w4) := B1.out.trans (b4.mono B1.out.size)
  have OK4 : Hid (w4.ownsRow w.heap.size 40 1 (.slice (some ⟨gk, 0, none⟩) 80 ck) 80 (u64V kL)) := owns_below OK.out b4
  have HGK4 : Hid (gk < w4.heap.size) := Nat.lt_of_lt_of_le HGK.out b4.size
  clear b4 hMs
  go_wp2_with fail
  have HML : Hid (Ms.data.toList.length = Ms.size) := by show _ = _; simp
  obtain ⟨N, hN⟩ : ∃ N, Ms.size / 128 = N := ⟨_, rfl⟩
  have hml := msg5_len s.data.toList
  have hMsz : Ms.size = 128 * N ∧ Ms.size ≤ 1000400 := by
    rw [← HM.out, HML.out] at hml
    have : s.data.toList.length = s.size := by simp
    omega
  have HMS := Lib.hid hMsz
  have O4 : Hid (w4.ownsRow B0 40 1 (.slice (some ⟨g0, 0, none⟩) 8 c0) 8 (u64V (blocks σ0 Ms.data.toList 0).list)) := owns_below HV.out B4.out
  have HB4 : Hid (B0 ≤ w4.heap.size) := Nat.le_trans HB0.out B4.out.size
  clear hN hml hMsz
  go_loopw [0, 7] (fun v a wr => ∃ (q g c : Nat), q ≤ N ∧ a = .int .i64 (128 * (q : Int)) ∧ v = .slice (some ⟨g, 0, none⟩) 8 c ∧ Hid (wr.ownsRow B0 40 1 v 8 (u64V (blocks σ0 Ms.data.toList q).list)) ∧ Hid (Below w4.heap.size w4 wr)) (fun _ a _ => (128 * (N : Int) - intOf a).toNat)
  case atStart => exact ⟨0, g0, c0, Nat.zero_le _, rfl, rfl, O4, Below.refl _ w4⟩
  case round =>
    clear O4
    obtain ⟨q, g, c, hq, rfl, rfl, O, B⟩ := hrel
    by_cases hlt : q < N
    · have hqn : 128 * (q : Int) < Ms.size := by have := HMS.out.1; omega
      have hq0 : (0 : Int) ≤ 128 * (q : Int) := by omega
      obtain ⟨W5, hW5⟩ : ∃ W5, W5 = wr := ⟨_, rfl⟩
      subst hW5
      have OW := O
      have BW5 := B
      clear O B
      obtain ⟨bk, hbk⟩ : ∃ bk, blk Ms.data.toList q = bk := ⟨_, rfl⟩
      obtain ⟨σ, hσ⟩ : ∃ σ, blocks σ0 Ms.data.toList q = σ := ⟨_, rfl⟩
      have HBK : Hid ((Ms.data.toList.drop (128 * q)).take 128 = bk) := by show _ = _; rw [← hbk, blk, Nat.mul_comm]
      have HSI : Hid (blocks σ0 Ms.data.toList (q + 1) = addSt σ (rnds σ (sch bk 80) 80) 8) := by show _ = _; rw [blocks, hσ, hbk]; rfl
      rw [hσ] at OW
      have HQ1 : Hid (128 * (q : Int) = ((128 * q : Nat) : Int)) := by show _ = _; omega
      have HQ2 : Hid (128 * q + 128 ≤ Ms.size) := by show _ ≤ _; have := HMS.out.1; omega
      have HQ3 : Hid (Ms.size ≤ 1000400) := HMS.out.2
      clear hbk hσ
      go_wp2_with fail
      refine loop_out (wloop_any _ rfl _ Ms _ (128 * q) HQ1.out bk HQ2.out HQ3.out HBK.out ?hQ4) (fun _ _ h => h)
      intro u9 u10 u11 u12 u13 u37 u38 u39 u40 u41 u42 u43 u44 u45 u46 u47 u48 u49 u50 u51 u52 u53 u54 u55 u56 u57 u58 u59 u60 u61 u62 u63 u64 u65 u66 u67 u68 u69 u70 u71 u72 u73 u74 u75 u76 u77 u78 u79 u80 u81 u82 u83 u84 u85 u86 u87 u88 u89 u90 u91 u92 u93 u94 u95 u96 u97 u98 u99 u100 u101 u102 u103 u104 u105 u106 u107 u108 u109 u110 u111 u112 u113 u114 u115 u116 u117 u118 u119 u120 v5 w6 o6 b6
      obtain ⟨gw, cw, hv5, _, _, hgw1, hgw2, rw6⟩ := owns_cell o6 (j := 0) (by decide)
      subst hv5
      have OW6 : Hid (w6.ownsRow B0 40 1 (.slice (some ⟨g, 0, none⟩) 8 c) 8 (u64V σ.list)) := owns_below OW.out b6
      have B6 : Hid (Below w4.heap.size w4 w6) := BW5.out.trans (b6.mono BW5.out.size)
      have HCW : Hid (∀ i, i < 80 → w6.cell? ⟨gw, i, none⟩ = some (.int .u64 ((sch bk 80).getD i 0))) := fun i hi => rw6 i _ (u64_at (by rw [sch_len]; exact hi) rfl)
      have HGW : Hid (gw < w6.heap.size) := hgw2
      clear rw6 o6 b6 hgw1 hgw2
      have HC8 : Hid (∀ W, Below w6.heap.size w6 W → ∀ i, i < 8 → W.cell? ⟨g, i, none⟩ = some (.int .u64 (σ.list.getD i 0))) := by
        intro W hW i hi
        obtain ⟨g', c', hv', _, _, _, hg2, rr⟩ := owns_cell OW6.out (j := 0) (by decide)
        injection hv' with e1 _ _
        injection e1 with e1
        injection e1 with e1 _ _
        subst e1
        exact (hW.cell (p := ⟨g, i, none⟩) hg2).trans (rr i _ (u64_at hi rfl))
      have y0 := HC8.out w6 (Below.refl _ w6) 0 (by decide)
      have y1 := HC8.out w6 (Below.refl _ w6) 1 (by decide)
      have y2 := HC8.out w6 (Below.refl _ w6) 2 (by decide)
      have y3 := HC8.out w6 (Below.refl _ w6) 3 (by decide)
      have y4 := HC8.out w6 (Below.refl _ w6) 4 (by decide)
      have y5 := HC8.out w6 (Below.refl _ w6) 5 (by decide)
      have y6 := HC8.out w6 (Below.refl _ w6) 6 (by decide)
      have y7 := HC8.out w6 (Below.refl _ w6) 7 (by decide)
      change w6.cell? ⟨g, 0, none⟩ = some (.int .u64 σ.a) at y0
      change w6.cell? ⟨g, 1, none⟩ = some (.int .u64 σ.b) at y1
      change w6.cell? ⟨g, 2, none⟩ = some (.int .u64 σ.c) at y2
      change w6.cell? ⟨g, 3, none⟩ = some (.int .u64 σ.d) at y3
      change w6.cell? ⟨g, 4, none⟩ = some (.int .u64 σ.e) at y4
      change w6.cell? ⟨g, 5, none⟩ = some (.int .u64 σ.f) at y5
      change w6.cell? ⟨g, 6, none⟩ = some (.int .u64 σ.g) at y6
      change w6.cell? ⟨g, 7, none⟩ = some (.int .u64 σ.h) at y7
      have HCK : Hid (∀ W, Below w6.heap.size w6 W → ∀ i, i < 80 → W.cell? ⟨gk, i, none⟩ = some (.int .u64 (kL.getD i 0))) := by
        intro W hW i hi
        have OK6 := owns_below OK4.out (B6.out.trans (hW.mono B6.out.size))
        obtain ⟨g', c', hv', _, _, _, _, rr⟩ := owns_cell OK6 (j := 0) (by decide)
        injection hv' with e1 _ _
        injection e1 with e1
        injection e1 with e1 _ _
        subst e1
        exact rr i _ (u64_at hi rfl)
      have HGK6 : Hid (gk < w6.heap.size) := Nat.lt_of_lt_of_le HGK4.out B6.out.size
      go_wp2_with fail
      go_quiet (fail)
      obtain ⟨w7, hw7⟩ : ∃ W, w6.drewN nq = W := ⟨_, rfl⟩
      have B7 : Hid (Below w6.heap.size w6 w7) := by rw [← hw7]; exact below_drewN (Below.refl _ w6) nq
      rw [hw7]
      clear hw7 y0 y1 y2 y3 y4 y5 y6 y7 nq
      go_wp2_with fail
      refine loop_out (rloop_any _ rfl _ σ (sch bk 80) gk ck gw cw (Nat.lt_of_lt_of_le HGK6.out B7.out.size) (Nat.lt_of_lt_of_le HGW.out B7.out.size) (HCK.out w7 B7.out) (fun i hi => (B7.out.cell (p := ⟨gw, i, none⟩) HGW.out).trans (HCW.out i hi)) ?hQ5) (fun _ _ h => h)
      intro u22 u23 u24 u145 u146 u147 u148 u149 u150 u151 u152 u153 u154 u155 u156 u157 u158 u159 u160 u161 u162 u163 u164 u165 u166 u167 u168 u169 u170 u171 u172 u173 u174 u175 u176 u177 u178 u179 u180 u181 u182 u183 u184 u185 u186 u187 u188 u189 u190 u191 u192 u193 u194 u195 u196 u197 u198 u199 u200 u201 u202 u203 u204 u205 u206 u207 u208 u209 w8 b8
      obtain ⟨τ, hτ⟩ : ∃ τ, rnds σ (sch bk 80) 80 = τ := ⟨_, rfl⟩
      have B8 : Hid (Below w6.heap.size w6 w8) := B7.out.trans (b8.mono B7.out.size)
      rw [hτ]
      rw [hτ] at HSI
      clear hτ b8 B7
      have y0 := HC8.out w8 B8.out 0 (by decide)
      have y1 := HC8.out w8 B8.out 1 (by decide)
      have y2 := HC8.out w8 B8.out 2 (by decide)
      have y3 := HC8.out w8 B8.out 3 (by decide)
      have y4 := HC8.out w8 B8.out 4 (by decide)
      have y5 := HC8.out w8 B8.out 5 (by decide)
      have y6 := HC8.out w8 B8.out 6 (by decide)
      have y7 := HC8.out w8 B8.out 7 (by decide)
      change w8.cell? ⟨g, 0, none⟩ = some (.int .u64 σ.a) at y0
      change w8.cell? ⟨g, 1, none⟩ = some (.int .u64 σ.b) at y1
      change w8.cell? ⟨g, 2, none⟩ = some (.int .u64 σ.c) at y2
      change w8.cell? ⟨g, 3, none⟩ = some (.int .u64 σ.d) at y3
      change w8.cell? ⟨g, 4, none⟩ = some (.int .u64 σ.e) at y4
      change w8.cell? ⟨g, 5, none⟩ = some (.int .u64 σ.f) at y5
      change w8.cell? ⟨g, 6, none⟩ = some (.int .u64 σ.g) at y6
      change w8.cell? ⟨g, 7, none⟩ = some (.int .u64 σ.h) at y7
      go_wp2_with fail
      go_still_tail 40, (by kernel_rfl)
      change wpList _ _ _ _ _ w8.drew
      have B9 : Hid (Below w6.heap.size w6 w8.drew) := B8.out.drew
      generalize w8.drew = w9 at B9 ⊢
      clear y0 y1 y2 y3 y4 y5 y6 y7 B8
      go_wp2_with fail
      have hz2 : w4.heap.size ≤ w9.heap.size := by
        have h3 := B6.out.size
        have h4 := B9.out.size
        omega
      have hz1 : B0 ≤ w9.heap.size := Nat.le_trans HB4.out hz2
      have HQW : Hid (128 * q + 128 ≤ 2000000) := by show _ ≤ _; have := HQ2.out; have := HQ3.out; omega
      have hw := wrap128q HQW.out
      rw [hw]
      clear hw
      go_roundw
      case rel => exact ⟨q + 1, w9.heap.size, 8, hlt, by go_num, rfl, by show World.ownsRow _ _ _ _ _ _ _; rw [HSI.out]; exact own8 w9 B0 _ hz1, ((B6.out.trans (B9.out.mono B6.out.size)).alloc hz2 _)⟩
      case measure => simp [intOf]; omega
    · obtain ⟨W6, hW6⟩ : ∃ W6, W6 = wr := ⟨_, rfl⟩
      subst hW6
      have hqN : q = N := by omega
      have hnl : ¬ 128 * (q : Int) < Ms.size := by have := HMS.out.1; omega
      obtain ⟨τ, hτ⟩ : ∃ τ, blocks σ0 Ms.data.toList q = τ := ⟨_, rfl⟩
      have HSUM : Hid (outL (wholeS σ0 s.data.toList) 8 = outL τ 8) := by
        show _ = _
        rw [whole_msg, ← HM.out, HML.out, ← hτ, hqN]
        congr 2
        have := HMS.out.1
        omega
      rw [hτ] at O
      clear hlt hqN hτ
      have HCE : Hid (g < W6.heap.size ∧ ∀ i, i < 8 → W6.cell? ⟨g, i, none⟩ = some (.int .u64 (τ.list.getD i 0))) := by
        obtain ⟨g', c', hv', _, _, _, hg2, rr⟩ := owns_cell O.out (j := 0) (by decide)
        injection hv' with e1 _ _
        injection e1 with e1
        injection e1 with e1 _ _
        subst e1
        exact ⟨hg2, fun i hi => rr i _ (u64_at hi rfl)⟩
      have BF : Hid (Below w.heap.size w W6) := B4.out.trans (B.out.mono B4.out.size)
      go_wp2_with fail
      refine loop_out (oloop_any _ rfl _ τ g c HCE.out.1 HCE.out.2 ?hQ6) (fun _ _ h => h)
      intro u26 u27 u251 u252 u253 u254 u255 u256 u257 u258 u259 u260 u261 u262 u263 u264 u265 u266 u267 u268 u269 u270 O8 w8 ho8 b8
      have HO8 := Lib.hid ho8
      have HB8 := Lib.hid b8
      clear ho8 b8
      go_wp2_with fail
      go_ret
      exact ⟨by rw [HSUM.out, ← HO8.out]; rfl, BF.out.trans (HB8.out.mono BF.out.size)⟩

set_option maxRecDepth 100000 in
theorem rsum512_any (s : ByteArray) (w : World) (hs : s.size ≤ 1000000) :
    Calls Tryd.prog 18 #[.string s] w fun e w' => e = .returned (.string ⟨(sum512L s.data.toList).toArray⟩) ∧ Below w.heap.size w w' := by
  have HRK := Lib.hid (fun W => roots_any 0 8 2 18 W (by decide) (by decide) (by rw [R4.p8a]; decide) R4.p8b (by decide) (fun p w hp => root_two p w hp))
  go_enter Tryd.func18, Tryd.ntmps18
  go_wp2_with fail
  refine (HRK.out _).mono ?_
  rintro e w1 ⟨vk, rfl, o1, b1⟩
  rw [f512_roots] at o1
  have O1 := Lib.hid o1
  have B1 := Lib.hid b1
  clear o1 b1
  go_wp2_with fail
  refine (rsum_any vk _ f512S s w1 hs O1.out B1.out.size).mono ?_
  rintro e w2 ⟨rfl, b2⟩
  have B2 : Hid (Below w.heap.size w w2) := B1.out.trans (b2.mono B1.out.size)
  clear b2
  go_wp2_with fail
  go_ret
  exact ⟨rfl, B2.out⟩
set_option maxRecDepth 100000 in
theorem rsum384_any (s : ByteArray) (w : World) (hs : s.size ≤ 1000000) :
    Calls Tryd.prog 20 #[.string s] w fun e w' => e = .returned (.string ⟨(sum384L s.data.toList).toArray⟩) ∧ Below w.heap.size w w' := by
  have HRK := Lib.hid (fun W => roots_any 8 8 2 52 W (by decide) (by decide) (by rw [R4.p16a]; decide) R4.p16b (by decide) (fun p w hp => root_two p w hp))
  go_enter Tryd.func20, Tryd.ntmps20
  go_wp2_with fail
  refine (HRK.out _).mono ?_
  rintro e w1 ⟨vk, rfl, o1, b1⟩
  rw [f384_roots] at o1
  have O1 := Lib.hid o1
  have B1 := Lib.hid b1
  clear o1 b1
  go_wp2_with fail
  refine (rsum_any vk _ f384S s w1 hs O1.out B1.out.size).mono ?_
  rintro e w2 ⟨rfl, b2⟩
  have B2 : Hid (Below w.heap.size w w2) := B1.out.trans (b2.mono B1.out.size)
  clear b2
  obtain ⟨T, hT⟩ : ∃ T : ByteArray, (⟨(outL (wholeS f384S s.data.toList) 8).toArray⟩ : ByteArray) = T := ⟨_, rfl⟩
  have hT64 : T.size = 64 := by rw [← hT]; exact out8_len _
  rw [hT]
  have HT : Hid (T.extract 0 48 = ⟨(sum384L s.data.toList).toArray⟩) := by
    show _ = _
    rw [← hT]
    unfold sum384L
    apply ByteArray.ext
    rw [ByteArray.data_extract]
    apply Array.ext'
    rw [Array.toList_extract, List.extract_eq_take_drop]
    simp
  clear hT
  go_wp2_with fail
  go_ret
  exact ⟨by rw [HT.out]; rfl, B2.out⟩
end Go.Proofs.YtnlhhjokaekdhaaDoor.L5
