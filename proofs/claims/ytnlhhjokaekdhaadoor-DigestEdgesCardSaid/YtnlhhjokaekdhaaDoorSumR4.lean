/- lazaretref04.Sum. -/
import Derived.Test.YtnlhhjokaekdhaaDoorRts4
import Derived.Test.YtnlhhjokaekdhaaDoorMsg4
import Derived.Test.YtnlhhjokaekdhaaDoorBlk4
import Derived.Test.YtnlhhjokaekdhaaDoorLpR4
import Derived.Test.YtnlhhjokaekdhaaDoorLpO4
import Derived.StillTailTactics
set_option linter.unusedVariables false
set_option linter.unusedSimpArgs false
namespace Go.Proofs.YtnlhhjokaekdhaaDoor.R4
open Go.RowKit

theorem own8 (w : World) (B : Nat) (l : List Int) (hB : B ≤ w.heap.size) (h8 : l.length = 8 := by rfl) : (w.alloc (.cells (u32V l).toArray 37)).ownsRow B 37 1 (.slice (some ⟨w.heap.size, 0, none⟩) 8 8) 8 (u32V l) := by
  have hl : (u32V l).length = 8 := by unfold u32V; rw [List.length_map, h8]
  refine ⟨by rw [hl], .inr ⟨w.heap.size, 8, (u32V l).toArray, rfl, hB, heap_alloc_new w _, Nat.le_refl _, by unfold maxLen; omega, by simp [hl], ?_⟩⟩
  simp only [Nat.mul_one]
  rw [List.take_of_length_le (by simp [hl])]
theorem wrap64q {q : Nat} (h : 64 * q + 64 ≤ 2000000) : wrap64 (64 * (q : Int) + 64) = 64 * ((q : Int) + 1) := by unfold wrap64; omega

theorem root_at3 : ∀ j : Fin 64, 0 ≤ (prAt 310).getD j.val 0 ∧ (prAt 310).getD j.val 0 ≤ 311 ∧ rootV ((prAt 310).getD j.val 0).toNat 3 / 4294967296 = kL.getD j.val 0 := by decide +kernel
theorem root_at2 : ∀ j : Fin 8, rootV ((prAt 310).getD j.val 0).toNat 2 / 4294967296 = fL.getD j.val 0 := by decide +kernel
theorem kL_step {j : Nat} (h : j < 64) : u32V (kL.take (j + 1)) = u32V (kL.take j) ++ [.int .u32 (kL.getD j 0)] := by
  have hl : kL.length = 64 := rfl
  unfold u32V
  rw [List.take_succ_eq_append_getElem (by omega), List.map_append]
  simp [List.getD, hl, h]
theorem fL_step {j : Nat} (h : j < 8) : u32V (fL.take (j + 1)) = u32V (fL.take j) ++ [.int .u32 (fL.getD j 0)] := by
  have hl : fL.length = 8 := rfl
  unfold u32V
  rw [List.take_succ_eq_append_getElem (by omega), List.map_append]
  simp [List.getD, hl, h]
theorem rootV_in (p d : Nat) : 0 ≤ rootV p d ∧ rootV p d < 18446744073709551616 := by unfold rootV; omega

set_option maxHeartbeats 3200000 in
set_option maxRecDepth 100000 in
theorem rsum_any (s : ByteArray) (w : World) (hs : s.size ≤ 1000000) :
    Calls Tryd.prog 15 #[.string s] w fun e w' => e = .returned (.string ⟨(sumL s.data.toList).toArray⟩) ∧ Below w.heap.size w w' := by
  go_enter Tryd.func15, Tryd.ntmps15
  go_wp2_with fail
  refine (primes_any 64 310 _ (by decide) (by rw [p64a]; decide) p64b (by decide)).mono ?_
  rintro e w1 ⟨v1, rfl, o1, b1⟩
  obtain ⟨ap, cp, hv1, _⟩ := int_shape (owns_slice o1 (by rw [intV_len]))
  subst hv1
  rw [p64b] at o1
  rw [p64b]
  have HP := Lib.hid o1
  have BP := Lib.hid b1
  clear o1 b1
  go_wp2_with fail
  go_loopw [4, 5] (fun v i wr => ∃ j : Nat, j ≤ 64 ∧ i = .int .i64 j ∧ Hid (wr.ownsRow w1.heap.size 37 1 v j (u32V (kL.take j))) ∧ Hid (Below w1.heap.size w1 wr)) (fun _ i _ => 64 - (intOf i).toNat)
  case atStart => exact ⟨0, Nat.zero_le _, rfl, ⟨rfl, .inl ⟨rfl, rfl⟩⟩, Below.refl _ w1⟩
  case round =>
    obtain ⟨j, hj, rfl, O, B⟩ := hrel
    by_cases hlt : j < 64
    · have hji : (j : Int) < 64 := by omega
      have hj0 : (0 : Int) ≤ j := by omega
      have HPW : Hid (SliceIn wr (.slice ap 64 cp) (intV (prAt 310))) := SliceIn.below (owns_slice HP.out (by rw [intV_len, p64b])) B.out
      obtain ⟨b, off, c2, e1, kb, yb⟩ := int_at HPW.out (i := j) (by rw [p64b]; exact hlt)
      rw [p64b] at e1
      injection e1 with f1 _ f3
      subst f1 f3
      have hr := root_at3 ⟨j, hlt⟩
      simp only at hr
      obtain ⟨pn, hpn⟩ : ∃ pn : Nat, (prAt 310).getD j 0 = (pn : Int) := ⟨((prAt 310).getD j 0).toNat, by omega⟩
      rw [hpn] at hr yb
      have htn : ((pn : Int)).toNat = pn := by omega
      rw [htn] at hr
      have hp3 : pn ≤ 65535 := by omega
      obtain ⟨x, hx⟩ : ∃ x, rootV pn 3 = x := ⟨_, rfl⟩
      have hxb := rootV_in pn 3
      rw [hx] at hr hxb
      have HX : Hid ((rootN pn 3 69 : Int) % 18446744073709551616 = x) := hx
      have HK : Hid (x / 4294967296 = kL.getD j 0) := hr.2.2
      have hx0 := hxb.1
      have hx1 := hxb.2
      clear hr hpn htn hx hxb
      go_wp2_with fail
      refine (root_three pn _ hp3).mono ?_
      rintro e w2 ⟨rfl, b2⟩
      rw [HX.out]
      have hsz : w1.heap.size ≤ w2.heap.size := Nat.le_trans B.out.size b2.size
      have hown := owns_below O.out b2
      have B2 : Hid (Below w1.heap.size w1 w2) := B.out.trans (b2.mono B.out.size)
      clear b2 yb
      go_wp2_with (at_builtin; refine app1 rfl _ _ 56 rfl infoU32 Tryd.underlying56 rfl (by decide) hown rfl rfl rfl (by omega) hsz ?_; intro v' w' hown' hg hbw)
      exact ⟨⟨j + 1, by omega, by go_num, by show World.ownsRow _ _ _ _ _ _ _; rw [kL_step hlt, ← HK.out]; exact hown', B2.out.trans hbw⟩, by simp [intOf]; omega⟩
    · obtain rfl : j = 64 := by omega
      have hk64 : kL.take 64 = kL := rfl
      rw [hk64] at O
      obtain ⟨gk, ck, hvk, _, _, hgk1, hgk2, hgkr⟩ := owns_cell O.out (j := 0) (by decide)
      subst hvk
      clear hlt hj hk64
      obtain ⟨W2, hW2⟩ : ∃ W2, W2 = wr := ⟨_, rfl⟩
      subst hW2
      have BW : Hid (Below w1.heap.size w1 W2) := B
      have OK := O
      clear B O hgkr
      go_wp2_with fail
      go_loopw [6, 7] (fun v i wy => ∃ j : Nat, j ≤ 8 ∧ i = .int .i64 j ∧ Hid (wy.ownsRow W2.heap.size 37 1 v j (u32V (fL.take j))) ∧ Hid (Below W2.heap.size W2 wy)) (fun _ i _ => 8 - (intOf i).toNat)
      case atStart => exact ⟨0, Nat.zero_le _, rfl, ⟨rfl, .inl ⟨rfl, rfl⟩⟩, Below.refl _ W2⟩
      case round =>
        obtain ⟨j, hj, rfl, O, B⟩ := hrel
        by_cases hlt : j < 8
        · have hji : (j : Int) < 8 := by omega
          have hji6 : (j : Int) < 64 := by omega
          have hj0 : (0 : Int) ≤ j := by omega
          have HPW : Hid (SliceIn wr (.slice ap 64 cp) (intV (prAt 310))) := SliceIn.below (SliceIn.below (owns_slice HP.out (by rw [intV_len, p64b])) BW.out) B.out
          obtain ⟨b, off, c2, e1, kb, yb⟩ := int_at HPW.out (i := j) (by rw [p64b]; omega)
          rw [p64b] at e1
          injection e1 with f1 _ f3
          subst f1 f3
          have hr3 := root_at3 ⟨j, by omega⟩
          have hr2 := root_at2 ⟨j, hlt⟩
          simp only at hr2 hr3
          obtain ⟨pn, hpn⟩ : ∃ pn : Nat, (prAt 310).getD j 0 = (pn : Int) := ⟨((prAt 310).getD j 0).toNat, by omega⟩
          rw [hpn] at hr2 hr3 yb
          have htn : ((pn : Int)).toNat = pn := by omega
          rw [htn] at hr2
          have hp3 : pn ≤ 65535 := by omega
          obtain ⟨x, hx⟩ : ∃ x, rootV pn 2 = x := ⟨_, rfl⟩
          have hxb := rootV_in pn 2
          rw [hx] at hr2 hxb
          have HX : Hid ((rootN pn 2 69 : Int) % 18446744073709551616 = x) := hx
          have HK : Hid (x / 4294967296 = fL.getD j 0) := hr2
          have hx0 := hxb.1
          have hx1 := hxb.2
          clear hr2 hr3 hpn htn hx hxb
          go_wp2_with fail
          refine (root_two pn _ hp3).mono ?_
          rintro e w2 ⟨rfl, b2⟩
          rw [HX.out]
          have hsz : W2.heap.size ≤ w2.heap.size := Nat.le_trans B.out.size b2.size
          have hown := owns_below O.out b2
          have B2 : Hid (Below W2.heap.size W2 w2) := B.out.trans (b2.mono B.out.size)
          clear b2 yb
          go_wp2_with (at_builtin; refine app1 rfl _ _ 56 rfl infoU32 Tryd.underlying56 rfl (by decide) hown rfl rfl rfl (by omega) hsz ?_; intro v' w' hown' hg hbw)
          go_roundw
          case rel => refine ⟨_, _, _, _, _, _, _, _, _, _, _, _, _, _, _, _, ⟨j + 1, by omega, by go_num, by show World.ownsRow _ _ _ _ _ _ _; rw [fL_step hlt, ← HK.out]; exact hown', B2.out.trans hbw⟩, rfl⟩
          case measure => simp [intOf]; omega
        · obtain rfl : j = 8 := by omega
          have hf8 : fL.take 8 = fL := rfl
          rw [hf8] at O
          obtain ⟨gh, ch, hvh, _, _, hgh1, hgh2, hghr⟩ := owns_cell O.out (j := 0) (by decide)
          subst hvh
          clear hlt hj hf8 hghr
          obtain ⟨W3, hW3⟩ : ∃ W3, W3 = wr := ⟨_, rfl⟩
          subst hW3
          have OH := O
          have BH : Hid (Below W2.heap.size W2 W3) := B
          clear O B
          go_wp2_with fail
          refine (message_any s _ hs).mono ?_
          rintro e w4 ⟨rfl, b4⟩
          obtain ⟨Ms, hMs⟩ : ∃ Ms : ByteArray, (⟨(msgL s.data.toList).toArray⟩ : ByteArray) = Ms := ⟨_, rfl⟩
          have HM : Hid (Ms.data.toList = msgL s.data.toList) := by show _ = _; rw [← hMs]
          rw [hMs]
          have B4 := Lib.hid b4
          clear b4 hMs
          go_wp2_with fail
          have HML : Hid (Ms.data.toList.length = Ms.size) := by show _ = _; simp
          obtain ⟨N, hN⟩ : ∃ N, Ms.size / 64 = N := ⟨_, rfl⟩
          have hml := msg_len s.data.toList
          have hMsz : Ms.size = 64 * N ∧ Ms.size ≤ 1000080 := by
            rw [← HM.out, HML.out] at hml
            have : s.data.toList.length = s.size := by simp
            omega
          have HMS := Lib.hid hMsz
          have O4 : Hid (w4.ownsRow W2.heap.size 37 1 (.slice (some ⟨gh, 0, none⟩) 8 ch) 8 (u32V (blocks f0S Ms.data.toList 0).list)) := owns_below OH.out B4.out
          clear hN hml hMsz
          go_loopw [6, 9] (fun v a wr => ∃ (q g c : Nat), q ≤ N ∧ a = .int .i64 (64 * (q : Int)) ∧ v = .slice (some ⟨g, 0, none⟩) 8 c ∧ Hid (wr.ownsRow W2.heap.size 37 1 v 8 (u32V (blocks f0S Ms.data.toList q).list)) ∧ Hid (Below w4.heap.size w4 wr)) (fun _ a _ => (64 * (N : Int) - intOf a).toNat)
          case atStart => exact ⟨0, gh, ch, Nat.zero_le _, rfl, rfl, O4, Below.refl _ w4⟩
          case round =>
            clear O4
            obtain ⟨q, g, c, hq, rfl, rfl, O, B⟩ := hrel
            by_cases hlt : q < N
            · have hqn : 64 * (q : Int) < Ms.size := by have := HMS.out.1; omega
              have hq0 : (0 : Int) ≤ 64 * (q : Int) := by omega
              obtain ⟨W5, hW5⟩ : ∃ W5, W5 = wr := ⟨_, rfl⟩
              subst hW5
              have OW := O
              have BW5 := B
              clear O B
              obtain ⟨bk, hbk⟩ : ∃ bk, blk Ms.data.toList q = bk := ⟨_, rfl⟩
              obtain ⟨σ, hσ⟩ : ∃ σ, blocks f0S Ms.data.toList q = σ := ⟨_, rfl⟩
              have HBK := Lib.hid hbk
              have HSI : Hid (blocks f0S Ms.data.toList (q + 1) = addSt σ (rnds σ (sch bk 64) 64) 8) := by show _ = _; rw [blocks, hσ, hbk]; rfl
              rw [hσ] at OW
              have HQ1 : Hid (64 * (q : Int) = ((64 * q : Nat) : Int)) := by show _ = _; omega
              have HQ2 : Hid (64 * q + 64 ≤ Ms.size) := by show _ ≤ _; have := HMS.out.1; omega
              have HQ3 : Hid (Ms.size ≤ 1000080) := HMS.out.2
              clear hbk hσ
              go_wp2_with fail
              refine loop_out (wloop_any _ rfl _ Ms _ (64 * q) HQ1.out bk HQ2.out HQ3.out HBK.out ?hQ4) (fun _ _ h => h)
              intro u11 u12 u13 u14 u65 u66 u67 u68 u69 u70 u71 u72 u73 u74 u75 u76 u77 u78 u79 u80 u81 u82 u83 u84 u85 u86 u87 u88 u89 u90 u91 u92 u93 u94 u95 u96 u97 u98 u99 u100 u101 u102 u103 u104 u105 u106 u107 u108 u109 u110 u111 u112 u113 u114 u115 u116 u117 u118 u119 u120 u121 u122 u123 u124 u125 u126 u127 u128 u129 u130 u131 u132 u133 u134 u135 u136 u137 u138 u139 u140 u141 u142 u143 u144 u145 u146 u147 u148 u149 u150 u151 u152 u153 u154 u155 u156 u157 u158 u159 u160 v5 w6 o6 b6
              obtain ⟨gw, cw, hv5, _, _, hgw1, hgw2, rw6⟩ := owns_cell o6 (j := 0) (by decide)
              subst hv5
              have OW6 : Hid (w6.ownsRow W2.heap.size 37 1 (.slice (some ⟨g, 0, none⟩) 8 c) 8 (u32V σ.list)) := owns_below OW.out b6
              have B6 : Hid (Below w4.heap.size w4 w6) := BW5.out.trans (b6.mono BW5.out.size)
              have HCW : Hid (∀ i, i < 64 → w6.cell? ⟨gw, i, none⟩ = some (.int .u32 ((sch bk 64).getD i 0))) := fun i hi => rw6 i _ (u32_at (by rw [sch_len]; exact hi) rfl)
              have HGW : Hid (gw < w6.heap.size) := hgw2
              clear rw6 o6 b6 hgw1 hgw2
              have HC8 : Hid (∀ W, Below w6.heap.size w6 W → ∀ i, i < 8 → W.cell? ⟨g, i, none⟩ = some (.int .u32 (σ.list.getD i 0))) := by
                intro W hW i hi
                obtain ⟨g', c', hv', _, _, _, hg2, rr⟩ := owns_cell OW6.out (j := 0) (by decide)
                injection hv' with e1 _ _
                injection e1 with e1
                injection e1 with e1 _ _
                subst e1
                exact (hW.cell (p := ⟨g, i, none⟩) hg2).trans (rr i _ (u32_at hi rfl))
              have y0 := HC8.out w6 (Below.refl _ w6) 0 (by decide)
              have y1 := HC8.out w6 (Below.refl _ w6) 1 (by decide)
              have y2 := HC8.out w6 (Below.refl _ w6) 2 (by decide)
              have y3 := HC8.out w6 (Below.refl _ w6) 3 (by decide)
              have y4 := HC8.out w6 (Below.refl _ w6) 4 (by decide)
              have y5 := HC8.out w6 (Below.refl _ w6) 5 (by decide)
              have y6 := HC8.out w6 (Below.refl _ w6) 6 (by decide)
              have y7 := HC8.out w6 (Below.refl _ w6) 7 (by decide)
              change w6.cell? ⟨g, 0, none⟩ = some (.int .u32 σ.a) at y0
              change w6.cell? ⟨g, 1, none⟩ = some (.int .u32 σ.b) at y1
              change w6.cell? ⟨g, 2, none⟩ = some (.int .u32 σ.c) at y2
              change w6.cell? ⟨g, 3, none⟩ = some (.int .u32 σ.d) at y3
              change w6.cell? ⟨g, 4, none⟩ = some (.int .u32 σ.e) at y4
              change w6.cell? ⟨g, 5, none⟩ = some (.int .u32 σ.f) at y5
              change w6.cell? ⟨g, 6, none⟩ = some (.int .u32 σ.g) at y6
              change w6.cell? ⟨g, 7, none⟩ = some (.int .u32 σ.h) at y7
              have HCK : Hid (∀ W, Below w6.heap.size w6 W → ∀ i, i < 64 → W.cell? ⟨gk, i, none⟩ = some (.int .u32 (kL.getD i 0))) := by
                intro W hW i hi
                have OK6 := owns_below OK.out (BH.out.trans (((B4.out.trans (B6.out.mono B4.out.size)).trans (hW.mono (Nat.le_trans B4.out.size B6.out.size))).mono BH.out.size))
                obtain ⟨g', c', hv', _, _, _, _, rr⟩ := owns_cell OK6 (j := 0) (by decide)
                injection hv' with e1 _ _
                injection e1 with e1
                injection e1 with e1 _ _
                subst e1
                exact rr i _ (u32_at hi rfl)
              have HGK : Hid (gk < w6.heap.size) := by
                have h1 := BH.out.size
                have h2 := B4.out.size
                have h3 := B6.out.size
                show gk < _
                omega
              go_wp2_with fail
              go_quiet (fail)
              obtain ⟨w7, hw7⟩ : ∃ W, w6.drewN nq = W := ⟨_, rfl⟩
              have B7 : Hid (Below w6.heap.size w6 w7) := by rw [← hw7]; exact below_drewN (Below.refl _ w6) nq
              rw [hw7]
              clear hw7 y0 y1 y2 y3 y4 y5 y6 y7 nq
              go_wp2_with fail
              refine loop_out (rloop_any _ rfl _ σ (sch bk 64) gk ck gw cw (Nat.lt_of_lt_of_le HGK.out B7.out.size) (Nat.lt_of_lt_of_le HGW.out B7.out.size) (HCK.out w7 B7.out) (fun i hi => (B7.out.cell (p := ⟨gw, i, none⟩) HGW.out).trans (HCW.out i hi)) ?hQ5) (fun _ _ h => h)
              intro u23 u24 u25 u185 u186 u187 u188 u189 u190 u191 u192 u193 u194 u195 u196 u197 u198 u199 u200 u201 u202 u203 u204 u205 u206 u207 u208 u209 u210 u211 u212 u213 u214 u215 u216 u217 u218 u219 u220 u221 u222 u223 u224 u225 u226 u227 u228 u229 u230 u231 u232 u233 u234 u235 u236 u237 u238 u239 u240 u241 u242 u243 u244 u245 u246 u247 u248 u249 w8 b8
              obtain ⟨τ, hτ⟩ : ∃ τ, rnds σ (sch bk 64) 64 = τ := ⟨_, rfl⟩
              have B8 : Hid (Below w6.heap.size w6 w8) := B7.out.trans (b8.mono B7.out.size)
              rw [hτ]
              rw [hτ] at HSI
              clear hτ b8 B7
              have y0 := HC8.out w8 B8.out 0 (by decide)
              have y1 := HC8.out w8 B8.out 1 (by decide)
              have y2 := HC8.out w8 B8.out 2 (by decide)
              have y3 := HC8.out w8 B8.out 3 (by decide)
              have y4 := HC8.out w8 B8.out 4 (by decide)
              have y5 := HC8.out w8 B8.out 5 (by decide)
              have y6 := HC8.out w8 B8.out 6 (by decide)
              have y7 := HC8.out w8 B8.out 7 (by decide)
              change w8.cell? ⟨g, 0, none⟩ = some (.int .u32 σ.a) at y0
              change w8.cell? ⟨g, 1, none⟩ = some (.int .u32 σ.b) at y1
              change w8.cell? ⟨g, 2, none⟩ = some (.int .u32 σ.c) at y2
              change w8.cell? ⟨g, 3, none⟩ = some (.int .u32 σ.d) at y3
              change w8.cell? ⟨g, 4, none⟩ = some (.int .u32 σ.e) at y4
              change w8.cell? ⟨g, 5, none⟩ = some (.int .u32 σ.f) at y5
              change w8.cell? ⟨g, 6, none⟩ = some (.int .u32 σ.g) at y6
              change w8.cell? ⟨g, 7, none⟩ = some (.int .u32 σ.h) at y7
              go_wp2_with fail
              go_still_tail 40, (by kernel_rfl)
              change wpList _ _ _ _ _ w8.drew
              have B9 : Hid (Below w6.heap.size w6 w8.drew) := B8.out.drew
              generalize w8.drew = w9 at B9 ⊢
              clear y0 y1 y2 y3 y4 y5 y6 y7 B8
              go_wp2_with fail
              have hz1 : W2.heap.size ≤ w9.heap.size := by
                have h1 := BH.out.size
                have h2 := B4.out.size
                have h3 := B6.out.size
                have h4 := B9.out.size
                omega
              have hz2 : w4.heap.size ≤ w9.heap.size := by
                have h3 := B6.out.size
                have h4 := B9.out.size
                omega
              have HQW : Hid (64 * q + 64 ≤ 2000000) := by show _ ≤ _; have := HQ2.out; have := HQ3.out; omega
              have hw := wrap64q HQW.out
              rw [hw]
              clear hw
              go_roundw
              case rel => exact ⟨q + 1, w9.heap.size, 8, hlt, by go_num, rfl, by show World.ownsRow _ _ _ _ _ _ _; rw [HSI.out]; exact own8 w9 W2.heap.size _ hz1, ((B6.out.trans (B9.out.mono B6.out.size)).alloc hz2 _)⟩
              case measure => simp [intOf]; omega
            · obtain ⟨W6, hW6⟩ : ∃ W6, W6 = wr := ⟨_, rfl⟩
              subst hW6
              have hqN : q = N := by omega
              have hnl : ¬ 64 * (q : Int) < Ms.size := by have := HMS.out.1; omega
              obtain ⟨τ, hτ⟩ : ∃ τ, blocks f0S Ms.data.toList q = τ := ⟨_, rfl⟩
              have HSUM : Hid (sumL s.data.toList = outL τ 8) := by
                show _ = _
                rw [sum_msg, ← HM.out, HML.out, ← hτ, hqN]
                congr 2
                have := HMS.out.1
                omega
              rw [hτ] at O
              clear hlt hqN hτ
              have HCE : Hid (g < W6.heap.size ∧ ∀ i, i < 8 → W6.cell? ⟨g, i, none⟩ = some (.int .u32 (τ.list.getD i 0))) := by
                obtain ⟨g', c', hv', _, _, _, hg2, rr⟩ := owns_cell O.out (j := 0) (by decide)
                injection hv' with e1 _ _
                injection e1 with e1
                injection e1 with e1 _ _
                subst e1
                exact ⟨hg2, fun i hi => rr i _ (u32_at hi rfl)⟩
              have BF : Hid (Below w.heap.size w W6) := by
                have h1 := BP.out
                have h2 := h1.trans (BW.out.mono h1.size)
                have h3 := h2.trans (BH.out.mono h2.size)
                have h4 := h3.trans (B4.out.mono h3.size)
                exact h4.trans (B.out.mono h4.size)
              go_wp2_with fail
              refine loop_out (oloop_any _ rfl _ τ g c HCE.out.1 HCE.out.2 ?hQ6) (fun _ _ h => h)
              intro u27 u291 u292 u293 u294 u295 u296 u297 u298 u299 u300 u301 u302 u303 u304 u305 u306 u307 u308 u309 u310 u311 u312 u313 u314 u315 u316 u317 u318 u319 u320 u321 O8 w8 ho8 b8
              have HO8 := Lib.hid ho8
              have HB8 := Lib.hid b8
              clear ho8 b8
              go_wp2_with fail
              go_ret
              exact ⟨by rw [HSUM.out, ← HO8.out]; rfl, BF.out.trans (HB8.out.mono BF.out.size)⟩
end Go.Proofs.YtnlhhjokaekdhaaDoor.R4
