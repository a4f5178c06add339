/- lazaretref04.Root. (made by tools/gen/root4.py) -/
import Derived.Test.YtnlhhjokaekdhaaDoorTim4
import Derived.Test.YtnlhhjokaekdhaaDoorVal4
import Derived.Deep.Cut
import Derived.RegionTactic
set_option linter.unusedVariables false
set_option linter.unusedSimpArgs false
namespace Go.Proofs.YtnlhhjokaekdhaaDoor.R4
open Go.RowKit

theorem w64 (x : Int) (h0 : -9223372036854775808 ≤ x) (h1 : x ≤ 9223372036854775807) : wrap64 x = x := by
  unfold wrap64
  omega
theorem u64_mod (x : Int) : IntKind.u64.wrap x = x % 18446744073709551616 := by
  unfold IntKind.wrap
  simp [IntKind.bits, IntKind.signed]
theorem cell_own {w : World} {B n cap g : Nat} {e : TypeId} {l : List Int} (h : w.ownsRow B e 1 (.slice (some ⟨g, 0, none⟩) n cap) n (intV l)) {k : Nat} (hk : k < n) : w.cell? ⟨g, k, none⟩ = some (.int .i64 (l.getD k 0)) := by
  obtain ⟨g', cq, he, _, _, _, hg2, rr⟩ := owns_cell h (j := 0) (by omega)
  injection he with e1 e2 e3
  injection e1 with e1
  injection e1 with e1 e4
  subst e1
  refine rr k _ (intV_get ?_)
  have := h.1
  rw [intV_len] at this
  omega

set_option maxHeartbeats 3200000 in
set_option maxRecDepth 100000 in
theorem root_two (p : Nat) (w : World) (hp : p ≤ 65535) :
    Calls Tryd.prog 33 #[.int .i64 p, .int .i64 2] w fun e w' => e = .returned (.int .u64 ((rootN p 2 69 : Int) % 18446744073709551616)) ∧ Below w.heap.size w w' := by
  obtain ⟨i0, hi, hz0, hz1, hz2⟩ := info_parts infoInt
  go_enter Tryd.func33, Tryd.ntmps33
  go_wp2_with (first
    | (have o2 : (w1.setCell ⟨w.heap.size, 8, none⟩ (.int .i64 p)).ownsRow w.heap.size 3 1 (.slice (some ⟨w.heap.size, 0, none⟩) 9 9) 9 (intV (mostL p 2)) := (by have := owns_set (k := 8) O1.out rfl (.int .i64 p); rw [intV_set] at this; exact this); have b2 : Below w.heap.size w (w1.setCell ⟨w.heap.size, 8, none⟩ (.int .i64 p)) := B1.out.setCell (Nat.le_refl _) _; obtain ⟨W1, hW1⟩ : ∃ W1, w1.setCell ⟨w.heap.size, 8, none⟩ (.int .i64 p) = W1 := ⟨_, rfl⟩; rw [hW1] at o2 b2; rw [hW1]; have OM := Lib.hid o2; have BM := Lib.hid b2; clear O1 B1 f0 c0 o2 b2 hW1; refine wpList_make_full _ rfl _ _ 54 rfl W1.heap.size 3 i0 (.int .i64 0) 1 Tryd.underlying54 hi hz0 hz1 _ _ _ _ 5 rfl rfl (by decide) (by decide) (by rw [hz2]; omega) (by unfold maxLen; omega) (Nat.le_refl _) ?_; intro w2 o2 g2; rw [made_int 5] at o2; have OX := Lib.hid o2; have BX : Hid (Below W1.heap.size W1 w2) := ⟨g2.os, g2.tape, g2.output, g2.size, fun k hk => g2.block k hk (by simp)⟩; clear o2 g2)
    | (refine wpList_make_full _ rfl _ _ 54 rfl w.heap.size 3 i0 (.int .i64 0) 1 Tryd.underlying54 hi hz0 hz1 _ _ _ _ 9 rfl rfl (by decide) (by decide) (by rw [hz2]; omega) (by unfold maxLen; omega) (Nat.le_refl _) ?_; intro w1 o1 g1; rw [made_int 9] at o1; have f0 := owns_free o1 rfl 8; have c0 := cell_own o1 (by decide : 8 < 9); have O1 := Lib.hid o1; have B1 : Hid (Below w.heap.size w w1) := ⟨g1.os, g1.tape, g1.output, g1.size, fun k hk => g1.block k hk (by simp)⟩; clear o1 g1))
  clear hi hz0 hz1 hz2
  go_loopw [7] (fun s wr => ∃ (j : Nat) (z : Int) (x : List Int), j ≤ 69 ∧ s = .int .i64 z ∧ z = 68 - (j : Int) ∧ Hid (RootAt p 2 j x) ∧ Hid (wr.ownsRow W1.heap.size 3 1 (.slice (some ⟨W1.heap.size, 0, none⟩) 5 5) 5 (intV x)) ∧ Hid (Below W1.heap.size W1 wr)) (fun s _ => (intOf s + 1).toNat)
  case atStart => exact ⟨0, 68, _, by omega, rfl, rfl, RootAt.start p 2, OX, BX⟩
  case round =>
    clear OX BX
    obtain ⟨j, z, x, hj, rfl, hz, HR, O, B⟩ := hrel
    by_cases hlt : j < 69
    · obtain ⟨t, ht⟩ : ∃ t, 68 - j = t := ⟨_, rfl⟩
      obtain rfl : z = (t : Int) := by omega
      have ht0 : (0 : Int) ≤ t := by omega
      have htm : t ≤ 68 := by omega
      have hl5 := HR.out.len
      obtain ⟨q, hq⟩ : ∃ q, t / 16 = q := ⟨_, rfl⟩
      obtain ⟨r, hr⟩ : ∃ r, t % 16 = r := ⟨_, rfl⟩
      have hqc : (t : Int) / 16 = q := by omega
      have hrc : (t : Int) % 16 = r := by omega
      have hq0 : (0 : Int) ≤ q := by omega
      have hq5 : (q : Int) < 5 := by omega
      have hr0 : (0 : Int) ≤ r := by omega
      have hr16 : r < 16 := by omega
      have c0 := cell_own O.out (by omega : q < 5)
      have f0 := owns_free O.out rfl q
      have HD := Lib.hid (HR.out.dig1 hlt)
      obtain ⟨v, hv⟩ : ∃ v, x.getD q 0 = v := ⟨_, rfl⟩
      rw [hv] at c0
      have hx1 : Hid (addB x t = x.set q (v + 2 ^ r)) := by show _ = _; unfold addB; rw [hq, hr, hv]
      have hvd : 0 ≤ v ∧ v ≤ 65535 := by rw [← hv]; exact HR.out.dig _
      have HT := Lib.hid ht
      have HJ := Lib.hid hlt
      have HQ := Lib.hid hq
      have HRR := Lib.hid hr
      have hrm : v + 2 ^ r ≤ 65535 := by
        have hlow := HR.out.low
        rw [show 69 - j = t + 1 by omega] at hlow
        have := hlow.room (by rw [hq, hv]; exact hvd.1) (by rw [hq, hv]; exact hvd.2)
        rw [hq, hr, hv] at this
        exact this
      have hpp : (0 : Int) < 2 ^ r := Int.pow_pos (by decide)
      have hw1 : wrap64 ((2 : Int) ^ r) = 2 ^ r := by obtain ⟨P, hP⟩ : ∃ P : Int, 2 ^ r = P := ⟨_, rfl⟩; rw [hP] at hrm hpp ⊢; exact w64 P (by omega) (by omega)
      have hw2 : wrap64 (v + 2 ^ r) = v + 2 ^ r := by obtain ⟨P, hP⟩ : ∃ P : Int, 2 ^ r = P := ⟨_, rfl⟩; rw [hP] at hrm hpp ⊢; exact w64 _ (by omega) (by omega)
      clear hv hz ht hlt hl5 hq hr
      have HVD := Lib.hid hvd
      clear hvd
      go_wp2_with fail
      go_region
      rw [hw1, hw2]
      have OX : Hid (World.ownsRow (wr.setCell ⟨W1.heap.size, q, none⟩ (.int .i64 (v + 2 ^ r))).drew W1.heap.size 3 1 (.slice (some ⟨W1.heap.size, 0, none⟩) 5 5) 5 (intV (addB x t))) := by
        show World.ownsRow _ _ _ _ _ _ _
        rw [hx1.out, ← intV_set]
        exact (owns_set O.out rfl _).drew
      have BX : Hid (Below W1.heap.size W1 (wr.setCell ⟨W1.heap.size, q, none⟩ (.int .i64 (v + 2 ^ r))).drew) := (B.out.setCell (Nat.le_refl _) _).drew
      obtain ⟨wx, hwx⟩ : ∃ wx, (wr.setCell ⟨W1.heap.size, q, none⟩ (.int .i64 (v + 2 ^ r))).drew = wx := ⟨_, rfl⟩
      rw [hwx] at OX BX
      rw [hwx]
      have HX1 : Hid ((addB x t).length = 5 ∧ Dig (addB x t)) := by
        refine ⟨by unfold addB; rw [List.length_set]; exact HR.out.len, Dig.of ?_⟩
        rw [← HT.out]
        exact HD.out
      obtain ⟨y, hy⟩ : ∃ y, addB x t = y := ⟨_, rfl⟩
      rw [hy] at OX HX1 hx1
      have HY := Lib.hid hy
      have hyq : y.getD q 0 = v + 2 ^ r := by
        have hlx : q < x.length := by rw [HR.out.len]; omega
        rw [hx1.out, getD_set _ _ _ _ hlx, if_pos rfl]
      obtain ⟨U, hU⟩ : ∃ U, v + 2 ^ r = U := ⟨_, rfl⟩
      rw [hU] at hyq
      have hw3 : wrap64 (U - 2 ^ r) = U - 2 ^ r := by have hvd := HVD.out; rw [hU] at hrm; obtain ⟨P, hP⟩ : ∃ P : Int, 2 ^ r = P := ⟨_, rfl⟩; rw [hP] at hpp hU ⊢; exact w64 _ (by omega) (by omega)
      have HSB : Hid (subB y t = y.set q (U - 2 ^ r)) := by show _ = _; unfold subB; rw [HQ.out, HRR.out, hyq]
      have HYQ := Lib.hid hyq
      have HU := Lib.hid hU
      have HW1 := Lib.hid hw1
      have HW3 := Lib.hid hw3
      have HPP := Lib.hid hpp
      clear O B hwx hy c0 f0 hw1 hw2 hyq hU hw3 hrm hpp
      have HST : Hid (RootAt p 2 (j + 1) (stepR p 2 x t)) := by have := HR.out.step HJ.out (by decide) hp; rw [HT.out] at this; exact this
      have hsr : stepR p 2 x t = if aboveL (cubeL 2 y) (mostL p 2) (max (cubeL 2 y).length (mostL p 2).length) then subB y t else y := by unfold stepR; rw [HY.out]
      have HSR := Lib.hid hsr
      clear hsr
      go_wp2_with fail
      refine (times_any _ _ y y _ (owns_slice OX.out (by rw [intV_len]; exact HX1.out.1)) (owns_slice OX.out (by rw [intV_len]; exact HX1.out.1)) (by rw [HX1.out.1]; decide) (by rw [HX1.out.1]; decide) HX1.out.2 HX1.out.2).mono ?_
      rintro e w3 ⟨v3, rfl, o3, b3⟩
      have O3 := Lib.hid o3
      have B3 := Lib.hid b3
      clear o3 b3
      go_wp2_with fail
      refine (above_any _ _ (cubeL 2 y) (mostL p 2) _ (owns_slice O3.out (by rw [intV_len]; rfl)) (SliceIn.below (SliceIn.below (owns_slice OM.out (by rw [intV_len, most_len])) BX.out) B3.out) (by rw [cube_len 2 (by decide) HX1.out.1]; decide) (by rw [most_len]; decide)).mono ?_
      rintro e w9 ⟨rfl, rfl⟩
      have ox : World.ownsRow w3 W1.heap.size 3 1 (.slice (some ⟨W1.heap.size, 0, none⟩) 5 5) 5 (intV y) := owns_below OX.out B3.out
      have bx : Below W1.heap.size W1 w3 := BX.out.trans (B3.out.mono BX.out.size)
      cases hc : aboveL (cubeL 2 y) (mostL p 2) (max (cubeL 2 y).length (mostL p 2).length) with
      | false =>
        have HN : Hid (stepR p 2 x t = y) := by show _ = _; rw [HSR.out, hc]; rfl
        have OZ := Lib.hid ox
        have BZ := Lib.hid bx
        clear hc ox bx
        go_wp2_with fail
        go_roundw
        case rel => exact ⟨j + 1, (t : Int) - 1, y, by have := HJ.out; omega, rfl, by have := HT.out; have := HJ.out; omega, by rw [HN.out] at HST; exact HST, OZ, BZ⟩
        case measure => simp [intOf] <;> omega
      | true =>
        have HN : Hid (stepR p 2 x t = subB y t) := by show _ = _; rw [HSR.out, hc]; rfl
        have c1 := cell_own ox (by omega : q < 5)
        have f1 := owns_free ox rfl q
        rw [HYQ.out] at c1
        have OZ := Lib.hid ox
        have BZ := Lib.hid bx
        clear hc ox bx
        go_wp2_with fail
        go_region
        rw [HW1.out, HW3.out]
        have OY : Hid (World.ownsRow (w3.setCell ⟨W1.heap.size, q, none⟩ (.int .i64 (U - 2 ^ r))).drew W1.heap.size 3 1 (.slice (some ⟨W1.heap.size, 0, none⟩) 5 5) 5 (intV (subB y t))) := by
          show World.ownsRow _ _ _ _ _ _ _
          rw [HSB.out, ← intV_set]
          exact (owns_set OZ.out rfl _).drew
        have BY : Hid (Below W1.heap.size W1 (w3.setCell ⟨W1.heap.size, q, none⟩ (.int .i64 (U - 2 ^ r))).drew) := (BZ.out.setCell (Nat.le_refl _) _).drew
        go_wp2_with fail
        go_roundw
        case rel => exact ⟨j + 1, (t : Int) - 1, subB y t, by have := HJ.out; omega, rfl, by have := HT.out; have := HJ.out; omega, by rw [HN.out] at HST; exact HST, OY, BY⟩
        case measure => simp [intOf] <;> omega
    · obtain rfl : j = 69 := by omega
      have hz0 : ¬ (0 : Int) ≤ z := by omega
      have c0 := cell_own O.out (by decide : 0 < 5)
      have c1 := cell_own O.out (by decide : 1 < 5)
      have c2 := cell_own O.out (by decide : 2 < 5)
      have c3 := cell_own O.out (by decide : 3 < 5)
      have hv := HR.out.val
      have d0 := HR.out.dig 0
      have d1 := HR.out.dig 1
      have d2 := HR.out.dig 2
      have d3 := HR.out.dig 3
      simp only [V] at hv
      generalize x.getD 0 0 = x0 at *
      generalize x.getD 1 0 = x1 at *
      generalize x.getD 2 0 = x2 at *
      generalize x.getD 3 0 = x3 at *
      generalize x.getD 4 0 = x4 at *
      have HV := Lib.hid hv
      have HD := Lib.hid (And.intro d0 (And.intro d1 (And.intro d2 d3)))
      have e0 : x0 % 18446744073709551616 = x0 := by omega
      have e1 : x1 % 18446744073709551616 = x1 := by omega
      have e2 : x2 % 18446744073709551616 = x2 := by omega
      have e3 : x3 % 18446744073709551616 = x3 := by omega
      clear hv hz hlt d0 d1 d2 d3
      go_wp2_with fail
      go_region
      go_wp2_with fail
      go_ret
      have hv := HV.out
      obtain ⟨d0, d1, d2, d3⟩ := HD.out
      refine ⟨congrArg (fun q => Ending.returned (.int .u64 q)) ?_, BM.out.trans ((B.out.drew).mono BM.out.size)⟩
      simp only [u64_mod]
      omega

set_option maxHeartbeats 3200000 in
set_option maxRecDepth 100000 in
theorem root_three (p : Nat) (w : World) (hp : p ≤ 65535) :
    Calls Tryd.prog 33 #[.int .i64 p, .int .i64 3] w fun e w' => e = .returned (.int .u64 ((rootN p 3 69 : Int) % 18446744073709551616)) ∧ Below w.heap.size w w' := by
  obtain ⟨i0, hi, hz0, hz1, hz2⟩ := info_parts infoInt
  go_enter Tryd.func33, Tryd.ntmps33
  go_wp2_with (first
    | (have o2 : (w1.setCell ⟨w.heap.size, 12, none⟩ (.int .i64 p)).ownsRow w.heap.size 3 1 (.slice (some ⟨w.heap.size, 0, none⟩) 13 13) 13 (intV (mostL p 3)) := (by have := owns_set (k := 12) O1.out rfl (.int .i64 p); rw [intV_set] at this; exact this); have b2 : Below w.heap.size w (w1.setCell ⟨w.heap.size, 12, none⟩ (.int .i64 p)) := B1.out.setCell (Nat.le_refl _) _; obtain ⟨W1, hW1⟩ : ∃ W1, w1.setCell ⟨w.heap.size, 12, none⟩ (.int .i64 p) = W1 := ⟨_, rfl⟩; rw [hW1] at o2 b2; rw [hW1]; have OM := Lib.hid o2; have BM := Lib.hid b2; clear O1 B1 f0 c0 o2 b2 hW1; refine wpList_make_full _ rfl _ _ 54 rfl W1.heap.size 3 i0 (.int .i64 0) 1 Tryd.underlying54 hi hz0 hz1 _ _ _ _ 5 rfl rfl (by decide) (by decide) (by rw [hz2]; omega) (by unfold maxLen; omega) (Nat.le_refl _) ?_; intro w2 o2 g2; rw [made_int 5] at o2; have OX := Lib.hid o2; have BX : Hid (Below W1.heap.size W1 w2) := ⟨g2.os, g2.tape, g2.output, g2.size, fun k hk => g2.block k hk (by simp)⟩; clear o2 g2)
    | (refine wpList_make_full _ rfl _ _ 54 rfl w.heap.size 3 i0 (.int .i64 0) 1 Tryd.underlying54 hi hz0 hz1 _ _ _ _ 13 rfl rfl (by decide) (by decide) (by rw [hz2]; omega) (by unfold maxLen; omega) (Nat.le_refl _) ?_; intro w1 o1 g1; rw [made_int 13] at o1; have f0 := owns_free o1 rfl 12; have c0 := cell_own o1 (by decide : 12 < 13); have O1 := Lib.hid o1; have B1 : Hid (Below w.heap.size w w1) := ⟨g1.os, g1.tape, g1.output, g1.size, fun k hk => g1.block k hk (by simp)⟩; clear o1 g1))
  clear hi hz0 hz1 hz2
  go_loopw [7] (fun s wr => ∃ (j : Nat) (z : Int) (x : List Int), j ≤ 69 ∧ s = .int .i64 z ∧ z = 68 - (j : Int) ∧ Hid (RootAt p 3 j x) ∧ Hid (wr.ownsRow W1.heap.size 3 1 (.slice (some ⟨W1.heap.size, 0, none⟩) 5 5) 5 (intV x)) ∧ Hid (Below W1.heap.size W1 wr)) (fun s _ => (intOf s + 1).toNat)
  case atStart => exact ⟨0, 68, _, by omega, rfl, rfl, RootAt.start p 3, OX, BX⟩
  case round =>
    clear OX BX
    obtain ⟨j, z, x, hj, rfl, hz, HR, O, B⟩ := hrel
    by_cases hlt : j < 69
    · obtain ⟨t, ht⟩ : ∃ t, 68 - j = t := ⟨_, rfl⟩
      obtain rfl : z = (t : Int) := by omega
      have ht0 : (0 : Int) ≤ t := by omega
      have htm : t ≤ 68 := by omega
      have hl5 := HR.out.len
      obtain ⟨q, hq⟩ : ∃ q, t / 16 = q := ⟨_, rfl⟩
      obtain ⟨r, hr⟩ : ∃ r, t % 16 = r := ⟨_, rfl⟩
      have hqc : (t : Int) / 16 = q := by omega
      have hrc : (t : Int) % 16 = r := by omega
      have hq0 : (0 : Int) ≤ q := by omega
      have hq5 : (q : Int) < 5 := by omega
      have hr0 : (0 : Int) ≤ r := by omega
      have hr16 : r < 16 := by omega
      have c0 := cell_own O.out (by omega : q < 5)
      have f0 := owns_free O.out rfl q
      have HD := Lib.hid (HR.out.dig1 hlt)
      obtain ⟨v, hv⟩ : ∃ v, x.getD q 0 = v := ⟨_, rfl⟩
      rw [hv] at c0
      have hx1 : Hid (addB x t = x.set q (v + 2 ^ r)) := by show _ = _; unfold addB; rw [hq, hr, hv]
      have hvd : 0 ≤ v ∧ v ≤ 65535 := by rw [← hv]; exact HR.out.dig _
      have HT := Lib.hid ht
      have HJ := Lib.hid hlt
      have HQ := Lib.hid hq
      have HRR := Lib.hid hr
      have hrm : v + 2 ^ r ≤ 65535 := by
        have hlow := HR.out.low
        rw [show 69 - j = t + 1 by omega] at hlow
        have := hlow.room (by rw [hq, hv]; exact hvd.1) (by rw [hq, hv]; exact hvd.2)
        rw [hq, hr, hv] at this
        exact this
      have hpp : (0 : Int) < 2 ^ r := Int.pow_pos (by decide)
      have hw1 : wrap64 ((2 : Int) ^ r) = 2 ^ r := by obtain ⟨P, hP⟩ : ∃ P : Int, 2 ^ r = P := ⟨_, rfl⟩; rw [hP] at hrm hpp ⊢; exact w64 P (by omega) (by omega)
      have hw2 : wrap64 (v + 2 ^ r) = v + 2 ^ r := by obtain ⟨P, hP⟩ : ∃ P : Int, 2 ^ r = P := ⟨_, rfl⟩; rw [hP] at hrm hpp ⊢; exact w64 _ (by omega) (by omega)
      clear hv hz ht hlt hl5 hq hr
      have HVD := Lib.hid hvd
      clear hvd
      go_wp2_with fail
      go_region
      rw [hw1, hw2]
      have OX : Hid (World.ownsRow (wr.setCell ⟨W1.heap.size, q, none⟩ (.int .i64 (v + 2 ^ r))).drew W1.heap.size 3 1 (.slice (some ⟨W1.heap.size, 0, none⟩) 5 5) 5 (intV (addB x t))) := by
        show World.ownsRow _ _ _ _ _ _ _
        rw [hx1.out, ← intV_set]
        exact (owns_set O.out rfl _).drew
      have BX : Hid (Below W1.heap.size W1 (wr.setCell ⟨W1.heap.size, q, none⟩ (.int .i64 (v + 2 ^ r))).drew) := (B.out.setCell (Nat.le_refl _) _).drew
      obtain ⟨wx, hwx⟩ : ∃ wx, (wr.setCell ⟨W1.heap.size, q, none⟩ (.int .i64 (v + 2 ^ r))).drew = wx := ⟨_, rfl⟩
      rw [hwx] at OX BX
      rw [hwx]
      have HX1 : Hid ((addB x t).length = 5 ∧ Dig (addB x t)) := by
        refine ⟨by unfold addB; rw [List.length_set]; exact HR.out.len, Dig.of ?_⟩
        rw [← HT.out]
        exact HD.out
      obtain ⟨y, hy⟩ : ∃ y, addB x t = y := ⟨_, rfl⟩
      rw [hy] at OX HX1 hx1
      have HY := Lib.hid hy
      have hyq : y.getD q 0 = v + 2 ^ r := by
        have hlx : q < x.length := by rw [HR.out.len]; omega
        rw [hx1.out, getD_set _ _ _ _ hlx, if_pos rfl]
      obtain ⟨U, hU⟩ : ∃ U, v + 2 ^ r = U := ⟨_, rfl⟩
      rw [hU] at hyq
      have hw3 : wrap64 (U - 2 ^ r) = U - 2 ^ r := by have hvd := HVD.out; rw [hU] at hrm; obtain ⟨P, hP⟩ : ∃ P : Int, 2 ^ r = P := ⟨_, rfl⟩; rw [hP] at hpp hU ⊢; exact w64 _ (by omega) (by omega)
      have HSB : Hid (subB y t = y.set q (U - 2 ^ r)) := by show _ = _; unfold subB; rw [HQ.out, HRR.out, hyq]
      have HYQ := Lib.hid hyq
      have HU := Lib.hid hU
      have HW1 := Lib.hid hw1
      have HW3 := Lib.hid hw3
      have HPP := Lib.hid hpp
      clear O B hwx hy c0 f0 hw1 hw2 hyq hU hw3 hrm hpp
      have HST : Hid (RootAt p 3 (j + 1) (stepR p 3 x t)) := by have := HR.out.step HJ.out (by decide) hp; rw [HT.out] at this; exact this
      have hsr : stepR p 3 x t = if aboveL (cubeL 3 y) (mostL p 3) (max (cubeL 3 y).length (mostL p 3).length) then subB y t else y := by unfold stepR; rw [HY.out]
      have HSR := Lib.hid hsr
      clear hsr
      go_wp2_with fail
      refine (times_any _ _ y y _ (owns_slice OX.out (by rw [intV_len]; exact HX1.out.1)) (owns_slice OX.out (by rw [intV_len]; exact HX1.out.1)) (by rw [HX1.out.1]; decide) (by rw [HX1.out.1]; decide) HX1.out.2 HX1.out.2).mono ?_
      rintro e w3 ⟨v3, rfl, o3, b3⟩
      have O3 := Lib.hid o3
      have B3 := Lib.hid b3
      clear o3 b3
      go_wp2_with fail
      refine (times_any _ _ (timesL y y) y _ (owns_slice O3.out (by rw [intV_len])) (SliceIn.below (owns_slice OX.out (by rw [intV_len]; exact HX1.out.1)) B3.out) (by rw [times_len, HX1.out.1]; decide) (by rw [HX1.out.1]; decide) (times_dig HX1.out.2 HX1.out.2) HX1.out.2).mono ?_
      rintro e w5 ⟨v5, rfl, o5, b5⟩
      have O5 := Lib.hid o5
      have B5 := Lib.hid b5
      clear o5 b5
      go_wp2_with fail
      refine (above_any _ _ (cubeL 3 y) (mostL p 3) _ (owns_slice O5.out (by rw [intV_len]; rfl)) (SliceIn.below (SliceIn.below (SliceIn.below (owns_slice OM.out (by rw [intV_len, most_len])) BX.out) B3.out) B5.out) (by rw [cube_len 3 (by decide) HX1.out.1]; decide) (by rw [most_len]; decide)).mono ?_
      rintro e w9 ⟨rfl, rfl⟩
      have ox : World.ownsRow w5 W1.heap.size 3 1 (.slice (some ⟨W1.heap.size, 0, none⟩) 5 5) 5 (intV y) := owns_below (owns_below OX.out B3.out) B5.out
      have bx : Below W1.heap.size W1 w5 := BX.out.trans ((B3.out.trans (B5.out.mono B3.out.size)).mono BX.out.size)
      cases hc : aboveL (cubeL 3 y) (mostL p 3) (max (cubeL 3 y).length (mostL p 3).length) with
      | false =>
        have HN : Hid (stepR p 3 x t = y) := by show _ = _; rw [HSR.out, hc]; rfl
        have OZ := Lib.hid ox
        have BZ := Lib.hid bx
        clear hc ox bx
        go_wp2_with fail
        go_roundw
        case rel => exact ⟨j + 1, (t : Int) - 1, y, by have := HJ.out; omega, rfl, by have := HT.out; have := HJ.out; omega, by rw [HN.out] at HST; exact HST, OZ, BZ⟩
        case measure => simp [intOf] <;> omega
      | true =>
        have HN : Hid (stepR p 3 x t = subB y t) := by show _ = _; rw [HSR.out, hc]; rfl
        have c1 := cell_own ox (by omega : q < 5)
        have f1 := owns_free ox rfl q
        rw [HYQ.out] at c1
        have OZ := Lib.hid ox
        have BZ := Lib.hid bx
        clear hc ox bx
        go_wp2_with fail
        go_region
        rw [HW1.out, HW3.out]
        have OY : Hid (World.ownsRow (w5.setCell ⟨W1.heap.size, q, none⟩ (.int .i64 (U - 2 ^ r))).drew W1.heap.size 3 1 (.slice (some ⟨W1.heap.size, 0, none⟩) 5 5) 5 (intV (subB y t))) := by
          show World.ownsRow _ _ _ _ _ _ _
          rw [HSB.out, ← intV_set]
          exact (owns_set OZ.out rfl _).drew
        have BY : Hid (Below W1.heap.size W1 (w5.setCell ⟨W1.heap.size, q, none⟩ (.int .i64 (U - 2 ^ r))).drew) := (BZ.out.setCell (Nat.le_refl _) _).drew
        go_wp2_with fail
        go_roundw
        case rel => exact ⟨j + 1, (t : Int) - 1, subB y t, by have := HJ.out; omega, rfl, by have := HT.out; have := HJ.out; omega, by rw [HN.out] at HST; exact HST, OY, BY⟩
        case measure => simp [intOf] <;> omega
    · obtain rfl : j = 69 := by omega
      have hz0 : ¬ (0 : Int) ≤ z := by omega
      have c0 := cell_own O.out (by decide : 0 < 5)
      have c1 := cell_own O.out (by decide : 1 < 5)
      have c2 := cell_own O.out (by decide : 2 < 5)
      have c3 := cell_own O.out (by decide : 3 < 5)
      have hv := HR.out.val
      have d0 := HR.out.dig 0
      have d1 := HR.out.dig 1
      have d2 := HR.out.dig 2
      have d3 := HR.out.dig 3
      simp only [V] at hv
      generalize x.getD 0 0 = x0 at *
      generalize x.getD 1 0 = x1 at *
      generalize x.getD 2 0 = x2 at *
      generalize x.getD 3 0 = x3 at *
      generalize x.getD 4 0 = x4 at *
      have HV := Lib.hid hv
      have HD := Lib.hid (And.intro d0 (And.intro d1 (And.intro d2 d3)))
      have e0 : x0 % 18446744073709551616 = x0 := by omega
      have e1 : x1 % 18446744073709551616 = x1 := by omega
      have e2 : x2 % 18446744073709551616 = x2 := by omega
      have e3 : x3 % 18446744073709551616 = x3 := by omega
      clear hv hz hlt d0 d1 d2 d3
      go_wp2_with fail
      go_region
      go_wp2_with fail
      go_ret
      have hv := HV.out
      obtain ⟨d0, d1, d2, d3⟩ := HD.out
      refine ⟨congrArg (fun q => Ending.returned (.int .u64 q)) ?_, BM.out.trans ((B.out.drew).mono BM.out.size)⟩
      simp only [u64_mod]
      omega
end Go.Proofs.YtnlhhjokaekdhaaDoor.R4
