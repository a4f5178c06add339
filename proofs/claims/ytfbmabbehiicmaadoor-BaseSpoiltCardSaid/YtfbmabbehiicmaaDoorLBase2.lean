/- The law BaseSpoilt. -/
import Derived.Test.YtfbmabbehiicmaaDoorLBase
import Derived.Deep.RegionWith
import Derived.Deep.Cut
import Derived.Deep.RegionHeld3
set_option linter.unusedVariables false
namespace Go.Proofs.YtfbmabbehiicmaaDoor
open Go.RowKit

theorem letL.sub {l l' : List UInt8} (h : letL l) (hs : ∀ c ∈ l', c ∈ l) : letL l' := fun c hc => h c (hs c hc)
theorem spoilt_at (e : List UInt8) (he : letL e) (k : Nat) (hk : k ≤ e.length) (c : UInt8) (hc : valN c.toNat = none) (h : c ≠ 61 ∨ k < e.length) : decE (e.take k ++ [c] ++ e.drop k) = none := by
  refine spoilt_in (he.sub fun x hx => List.mem_of_mem_take hx) (he.sub fun x hx => List.mem_of_mem_drop hx) hc ?_
  rcases h with h | h
  · exact .inl h
  · exact .inr (by intro e0; have := congrArg List.length e0; simp at this; omega)
theorem enc_three (l : List UInt8) : (encE (l ++ l ++ l)).length % 4 = 0 := by rw [encE_len]; omega

theorem app_dataB (a b : ByteArray) : (a ++ b).data.toList = a.data.toList ++ b.data.toList := by
  rw [ByteArray.data_append, Array.toList_append]
theorem conv_one (w w0 : World) (x : UInt8) (h : w.heap.size = w0.heap.size) : (convert 27 9 (.slice (some ⟨w0.heap.size, 0, none⟩) 1 1)).run Tryd.prog (w.alloc (.cells #[.int .u8 (x.toNat : Int)] 5)) = .ok (.string ⟨#[x]⟩) (w.alloc (.cells #[.int .u8 (x.toNat : Int)] 5)) := by
  refine run_convert_bytes_back _ 27 9 5 ⟨w0.heap.size, 0, none⟩ 1 [x] Tryd.underlying27 Tryd.underlying5 Tryd.underlying9 fun j hj => ?_
  have hj0 : j = 0 := by simp at hj; omega
  subst hj0
  rw [← h]
  simp [Addr.add]
theorem conv_oneD (w : World) (x : UInt8) : (convert 27 9 (.slice (some ⟨w.heap.size, 0, none⟩) 1 1)).run Tryd.prog (w.alloc (.cells #[.int .u8 (x.toNat : Int)] 5)).drew = .ok (.string ⟨#[x]⟩) (w.alloc (.cells #[.int .u8 (x.toNat : Int)] 5)).drew := by
  refine run_convert_bytes_back _ 27 9 5 ⟨w.heap.size, 0, none⟩ 1 [x] Tryd.underlying27 Tryd.underlying5 Tryd.underlying9 fun j hj => ?_
  have hj0 : j = 0 := by simp at hj; omega
  subst hj0
  simp [Addr.add]
/-- No letter: between which bytes. -/
theorem no_letter {x : Nat} (h : valN x = none) (hx : x ≤ 255) : (x < 43 ∨ x = 44 ∨ x = 46) ∨ (58 ≤ x ∧ x < 65) ∨ ((91 ≤ x ∧ x < 95) ∨ x = 96) ∨ 123 ≤ x := by
  have h2 := val_letter ⟨x, by omega⟩
  have h3 := h2.mp h
  simp only [] at h3
  omega
theorem yes_letter {x : Nat} (h : ¬ valN x = none) (hx : x ≤ 255) : (97 ≤ x ∧ x ≤ 122) ∨ (65 ≤ x ∧ x ≤ 90) ∨ (48 ≤ x ∧ x ≤ 57) ∨ x = 43 ∨ x = 47 ∨ x = 45 ∨ x = 95 := by
  have h2 := val_letter ⟨x, by omega⟩
  by_cases hl : ((97 ≤ x ∧ x ≤ 122) ∨ (65 ≤ x ∧ x ≤ 90) ∨ (48 ≤ x ∧ x ≤ 57) ∨ x = 43 ∨ x = 47 ∨ x = 45 ∨ x = 95)
  · exact hl
  · exact absurd (h2.mpr hl) h
set_option maxHeartbeats 400000000 in
set_option maxRecDepth 100000 in
theorem baseSpoilt_law (s : ByteArray) (at' c m : Int) (w : World) (hs : s.size ≤ maxLen) (ha : 0 ≤ at' ∧ at' ≤ 65535) (hc : 0 ≤ c ∧ c ≤ 255) (hm : MaxOk m w) :
    Calls Tryd.prog 10 #[.string s, .int .u16 at', .int .u8 c] w fun e w' => e = .returned (.bool true) ∧ Below w.heap.size w w' := by
  have HM := Lib.hid hm
  clear hm
  unfold maxLen at hs
  obtain ⟨ha0, ha1⟩ := ha
  obtain ⟨hc0, hc1⟩ := hc
  by_cases h1 : 1500 < s.size
  · go_enter Tryd.func10, Tryd.ntmps10
    go_wp2_with fail
    refine (lettered_any m _ HM.out).mono ?_
    rintro e w1 ⟨rfl, b1⟩
    go_wp2_with fail
    go_ret
    exact ⟨rfl, b1⟩
  · obtain ⟨x, hx, hx255⟩ : ∃ x : UInt8, c = (x.toNat : Int) ∧ x.toNat ≤ 255 := by
      refine ⟨UInt8.ofNat c.toNat, ?_, ?_⟩
      · rw [UInt8.toNat_ofNat']; omega
      · have := (UInt8.ofNat c.toNat).toNat_lt; omega
    subst hx
    obtain ⟨T, hT⟩ : ∃ T : ByteArray, (⟨(encE s.data.toList).toArray⟩ : ByteArray) = T := ⟨_, rfl⟩
    have hTs : T.size = (s.size + 2) / 3 * 4 := by rw [← hT, encB_size]
    have hTd : Hid (T.data.toList = encE s.data.toList) := by show T.data.toList = _; rw [← hT]
    obtain ⟨B, hB⟩ : ∃ B : ByteArray, (⟨(bareL T.data.toList).toArray⟩ : ByteArray) = B := ⟨_, rfl⟩
    have hBd : Hid (B.data.toList = encC s.data.toList) := by show B.data.toList = _; rw [← hB, ← bare_enc, ← hTd.out]
    have hBs : B.size ≤ 3000 := by
      have h2 := encC_len s.data.toList
      have h3 : B.data.toList.length = B.size := by simp
      rw [hBd.out] at h3
      simp at h2
      omega
    have hT4 : T.size ≤ 3000 := by omega
    have HT := Lib.hid hT
    have HB := Lib.hid hB
    clear hT hB
    obtain ⟨k, hk⟩ : ∃ k : Nat, at' % ((B.size : Int) + 1) = (k : Int) := ⟨(at' % ((B.size : Int) + 1)).toNat, by
      have := Int.emod_nonneg at' (show (B.size : Int) + 1 ≠ 0 by omega)
      omega⟩
    have hkB : k ≤ B.size := by
      have := Int.emod_lt_of_pos at' (show (0 : Int) < (B.size : Int) + 1 by omega)
      omega
    have HK := Lib.hid hk
    clear hk hTs
    obtain ⟨F, hF⟩ : ∃ F : ByteArray, (⟨(encE (s ++ s ++ s).data.toList).toArray⟩ : ByteArray) = F := ⟨_, rfl⟩
    have hss : (s ++ s ++ s).size = 3 * s.size := by rw [ByteArray.size_append, ByteArray.size_append]; omega
    have hFs : F.size ≤ 12000 := by rw [← hF, encB_size, hss]; omega
    have hFd : Hid (decE (F ++ ⟨#[81]⟩).data.toList = none) := by
      show decE (F ++ ⟨#[81]⟩).data.toList = none
      rw [app_dataB, ← hF]
      refine spoilt_more 81 ?_
      show (encE (s ++ s ++ s).data.toList).length % 4 = 0
      rw [app_dataB, app_dataB, enc_three]
    have hTe : Hid (decE (T ++ ⟨#[61]⟩).data.toList = none) := by
      show decE (T ++ ⟨#[61]⟩).data.toList = none
      rw [app_dataB, hTd.out]
      refine spoilt_more 61 ?_
      rw [encE_len]; omega
    have HF := Lib.hid hF
    have HSS := Lib.hid hss
    clear hF hss
    have hone : (⟨#[61]⟩ : ByteArray).size = 1 := rfl
    have hone2 : (⟨#[81]⟩ : ByteArray).size = 1 := rfl
    have HO1 := Lib.hid hone
    have HO2 := Lib.hid hone2
    clear hone hone2
    have hpos : 0 < (B.size : Int) + 1 := by omega
    have hrest : Hid (∀ (wx : World), Below w.heap.size w wx → True) := fun _ _ => trivial
    by_cases hv : valN x.toNat = none
    · have hcls := no_letter hv hx255
      have HV := Lib.hid hv
      clear hv
      go_enter Tryd.func10, Tryd.ntmps10
      go_wp2_with fail
      refine (bencode_any s _ (by omega)).mono ?_
      rintro e w1 ⟨rfl, b1⟩
      rw [HT.out]
      go_wp2_with fail
      refine (bare_any T _ (by omega)).mono ?_
      rintro e w' ⟨rfl, rfl⟩
      rw [HB.out]
      have hk0 : (0 : Int) ≤ (k : Int) := by omega
      have hk1 : (k : Int) ≤ (B.size : Int) := by omega
      go_upto_region 5 with (fail)
      rw [HK.out]
      go_cut [9] from 30 (fun l wc => l = .bool false ∧ w1 = wc)
      case first =>
        have e43 : ((x.toNat : Int) == 43) = false := by rw [beq_eq_false_iff_ne]; omega
        have e47 : ((x.toNat : Int) == 47) = false := by rw [beq_eq_false_iff_ne]; omega
        have e45 : ((x.toNat : Int) == 45) = false := by rw [beq_eq_false_iff_ne]; omega
        have e95 : ((x.toNat : Int) == 95) = false := by rw [beq_eq_false_iff_ne]; omega
        have hcls2 : (x.toNat : Int) ≤ 46 ∨ (58 ≤ (x.toNat : Int) ∧ (x.toNat : Int) ≤ 64) ∨ (91 ≤ (x.toNat : Int) ∧ (x.toNat : Int) ≤ 96) ∨ 123 ≤ (x.toNat : Int) := by omega
        clear hcls
        rcases hcls2 with e1 | ⟨e1, e2⟩ | ⟨e1, e2⟩ | e1
        all_goals
          go_wp2_with fail
          go_meet
          case rel => exact ⟨by first | rfl | (simp; omega), rfl⟩
      case rest =>
        obtain ⟨rfl, rfl⟩ := hcut
        clear hcls
        by_cases hgo : x ≠ 61 ∨ k < B.size
        · have hDs : (B.extract 0 k ++ ⟨#[x]⟩ ++ B.extract k B.size).size ≤ 3001 := by
            simp only [ByteArray.size_append, ByteArray.size_extract]
            show min k B.size - 0 + 1 + (min B.size B.size - k) ≤ 3001
            omega
          have HDS := Lib.hid hDs
          clear hDs
          have HSP : Hid (decE (B.extract 0 k ++ ⟨#[x]⟩ ++ B.extract k B.size).data.toList = none) := by
            show decE _ = none
            have h3 : B.data.toList.length = B.size := by simp
            rw [app_dataB, app_dataB, ext_init, ext_tail, hBd.out]
            rw [hBd.out] at h3
            refine spoilt_at _ (encC_let _) k (by omega) x HV.out ?_
            rw [h3]
            exact hgo
          have hcv := conv_oneD w1 x
          go_upto_region 6 with (fail)
          go_cut [80] from 30 (fun l wc => l = .bool true ∧ w1 = wc)
          case first =>
            by_cases h61 : x = 61
            · have hkk : (k : Int) < (B.size : Int) := by
                rcases hgo with h | h
                · exact absurd h61 h
                · omega
              clear hgo
              subst h61
              go_wp2_with fail
              refine (bare_any T _ (by omega)).mono ?_
              rintro e w' ⟨rfl, rfl⟩
              rw [HB.out]
              go_wp2_with fail
              go_meet
              case rel => exact ⟨rfl, rfl⟩
            · have hne : ((x.toNat : Int) != 61) = true := by
                rw [bne_iff_ne]
                intro e
                exact h61 (UInt8.toNat_inj.1 (by show x.toNat = 61; omega))
              clear hgo h61
              go_wp2_with fail
              go_meet
              case rel => exact ⟨rfl, rfl⟩
          case rest =>
            obtain ⟨rfl, rfl⟩ := hcut
            clear hgo
            go_upto_region 7 with (fail)
            go_cut [11] from 30 (fun l wc => l = .int .i64 30 ∧ Hid (Below w1.heap.size w1 wc))
            case first =>
              go_region_with (first | (go_at_call 24; refine (bare_any T _ (by omega)).mono ?_; rintro e w' ⟨rfl, rfl⟩; rw [HB.out]) | (go_at_call 18; refine (bdecode_any _ _ (Nat.le_trans HDS.out (by decide))).mono ?_; rintro e w2 ⟨d2, b2⟩; obtain rfl : e = .returned (.tuple #[.string ⟨#[]⟩, .int .i64 30]) := decRes_is d2 HSP.out; clear d2))
              all_goals
                have cb : Below w1.heap.size w1 w2 := (((Below.refl _ w1).alloc (Nat.le_refl _) _).drew).trans (b2.mono (by simp))
                clear b2
                go_wp2_with fail
                go_meet
                case rel => exact ⟨rfl, cb⟩
            case rest =>
              obtain ⟨rfl, hbc⟩ := hcut
              have cc := b1.trans (hbc.out.mono b1.size)
              clear hbc hcv
              go_wp2_with fail
              refine (bdecode_any _ _ (by rw [ByteArray.size_append, HO1.out]; omega)).mono ?_
              rintro e w2 ⟨d2, b2⟩
              obtain rfl : e = .returned (.tuple #[.string ⟨#[]⟩, .int .i64 30]) := decRes_is d2 hTe.out
              clear d2
              have c2 := cc.trans (b2.mono cc.size)
              go_wp2_with fail
              refine (bencode_any _ _ (by rw [HSS.out]; omega)).mono ?_
              rintro e w3 ⟨rfl, b3⟩
              rw [HF.out]
              have c3 := c2.trans (b3.mono c2.size)
              go_wp2_with fail
              refine (bdecode_any _ _ (by rw [ByteArray.size_append, HO2.out]; omega)).mono ?_
              rintro e w4 ⟨d4, b4⟩
              obtain rfl : e = .returned (.tuple #[.string ⟨#[]⟩, .int .i64 30]) := decRes_is d4 hFd.out
              clear d4
              have c4 := c3.trans (b4.mono c3.size)
              go_wp2_with fail
              refine (lettered_any m _ (HM.out.below c4)).mono ?_
              rintro e w5 ⟨rfl, b5⟩
              go_wp2_with fail
              go_ret
              exact ⟨rfl, c4.trans (b5.mono c4.size)⟩
        · have h61 : x = 61 := by
            by_cases h : x = 61
            · exact h
            · exact absurd (.inl h) hgo
          have hkk : ¬ (k : Int) < (B.size : Int) := by
            intro h
            exact hgo (.inr (by omega))
          clear hgo
          subst h61
          go_wp2_with fail
          refine (bare_any T _ (by omega)).mono ?_
          rintro e w' ⟨rfl, rfl⟩
          rw [HB.out]
          go_wp2_with fail
          refine (bdecode_any _ _ (by rw [ByteArray.size_append, HO1.out]; omega)).mono ?_
          rintro e w2 ⟨d2, b2⟩
          obtain rfl : e = .returned (.tuple #[.string ⟨#[]⟩, .int .i64 30]) := decRes_is d2 hTe.out
          clear d2
          have c2 := b1.trans (b2.mono b1.size)
          go_wp2_with fail
          refine (bencode_any _ _ (by rw [HSS.out]; omega)).mono ?_
          rintro e w3 ⟨rfl, b3⟩
          rw [HF.out]
          have c3 := c2.trans (b3.mono c2.size)
          go_wp2_with fail
          refine (bdecode_any _ _ (by rw [ByteArray.size_append, HO2.out]; omega)).mono ?_
          rintro e w4 ⟨d4, b4⟩
          obtain rfl : e = .returned (.tuple #[.string ⟨#[]⟩, .int .i64 30]) := decRes_is d4 hFd.out
          clear d4
          have c4 := c3.trans (b4.mono c3.size)
          go_wp2_with fail
          refine (lettered_any m _ (HM.out.below c4)).mono ?_
          rintro e w5 ⟨rfl, b5⟩
          go_wp2_with fail
          go_ret
          exact ⟨rfl, c4.trans (b5.mono c4.size)⟩
    · have hcls := yes_letter hv hx255
      have HV := Lib.hid hv
      clear hv
      go_enter Tryd.func10, Tryd.ntmps10
      go_wp2_with fail
      refine (bencode_any s _ (by omega)).mono ?_
      rintro e w1 ⟨rfl, b1⟩
      rw [HT.out]
      go_wp2_with fail
      refine (bare_any T _ (by omega)).mono ?_
      rintro e w' ⟨rfl, rfl⟩
      rw [HB.out]
      rcases hcls with ⟨h1, h2⟩ | ⟨h1, h2⟩ | ⟨h1, h2⟩ | h1 | h1 | h1 | h1
      all_goals
        first
          | (have e1 : (97 : Int) ≤ (x.toNat : Int) := by omega
             have e2 : (x.toNat : Int) ≤ 122 := by omega)
          | (have e1 : (65 : Int) ≤ (x.toNat : Int) := by omega
             have e2 : (x.toNat : Int) ≤ 90 := by omega)
          | (have e1 : (48 : Int) ≤ (x.toNat : Int) := by omega
             have e2 : (x.toNat : Int) ≤ 57 := by omega)
          | rw [h1]
        clear h1
        go_wp2_with fail
        refine (bdecode_any _ _ (by rw [ByteArray.size_append, HO1.out]; omega)).mono ?_
        rintro e w2 ⟨d2, b2⟩
        obtain rfl : e = .returned (.tuple #[.string ⟨#[]⟩, .int .i64 30]) := decRes_is d2 hTe.out
        clear d2
        have c2 := b1.trans (b2.mono b1.size)
        go_wp2_with fail
        refine (bencode_any _ _ (by rw [HSS.out]; omega)).mono ?_
        rintro e w3 ⟨rfl, b3⟩
        rw [HF.out]
        have c3 := c2.trans (b3.mono c2.size)
        go_wp2_with fail
        refine (bdecode_any _ _ (by rw [ByteArray.size_append, HO2.out]; omega)).mono ?_
        rintro e w4 ⟨d4, b4⟩
        obtain rfl : e = .returned (.tuple #[.string ⟨#[]⟩, .int .i64 30]) := decRes_is d4 hFd.out
        clear d4
        have c4 := c3.trans (b4.mono c3.size)
        go_wp2_with fail
        refine (lettered_any m _ (HM.out.below c4)).mono ?_
        rintro e w5 ⟨rfl, b5⟩
        go_wp2_with fail
        go_ret
        exact ⟨rfl, c4.trans (b5.mono c4.size)⟩
end Go.Proofs.YtfbmabbehiicmaaDoor
