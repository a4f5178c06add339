/- The law AsciiCase, by the contracts. -/
import Derived.Test.YthgecembedjnaaaDoorLists8
import Derived.Test.YthgecembedjnaaaDoorRow
import Derived.Test.YthgecembedjnaaaDoorArgs
import Derived.Test.YthgecembedjnaaaDoorAscii6
import Derived.Test.YthgecembedjnaaaDoorBits
set_option linter.unusedVariables false
namespace Go.Proofs.YthgecembedjnaaaDoor
open Go.RowKit

set_option maxHeartbeats 4000000 in
set_option maxRecDepth 100000 in
theorem asciiCase_law (s : ByteArray) (tv : Value) (bs : List Bool) (a b m : Int) (w : World) (hs : s.size ≤ maxLen) (htv : SliceIn w tv (bs.map Value.bool)) (ha : 0 ≤ a ∧ a ≤ 65535) (hb : 0 ≤ b ∧ b ≤ 65535) (hm : MaxOk m w) :
    Calls Tryd.prog 5 #[.string s, tv, .agg #[.int .u16 a, .int .u16 b]] w fun e w' => e = .returned (.bool true) ∧ Below w.heap.size w w' := by
  have HM := Lib.hid hm
  clear hm
  unfold maxLen at hs
  obtain ⟨ta, tc, hT0, _⟩ := id htv
  subst hT0
  have hm1 : Hid (MaxOk m (w.alloc (.cells #[.int .u16 a, .int .u16 b] 33))) := HM.out.below ((Below.refl _ w).alloc (Nat.le_refl _) _)
  by_cases h1 : 2000 < s.size
  · go_enter Tryd.func5, Tryd.ntmps5
    go_wp2_with fail
    refine (spelt_any m _ hm1.out).mono ?_
    rintro e w' ⟨rfl, hb'⟩
    go_wp2_with fail
    go_ret
    exact ⟨rfl, ((Below.refl _ w).alloc (Nat.le_refl _) _).trans (hb'.mono (by rw [alloc_size]; omega))⟩
  · obtain ⟨w1, hw1⟩ : ∃ w1, w.alloc (.cells #[.int .u16 a, .int .u16 b] 33) = w1 := ⟨_, rfl⟩
    have hT := Lib.hid (htv.below ((Below.refl _ w).alloc (Nat.le_refl _) (.cells #[.int .u16 a, .int .u16 b] 33)))
    have hBx : Hid (w1.heap[w.heap.size]? = some (.cells #[.int .u16 a, .int .u16 b] 33 (0, 0))) := by
      show w1.heap[w.heap.size]? = _
      rw [← hw1]; show (w.heap.push _)[w.heap.size]? = _; rw [Array.getElem?_push_size]
    have hsz1 : w1.heap.size = w.heap.size + 1 := by rw [← hw1, alloc_size]
    have hbel1 : Hid (Below w.heap.size w w1) := by rw [← hw1]; exact (Below.refl _ w).alloc (Nat.le_refl _) _
    rw [hw1] at hm1 hT
    obtain ⟨cap, w2, e2, hB, hbel, hsz2⟩ := bytes_blk (P := Tryd.prog) w1 9 34 5 s Tryd.underlying9 Tryd.underlying34 Tryd.underlying5
    have E2 := Lib.hid e2
    have HB := Lib.hid hB
    have HE := Lib.hid hbel
    clear e2 hB hbel
    rw [hsz1] at E2 HB
    go_enter Tryd.func5, Tryd.ntmps5
    go_wp2_with fail
    rw [E2.out]
    go_wp2_with fail
    go_loopw [8] (fun i wr => ∃ (k : Nat) (L : List UInt8), k ≤ s.size ∧ i = .int .i64 k ∧ L.length = s.size ∧ Hid (lowL L = lowL s.data.toList) ∧ Hid (Blk wr (w.heap.size + 1) 5 L) ∧ Hid (Below w1.heap.size w1 wr)) (fun i _ => s.size - (intOf i).toNat)
    case atStart => exact ⟨0, s.data.toList, Nat.zero_le _, rfl, by simp, rfl, HB, HE⟩
    case round =>
      obtain ⟨k, L, hk, rfl, hL, HLow, HBk, HEk⟩ := hrel
      by_cases hin : k < s.size ∧ k < bs.length
      · obtain ⟨hlt, htl⟩ := hin
        obtain ⟨b0, hb0⟩ : ∃ b, L[k]? = some b := ⟨_, List.getElem?_eq_getElem (by omega)⟩
        have HB0 := Lib.hid hb0
        have cc := HBk.out.cell hb0
        have ff := HBk.out.free (k := k) (by omega)
        obtain ⟨tb, toff, tcap, ht1, ht2, ht3⟩ := (hT.out.below HEk.out).at (i := k) (by simpa using htl)
        obtain ⟨rfl, rfl⟩ : ta = some ⟨tb, toff, none⟩ ∧ tc = tcap := by injection ht1 with a b c; exact ⟨a, c⟩
        obtain ⟨q, hq⟩ : ∃ q, bs[k]? = some q := ⟨_, List.getElem?_eq_getElem htl⟩
        rw [show (List.map Value.bool bs)[k]'(by simpa using htl) = .bool q by obtain ⟨_, e⟩ := List.getElem?_eq_some_iff.1 hq; simp [e]] at ht3
        have hlen : Hid ((List.map Value.bool bs).length = bs.length) := List.length_map ..
        rw [hlen.out] at *
        clear hb0 hq ht1
        cases q
        · go_wp2_with fail
          go_roundw
          case rel => exact ⟨k + 1, L, by omega, by go_num, hL, HLow, HBk, HEk⟩
          case measure => simp [intOf]; omega
        · have hal : alI (b0.toNat : Int) = alB b0 := rfl
          cases hab : alB b0
          · rw [hab] at hal
            go_wp2_with fail
            refine (alpha_any _ _).mono ?_
            rintro e w' ⟨rfl, rfl⟩
            rw [hal]
            go_wp2_with fail
            go_roundw
            case rel => exact ⟨k + 1, L, by omega, by go_num, hL, HLow, HBk, HEk⟩
            case measure => simp [intOf]; omega
          · rw [hab] at hal
            go_wp2_with fail
            refine (alpha_any _ _).mono ?_
            rintro e w' ⟨rfl, rfl⟩
            rw [hal]
            go_wp2_with fail
            rw [show bits .xor .u8 (b0.toNat : Int) 32 = ((b0 ^^^ 32).toNat : Int) from bits_xor_byte b0 32]
            go_roundw
            case rel => exact ⟨k + 1, L.set k (b0 ^^^ 32), by omega, by go_num, by simpa using hL, (lowL_set HB0.out (turn_low b0 hab)).trans HLow.out, HBk.out.set _, HEk.out.setCell (by rw [hsz1]; exact Nat.le_refl _) _⟩
            case measure => simp [intOf]; omega
      · have hin' : ¬ k < s.size ∨ (k < s.size ∧ ¬ k < bs.length) := by omega
        clear hin
        have hlen : Hid ((List.map Value.bool bs).length = bs.length) := List.length_map ..
        rw [hlen.out] at *
        obtain ⟨Lo, hLo⟩ : ∃ Lo : ByteArray, (⟨(lowL s.data.toList).toArray⟩ : ByteArray) = Lo := ⟨_, rfl⟩
        have hLs : Lo.size = s.size := by rw [← hLo]; show (lowL s.data.toList).toArray.size = s.size; simp [lowL]
        have hLo2 : Hid (Lo.data.toList = lowL s.data.toList) := by show Lo.data.toList = _; rw [← hLo]
        have HLo := Lib.hid hLo
        have HL := Lib.hid hL
        have cS := Lib.hid (fun wx => same_any s ⟨L.toArray⟩ wx (by omega) (by show L.toArray.size ≤ _; rw [List.size_toArray, hL]; omega))
        have hSm : Hid (sameL s.data.toList L = true) := by show sameL s.data.toList L = true; unfold sameL; rw [HLow.out]; simp
        have cL := Lib.hid (fun wx => lower_any s wx (by omega))
        have cL2 := Lib.hid (fun wx => lower_any ⟨L.toArray⟩ wx (by show L.toArray.size ≤ _; rw [List.size_toArray, hL]; omega))
        have cL3 := Lib.hid (fun wx => lower_any Lo wx (by omega))
        clear hLo hL
        rcases hin' with h | ⟨h, h'⟩
        all_goals
          go_wp2_with fail
          refine (cL.out _).mono ?_
          rintro e w3 ⟨rfl, hb3⟩
          rw [HLo.out]
          have HB3 := Lib.hid (HBk.out.below (hb3.mono (Nat.le_refl _)))
          have HE3 := Lib.hid (HEk.out.trans (hb3.mono HEk.out.size))
          have T3 := Lib.hid (HB3.out.text (P := Tryd.prog) cap (src := 34) (dst := 9) Tryd.underlying34 Tryd.underlying5 Tryd.underlying9)
          rw [HL.out] at T3
          clear hb3
          go_wp2_with fail
          rw [T3.out]
          go_wp2_with fail
          refine (cS.out _).mono ?_
          rintro e w4 ⟨rfl, hb4⟩
          rw [show sameL s.data.toList (⟨L.toArray⟩ : ByteArray).data.toList = true from hSm.out]
          have HB4 := Lib.hid (HB3.out.below (hb4.mono (Nat.le_refl _)))
          have HE4 := Lib.hid (HE3.out.trans (hb4.mono HE3.out.size))
          have T4 := Lib.hid (HB4.out.text (P := Tryd.prog) cap (src := 34) (dst := 9) Tryd.underlying34 Tryd.underlying5 Tryd.underlying9)
          rw [HL.out] at T4
          clear hb4
          go_wp2_with fail
          rw [T4.out]
          go_wp2_with fail
          refine (cL2.out _).mono ?_
          rintro e w5 ⟨rfl, hb5⟩
          rw [show lowL (⟨L.toArray⟩ : ByteArray).data.toList = lowL s.data.toList from HLow.out, HLo.out]
          have HB5 := Lib.hid (HB4.out.below (hb5.mono (Nat.le_refl _)))
          have HE5 := Lib.hid (HE4.out.trans (hb5.mono HE4.out.size))
          clear hb5
          go_wp2_with fail
          refine (cL3.out _).mono ?_
          rintro e w6 ⟨rfl, hb6⟩
          rw [show lowL Lo.data.toList = lowL s.data.toList by rw [hLo2.out]; exact lowL_idem _, HLo.out]
          have HB6 := Lib.hid (HB5.out.below (hb6.mono (Nat.le_refl _)))
          have HE6 := Lib.hid (HE5.out.trans (hb6.mono HE5.out.size))
          have HM6 := Lib.hid (hm1.out.below HE6.out)
          have hBx6 : Hid (w6.heap[w.heap.size]? = some (.cells #[.int .u16 a, .int .u16 b] 33 (0, 0))) := (HE6.out.block w.heap.size (by omega)).trans hBx.out
          have c0 : w6.cell? ⟨w.heap.size, 0, none⟩ = some (.int .u16 a) := Lib.cell_of_heap hBx6.out 0
          have c1 : w6.cell? ⟨w.heap.size, 1, none⟩ = some (.int .u16 b) := Lib.cell_of_heap hBx6.out 1
          clear hb6 HB5 HE5 HB4 HE4 T4 HB3 HE3 T3 HBk HEk
          by_cases h0 : s.size = 0
          · go_wp2_with fail
            refine (spelt_any m _ HM6.out).mono ?_
            rintro e w7 ⟨rfl, hb7⟩
            go_wp2_with fail
            go_ret
            exact ⟨rfl, hbel1.out.trans ((HE6.out.trans (hb7.mono HE6.out.size)).mono (by omega))⟩
          · have hx0 : 0 ≤ a % (s.size : Int) := Int.emod_nonneg _ (by omega)
            have hx1 : a % (s.size : Int) < (s.size : Int) := Int.emod_lt_of_pos _ (by omega)
            have hK : (a % (s.size : Int)).toNat < L.length := by rw [HL.out]; omega
            obtain ⟨x, hx⟩ : ∃ x, L[(a % (s.size : Int)).toNat]? = some x := ⟨_, List.getElem?_eq_getElem hK⟩
            have HX := Lib.hid hx
            have cc := HB6.out.cell hx
            have ff := HB6.out.free hK
            obtain ⟨c, hc⟩ : ∃ c : UInt8, b % 256 = (c.toNat : Int) := ⟨UInt8.ofNat (b % 256).toNat, by simp; omega⟩
            have HC := Lib.hid hc
            clear hx hc
            have kinds : (b % 256 = 32 ∧ alB x = true ∧ Hid ((c == 0 || (c == 32 && alB x)) = true)) ∨ (b % 256 = 32 ∧ alB x = false ∧ Hid ((c == 0 || (c == 32 && alB x)) = false)) ∨ (¬ b % 256 = 32 ∧ b % 256 = 0 ∧ Hid ((c == 0 || (c == 32 && alB x)) = true)) ∨ (¬ b % 256 = 32 ∧ ¬ b % 256 = 0 ∧ Hid ((c == 0 || (c == 32 && alB x)) = false)) := by
              have e32 : (c == 32) = decide (b % 256 = 32) := by
                rw [HC.out, Bool.eq_iff_iff, beq_iff_eq, decide_eq_true_eq, ← UInt8.toNat_inj]
                show c.toNat = 32 ↔ _
                omega
              have e0 : (c == 0) = decide (b % 256 = 0) := by
                rw [HC.out, Bool.eq_iff_iff, beq_iff_eq, decide_eq_true_eq, ← UInt8.toNat_inj]
                show c.toNat = 0 ↔ _
                omega
              rw [e0, e32]
              by_cases g : b % 256 = 32
              · cases alB x
                · exact .inr (.inl ⟨g, rfl, by show (_ || _) = _; rw [g]; rfl⟩)
                · exact .inl ⟨g, rfl, by show (_ || _) = _; rw [g]; rfl⟩
              · by_cases g0 : b % 256 = 0
                · exact .inr (.inr (.inl ⟨g, g0, by show (_ || _) = _; rw [g0]; rfl⟩))
                · exact .inr (.inr (.inr ⟨g, g0, by show (_ || _) = _; rw [decide_eq_false g, decide_eq_false g0]; rfl⟩))
            rcases kinds with ⟨k1, k2, HR⟩ | ⟨k1, k2, HR⟩ | ⟨k1, k2, HR⟩ | ⟨k1, k2, HR⟩
            case' inl =>
              go_wp2_with fail
              refine (alpha_any _ _).mono ?_
              rintro e w7 ⟨rfl, rfl⟩
              rw [show alI (x.toNat : Int) = true from k2]
              clear k2
              have k2 : ¬ b % 256 = 0 := by omega
            case' inr.inl =>
              go_wp2_with fail
              refine (alpha_any _ _).mono ?_
              rintro e w7 ⟨rfl, rfl⟩
              rw [show alI (x.toNat : Int) = false from k2]
              clear k2
              have k2 : ¬ b % 256 = 0 := by omega
            all_goals
              go_wp2_with fail
              first
                | rw [show bits .xor .u8 (x.toNat : Int) 32 = ((x ^^^ c).toNat : Int) by rw [← k1, HC.out, bits_xor_byte]]
                | rw [show bits .xor .u8 (x.toNat : Int) 0 = ((x ^^^ c).toNat : Int) by rw [← k2, HC.out, bits_xor_byte]]
                | rw [HC.out, bits_xor_byte]
              try have kz : ¬ c.toNat = 0 := by intro e; apply k2; rw [HC.out, e]; rfl
              try have kz2 : ((c.toNat : Int) == 0) = false := by rw [← HC.out, beq_eq_false_iff_ne]; exact k2
              have HB7 := Lib.hid (HB6.out.set (k := (a % (s.size : Int)).toNat) (x ^^^ c))
              have HE7 := Lib.hid (HE6.out.setCell (p := ⟨w.heap.size + 1, (a % (s.size : Int)).toNat, none⟩) (by rw [hsz1]; exact Nat.le_refl _) (.int .u8 ((x ^^^ c).toNat : Int)))
              have hSame : Hid (sameL s.data.toList (L.set (a % (s.size : Int)).toNat (x ^^^ c)) = (c == 0 || (c == 32 && alB x))) := same_set HLow.out HX.out c
              have HL7 : Hid ((L.set (a % (s.size : Int)).toNat (x ^^^ c)).length = s.size) := by show List.length _ = _; rw [List.length_set]; exact HL.out
              generalize w6.setCell _ _ = w7 at HB7 HE7 ⊢
              generalize L.set _ _ = L7 at HB7 hSame HL7
              have HM7 := Lib.hid (hm1.out.below HE7.out)
              have T7 := Lib.hid (HB7.out.text (P := Tryd.prog) cap (src := 34) (dst := 9) Tryd.underlying34 Tryd.underlying5 Tryd.underlying9)
              rw [HL7.out] at T7
              clear c0 c1 cc ff
              rw [T7.out]
              go_wp2_with fail
              refine (same_any s ⟨L7.toArray⟩ _ (by omega) (by show L7.toArray.size ≤ _; rw [List.size_toArray, HL7.out]; omega)).mono ?_
              rintro e w8 ⟨rfl, hb8⟩
              rw [show sameL s.data.toList (⟨L7.toArray⟩ : ByteArray).data.toList = _ from hSame.out, HR.out]
              have HE8 := Lib.hid (HE7.out.trans (hb8.mono HE7.out.size))
              have HM8 := Lib.hid (hm1.out.below HE8.out)
              clear hb8
              go_wp2_with fail
              refine (spelt_any m _ HM8.out).mono ?_
              rintro e w9 ⟨rfl, hb9⟩
              go_wp2_with fail
              go_ret
              exact ⟨rfl, hbel1.out.trans ((HE8.out.trans (hb9.mono HE8.out.size)).mono (by omega))⟩
end Go.Proofs.YthgecembedjnaaaDoor
