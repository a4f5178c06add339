/- The law KindsCase, by the contracts. -/
import Derived.Test.YthgecembedjnaaaDoorLKinds3
import Derived.Test.YthgecembedjnaaaDoorRow
set_option linter.unusedVariables false
namespace Go.Proofs.YthgecembedjnaaaDoor
open Go.RowKit

set_option maxHeartbeats 4000000 in
set_option maxRecDepth 100000 in
theorem kindsCase_law (n : ByteArray) (x m : Int) (w : World) (hn : n.size ≤ maxLen) (hx : 0 ≤ x ∧ x ≤ 65535) (hm : MaxOk m w) (hk : KTabs w) :
    Calls Tryd.prog 10 #[.string n, .int .u16 x] w fun e w' => e = .returned (.bool true) ∧ Below w.heap.size w w' := by
  have HM := Lib.hid hm
  have HK := Lib.hid hk
  clear hm hk
  unfold maxLen at hn
  by_cases h1 : 300 < n.size
  · go_enter Tryd.func10, Tryd.ntmps10
    go_wp2_with (go_at_call 35; refine (listed_any m _ HM.out HK.out).mono ?_; rintro e w' ⟨rfl, rfl⟩)
    go_ret
    exact ⟨rfl, Below.refl _ _⟩
  · by_cases h0 : 0 < n.size
    · have hx0 : 0 ≤ x % (n.size : Int) := Int.emod_nonneg _ (by omega)
      have hx1 : x % (n.size : Int) < (n.size : Int) := Int.emod_lt_of_pos _ (by omega)
      have hk : (x % (n.size : Int)).toNat < n.data.toList.length := by simp; omega
      obtain ⟨b0, hb0⟩ : ∃ b, n.data.toList[(x % (n.size : Int)).toNat]? = some b := ⟨_, List.getElem?_eq_getElem hk⟩
      obtain ⟨cap, w1, e1, hB, hbel, hsz⟩ := bytes_blk (P := Tryd.prog) w 9 34 5 n Tryd.underlying9 Tryd.underlying34 Tryd.underlying5
      have key : (97 ≤ b0.toNat ∧ b0.toNat ≤ 122 ∧ ∃ c : UInt8, badByte c ∧ Hid ((b0.toNat : Int) - 32 = (c.toNat : Int))) ∨ (¬ 97 ≤ b0.toNat ∧ ∃ c : UInt8, badByte c ∧ Hid ((32 : Int) = (c.toNat : Int))) ∨ (97 ≤ b0.toNat ∧ ¬ b0.toNat ≤ 122 ∧ ∃ c : UInt8, badByte c ∧ Hid ((32 : Int) = (c.toNat : Int))) := by
        have h32 : badByte 32 := .inl (by decide)
        by_cases ha : 97 ≤ b0.toNat
        · by_cases hz : b0.toNat ≤ 122
          · refine .inl ⟨ha, hz, UInt8.ofNat (b0.toNat - 32), ?_, ?_⟩
            · right
              simp
              omega
            · show (b0.toNat : Int) - 32 = _
              simp
              omega
          · exact .inr (.inr ⟨ha, hz, 32, h32, rfl⟩)
        · exact .inr (.inl ⟨ha, 32, h32, rfl⟩)
      have E1 := Lib.hid e1
      have HB := Lib.hid hB
      have HB0 := Lib.hid hb0
      have HE := Lib.hid hbel
      have cc := hB.cell hb0
      have ff := hB.free hk
      have hlen : Hid (n.size = n.data.toList.length) := by show n.size = _; simp
      clear e1 hB hb0 hbel
      rcases key with ⟨ka, kz, c, hbad, HC⟩ | ⟨ka, c, hbad, HC⟩ | ⟨ka, kz, c, hbad, HC⟩
      all_goals
        go_enter Tryd.func10, Tryd.ntmps10
        go_wp2_with fail
        rw [E1.out]
        go_wp2_with fail
        rw [HC.out]
        have HB2 := Lib.hid (HB.out.set (k := (x % (n.size : Int)).toNat) c)
        have HE2 := Lib.hid (HE.out.setCell (p := ⟨w.heap.size, (x % (n.size : Int)).toNat, none⟩) (Nat.le_refl _) (.int .u8 (c.toNat : Int)))
        generalize w1.setCell _ _ = w2 at HB2 HE2 ⊢
        have HM2 := Lib.hid (HM.out.below HE2.out)
        have HK2 := Lib.hid (HK.out.below HE2.out)
        have HL : Hid ((n.data.toList.set (x % (n.size : Int)).toNat c) = [] ∨ ∃ b ∈ (n.data.toList.set (x % (n.size : Int)).toNat c), badByte b) := .inr ⟨c, List.mem_set hk c, hbad⟩
        have hlen2 : Hid (n.size = (n.data.toList.set (x % (n.size : Int)).toNat c).length) := by show n.size = _; simp
        generalize (n.data.toList.set (x % (n.size : Int)).toNat c) = l2 at HB2 HL hlen2
        have E2 := Lib.hid (HB2.out.text (P := Tryd.prog) cap (src := 34) (dst := 9) Tryd.underlying34 Tryd.underlying5 Tryd.underlying9)
        rw [← hlen2.out] at E2
        rw [E2.out]
        have hn3 : Hid ((⟨l2.toArray⟩ : ByteArray).size ≤ 1099511627776) := by show l2.toArray.size ≤ _; have := hlen2.out; simp; omega
        have HFS := Lib.hid (bad_scope HL.out)
        have F1 := Lib.hid (bad_special HL.out)
        have F2 := Lib.hid (low_no (W := formattingW) (by decide) HL.out)
        have F3 := Lib.hid (low_no (W := voidW) (by decide) HL.out)
        have F4 := Lib.hid (low_no (W := impliedW) (by decide) HL.out)
        have F5 := Lib.hid (low_no (W := thoroughW) (by decide) HL.out)
        have F6 := Lib.hid (low_no (W := headingW) (by decide) HL.out)
        have F7 := Lib.hid (bad_state HL.out)
        clear HL hlen2 E2 HB2
        go_wp2_with fail
        go_loop [8] (fun i => ∃ q : Int, 0 ≤ q ∧ q ≤ 4 ∧ i = .int .i64 q) (fun i => (4 - intOf i).toNat)
        case atStart => exact ⟨0, by omega, by omega, rfl⟩
        case round =>
          obtain ⟨q, hq0, hq1, rfl⟩ := hrel
          by_cases hq : q < 4
          · go_wp2_with fail
            refine (scope_any q 0 ⟨l2.toArray⟩ m _ (by omega) (by omega) (by decide) (by decide) hn3.out HM2.out HK2.out).mono ?_
            rintro e w' ⟨rfl, rfl⟩
            rw [HFS.out q]
            go_wp2_with fail
            go_round
            case rel => exact ⟨q + 1, by omega, by omega, by go_num⟩
            case measure => simp [intOf]; omega
          · go_wp2_with fail
            refine (special_any 0 ⟨l2.toArray⟩ m _ (by decide) (by decide) hn3.out HM2.out HK2.out).mono ?_
            rintro e w' ⟨rfl, rfl⟩
            rw [F1.out]
            go_wp2_with fail
            refine (formatting_any ⟨l2.toArray⟩ m _ hn3.out HM2.out).mono ?_
            rintro e w' ⟨rfl, rfl⟩
            rw [F2.out]
            go_wp2_with fail
            refine (void_any ⟨l2.toArray⟩ m _ hn3.out HM2.out).mono ?_
            rintro e w' ⟨rfl, rfl⟩
            rw [F3.out]
            go_wp2_with fail
            refine (implied_any ⟨l2.toArray⟩ m _ hn3.out HM2.out).mono ?_
            rintro e w' ⟨rfl, rfl⟩
            rw [F4.out]
            go_wp2_with fail
            refine (thorough_any ⟨l2.toArray⟩ m _ hn3.out HM2.out).mono ?_
            rintro e w' ⟨rfl, rfl⟩
            rw [F5.out]
            go_wp2_with fail
            refine (heading_any ⟨l2.toArray⟩ m _ hn3.out HM2.out).mono ?_
            rintro e w' ⟨rfl, rfl⟩
            rw [F6.out]
            go_wp2_with fail
            refine (state_any ⟨l2.toArray⟩ m _ hn3.out HM2.out HK2.out).mono ?_
            rintro e w' ⟨rfl, rfl⟩
            rw [F7.out]
            go_wp2_with fail
            refine (listed_any m _ HM2.out HK2.out).mono ?_
            rintro e w' ⟨rfl, rfl⟩
            go_wp2_with fail
            go_ret
            exact ⟨rfl, HE2.out⟩
    · have hnil : n.data.toList = [] := List.eq_nil_of_length_eq_zero (by rw [Array.length_toList]; show n.size = 0; omega)
      obtain ⟨cap, w1, e1, hB, hbel, hsz⟩ := bytes_blk (P := Tryd.prog) w 9 34 5 n Tryd.underlying9 Tryd.underlying34 Tryd.underlying5
      have E1 := Lib.hid e1
      rw [hnil] at hB
      have hsz0 : n.size = 0 := by omega
      rw [hsz0] at E1
      have HS0 := Lib.hid hsz0
      have HE2 := Lib.hid hbel
      have HM2 := Lib.hid (HM.out.below HE2.out)
      have HK2 := Lib.hid (HK.out.below HE2.out)
      have E2 := Lib.hid (hB.text (P := Tryd.prog) cap (src := 34) (dst := 9) Tryd.underlying34 Tryd.underlying5 Tryd.underlying9)
      obtain ⟨l2, HL, hl2⟩ : ∃ l2 : List UInt8, Hid (l2 = [] ∨ ∃ b ∈ l2, badByte b) ∧ [] = l2 := ⟨[], .inl rfl, rfl⟩
      have hlen2 : Hid (0 = l2.length) := by show 0 = l2.length; rw [← hl2]; rfl
      rw [hl2, ← hlen2.out] at E2
      have HB2 := Lib.hid hB
      clear e1 hB hbel hl2 hsz0 hnil
      · go_enter Tryd.func10, Tryd.ntmps10
        go_wp2_with fail
        rw [E1.out]
        go_wp2_with fail
        rw [E2.out]
        have hn3 : Hid ((⟨l2.toArray⟩ : ByteArray).size ≤ 1099511627776) := by show l2.toArray.size ≤ _; have h00 : 0 = l2.length := hlen2.out; rw [List.size_toArray, ← h00]; omega
        have HFS := Lib.hid (bad_scope HL.out)
        have F1 := Lib.hid (bad_special HL.out)
        have F2 := Lib.hid (low_no (W := formattingW) (by decide) HL.out)
        have F3 := Lib.hid (low_no (W := voidW) (by decide) HL.out)
        have F4 := Lib.hid (low_no (W := impliedW) (by decide) HL.out)
        have F5 := Lib.hid (low_no (W := thoroughW) (by decide) HL.out)
        have F6 := Lib.hid (low_no (W := headingW) (by decide) HL.out)
        have F7 := Lib.hid (bad_state HL.out)
        clear HL hlen2 E2 HB2
        go_wp2_with fail
        go_loop [8] (fun i => ∃ q : Int, 0 ≤ q ∧ q ≤ 4 ∧ i = .int .i64 q) (fun i => (4 - intOf i).toNat)
        case atStart => exact ⟨0, by omega, by omega, rfl⟩
        case round =>
          obtain ⟨q, hq0, hq1, rfl⟩ := hrel
          by_cases hq : q < 4
          · go_wp2_with fail
            refine (scope_any q 0 ⟨l2.toArray⟩ m _ (by omega) (by omega) (by decide) (by decide) hn3.out HM2.out HK2.out).mono ?_
            rintro e w' ⟨rfl, rfl⟩
            rw [HFS.out q]
            go_wp2_with fail
            go_round
            case rel => exact ⟨q + 1, by omega, by omega, by go_num⟩
            case measure => simp [intOf]; omega
          · go_wp2_with fail
            refine (special_any 0 ⟨l2.toArray⟩ m _ (by decide) (by decide) hn3.out HM2.out HK2.out).mono ?_
            rintro e w' ⟨rfl, rfl⟩
            rw [F1.out]
            go_wp2_with fail
            refine (formatting_any ⟨l2.toArray⟩ m _ hn3.out HM2.out).mono ?_
            rintro e w' ⟨rfl, rfl⟩
            rw [F2.out]
            go_wp2_with fail
            refine (void_any ⟨l2.toArray⟩ m _ hn3.out HM2.out).mono ?_
            rintro e w' ⟨rfl, rfl⟩
            rw [F3.out]
            go_wp2_with fail
            refine (implied_any ⟨l2.toArray⟩ m _ hn3.out HM2.out).mono ?_
            rintro e w' ⟨rfl, rfl⟩
            rw [F4.out]
            go_wp2_with fail
            refine (thorough_any ⟨l2.toArray⟩ m _ hn3.out HM2.out).mono ?_
            rintro e w' ⟨rfl, rfl⟩
            rw [F5.out]
            go_wp2_with fail
            refine (heading_any ⟨l2.toArray⟩ m _ hn3.out HM2.out).mono ?_
            rintro e w' ⟨rfl, rfl⟩
            rw [F6.out]
            go_wp2_with fail
            refine (state_any ⟨l2.toArray⟩ m _ hn3.out HM2.out HK2.out).mono ?_
            rintro e w' ⟨rfl, rfl⟩
            rw [F7.out]
            go_wp2_with fail
            refine (listed_any m _ HM2.out HK2.out).mono ?_
            rintro e w' ⟨rfl, rfl⟩
            go_wp2_with fail
            go_ret
            exact ⟨rfl, HE2.out⟩
end Go.Proofs.YthgecembedjnaaaDoor
