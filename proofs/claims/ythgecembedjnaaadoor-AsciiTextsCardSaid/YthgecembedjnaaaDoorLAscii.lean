/- The laws of layer 2, by the contracts. -/
import Derived.Test.YthgecembedjnaaaDoorW02
set_option linter.unusedVariables false
namespace Go.Proofs.YthgecembedjnaaaDoor
open Go.RowKit

theorem fields_len (l : List UInt8) : (fieldsL l).length ≤ l.length + 1 := by
  have := fRun_len l
  unfold fieldsL fEnd
  split <;> simp <;> omega

set_option maxHeartbeats 2000000 in
set_option maxRecDepth 100000 in
theorem asciiBytes_law (c m : Int) (w : World) (h0 : 0 ≤ c) (h1 : c ≤ 255) (hm : MaxOk m w) :
    Calls Tryd.prog 3 #[.int .u8 c] w fun e w' => e = .returned (.bool true) ∧ Below w.heap.size w w' := by
  have HM := Lib.hid hm
  clear hm
  go_enter Tryd.func3, Tryd.ntmps3
  go_wp2_with fail
  refine (hex_any c _ h0 h1).mono ?_
  rintro e w' ⟨rfl, rfl⟩
  go_wp2_with fail
  refine (rhex_any c _ h0 h1).mono ?_
  rintro e w' ⟨rfl, rfl⟩
  go_wp2_with fail
  refine (space_any c _).mono ?_
  rintro e w' ⟨rfl, rfl⟩
  go_wp2_with fail
  refine (rspace_any c _).mono ?_
  rintro e w' ⟨rfl, rfl⟩
  go_wp2_with fail
  refine (alpha_any c _).mono ?_
  rintro e w' ⟨rfl, rfl⟩
  go_wp2_with fail
  refine (ralpha_any c _).mono ?_
  rintro e w' ⟨rfl, rfl⟩
  go_wp2_with fail
  refine (digit_any c _).mono ?_
  rintro e w' ⟨rfl, rfl⟩
  go_wp2_with fail
  refine (rdigit_any c _).mono ?_
  rintro e w' ⟨rfl, rfl⟩
  go_wp2_with fail
  refine (spelt_any m _ HM.out).mono ?_
  rintro e w' ⟨rfl, hb⟩
  go_wp2
  go_ret
  exact ⟨rfl, hb⟩


set_option maxHeartbeats 2000000 in
set_option maxRecDepth 100000 in
theorem asciiTexts_law (s t : ByteArray) (m : Int) (w : World) (hs : s.size ≤ maxLen) (ht : t.size ≤ maxLen) (hm : MaxOk m w) :
    Calls Tryd.prog 4 #[.string s, .string t] w fun e w' => e = .returned (.bool true) ∧ Below w.heap.size w w' := by
  have HM := Lib.hid hm
  clear hm
  unfold maxLen at hs ht
  by_cases h1 : 2000 < s.size
  · go_enter Tryd.func4, Tryd.ntmps4
    go_wp2_with (go_at_call 23; refine (spelt_any m _ HM.out).mono ?_; rintro e w' ⟨rfl, hb⟩)
    go_ret
    exact ⟨rfl, hb⟩
  · by_cases h2 : 2000 < t.size
    · go_enter Tryd.func4, Tryd.ntmps4
      go_wp2_with (go_at_call 23; refine (spelt_any m _ HM.out).mono ?_; rintro e w' ⟨rfl, hb⟩)
      go_ret
      exact ⟨rfl, hb⟩
    · go_enter Tryd.func4, Tryd.ntmps4
      go_wp2_with fail
      refine (lower_any s _ (by omega)).mono ?_
      rintro e w1 ⟨rfl, b1⟩
      go_wp2_with fail
      refine (rlower_any s _ (by omega)).mono ?_
      rintro e w2 ⟨rfl, b2⟩
      go_wp2_with fail
      refine (strip_any s _ (by omega)).mono ?_
      rintro e w' ⟨rfl, rfl⟩
      go_wp2_with fail
      refine (rstrip_any s _ (by omega)).mono ?_
      rintro e w' ⟨rfl, rfl⟩
      go_wp2_with fail
      refine (fields_any s _ (by omega)).mono ?_
      rintro e w3 ⟨⟨v3, rfl, o3⟩, b3⟩
      go_wp2_with fail
      refine (rfields_any s _ (by omega)).mono ?_
      rintro e w4 ⟨⟨v4, rfl, o4⟩, b4⟩
      go_wp2_with fail
      have hfl : (fieldsL s.data.toList).length ≤ 1099511627776 := by
        have := fields_len s.data.toList
        simp at this
        omega
      refine (texts_any _ _ _ _ _ _ _ (owns_below o3 b4) o4 hfl hfl).mono ?_
      rintro e w5 ⟨rfl, b5⟩
      have c1 := b1.trans (b2.mono b1.size)
      have c2 := c1.trans (b3.mono c1.size)
      have c3 := c2.trans (b4.mono c2.size)
      have c4 := c3.trans (b5.mono c3.size)
      clear c1 c2 c3 b1 b2 b3 b4 b5 o3 o4 hfl
      go_wp2_with fail
      refine (commas_any s m _ (by omega) (HM.out.below c4)).mono ?_
      rintro e w6 ⟨⟨v6, rfl, o6⟩, b6⟩
      go_wp2_with fail
      refine (rcommas_any s _ (by omega)).mono ?_
      rintro e w7 ⟨⟨v7, rfl, o7⟩, b7⟩
      go_wp2_with fail
      have hfl : (commasL s.data.toList).length ≤ 1099511627776 := by
        have h3 := full_len (spl 44 s.data.toList)
        have h4 := spl_len 44 s.data.toList
        unfold commasL
        simp at h4
        omega
      refine (texts_any _ _ _ _ _ _ _ (owns_below o6 b7) o7 hfl hfl).mono ?_
      rintro e w8 ⟨rfl, b8⟩
      have c5 := c4.trans (b6.mono c4.size)
      have c6 := c5.trans (b7.mono c5.size)
      have c7 := c6.trans (b8.mono c6.size)
      clear c4 c5 c6 b6 b7 b8 o6 o7 hfl
      go_wp2_with fail
      refine (same_any s t _ (by omega) (by omega)).mono ?_
      rintro e w9 ⟨rfl, b9⟩
      go_wp2_with fail
      refine (rsame_any s t _ (by omega) (by omega)).mono ?_
      rintro e w10 ⟨rfl, b10⟩
      have c8 := c7.trans (b9.mono c7.size)
      have c9 := c8.trans (b10.mono c8.size)
      clear c7 c8 b9 b10
      go_wp2_with fail
      refine (spelt_any m _ (HM.out.below c9)).mono ?_
      rintro e w11 ⟨rfl, b11⟩
      go_wp2
      go_ret
      exact ⟨rfl, c9.trans (b11.mono c9.size)⟩
end Go.Proofs.YthgecembedjnaaaDoor
