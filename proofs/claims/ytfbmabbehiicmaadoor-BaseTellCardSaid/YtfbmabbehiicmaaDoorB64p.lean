/- base.Plain, the chapter's examples of layer 3, and what its laws call. -/
import Derived.Test.YtfbmabbehiicmaaDoorB64e
import Derived.Test.YtfbmabbehiicmaaDoorB64r
import Derived.Test.YtfbmabbehiicmaaDoorArgs
set_option linter.unusedVariables false
namespace Go.Proofs.YtfbmabbehiicmaaDoor
open Go.RowKit

theorem one_count (s : ByteArray) (c : UInt8) : Lib.countB s ⟨#[c]⟩ ≤ s.size := Lib.countB_le _ (Nat.le_refl _) s.size s (Nat.le_refl _)
set_option maxHeartbeats 1000000 in
theorem bplain_any (s : ByteArray) (m : Int) (w : World) (hs : s.size ≤ 1073741824) (hm : MaxOk m w) :
    Calls Tryd.prog 22 #[.string s] w fun e w' => e = .returned (.string ⟨(plainL s.data.toList).toArray⟩) ∧ Below w.heap.size w w' := by
  have HM := Lib.hid hm
  clear hm
  obtain ⟨T, hT⟩ : ∃ T : ByteArray, (⟨(Lib.replaceAll s.data.toList (⟨#[45]⟩ : ByteArray).data.toList (⟨#[43]⟩ : ByteArray).data.toList).toArray⟩ : ByteArray) = T := ⟨_, rfl⟩
  have hTs : T.size ≤ s.size := by
    rw [← hT]
    show (Lib.replaceAll s.data.toList [45] [43]).toArray.size ≤ _
    rw [List.size_toArray, repl_len _ _ (by decide)]
    simp
  have HR : Hid ((⟨(Lib.replaceAll T.data.toList (⟨#[95]⟩ : ByteArray).data.toList (⟨#[47]⟩ : ByteArray).data.toList).toArray⟩ : ByteArray) = ⟨(plainL s.data.toList).toArray⟩) := by
    show _ = (⟨(plainL s.data.toList).toArray⟩ : ByteArray)
    rw [← hT, ← plain_repl]
  have HT := Lib.hid hT
  clear hT
  have c1 := one_count s 45
  have c2 := one_count T 95
  go_enter Tryd.func22, Tryd.ntmps22
  go_wp2_with fail
  refine (Tryd.strings_ReplaceAll s ⟨#[45]⟩ ⟨#[43]⟩ m _ (by omega) HM.out (by decide) (by rw [show (⟨#[43]⟩ : ByteArray).size = 1 from rfl]; omega)).mono ?_
  rintro e w1 ⟨rfl, b1⟩
  rw [HT.out]
  go_wp2_with fail
  refine (Tryd.strings_ReplaceAll T ⟨#[95]⟩ ⟨#[47]⟩ m _ (by omega) (HM.out.below b1) (by decide) (by rw [show (⟨#[47]⟩ : ByteArray).size = 1 from rfl]; omega)).mono ?_
  rintro e w2 ⟨rfl, b2⟩
  rw [HR.out]
  go_wp2_with fail
  go_ret
  exact ⟨rfl, b1.trans (b2.mono b1.size)⟩

theorem encB_size (s : ByteArray) : (⟨(encE s.data.toList).toArray⟩ : ByteArray).size = (s.size + 2) / 3 * 4 := by
  show (encE s.data.toList).toArray.size = _
  rw [List.size_toArray, encE_len]
  simp

theorem bare_step {S : ByteArray} (h : 0 < S.size) (h61 : S[S.size - 1] = 61) : bareL (S.extract 0 (S.size - 1)).data.toList = bareL S.data.toList := by
  rw [ext_init]
  conv => rhs; rw [toList_snoc S h, h61, bare_eq]
theorem bare_stop {S : ByteArray} (h : 0 < S.size) (h61 : S[S.size - 1] ≠ 61) : bareL S.data.toList = S.data.toList := by
  rw [toList_snoc S h, bare_ne _ h61]
set_option maxHeartbeats 1000000 in
set_option maxRecDepth 100000 in
theorem bare_any (s : ByteArray) (w : World) (hs : s.size ≤ 1073741824) :
    Calls Tryd.prog 24 #[.string s] w fun e w' => e = .returned (.string ⟨(bareL s.data.toList).toArray⟩) ∧ w = w' := by
  go_enter Tryd.func24, Tryd.ntmps24
  go_wp2_with fail
  go_loop [0] (fun v => ∃ S : ByteArray, v = .string S ∧ S.size ≤ s.size ∧ Hid (bareL S.data.toList = bareL s.data.toList)) (fun v => match v with | .string S => S.size | _ => 0)
  case atStart => exact ⟨s, rfl, Nat.le_refl _, rfl⟩
  case round =>
    obtain ⟨S, rfl, hS, HI⟩ := hrel
    by_cases h0 : 0 < S.size
    · have hp1 : (1 : Int) ≤ (S.size : Int) := by omega
      by_cases h61 : S[S.size - 1] = 61
      · have hs4 : ((S[S.size - 1].toNat : Int) == 61) = true := by rw [h61]; rfl
        have HG := Lib.hid ((bare_step h0 h61).trans HI.out)
        clear h61
        go_wp2_with fail
        go_round
        case rel => exact ⟨_, rfl, by rw [ByteArray.size_extract]; omega, HG.out⟩
        case measure => simp [ByteArray.size_extract]; omega
      · have hs4 : ((S[S.size - 1].toNat : Int) == 61) = false := by
          rw [beq_eq_false_iff_ne]
          intro e
          exact h61 (UInt8.toNat_inj.1 (by show S[S.size - 1].toNat = 61; omega))
        have HG := Lib.hid ((bare_stop h0 h61).symm.trans HI.out)
        have HR : Hid ((⟨(bareL s.data.toList).toArray⟩ : ByteArray) = S) := by
          show (⟨(bareL s.data.toList).toArray⟩ : ByteArray) = S
          rw [← HG.out]
        clear h61
        go_wp2_with fail
        go_ret
        rw [HR.out]
        exact ⟨rfl, rfl⟩
    · have HR : Hid ((⟨(bareL s.data.toList).toArray⟩ : ByteArray) = S) := by
        show (⟨(bareL s.data.toList).toArray⟩ : ByteArray) = S
        rw [← HI.out, toList_nil (by omega), bare_nil]
        apply ByteArray.ext
        apply Array.toList_inj.1
        show [] = S.data.toList
        rw [toList_nil (s := S) (by omega)]
      go_wp2_with fail
      go_ret
      rw [HR.out]
      exact ⟨rfl, rfl⟩
theorem decRes_is {l : List UInt8} {e : Ending} {r : Option (List UInt8)} (h : DecRes (decE l) e) (hr : decE l = r) : DecRes r e := hr ▸ h
set_option maxHeartbeats 4000000 in
set_option maxRecDepth 100000 in
theorem lettered_any (m : Int) (w : World) (hm : MaxOk m w) :
    Calls Tryd.prog 17 #[] w fun e w' => e = .returned (.bool true) ∧ Below w.heap.size w w' := by
  have HM := Lib.hid hm
  clear hm
  go_enter Tryd.func17, Tryd.ntmps17
  go_wp2_with fail
  refine (bdecode_any ⟨#[90, 103]⟩ _ (by decide)).mono ?_
  rintro e w1 ⟨d1, b1⟩
  obtain rfl : e = .returned (.tuple #[.string ⟨#[102]⟩, .int .i64 0]) := decRes_is d1 (r := some [102]) (by decide +kernel)
  clear d1
  have c1 := b1
  go_wp2_with fail
  refine (bdecode_any ⟨#[95, 45, 56]⟩ _ (by decide)).mono ?_
  rintro e w2 ⟨d2, b2⟩
  obtain rfl : e = .returned (.tuple #[.string ⟨#[255, 239]⟩, .int .i64 0]) := decRes_is d2 (r := some [255, 239]) (by decide +kernel)
  clear d2
  have c2 := c1.trans (b2.mono c1.size)
  go_wp2_with fail
  refine (bdecode_any ⟨#[90, 103, 61]⟩ _ (by decide)).mono ?_
  rintro e w3 ⟨d3, b3⟩
  obtain rfl : e = .returned (.tuple #[.string ⟨#[]⟩, .int .i64 30]) := decRes_is d3 (r := none) (by decide +kernel)
  clear d3
  have c3 := c2.trans (b3.mono c2.size)
  go_wp2_with fail
  refine (bdecode_any ⟨#[90, 104]⟩ _ (by decide)).mono ?_
  rintro e w4 ⟨d4, b4⟩
  obtain rfl : e = .returned (.tuple #[.string ⟨#[]⟩, .int .i64 30]) := decRes_is d4 (r := none) (by decide +kernel)
  clear d4
  have c4 := c3.trans (b4.mono c3.size)
  go_wp2_with fail
  refine (bdecode_any ⟨#[90]⟩ _ (by decide)).mono ?_
  rintro e w5 ⟨d5, b5⟩
  obtain rfl : e = .returned (.tuple #[.string ⟨#[]⟩, .int .i64 30]) := decRes_is d5 (r := none) (by decide +kernel)
  clear d5
  have c5 := c4.trans (b5.mono c4.size)
  go_wp2_with fail
  refine (bdecode_any ⟨#[61, 61, 61, 61]⟩ _ (by decide)).mono ?_
  rintro e w6 ⟨d6, b6⟩
  obtain rfl : e = .returned (.tuple #[.string ⟨#[]⟩, .int .i64 30]) := decRes_is d6 (r := none) (by decide +kernel)
  clear d6
  have c6 := c5.trans (b6.mono c5.size)
  go_wp2_with fail
  refine (bencode_any ⟨#[102]⟩ _ (by decide)).mono ?_
  rintro e w7 ⟨rfl, b7⟩
  rw [show encE (⟨#[102]⟩ : ByteArray).data.toList = [90, 103, 61, 61] from by decide +kernel]
  have c7 := c6.trans (b7.mono c6.size)
  go_wp2_with fail
  refine (bencode_any ⟨#[102, 111]⟩ _ (by decide)).mono ?_
  rintro e w8 ⟨rfl, b8⟩
  rw [show encE (⟨#[102, 111]⟩ : ByteArray).data.toList = [90, 109, 56, 61] from by decide +kernel]
  have c8 := c7.trans (b8.mono c7.size)
  go_wp2_with fail
  refine (bencode_any ⟨#[102, 111, 111]⟩ _ (by decide)).mono ?_
  rintro e w9 ⟨rfl, b9⟩
  rw [show encE (⟨#[102, 111, 111]⟩ : ByteArray).data.toList = [90, 109, 57, 118] from by decide +kernel]
  have c9 := c8.trans (b9.mono c8.size)
  go_wp2_with fail
  refine (bencode_any ⟨#[255, 239]⟩ _ (by decide)).mono ?_
  rintro e w10 ⟨rfl, b10⟩
  rw [show encE (⟨#[255, 239]⟩ : ByteArray).data.toList = [47, 43, 56, 61] from by decide +kernel]
  have c10 := c9.trans (b10.mono c9.size)
  go_wp2_with fail
  refine (bplain_any ⟨#[95, 45, 56, 61]⟩ m _ (by decide) (HM.out.below c10)).mono ?_
  rintro e w11 ⟨rfl, b11⟩
  rw [show plainL (⟨#[95, 45, 56, 61]⟩ : ByteArray).data.toList = [47, 43, 56, 61] from by decide +kernel]
  go_wp2_with fail
  go_ret
  exact ⟨rfl, c10.trans (b11.mono c10.size)⟩
end Go.Proofs.YtfbmabbehiicmaaDoor
