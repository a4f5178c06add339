/- texts.Lines, the document's Lines, and the chapter's examples of layer 1. -/
import Derived.Test.YtfbmabbehiicmaaDoorUtf6
import Derived.Test.YtfbmabbehiicmaaDoorLin
import Derived.Test.YtfbmabbehiicmaaDoorMx
set_option linter.unusedVariables false
namespace Go.Proofs.YtfbmabbehiicmaaDoor
open Go.RowKit

theorem count_small (s old : ByteArray) (h1 : 1 ≤ old.size) : Lib.countB s old ≤ s.size := Lib.countB_le old h1 s.size s (Nat.le_refl _)
set_option maxHeartbeats 1000000 in
theorem tlines_any (s : ByteArray) (m : Int) (w : World) (hs : s.size ≤ 1073741824) (hm : MaxOk m w) :
    Calls Tryd.prog 14 #[.string s] w fun e w' => e = .returned (.string ⟨(linesU false s.data.toList).toArray⟩) ∧ Below w.heap.size w w' := by
  have HM := Lib.hid hm
  clear hm
  obtain ⟨T, hT⟩ : ∃ T : ByteArray, (⟨(Lib.replaceAll s.data.toList (⟨#[13, 10]⟩ : ByteArray).data.toList (⟨#[10]⟩ : ByteArray).data.toList).toArray⟩ : ByteArray) = T := ⟨_, rfl⟩
  have hTs : T.size ≤ s.size := by
    rw [← hT]
    show (crlf s.data.toList).toArray.size ≤ _
    rw [List.size_toArray]
    have := crlf_len s.data.toList
    simp at this
    exact this
  have HR : Hid ((⟨(Lib.replaceAll T.data.toList (⟨#[13]⟩ : ByteArray).data.toList (⟨#[10]⟩ : ByteArray).data.toList).toArray⟩ : ByteArray) = ⟨(linesU false s.data.toList).toArray⟩) := by
    show (⟨(crs T.data.toList).toArray⟩ : ByteArray) = _
    rw [← hT, ← lines_eq]
    rfl
  have HT := Lib.hid hT
  clear hT
  have c1 := count_small s ⟨#[13, 10]⟩ (by decide)
  have c2 := count_small T ⟨#[13]⟩ (by decide)
  go_enter Tryd.func14, Tryd.ntmps14
  go_wp2_with fail
  refine (Tryd.strings_ReplaceAll s ⟨#[13, 10]⟩ ⟨#[10]⟩ m _ (by omega) HM.out (by decide) (by rw [show (⟨#[10]⟩ : ByteArray).size = 1 from rfl]; omega)).mono ?_
  rintro e w1 ⟨rfl, b1⟩
  rw [HT.out]
  go_wp2_with fail
  refine (Tryd.strings_ReplaceAll T ⟨#[13]⟩ ⟨#[10]⟩ m _ (by omega) (HM.out.below b1) (by decide) (by rw [show (⟨#[10]⟩ : ByteArray).size = 1 from rfl]; omega)).mono ?_
  rintro e w2 ⟨rfl, b2⟩
  rw [HR.out]
  go_wp2_with fail
  go_ret
  exact ⟨rfl, b1.trans (b2.mono b1.size)⟩

/-- The document's way to tell lines: what stands ahead decides. -/
def backU (l : List UInt8) (k : Nat) : Bool := decide (0 < k) && ((l.getD (k - 1) 0) == 13)
theorem rl_cr {s O : ByteArray} {k : Nat} {T : List UInt8} (hk : k < s.size) (h : O.data.toList ++ linesU (backU s.data.toList k) (s.data.toList.drop k) = T) (hc : ((s[k].toNat : Int) == 13) = true) :
    (O ++ ⟨#[10]⟩).data.toList ++ linesU (backU s.data.toList (k + 1)) (s.data.toList.drop (k + 1)) = T := by
  have e : s[k] = 13 := UInt8.toNat_inj.1 (by have := beq_iff_eq.1 hc; show s[k].toNat = 13; omega)
  have hg : s.data.toList.getD k 0 = s[k] := by
    rw [List.getD_eq_getElem?_getD, List.getElem?_eq_getElem (by simpa using hk)]; rfl
  rw [u_drop hk, e] at h
  rw [app_dataU, ← h, show backU s.data.toList (k + 1) = true by unfold backU; rw [Nat.add_sub_cancel, hg, e]; simp]
  simp [linesU]
theorem rl_keep {s O : ByteArray} {k : Nat} {T : List UInt8} (hk : k < s.size) (h : O.data.toList ++ linesU (backU s.data.toList k) (s.data.toList.drop k) = T) (hc : ((s[k].toNat : Int) == 13) = false)
    (h2 : ((s[k].toNat : Int) != 10) = true ∨ backU s.data.toList k = false) :
    (O ++ s.extract k (k + 1)).data.toList ++ linesU (backU s.data.toList (k + 1)) (s.data.toList.drop (k + 1)) = T := by
  have e : s[k] ≠ 13 := by intro e; rw [e] at hc; simp at hc
  have hg : s.data.toList.getD k 0 = s[k] := by
    rw [List.getD_eq_getElem?_getD, List.getElem?_eq_getElem (by simpa using hk)]; rfl
  have e2 : ¬ (s[k] = 10 ∧ backU s.data.toList k = true) := by
    rintro ⟨a, b⟩
    rcases h2 with h2 | h2
    · rw [a] at h2; simp at h2
    · rw [b] at h2; cases h2
  rw [u_drop hk, linesU, if_neg e, if_neg e2] at h
  rw [add_atU _ _ _ hk, ← h, show backU s.data.toList (k + 1) = false by unfold backU; rw [Nat.add_sub_cancel, hg]; simp; exact e]
  simp
theorem rl_skip {s O : ByteArray} {k : Nat} {T : List UInt8} (hk : k < s.size) (h : O.data.toList ++ linesU (backU s.data.toList k) (s.data.toList.drop k) = T) (hc : ((s[k].toNat : Int) != 10) = false)
    (h2 : backU s.data.toList k = true) :
    O.data.toList ++ linesU (backU s.data.toList (k + 1)) (s.data.toList.drop (k + 1)) = T := by
  have e : s[k] = 10 := UInt8.toNat_inj.1 (by have : (s[k].toNat : Int) = 10 := by simpa using hc
                                              show s[k].toNat = 10; omega)
  have hg : s.data.toList.getD k 0 = s[k] := by
    rw [List.getD_eq_getElem?_getD, List.getElem?_eq_getElem (by simpa using hk)]; rfl
  rw [u_drop hk, e, linesU, if_neg (by decide), if_pos ⟨rfl, h2⟩] at h
  rw [← h, show backU s.data.toList (k + 1) = false by unfold backU; rw [Nat.add_sub_cancel, hg, e]; simp]

set_option maxHeartbeats 2000000 in
set_option maxRecDepth 100000 in
theorem rlines_any (s : ByteArray) (w : World) (hs : s.size ≤ 1073741824) :
    Calls Tryd.prog 15 #[.string s] w fun e w' => e = .returned (.string ⟨(linesU false s.data.toList).toArray⟩) ∧ w = w' := by
  go_enter Tryd.func15, Tryd.ntmps15
  go_wp2_with fail
  go_loop [3, 4] (fun o i => ∃ (k : Nat) (O : ByteArray), k ≤ s.size ∧ i = .int .i64 k ∧ o = .string O ∧ O.size ≤ k ∧ Hid (O.data.toList ++ linesU (backU s.data.toList k) (s.data.toList.drop k) = linesU false s.data.toList)) (fun _ i => s.size - (intOf i).toNat)
  case atStart => exact ⟨0, ⟨#[]⟩, Nat.zero_le _, rfl, rfl, Nat.le_refl _, rfl⟩
  case round =>
    obtain ⟨k, O, hk, rfl, rfl, hO, HI⟩ := hrel
    have hln : Hid (s.data.toList.length = s.size) := by show s.data.toList.length = s.size; simp
    by_cases hlt : k < s.size
    · have hz1 := Lib.hid (u_size hlt)
      cases hc : ((s[k].toNat : Int) == 13) with
      | true =>
        have HG := Lib.hid (rl_cr hlt HI.out hc)
        go_wp2_with fail
        go_round
        case rel => exact ⟨k + 1, _, by omega, by go_num, rfl, by rw [ByteArray.size_append]; show _ + 1 ≤ _; omega, HG.out⟩
        case measure => simp [intOf]; omega
      | false =>
        cases hn : ((s[k].toNat : Int) != 10) with
        | true =>
          have HG := Lib.hid (rl_keep hlt HI.out hc (.inl hn))
          go_wp2_with fail
          go_round
          case rel => exact ⟨k + 1, _, by omega, by go_num, rfl, by rw [ByteArray.size_append, hz1.out]; omega, HG.out⟩
          case measure => simp [intOf]; omega
        | false =>
          by_cases h0 : k = 0
          · have HG := Lib.hid (rl_keep hlt HI.out hc (.inr (by rw [h0]; rfl)))
            have h0' : ((k : Int) == 0) = true := by rw [h0]; rfl
            clear h0
            go_wp2_with fail
            go_round
            case rel => exact ⟨k + 1, _, by omega, by go_num, rfl, by rw [ByteArray.size_append, hz1.out]; omega, HG.out⟩
            case measure => simp [intOf]; omega
          · have h0' : ((k : Int) == 0) = false := by rw [beq_eq_false_iff_ne]; omega
            have hpos : 1 ≤ (k : Int) := by omega
            have hbk : Hid (backU s.data.toList k = (s[k - 1].toNat == 13)) := by
              show backU s.data.toList k = _
              unfold backU
              rw [List.getD_eq_getElem?_getD, List.getElem?_eq_getElem (by simp; omega), Bool.eq_iff_iff]
              simp
              rw [← UInt8.toNat_inj]
              constructor
              · rintro ⟨_, h⟩; exact h
              · intro h; exact ⟨by omega, h⟩
            have hix : Hid (((k : Int) - 1).toNat = k - 1) := by show ((k : Int) - 1).toNat = k - 1; omega
            cases hp : (s[k - 1].toNat == 13) with
            | true =>
              have HG := Lib.hid (rl_skip hlt HI.out hn (by rw [hbk.out, hp]))
              have hp2 : ((s[k - 1].toNat : Int) != 13) = false := by simp at hp; simp; omega
              clear hp
              go_wp2_with fail
              go_round
              case rel => exact ⟨k + 1, _, by omega, by go_num, rfl, by omega, HG.out⟩
              case measure => simp [intOf]; omega
            | false =>
              have HG := Lib.hid (rl_keep hlt HI.out hc (.inr (by rw [hbk.out, hp])))
              have hp2 : ((s[k - 1].toNat : Int) != 13) = true := by simp at hp; simp; omega
              clear hp
              go_wp2_with fail
              go_round
              case rel => exact ⟨k + 1, _, by omega, by go_num, rfl, by rw [ByteArray.size_append, hz1.out]; omega, HG.out⟩
              case measure => simp [intOf]; omega
    · have hend : Hid (s.data.toList.drop k = []) := by show s.data.toList.drop k = []; exact List.drop_eq_nil_of_le (by rw [hln.out]; omega)
      have HI2 := HI.out
      rw [hend.out] at HI2
      have HR : Hid ((⟨(linesU false s.data.toList).toArray⟩ : ByteArray) = O) := by
        show (⟨(linesU false s.data.toList).toArray⟩ : ByteArray) = O
        rw [← HI2]
        simp [linesU]
      clear HI2
      go_wp2_with fail
      go_ret
      rw [HR.out]
      exact ⟨rfl, rfl⟩
set_option maxHeartbeats 2000000 in
set_option maxRecDepth 100000 in
theorem tshown_any (m : Int) (w : World) (hm : MaxOk m w) (hl : LTab w) :
    Calls Tryd.prog 11 #[] w fun e w' => e = .returned (.bool true) ∧ Below w.heap.size w w' := by
  have HM := Lib.hid hm
  have HL := Lib.hid hl
  clear hm hl
  go_enter Tryd.func11, Tryd.ntmps11
  go_wp2_with fail
  refine (tdecode_any ⟨#[239, 187, 191, 97, 239, 187, 191]⟩ _ (by decide) HL.out).mono ?_
  rintro e w1 ⟨rfl, b1⟩
  rw [show textU (⟨#[239, 187, 191, 97, 239, 187, 191]⟩ : ByteArray).data.toList = [97, 239, 187, 191] from by decide +kernel]
  have c1 := b1
  go_wp2_with fail
  refine (tdecode_any ⟨#[224, 128, 97]⟩ _ (by decide) (HL.out.below c1)).mono ?_
  rintro e w2 ⟨rfl, b2⟩
  rw [show textU (⟨#[224, 128, 97]⟩ : ByteArray).data.toList = [239, 191, 189, 239, 191, 189, 97] from by decide +kernel]
  have c2 := c1.trans (b2.mono c1.size)
  go_wp2_with fail
  refine (tdecode_any ⟨#[240, 159, 152]⟩ _ (by decide) (HL.out.below c2)).mono ?_
  rintro e w3 ⟨rfl, b3⟩
  rw [show textU (⟨#[240, 159, 152]⟩ : ByteArray).data.toList = [239, 191, 189] from by decide +kernel]
  have c3 := c2.trans (b3.mono c2.size)
  go_wp2_with fail
  refine (tdecode_any ⟨#[240, 159, 97]⟩ _ (by decide) (HL.out.below c3)).mono ?_
  rintro e w4 ⟨rfl, b4⟩
  rw [show textU (⟨#[240, 159, 97]⟩ : ByteArray).data.toList = [239, 191, 189, 97] from by decide +kernel]
  have c4 := c3.trans (b4.mono c3.size)
  go_wp2_with fail
  refine (tdecode_any ⟨#[237, 160, 128]⟩ _ (by decide) (HL.out.below c4)).mono ?_
  rintro e w5 ⟨rfl, b5⟩
  rw [show textU (⟨#[237, 160, 128]⟩ : ByteArray).data.toList = [239, 191, 189, 239, 191, 189, 239, 191, 189] from by decide +kernel]
  have c5 := c4.trans (b5.mono c4.size)
  go_wp2_with fail
  refine (tdecode_any ⟨#[255]⟩ _ (by decide) (HL.out.below c5)).mono ?_
  rintro e w6 ⟨rfl, b6⟩
  rw [show textU (⟨#[255]⟩ : ByteArray).data.toList = [239, 191, 189] from by decide +kernel]
  have c6 := c5.trans (b6.mono c5.size)
  go_wp2_with fail
  refine (tlines_any ⟨#[97, 13, 10, 13, 98, 10, 13]⟩ m _ (by decide) (HM.out.below c6)).mono ?_
  rintro e w7 ⟨rfl, b7⟩
  rw [show linesU false (⟨#[97, 13, 10, 13, 98, 10, 13]⟩ : ByteArray).data.toList = [97, 10, 10, 98, 10, 10] from by decide +kernel]
  go_wp2_with fail
  go_ret
  exact ⟨rfl, c6.trans (b7.mono c6.size)⟩
end Go.Proofs.YtfbmabbehiicmaaDoor
