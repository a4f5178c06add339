/- lazaretlaw01.whole: what the language's own loop says of characters alone; the law TextsWhole. -/
import Derived.Test.YtfbmabbehiicmaaDoorUtf8
import Derived.Test.YtfbmabbehiicmaaDoorUtf9
import Derived.Laws.Runes
import Derived.Laws.RangeString
import Derived.Laws.RangeAny
set_option linter.unusedVariables false
namespace Go.Proofs.YtfbmabbehiicmaaDoor
open Go.RowKit

theorem encode_size (r : Int) : (Utf8.encode r).size = (Lib.encodeRune r).length := by
  unfold Lib.encodeRune
  rw [List.length_map]
  unfold Utf8.encode Utf8.valid Utf8.runeError Lib.encodeRuneZ
  dsimp only
  by_cases h : (decide (0 ≤ r) && decide (r < 55296) || decide (57344 ≤ r) && decide (r ≤ 1114111)) = true
  · rw [if_pos h]
    simp at h
    repeat' split
    all_goals first
      | rfl
      | (exfalso; omega)
  · rw [if_neg h]
    simp at h
    repeat' split
    all_goals first
      | rfl
      | (exfalso; omega)
theorem char_width {u : List UInt8} (h : CharU u) (r : List UInt8) : (Utf8.encode ((Lib.decodeL (u ++ r)).1 : Int)).size = u.length ∧ ((Lib.decodeL (u ++ r)).1 = 65533 → u = repl) := by
  obtain ⟨h1, h2⟩ := char_decode h r
  have hne : u ++ r ≠ [] := by
    obtain ⟨f, t, rfl, _⟩ := h
    simp
  have h3 := Lib.encode_decode (u ++ r) hne h2
  rw [h1, List.take_left] at h3
  rw [encode_size, h3]
  refine ⟨rfl, fun e => ?_⟩
  rw [← h3, e]
  decide
theorem dec_at (s : ByteArray) (pos : Nat) : Utf8.decode s pos = Lib.decodeL (s.data.toList.drop pos) := by
  rw [Lib.decode_N, Lib.decodeL_N]
  simp [List.getD_eq_getElem?_getD, List.getElem?_drop]
/-- A round of the language's loop over characters alone. -/
theorem whole_step {s : ByteArray} {pos : Nat} (hp : pos < s.size) (h : CharsU (s.data.toList.drop pos)) :
    pos + (Utf8.decode s pos).2 ≤ s.size ∧ 1 ≤ (Utf8.decode s pos).2 ∧ CharsU (s.data.toList.drop (pos + (Utf8.decode s pos).2)) ∧ (Utf8.encode ((Utf8.decode s pos).1 : Int)).size = (Utf8.decode s pos).2 ∧
      ((Utf8.decode s pos).1 = 65533 → (Utf8.decode s pos).2 = 3 ∧ s.extract pos (pos + 3) = ⟨#[239, 191, 189]⟩) := by
  rw [dec_at]
  have hlen : s.data.toList.length = s.size := by simp
  have hdl : (s.data.toList.drop pos).length = s.size - pos := by rw [List.length_drop, hlen]
  generalize hl : s.data.toList.drop pos = l at *
  cases h with
  | nil => simp at hdl; omega
  | cons u r hu hr =>
    have h1 := char_decode hu r
    have h2 := char_width hu r
    rw [h1.1]
    rw [List.length_append] at hdl
    refine ⟨by omega, ?_, ?_, h2.1, fun e => ?_⟩
    · obtain ⟨f, t, rfl, _⟩ := hu
      simp
    · rw [← List.drop_drop, hl, List.drop_left]
      exact hr
    · have e2 := h2.2 e
      subst e2
      refine ⟨rfl, ?_⟩
      apply ByteArray.ext
      apply Array.toList_inj.1
      rw [ext_someU, hl]
      rfl

set_option maxHeartbeats 2000000 in
set_option maxRecDepth 100000 in
theorem whole_any (s : ByteArray) (w : World) (hs : s.size ≤ 1073741824) (hc : CharsU s.data.toList) :
    Calls Tryd.prog 16 #[.string s] w fun e w' => e = .returned (.bool true) ∧ Below w.heap.size w w' := by
  have HC := Lib.hid hc
  clear hc
  go_enter Tryd.func16, Tryd.ntmps16
  go_wp2_with fail
  go_loopw [3] (fun n wr => ∃ pos : Nat, pos ≤ s.size ∧ wr = w.iter s pos ∧ n = .int .i64 pos ∧ Hid (CharsU (s.data.toList.drop pos))) (fun _ wr => s.size - wr.iterPos w.heap.size)
  case atStart => exact ⟨0, Nat.zero_le _, rfl, rfl, HC.out⟩
  case round =>
    obtain ⟨pos, hk, rfl, rfl, HI⟩ := hrel
    by_cases hp : pos < s.size
    · obtain ⟨g1, g2, g3, g4, g5⟩ := whole_step hp HI.out
      have hnx : ∀ ty, (Instr.next (.pointer (some ⟨w.heap.size, 0, none⟩)) true ty).run Tryd.prog (w.iter s pos) = _ := fun ty => run_next_any w s pos ty hp
      have G3 := Lib.hid g3
      have G4 := Lib.hid g4
      clear g3 g4
      have hsz : (Utf8.encode ((Utf8.decode s pos).1 : Int)).size = (Utf8.decode s pos).2 := G4.out
      generalize hR : (Utf8.decode s pos).1 = R at *
      generalize hW : (Utf8.decode s pos).2 = W at *
      have HRW := Lib.hid (And.intro hR hW)
      clear hR hW
      have HSZ := Lib.hid hsz
      clear hsz
      by_cases hr : R = 65533
      · obtain ⟨rfl, g6⟩ := g5 hr
        have HG6 := Lib.hid g6
        clear g6 g5
        subst hr
        have e3 : (Utf8.encode 65533).size = 3 := by decide
        have hx : (s.extract pos (pos + 3)).toList = [239, 191, 189] := by rw [HG6.out, ByteArray.toList_eq]
        have hb1 : (pos : Int) + 3 ≤ (s.size : Int) := by omega
        clear G4 HSZ
        go_wp2_with fail
        go_roundw
        case rel => exact ⟨pos + 3, g1, rfl, by go_num, G3.out⟩
        case measure => simp; omega
      · clear g5
        have hr2 : ((R : Int) == 65533) = false := by rw [beq_eq_false_iff_ne]; omega
        clear hr
        have e3 : (Utf8.encode (R : Int)).size = W := HSZ.out
        have hb1 : (pos : Int) + (W : Int) ≤ (s.size : Int) := by omega
        clear G4 HSZ
        go_wp2_with fail
        go_roundw
        case rel => exact ⟨pos + W, g1, rfl, by go_num, G3.out⟩
        case measure => simp; omega
    · have hpe : Hid (pos = s.size) := by show pos = s.size; omega
      have hnx : ∀ ty, (Instr.next (.pointer (some ⟨w.heap.size, 0, none⟩)) true ty).run Tryd.prog (w.iter s pos) = _ := fun ty => run_next_end w s pos ty hp
      go_wp2_with fail
      go_ret
      exact ⟨ret_bool (by rw [hpe.out]; simp), (Below.refl _ w).alloc (Nat.le_refl _) _⟩

theorem textU_len : ∀ (r h : List UInt8) (n : Nat), (runU r h n).length ≤ h.length + 6 * r.length + 3
  | [], h, 0 => by simp [runU]
  | [], h, n + 1 => by simp [runU, repl]
  | c :: r, h, 0 => by
    have h1 := textU_len r [] 0
    have h2 := textU_len r [c] (moreI (c.toNat : Int)).toNat
    unfold runU
    split
    · simp [repl] at *; omega
    · simp at *; omega
  | c :: r, h, n + 1 => by
    have h1 := textU_len r [] 0
    have h2 := textU_len r [c] (moreI (c.toNat : Int)).toNat
    have h3 := textU_len r (h ++ [c]) n
    unfold runU
    split
    · simp at *; omega
    · split
      · simp [repl] at *; omega
      · simp [repl] at *; omega
theorem textU_size (b : ByteArray) : (textU b.data.toList).length ≤ 6 * b.size + 3 := by
  have h1 : (unmark b.data.toList).length ≤ b.size := by
    unfold unmark Lib.trimPrefix
    split
    · rw [List.length_drop]; simp
    · simp
  have h2 := textU_len (unmark b.data.toList) [] 0
  unfold textU decU
  simp at h2
  omega

set_option maxHeartbeats 4000000 in
set_option maxRecDepth 100000 in
theorem textsWhole_law (b : ByteArray) (m : Int) (w : World) (hb : b.size ≤ maxLen) (hm : MaxOk m w) (hl : LTab w) :
    Calls Tryd.prog 4 #[.string b] w fun e w' => e = .returned (.bool true) ∧ Below w.heap.size w w' := by
  have HM := Lib.hid hm
  have HL := Lib.hid hl
  clear hm hl
  unfold maxLen at hb
  by_cases h1 : 3000 < b.size
  · go_enter Tryd.func4, Tryd.ntmps4
    go_wp2_with fail
    refine (tshown_any m _ HM.out HL.out).mono ?_
    rintro e w1 ⟨rfl, b1⟩
    go_wp2_with fail
    go_ret
    exact ⟨rfl, b1⟩
  · have hch := Lib.hid (textU_chars b.data.toList)
    have hss := textU_size b
    obtain ⟨s, hs⟩ : ∃ s : ByteArray, (⟨(textU b.data.toList).toArray⟩ : ByteArray) = s := ⟨_, rfl⟩
    have hsl : Hid (CharsU s.data.toList) := by show CharsU s.data.toList; rw [← hs]; exact hch.out
    have hsz : s.size ≤ 18003 := by
      rw [← hs]
      show (textU b.data.toList).toArray.size ≤ _
      rw [List.size_toArray]
      omega
    clear hss hch
    have HS := Lib.hid hs
    clear hs
    have hagain := Lib.hid (text_again hsl.out)
    have hmark := Lib.hid (text_marked hsl.out)
    obtain ⟨t, ht⟩ : ∃ t : ByteArray, (⟨(textU s.data.toList).toArray⟩ : ByteArray) = t := ⟨_, rfl⟩
    have htl : Hid (t.data.toList = textU s.data.toList) := by show t.data.toList = _; rw [← ht]
    have HT := Lib.hid ht
    clear ht
    have hmk : Hid ((⟨(textU ((⟨#[239, 187, 191]⟩ : ByteArray) ++ s).data.toList).toArray⟩ : ByteArray) = s) := by
      show (⟨(textU ((⟨#[239, 187, 191]⟩ : ByteArray) ++ s).data.toList).toArray⟩ : ByteArray) = s
      rw [app_dataU]
      rw [show (⟨#[239, 187, 191]⟩ : ByteArray).data.toList = [239, 187, 191] from rfl, hmark.out]
    have hmz : (⟨#[239, 187, 191]⟩ : ByteArray).size = 3 := rfl
    have HMZ := Lib.hid hmz
    clear hmz
    have tno : Lib.hasPrefix s.data.toList [239, 187, 191] = false → t = s := by
      intro h
      apply ByteArray.ext
      apply Array.toList_inj.1
      rw [htl.out]
      have := hagain.out
      rwa [h, if_neg (by simp)] at this
    have tyes : Lib.hasPrefix s.data.toList [239, 187, 191] = true → (⟨#[239, 187, 191]⟩ : ByteArray) ++ t = s := by
      intro h
      apply ByteArray.ext
      apply Array.toList_inj.1
      rw [app_dataU, htl.out]
      have := hagain.out
      rwa [h, if_pos rfl] at this
    have hcase : (s.size < 3 ∧ t = s) ∨ (3 ≤ s.size ∧ ((s.extract 0 3).toList == [239, 187, 191]) = false ∧ t = s) ∨ (3 ≤ s.size ∧ ((s.extract 0 3).toList == [239, 187, 191]) = true ∧ (⟨#[239, 187, 191]⟩ : ByteArray) ++ t = s) := by
      have hl : s.data.toList.length = s.size := by simp
      by_cases h3 : s.size < 3
      · exact .inl ⟨h3, tno (noprefix_short (by omega))⟩
      · rw [mark_test]
        cases hp : Lib.hasPrefix s.data.toList [239, 187, 191] with
        | false => exact .inr (.inl ⟨by omega, rfl, tno hp⟩)
        | true => exact .inr (.inr ⟨by omega, rfl, tyes hp⟩)
    have htz : t.size ≤ 108021 := by
      have h := textU_size s
      have e : t.data.toList.length = t.size := by simp
      rw [htl.out] at e
      omega
    clear tno tyes
    rcases hcase with ⟨k1, k2⟩ | ⟨k1, k3, k2⟩ | ⟨k1, k3, k2⟩
    all_goals
      have K2 := Lib.hid k2
      clear k2
      go_enter Tryd.func4, Tryd.ntmps4
      go_wp2_with fail
      refine (tdecode_any b _ (by omega) HL.out).mono ?_
      rintro e w1 ⟨rfl, b1⟩
      rw [HS.out]
      go_wp2_with fail
      refine (tdecode_any s _ (by omega) (HL.out.below b1)).mono ?_
      rintro e w2 ⟨rfl, b2⟩
      rw [HT.out]
      have c2 := b1.trans (b2.mono b1.size)
      go_wp2_with fail
      try rw [K2.out]
      refine (whole_any s _ (by omega) hsl.out).mono ?_
      rintro e w3 ⟨rfl, b3⟩
      have c3 := c2.trans (b3.mono c2.size)
      go_wp2_with fail
      try rw [K2.out]
      refine (tdecode_any _ _ (by rw [ByteArray.size_append, HMZ.out]; omega) (HL.out.below c3)).mono ?_
      rintro e w4 ⟨rfl, b4⟩
      rw [hmk.out]
      have c4 := c3.trans (b4.mono c3.size)
      go_wp2_with fail
      refine (tshown_any m _ (HM.out.below c4) (HL.out.below c4)).mono ?_
      rintro e w5 ⟨rfl, b5⟩
      go_wp2_with fail
      go_ret
      exact ⟨rfl, c4.trans (b5.mono c4.size)⟩
end Go.Proofs.YtfbmabbehiicmaaDoor
