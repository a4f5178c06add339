/- The law TextsPieces. -/
import Derived.Test.YtfbmabbehiicmaaDoorUtf10
import Derived.Test.YtfbmabbehiicmaaDoorArgs2
set_option linter.unusedVariables false
namespace Go.Proofs.YtfbmabbehiicmaaDoor
open Go.RowKit

/-- A text of characters that no mark begins. -/
def Unmk (l : List UInt8) : Prop := CharsU l ∧ Lib.hasPrefix l [239, 187, 191] = false
theorem mark_front {a b : List UInt8} (ha : CharsU a) (hne : a ≠ []) (h : Lib.hasPrefix (a ++ b) [239, 187, 191] = true) : Lib.hasPrefix a [239, 187, 191] = true := by
  cases ha with
  | nil => exact absurd rfl hne
  | cons u r hu hr =>
    obtain ⟨f, t, rfl, hm, _⟩ := hu
    unfold Lib.hasPrefix at h ⊢
    rw [List.isPrefixOf_iff_prefix] at h ⊢
    obtain ⟨z, hz⟩ := h
    simp only [List.cons_append] at hz
    injection hz with h1 h2
    subst h1
    have hv : t.length = 2 := by
      have e : moreI ((239 : UInt8).toNat : Int) = 2 := by decide
      rw [e] at hm
      omega
    match t, hv with
    | [x, y], _ =>
      simp at h2
      rw [← h2.1, ← h2.2.1]
      exact ⟨r, rfl⟩
theorem Unmk.add {a b : List UInt8} (ha : Unmk a) (hb : Unmk b) : Unmk (a ++ b) := by
  refine ⟨ha.1.append hb.1, ?_⟩
  by_cases hne : a = []
  · rw [hne]; exact hb.2
  · rw [Bool.eq_false_iff]
    intro h
    have h2 := mark_front ha.1 hne h
    rw [ha.2] at h2
    cases h2
theorem Unmk.same {a : List UInt8} (ha : Unmk a) : textU a = a := text_plain ha.1 ha.2

set_option maxHeartbeats 4000000 in
set_option maxRecDepth 100000 in
theorem textsPieces_law (lv : Value) (zs : List ByteArray) (m : Int) (w : World) (hz : SliceIn w lv (zs.map Value.string)) (hzs : ∀ z ∈ zs, z.size ≤ maxLen) (hm : MaxOk m w) (hl : LTab w) :
    Calls Tryd.prog 5 #[lv] w fun e w' => e = .returned (.bool true) ∧ Below w.heap.size w w' := by
  have HM := Lib.hid hm
  have HL := Lib.hid hl
  clear hm hl
  have HZ := Lib.hid hz
  have HZS := Lib.hid hzs
  clear hzs
  obtain ⟨la, lc, hlv⟩ : ∃ la lc, lv = .slice la zs.length lc := by
    obtain ⟨ao, cap, hv, _⟩ := hz
    exact ⟨ao, cap, by simpa using hv⟩
  have hzl : zs.length ≤ 9223372036854775807 := by
    obtain ⟨ao, cap, hv, h1, h2, _⟩ := hz
    unfold maxLen at h2
    simp at h1
    omega
  clear hz
  subst hlv
  go_enter Tryd.func5, Tryd.ntmps5
  go_wp2_with fail
  go_loopw [3, 4, 5] (fun a p i wr => ∃ (k : Nat) (A : ByteArray), k ≤ zs.length ∧ i = .int .i64 k ∧ a = .string A ∧ p = .string A ∧ A.size ≤ 2000 ∧ Hid (Unmk A.data.toList) ∧ Hid (Below w.heap.size w wr)) (fun _ _ i _ => zs.length - (intOf i).toNat)
  case atStart => exact ⟨0, ⟨#[]⟩, Nat.zero_le _, rfl, rfl, rfl, Nat.zero_le _, ⟨.nil, rfl⟩, Below.refl _ _⟩
  case round =>
    obtain ⟨k, A, hk, rfl, rfl, rfl, hA, HU, HB⟩ := hrel
    by_cases hlt : k < zs.length
    · by_cases h20 : 20 ≤ k
      · go_wp2_with fail
        refine (tshown_any m _ (HM.out.below HB.out) (HL.out.below HB.out)).mono ?_
        rintro e w1 ⟨rfl, b1⟩
        go_wp2_with fail
        go_ret
        exact ⟨rfl, HB.out.trans (b1.mono HB.out.size)⟩
      · obtain ⟨b, off, cap, hv, hbl, hcell0⟩ := HZ.out.at (i := k) (by simpa using hlt)
        obtain ⟨rfl, rfl⟩ : la = some ⟨b, off, none⟩ ∧ lc = cap := by
          injection hv with a1 a2 a3
          exact ⟨a1, a3⟩
        clear hv
        have hsz := HZS.out zs[k] (List.getElem_mem hlt)
        unfold maxLen at hsz
        have hcell1 : w.cell? ⟨b, off + k, none⟩ = some (.string zs[k]) := by simpa using hcell0
        clear hcell0
        have hcell : wr.cell? ⟨b, off + k, none⟩ = some (.string zs[k]) := (HB.out.cell (p := ⟨b, off + k, none⟩) hbl).trans hcell1
        clear hcell1
        generalize zs[k] = z at *
        by_cases hbig : 2000 - (A.size : Int) < (z.size : Int)
        · go_wp2_with fail
          refine (tshown_any m _ (HM.out.below HB.out) (HL.out.below HB.out)).mono ?_
          rintro e w1 ⟨rfl, b1⟩
          go_wp2_with fail
          go_ret
          exact ⟨rfl, HB.out.trans (b1.mono HB.out.size)⟩
        · have hz20 : z.size ≤ 2000 := by omega
          have hmz : (⟨#[239, 187, 191]⟩ : ByteArray).size = 3 := rfl
          have HMZ := Lib.hid hmz
          clear hmz
          obtain ⟨s, hs⟩ : ∃ s : ByteArray, (⟨(textU ((⟨#[239, 187, 191]⟩ : ByteArray) ++ z).data.toList).toArray⟩ : ByteArray) = s := ⟨_, rfl⟩
          have hsz2 : s.size ≤ 12100 := by
            rw [← hs]
            show (textU _).toArray.size ≤ _
            rw [List.size_toArray]
            have := textU_size ((⟨#[239, 187, 191]⟩ : ByteArray) ++ z)
            rw [ByteArray.size_append, HMZ.out] at this
            omega
          have hsc : Hid (CharsU s.data.toList) := by show CharsU s.data.toList; rw [← hs]; exact textU_chars _
          have HS := Lib.hid hs
          clear hs
          have hcase : (s.size < 3 ∧ Hid (Unmk s.data.toList)) ∨ (3 ≤ s.size ∧ ((s.extract 0 3).toList == [239, 187, 191]) = false ∧ Hid (Unmk s.data.toList)) ∨ (3 ≤ s.size ∧ ((s.extract 0 3).toList == [239, 187, 191]) = true ∧ Hid True) := by
            have hl : s.data.toList.length = s.size := by simp
            by_cases h3 : s.size < 3
            · exact .inl ⟨h3, hsc.out, noprefix_short (by omega)⟩
            · rw [mark_test]
              cases hp : Lib.hasPrefix s.data.toList [239, 187, 191] with
              | false => exact .inr (.inl ⟨by omega, rfl, hsc.out, hp⟩)
              | true => exact .inr (.inr ⟨by omega, rfl, trivial⟩)
          rcases hcase with ⟨k1, k2⟩ | ⟨k1, k3, k2⟩ | ⟨k1, k3, k2⟩
          case inr.inr =>
            go_wp2_with fail
            refine (tdecode_any _ _ (by rw [ByteArray.size_append, HMZ.out]; omega) (HL.out.below HB.out)).mono ?_
            rintro e w1 ⟨rfl, b1⟩
            rw [HS.out]
            have c1 := HB.out.trans (b1.mono HB.out.size)
            go_wp2_with fail
            refine (tshown_any m _ (HM.out.below c1) (HL.out.below c1)).mono ?_
            rintro e w2 ⟨rfl, b2⟩
            go_wp2_with fail
            go_ret
            exact ⟨rfl, c1.trans (b2.mono c1.size)⟩
          all_goals
            have HA : Hid (Unmk (A ++ s).data.toList) := by show Unmk (A ++ s).data.toList; rw [app_dataU]; exact HU.out.add k2.out
            have hself : Hid ((⟨(textU s.data.toList).toArray⟩ : ByteArray) = s) := by
              show (⟨(textU s.data.toList).toArray⟩ : ByteArray) = s
              rw [k2.out.same]
            go_wp2_with fail
            refine (tdecode_any _ _ (by rw [ByteArray.size_append, HMZ.out]; omega) (HL.out.below HB.out)).mono ?_
            rintro e w1 ⟨rfl, b1⟩
            rw [HS.out]
            have c1 := HB.out.trans (b1.mono HB.out.size)
            go_wp2_with fail
            refine (tdecode_any s _ (by omega) (HL.out.below c1)).mono ?_
            rintro e w2 ⟨rfl, b2⟩
            rw [hself.out]
            have c2 := c1.trans (b2.mono c1.size)
            by_cases hbig2 : 2000 < A.size + s.size
            · have hb2 : 2000 < (A.size : Int) + (s.size : Int) := by omega
              go_wp2_with fail
              refine (tshown_any m _ (HM.out.below c2) (HL.out.below c2)).mono ?_
              rintro e w3 ⟨rfl, b3⟩
              go_wp2_with fail
              go_ret
              exact ⟨rfl, c2.trans (b3.mono c2.size)⟩
            · have hb2 : ¬ 2000 < (A.size : Int) + (s.size : Int) := by omega
              go_wp2_with fail
              go_roundw
              case rel => exact ⟨k + 1, A ++ s, by omega, by go_num, rfl, rfl, by rw [ByteArray.size_append]; omega, HA.out, c2⟩
              case measure => simp [intOf]; omega
    · have hself : Hid ((⟨(textU A.data.toList).toArray⟩ : ByteArray) = A) := by
        show (⟨(textU A.data.toList).toArray⟩ : ByteArray) = A
        rw [HU.out.same]
      go_wp2_with fail
      refine (tdecode_any A _ (by omega) (HL.out.below HB.out)).mono ?_
      rintro e w1 ⟨rfl, b1⟩
      rw [hself.out]
      have c1 := HB.out.trans (b1.mono HB.out.size)
      go_wp2_with fail
      refine (tshown_any m _ (HM.out.below c1) (HL.out.below c1)).mono ?_
      rintro e w2 ⟨rfl, b2⟩
      go_wp2_with fail
      go_ret
      exact ⟨rfl, c1.trans (b2.mono c1.size)⟩
end Go.Proofs.YtfbmabbehiicmaaDoor
