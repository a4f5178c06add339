/- lazaretlaw03.other: other letters here and there. -/
import Derived.Test.YtfbmabbehiicmaaDoorB64p
import Derived.Test.YtfbmabbehiicmaaDoorRow
set_option linter.unusedVariables false
namespace Go.Proofs.YtfbmabbehiicmaaDoor
open Go.RowKit

theorem plain_set {L l : List UInt8} (h : plainL L = plainL l) {k : Nat} {x y : UInt8} (hx : L[k]? = some x) (hy : plainB y = plainB x) : plainL (L.set k y) = plainL l := by
  rw [← h]
  unfold plainL
  rw [List.map_set, hy]
  obtain ⟨hk, rfl⟩ := List.getElem?_eq_some_iff.1 hx
  apply List.ext_getElem?
  intro i
  rw [List.getElem?_set]
  split
  · rename_i e
    subst e
    simp [hk]
  · rfl
set_option maxHeartbeats 4000000 in
set_option maxRecDepth 100000 in
theorem other_any (s : ByteArray) (tv : Value) (bs : List Bool) (w : World) (hs : s.size ≤ 1073741824) (htv : SliceIn w tv (bs.map Value.bool)) :
    Calls Tryd.prog 25 #[.string s, tv] w fun e w' => (∃ L : ByteArray, e = .returned (.string L) ∧ L.size = s.size ∧ plainL L.data.toList = plainL s.data.toList) ∧ Below w.heap.size w w' := by
  obtain ⟨ta, tc, hT0, hTc⟩ : ∃ ta tc, tv = .slice ta bs.length tc ∧ bs.length ≤ 9223372036854775807 := by
    obtain ⟨ao, cap, hv, h1, h2, _⟩ := htv
    unfold maxLen at h2
    simp at h1
    exact ⟨ao, cap, by simpa using hv, by omega⟩
  have hT := Lib.hid htv
  clear htv
  subst hT0
  obtain ⟨cap, w2, e2, hB, hbel, hsz2⟩ := bytes_blk (P := Tryd.prog) w 9 27 5 s Tryd.underlying9 Tryd.underlying27 Tryd.underlying5
  have E2 := Lib.hid e2
  have HB := Lib.hid hB
  have HE := Lib.hid hbel
  clear e2 hB hbel
  go_enter Tryd.func25, Tryd.ntmps25
  go_wp2_with fail
  rw [E2.out]
  go_wp2_with fail
  go_loopw [6] (fun i wr => ∃ (k : Nat) (L : List UInt8), k ≤ s.size ∧ i = .int .i64 k ∧ L.length = s.size ∧ Hid (plainL L = plainL s.data.toList) ∧ Hid (Blk wr w.heap.size 5 L) ∧ Hid (Below w.heap.size w wr)) (fun i _ => s.size - (intOf i).toNat)
  case atStart => exact ⟨0, s.data.toList, Nat.zero_le _, rfl, by simp, rfl, HB.out, HE.out⟩
  case round =>
    obtain ⟨k, L, hk, rfl, hL, HP, HBk, HEk⟩ := hrel
    by_cases hlt : k < s.size
    · obtain ⟨b0, hb0⟩ : ∃ b, L[k]? = some b := ⟨_, List.getElem?_eq_getElem (by omega)⟩
      have HB0 := Lib.hid hb0
      have cc := HBk.out.cell hb0
      have ff := HBk.out.free (k := k) (by omega)
      clear hb0
      by_cases htl : k < bs.length
      · obtain ⟨tb, toff, tcap, ht1, ht2, ht0⟩ := hT.out.at (i := k) (by simpa using htl)
        obtain ⟨rfl, rfl⟩ : ta = some ⟨tb, toff, none⟩ ∧ tc = tcap := by injection ht1 with a b c; exact ⟨a, c⟩
        obtain ⟨q, hq⟩ : ∃ q, bs[k]? = some q := ⟨_, List.getElem?_eq_getElem htl⟩
        rw [show (List.map Value.bool bs)[k]'(by simpa using htl) = .bool q by obtain ⟨_, e⟩ := List.getElem?_eq_some_iff.1 hq; simp [e]] at ht0
        clear ht1 hq
        have ht3 : wr.cell? ⟨tb, toff + k, none⟩ = some (.bool q) := (HEk.out.cell (p := ⟨tb, toff + k, none⟩) ht2).trans ht0
        have HT0 := Lib.hid ht0
        clear ht0
        cases q with
        | false =>
          go_wp2_with fail
          go_roundw
          case rel => exact ⟨k + 1, L, by omega, by go_num, hL, HP.out, HBk.out, HEk.out⟩
          case measure => simp [intOf]; omega
        | true =>
          by_cases h43 : b0 = 43
          · subst h43
            have HP2 := Lib.hid (plain_set HP.out HB0.out (y := 45) (by decide))
            have HB2 := Lib.hid (HBk.out.set (k := k) 45)
            have HE2 := Lib.hid (HEk.out.setCell (p := ⟨w.heap.size, k, none⟩) (Nat.le_refl _) (.int .u8 45))
            have ht4 : (wr.setCell ⟨w.heap.size, k, none⟩ (.int .u8 45)).cell? ⟨tb, toff + k, none⟩ = some (.bool true) := (HE2.out.cell (p := ⟨tb, toff + k, none⟩) ht2).trans HT0.out
            have cc2 : (wr.setCell ⟨w.heap.size, k, none⟩ (.int .u8 45)).cell? ⟨w.heap.size, k, none⟩ = some (.int .u8 45) := HB2.out.cell (k := k) (b := 45) (by rw [List.getElem?_set_self (by omega)])
            go_wp2_with fail
            go_roundw
            case rel => exact ⟨k + 1, L.set k 45, by omega, by go_num, by simpa using hL, HP2.out, HB2.out, HE2.out⟩
            case measure => simp [intOf]; omega
          · have h43' : ((b0.toNat : Int) == 43) = false := by
              rw [beq_eq_false_iff_ne]
              intro e
              exact h43 (UInt8.toNat_inj.1 (by show b0.toNat = 43; omega))
            clear h43
            by_cases h47 : b0 = 47
            · subst h47
              have HP2 := Lib.hid (plain_set HP.out HB0.out (y := 95) (by decide))
              have HB2 := Lib.hid (HBk.out.set (k := k) 95)
              have HE2 := Lib.hid (HEk.out.setCell (p := ⟨w.heap.size, k, none⟩) (Nat.le_refl _) (.int .u8 95))
              clear h43'
              go_wp2_with fail
              go_roundw
              case rel => exact ⟨k + 1, L.set k 95, by omega, by go_num, by simpa using hL, HP2.out, HB2.out, HE2.out⟩
              case measure => simp [intOf]; omega
            · have h47' : ((b0.toNat : Int) == 47) = false := by
                rw [beq_eq_false_iff_ne]
                intro e
                exact h47 (UInt8.toNat_inj.1 (by show b0.toNat = 47; omega))
              clear h47
              go_wp2_with fail
              go_roundw
              case rel => exact ⟨k + 1, L, by omega, by go_num, hL, HP.out, HBk.out, HEk.out⟩
              case measure => simp [intOf]; omega
      · go_wp2_with fail
        go_roundw
        case rel => exact ⟨k + 1, L, by omega, by go_num, hL, HP.out, HBk.out, HEk.out⟩
        case measure => simp [intOf]; omega
    · have htx := HBk.out.text (P := Tryd.prog) cap Tryd.underlying27 Tryd.underlying5 Tryd.underlying9
      rw [hL] at htx
      have HL := Lib.hid hL
      clear hL
      go_wp2_with fail
      go_ret
      exact ⟨⟨⟨L.toArray⟩, rfl, by show L.toArray.size = _; rw [List.size_toArray, HL.out], HP.out⟩, HEk.out⟩
end Go.Proofs.YtfbmabbehiicmaaDoor
