/- lazaretlaw25.low: A to Z as a to z. -/
import Derived.Test.YteeplfbaflldaaaDoorLists
import Derived.Test.YteeplfbaflldaaaDoorRow
set_option linter.unusedVariables false
set_option linter.unusedSimpArgs false
namespace Go.Proofs.YteeplfbaflldaaaDoor.S25
open Go.RowKit

/-- The first k bytes in lower case. -/
def lowK (l : List UInt8) (k : Nat) : List UInt8 := lowL (l.take k) ++ l.drop k
theorem lowK_len (l : List UInt8) (k : Nat) : (lowK l k).length = l.length := by
  unfold lowK lowL
  rw [List.length_append, List.length_map, List.length_take, List.length_drop]
  omega
theorem lowK_at {l : List UInt8} {k : Nat} {c : UInt8} (h : l[k]? = some c) : (lowK l k)[k]? = some c ∧ lowK l (k + 1) = (lowK l k).set k (lowB c) := by
  obtain ⟨hk, hc⟩ := List.getElem?_eq_some_iff.1 h
  have e1 : (lowL (l.take k)).length = k := by unfold lowL; rw [List.length_map, List.length_take]; omega
  have e2 : l.drop k = c :: l.drop (k + 1) := by rw [List.drop_eq_getElem_cons hk, hc]
  unfold lowK
  constructor
  · rw [List.getElem?_append_right (by omega), e1, e2]; simp
  · rw [List.set_append_right _ _ (by omega), e1, e2, List.take_add_one, h]
    simp [lowL]
set_option maxHeartbeats 1600000 in
set_option maxRecDepth 100000 in
theorem llow_any (s : ByteArray) (w : World) (hs : s.size ≤ 1000000) :
    Calls Tryd.prog 21 #[.string s] w fun e w' => e = .returned (.string ⟨(lowL s.data.toList).toArray⟩) ∧ Below w.heap.size w w' := by
  obtain ⟨cap, w2, e2, hB, hbel, hsz2⟩ := bytes_blk (P := Tryd.prog) w 9 47 5 s Tryd.underlying9 Tryd.underlying47 Tryd.underlying5
  have hsl : s.data.toList.length = s.size := by simp
  have E2 := Lib.hid e2
  have HB := Lib.hid hB
  have HE := Lib.hid hbel
  have HSL := Lib.hid hsl
  clear e2 hB hbel hsl
  go_enter Tryd.func21, Tryd.ntmps21
  go_wp2_with fail
  rw [E2.out]
  go_wp2_with fail
  go_loopw [4] (fun i wr => ∃ (k : Nat), k ≤ s.size ∧ i = .int .i64 k ∧ Hid (Blk wr w.heap.size 5 (lowK s.data.toList k)) ∧ Hid (Below w.heap.size w wr)) (fun i _ => s.size - (intOf i).toNat)
  case atStart => exact ⟨0, Nat.zero_le _, rfl, HB.out, HE.out⟩
  case round =>
    obtain ⟨k, hk, rfl, HBk, HEk⟩ := hrel
    by_cases hlt : k < s.size
    · have hki : (k : Int) < s.size := by omega
      obtain ⟨c, hc⟩ : ∃ c, s.data.toList[k]? = some c := ⟨_, List.getElem?_eq_getElem (by rw [HSL.out]; exact hlt)⟩
      have hk1 := lowK_at hc
      have cc := HBk.out.cell hk1.1
      have ff := HBk.out.free (k := k) (by rw [lowK_len, HSL.out]; exact hlt)
      have HN := Lib.hid hk1.2
      clear hk1 hc
      cases hu : isUp c with
      | true =>
        have hr := (isUp_iff c).1 hu
        have h65 : (65 : Int) ≤ c.toNat := by omega
        have h90 : (c.toNat : Int) ≤ 90 := by omega
        have hlow := lowB_up hu
        obtain ⟨d, hd⟩ : ∃ d, lowB c = d := ⟨_, rfl⟩
        rw [hd] at hlow HN
        have hadd : (c.toNat : Int) + 32 = d.toNat := by omega
        have HB2 := Lib.hid (HBk.out.set (k := k) d)
        have HE2 := Lib.hid (HEk.out.setCell (p := ⟨w.heap.size, k, none⟩) (Nat.le_refl _) (.int .u8 (d.toNat : Int)))
        have hd8 : (d.toNat : Int) < 256 := by have := d.toNat_lt; omega
        clear hu hr hd hlow
        go_wp2_with fail
        go_roundw
        case rel => exact ⟨k + 1, by omega, by go_num, by rw [HN.out]; exact HB2.out, HE2.out⟩
        case measure => simp [intOf]; omega
      | false =>
        have hl2 := lowB_not hu
        have HN2 : Hid (lowK s.data.toList (k + 1) = lowK s.data.toList k) := by
          show _ = _
          rw [HN.out, hl2]
          apply List.ext_getElem?
          intro i
          rw [List.getElem?_set]
          split
          · rename_i e
            subst e
            have hc2 : (lowK s.data.toList k)[k]? = some c := by
              obtain ⟨c', hc'⟩ : ∃ c, s.data.toList[k]? = some c := ⟨_, List.getElem?_eq_getElem (by rw [HSL.out]; exact hlt)⟩
              have h1 := (lowK_at hc').1
              have h2 := HBk.out.cell h1
              rw [cc] at h2
              injection h2 with h2
              injection h2 with _ h2
              have : c = c' := UInt8.toNat_inj.1 (by omega)
              rw [this]; exact h1
            rw [hc2]
            simp [lowK_len, HSL.out, hlt]
          · rfl
        have hno : ¬ ((65 : Int) ≤ c.toNat ∧ (c.toNat : Int) ≤ 90) := by
          intro h
          rw [(isUp_iff c).2 (by omega)] at hu
          cases hu
        clear hu hl2
        by_cases h65 : (65 : Int) ≤ c.toNat
        · have h90 : ¬ (c.toNat : Int) ≤ 90 := fun h => hno ⟨h65, h⟩
          clear hno
          go_wp2_with fail
          go_roundw
          case rel => exact ⟨k + 1, by omega, by go_num, by rw [HN2.out]; exact HBk.out, HEk.out⟩
          case measure => simp [intOf]; omega
        · clear hno
          go_wp2_with fail
          go_roundw
          case rel => exact ⟨k + 1, by omega, by go_num, by rw [HN2.out]; exact HBk.out, HEk.out⟩
          case measure => simp [intOf]; omega
    · have hki : ¬ (k : Int) < s.size := by omega
      have htx := HBk.out.text (P := Tryd.prog) cap Tryd.underlying47 Tryd.underlying5 Tryd.underlying9
      have hkk : k = s.size := by omega
      have hfin : lowK s.data.toList k = lowL s.data.toList := by
        unfold lowK
        rw [List.take_of_length_le (by rw [HSL.out]; omega), List.drop_of_length_le (by rw [HSL.out]; omega), List.append_nil]
      rw [lowK_len, HSL.out, hfin] at htx
      clear hfin
      go_wp2_with fail
      go_ret
      exact ⟨by exact rfl, HEk.out⟩
end Go.Proofs.YteeplfbaflldaaaDoor.S25
