/- lazaretref25: only, scheme, path. -/
import Derived.Test.YteeplfbaflldaaaGreatDoorRs1
set_option linter.unusedVariables false
set_option linter.unusedSimpArgs false
namespace Go.Proofs.YteeplfbaflldaaaGreatDoor.S25
open Go.RowKit T10

set_option maxHeartbeats 1600000 in
set_option maxRecDepth 100000 in
theorem ronly_any (more : ByteArray) (p : UInt8 → Bool) (hp : ∀ c, p c = inB c more.data.toList) (s : ByteArray) (w : World) (hs : s.size ≤ 1000000) (hm : more.size ≤ 1000) :
    Calls Tryz.prog 28 #[.string s, .string more] w fun e w' => e = .returned (.bool (wordB p s.data.toList)) ∧ w = w' := by
  have HP := Lib.hid hp
  clear hp
  obtain ⟨Z, hZ⟩ : ∃ Z, wordB p s.data.toList = Z := ⟨_, rfl⟩
  rw [hZ]
  have HZ := Lib.hid hZ
  clear hZ
  go_enter Tryz.func28, Tryz.ntmps28
  go_wp2_with fail
  go_loop [4, 5] (fun r i => ∃ k : Nat, k ≤ s.size ∧ r = .bool false ∧ i = .int .i64 k ∧ Hid ((s.data.toList.take k).all (wordC p) = true)) (fun _ i => s.size - (intOf i).toNat)
  case atStart => exact ⟨0, Nat.zero_le _, rfl, rfl, by show _ = _; simp⟩
  case round =>
    obtain ⟨k, hk, rfl, rfl, HK⟩ := hrel
    by_cases hlt : k < s.size
    · have hki : (k : Int) < s.size := by omega
      obtain ⟨c, hc⟩ : ∃ c, s[k] = c := ⟨_, rfl⟩
      have hg := at_get hlt
      rw [hc] at hg
      have HSN : Hid ((s.data.toList.take (k + 1)).all (wordC p) = wordC p c) := by show _ = _; rw [all_snoc hg, HK.out]; rfl
      have HNO : Hid (wordC p c = false → Z = false) := fun h => by
        rw [← HZ.out]
        unfold wordB
        rw [all_no hg h, Bool.and_false]
      have HW : Hid (wordC p c = (letterB c || inB c more.data.toList)) := by show _ = _; unfold wordC letterB; rw [HP.out]
      have HA := Lib.hid (rletter_any c w)
      have HI := Lib.hid (rin_any c more w (by omega))
      clear hg
      cases ha : letterB c with
      | true =>
        rw [ha] at HA HW
        clear ha
        go_wp2_with (go_at_call 51; refine HA.out.mono ?_; rintro e w' ⟨rfl, rfl⟩)
        go_round
        case rel => exact ⟨k + 1, by omega, rfl, by go_num, by rw [HSN.out]; exact HW.out⟩
        case measure => simp [intOf]; omega
      | false =>
        cases hi : inB c more.data.toList with
        | true =>
          rw [ha, hi] at HW
          rw [ha] at HA
          rw [hi] at HI
          clear ha hi
          go_wp2_with (first
            | (go_at_call 51; refine HA.out.mono ?_; rintro e w' ⟨rfl, rfl⟩)
            | (go_at_call 29; refine HI.out.mono ?_; rintro e w' ⟨rfl, rfl⟩))
          go_round
          case rel => exact ⟨k + 1, by omega, rfl, by go_num, by rw [HSN.out]; exact HW.out⟩
          case measure => simp [intOf]; omega
        | false =>
          rw [ha, hi] at HW
          rw [ha] at HA
          rw [hi] at HI
          have HF := Lib.hid (HNO.out HW.out)
          clear ha hi
          go_wp2_with (first
            | (go_at_call 51; refine HA.out.mono ?_; rintro e w' ⟨rfl, rfl⟩)
            | (go_at_call 29; refine HI.out.mono ?_; rintro e w' ⟨rfl, rfl⟩))
          go_ret
          exact ⟨by rw [HF.out]; rfl, rfl⟩
    · have hki : ¬ (k : Int) < s.size := by omega
      have HF : Hid (Z = !s.toList.isEmpty) := by
        show _ = _
        rw [← HZ.out, ByteArray.toList_eq]
        unfold wordB
        have h := HK.out
        rw [List.take_of_length_le (by simp; omega)] at h
        rw [h, Bool.and_true]
      go_wp2_with fail
      go_ret
      exact ⟨by rw [HF.out]; rfl, rfl⟩
theorem in_sch (c : UInt8) : schC c = inB c [43, 45, 46] := by
  have h := u8_each2 (P := fun c => schC c == inB c [43, 45, 46]) (by decide +kernel) c
  simpa using h
theorem in_b64 (c : UInt8) : b64C c = inB c [43, 47, 45, 95] := by
  have h := u8_each2 (P := fun c => b64C c == inB c [43, 47, 45, 95]) (by decide +kernel) c
  simpa using h
theorem in_dash (c : UInt8) : (c == 45) = inB c [45] := by
  have h := u8_each2 (P := fun c => (c == 45) == inB c [45]) (by decide +kernel) c
  simpa using h
theorem in_path (c : UInt8) : pathX c = inB c [63, 35, 59, 44, 34, 60, 62, 92, 94, 96, 123, 124, 125] := by
  have h := u8_each2 (P := fun c => pathX c == inB c [63, 35, 59, 44, 34, 60, 62, 92, 94, 96, 123, 124, 125]) (by decide +kernel) c
  simpa using h
theorem sch_first (c : UInt8) (h : wordC schC c = true) : alI c.toNat = !(inB c [48, 49, 50, 51, 52, 53, 54, 55, 56, 57, 43, 45, 46]) := by
  have h2 := u8_each2 (P := fun c => !(wordC schC c) || (alI c.toNat == !(inB c [48, 49, 50, 51, 52, 53, 54, 55, 56, 57, 43, 45, 46]))) (by decide +kernel) c
  rw [h] at h2
  simpa using h2
set_option maxHeartbeats 1600000 in
set_option maxRecDepth 100000 in
theorem rscheme_any (s : ByteArray) (w : World) (hs : s.size ≤ 1000000) :
    Calls Tryz.prog 12 #[.string s] w fun e w' => e = .returned (.bool (schB s.data.toList)) ∧ w = w' := by
  have HO := Lib.hid (ronly_any ⟨#[43, 45, 46]⟩ schC in_sch s w hs (by decide))
  obtain ⟨Z, hZ⟩ : ∃ Z, schB s.data.toList = Z := ⟨_, rfl⟩
  rw [hZ]
  have HZ := Lib.hid hZ
  clear hZ
  cases hw : wordB schC s.data.toList with
  | false =>
    have HF : Hid (Z = false) := by
      show _ = _
      rw [← HZ.out]; unfold schB; rw [hw, Bool.and_false]
    rw [hw] at HO
    clear hw
    go_enter Tryz.func12, Tryz.ntmps12
    go_wp2_with (go_at_call 28; refine HO.out.mono ?_; rintro e w' ⟨rfl, rfl⟩)
    go_ret
    exact ⟨by rw [HF.out]; rfl, rfl⟩
  | true =>
    have h0 : 0 < s.size := by
      have hl : s.data.toList.length = s.size := by simp
      rcases Nat.eq_zero_or_pos s.size with h | h
      · have : s.data.toList = [] := List.eq_nil_of_length_eq_zero (by omega)
        rw [this] at hw
        exact absurd hw (by decide)
      · exact h
    obtain ⟨c, hc⟩ : ∃ c, s[0] = c := ⟨_, rfl⟩
    have hg := at_get h0
    rw [hc] at hg
    have hcw : wordC schC c = true := by
      unfold wordB at hw
      simp only [Bool.and_eq_true] at hw
      exact List.all_eq_true.1 hw.2 c (List.mem_of_getElem? hg)
    have HF : Hid (Z = !(inB c [48, 49, 50, 51, 52, 53, 54, 55, 56, 57, 43, 45, 46])) := by
      show _ = _
      rw [← HZ.out, ← sch_first c hcw]
      unfold schB
      rw [hw, Bool.and_true, List.head?_eq_getElem?, hg]
    have HI := Lib.hid (rin_any c ⟨#[48, 49, 50, 51, 52, 53, 54, 55, 56, 57, 43, 45, 46]⟩ w (by decide))
    rw [hw] at HO
    have HI2 : Hid (Calls Tryz.prog 29 #[.int .u8 (c.toNat : Int), .string ⟨#[48, 49, 50, 51, 52, 53, 54, 55, 56, 57, 43, 45, 46]⟩] w fun e w' => e = .returned (.bool (inB c [48, 49, 50, 51, 52, 53, 54, 55, 56, 57, 43, 45, 46])) ∧ w = w') := HI.out
    obtain ⟨Q, hQ⟩ : ∃ Q, inB c [48, 49, 50, 51, 52, 53, 54, 55, 56, 57, 43, 45, 46] = Q := ⟨_, rfl⟩
    rw [hQ] at HF HI2
    have h01 : (0 : Int) < s.size := by omega
    clear hw hg hcw HI hQ
    go_enter Tryz.func12, Tryz.ntmps12
    go_wp2_with (first
      | (go_at_call 29; refine HI2.out.mono ?_; rintro e w' ⟨rfl, rfl⟩)
      | (go_at_call 28; refine HO.out.mono ?_; rintro e w' ⟨rfl, rfl⟩))
    go_ret
    exact ⟨by rw [HF.out]; rfl, rfl⟩
set_option maxHeartbeats 1600000 in
set_option maxRecDepth 100000 in
theorem rpath_any (s : ByteArray) (w : World) (hs : s.size ≤ 1000000) :
    Calls Tryz.prog 31 #[.string s] w fun e w' => e = .returned (.bool (s.data.toList.all pathC)) ∧ w = w' := by
  obtain ⟨Z, hZ⟩ : ∃ Z, s.data.toList.all pathC = Z := ⟨_, rfl⟩
  rw [hZ]
  have HZ := Lib.hid hZ
  clear hZ
  go_enter Tryz.func31, Tryz.ntmps31
  go_wp2_with fail
  go_loop [2, 3] (fun r i => ∃ k : Nat, k ≤ s.size ∧ r = .bool false ∧ i = .int .i64 k ∧ Hid ((s.data.toList.take k).all pathC = true)) (fun _ i => s.size - (intOf i).toNat)
  case atStart => exact ⟨0, Nat.zero_le _, rfl, rfl, by show _ = _; simp⟩
  case round =>
    obtain ⟨k, hk, rfl, rfl, HK⟩ := hrel
    by_cases hlt : k < s.size
    · have hki : (k : Int) < s.size := by omega
      obtain ⟨c, hc⟩ : ∃ c, s[k] = c := ⟨_, rfl⟩
      have hg := at_get hlt
      rw [hc] at hg
      have HSN : Hid ((s.data.toList.take (k + 1)).all pathC = pathC c) := by show _ = _; rw [all_snoc hg, HK.out]; rfl
      have HNO : Hid (pathC c = false → Z = false) := fun h => by rw [← HZ.out, all_no hg h]
      have HI := rin_any c ⟨#[63, 35, 59, 44, 34, 60, 62, 92, 94, 96, 123, 124, 125]⟩ w (by decide)
      have HI2 : Hid (Calls Tryz.prog 29 #[.int .u8 (c.toNat : Int), .string ⟨#[63, 35, 59, 44, 34, 60, 62, 92, 94, 96, 123, 124, 125]⟩] w fun e w' => e = .returned (.bool (pathX c)) ∧ w = w') := by
        rw [in_path]; exact HI
      obtain ⟨Q, hQ⟩ : ∃ Q, pathX c = Q := ⟨_, rfl⟩
      rw [hQ] at HI2
      have HPC : Hid (pathC c = (!(decide (c.toNat < 33)) && !(decide (126 < c.toNat)) && !Q)) := by show _ = _; unfold pathC; rw [hQ]
      clear hg HI hQ
      by_cases h33 : (c.toNat : Int) < 33
      · have HF : Hid (Z = false) := HNO.out (by rw [HPC.out, decide_eq_true (by omega : c.toNat < 33)]; rfl)
        go_wp2_with fail
        go_ret
        exact ⟨by rw [HF.out]; rfl, rfl⟩
      · by_cases h126 : (126 : Int) < c.toNat
        · have HF : Hid (Z = false) := HNO.out (by rw [HPC.out, decide_eq_true (by omega : 126 < c.toNat)]; simp)
          go_wp2_with fail
          go_ret
          exact ⟨by rw [HF.out]; rfl, rfl⟩
        · have HW : Hid (pathC c = !Q) := by
            show _ = _
            rw [HPC.out, decide_eq_false (by omega : ¬ c.toNat < 33), decide_eq_false (by omega : ¬ 126 < c.toNat)]
            rfl
          cases Q with
          | true =>
            have HF : Hid (Z = false) := HNO.out HW.out
            go_wp2_with (go_at_call 29; refine HI2.out.mono ?_; rintro e w' ⟨rfl, rfl⟩)
            go_ret
            exact ⟨by rw [HF.out]; rfl, rfl⟩
          | false =>
            go_wp2_with (go_at_call 29; refine HI2.out.mono ?_; rintro e w' ⟨rfl, rfl⟩)
            go_round
            case rel => exact ⟨k + 1, by omega, rfl, by go_num, by rw [HSN.out]; exact HW.out⟩
            case measure => simp [intOf]; omega
    · have hki : ¬ (k : Int) < s.size := by omega
      have HF : Hid (Z = true) := by
        show _ = _
        rw [← HZ.out]
        have h := HK.out
        rw [List.take_of_length_le (by simp; omega)] at h
        exact h
      go_wp2_with fail
      go_ret
      exact ⟨by rw [HF.out]; rfl, rfl⟩
end Go.Proofs.YteeplfbaflldaaaGreatDoor.S25
