/- lazaretlaw10.plain, written. -/
import Derived.Test.YteeplfbaflldaaaDoorTgE
set_option linter.unusedVariables false
set_option linter.unusedSimpArgs false
namespace Go.Proofs.YteeplfbaflldaaaDoor.T10
open Go.RowKit R9

theorem conv_one (w : World) (x : UInt8) : (convert 47 9 (.slice (some ⟨w.heap.size, 0, none⟩) 1 1)).run Tryd.prog (w.alloc (.cells #[.int .u8 (x.toNat : Int)] 5)) = .ok (.string ⟨#[x]⟩) (w.alloc (.cells #[.int .u8 (x.toNat : Int)] 5)) := by
  refine run_convert_bytes_back _ 47 9 5 ⟨w.heap.size, 0, none⟩ 1 [x] Tryd.underlying47 Tryd.underlying5 Tryd.underlying9 fun j hj => ?_
  have hj0 : j = 0 := by simp at hj; omega
  subst hj0
  simp [Addr.add]
theorem conv_two (w : World) (x : UInt8) : (convert 47 9 (.slice (some ⟨w.heap.size + 1, 0, none⟩) 1 1)).run Tryd.prog ((w.alloc (.cells #[.int .u8 (x.toNat : Int)] 5)).alloc (.cells #[.int .u8 (x.toNat : Int)] 5)) = .ok (.string ⟨#[x]⟩) ((w.alloc (.cells #[.int .u8 (x.toNat : Int)] 5)).alloc (.cells #[.int .u8 (x.toNat : Int)] 5)) := by
  have h := conv_one (w.alloc (.cells #[.int .u8 (x.toNat : Int)] 5)) x
  rw [show (w.alloc (.cells #[.int .u8 (x.toNat : Int)] 5)).heap.size = w.heap.size + 1 by simp] at h
  exact h
theorem conv_111 (w : World) : (convert 47 9 (.slice (some ⟨w.heap.size, 0, none⟩) 1 1)).run Tryd.prog (w.alloc (.cells #[.int .u8 111] 5)) = .ok (.string ⟨#[111]⟩) (w.alloc (.cells #[.int .u8 111] 5)) := conv_one w 111
theorem conv_1112 (w : World) : (convert 47 9 (.slice (some ⟨w.heap.size + 1, 0, none⟩) 1 1)).run Tryd.prog ((w.alloc (.cells #[.int .u8 111] 5)).alloc (.cells #[.int .u8 111] 5)) = .ok (.string ⟨#[111]⟩) ((w.alloc (.cells #[.int .u8 111] 5)).alloc (.cells #[.int .u8 111] 5)) := conv_two w 111
theorem app_data (a b : ByteArray) : (a ++ b).data.toList = a.data.toList ++ b.data.toList := by
  rw [ByteArray.data_append, Array.toList_append]
set_option maxHeartbeats 1600000 in
set_option maxRecDepth 100000 in
theorem plain_any (s : ByteArray) (w : World) (hs : s.size ≤ 1000) :
    Calls Tryd.prog 15 #[.string s] w fun e w' => e = .returned (.string ⟨(plainL s.data.toList).toArray⟩) ∧ Below w.heap.size w w' := by
  go_enter Tryd.func15, Tryd.ntmps15
  go_wp2_with fail
  go_loopw [3, 4] (fun v i wr => ∃ (k : Nat) (O : ByteArray), k ≤ s.size ∧ O.size = k + 1 ∧ i = .int .i64 k ∧ v = .string O ∧ Hid (O.data.toList = plainL (s.data.toList.take k)) ∧ Hid (Below w.heap.size w wr)) (fun _ i _ => s.size - (intOf i).toNat)
  case atStart => exact ⟨0, ⟨#[110]⟩, Nat.zero_le _, rfl, rfl, rfl, rfl, Below.refl _ _⟩
  case round =>
    obtain ⟨k, O, hk, hO, rfl, rfl, HO, HB⟩ := hrel
    by_cases hlt : k < s.size
    · have hki : (k : Int) < s.size := by omega
      have HT := Lib.hid (take_snoc s k hlt)
      obtain ⟨c, hc⟩ : ∃ c, s[k] = c := ⟨_, rfl⟩
      rw [hc] at HT
      have hv := (plB_ok c).2.2.2.2.symm
      obtain ⟨x, hx⟩ : ∃ x, plB c = x := ⟨_, rfl⟩
      rw [hx] at hv
      have HX := Lib.hid hx
      have hcv := conv_one wr x
      have hxs : (⟨#[x]⟩ : ByteArray).size = 1 := rfl
      have hOs : O.size ≤ 1001 := by omega
      obtain ⟨O2, hO2⟩ : ∃ J, O ++ ⟨#[x]⟩ = J := ⟨_, rfl⟩
      have HO2 := Lib.hid hO2
      have hO2s : Hid (O2.size = k + 2) := by show _ = _; rw [← hO2, ByteArray.size_append]; omega
      clear hx hO2
      go_wp2_with fail
      go_roundw
      case rel =>
        refine ⟨k + 1, O2, by omega, hO2s.out, by go_num, by rw [HO2.out], ?_, HB.out.alloc HB.out.size _⟩
        show _ = _
        rw [← HO2.out, app_data, HO.out, HT.out]
        unfold plainL
        rw [List.map_append, ← HX.out]
        rfl
      case measure => simp [intOf]; omega
    · have hki : ¬ (k : Int) < s.size := by omega
      have HF : Hid (O = ⟨(plainL s.data.toList).toArray⟩) := by
        show _ = _
        have h := HO.out
        rw [List.take_of_length_le (by simp; omega)] at h
        rw [← h]
      go_wp2_with fail
      go_ret
      exact ⟨by rw [HF.out]; rfl, HB.out⟩
set_option maxHeartbeats 3200000 in
set_option maxRecDepth 100000 in
theorem written_any (s : ByteArray) (w : World) (hs : s.size ≤ 1000) :
    Calls Tryd.prog 16 #[.string s] w fun e w' => e = .returned (.tuple #[.string ⟨(34 :: (escL s.data.toList ++ [34])).toArray⟩, .string ⟨(oL s.data.toList).toArray⟩]) ∧ Below w.heap.size w w' := by
  go_enter Tryd.func16, Tryd.ntmps16
  go_wp2_with fail
  go_loopw [4, 5, 6] (fun v u i wr => ∃ (k : Nat) (O V : ByteArray), k ≤ s.size ∧ O.size ≤ 6 * k ∧ V.size = k ∧ v = .string O ∧ u = .string V ∧ i = .int .i64 k ∧ Hid (O.data.toList = escL (s.data.toList.take k)) ∧ Hid (V.data.toList = oL (s.data.toList.take k)) ∧ Hid (Below w.heap.size w wr)) (fun _ _ i _ => s.size - (intOf i).toNat)
  case atStart => exact ⟨0, ⟨#[]⟩, ⟨#[]⟩, Nat.zero_le _, Nat.le_refl _, rfl, rfl, rfl, rfl, rfl, rfl, Below.refl _ _⟩
  case round =>
    obtain ⟨k, O, V, hk, hO, hV, rfl, rfl, rfl, HO, HV, HB⟩ := hrel
    by_cases hlt : k < s.size
    · have hki : (k : Int) < s.size := by omega
      have HT := Lib.hid (take_snoc s k hlt)
      obtain ⟨c, hc⟩ : ∃ c, s[k] = c := ⟨_, rfl⟩
      rw [hc] at HT
      have HE : Hid (escL (s.data.toList.take (k + 1)) = escL (s.data.toList.take k) ++ escB c) := by
        show _ = _
        rw [HT.out]; simp [escL]
      have HE2 : Hid (oL (s.data.toList.take (k + 1)) = oL (s.data.toList.take k) ++ [oB c]) := by
        show _ = _
        rw [HT.out]; simp [oL]
      have hOs : O.size ≤ 6000 := by omega
      by_cases h0 : c = 0
      · have t0 := byte_is (z := 0) h0 rfl
        rw [show escB c = [111] by rw [h0]; rfl] at HE
        rw [show oB c = 111 by rw [h0]; rfl] at HE2
        clear h0
        have hcv := conv_111 wr
        have hcv2 := conv_1112 wr
        obtain ⟨V2, hV2⟩ : ∃ J, V ++ ⟨#[111]⟩ = J := ⟨_, rfl⟩
        obtain ⟨O2, hO2⟩ : ∃ J, O ++ ⟨#[111]⟩ = J := ⟨_, rfl⟩
        have HV2 := Lib.hid hV2
        have HO2 := Lib.hid hO2
        have hxs : (⟨#[111]⟩ : ByteArray).size = 1 := rfl
        have hes : (⟨#[111]⟩ : ByteArray).size = 1 := rfl
        have hO2s : Hid (O2.size ≤ 6 * (k + 1)) := by show _ ≤ _; rw [← hO2, ByteArray.size_append]; omega
        have hV2s : Hid (V2.size = k + 1) := by show _ = _; rw [← hV2, ByteArray.size_append]; omega
        clear hV2 hO2
        go_wp2_with fail
        go_roundw
        case rel =>
          refine ⟨k + 1, O2, V2, by omega, hO2s.out, hV2s.out, by rw [HO2.out], by rw [HV2.out], by go_num, ?_, ?_, (HB.out.alloc HB.out.size _).alloc (by have := HB.out.size; simp; omega) _⟩
          · show _ = _
            rw [← HO2.out, app_data, HO.out, HE.out]
            try rfl
          · show _ = _
            rw [← HV2.out, app_data, HV.out, HE2.out]
            try rfl
        case measure => simp [intOf]; omega
      · have t0 := byte_not (z := 0) h0 rfl
        rw [show oB c = c by unfold oB; rw [if_neg h0]] at HE2
        by_cases h38 : c = 38
        · have t1 := byte_is (z := 38) h38 rfl
          rw [show escB c = [38, 97, 109, 112, 59] by rw [h38]; rfl] at HE
          clear h0 h38
          have hcv := conv_one wr c
          obtain ⟨V2, hV2⟩ : ∃ J, V ++ ⟨#[c]⟩ = J := ⟨_, rfl⟩
          obtain ⟨O2, hO2⟩ : ∃ J, O ++ ⟨#[38, 97, 109, 112, 59]⟩ = J := ⟨_, rfl⟩
          have HV2 := Lib.hid hV2
          have HO2 := Lib.hid hO2
          have hxs : (⟨#[c]⟩ : ByteArray).size = 1 := rfl
          have hes : (⟨#[38, 97, 109, 112, 59]⟩ : ByteArray).size = 5 := rfl
          have hO2s : Hid (O2.size ≤ 6 * (k + 1)) := by show _ ≤ _; rw [← hO2, ByteArray.size_append]; omega
          have hV2s : Hid (V2.size = k + 1) := by show _ = _; rw [← hV2, ByteArray.size_append]; omega
          clear hV2 hO2
          go_wp2_with fail
          go_roundw
          case rel =>
            refine ⟨k + 1, O2, V2, by omega, hO2s.out, hV2s.out, by rw [HO2.out], by rw [HV2.out], by go_num, ?_, ?_, HB.out.alloc HB.out.size _⟩
            · show _ = _
              rw [← HO2.out, app_data, HO.out, HE.out]
              try rfl
            · show _ = _
              rw [← HV2.out, app_data, HV.out, HE2.out]
              try rfl
          case measure => simp [intOf]; omega
        · have t1 := byte_not (z := 38) h38 rfl
          by_cases h34 : c = 34
          · have t2 := byte_is (z := 34) h34 rfl
            rw [show escB c = [38, 113, 117, 111, 116, 59] by rw [h34]; rfl] at HE
            clear h0 h38 h34
            have hcv := conv_one wr c
            obtain ⟨V2, hV2⟩ : ∃ J, V ++ ⟨#[c]⟩ = J := ⟨_, rfl⟩
            obtain ⟨O2, hO2⟩ : ∃ J, O ++ ⟨#[38, 113, 117, 111, 116, 59]⟩ = J := ⟨_, rfl⟩
            have HV2 := Lib.hid hV2
            have HO2 := Lib.hid hO2
            have hxs : (⟨#[c]⟩ : ByteArray).size = 1 := rfl
            have hes : (⟨#[38, 113, 117, 111, 116, 59]⟩ : ByteArray).size = 6 := rfl
            have hO2s : Hid (O2.size ≤ 6 * (k + 1)) := by show _ ≤ _; rw [← hO2, ByteArray.size_append]; omega
            have hV2s : Hid (V2.size = k + 1) := by show _ = _; rw [← hV2, ByteArray.size_append]; omega
            clear hV2 hO2
            go_wp2_with fail
            go_roundw
            case rel =>
              refine ⟨k + 1, O2, V2, by omega, hO2s.out, hV2s.out, by rw [HO2.out], by rw [HV2.out], by go_num, ?_, ?_, HB.out.alloc HB.out.size _⟩
              · show _ = _
                rw [← HO2.out, app_data, HO.out, HE.out]
                try rfl
              · show _ = _
                rw [← HV2.out, app_data, HV.out, HE2.out]
                try rfl
            case measure => simp [intOf]; omega
          · have t2 := byte_not (z := 34) h34 rfl
            rw [show escB c = [c] by unfold escB; rw [if_neg h0, if_neg h38, if_neg h34]] at HE
            clear h0 h38 h34
            have hcv := conv_one wr c
            have hcv2 := conv_two wr c
            obtain ⟨V2, hV2⟩ : ∃ J, V ++ ⟨#[c]⟩ = J := ⟨_, rfl⟩
            obtain ⟨O2, hO2⟩ : ∃ J, O ++ ⟨#[c]⟩ = J := ⟨_, rfl⟩
            have HV2 := Lib.hid hV2
            have HO2 := Lib.hid hO2
            have hxs : (⟨#[c]⟩ : ByteArray).size = 1 := rfl
            have hes : (⟨#[c]⟩ : ByteArray).size = 1 := rfl
            have hO2s : Hid (O2.size ≤ 6 * (k + 1)) := by show _ ≤ _; rw [← hO2, ByteArray.size_append]; omega
            have hV2s : Hid (V2.size = k + 1) := by show _ = _; rw [← hV2, ByteArray.size_append]; omega
            clear hV2 hO2
            go_wp2_with fail
            go_roundw
            case rel =>
              refine ⟨k + 1, O2, V2, by omega, hO2s.out, hV2s.out, by rw [HO2.out], by rw [HV2.out], by go_num, ?_, ?_, (HB.out.alloc HB.out.size _).alloc (by have := HB.out.size; simp; omega) _⟩
              · show _ = _
                rw [← HO2.out, app_data, HO.out, HE.out]
                try rfl
              · show _ = _
                rw [← HV2.out, app_data, HV.out, HE2.out]
                try rfl
            case measure => simp [intOf]; omega
    · have hki : ¬ (k : Int) < s.size := by omega
      have hOs : O.size ≤ 6000 := by omega
      obtain ⟨G1, hG1⟩ : ∃ G, (⟨#[34]⟩ : ByteArray) ++ O = G := ⟨_, rfl⟩
      obtain ⟨G2, hG2⟩ : ∃ G, G1 ++ (⟨#[34]⟩ : ByteArray) = G := ⟨_, rfl⟩
      have h1s : (⟨#[34]⟩ : ByteArray).size = 1 := rfl
      have hGs : G1.size ≤ 7000 := by rw [← hG1, ByteArray.size_append]; omega
      have hfull : s.data.toList.take k = s.data.toList := List.take_of_length_le (by simp; omega)
      have HF : Hid (G2 = ⟨(34 :: (escL s.data.toList ++ [34])).toArray⟩) := by
        show _ = _
        have h := HO.out
        rw [hfull] at h
        rw [← h]
        apply ByteArray.ext
        apply Array.ext'
        rw [← hG2, ← hG1]
        simp [ByteArray.data_append]
      have HF2 : Hid (V = ⟨(oL s.data.toList).toArray⟩) := by
        show _ = _
        have h := HV.out
        rw [hfull] at h
        rw [← h]
      clear hfull
      go_wp2_with fail
      go_ret2
      exact ⟨by rw [HF.out, HF2.out]; rfl, HB.out⟩
end Go.Proofs.YteeplfbaflldaaaDoor.T10
