/- base.Decode. -/
import Derived.Test.YtfbmabbehiicmaaDoorB64d
set_option linter.unusedVariables false
namespace Go.Proofs.YtfbmabbehiicmaaDoor
open Go.RowKit Go.Maps

theorem zeroInt (w : World) : (zeroValue 3).run Tryd.prog w = .ok (.int .i64 0) w := by kernel_rfl
theorem unpadded_any (s : ByteArray) (w : World) (hs : s.size ≤ 1073741824) :
    Calls Tryd.prog 33 #[.string s] w fun e w' => e = .returned (.string ⟨(unpadE s.data.toList).toArray⟩) ∧ w = w' := by
  have hl : s.data.toList.length = s.size := by simp
  by_cases h : s.size % 4 = 0
  · have hq : ((s.size : Int) % 4 != 0) = false := by simp; omega
    have HR : Hid (Lib.trimSuffix (⟨(Lib.trimSuffix s.data.toList (⟨#[61]⟩ : ByteArray).data.toList).toArray⟩ : ByteArray).data.toList (⟨#[61]⟩ : ByteArray).data.toList = unpadE s.data.toList) := by
      show _ = unpadE s.data.toList
      unfold unpadE
      rw [if_neg (by rw [hl]; simpa using h)]
    have hT : (⟨(Lib.trimSuffix s.data.toList (⟨#[61]⟩ : ByteArray).data.toList).toArray⟩ : ByteArray).size ≤ s.size := by
      show (Lib.trimSuffix s.data.toList _).toArray.size ≤ _
      rw [List.size_toArray]
      unfold Lib.trimSuffix
      split
      · simp
      · simp
    clear h hl
    go_enter Tryd.func33, Tryd.ntmps33
    go_wp2_with fail
    refine (Tryd.strings_TrimSuffix s _ _ (by omega)).mono ?_
    rintro e w' ⟨rfl, rfl⟩
    go_wp2_with fail
    refine (Tryd.strings_TrimSuffix _ _ _ (by omega)).mono ?_
    rintro e w' ⟨rfl, rfl⟩
    rw [HR.out]
    go_wp2_with fail
    go_ret
    exact ⟨rfl, rfl⟩
  · have hq : ((s.size : Int) % 4 != 0) = true := by simp; omega
    have HR : Hid ((⟨(unpadE s.data.toList).toArray⟩ : ByteArray) = s) := by
      show (⟨(unpadE s.data.toList).toArray⟩ : ByteArray) = s
      unfold unpadE
      rw [if_pos (by rw [hl]; exact h)]
    clear h hl
    go_enter Tryd.func33, Tryd.ntmps33
    go_wp2_with fail
    go_ret
    rw [HR.out]
    exact ⟨rfl, rfl⟩

set_option maxHeartbeats 4000000 in
set_option maxRecDepth 100000 in
theorem bdecode_any (s0 : ByteArray) (w : World) (hs0 : s0.size ≤ 1073741824) :
    Calls Tryd.prog 18 #[.string s0] w fun e w' => DecRes (decE s0.data.toList) e ∧ Below w.heap.size w w' := by
  obtain ⟨s, hsd⟩ : ∃ s : ByteArray, (⟨(unpadE s0.data.toList).toArray⟩ : ByteArray) = s := ⟨_, rfl⟩
  have hsl : Hid (s.data.toList = unpadE s0.data.toList) := by show s.data.toList = _; rw [← hsd]
  have hs : s.size ≤ 1073741824 := by
    have h1 := unpad_len s0.data.toList
    have h2 : s.data.toList.length = s.size := by simp
    rw [hsl.out] at h2
    simp at h1
    omega
  have HSD := Lib.hid hsd
  clear hsd
  have hl : Hid (s.data.toList.length = s.size) := by show s.data.toList.length = s.size; simp
  by_cases h1 : s.size % 4 = 1
  · have hq : ((s.size : Int) % 4 == 1) = true := by simp; omega
    have HR : Hid (decE s0.data.toList = none) := by
      show decE s0.data.toList = none
      unfold decE
      rw [← hsl.out, hl.out, if_pos h1]
    clear h1
    go_enter Tryd.func18, Tryd.ntmps18
    go_wp2_with fail
    refine (unpadded_any s0 _ hs0).mono ?_
    rintro e w' ⟨rfl, rfl⟩
    rw [HSD.out]
    go_wp2_with fail
    go_ret2
    rw [HR.out]
    exact ⟨decRes_none, Below.refl _ _⟩
  · have hq : ((s.size : Int) % 4 == 1) = false := by simp; omega
    have HR : Hid (decE s0.data.toList = decA 0 0 s.data.toList) := by
      show decE s0.data.toList = _
      unfold decE
      rw [← hsl.out, hl.out, if_neg h1]
    clear h1
    go_enter Tryd.func18, Tryd.ntmps18
    go_wp2_with fail
    refine (unpadded_any s0 _ hs0).mono ?_
    rintro e w' ⟨rfl, rfl⟩
    rw [HSD.out]
    go_wp2_with fail
    refine (worth_any _).mono ?_
    rintro e w1 ⟨rfl, hm1, b1⟩
    go_wp2_with fail
    have hw1 : w.heap.size < w1.heap.size := hm1.lt
    go_loopw [6, 7, 20] (fun b h i wr => ∃ (k B H : Nat) (o : List UInt8), k ≤ s.size ∧ i = .int .i64 k ∧ b = .int .i64 B ∧ h = .int .i64 H ∧ B < 65536 ∧ (H = 0 ∨ H = 6 ∨ H = 4 ∨ H = 2) ∧ o.length ≤ k ∧ Hid (decA 0 0 s.data.toList = (decA B H (s.data.toList.drop k)).map fun t => o ++ t) ∧ IsB w1.heap.size w1.heap.size (Lib.byteCells o) wr ∧ Below w1.heap.size w1 wr) (fun _ _ i _ => s.size - (intOf i).toNat)
    case atStart =>
      refine ⟨0, 0, 0, [], Nat.zero_le _, rfl, rfl, rfl, by decide, .inl rfl, Nat.le_refl _, ?_, Lib.IsBuilderF.of (Lib.fresh_isBuilder 41 5 w1), (Below.refl _ w1).alloc (Nat.le_refl _) _⟩
      show _ = Option.map (fun t => [] ++ t) _
      simp
    case round =>
      obtain ⟨k, B, H, o, hk, rfl, rfl, rfl, hB, hH, ho, HO, hI, hbb⟩ := hrel
      have hsz2 := hbb.size
      have hmr : wr.ownsMap Tryd.prog 5 (plainElem Tryd.prog 3) w.heap.size 66 (worthD 64) := hm1.kept (row := none) ⟨hbb.os, hbb.tape, hbb.output, hbb.size, fun j hj _ => hbb.block j hj⟩ (by simp)
      by_cases hlt : k < s.size
      · have hc8 := s[k].toNat_lt
        have HH := Lib.hid (worth_has ⟨s[k].toNat, hc8⟩)
        have HA := Lib.hid (worth_at ⟨s[k].toNat, hc8⟩)
        have hkey := Lib.hid (keyOf_int_mk (P := Tryd.prog) Tryd.underlying5 (wf_byte s[k]))
        cases hv : valN s[k].toNat with
        | none =>
          have HN : Hid (decA 0 0 s.data.toList = none) := by
            show decA 0 0 s.data.toList = none
            rw [HO.out, u_dropB hlt, decA_bad hv]
            rfl
          have hhas : Maps.has (worthD 64) (.int .u8 (s[k].toNat : Int)) = false := by
            have := HH.out
            rw [show (⟨s[k].toNat, hc8⟩ : Fin 256).val = s[k].toNat from rfl, hv] at this
            exact this
          have HV := Lib.hid hv
          clear hv
          go_wp2_with (at_lookup; refine wpList_lookup_own_ok_int (H := Unit) _ rfl _ _ 52 rfl 5 3 .i64 lawByte Tryd.underlying52 Tryd.underlying3 (zeroInt _) w.heap.size 66 _ rfl hmr _ _ rfl hkey.out ?_; intro c hat hwc)
          go_ret2
          rw [HR.out, HN.out]
          exact ⟨decRes_none, b1.trans (hbb.mono b1.size)⟩
        | some v =>
          have hv64 := valN_lt hv
          have hhas : Maps.has (worthD 64) (.int .u8 (s[k].toNat : Int)) = true := by
            have := HH.out
            rw [show (⟨s[k].toNat, hc8⟩ : Fin 256).val = s[k].toNat from rfl, hv] at this
            exact this
          have hnum : Hid (isNum ((worthD 64).atKey (.int .u8 (s[k].toNat : Int)) (.lit (.int .i64 0))) (v : Int) = true) := by
            have := HA.out
            rw [show (⟨s[k].toNat, hc8⟩ : Fin 256).val = s[k].toNat from rfl, hv] at this
            exact this
          have HST := Lib.hid (stepD_int B v hB hv64)
          have hBl := stepD_lt B v
          have hD0 : Hid (H = 0 → decA 0 0 s.data.toList = (decA (stepD B v) 6 (s.data.toList.drop (k + 1))).map fun t => o ++ t) := by
            intro h0
            rw [HO.out, u_dropB hlt, h0, decA_cons0 hv]
          have hD1 : Hid (H ≠ 0 → decA 0 0 s.data.toList = (decA (stepD B v) (H - 2) (s.data.toList.drop (k + 1))).map fun t => (o ++ [UInt8.ofNat (stepD B v / 2 ^ (H - 2) % 256)]) ++ t) := by
            intro h0
            rw [HO.out, u_dropB hlt, decA_cons hv h0, Option.map_map]
            congr 1
            funext t
            simp
          have HV := Lib.hid hv
          clear hv
          generalize hB2 : stepD B v = B2 at *
          clear hB2
          have hbyte : Hid (∀ (z : Int) (q : Nat), z = ((B2 / q % 256 : Nat) : Int) → Lib.byteCells o ++ [Value.int .u8 z] = Lib.byteCells (o ++ [UInt8.ofNat (B2 / q % 256)])) := fun z q h => byte_cells o z (B2 / q) h
          have hst2 : bits .and .i64 (bits .or .i64 ((B : Int) * 64) (v : Int)) 65535 = (B2 : Int) := HST.out
          obtain hH0 | hH0 | hH0 | hH0 := hH
          · subst hH0
            have HD := Lib.hid (hD0.out rfl)
            clear hD0 hD1
            go_wp2_with (at_lookup; refine wpList_lookup_own_ok_int (H := Unit) _ rfl _ _ 52 rfl 5 3 .i64 lawByte Tryd.underlying52 Tryd.underlying3 (zeroInt _) w.heap.size 66 _ rfl hmr _ _ rfl hkey.out ?_; intro c hat hwc; obtain rfl : c = (v : Int) := isNum_eq hnum.out hat; clear hat hwc)
            go_roundw
            case rel => exact ⟨k + 1, B2, 6, o, by omega, by go_num, rfl, by go_num, by omega, by omega, by omega, HD.out, hI, hbb⟩
            case measure => simp [intOf]; omega
          all_goals
            subst hH0
            have HD := Lib.hid (hD1.out (by decide))
            clear hD0 hD1
            go_wp2_with (at_lookup; refine wpList_lookup_own_ok_int (H := Unit) _ rfl _ _ 52 rfl 5 3 .i64 lawByte Tryd.underlying52 Tryd.underlying3 (zeroInt _) w.heap.size 66 _ rfl hmr _ _ rfl hkey.out ?_; intro c hat hwc; obtain rfl : c = (v : Int) := isNum_eq hnum.out hat; clear hat hwc)
            have hol : (Lib.byteCells o).length ≤ k := by rw [Lib.byteCells_length]; exact ho
            refine (writeByte_k w1.heap.size w1.heap.size (Lib.byteCells o) _ _ hI (by omega) hsz2).mono ?_
            rintro e w3 ⟨rfl, h3, b3, _⟩
            first
              | (have h3' : IsB w1.heap.size w1.heap.size (Lib.byteCells (o ++ [UInt8.ofNat (B2 / 2 ^ (6 - 2) % 256)])) w3 := by rw [← hbyte.out ((B2 : Int) / 16 % 256) (2 ^ (6 - 2)) (by omega)]; exact h3)
              | (have h3' : IsB w1.heap.size w1.heap.size (Lib.byteCells (o ++ [UInt8.ofNat (B2 / 2 ^ (4 - 2) % 256)])) w3 := by rw [← hbyte.out ((B2 : Int) / 4 % 256) (2 ^ (4 - 2)) (by omega)]; exact h3)
              | (have h3' : IsB w1.heap.size w1.heap.size (Lib.byteCells (o ++ [UInt8.ofNat (B2 / 2 ^ (2 - 2) % 256)])) w3 := by rw [← hbyte.out ((B2 : Int) % 256) (2 ^ (2 - 2)) (by omega)]; exact h3)
            clear h3
            go_wp2_with fail
            go_roundw
            case rel => first
              | exact ⟨k + 1, B2, 4, _, by omega, by go_num, rfl, by go_num, by omega, by omega, by rw [List.length_append]; simp; omega, HD.out, h3', hbb.trans b3⟩
              | exact ⟨k + 1, B2, 2, _, by omega, by go_num, rfl, by go_num, by omega, by omega, by rw [List.length_append]; simp; omega, HD.out, h3', hbb.trans b3⟩
              | exact ⟨k + 1, B2, 0, _, by omega, by go_num, rfl, by go_num, by omega, by omega, by rw [List.length_append]; simp; omega, HD.out, h3', hbb.trans b3⟩
            case measure => simp [intOf]; omega
      · have hend : s.data.toList.drop k = [] := List.drop_eq_nil_of_le (by simp; omega)
        have HO2 := HO.out
        rw [hend, decA] at HO2
        clear hend HO
        by_cases hz : B % 2 ^ H = 0
        · rw [if_pos hz] at HO2
          have HR2 : Hid (decA 0 0 s.data.toList = some o) := by
            show _ = some o
            rw [HO2]
            simp
          have hmk := Lib.hid (mask_low B H hB (by omega))
          have HZ := Lib.hid hz
          clear HO2 hz
          obtain rfl | rfl | rfl | rfl := hH
          · have hm : bits .and .i64 (B : Int) 0 = 0 := by
              have h := hmk.out
              rw [HZ.out] at h
              exact h
            go_wp2_with fail
            refine (Tryd.Builder_String_any_k w1.heap.size w1.heap.size o _ hI (by omega)).mono ?_
            rintro e w3 ⟨rfl, _, b3, _⟩
            go_wp2_with fail
            go_ret2
            rw [HR.out, HR2.out]
            exact ⟨decRes_some o, (b1.trans (hbb.mono b1.size)).trans (b3.mono (by have := b1.size; omega))⟩
          · have hm : bits .and .i64 (B : Int) 63 = 0 := by
              have h := hmk.out
              rw [HZ.out] at h
              exact h
            go_wp2_with fail
            refine (Tryd.Builder_String_any_k w1.heap.size w1.heap.size o _ hI (by omega)).mono ?_
            rintro e w3 ⟨rfl, _, b3, _⟩
            go_wp2_with fail
            go_ret2
            rw [HR.out, HR2.out]
            exact ⟨decRes_some o, (b1.trans (hbb.mono b1.size)).trans (b3.mono (by have := b1.size; omega))⟩
          · have hm : bits .and .i64 (B : Int) 15 = 0 := by
              have h := hmk.out
              rw [HZ.out] at h
              exact h
            go_wp2_with fail
            refine (Tryd.Builder_String_any_k w1.heap.size w1.heap.size o _ hI (by omega)).mono ?_
            rintro e w3 ⟨rfl, _, b3, _⟩
            go_wp2_with fail
            go_ret2
            rw [HR.out, HR2.out]
            exact ⟨decRes_some o, (b1.trans (hbb.mono b1.size)).trans (b3.mono (by have := b1.size; omega))⟩
          · have hm : bits .and .i64 (B : Int) 3 = 0 := by
              have h := hmk.out
              rw [HZ.out] at h
              exact h
            go_wp2_with fail
            refine (Tryd.Builder_String_any_k w1.heap.size w1.heap.size o _ hI (by omega)).mono ?_
            rintro e w3 ⟨rfl, _, b3, _⟩
            go_wp2_with fail
            go_ret2
            rw [HR.out, HR2.out]
            exact ⟨decRes_some o, (b1.trans (hbb.mono b1.size)).trans (b3.mono (by have := b1.size; omega))⟩
        · rw [if_neg hz] at HO2
          have HR2 : Hid (decA 0 0 s.data.toList = none) := by
            show _ = none
            rw [HO2]
            rfl
          have hmk := Lib.hid (mask_low B H hB (by omega))
          obtain ⟨x, hx, hx2⟩ : ∃ x, B % 2 ^ H = x + 1 ∧ x < 64 := by
            refine ⟨B % 2 ^ H - 1, by omega, ?_⟩
            have h1 : B % 2 ^ H < 2 ^ H := Nat.mod_lt _ (Nat.pow_pos (by decide))
            have h2 : 2 ^ H ≤ 2 ^ 6 := Nat.pow_le_pow_right (by decide) (by omega)
            omega
          have HX := Lib.hid hx
          clear HO2 hz hx
          have hne : (((x : Int) + 1) != 0) = true := by simp; omega
          obtain rfl | rfl | rfl | rfl := hH
          · exfalso
            have := HX.out
            omega
          · have hm : bits .and .i64 (B : Int) 63 = (x : Int) + 1 := by
              have h := hmk.out
              rw [HX.out] at h
              exact h
            go_wp2_with fail
            go_ret2
            rw [HR.out, HR2.out]
            exact ⟨decRes_none, b1.trans (hbb.mono b1.size)⟩
          · have hm : bits .and .i64 (B : Int) 15 = (x : Int) + 1 := by
              have h := hmk.out
              rw [HX.out] at h
              exact h
            go_wp2_with fail
            go_ret2
            rw [HR.out, HR2.out]
            exact ⟨decRes_none, b1.trans (hbb.mono b1.size)⟩
          · have hm : bits .and .i64 (B : Int) 3 = (x : Int) + 1 := by
              have h := hmk.out
              rw [HX.out] at h
              exact h
            go_wp2_with fail
            go_ret2
            rw [HR.out, HR2.out]
            exact ⟨decRes_none, b1.trans (hbb.mono b1.size)⟩
end Go.Proofs.YtfbmabbehiicmaaDoor
