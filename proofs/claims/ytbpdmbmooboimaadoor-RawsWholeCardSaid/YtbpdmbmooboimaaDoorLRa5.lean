/- Law RawsWhole. (Made by tools/gen/lra5.py.) -/
import Derived.Test.YtbpdmbmooboimaaDoorLRah
import Derived.Test.YtbpdmbmooboimaaDoorArgs
set_option linter.unusedVariables false
set_option linter.unusedSimpArgs false
namespace Go.Proofs.YtbpdmbmooboimaaDoor.R11
open Go.RowKit R9 T10

theorem int_self' (n : Int) : (n != n) = false := by simp
theorem str_self' (s : ByteArray) : (s.toList != s.toList) = false := by simp
theorem conv_oneR (w : World) (x : UInt8) : (convert 45 9 (.slice (some ⟨w.heap.size, 0, none⟩) 1 1)).run Tryd.prog (w.alloc (.cells #[.int .u8 (x.toNat : Int)] 5)) = .ok (.string ⟨#[x]⟩) (w.alloc (.cells #[.int .u8 (x.toNat : Int)] 5)) := by
  refine run_convert_bytes_back _ 45 9 5 ⟨w.heap.size, 0, none⟩ 1 [x] Tryd.underlying45 Tryd.underlying5 Tryd.underlying9 fun j hj => ?_
  have hj0 : j = 0 := by simp at hj; omega
  subst hj0
  simp [Addr.add]
/-- The first letters of the name, in whichever case. -/
def turnC (ts : List Bool) (k : Nat) (c : UInt8) : UInt8 := if ts[k]? = some true then c - 32 else c
def turnL (ts : List Bool) : Nat → List UInt8
  | 0 => []
  | k + 1 => turnL ts k ++ (match scr[k]? with | some c => [turnC ts k c] | none => [])
theorem turn_low (ts : List Bool) : lowL (turnL ts 6) = lowL scr := by
  have e : ∀ b0 b1 b2 b3 b4 b5 : Bool, lowL ((((((([] : List UInt8) ++ [if b0 then (115 : UInt8) - 32 else 115]) ++ [if b1 then (99 : UInt8) - 32 else 99]) ++ [if b2 then (114 : UInt8) - 32 else 114]) ++ [if b3 then (105 : UInt8) - 32 else 105]) ++ [if b4 then (112 : UInt8) - 32 else 112]) ++ [if b5 then (116 : UInt8) - 32 else 116]) = lowL scr := by decide
  have h := e (ts[0]? == some true) (ts[1]? == some true) (ts[2]? == some true) (ts[3]? == some true) (ts[4]? == some true) (ts[5]? == some true)
  simp only [beq_iff_eq] at h
  exact h
theorem turn_len (ts : List Bool) : (turnL ts 6).length = 6 := by
  have := congrArg List.length (turn_low ts)
  simpa [lowL, scr] using this
/-- Raw over a text without <, with an end of a script behind it, in whichever case. -/
theorem rawT_whole {s u : List UInt8} (hs : ∀ c ∈ s, c ≠ 60) (hu : lowL u = lowL scr) (r : List UInt8) (st : Nat) (hst : 1 ≤ st ∧ st ≤ 3) : rawN s st scr = s.length ∧ rawN (s ++ 60 :: 47 :: (u ++ 62 :: r)) st scr = s.length ∧ rawT (s ++ 60 :: 47 :: (u ++ 62 :: r)) st scr = rawT s st scr := by
  have h1 := whole_none hs
  have h2 := whole_end hs hu r
  have n1 : rawN s st scr = s.length := by
    unfold rawN
    split
    · exact h1.1
    · split
      · exact h1.2
      · rfl
  have n2 : rawN (s ++ 60 :: 47 :: (u ++ 62 :: r)) st scr = s.length := by
    unfold rawN
    split
    · exact h2.1
    · split
      · exact h2.2
      · exfalso; omega
  refine ⟨n1, n2, ?_⟩
  unfold rawT
  rw [n1, n2, List.take_left, List.take_length]
theorem rawT_plain (l nm : List UInt8) : rawN l 4 nm = l.length ∧ rawT l 4 nm = cleanR l := by
  have h : rawN l 4 nm = l.length := rfl
  refine ⟨h, ?_⟩
  unfold rawT
  rw [if_neg (by omega), h, List.take_length]
theorem clean_calm {l : List UInt8} : True := trivial
set_option maxHeartbeats 6400000 in
set_option maxRecDepth 100000 in
theorem rawsWhole_law (s ahead : ByteArray) (tv : Value) (ts : List Bool) (m : Int) (w : World) (hs1 : s.size ≤ maxLen) (hs2 : ahead.size ≤ maxLen) (ht : SliceIn w tv (ts.map Value.bool)) (hT : RTab w) (hm : MaxOk m w) :
    Calls Tryd.prog 7 #[.string s, .string ahead, tv] w fun e w' => e = .returned (.bool true) ∧ Below w.heap.size w w' := by
  unfold maxLen at hs1 hs2
  have HT := Lib.hid hT
  have HM := Lib.hid hm
  have HTV := Lib.hid ht
  obtain ⟨ao, cap, htv, hlc, hcm, _⟩ := ht
  subst htv
  rw [List.length_map] at hlc
  obtain ⟨nt, hnt⟩ : ∃ n, ts.length = n := ⟨_, rfl⟩
  have hlen : (ts.map Value.bool).length = nt := by rw [List.length_map, hnt]
  have HNT := Lib.hid hnt
  rw [hlen]
  rw [hnt] at hlc
  unfold maxLen at hcm
  clear hT hm hnt hlen
  by_cases gs : 1000 < s.size
  · have ks : (1000 : Int) < s.size := by omega
    go_enter Tryd.func7, Tryd.ntmps7
    go_wp2_with fail
    refine (raw_any m _ (HT.out.below (Below.refl _ _)) (HM.out.below (Below.refl _ _))).mono ?_
    rintro e w1 ⟨rfl, b1⟩
    have B1 : Hid (Below w.heap.size w w1) := b1
    clear b1
    go_wp2_with fail
    go_ret
    exact ⟨by exact rfl, B1.out⟩
  have ks : ¬ (1000 : Int) < s.size := by omega
  by_cases gahead : 1000 < ahead.size
  · have kahead : (1000 : Int) < ahead.size := by omega
    go_enter Tryd.func7, Tryd.ntmps7
    go_wp2_with fail
    refine (raw_any m _ (HT.out.below (Below.refl _ _)) (HM.out.below (Below.refl _ _))).mono ?_
    rintro e w1 ⟨rfl, b1⟩
    have B1 : Hid (Below w.heap.size w w1) := b1
    clear b1
    go_wp2_with fail
    go_ret
    exact ⟨by exact rfl, B1.out⟩
  have kahead : ¬ (1000 : Int) < ahead.size := by omega
  have H1 := Lib.hid (fun W => has_any s ⟨#[60]⟩ W (by omega) (by decide) (by decide))
  rw [show (⟨#[60]⟩ : ByteArray).data.toList = [60] from rfl] at H1
  cases h1 : (fnd s.data.toList [60]).isSome with
  | true =>
    rw [h1] at H1
    clear h1 gs gahead
    go_enter Tryd.func7, Tryd.ntmps7
    go_wp2_with fail
    refine (H1.out _).mono ?_
    rintro e w1 ⟨rfl, rfl⟩
    go_wp2_with fail
    refine (raw_any m _ (HT.out.below (Below.refl _ _)) (HM.out.below (Below.refl _ _))).mono ?_
    rintro e w2 ⟨rfl, b2⟩
    have B2 : Hid (Below w.heap.size w w2) := b2
    clear b2
    go_wp2_with fail
    go_ret
    exact ⟨by exact rfl, B2.out⟩
  | false =>
  rw [h1] at H1
  have n60 := fnd1_none (none_of_isSome h1)
  have HN := Lib.hid n60
  clear h1 n60
  have hsl : s.data.toList.length = s.size := by simp
  have HSL := Lib.hid hsl
  clear hsl
  go_enter Tryd.func7, Tryd.ntmps7
  go_wp2_with fail
  refine (H1.out _).mono ?_
  rintro e w1 ⟨rfl, rfl⟩
  go_wp2_with fail
  go_loopw [8, 9] (fun v i wr => ∃ (z : Int) (T : ByteArray), i = .int .i64 z ∧ v = .string T ∧ (z = 0 ∨ z = 1 ∨ z = 2 ∨ z = 3 ∨ z = 4 ∨ z = 5 ∨ z = 6) ∧ T.size ≤ z.toNat + 2 ∧ Hid (T.data.toList = [60, 47] ++ turnL ts z.toNat) ∧ Hid (Below w.heap.size w wr)) (fun _ i _ => 6 - (intOf i).toNat)
  case atStart => exact ⟨0, ⟨#[60, 47]⟩, rfl, rfl, .inl rfl, by decide, rfl, Below.refl _ _⟩
  case round =>
    obtain ⟨z, T, rfl, rfl, hz, hTs, HTl, HB⟩ := hrel
    rcases hz with rfl | rfl | rfl | rfl | rfl | rfl | rfl
    · cases hk : ts[0]? with
      | none =>
        have hl : ¬ (0 : Int) < nt := by have := List.getElem?_eq_none_iff.1 hk; have := HNT.out; omega
        have hcf : turnC ts 0 115 = 115 := by unfold turnC; rw [hk]; rfl
        have hcv : (convert 45 9 (.slice (some ⟨wr.heap.size, 0, none⟩) 1 1)).run Tryd.prog (wr.alloc (.cells #[.int .u8 115] 5)) = .ok (.string ⟨#[115]⟩) (wr.alloc (.cells #[.int .u8 115] 5)) := conv_oneR wr 115
        have HN2 : Hid ((T ++ (⟨#[115]⟩ : ByteArray)).data.toList = [60, 47] ++ turnL ts 1) := by
          show _ = _
          have e1 : turnL ts 1 = turnL ts 0 ++ [turnC ts 0 115] := rfl
          rw [app_data, e1, hcf, ← List.append_assoc]
          exact congrArg (· ++ [(115 : UInt8)]) HTl.out
        have hz2 : (T ++ (⟨#[115]⟩ : ByteArray)).size ≤ 3 := by rw [ByteArray.size_append]; show T.size + 1 ≤ _; omega
        have hby : (⟨#[115, 99, 114, 105, 112, 116]⟩ : ByteArray)[0]'(by decide) = 115 := rfl
        clear hcf hk
        go_wp2_with fail
        go_roundw
        case rel => exact ⟨1, _, rfl, rfl, by omega, by omega, HN2.out, HB.out.alloc HB.out.size _⟩
        case measure => simp [intOf]
      | some b =>
        obtain ⟨hk1, hk2⟩ := List.getElem?_eq_some_iff.1 hk
        have hl : (0 : Int) < nt := by have := HNT.out; omega
        obtain ⟨b0, off, cap0, hv, hb0, hcell⟩ := HTV.out.at (i := 0) (by rw [List.length_map]; exact hk1)
        have hao : ao = some ⟨b0, off, none⟩ := by injection hv
        subst hao
        rw [List.getElem_map, hk2] at hcell
        have hc2 := (HB.out.cell (p := ⟨b0, off + 0, none⟩) hb0).trans hcell
        rw [Nat.add_zero] at hc2
        clear hv hcell hk1 hk2
        cases b with
        | true =>
          have hcf : turnC ts 0 115 = 83 := by unfold turnC; rw [hk]; rfl
          have hcv : (convert 45 9 (.slice (some ⟨wr.heap.size, 0, none⟩) 1 1)).run Tryd.prog (wr.alloc (.cells #[.int .u8 83] 5)) = .ok (.string ⟨#[83]⟩) (wr.alloc (.cells #[.int .u8 83] 5)) := conv_oneR wr 83
          have HN2 : Hid ((T ++ (⟨#[83]⟩ : ByteArray)).data.toList = [60, 47] ++ turnL ts 1) := by
            show _ = _
            have e1 : turnL ts 1 = turnL ts 0 ++ [turnC ts 0 115] := rfl
            rw [app_data, e1, hcf, ← List.append_assoc]
            exact congrArg (· ++ [(83 : UInt8)]) HTl.out
          have hz2 : (T ++ (⟨#[83]⟩ : ByteArray)).size ≤ 3 := by rw [ByteArray.size_append]; show T.size + 1 ≤ _; omega
          have hby : (⟨#[115, 99, 114, 105, 112, 116]⟩ : ByteArray)[0]'(by decide) = 115 := rfl
          clear hcf hk
          go_wp2_with fail
          go_roundw
          case rel => exact ⟨1, _, rfl, rfl, by omega, by omega, HN2.out, HB.out.alloc HB.out.size _⟩
          case measure => simp [intOf]
        | false =>
          have hcf : turnC ts 0 115 = 115 := by unfold turnC; rw [hk]; rfl
          have hcv : (convert 45 9 (.slice (some ⟨wr.heap.size, 0, none⟩) 1 1)).run Tryd.prog (wr.alloc (.cells #[.int .u8 115] 5)) = .ok (.string ⟨#[115]⟩) (wr.alloc (.cells #[.int .u8 115] 5)) := conv_oneR wr 115
          have HN2 : Hid ((T ++ (⟨#[115]⟩ : ByteArray)).data.toList = [60, 47] ++ turnL ts 1) := by
            show _ = _
            have e1 : turnL ts 1 = turnL ts 0 ++ [turnC ts 0 115] := rfl
            rw [app_data, e1, hcf, ← List.append_assoc]
            exact congrArg (· ++ [(115 : UInt8)]) HTl.out
          have hz2 : (T ++ (⟨#[115]⟩ : ByteArray)).size ≤ 3 := by rw [ByteArray.size_append]; show T.size + 1 ≤ _; omega
          have hby : (⟨#[115, 99, 114, 105, 112, 116]⟩ : ByteArray)[0]'(by decide) = 115 := rfl
          clear hcf hk
          go_wp2_with fail
          go_roundw
          case rel => exact ⟨1, _, rfl, rfl, by omega, by omega, HN2.out, HB.out.alloc HB.out.size _⟩
          case measure => simp [intOf]
    · cases hk : ts[1]? with
      | none =>
        have hl : ¬ (1 : Int) < nt := by have := List.getElem?_eq_none_iff.1 hk; have := HNT.out; omega
        have hcf : turnC ts 1 99 = 99 := by unfold turnC; rw [hk]; rfl
        have hcv : (convert 45 9 (.slice (some ⟨wr.heap.size, 0, none⟩) 1 1)).run Tryd.prog (wr.alloc (.cells #[.int .u8 99] 5)) = .ok (.string ⟨#[99]⟩) (wr.alloc (.cells #[.int .u8 99] 5)) := conv_oneR wr 99
        have HN2 : Hid ((T ++ (⟨#[99]⟩ : ByteArray)).data.toList = [60, 47] ++ turnL ts 2) := by
          show _ = _
          have e1 : turnL ts 2 = turnL ts 1 ++ [turnC ts 1 99] := rfl
          rw [app_data, e1, hcf, ← List.append_assoc]
          exact congrArg (· ++ [(99 : UInt8)]) HTl.out
        have hz2 : (T ++ (⟨#[99]⟩ : ByteArray)).size ≤ 4 := by rw [ByteArray.size_append]; show T.size + 1 ≤ _; omega
        have hby : (⟨#[115, 99, 114, 105, 112, 116]⟩ : ByteArray)[1]'(by decide) = 99 := rfl
        clear hcf hk
        go_wp2_with fail
        go_roundw
        case rel => exact ⟨2, _, rfl, rfl, by omega, by omega, HN2.out, HB.out.alloc HB.out.size _⟩
        case measure => simp [intOf]
      | some b =>
        obtain ⟨hk1, hk2⟩ := List.getElem?_eq_some_iff.1 hk
        have hl : (1 : Int) < nt := by have := HNT.out; omega
        obtain ⟨b0, off, cap0, hv, hb0, hcell⟩ := HTV.out.at (i := 1) (by rw [List.length_map]; exact hk1)
        have hao : ao = some ⟨b0, off, none⟩ := by injection hv
        subst hao
        rw [List.getElem_map, hk2] at hcell
        have hc2 := (HB.out.cell (p := ⟨b0, off + 1, none⟩) hb0).trans hcell
        clear hv hcell hk1 hk2
        cases b with
        | true =>
          have hcf : turnC ts 1 99 = 67 := by unfold turnC; rw [hk]; rfl
          have hcv : (convert 45 9 (.slice (some ⟨wr.heap.size, 0, none⟩) 1 1)).run Tryd.prog (wr.alloc (.cells #[.int .u8 67] 5)) = .ok (.string ⟨#[67]⟩) (wr.alloc (.cells #[.int .u8 67] 5)) := conv_oneR wr 67
          have HN2 : Hid ((T ++ (⟨#[67]⟩ : ByteArray)).data.toList = [60, 47] ++ turnL ts 2) := by
            show _ = _
            have e1 : turnL ts 2 = turnL ts 1 ++ [turnC ts 1 99] := rfl
            rw [app_data, e1, hcf, ← List.append_assoc]
            exact congrArg (· ++ [(67 : UInt8)]) HTl.out
          have hz2 : (T ++ (⟨#[67]⟩ : ByteArray)).size ≤ 4 := by rw [ByteArray.size_append]; show T.size + 1 ≤ _; omega
          have hby : (⟨#[115, 99, 114, 105, 112, 116]⟩ : ByteArray)[1]'(by decide) = 99 := rfl
          clear hcf hk
          go_wp2_with fail
          go_roundw
          case rel => exact ⟨2, _, rfl, rfl, by omega, by omega, HN2.out, HB.out.alloc HB.out.size _⟩
          case measure => simp [intOf]
        | false =>
          have hcf : turnC ts 1 99 = 99 := by unfold turnC; rw [hk]; rfl
          have hcv : (convert 45 9 (.slice (some ⟨wr.heap.size, 0, none⟩) 1 1)).run Tryd.prog (wr.alloc (.cells #[.int .u8 99] 5)) = .ok (.string ⟨#[99]⟩) (wr.alloc (.cells #[.int .u8 99] 5)) := conv_oneR wr 99
          have HN2 : Hid ((T ++ (⟨#[99]⟩ : ByteArray)).data.toList = [60, 47] ++ turnL ts 2) := by
            show _ = _
            have e1 : turnL ts 2 = turnL ts 1 ++ [turnC ts 1 99] := rfl
            rw [app_data, e1, hcf, ← List.append_assoc]
            exact congrArg (· ++ [(99 : UInt8)]) HTl.out
          have hz2 : (T ++ (⟨#[99]⟩ : ByteArray)).size ≤ 4 := by rw [ByteArray.size_append]; show T.size + 1 ≤ _; omega
          have hby : (⟨#[115, 99, 114, 105, 112, 116]⟩ : ByteArray)[1]'(by decide) = 99 := rfl
          clear hcf hk
          go_wp2_with fail
          go_roundw
          case rel => exact ⟨2, _, rfl, rfl, by omega, by omega, HN2.out, HB.out.alloc HB.out.size _⟩
          case measure => simp [intOf]
    · cases hk : ts[2]? with
      | none =>
        have hl : ¬ (2 : Int) < nt := by have := List.getElem?_eq_none_iff.1 hk; have := HNT.out; omega
        have hcf : turnC ts 2 114 = 114 := by unfold turnC; rw [hk]; rfl
        have hcv : (convert 45 9 (.slice (some ⟨wr.heap.size, 0, none⟩) 1 1)).run Tryd.prog (wr.alloc (.cells #[.int .u8 114] 5)) = .ok (.string ⟨#[114]⟩) (wr.alloc (.cells #[.int .u8 114] 5)) := conv_oneR wr 114
        have HN2 : Hid ((T ++ (⟨#[114]⟩ : ByteArray)).data.toList = [60, 47] ++ turnL ts 3) := by
          show _ = _
          have e1 : turnL ts 3 = turnL ts 2 ++ [turnC ts 2 114] := rfl
          rw [app_data, e1, hcf, ← List.append_assoc]
          exact congrArg (· ++ [(114 : UInt8)]) HTl.out
        have hz2 : (T ++ (⟨#[114]⟩ : ByteArray)).size ≤ 5 := by rw [ByteArray.size_append]; show T.size + 1 ≤ _; omega
        have hby : (⟨#[115, 99, 114, 105, 112, 116]⟩ : ByteArray)[2]'(by decide) = 114 := rfl
        clear hcf hk
        go_wp2_with fail
        go_roundw
        case rel => exact ⟨3, _, rfl, rfl, by omega, by omega, HN2.out, HB.out.alloc HB.out.size _⟩
        case measure => simp [intOf]
      | some b =>
        obtain ⟨hk1, hk2⟩ := List.getElem?_eq_some_iff.1 hk
        have hl : (2 : Int) < nt := by have := HNT.out; omega
        obtain ⟨b0, off, cap0, hv, hb0, hcell⟩ := HTV.out.at (i := 2) (by rw [List.length_map]; exact hk1)
        have hao : ao = some ⟨b0, off, none⟩ := by injection hv
        subst hao
        rw [List.getElem_map, hk2] at hcell
        have hc2 := (HB.out.cell (p := ⟨b0, off + 2, none⟩) hb0).trans hcell
        clear hv hcell hk1 hk2
        cases b with
        | true =>
          have hcf : turnC ts 2 114 = 82 := by unfold turnC; rw [hk]; rfl
          have hcv : (convert 45 9 (.slice (some ⟨wr.heap.size, 0, none⟩) 1 1)).run Tryd.prog (wr.alloc (.cells #[.int .u8 82] 5)) = .ok (.string ⟨#[82]⟩) (wr.alloc (.cells #[.int .u8 82] 5)) := conv_oneR wr 82
          have HN2 : Hid ((T ++ (⟨#[82]⟩ : ByteArray)).data.toList = [60, 47] ++ turnL ts 3) := by
            show _ = _
            have e1 : turnL ts 3 = turnL ts 2 ++ [turnC ts 2 114] := rfl
            rw [app_data, e1, hcf, ← List.append_assoc]
            exact congrArg (· ++ [(82 : UInt8)]) HTl.out
          have hz2 : (T ++ (⟨#[82]⟩ : ByteArray)).size ≤ 5 := by rw [ByteArray.size_append]; show T.size + 1 ≤ _; omega
          have hby : (⟨#[115, 99, 114, 105, 112, 116]⟩ : ByteArray)[2]'(by decide) = 114 := rfl
          clear hcf hk
          go_wp2_with fail
          go_roundw
          case rel => exact ⟨3, _, rfl, rfl, by omega, by omega, HN2.out, HB.out.alloc HB.out.size _⟩
          case measure => simp [intOf]
        | false =>
          have hcf : turnC ts 2 114 = 114 := by unfold turnC; rw [hk]; rfl
          have hcv : (convert 45 9 (.slice (some ⟨wr.heap.size, 0, none⟩) 1 1)).run Tryd.prog (wr.alloc (.cells #[.int .u8 114] 5)) = .ok (.string ⟨#[114]⟩) (wr.alloc (.cells #[.int .u8 114] 5)) := conv_oneR wr 114
          have HN2 : Hid ((T ++ (⟨#[114]⟩ : ByteArray)).data.toList = [60, 47] ++ turnL ts 3) := by
            show _ = _
            have e1 : turnL ts 3 = turnL ts 2 ++ [turnC ts 2 114] := rfl
            rw [app_data, e1, hcf, ← List.append_assoc]
            exact congrArg (· ++ [(114 : UInt8)]) HTl.out
          have hz2 : (T ++ (⟨#[114]⟩ : ByteArray)).size ≤ 5 := by rw [ByteArray.size_append]; show T.size + 1 ≤ _; omega
          have hby : (⟨#[115, 99, 114, 105, 112, 116]⟩ : ByteArray)[2]'(by decide) = 114 := rfl
          clear hcf hk
          go_wp2_with fail
          go_roundw
          case rel => exact ⟨3, _, rfl, rfl, by omega, by omega, HN2.out, HB.out.alloc HB.out.size _⟩
          case measure => simp [intOf]
    · cases hk : ts[3]? with
      | none =>
        have hl : ¬ (3 : Int) < nt := by have := List.getElem?_eq_none_iff.1 hk; have := HNT.out; omega
        have hcf : turnC ts 3 105 = 105 := by unfold turnC; rw [hk]; rfl
        have hcv : (convert 45 9 (.slice (some ⟨wr.heap.size, 0, none⟩) 1 1)).run Tryd.prog (wr.alloc (.cells #[.int .u8 105] 5)) = .ok (.string ⟨#[105]⟩) (wr.alloc (.cells #[.int .u8 105] 5)) := conv_oneR wr 105
        have HN2 : Hid ((T ++ (⟨#[105]⟩ : ByteArray)).data.toList = [60, 47] ++ turnL ts 4) := by
          show _ = _
          have e1 : turnL ts 4 = turnL ts 3 ++ [turnC ts 3 105] := rfl
          rw [app_data, e1, hcf, ← List.append_assoc]
          exact congrArg (· ++ [(105 : UInt8)]) HTl.out
        have hz2 : (T ++ (⟨#[105]⟩ : ByteArray)).size ≤ 6 := by rw [ByteArray.size_append]; show T.size + 1 ≤ _; omega
        have hby : (⟨#[115, 99, 114, 105, 112, 116]⟩ : ByteArray)[3]'(by decide) = 105 := rfl
        clear hcf hk
        go_wp2_with fail
        go_roundw
        case rel => exact ⟨4, _, rfl, rfl, by omega, by omega, HN2.out, HB.out.alloc HB.out.size _⟩
        case measure => simp [intOf]
      | some b =>
        obtain ⟨hk1, hk2⟩ := List.getElem?_eq_some_iff.1 hk
        have hl : (3 : Int) < nt := by have := HNT.out; omega
        obtain ⟨b0, off, cap0, hv, hb0, hcell⟩ := HTV.out.at (i := 3) (by rw [List.length_map]; exact hk1)
        have hao : ao = some ⟨b0, off, none⟩ := by injection hv
        subst hao
        rw [List.getElem_map, hk2] at hcell
        have hc2 := (HB.out.cell (p := ⟨b0, off + 3, none⟩) hb0).trans hcell
        clear hv hcell hk1 hk2
        cases b with
        | true =>
          have hcf : turnC ts 3 105 = 73 := by unfold turnC; rw [hk]; rfl
          have hcv : (convert 45 9 (.slice (some ⟨wr.heap.size, 0, none⟩) 1 1)).run Tryd.prog (wr.alloc (.cells #[.int .u8 73] 5)) = .ok (.string ⟨#[73]⟩) (wr.alloc (.cells #[.int .u8 73] 5)) := conv_oneR wr 73
          have HN2 : Hid ((T ++ (⟨#[73]⟩ : ByteArray)).data.toList = [60, 47] ++ turnL ts 4) := by
            show _ = _
            have e1 : turnL ts 4 = turnL ts 3 ++ [turnC ts 3 105] := rfl
            rw [app_data, e1, hcf, ← List.append_assoc]
            exact congrArg (· ++ [(73 : UInt8)]) HTl.out
          have hz2 : (T ++ (⟨#[73]⟩ : ByteArray)).size ≤ 6 := by rw [ByteArray.size_append]; show T.size + 1 ≤ _; omega
          have hby : (⟨#[115, 99, 114, 105, 112, 116]⟩ : ByteArray)[3]'(by decide) = 105 := rfl
          clear hcf hk
          go_wp2_with fail
          go_roundw
          case rel => exact ⟨4, _, rfl, rfl, by omega, by omega, HN2.out, HB.out.alloc HB.out.size _⟩
          case measure => simp [intOf]
        | false =>
          have hcf : turnC ts 3 105 = 105 := by unfold turnC; rw [hk]; rfl
          have hcv : (convert 45 9 (.slice (some ⟨wr.heap.size, 0, none⟩) 1 1)).run Tryd.prog (wr.alloc (.cells #[.int .u8 105] 5)) = .ok (.string ⟨#[105]⟩) (wr.alloc (.cells #[.int .u8 105] 5)) := conv_oneR wr 105
          have HN2 : Hid ((T ++ (⟨#[105]⟩ : ByteArray)).data.toList = [60, 47] ++ turnL ts 4) := by
            show _ = _
            have e1 : turnL ts 4 = turnL ts 3 ++ [turnC ts 3 105] := rfl
            rw [app_data, e1, hcf, ← List.append_assoc]
            exact congrArg (· ++ [(105 : UInt8)]) HTl.out
          have hz2 : (T ++ (⟨#[105]⟩ : ByteArray)).size ≤ 6 := by rw [ByteArray.size_append]; show T.size + 1 ≤ _; omega
          have hby : (⟨#[115, 99, 114, 105, 112, 116]⟩ : ByteArray)[3]'(by decide) = 105 := rfl
          clear hcf hk
          go_wp2_with fail
          go_roundw
          case rel => exact ⟨4, _, rfl, rfl, by omega, by omega, HN2.out, HB.out.alloc HB.out.size _⟩
          case measure => simp [intOf]
    · cases hk : ts[4]? with
      | none =>
        have hl : ¬ (4 : Int) < nt := by have := List.getElem?_eq_none_iff.1 hk; have := HNT.out; omega
        have hcf : turnC ts 4 112 = 112 := by unfold turnC; rw [hk]; rfl
        have hcv : (convert 45 9 (.slice (some ⟨wr.heap.size, 0, none⟩) 1 1)).run Tryd.prog (wr.alloc (.cells #[.int .u8 112] 5)) = .ok (.string ⟨#[112]⟩) (wr.alloc (.cells #[.int .u8 112] 5)) := conv_oneR wr 112
        have HN2 : Hid ((T ++ (⟨#[112]⟩ : ByteArray)).data.toList = [60, 47] ++ turnL ts 5) := by
          show _ = _
          have e1 : turnL ts 5 = turnL ts 4 ++ [turnC ts 4 112] := rfl
          rw [app_data, e1, hcf, ← List.append_assoc]
          exact congrArg (· ++ [(112 : UInt8)]) HTl.out
        have hz2 : (T ++ (⟨#[112]⟩ : ByteArray)).size ≤ 7 := by rw [ByteArray.size_append]; show T.size + 1 ≤ _; omega
        have hby : (⟨#[115, 99, 114, 105, 112, 116]⟩ : ByteArray)[4]'(by decide) = 112 := rfl
        clear hcf hk
        go_wp2_with fail
        go_roundw
        case rel => exact ⟨5, _, rfl, rfl, by omega, by omega, HN2.out, HB.out.alloc HB.out.size _⟩
        case measure => simp [intOf]
      | some b =>
        obtain ⟨hk1, hk2⟩ := List.getElem?_eq_some_iff.1 hk
        have hl : (4 : Int) < nt := by have := HNT.out; omega
        obtain ⟨b0, off, cap0, hv, hb0, hcell⟩ := HTV.out.at (i := 4) (by rw [List.length_map]; exact hk1)
        have hao : ao = some ⟨b0, off, none⟩ := by injection hv
        subst hao
        rw [List.getElem_map, hk2] at hcell
        have hc2 := (HB.out.cell (p := ⟨b0, off + 4, none⟩) hb0).trans hcell
        clear hv hcell hk1 hk2
        cases b with
        | true =>
          have hcf : turnC ts 4 112 = 80 := by unfold turnC; rw [hk]; rfl
          have hcv : (convert 45 9 (.slice (some ⟨wr.heap.size, 0, none⟩) 1 1)).run Tryd.prog (wr.alloc (.cells #[.int .u8 80] 5)) = .ok (.string ⟨#[80]⟩) (wr.alloc (.cells #[.int .u8 80] 5)) := conv_oneR wr 80
          have HN2 : Hid ((T ++ (⟨#[80]⟩ : ByteArray)).data.toList = [60, 47] ++ turnL ts 5) := by
            show _ = _
            have e1 : turnL ts 5 = turnL ts 4 ++ [turnC ts 4 112] := rfl
            rw [app_data, e1, hcf, ← List.append_assoc]
            exact congrArg (· ++ [(80 : UInt8)]) HTl.out
          have hz2 : (T ++ (⟨#[80]⟩ : ByteArray)).size ≤ 7 := by rw [ByteArray.size_append]; show T.size + 1 ≤ _; omega
          have hby : (⟨#[115, 99, 114, 105, 112, 116]⟩ : ByteArray)[4]'(by decide) = 112 := rfl
          clear hcf hk
          go_wp2_with fail
          go_roundw
          case rel => exact ⟨5, _, rfl, rfl, by omega, by omega, HN2.out, HB.out.alloc HB.out.size _⟩
          case measure => simp [intOf]
        | false =>
          have hcf : turnC ts 4 112 = 112 := by unfold turnC; rw [hk]; rfl
          have hcv : (convert 45 9 (.slice (some ⟨wr.heap.size, 0, none⟩) 1 1)).run Tryd.prog (wr.alloc (.cells #[.int .u8 112] 5)) = .ok (.string ⟨#[112]⟩) (wr.alloc (.cells #[.int .u8 112] 5)) := conv_oneR wr 112
          have HN2 : Hid ((T ++ (⟨#[112]⟩ : ByteArray)).data.toList = [60, 47] ++ turnL ts 5) := by
            show _ = _
            have e1 : turnL ts 5 = turnL ts 4 ++ [turnC ts 4 112] := rfl
            rw [app_data, e1, hcf, ← List.append_assoc]
            exact congrArg (· ++ [(112 : UInt8)]) HTl.out
          have hz2 : (T ++ (⟨#[112]⟩ : ByteArray)).size ≤ 7 := by rw [ByteArray.size_append]; show T.size + 1 ≤ _; omega
          have hby : (⟨#[115, 99, 114, 105, 112, 116]⟩ : ByteArray)[4]'(by decide) = 112 := rfl
          clear hcf hk
          go_wp2_with fail
          go_roundw
          case rel => exact ⟨5, _, rfl, rfl, by omega, by omega, HN2.out, HB.out.alloc HB.out.size _⟩
          case measure => simp [intOf]
    · cases hk : ts[5]? with
      | none =>
        have hl : ¬ (5 : Int) < nt := by have := List.getElem?_eq_none_iff.1 hk; have := HNT.out; omega
        have hcf : turnC ts 5 116 = 116 := by unfold turnC; rw [hk]; rfl
        have hcv : (convert 45 9 (.slice (some ⟨wr.heap.size, 0, none⟩) 1 1)).run Tryd.prog (wr.alloc (.cells #[.int .u8 116] 5)) = .ok (.string ⟨#[116]⟩) (wr.alloc (.cells #[.int .u8 116] 5)) := conv_oneR wr 116
        have HN2 : Hid ((T ++ (⟨#[116]⟩ : ByteArray)).data.toList = [60, 47] ++ turnL ts 6) := by
          show _ = _
          have e1 : turnL ts 6 = turnL ts 5 ++ [turnC ts 5 116] := rfl
          rw [app_data, e1, hcf, ← List.append_assoc]
          exact congrArg (· ++ [(116 : UInt8)]) HTl.out
        have hz2 : (T ++ (⟨#[116]⟩ : ByteArray)).size ≤ 8 := by rw [ByteArray.size_append]; show T.size + 1 ≤ _; omega
        have hby : (⟨#[115, 99, 114, 105, 112, 116]⟩ : ByteArray)[5]'(by decide) = 116 := rfl
        clear hcf hk
        go_wp2_with fail
        go_roundw
        case rel => exact ⟨6, _, rfl, rfl, by omega, by omega, HN2.out, HB.out.alloc HB.out.size _⟩
        case measure => simp [intOf]
      | some b =>
        obtain ⟨hk1, hk2⟩ := List.getElem?_eq_some_iff.1 hk
        have hl : (5 : Int) < nt := by have := HNT.out; omega
        obtain ⟨b0, off, cap0, hv, hb0, hcell⟩ := HTV.out.at (i := 5) (by rw [List.length_map]; exact hk1)
        have hao : ao = some ⟨b0, off, none⟩ := by injection hv
        subst hao
        rw [List.getElem_map, hk2] at hcell
        have hc2 := (HB.out.cell (p := ⟨b0, off + 5, none⟩) hb0).trans hcell
        clear hv hcell hk1 hk2
        cases b with
        | true =>
          have hcf : turnC ts 5 116 = 84 := by unfold turnC; rw [hk]; rfl
          have hcv : (convert 45 9 (.slice (some ⟨wr.heap.size, 0, none⟩) 1 1)).run Tryd.prog (wr.alloc (.cells #[.int .u8 84] 5)) = .ok (.string ⟨#[84]⟩) (wr.alloc (.cells #[.int .u8 84] 5)) := conv_oneR wr 84
          have HN2 : Hid ((T ++ (⟨#[84]⟩ : ByteArray)).data.toList = [60, 47] ++ turnL ts 6) := by
            show _ = _
            have e1 : turnL ts 6 = turnL ts 5 ++ [turnC ts 5 116] := rfl
            rw [app_data, e1, hcf, ← List.append_assoc]
            exact congrArg (· ++ [(84 : UInt8)]) HTl.out
          have hz2 : (T ++ (⟨#[84]⟩ : ByteArray)).size ≤ 8 := by rw [ByteArray.size_append]; show T.size + 1 ≤ _; omega
          have hby : (⟨#[115, 99, 114, 105, 112, 116]⟩ : ByteArray)[5]'(by decide) = 116 := rfl
          clear hcf hk
          go_wp2_with fail
          go_roundw
          case rel => exact ⟨6, _, rfl, rfl, by omega, by omega, HN2.out, HB.out.alloc HB.out.size _⟩
          case measure => simp [intOf]
        | false =>
          have hcf : turnC ts 5 116 = 116 := by unfold turnC; rw [hk]; rfl
          have hcv : (convert 45 9 (.slice (some ⟨wr.heap.size, 0, none⟩) 1 1)).run Tryd.prog (wr.alloc (.cells #[.int .u8 116] 5)) = .ok (.string ⟨#[116]⟩) (wr.alloc (.cells #[.int .u8 116] 5)) := conv_oneR wr 116
          have HN2 : Hid ((T ++ (⟨#[116]⟩ : ByteArray)).data.toList = [60, 47] ++ turnL ts 6) := by
            show _ = _
            have e1 : turnL ts 6 = turnL ts 5 ++ [turnC ts 5 116] := rfl
            rw [app_data, e1, hcf, ← List.append_assoc]
            exact congrArg (· ++ [(116 : UInt8)]) HTl.out
          have hz2 : (T ++ (⟨#[116]⟩ : ByteArray)).size ≤ 8 := by rw [ByteArray.size_append]; show T.size + 1 ≤ _; omega
          have hby : (⟨#[115, 99, 114, 105, 112, 116]⟩ : ByteArray)[5]'(by decide) = 116 := rfl
          clear hcf hk
          go_wp2_with fail
          go_roundw
          case rel => exact ⟨6, _, rfl, rfl, by omega, by omega, HN2.out, HB.out.alloc HB.out.size _⟩
          case measure => simp [intOf]
    · have hTl := HTl.out
      have hlow := turn_low ts
      have hu6 := turn_len ts
      obtain ⟨u, hu⟩ : ∃ u, turnL ts 6 = u := ⟨_, rfl⟩
      have hTl2 : T.data.toList = [60, 47] ++ u := by rw [← hu]; exact hTl
      rw [hu] at hlow hu6
      have hnz : ∀ c ∈ u, c ≠ 0 := by
        intro c hc e
        have h1 : lowB c ∈ lowL u := List.mem_map_of_mem hc
        rw [hlow, e] at h1
        exact absurd h1 (by decide)
      obtain ⟨C, hC⟩ : ∃ C, bytesOf (cleanR s.data.toList) = C := ⟨_, rfl⟩
      have hCl : C.data.toList = cleanR s.data.toList := by rw [← hC]; exact bytesOf_data _
      have bC : C.size ≤ 3000 := by rw [← hC, bytesOf_size]; have := cleanR_len s.data.toList; rw [HSL.out] at this; omega
      have HCL := Lib.hid (fun W => rclean_any s W (by omega))
      rw [hC] at HCL
      obtain ⟨X, hX⟩ : ∃ X, bytesOf (rawT s.data.toList 1 scr) = X := ⟨_, rfl⟩
      obtain ⟨AS, hAS⟩ : ∃ AS, ((ahead ++ s) ++ T) ++ (⟨#[62]⟩ : ByteArray) = AS := ⟨_, rfl⟩
      have hASl : AS.data.toList.drop ahead.size = s.data.toList ++ 60 :: 47 :: (u ++ 62 :: []) := by
        have ha : ahead.data.toList.length = ahead.size := by simp
        have e : AS.data.toList = ahead.data.toList ++ (s.data.toList ++ 60 :: 47 :: (u ++ 62 :: [])) := by rw [← hAS]; simp [app_data, hTl2, List.append_assoc]
        rw [e, ← ha, List.drop_left]
      have hASs : AS.size ≤ 4000 := by rw [← hAS]; simp only [ByteArray.size_append, show (⟨#[62]⟩ : ByteArray).size = 1 from rfl]; omega
      have hAS2 : ahead.size ≤ AS.size := by rw [← hAS]; simp only [ByteArray.size_append]; omega
      obtain ⟨U, hU⟩ : ∃ U, (C ++ T) ++ (⟨#[62]⟩ : ByteArray) = U := ⟨_, rfl⟩
      have hUl : U.data.toList = cleanR (s.data.toList ++ 60 :: 47 :: (u ++ 62 :: [])) := by
        have e : s.data.toList ++ 60 :: 47 :: (u ++ 62 :: []) = (s.data.toList ++ ([60, 47] ++ u)) ++ [62] := by simp [List.append_assoc]
        rw [e, cleanR_app, cleanR_app, ← hU, app_data, app_data, hCl, hTl2, cleanR_app [60, 47] u, cleanR_id hnz]
        rfl
      have P1 : Hid (∀ W, RTab W → MaxOk m W → Calls Tryd.prog 20 #[.string s, .int .i64 0, .int .i64 1, .string ⟨#[115, 99, 114, 105, 112, 116]⟩] W fun e w' => e = .returned (.tuple #[.string X, .int .i64 (s.size : Int)]) ∧ Below W.heap.size W w') := by
        intro W h1 h2
        have := Raw_any s ⟨#[115, 99, 114, 105, 112, 116]⟩ 0 1 m W (by omega) (by decide) h1 h2 (Nat.zero_le _) (by decide)
        rw [List.drop_zero, Nat.zero_add, show (⟨#[115, 99, 114, 105, 112, 116]⟩ : ByteArray).data.toList = scr from rfl] at this
        rw [(rawT_whole HN.out hlow [] 1 (by omega)).1, HSL.out] at this
        rw [hX] at this
        exact this
      have R1 : Hid (∀ W, RTab W → MaxOk m W → Calls Tryd.prog 20 #[.string AS, .int .i64 (ahead.size : Int), .int .i64 1, .string ⟨#[115, 99, 114, 105, 112, 116]⟩] W fun e w' => e = .returned (.tuple #[.string X, .int .i64 ((ahead.size + s.size : Nat) : Int)]) ∧ Below W.heap.size W w') := by
        intro W h1 h2
        have := Raw_any AS ⟨#[115, 99, 114, 105, 112, 116]⟩ ahead.size 1 m W (by omega) (by decide) h1 h2 hAS2 (by decide)
        rw [hASl, show (⟨#[115, 99, 114, 105, 112, 116]⟩ : ByteArray).data.toList = scr from rfl] at this
        have hw := rawT_whole HN.out hlow [] 1 (by omega)
        rw [hw.2.1, hw.2.2, HSL.out] at this
        rw [hX] at this
        exact this
      have P2 : Hid (∀ W, RTab W → MaxOk m W → Calls Tryd.prog 20 #[.string s, .int .i64 0, .int .i64 2, .string ⟨#[115, 99, 114, 105, 112, 116]⟩] W fun e w' => e = .returned (.tuple #[.string C, .int .i64 (s.size : Int)]) ∧ Below W.heap.size W w') := by
        intro W h1 h2
        have := Raw_any s ⟨#[115, 99, 114, 105, 112, 116]⟩ 0 2 m W (by omega) (by decide) h1 h2 (Nat.zero_le _) (by decide)
        rw [List.drop_zero, Nat.zero_add, show (⟨#[115, 99, 114, 105, 112, 116]⟩ : ByteArray).data.toList = scr from rfl] at this
        rw [(rawT_whole HN.out hlow [] 2 (by omega)).1, HSL.out] at this
        rw [show rawT s.data.toList 2 scr = cleanR s.data.toList by unfold rawT; rw [if_neg (by omega), (rawT_whole HN.out hlow [] 2 (by omega)).1, List.take_length], hC] at this
        exact this
      have R2 : Hid (∀ W, RTab W → MaxOk m W → Calls Tryd.prog 20 #[.string AS, .int .i64 (ahead.size : Int), .int .i64 2, .string ⟨#[115, 99, 114, 105, 112, 116]⟩] W fun e w' => e = .returned (.tuple #[.string C, .int .i64 ((ahead.size + s.size : Nat) : Int)]) ∧ Below W.heap.size W w') := by
        intro W h1 h2
        have := Raw_any AS ⟨#[115, 99, 114, 105, 112, 116]⟩ ahead.size 2 m W (by omega) (by decide) h1 h2 hAS2 (by decide)
        rw [hASl, show (⟨#[115, 99, 114, 105, 112, 116]⟩ : ByteArray).data.toList = scr from rfl] at this
        have hw := rawT_whole HN.out hlow [] 2 (by omega)
        rw [hw.2.1, hw.2.2, HSL.out] at this
        rw [show rawT s.data.toList 2 scr = cleanR s.data.toList by unfold rawT; rw [if_neg (by omega), hw.1, List.take_length], hC] at this
        exact this
      have P3 : Hid (∀ W, RTab W → MaxOk m W → Calls Tryd.prog 20 #[.string s, .int .i64 0, .int .i64 3, .string ⟨#[115, 99, 114, 105, 112, 116]⟩] W fun e w' => e = .returned (.tuple #[.string C, .int .i64 (s.size : Int)]) ∧ Below W.heap.size W w') := by
        intro W h1 h2
        have := Raw_any s ⟨#[115, 99, 114, 105, 112, 116]⟩ 0 3 m W (by omega) (by decide) h1 h2 (Nat.zero_le _) (by decide)
        rw [List.drop_zero, Nat.zero_add, show (⟨#[115, 99, 114, 105, 112, 116]⟩ : ByteArray).data.toList = scr from rfl] at this
        rw [(rawT_whole HN.out hlow [] 3 (by omega)).1, HSL.out] at this
        rw [show rawT s.data.toList 3 scr = cleanR s.data.toList by unfold rawT; rw [if_neg (by omega), (rawT_whole HN.out hlow [] 3 (by omega)).1, List.take_length], hC] at this
        exact this
      have R3 : Hid (∀ W, RTab W → MaxOk m W → Calls Tryd.prog 20 #[.string AS, .int .i64 (ahead.size : Int), .int .i64 3, .string ⟨#[115, 99, 114, 105, 112, 116]⟩] W fun e w' => e = .returned (.tuple #[.string C, .int .i64 ((ahead.size + s.size : Nat) : Int)]) ∧ Below W.heap.size W w') := by
        intro W h1 h2
        have := Raw_any AS ⟨#[115, 99, 114, 105, 112, 116]⟩ ahead.size 3 m W (by omega) (by decide) h1 h2 hAS2 (by decide)
        rw [hASl, show (⟨#[115, 99, 114, 105, 112, 116]⟩ : ByteArray).data.toList = scr from rfl] at this
        have hw := rawT_whole HN.out hlow [] 3 (by omega)
        rw [hw.2.1, hw.2.2, HSL.out] at this
        rw [show rawT s.data.toList 3 scr = cleanR s.data.toList by unfold rawT; rw [if_neg (by omega), hw.1, List.take_length], hC] at this
        exact this
      have P4 : Hid (∀ W, RTab W → MaxOk m W → Calls Tryd.prog 20 #[.string s, .int .i64 0, .int .i64 4, .string ⟨#[115, 99, 114, 105, 112, 116]⟩] W fun e w' => e = .returned (.tuple #[.string C, .int .i64 (s.size : Int)]) ∧ Below W.heap.size W w') := by
        intro W h1 h2
        have := Raw_any s ⟨#[115, 99, 114, 105, 112, 116]⟩ 0 4 m W (by omega) (by decide) h1 h2 (Nat.zero_le _) (by decide)
        rw [List.drop_zero, Nat.zero_add, show (⟨#[115, 99, 114, 105, 112, 116]⟩ : ByteArray).data.toList = scr from rfl] at this
        rw [(rawT_plain s.data.toList scr).1, HSL.out] at this
        rw [(rawT_plain s.data.toList scr).2, hC] at this
        exact this
      have R4 : Hid (∀ W, RTab W → MaxOk m W → Calls Tryd.prog 20 #[.string AS, .int .i64 (ahead.size : Int), .int .i64 4, .string ⟨#[115, 99, 114, 105, 112, 116]⟩] W fun e w' => e = .returned (.tuple #[.string U, .int .i64 ((ahead.size + s.size + 9 : Nat) : Int)]) ∧ Below W.heap.size W w') := by
        intro W h1 h2
        have := Raw_any AS ⟨#[115, 99, 114, 105, 112, 116]⟩ ahead.size 4 m W (by omega) (by decide) h1 h2 hAS2 (by decide)
        rw [hASl, show (⟨#[115, 99, 114, 105, 112, 116]⟩ : ByteArray).data.toList = scr from rfl] at this
        rw [(rawT_plain _ scr).1, (rawT_plain _ scr).2, show bytesOf (cleanR (s.data.toList ++ 60 :: 47 :: (u ++ 62 :: []))) = U by apply ba_ext1; rw [bytesOf_data, hUl]] at this
        rw [show ahead.size + (s.data.toList ++ (60 : UInt8) :: 47 :: (u ++ (62 : UInt8) :: [])).length = ahead.size + s.size + 9 by simp [hu6]; omega] at this
        exact this
      obtain ⟨M, hM⟩ : ∃ M, ahead.size + s.size = M := ⟨_, rfl⟩
      obtain ⟨M9, hM9⟩ : ∃ M, ahead.size + s.size + 9 = M := ⟨_, rfl⟩
      rw [hM] at R1 R2 R3
      rw [hM9] at R4
      have m1 : (ahead.size : Int) + s.size = M := by omega
      have m2 : (M : Int) + 9 = M9 := by omega
      have j1 := int_self' (s.size : Int)
      have j2 := int_self' (M : Int)
      have j3 := int_self' (M9 : Int)
      have j4 := str_self' C
      have j5 := str_self' X
      have j6 := str_self' U
      have bAS : AS.size ≤ 4000 := hASs
      have x40 : ∀ w, (Instr.index 46 (.agg #[.int .i64 1, .int .i64 2, .int .i64 3, .int .i64 4]) (.int .i64 0)).run Tryd.prog w = .ok (.int .i64 1) w := fun _ => by kernel_rfl
      have x41 : ∀ w, (Instr.index 46 (.agg #[.int .i64 1, .int .i64 2, .int .i64 3, .int .i64 4]) (.int .i64 1)).run Tryd.prog w = .ok (.int .i64 2) w := fun _ => by kernel_rfl
      have x42 : ∀ w, (Instr.index 46 (.agg #[.int .i64 1, .int .i64 2, .int .i64 3, .int .i64 4]) (.int .i64 2)).run Tryd.prog w = .ok (.int .i64 3) w := fun _ => by kernel_rfl
      have x43 : ∀ w, (Instr.index 46 (.agg #[.int .i64 1, .int .i64 2, .int .i64 3, .int .i64 4]) (.int .i64 3)).run Tryd.prog w = .ok (.int .i64 4) w := fun _ => by kernel_rfl
      clear hTl hlow hu6 hTl2 hnz hC hCl hX hASl hASs hAS2 hUl hM hM9 hu
      go_wp2_with fail
      go_loopw [58] (fun i wr => ∃ z : Int, i = .int .i64 z ∧ (z = 0 ∨ z = 1 ∨ z = 2 ∨ z = 3 ∨ z = 4) ∧ Hid (Below w.heap.size w wr)) (fun i _ => 4 - (intOf i).toNat)
      case atStart => exact ⟨0, rfl, .inl rfl, HB.out⟩
      case round =>
        obtain ⟨z, rfl, rfl | rfl | rfl | rfl | rfl, HB2⟩ := hrel
        · go_wp2_with fail
          refine (P1.out _ (HT.out.below HB2.out) (HM.out.below HB2.out)).mono ?_
          rintro e w1 ⟨rfl, b1⟩
          have B1 : Hid (Below w.heap.size w w1) := HB2.out.trans (b1.mono HB2.out.size)
          clear b1
          go_wp2_with fail
          refine (R1.out _ (HT.out.below B1.out) (HM.out.below B1.out)).mono ?_
          rintro e w2 ⟨rfl, b2⟩
          have B2 : Hid (Below w.heap.size w w2) := B1.out.trans (b2.mono B1.out.size)
          clear b2
          go_wp2_with fail
          refine (HCL.out _).mono ?_
          rintro e w3 ⟨rfl, rfl⟩
          go_wp2_with fail
          go_roundw
          case rel => exact ⟨1, rfl, by omega, B2.out⟩
          case measure => simp [intOf]
        · go_wp2_with fail
          refine (P2.out _ (HT.out.below HB2.out) (HM.out.below HB2.out)).mono ?_
          rintro e w1 ⟨rfl, b1⟩
          have B1 : Hid (Below w.heap.size w w1) := HB2.out.trans (b1.mono HB2.out.size)
          clear b1
          go_wp2_with fail
          refine (R2.out _ (HT.out.below B1.out) (HM.out.below B1.out)).mono ?_
          rintro e w2 ⟨rfl, b2⟩
          have B2 : Hid (Below w.heap.size w w2) := B1.out.trans (b2.mono B1.out.size)
          clear b2
          go_wp2_with fail
          refine (HCL.out _).mono ?_
          rintro e w3 ⟨rfl, rfl⟩
          go_wp2_with fail
          go_roundw
          case rel => exact ⟨2, rfl, by omega, B2.out⟩
          case measure => simp [intOf]
        · go_wp2_with fail
          refine (P3.out _ (HT.out.below HB2.out) (HM.out.below HB2.out)).mono ?_
          rintro e w1 ⟨rfl, b1⟩
          have B1 : Hid (Below w.heap.size w w1) := HB2.out.trans (b1.mono HB2.out.size)
          clear b1
          go_wp2_with fail
          refine (R3.out _ (HT.out.below B1.out) (HM.out.below B1.out)).mono ?_
          rintro e w2 ⟨rfl, b2⟩
          have B2 : Hid (Below w.heap.size w w2) := B1.out.trans (b2.mono B1.out.size)
          clear b2
          go_wp2_with fail
          refine (HCL.out _).mono ?_
          rintro e w3 ⟨rfl, rfl⟩
          go_wp2_with fail
          go_roundw
          case rel => exact ⟨3, rfl, by omega, B2.out⟩
          case measure => simp [intOf]
        · go_wp2_with fail
          refine (P4.out _ (HT.out.below HB2.out) (HM.out.below HB2.out)).mono ?_
          rintro e w1 ⟨rfl, b1⟩
          have B1 : Hid (Below w.heap.size w w1) := HB2.out.trans (b1.mono HB2.out.size)
          clear b1
          go_wp2_with fail
          refine (R4.out _ (HT.out.below B1.out) (HM.out.below B1.out)).mono ?_
          rintro e w2 ⟨rfl, b2⟩
          have B2 : Hid (Below w.heap.size w w2) := B1.out.trans (b2.mono B1.out.size)
          clear b2
          go_wp2_with fail
          refine (HCL.out _).mono ?_
          rintro e w3 ⟨rfl, rfl⟩
          go_wp2_with fail
          go_roundw
          case rel => exact ⟨4, rfl, by omega, B2.out⟩
          case measure => simp [intOf]
        · go_wp2_with fail
          refine (raw_any m _ (HT.out.below HB2.out) (HM.out.below HB2.out)).mono ?_
          rintro e w1 ⟨rfl, b1⟩
          go_wp2_with fail
          go_ret
          exact ⟨by exact rfl, HB2.out.trans (b1.mono HB2.out.size)⟩
end Go.Proofs.YtbpdmbmooboimaaDoor.R11
