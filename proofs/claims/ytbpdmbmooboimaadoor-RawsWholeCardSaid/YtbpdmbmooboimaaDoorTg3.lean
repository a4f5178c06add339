/- tags: clean, cutValue, value. -/
import Derived.Test.YtbpdmbmooboimaaDoorTg2
import Derived.Test.YtbpdmbmooboimaaDoorAscii
import Derived.Test.YtbpdmbmooboimaaDoorMx
import Derived.Test.YtbpdmbmooboimaaDoorBuild2
set_option linter.unusedVariables false
set_option linter.unusedSimpArgs false
namespace Go.Proofs.YtbpdmbmooboimaaDoor.T10
open Go.RowKit R9

theorem clean_len (l : List UInt8) : (cleanL l).length ≤ 3 * l.length := by
  induction l with
  | nil => simp [cleanL]
  | cons c r ih =>
    have : (cleanL (c :: r)).length = (cleanB c).length + (cleanL r).length := by simp [cleanL]
    rw [this]
    have : (cleanB c).length ≤ 3 := by unfold cleanB fffd; split <;> simp
    simp
    omega
theorem repl_len (l : List UInt8) : (Lib.replaceAll l [0] fffd).length ≤ 3 * l.length := by
  have h := congrArg List.length (clean_eq l)
  have h2 := clean_len l
  rw [← h] at h2
  simpa [lowL] using h2
theorem count_small (s old : ByteArray) (h1 : 1 ≤ old.size) : Lib.countB s old ≤ s.size := Lib.countB_le old h1 s.size s (Nat.le_refl _)
set_option maxHeartbeats 1000000 in
theorem clean_any (s : ByteArray) (m : Int) (w : World) (hs : s.size ≤ 1000000) (hm : MaxOk m w) :
    Calls Tryd.prog 100 #[.string s] w fun e w' => e = .returned (.string ⟨(cleanL s.data.toList).toArray⟩) ∧ Below w.heap.size w w' := by
  have HM := Lib.hid hm
  clear hm
  obtain ⟨T, hT⟩ : ∃ T : ByteArray, (⟨(Lib.replaceAll s.data.toList (⟨#[0]⟩ : ByteArray).data.toList (⟨#[239, 191, 189]⟩ : ByteArray).data.toList).toArray⟩ : ByteArray) = T := ⟨_, rfl⟩
  have hTs : T.size ≤ 3 * s.size := by
    rw [← hT]
    show (Lib.replaceAll s.data.toList [0] fffd).toArray.size ≤ _
    rw [List.size_toArray]
    have := repl_len s.data.toList
    simpa using this
  have HR : Hid ((⟨(lowL T.data.toList).toArray⟩ : ByteArray) = ⟨(cleanL s.data.toList).toArray⟩) := by
    show _ = _
    rw [← hT, ← clean_eq]
    rfl
  have HT := Lib.hid hT
  clear hT
  have c1 := count_small s ⟨#[0]⟩ (by decide)
  go_enter Tryd.func100, Tryd.ntmps100
  go_wp2_with fail
  refine (Tryd.strings_ReplaceAll s ⟨#[0]⟩ ⟨#[239, 191, 189]⟩ m _ (by omega) HM.out (by decide) (by rw [show (⟨#[239, 191, 189]⟩ : ByteArray).size = 3 from rfl]; omega)).mono ?_
  rintro e w1 ⟨rfl, b1⟩
  rw [HT.out]
  go_wp2_with fail
  refine (lower_any T _ (by omega)).mono ?_
  rintro e w2 ⟨rfl, b2⟩
  rw [HR.out]
  go_wp2_with fail
  go_ret
  exact ⟨rfl, b1.trans (b2.mono b1.size)⟩

theorem index_to : ∀ (l : List UInt8) (c : UInt8), Lib.indexByte l c = if toN c l < l.length then (toN c l : Int) else -1
  | [], c => rfl
  | x :: t, c => by
    have ih := index_to t c
    unfold Lib.indexByte toN
    rw [List.takeWhile_cons]
    by_cases h : x = c
    · subst h
      simp
    · have h1 : (x == c) = false := by simpa using h
      have h2 : (x != c) = true := by simpa using h
      rw [h1, h2, ih]
      unfold toN
      simp only [Bool.false_eq_true, if_false, if_true, List.length_cons]
      generalize (t.takeWhile fun x => x != c).length = n
      simp only [beq_iff_eq]
      repeat' split
      all_goals omega
def retC (x : List UInt8 × Nat) : Value := .tuple #[.string ⟨x.1.toArray⟩, .int .i64 (x.2 : Int)]
theorem ext_arr (s : ByteArray) (a b : Nat) : s.extract a b = ⟨((s.data.toList.drop a).take (b - a)).toArray⟩ := by
  rw [← ext_toList]
set_option maxHeartbeats 1600000 in
set_option maxRecDepth 100000 in
theorem cut_bare (s : ByteArray) (a : Nat) (w : World) (ha : a ≤ s.size) (hs : s.size ≤ 1000000) :
    Calls Tryd.prog 131 #[.string s, .int .i64 a, .int .u8 0] w fun e w' => e = .returned (retC ((s.data.toList.drop a).take (upN stopC (s.data.toList.drop a)), a + upN stopC (s.data.toList.drop a))) ∧ w = w' := by
  have HU := Lib.hid (up_any ⟨#[62]⟩ stopC stops_c s a w ha hs)
  have hu := upN_le stopC (s.data.toList.drop a)
  rw [List.length_drop] at hu
  obtain ⟨E, hE⟩ : ∃ E, a + upN stopC (s.data.toList.drop a) = E := ⟨_, rfl⟩
  have hx : Hid ((⟨((s.data.toList.drop a).take (upN stopC (s.data.toList.drop a))).toArray⟩ : ByteArray) = s.extract a E) := by
    show _ = _
    rw [ext_arr, ← hE, Nat.add_sub_cancel_left]
  unfold retC
  rw [hE] at HU
  rw [hx.out, hE]
  have hEs : E ≤ s.size := by simp at hu; omega
  have haE : a ≤ E := by omega
  have i1 : (E : Int) ≤ s.size := by omega
  have i2 : (a : Int) ≤ E := by omega
  clear hu hE
  go_enter Tryd.func131, Tryd.ntmps131
  go_wp2_with fail
  refine HU.out.mono ?_
  rintro e w' ⟨rfl, rfl⟩
  go_wp2_with fail
  go_ret2
  exact ⟨rfl, rfl⟩
set_option maxHeartbeats 1600000 in
set_option maxRecDepth 100000 in
theorem cut_quote (s : ByteArray) (a : Nat) (q : UInt8) (w : World) (ha : a ≤ s.size) (hs : s.size ≤ 1000000) (hq : ¬ q = 0) :
    Calls Tryd.prog 131 #[.string s, .int .i64 a, .int .u8 (q.toNat : Int)] w fun e w' => e = .returned (retC (if a + toN q (s.data.toList.drop a) < s.size then ((s.data.toList.drop a).take (toN q (s.data.toList.drop a)), a + toN q (s.data.toList.drop a) + 1) else ([], s.size))) ∧ w = w' := by
  have q0 := byte_not (z := 0) hq rfl
  obtain ⟨T, hT⟩ : ∃ T, s.extract a s.size = T := ⟨_, rfl⟩
  have hTl : T.data.toList = s.data.toList.drop a := by rw [← hT]; exact ext_tail s a
  have HI := Lib.hid (ib_any T q w)
  rw [hTl, index_to, List.length_drop] at HI
  obtain ⟨n, hn⟩ : ∃ n, toN q (s.data.toList.drop a) = n := ⟨_, rfl⟩
  rw [hn] at HI
  have hl : s.data.toList.length = s.size := by simp
  rw [hl] at HI
  have i0 : (a : Int) ≤ s.size := by omega
  rw [hn]
  by_cases h : a + n < s.size
  · have h2 : n < s.size - a := by omega
    rw [if_pos h2] at HI
    rw [if_pos h]
    obtain ⟨E, hE⟩ : ∃ E, a + n = E := ⟨_, rfl⟩
    have hx : Hid ((⟨((s.data.toList.drop a).take n).toArray⟩ : ByteArray) = s.extract a E) := by
      show _ = _
      rw [ext_arr, ← hE, Nat.add_sub_cancel_left]
    unfold retC
    simp only []
    rw [hE, hx.out]
    have i1 : (a : Int) + n = E := by omega
    have i2 : (E : Int) ≤ s.size := by omega
    have i3 : (a : Int) ≤ E := by omega
    have i4 : ¬ (n : Int) < 0 := by omega
    have i5 : a ≤ E := by omega
    have i6 : E ≤ s.size := by omega
    obtain ⟨F, hF⟩ : ∃ F, E + 1 = F := ⟨_, rfl⟩
    have i7 : (E : Int) + 1 = F := by omega
    rw [hF]
    clear hTl hn hl hE h h2 hF hq
    go_enter Tryd.func131, Tryd.ntmps131
    go_wp2_with fail
    refine HI.out.mono ?_
    rintro e w' ⟨rfl, rfl⟩
    go_wp2_with fail
    go_ret2
    exact ⟨rfl, rfl⟩
  · have h2 : ¬ n < s.size - a := by omega
    rw [if_neg h2] at HI
    rw [if_neg h]
    unfold retC
    clear hTl hn hl h h2 hq
    go_enter Tryd.func131, Tryd.ntmps131
    go_wp2_with fail
    refine HI.out.mono ?_
    rintro e w' ⟨rfl, rfl⟩
    go_wp2_with fail
    go_ret2
    exact ⟨rfl, rfl⟩
theorem enc_len (c : Int) : (Utf8.encode c).data.toList.length ≤ 4 := by
  unfold Utf8.encode
  simp only []
  repeat' split
  all_goals simp
theorem val_hit {l : List UInt8} {k : Nat} {ch : Int} {j : Nat} (h : findS (l.drop k) true = some (ch, j)) : valL (l.drop k) = (Utf8.encode ch).data.toList ++ valL (l.drop (k + j)) := by
  have hb := find_bounds h
  obtain ⟨c, r, hr⟩ : ∃ c r, l.drop k = c :: r := by
    cases hd : l.drop k with
    | nil => rw [hd] at hb; simp at hb
    | cons c r => exact ⟨c, r, rfl⟩
  rw [← List.drop_drop]
  rw [hr] at h hb ⊢
  conv => lhs; unfold valL
  show valF (r.length + 1) (c :: r) = _
  unfold valF
  rw [h]
  simp only []
  rw [valF_more _ _ (by rw [List.length_drop]; simp; omega)]
theorem val_miss {l : List UInt8} {k : Nat} {c : UInt8} (hc : l[k]? = some c) (h : findS (l.drop k) true = none) : valL (l.drop k) = (if c = 0 then fffd else [c]) ++ valL (l.drop (k + 1)) := by
  have hl := (List.getElem?_eq_some_iff.1 hc).1
  have hd : l.drop k = c :: l.drop (k + 1) := by
    rw [List.drop_eq_getElem_cons hl]
    congr 1
    exact (List.getElem?_eq_some_iff.1 hc).2
  rw [hd] at h ⊢
  conv => lhs; unfold valL
  show valF ((l.drop (k + 1)).length + 1) (c :: l.drop (k + 1)) = _
  unfold valF
  rw [h]
  simp only []
  rw [valF_more _ _ (Nat.le_refl _)]
theorem byteCells_str (s : ByteArray) : Lib.strCells s = Lib.byteCells s.data.toList := rfl
set_option maxHeartbeats 3200000 in
set_option maxRecDepth 100000 in
theorem value_any (s : ByteArray) (w : World) (hT : RTab w) (hs : s.size ≤ 5000) :
    Calls Tryd.prog 132 #[.string s] w fun e w' => e = .returned (.string ⟨(valL s.data.toList).toArray⟩) ∧ Below w.heap.size w w' := by
  obtain ⟨Z, hZ⟩ : ∃ Z, valL s.data.toList = Z := ⟨_, rfl⟩
  rw [hZ]
  have HT := Lib.hid hT
  clear hT
  have HZ0 : Hid (([] : List UInt8) ++ valL (s.data.toList.drop 0) = Z) := hZ
  clear hZ
  go_enter Tryd.func132, Tryd.ntmps132
  go_wp2
  go_loopw [4] (fun i wr => ∃ (k : Nat) (o : List UInt8), k ≤ s.size ∧ o.length ≤ 4 * k ∧ i = .int .i64 k ∧ Hid (o ++ valL (s.data.toList.drop k) = Z) ∧ IsB w.heap.size w.heap.size (Lib.byteCells o) wr ∧ Below w.heap.size w wr) (fun i _ => s.size - (intOf i).toNat)
  case atStart =>
    exact ⟨0, [], Nat.zero_le _, Nat.zero_le _, rfl, HZ0, Lib.IsBuilderF.of (Lib.fresh_isBuilder 86 5 w), (Below.refl _ w).alloc (Nat.le_refl _) _⟩
  case round =>
    obtain ⟨k, o, hk, ho, rfl, HZ, hI, hb⟩ := hrel
    have hsz := hb.size
    by_cases hlt : k < s.size
    · have hki : (k : Int) < s.size := by omega
      have hlen : (Lib.byteCells o).length ≤ 4 * k := by rw [Lib.byteCells_length]; exact ho
      have HFI := Lib.hid (find_in s k true wr (HT.out.below (hb.mono (Nat.le_refl _))) hlt hs)
      have hg := at_get hlt
      obtain ⟨c, hc⟩ : ∃ c, s[k] = c := ⟨_, rfl⟩
      rw [hc] at hg
      cases hf : findS (s.data.toList.drop k) true with
      | some x =>
        obtain ⟨ch, j⟩ := x
        have hj := find_bounds hf
        rw [List.length_drop] at hj
        have hl : s.data.toList.length = s.size := by simp
        have hv := val_hit hf
        have he := enc_len ch
        have e1 : ret3 k (some (ch, j)) = .tuple #[.string (Utf8.encode ch), .int .i64 ((k + j : Nat) : Int), .bool true] := rfl
        rw [hf, e1] at HFI
        clear e1
        obtain ⟨T, hT⟩ : ∃ T, Utf8.encode ch = T := ⟨_, rfl⟩
        rw [hT] at HFI hv he
        obtain ⟨J, hJ⟩ : ∃ J, k + j = J := ⟨_, rfl⟩
        rw [hJ] at HFI hv
        have HV := Lib.hid hv
        have hTs : T.size ≤ 4 := by simpa using he
        have hJ2 : k + 3 ≤ J := by omega
        have hJs : J ≤ s.size := by omega
        clear hf hj hl hv hT hg he hJ
        go_wp2_with fail
        refine HFI.out.mono ?_
        rintro e w' ⟨rfl, rfl⟩
        go_wp2_with fail
        refine (writeString_k w.heap.size w.heap.size _ T _ hI (by omega) hsz).mono ?_
        rintro e W1 ⟨rfl, h1, b1, k1⟩
        go_wp2_with fail
        go_roundw
        case rel =>
          refine ⟨J, o ++ T.data.toList, hJs, ?_, rfl, ?_, ?_, hb.trans b1⟩
          · rw [List.length_append]; simp; omega
          · show _ = _
            rw [List.append_assoc, ← HV.out]; exact HZ.out
          · rw [Lib.byteCells_append]; exact h1
        case measure => simp [intOf]; omega
      | none =>
        have hv := val_miss hg hf
        have e1 : ret3 k none = .tuple #[.string ⟨#[]⟩, .int .i64 0, .bool false] := rfl
        rw [hf, e1] at HFI
        clear e1
        have HV := Lib.hid hv
        by_cases h0 : c = 0
        · have t0 := byte_is (z := 0) h0 rfl
          rw [if_pos h0] at HV
          clear hf hv hg h0
          go_wp2_with fail
          refine HFI.out.mono ?_
          rintro e w' ⟨rfl, rfl⟩
          go_wp2_with fail
          refine (writeString_k w.heap.size w.heap.size _ ⟨#[239, 191, 189]⟩ _ hI (by rw [show (⟨#[239, 191, 189]⟩ : ByteArray).size = 3 from rfl]; omega) hsz).mono ?_
          rintro e W1 ⟨rfl, h1, b1, k1⟩
          go_wp2_with fail
          go_roundw
          case rel =>
            refine ⟨k + 1, o ++ fffd, by omega, ?_, by go_num, ?_, ?_, hb.trans b1⟩
            · rw [List.length_append]; simp [fffd]; omega
            · show _ = _
              rw [List.append_assoc, ← HV.out]; exact HZ.out
            · rw [Lib.byteCells_append]; exact h1
          case measure => simp [intOf]; omega
        · have t0 := byte_not (z := 0) h0 rfl
          rw [if_neg h0] at HV
          clear hf hv hg h0
          go_wp2_with fail
          refine HFI.out.mono ?_
          rintro e w' ⟨rfl, rfl⟩
          go_wp2_with fail
          refine (writeByte_k w.heap.size w.heap.size _ _ _ hI (by omega) hsz).mono ?_
          rintro e W1 ⟨rfl, h1, b1, k1⟩
          go_wp2_with fail
          go_roundw
          case rel =>
            refine ⟨k + 1, o ++ [c], by omega, ?_, by go_num, ?_, ?_, hb.trans b1⟩
            · rw [List.length_append]; simp; omega
            · show _ = _
              rw [List.append_assoc, ← HV.out]; exact HZ.out
            · rw [Lib.byteCells_append]; exact h1
          case measure => simp [intOf]; omega
    · have hki : ¬ (k : Int) < s.size := by omega
      have hZo : Hid (Z = o) := by
        have h := HZ.out
        rw [List.drop_of_length_le (by simp; omega)] at h
        show _ = _
        rw [← h]
        simp [valL, valF]
      go_wp2_with fail
      refine (Tryd.Builder_String_any_k w.heap.size w.heap.size o _ hI (by omega)).mono ?_
      rintro e W1 ⟨rfl, _, b1, _⟩
      go_wp2_with fail
      go_ret
      exact ⟨by rw [hZo.out]; rfl, hb.trans b1⟩
end Go.Proofs.YtbpdmbmooboimaaDoor.T10
