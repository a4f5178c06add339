/- raws: clean, blank, stands, upTo. raws: named, ends, begins, endOf, scriptEnd. -/
import Derived.Test.YtbpdmbmooboimaaDoorRwp
import Derived.Test.YtbpdmbmooboimaaDoorTg2
import Derived.Test.YtbpdmbmooboimaaDoorAscii2
import Derived.Test.YtbpdmbmooboimaaDoorMx
import Derived.Test.YtbpdmbmooboimaaDoorLin
set_option linter.unusedVariables false
set_option linter.unusedSimpArgs false
namespace Go.Proofs.YtbpdmbmooboimaaDoor.R11
open Go.RowKit R9 T10

theorem blank_any (c : Int) (w : World) : Calls Tryd.prog 65 #[.int .u8 c] w fun e w' => e = .returned (.bool (blI c)) ∧ w = w' := by
  go_enter Tryd.func65, Tryd.ntmps65
  go_wp2
  all_goals (go_ret; refine ⟨ret_bool ?_, rfl⟩; rw [Bool.eq_iff_iff]; simp [blI]; try omega)
theorem repl_lenR (l : List UInt8) : (Lib.replaceAll l [0] [239, 191, 189]).length ≤ 3 * l.length := by
  rw [cleanR_eq]; exact cleanR_len l
theorem count_smallR (s old : ByteArray) (h1 : 1 ≤ old.size) : Lib.countB s old ≤ s.size := Lib.countB_le old h1 s.size s (Nat.le_refl _)
def bytesOf (l : List UInt8) : ByteArray := ⟨l.toArray⟩
theorem bytesOf_size (l : List UInt8) : (bytesOf l).size = l.length := by show l.toArray.size = _; simp
theorem bytesOf_data (l : List UInt8) : (bytesOf l).data.toList = l := by simp [bytesOf]
theorem bytesOf_self (s : ByteArray) : bytesOf s.data.toList = s := by simp [bytesOf]
set_option maxHeartbeats 1000000 in
theorem clean_any (s : ByteArray) (m : Int) (w : World) (hs : s.size ≤ 1000000) (hm : MaxOk m w) :
    Calls Tryd.prog 37 #[.string s] w fun e w' => e = .returned (.string (bytesOf (cleanR s.data.toList))) ∧ Below w.heap.size w w' := by
  have HM := Lib.hid hm
  clear hm
  have HR : Hid ((⟨(Lib.replaceAll s.data.toList (⟨#[0]⟩ : ByteArray).data.toList (⟨#[239, 191, 189]⟩ : ByteArray).data.toList).toArray⟩ : ByteArray) = bytesOf (cleanR s.data.toList)) := by
    show _ = _
    rw [← cleanR_eq]
    rfl
  have c1 := count_smallR s ⟨#[0]⟩ (by decide)
  go_enter Tryd.func37, Tryd.ntmps37
  go_wp2_with fail
  refine (Tryd.strings_ReplaceAll s ⟨#[0]⟩ ⟨#[239, 191, 189]⟩ m _ (by omega) HM.out (by decide) (by rw [show (⟨#[239, 191, 189]⟩ : ByteArray).size = 3 from rfl]; omega)).mono ?_
  rintro e w1 ⟨rfl, b1⟩
  rw [HR.out]
  go_wp2_with fail
  go_ret
  exact ⟨rfl, b1⟩
theorem stands_out (s t : ByteArray) (z : Int) (w : World) (hs : s.size ≤ 1000000) (ht : t.size ≤ 1000) (h : z < 0 ∨ (s.size : Int) < z + t.size) :
    Calls Tryd.prog 35 #[.string s, .int .i64 z, .string t] w fun e w' => e = .returned (.bool false) ∧ Below w.heap.size w w' := by
  by_cases h0 : z < 0
  · clear h
    go_enter Tryd.func35, Tryd.ntmps35
    go_wp2
    go_ret
    exact ⟨rfl, Below.refl _ _⟩
  · have h1 : ¬ z ≤ (s.size : Int) - t.size := by omega
    have h2 : 0 ≤ z := by omega
    clear h h0
    go_enter Tryd.func35, Tryd.ntmps35
    go_wp2
    go_ret
    exact ⟨rfl, Below.refl _ _⟩
theorem stands_in (s t : ByteArray) (a : Nat) (w : World) (hs : s.size ≤ 1000000) (ht : t.size ≤ 1000) (h : a + t.size ≤ s.size) :
    Calls Tryd.prog 35 #[.string s, .int .i64 (a : Int), .string t] w fun e w' => e = .returned (.bool (hasL (s.data.toList.drop a) t.data.toList)) ∧ Below w.heap.size w w' := by
  obtain ⟨B, hB⟩ : ∃ B, a + t.size = B := ⟨_, rfl⟩
  have HS := Lib.hid (fun W => same_any (s.extract a B) t W (by simp; omega) (by omega))
  have e1 : sameL (s.extract a B).data.toList t.data.toList = hasL (s.data.toList.drop a) t.data.toList := by
    unfold hasL
    have hl : t.data.toList.length = t.size := by simp
    rw [ext_toList, hl, ← hB, Nat.add_sub_cancel_left, decide_eq_true (by rw [List.length_drop]; simp; omega)]
    rfl
  rw [e1] at HS
  clear e1
  have i1 : (a : Int) ≤ (s.size : Int) - t.size := by omega
  have i2 : (a : Int) + t.size = B := by omega
  have i3 : (B : Int) ≤ s.size := by omega
  have i4 : (a : Int) ≤ B := by omega
  clear hB
  go_enter Tryd.func35, Tryd.ntmps35
  go_wp2_with fail
  refine (HS.out _).mono ?_
  rintro e w1 ⟨rfl, b1⟩
  go_wp2_with fail
  go_ret
  exact ⟨rfl, b1⟩
/-- Does a text stand at any place? -/
def hasZ (s t : ByteArray) (z : Int) : Bool := decide (0 ≤ z) && hasL (s.data.toList.drop z.toNat) t.data.toList
theorem hasZ_nat (s t : ByteArray) (a : Nat) : hasZ s t (a : Int) = hasL (s.data.toList.drop a) t.data.toList := by
  unfold hasZ
  rw [decide_eq_true (by omega)]
  rfl
theorem hasZ_out {s t : ByteArray} {z : Int} (ht : 1 ≤ t.size) (h : z < 0 ∨ (s.size : Int) < z + t.size) : hasZ s t z = false := by
  unfold hasZ hasL
  by_cases h0 : 0 ≤ z
  · rw [Bool.and_eq_false_iff]
    right
    have h1 : ¬ t.data.toList.length ≤ (s.data.toList.drop z.toNat).length := by
      rw [List.length_drop]
      simp
      omega
    rw [decide_eq_false h1]
    rfl
  · rw [decide_eq_false h0]
    rfl
theorem hasZ_at {s t : ByteArray} {z : Int} (h : hasZ s t z = true) : 0 ≤ z ∧ z.toNat + t.size ≤ s.size ∨ t.size = 0 := by
  unfold hasZ at h
  simp only [Bool.and_eq_true, decide_eq_true_eq] at h
  have := has_len h.2
  rw [List.length_drop] at this
  simp at this
  omega
theorem stands_any (s t : ByteArray) (z : Int) (w : World) (hs : s.size ≤ 1000000) (ht : t.size ≤ 1000) (ht1 : 1 ≤ t.size) :
    Calls Tryd.prog 35 #[.string s, .int .i64 z, .string t] w fun e w' => e = .returned (.bool (hasZ s t z)) ∧ Below w.heap.size w w' := by
  by_cases h : z < 0 ∨ (s.size : Int) < z + t.size
  · rw [hasZ_out ht1 h]
    exact stands_out s t z w hs ht h
  · obtain ⟨a, rfl⟩ : ∃ a : Nat, z = (a : Int) := ⟨z.toNat, by omega⟩
    rw [hasZ_nat]
    exact stands_in s t a w hs ht (by omega)
theorem upTo_any (s t : ByteArray) (m : Int) (w : World) (hs : s.size ≤ 1000000) (ht : t.size ≤ 1000) (ht1 : 1 ≤ t.size) (hm : MaxOk m w) :
    Calls Tryd.prog 40 #[.string s, .string t] w fun e w' => e = .returned (.tuple #[.string (bytesOf (upL s.data.toList t.data.toList).1), .int .i64 ((upL s.data.toList t.data.toList).2.1 : Int), .bool (upL s.data.toList t.data.toList).2.2]) ∧ Below w.heap.size w w' := by
  have HC := Lib.hid (Tryd.strings_Cut s t m w (by omega) hm)
  clear hm
  unfold Lib.cut at HC
  unfold upL
  cases hf : fnd s.data.toList t.data.toList with
  | some i =>
    obtain ⟨h1, h2, _⟩ := fnd_some hf
    have hl : t.data.toList.length = t.size := by simp
    have hl2 : s.data.toList.length = s.size := by simp
    rw [hl, hl2] at h2
    rw [h1, if_pos (by omega)] at HC
    simp only [Int.toNat_natCast] at HC
    have hz : (((⟨(s.data.toList.take i).toArray⟩ : ByteArray)).size : Int) = i := by
      show (((s.data.toList.take i).toArray.size : Nat) : Int) = i
      rw [List.size_toArray, List.length_take, hl2]
      omega
    obtain ⟨T, hT⟩ : ∃ T : ByteArray, (⟨(s.data.toList.take i).toArray⟩ : ByteArray) = T := ⟨_, rfl⟩
    rw [hT] at HC hz
    unfold bytesOf
    simp only [hT, hl]
    have hz2 : T.size = i := by omega
    subst hz2
    have HR : Hid (((T.size + t.size : Nat) : Int) = (T.size : Int) + t.size) := by show _ = _; omega
    rw [HR.out]
    clear hz hl hl2 h1 hf hT
    go_enter Tryd.func40, Tryd.ntmps40
    go_wp2_with fail
    refine HC.out.mono ?_
    rintro e w1 ⟨rfl, n, rfl⟩
    go_wp2_with fail
    go_ret3
    exact ⟨rfl, below_drewN (Below.refl _ _) n⟩
  | none =>
    obtain ⟨h1, _⟩ := fnd_none hf
    rw [h1, if_neg (by omega)] at HC
    simp only [bytesOf_self] at HC ⊢
    have hl2 : Hid (s.data.toList.length = s.size) := by show _ = _; simp
    rw [hl2.out]
    clear h1 hf
    go_enter Tryd.func40, Tryd.ntmps40
    go_wp2_with fail
    refine HC.out.mono ?_
    rintro e w1 ⟨rfl, n, rfl⟩
    go_wp2_with fail
    go_ret3
    exact ⟨rfl, below_drewN (Below.refl _ _) n⟩
end Go.Proofs.YtbpdmbmooboimaaDoor.R11
set_option linter.unusedVariables false
set_option linter.unusedSimpArgs false
namespace Go.Proofs.YtbpdmbmooboimaaDoor.R11
open Go.RowKit R9 T10

theorem hp_any (s p : ByteArray) (w : World) : Calls Tryd.prog 46 #[.string s, .string p] w fun e w' => e = .returned (.bool (p.data.toList.isPrefixOf s.data.toList)) ∧ w = w' := by
  exact (Tryd.strings_HasPrefix s p w).mono fun e w' ⟨h1, h2⟩ => ⟨h1, h2.symm⟩
theorem drop_size (s : ByteArray) (a : Nat) : (s.data.toList.drop a).length = s.size - a := by rw [List.length_drop]; simp
theorem word_at (r nm : List UInt8) (c : UInt8) (h : r[nm.length]? = some c) : wordL r nm = (hasL r nm && (blB c || c == 47 || c == 62)) := by unfold wordL; rw [h]
theorem word_no (r nm : List UInt8) (h : r[nm.length]? = none) : wordL r nm = false := by unfold wordL; rw [h]; simp
set_option maxHeartbeats 1600000 in
theorem named_any (s nm : ByteArray) (a : Nat) (w : World) (hs : s.size ≤ 1000000) (hn : nm.size ≤ 1000) (ha : a ≤ s.size) :
    Calls Tryd.prog 91 #[.string s, .int .i64 (a : Int), .string nm] w fun e w' => e = .returned (.bool (wordL (s.data.toList.drop a) nm.data.toList)) ∧ Below w.heap.size w w' := by
  have hnl : nm.data.toList.length = nm.size := by simp
  obtain ⟨B, hB⟩ : ∃ B, a + nm.size = B := ⟨_, rfl⟩
  have i1 : (a : Int) + nm.size = B := by omega
  by_cases hlt : a + nm.size ≤ s.size
  · have HS := Lib.hid (fun W => stands_in s nm a W hs hn hlt)
    cases hh : hasL (s.data.toList.drop a) nm.data.toList with
    | false =>
      have hw : wordL (s.data.toList.drop a) nm.data.toList = false := by unfold wordL; rw [hh]; rfl
      rw [hw]
      rw [hh] at HS
      clear hh hw hnl hB
      go_enter Tryd.func91, Tryd.ntmps91
      go_wp2_with fail
      refine (HS.out _).mono ?_
      rintro e w1 ⟨rfl, b1⟩
      go_wp2_with fail
      go_ret
      exact ⟨rfl, b1⟩
    | true =>
      rw [hh] at HS
      by_cases hb : B < s.size
      · have hbi : (B : Int) < s.size := by omega
        have hg := at_get hb
        obtain ⟨c, hc⟩ : ∃ c, s[B] = c := ⟨_, rfl⟩
        rw [hc] at hg
        have hr : (s.data.toList.drop a)[nm.data.toList.length]? = some c := by rw [List.getElem?_drop, hnl, hB]; exact hg
        have hw := word_at _ _ _ hr
        rw [hh, Bool.true_and] at hw
        rw [hw]
        have HB := Lib.hid (fun W => blank_any (c.toNat : Int) W)
        have hbl : blI (c.toNat : Int) = blB c := rfl
        rw [hbl] at HB
        cases hcb : blB c with
        | true =>
          rw [hcb] at HB
          rw [Bool.true_or, Bool.true_or]
          clear hh hw hnl hB hcb hbl hr hg
          go_enter Tryd.func91, Tryd.ntmps91
          go_wp2_with fail
          refine (HS.out _).mono ?_
          rintro e w1 ⟨rfl, b1⟩
          go_wp2_with fail
          refine (HB.out _).mono ?_
          rintro e w2 ⟨rfl, rfl⟩
          go_wp2_with fail
          go_ret
          exact ⟨rfl, b1⟩
        | false =>
          rw [hcb] at HB
          rw [Bool.false_or]
          by_cases h47 : c = 47
          · have t0 := byte_is (z := 47) h47 rfl
            have : (c == 47 || c == 62) = true := by rw [h47]; rfl
            rw [this]
            clear hh hw hnl hB hcb hbl hr hg this h47
            go_enter Tryd.func91, Tryd.ntmps91
            go_wp2_with fail
            refine (HS.out _).mono ?_
            rintro e w1 ⟨rfl, b1⟩
            go_wp2_with fail
            refine (HB.out _).mono ?_
            rintro e w2 ⟨rfl, rfl⟩
            go_wp2_with fail
            go_ret
            exact ⟨rfl, b1⟩
          · have t0 := byte_not (z := 47) h47 rfl
            obtain ⟨q, hq⟩ : ∃ q, ((c.toNat : Int) == 62) = q := ⟨_, rfl⟩
            have : (c == 47 || c == 62) = q := by
              rw [← hq]
              have h1 : (c == 47) = false := by simpa using h47
              rw [h1, Bool.false_or]
              by_cases h62 : c = 62
              · rw [byte_is (z := 62) h62 rfl, h62]; rfl
              · rw [byte_not (z := 62) h62 rfl]; simpa using h62
            rw [this]
            clear hh hw hnl hB hcb hbl hr hg this h47
            go_enter Tryd.func91, Tryd.ntmps91
            go_wp2_with fail
            refine (HS.out _).mono ?_
            rintro e w1 ⟨rfl, b1⟩
            go_wp2_with fail
            refine (HB.out _).mono ?_
            rintro e w2 ⟨rfl, rfl⟩
            go_wp2_with fail
            go_ret
            exact ⟨rfl, b1⟩
      · have hbi : ¬ (B : Int) < s.size := by omega
        have hr : (s.data.toList.drop a)[nm.data.toList.length]? = none := by rw [List.getElem?_drop, hnl, hB]; exact at_none hb
        rw [word_no _ _ hr]
        clear hh hnl hB hr
        go_enter Tryd.func91, Tryd.ntmps91
        go_wp2_with fail
        refine (HS.out _).mono ?_
        rintro e w1 ⟨rfl, b1⟩
        go_wp2_with fail
        go_ret
        exact ⟨rfl, b1⟩
  · have HS := Lib.hid (fun W => stands_out s nm a W hs hn (.inr (by omega)))
    have hr : (s.data.toList.drop a)[nm.data.toList.length]? = none := by
      rw [List.getElem?_eq_none]
      rw [List.length_drop, hnl]; simp; omega
    rw [word_no _ _ hr]
    clear hnl hB hr
    go_enter Tryd.func91, Tryd.ntmps91
    go_wp2_with fail
    refine (HS.out _).mono ?_
    rintro e w1 ⟨rfl, b1⟩
    go_wp2_with fail
    go_ret
    exact ⟨rfl, b1⟩
theorem ends_any (s nm : ByteArray) (a : Nat) (w : World) (hs : s.size ≤ 1000000) (hn : nm.size ≤ 1000) (ha : a ≤ s.size) :
    Calls Tryd.prog 69 #[.string s, .int .i64 (a : Int), .string nm] w fun e w' => e = .returned (.bool (endsL (s.data.toList.drop a) nm.data.toList)) ∧ Below w.heap.size w w' := by
  obtain ⟨T, hT⟩ : ∃ T, s.extract a s.size = T := ⟨_, rfl⟩
  have hTl : T.data.toList = s.data.toList.drop a := by rw [← hT]; exact ext_tail s a
  have HP := Lib.hid (fun W => hp_any T ⟨#[60, 47]⟩ W)
  rw [hTl] at HP
  have i0 : (a : Int) ≤ s.size := by omega
  unfold endsL
  have e0 : (⟨#[60, 47]⟩ : ByteArray).data.toList = [60, 47] := rfl
  rw [e0] at HP
  cases hp : [60, 47].isPrefixOf (s.data.toList.drop a) with
  | false =>
    rw [hp] at HP
    rw [Bool.false_and]
    clear hp hTl e0
    go_enter Tryd.func69, Tryd.ntmps69
    go_wp2_with fail
    refine (HP.out _).mono ?_
    rintro e w1 ⟨rfl, rfl⟩
    go_wp2_with fail
    go_ret
    exact ⟨rfl, Below.refl _ _⟩
  | true =>
    rw [hp] at HP
    rw [Bool.true_and]
    have hlen : a + 2 ≤ s.size := by
      have := (List.isPrefixOf_iff_prefix.1 hp).length_le
      rw [drop_size] at this
      simp at this
      omega
    obtain ⟨B, hB⟩ : ∃ B, a + 2 = B := ⟨_, rfl⟩
    have i1 : (a : Int) + 2 = B := by omega
    have HN := Lib.hid (fun W => named_any s nm B W hs hn (by omega))
    rw [List.drop_drop, hB]
    clear hp hTl e0 hB
    go_enter Tryd.func69, Tryd.ntmps69
    go_wp2_with fail
    refine (HP.out _).mono ?_
    rintro e w1 ⟨rfl, rfl⟩
    go_wp2_with fail
    refine (HN.out _).mono ?_
    rintro e w2 ⟨rfl, b2⟩
    go_wp2_with fail
    go_ret
    exact ⟨rfl, b2⟩
theorem begins_any (s nm : ByteArray) (a : Nat) (w : World) (hs : s.size ≤ 1000000) (hn : nm.size ≤ 1000) (ha : a < s.size) :
    Calls Tryd.prog 70 #[.string s, .int .i64 (a : Int), .string nm] w fun e w' => e = .returned (.bool ((s.data.toList.drop a).head? == some 60 && wordL ((s.data.toList.drop a).drop 1) nm.data.toList)) ∧ Below w.heap.size w w' := by
  have hg := at_get ha
  obtain ⟨c, hc⟩ : ∃ c, s[a] = c := ⟨_, rfl⟩
  rw [hc] at hg
  have hai : (a : Int) < s.size := by omega
  have hh : (s.data.toList.drop a).head? = some c := by rw [List.head?_drop]; exact hg
  rw [hh]
  by_cases h60 : c = 60
  · have t0 := byte_is (z := 60) h60 rfl
    have e0 : (some c == some (60 : UInt8)) = true := by rw [h60]; rfl
    rw [e0, Bool.true_and]
    obtain ⟨B, hB⟩ : ∃ B, a + 1 = B := ⟨_, rfl⟩
    have i1 : (a : Int) + 1 = B := by omega
    have HN := Lib.hid (fun W => named_any s nm B W hs hn (by omega))
    rw [List.drop_drop, hB]
    clear hg hh h60 e0 hB
    go_enter Tryd.func70, Tryd.ntmps70
    go_wp2_with fail
    refine (HN.out _).mono ?_
    rintro e w1 ⟨rfl, b1⟩
    go_wp2_with fail
    go_ret
    exact ⟨rfl, b1⟩
  · have t0 := byte_not (z := 60) h60 rfl
    have e0 : (some c == some (60 : UInt8)) = false := by simpa using h60
    rw [e0, Bool.false_and]
    clear hg hh h60 e0
    go_enter Tryd.func70, Tryd.ntmps70
    go_wp2_with fail
    go_ret
    exact ⟨rfl, Below.refl _ _⟩
theorem endN_at (nm : List UInt8) {l : List UInt8} {k : Nat} {c : UInt8} (h : l[k]? = some c) : endN nm (l.drop k) = if endsL (l.drop k) nm = true then 0 else endN nm (l.drop (k + 1)) + 1 := by
  have hl := (List.getElem?_eq_some_iff.1 h).1
  rw [List.drop_eq_getElem_cons hl]
  conv => lhs; unfold endN
theorem scan_at (nm : List UInt8) (st : Nat) {l : List UInt8} {k : Nat} {c : UInt8} (h : l[k]? = some c) : scan nm st (l.drop k) = if st < 2 ∧ endsL (l.drop k) nm = true then 0 else scan nm (nxt st (l.drop k)) (l.drop (k + 1)) + 1 := by
  have hl := (List.getElem?_eq_some_iff.1 h).1
  rw [List.drop_eq_getElem_cons hl]
  conv => lhs; unfold scan
theorem drop_over {s : ByteArray} {k : Nat} (h : ¬ k < s.size) : s.data.toList.drop k = [] := by rw [List.drop_eq_nil_iff]; simp; omega
set_option maxHeartbeats 1600000 in
set_option maxRecDepth 100000 in
theorem endOf_any (s nm : ByteArray) (a : Nat) (w : World) (hs : s.size ≤ 1000000) (hn : nm.size ≤ 1000) (ha : a ≤ s.size) :
    Calls Tryd.prog 48 #[.string s, .int .i64 (a : Int), .string nm] w fun e w' => e = .returned (.int .i64 ((a + endN nm.data.toList (s.data.toList.drop a) : Nat) : Int)) ∧ Below w.heap.size w w' := by
  obtain ⟨Z, hZ⟩ : ∃ Z, a + endN nm.data.toList (s.data.toList.drop a) = Z := ⟨_, rfl⟩
  rw [hZ]
  go_enter Tryd.func48, Tryd.ntmps48
  go_wp2_with fail
  go_loopw [1] (fun i wr => ∃ k : Nat, k ≤ s.size ∧ i = .int .i64 k ∧ Hid (k + endN nm.data.toList (s.data.toList.drop k) = Z) ∧ Hid (Below w.heap.size w wr)) (fun i _ => s.size - (intOf i).toNat)
  case atStart => exact ⟨a, ha, rfl, hZ, Below.refl _ _⟩
  case round =>
    obtain ⟨k, hk, rfl, HZ, HB⟩ := hrel
    clear hZ
    by_cases hlt : k < s.size
    · have hki : (k : Int) < s.size := by omega
      have HE := Lib.hid (fun W => ends_any s nm k W hs hn hk)
      have hst := endN_at nm.data.toList (at_get hlt)
      cases hb : endsL (s.data.toList.drop k) nm.data.toList with
      | true =>
        rw [hb] at HE
        rw [hb, if_pos rfl] at hst
        have HS := Lib.hid hst
        clear hb hst
        go_wp2_with fail
        refine (HE.out _).mono ?_
        rintro e w1 ⟨rfl, b1⟩
        go_wp2_with fail
        go_ret
        exact ⟨by have h1 := HZ.out; have h2 := HS.out; rw [← h1, h2]; rfl, HB.out.trans (b1.mono HB.out.size)⟩
      | false =>
        rw [hb] at HE
        rw [hb, if_neg (by simp)] at hst
        have HS := Lib.hid hst
        clear hb hst
        go_wp2_with fail
        refine (HE.out _).mono ?_
        rintro e w1 ⟨rfl, b1⟩
        go_wp2_with fail
        go_roundw
        case rel => exact ⟨k + 1, by omega, by go_num, by have h1 := HZ.out; have h2 := HS.out; show _ = _; omega, HB.out.trans (b1.mono HB.out.size)⟩
        case measure => simp [intOf]; omega
    · have hki : ¬ (k : Int) < s.size := by omega
      have HS : Hid (endN nm.data.toList (s.data.toList.drop k) = 0) := by show _ = _; rw [drop_over hlt]; rfl
      clear hlt
      go_wp2_with fail
      go_ret
      exact ⟨by have h1 := HZ.out; have h2 := HS.out; rw [← h1, h2]; rfl, HB.out⟩
end Go.Proofs.YtbpdmbmooboimaaDoor.R11
