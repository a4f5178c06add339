/- lazaretref11: Clean, stands, find, word. lazaretref11: word, until. (Made by tools/gen/rw8.py.) -/
import Derived.Test.YtbpdmbmooboimaaDoorRwq
import Derived.Test.YtbpdmbmooboimaaDoorRw5
set_option linter.unusedVariables false
set_option linter.unusedSimpArgs false
namespace Go.Proofs.YtbpdmbmooboimaaDoor.R11
open Go.RowKit R9 T10

theorem take_snoc' {l : List UInt8} {k : Nat} {c : UInt8} (h : l[k]? = some c) : l.take (k + 1) = l.take k ++ [c] := by
  rw [List.take_add_one, h]
  rfl
theorem app_data (A B : ByteArray) : (A ++ B).data.toList = A.data.toList ++ B.data.toList := by rw [ByteArray.data_append, Array.toList_append]
theorem one_byte' (s : ByteArray) (k J : Nat) (c : UInt8) (hJ : k + 1 = J) (h : s.data.toList[k]? = some c) : (s.extract k J).data.toList = [c] := by
  subst hJ
  have hl := (List.getElem?_eq_some_iff.1 h).1
  rw [ext_toList, List.drop_eq_getElem_cons hl, (List.getElem?_eq_some_iff.1 h).2, Nat.add_sub_cancel_left]
  rfl
theorem ba_ext {A B : ByteArray} (h : A.data.toList = B.data.toList) : A = B := by
  cases A; cases B
  congr 1
  exact Array.toList_inj.1 h
set_option maxHeartbeats 1600000 in
set_option maxRecDepth 100000 in
theorem rclean_any (s : ByteArray) (w : World) (hs : s.size ≤ 1000000) : Calls Tryd.prog 24 #[.string s] w fun e w' => e = .returned (.string (bytesOf (cleanR s.data.toList))) ∧ w = w' := by
  go_enter Tryd.func24, Tryd.ntmps24
  go_wp2_with fail
  go_loop [3, 4] (fun o i => ∃ (k : Nat) (T : ByteArray), k ≤ s.size ∧ T.size ≤ 3 * k ∧ i = .int .i64 k ∧ o = .string T ∧ Hid (T.data.toList = cleanR (s.data.toList.take k))) (fun _ i => s.size - (intOf i).toNat)
  case atStart => exact ⟨0, ⟨#[]⟩, Nat.zero_le _, Nat.zero_le _, rfl, rfl, rfl⟩
  case round =>
    obtain ⟨k, T, hk, hTs, rfl, rfl, HT⟩ := hrel
    by_cases hlt : k < s.size
    · have hki : (k : Int) < s.size := by omega
      obtain ⟨J, hJ⟩ : ∃ J, k + 1 = J := ⟨_, rfl⟩
      have hJi : (k : Int) + 1 = J := by omega
      have hJs : (J : Int) ≤ s.size := by omega
      have hkJ : (k : Int) ≤ J := by omega
      have hg := at_get hlt
      obtain ⟨c, hc⟩ : ∃ c, s[k] = c := ⟨_, rfl⟩
      rw [hc] at hg
      obtain ⟨X, hX⟩ : ∃ X, s.extract k J = X := ⟨_, rfl⟩
      have hXl : X.data.toList = [c] := by rw [← hX]; exact one_byte' s k J c hJ hg
      have hXs : X.size = 1 := by have := congrArg List.length hXl; simpa using this
      have HS := Lib.hid (take_snoc' hg)
      by_cases h0 : c = 0
      · have t0 := byte_is (z := 0) h0 rfl
        have HV : Hid ((T ++ (⟨#[239, 191, 189]⟩ : ByteArray)).data.toList = cleanR (s.data.toList.take J)) := by
          show _ = _
          rw [app_data, HT.out, ← hJ, HS.out, cleanR_app, h0]
          rfl
        have hz : (T ++ (⟨#[239, 191, 189]⟩ : ByteArray)).size ≤ 3 * J := by rw [ByteArray.size_append]; show T.size + 3 ≤ _; omega
        clear hg hXl h0 hX HS
        have HJ := Lib.hid hJ
        clear hJ
        go_wp2_with fail
        go_round
        case rel => exact ⟨J, _, by have := HJ.out; omega, hz, by have := HJ.out; go_num, rfl, HV.out⟩
        case measure => simp [intOf]; have := HJ.out; omega
      · have t0 := byte_not (z := 0) h0 rfl
        have HV : Hid ((T ++ X).data.toList = cleanR (s.data.toList.take J)) := by
          show _ = _
          rw [app_data, HT.out, ← hJ, HS.out, cleanR_app, hXl]
          simp [cleanR, cleanC, h0]
        have hz : (T ++ X).size ≤ 3 * J := by rw [ByteArray.size_append]; omega
        clear hg hXl h0 HS
        have HJ := Lib.hid hJ
        clear hJ
        go_wp2_with fail
        go_round
        case rel => exact ⟨J, _, by have := HJ.out; omega, hz, by have := HJ.out; go_num, rfl, HV.out⟩
        case measure => simp [intOf]; have := HJ.out; omega
    · have hki : ¬ (k : Int) < s.size := by omega
      have HR : Hid (T = bytesOf (cleanR s.data.toList)) := by
        show _ = _
        apply ba_ext
        rw [HT.out, List.take_of_length_le (by simp; omega), bytesOf_data]
      clear hlt
      go_wp2_with fail
      go_ret
      exact ⟨by rw [HR.out]; rfl, rfl⟩
theorem rstands_out (s t : ByteArray) (z : Int) (w : World) (hs : s.size ≤ 1000000) (ht : t.size ≤ 2000) (h : z < 0 ∨ (s.size : Int) < z + t.size) :
    Calls Tryd.prog 38 #[.string s, .int .i64 z, .string t] w fun e w' => e = .returned (.bool false) ∧ Below w.heap.size w w' := by
  by_cases h0 : z < 0
  · clear h
    go_enter Tryd.func38, Tryd.ntmps38
    go_wp2_with fail
    go_ret
    exact ⟨rfl, Below.refl _ _⟩
  · have h2 : 0 ≤ z := by omega
    by_cases h3 : z ≤ s.size
    · have h1 : ¬ (t.size : Int) ≤ (s.size : Int) - z := by omega
      clear h h0
      go_enter Tryd.func38, Tryd.ntmps38
      go_wp2_with fail
      go_ret
      exact ⟨rfl, Below.refl _ _⟩
    · clear h h0
      go_enter Tryd.func38, Tryd.ntmps38
      go_wp2_with fail
      go_ret
      exact ⟨rfl, Below.refl _ _⟩
theorem rstands_in (s t : ByteArray) (a : Nat) (w : World) (hs : s.size ≤ 1000000) (ht : t.size ≤ 2000) (h : a + t.size ≤ s.size) :
    Calls Tryd.prog 38 #[.string s, .int .i64 (a : Int), .string t] w fun e w' => e = .returned (.bool (hasL (s.data.toList.drop a) t.data.toList)) ∧ Below w.heap.size w w' := by
  obtain ⟨B, hB⟩ : ∃ B, a + t.size = B := ⟨_, rfl⟩
  have HS := Lib.hid (fun W => rsame_any (s.extract a B) t W (by simp; omega) (by omega))
  have e1 : sameL (s.extract a B).data.toList t.data.toList = hasL (s.data.toList.drop a) t.data.toList := by
    unfold hasL
    have hl : t.data.toList.length = t.size := by simp
    rw [ext_toList, hl, ← hB, Nat.add_sub_cancel_left, decide_eq_true (by rw [List.length_drop]; simp; omega)]
    rfl
  rw [e1] at HS
  clear e1
  have i0 : (a : Int) ≤ s.size := by omega
  have i1 : (t.size : Int) ≤ (s.size : Int) - a := by omega
  have i2 : (a : Int) + t.size = B := by omega
  have i3 : (B : Int) ≤ s.size := by omega
  have i4 : (a : Int) ≤ B := by omega
  clear hB
  go_enter Tryd.func38, Tryd.ntmps38
  go_wp2_with fail
  refine (HS.out _).mono ?_
  rintro e w1 ⟨rfl, b1⟩
  go_wp2_with fail
  go_ret
  exact ⟨rfl, b1⟩
theorem rstands_any (s t : ByteArray) (z : Int) (w : World) (hs : s.size ≤ 1000000) (ht : t.size ≤ 2000) (ht1 : 1 ≤ t.size) :
    Calls Tryd.prog 38 #[.string s, .int .i64 z, .string t] w fun e w' => e = .returned (.bool (hasZ s t z)) ∧ Below w.heap.size w w' := by
  by_cases h : z < 0 ∨ (s.size : Int) < z + t.size
  · rw [hasZ_out ht1 h]
    exact rstands_out s t z w hs ht h
  · obtain ⟨a, rfl⟩ : ∃ a : Nat, z = (a : Int) := ⟨z.toNat, by omega⟩
    rw [hasZ_nat]
    exact rstands_in s t a w hs ht (by omega)
/-- The place of a text, or -1. -/
def fndZ (l t : List UInt8) (a : Nat) : Int := match fnd (l.drop a) t with | some i => ((a + i : Nat) : Int) | none => -1
theorem fndZ_hit {l t : List UInt8} {a : Nat} (h : t.isPrefixOf (l.drop a) = true) : fndZ l t a = a := by unfold fndZ; rw [fnd_hit h]; rfl
theorem fndZ_miss {l t : List UInt8} {a : Nat} {c : UInt8} (hc : l[a]? = some c) (h : t.isPrefixOf (l.drop a) = false) : fndZ l t a = fndZ l t (a + 1) := by
  have hl := (List.getElem?_eq_some_iff.1 hc).1
  have hd := List.drop_eq_getElem_cons hl
  unfold fndZ
  rw [hd] at h ⊢
  rw [fnd_miss h]
  cases fnd (l.drop (a + 1)) t with
  | none => rfl
  | some i => show ((a + (i + 1) : Nat) : Int) = ((a + 1 + i : Nat) : Int); omega
theorem fndZ_end {l t : List UInt8} {a : Nat} (h : l.length < a + t.length) (ht : t ≠ []) : fndZ l t a = -1 := by
  unfold fndZ
  cases hf : fnd (l.drop a) t with
  | none => rfl
  | some i =>
    have := (fnd_some hf).2.1
    rw [List.length_drop] at this
    have ht2 : 0 < t.length := List.length_pos_iff.2 ht
    omega
set_option maxHeartbeats 1600000 in
set_option maxRecDepth 100000 in
theorem rfindT_any (s t : ByteArray) (a : Nat) (w : World) (hs : s.size ≤ 1000000) (ht : t.size ≤ 1000) (ht1 : 1 ≤ t.size) (ha : a ≤ s.size) :
    Calls Tryd.prog 39 #[.string s, .int .i64 (a : Int), .string t] w fun e w' => e = .returned (.int .i64 (fndZ s.data.toList t.data.toList a)) ∧ w = w' := by
  obtain ⟨Z, hZ⟩ : ∃ Z, fndZ s.data.toList t.data.toList a = Z := ⟨_, rfl⟩
  rw [hZ]
  have hsl : s.data.toList.length = s.size := by simp
  have htl : t.data.toList.length = t.size := by simp
  have HSL := Lib.hid hsl
  have HTL := Lib.hid htl
  clear hsl htl
  go_enter Tryd.func39, Tryd.ntmps39
  go_wp2_with fail
  go_loop [1] (fun i => ∃ k : Nat, k ≤ s.size + 1 ∧ i = .int .i64 k ∧ Hid (fndZ s.data.toList t.data.toList k = Z)) (fun i => s.size + 1 - (intOf i).toNat)
  case atStart => exact ⟨a, by omega, rfl, hZ⟩
  case round =>
    obtain ⟨k, hk, rfl, HZ⟩ := hrel
    clear hZ
    obtain ⟨K, hK⟩ : ∃ K, k + t.size = K := ⟨_, rfl⟩
    have hKi : (k : Int) + t.size = K := by omega
    by_cases hle : K ≤ s.size
    · have hKs : (K : Int) ≤ s.size := by omega
      have hkK : (k : Int) ≤ K := by omega
      have hlt : k < s.size := by omega
      obtain ⟨X, hX⟩ : ∃ X, s.extract k K = X := ⟨_, rfl⟩
      have hXl : X.data.toList = (s.data.toList.drop k).take t.size := by rw [← hX, ext_toList, ← hK, Nat.add_sub_cancel_left]
      have hq : (X.toList == t.toList) = t.data.toList.isPrefixOf (s.data.toList.drop k) := by
        rw [prefix_take, ByteArray.toList_eq, ByteArray.toList_eq, hXl, HTL.out, decide_eq_true (by rw [List.length_drop, HSL.out]; omega), Bool.true_and]
      cases hp : t.data.toList.isPrefixOf (s.data.toList.drop k) with
      | true =>
        rw [hp] at hq
        have HF := Lib.hid (fndZ_hit hp)
        have HK := Lib.hid hK
        clear hp hXl hK
        go_wp2_with fail
        go_ret
        exact ⟨by have h1 := HZ.out; have h2 := HF.out; rw [← h1, h2]; rfl, rfl⟩
      | false =>
        rw [hp] at hq
        have HF := Lib.hid (fndZ_miss (at_get hlt) hp)
        have HK := Lib.hid hK
        clear hp hXl hK
        go_wp2_with fail
        go_round
        case rel => exact ⟨k + 1, by omega, by go_num, by have h1 := HZ.out; rw [HF.out] at h1; exact h1⟩
        case measure => simp [intOf]; omega
    · have hKs : ¬ (K : Int) ≤ s.size := by omega
      have HF : Hid (fndZ s.data.toList t.data.toList k = -1) := fndZ_end (by rw [HSL.out, HTL.out]; omega) (by intro e; have := HTL.out; rw [e] at this; simp at this; omega)
      clear hle hK
      go_wp2_with fail
      go_ret
      exact ⟨by have h1 := HZ.out; have h2 := HF.out; rw [← h1, h2]; rfl, rfl⟩
end Go.Proofs.YtbpdmbmooboimaaDoor.R11
set_option linter.unusedVariables false
set_option linter.unusedSimpArgs false
namespace Go.Proofs.YtbpdmbmooboimaaDoor.R11
open Go.RowKit R9 T10

theorem rblankL_any (c : Int) (w : World) : Calls Tryd.prog 44 #[.int .u8 c] w fun e w' => e = .returned (.bool (blI c)) ∧ w = w' := by
  go_enter Tryd.func44, Tryd.ntmps44
  go_wp2
  all_goals (go_ret; refine ⟨ret_bool ?_, rfl⟩; rw [Bool.eq_iff_iff]; simp [blI]; try omega)

set_option maxHeartbeats 1600000 in
theorem rword_any (s nm : ByteArray) (a : Nat) (w : World) (hs : s.size ≤ 1000000) (hn : nm.size ≤ 2000) (ha : a ≤ s.size) :
    Calls Tryd.prog 74 #[.string s, .int .i64 (a : Int), .string nm] w fun e w' => e = .returned (.bool (wordL (s.data.toList.drop a) nm.data.toList)) ∧ Below w.heap.size w w' := by
  have hnl : nm.data.toList.length = nm.size := by simp
  obtain ⟨B, hB⟩ : ∃ B, a + nm.size = B := ⟨_, rfl⟩
  have i1 : (a : Int) + nm.size = B := by omega
  by_cases hlt : a + nm.size ≤ s.size
  · have HS := Lib.hid (fun W => rstands_in s nm a W hs hn hlt)
    cases hh : hasL (s.data.toList.drop a) nm.data.toList with
    | false =>
      have hw : wordL (s.data.toList.drop a) nm.data.toList = false := by unfold wordL; rw [hh]; rfl
      rw [hw]
      rw [hh] at HS
      clear hh hw hnl hB
      go_enter Tryd.func74, Tryd.ntmps74
      go_wp2_with fail
      refine (HS.out _).mono ?_
      rintro e w1 ⟨rfl, b1⟩
      go_wp2_with fail
      go_ret
      exact ⟨rfl, b1⟩
    | true =>
      rw [hh] at HS
      by_cases hb : B < s.size
      · have hbi : (B : Int) < s.size := by omega
        have hg := at_get hb
        obtain ⟨c, hc⟩ : ∃ c, s[B] = c := ⟨_, rfl⟩
        rw [hc] at hg
        have hr : (s.data.toList.drop a)[nm.data.toList.length]? = some c := by rw [List.getElem?_drop, hnl, hB]; exact hg
        have hw := word_at _ _ _ hr
        rw [hh, Bool.true_and] at hw
        rw [hw]
        have HB := Lib.hid (fun W => rblankL_any (c.toNat : Int) W)
        have hbl : blI (c.toNat : Int) = blB c := rfl
        rw [hbl] at HB
        cases hcb : blB c with
        | true =>
          rw [hcb] at HB
          rw [Bool.true_or, Bool.true_or]
          clear hh hw hnl hB hcb hbl hr hg
          go_enter Tryd.func74, Tryd.ntmps74
          go_wp2_with fail
          refine (HS.out _).mono ?_
          rintro e w1 ⟨rfl, b1⟩
          go_wp2_with fail
          refine (HB.out _).mono ?_
          rintro e w2 ⟨rfl, rfl⟩
          go_wp2_with fail
          go_ret
          exact ⟨rfl, b1⟩
        | false =>
          rw [hcb] at HB
          rw [Bool.false_or]
          by_cases h47 : c = 47
          · have t0 := byte_is (z := 47) h47 rfl
            have : (c == 47 || c == 62) = true := by rw [h47]; rfl
            rw [this]
            clear hh hw hnl hB hcb hbl hr hg this h47
            go_enter Tryd.func74, Tryd.ntmps74
            go_wp2_with fail
            refine (HS.out _).mono ?_
            rintro e w1 ⟨rfl, b1⟩
            go_wp2_with fail
            refine (HB.out _).mono ?_
            rintro e w2 ⟨rfl, rfl⟩
            go_wp2_with fail
            go_ret
            exact ⟨rfl, b1⟩
          · have t0 := byte_not (z := 47) h47 rfl
            obtain ⟨q, hq⟩ : ∃ q, ((c.toNat : Int) == 62) = q := ⟨_, rfl⟩
            have : (c == 47 || c == 62) = q := by
              rw [← hq]
              have h1 : (c == 47) = false := by simpa using h47
              rw [h1, Bool.false_or]
              by_cases h62 : c = 62
              · rw [byte_is (z := 62) h62 rfl, h62]; rfl
              · rw [byte_not (z := 62) h62 rfl]; simpa using h62
            rw [this]
            clear hh hw hnl hB hcb hbl hr hg this h47
            go_enter Tryd.func74, Tryd.ntmps74
            go_wp2_with fail
            refine (HS.out _).mono ?_
            rintro e w1 ⟨rfl, b1⟩
            go_wp2_with fail
            refine (HB.out _).mono ?_
            rintro e w2 ⟨rfl, rfl⟩
            go_wp2_with fail
            go_ret
            exact ⟨rfl, b1⟩
      · have hbi : ¬ (B : Int) < s.size := by omega
        have hr : (s.data.toList.drop a)[nm.data.toList.length]? = none := by rw [List.getElem?_drop, hnl, hB]; exact at_none hb
        rw [word_no _ _ hr]
        clear hh hnl hB hr
        go_enter Tryd.func74, Tryd.ntmps74
        go_wp2_with fail
        refine (HS.out _).mono ?_
        rintro e w1 ⟨rfl, b1⟩
        go_wp2_with fail
        go_ret
        exact ⟨rfl, b1⟩
  · have HS := Lib.hid (fun W => rstands_out s nm a W hs hn (.inr (by omega)))
    have hr : (s.data.toList.drop a)[nm.data.toList.length]? = none := by
      rw [List.getElem?_eq_none]
      rw [List.length_drop, hnl]; simp; omega
    rw [word_no _ _ hr]
    clear hnl hB hr
    go_enter Tryd.func74, Tryd.ntmps74
    go_wp2_with fail
    refine (HS.out _).mono ?_
    rintro e w1 ⟨rfl, b1⟩
    go_wp2_with fail
    go_ret
    exact ⟨rfl, b1⟩

theorem word_ends (r nm : List UInt8) : wordL r ([60, 47] ++ nm) = endsL r nm := by
  unfold wordL endsL
  rw [has_app, has_plain r [60, 47] (by decide)]
  unfold wordL
  rw [List.getElem?_drop, List.length_append]
  cases [60, 47].isPrefixOf r <;> simp
theorem word_beg (r : List UInt8) : wordL r (60 :: scr) = begL r := by
  have e : (60 :: scr) = [60] ++ scr := rfl
  have e2 : [60].isPrefixOf r = (r.head? == some (60 : UInt8)) := by
    cases r with
    | nil => rfl
    | cons x t =>
      rw [Bool.eq_iff_iff]
      simp [List.isPrefixOf]
      exact eq_comm
  unfold begL
  rw [e]
  unfold wordL
  rw [has_app, has_plain r [60] (by decide), e2, List.getElem?_drop, List.length_append]
  cases (r.head? == some (60 : UInt8)) <;> simp
theorem runt_stop {nm l : List UInt8} {sc : Bool} {k z d : Nat} {c : UInt8} (h : l[k]? = some c) (hz : z < 2) (he : endsL (l.drop k) nm = true) : runt nm sc z d (l.drop k) = 0 := by
  have hl := (List.getElem?_eq_some_iff.1 h).1
  rw [List.drop_eq_getElem_cons hl] at he ⊢
  unfold runt
  rw [if_pos ⟨hz, he⟩]
theorem runt_flat {nm l : List UInt8} {k z d : Nat} {c : UInt8} (h : l[k]? = some c) (he : z < 2 → endsL (l.drop k) nm = false) : runt nm false z d (l.drop k) = runt nm false z d (l.drop (k + 1)) + 1 := by
  have hl := (List.getElem?_eq_some_iff.1 h).1
  rw [List.drop_eq_getElem_cons hl] at he ⊢
  conv => lhs; unfold runt
  rw [if_neg (by rintro ⟨h1, h2⟩; rw [he h1] at h2; cases h2), if_pos rfl]
theorem runt_step {nm l : List UInt8} {k z d : Nat} {c : UInt8} (h : l[k]? = some c) (he : z < 2 → endsL (l.drop k) nm = false) (z1 z2 d1 : Nat) (h1 : (if c = 62 ∧ 2 ≤ d ∧ 0 < z then 0 else z) = z1)
    (h2 : (if z1 = 1 ∧ begL (l.drop k) = true then 2 else if z1 = 2 ∧ endsL (l.drop k) scr = true then 1 else if z1 = 0 ∧ hasL (l.drop k) [60, 33, 45, 45] = true then 1 else z1) = z2) (hd : (if c = 45 then d + 1 else 0) = d1) :
    runt nm true z d (l.drop k) = runt nm true z2 d1 (l.drop (k + 1)) + 1 := by
  have hl := (List.getElem?_eq_some_iff.1 h).1
  have hc := (List.getElem?_eq_some_iff.1 h).2
  subst h1 h2 hd
  rw [List.drop_eq_getElem_cons hl, hc] at he ⊢
  conv => lhs; unfold runt
  rw [if_neg (by rintro ⟨h1, h2⟩; rw [he h1] at h2; cases h2), if_neg (by simp)]
set_option maxHeartbeats 6400000 in
set_option maxRecDepth 100000 in
theorem until_any (s nm : ByteArray) (sc : Bool) (a : Nat) (w : World) (hs : s.size ≤ 1000000) (hn : nm.size ≤ 1000) (ha : a ≤ s.size) :
    Calls Tryd.prog 51 #[.string s, .int .i64 (a : Int), .string nm, .bool sc] w fun e w' => e = .returned (.int .i64 ((a + runt nm.data.toList sc 0 0 (s.data.toList.drop a) : Nat) : Int)) ∧ Below w.heap.size w w' := by
  obtain ⟨Z, hZ⟩ : ∃ Z, a + runt nm.data.toList sc 0 0 (s.data.toList.drop a) = Z := ⟨_, rfl⟩
  rw [hZ]
  obtain ⟨TN, hTN⟩ : ∃ TN, (⟨#[60, 47]⟩ : ByteArray) ++ nm = TN := ⟨_, rfl⟩
  have hTNl : TN.data.toList = [60, 47] ++ nm.data.toList := by rw [← hTN, app_data]
  have hTNs : TN.size ≤ 2000 := by rw [← hTN, ByteArray.size_append]; show 2 + nm.size ≤ _; omega
  have HTNL := Lib.hid hTNl
  have h0a : a + runt nm.data.toList sc (0 : Int).toNat 0 (s.data.toList.drop a) = Z := hZ
  clear hTNl
  go_enter Tryd.func51, Tryd.ntmps51
  go_wp2_with fail
  go_loopw [9, 10, 11] (fun st ds i wr => ∃ (k d : Nat) (z : Int), k ≤ s.size ∧ d ≤ k ∧ (z = 0 ∨ z = 1 ∨ z = 2) ∧ i = .int .i64 k ∧ ds = .int .i64 d ∧ st = .int .i64 z ∧ Hid (k + runt nm.data.toList sc z.toNat d (s.data.toList.drop k) = Z) ∧ Hid (Below w.heap.size w wr)) (fun _ _ i _ => s.size - (intOf i).toNat)
  case atStart => exact ⟨a, 0, 0, ha, Nat.zero_le _, .inl rfl, rfl, rfl, rfl, h0a, Below.refl _ _⟩
  case round =>
    obtain ⟨k, d, z, hk, hdk, hz, rfl, rfl, rfl, HZ0, HB⟩ := hrel
    clear hZ h0a
    by_cases hlt : k < s.size
    · have hki : (k : Int) < s.size := by omega
      have hg := at_get hlt
      obtain ⟨c, hc⟩ : ∃ c, s[k] = c := ⟨_, rfl⟩
      rw [hc] at hg
      have HW := Lib.hid (fun W => rword_any s TN k W hs hTNs hk)
      have HWB := Lib.hid (fun W => rword_any s ⟨#[60, 115, 99, 114, 105, 112, 116]⟩ k W hs (by decide) hk)
      have HWE := Lib.hid (fun W => rword_any s ⟨#[60, 47, 115, 99, 114, 105, 112, 116]⟩ k W hs (by decide) hk)
      have HSF := Lib.hid (fun W => rstands_any s ⟨#[60, 33, 45, 45]⟩ (k : Int) W hs (by decide) (by decide))
      rw [hasZ_nat] at HSF
      rw [HTNL.out, word_ends] at HW
      rw [show (⟨#[60, 115, 99, 114, 105, 112, 116]⟩ : ByteArray).data.toList = 60 :: scr from rfl, word_beg] at HWB
      rw [show (⟨#[60, 47, 115, 99, 114, 105, 112, 116]⟩ : ByteArray).data.toList = [60, 47] ++ scr from rfl, word_ends] at HWE
      rw [show (⟨#[60, 33, 45, 45]⟩ : ByteArray).data.toList = [60, 33, 45, 45] from rfl] at HSF
      have HG := Lib.hid hg
      obtain ⟨p1, hp1⟩ : ∃ p, hasL (s.data.toList.drop k) [60, 33, 45, 45] = p := ⟨_, rfl⟩
      obtain ⟨e1, he1⟩ : ∃ p, endsL (s.data.toList.drop k) nm.data.toList = p := ⟨_, rfl⟩
      obtain ⟨e2, he2⟩ : ∃ p, endsL (s.data.toList.drop k) scr = p := ⟨_, rfl⟩
      obtain ⟨bb, hbb⟩ : ∃ p, begL (s.data.toList.drop k) = p := ⟨_, rfl⟩
      rw [hp1] at HSF
      rw [he1] at HW
      rw [he2] at HWE
      rw [hbb] at HWB
      have HQ1 := Lib.hid hp1
      have HQ3 := Lib.hid he1
      have HQ4 := Lib.hid he2
      have HQ5 := Lib.hid hbb
      clear hp1 he1 he2 hbb hg
      cases sc with
      | false =>
        rcases hz with rfl | rfl | rfl
        · have HZ : Hid (k + runt nm.data.toList false 0 d (s.data.toList.drop k) = Z) := HZ0.out
          cases e1 with
          | true =>
            have HS := Lib.hid (runt_stop (nm := nm.data.toList) (sc := false) (z := 0) (d := d) HG.out (by omega) HQ3.out)
            go_wp2_with fail
            refine (HW.out _).mono ?_
            rintro e w1 ⟨rfl, b1⟩
            go_wp2_with fail
            go_ret
            exact ⟨by have h1 := HZ.out; have h2 := HS.out; rw [← h1, h2]; rfl, HB.out.trans (b1.mono HB.out.size)⟩
          | false =>
            have HS := Lib.hid (runt_flat (nm := nm.data.toList) (z := 0) (d := d) HG.out (fun _ => HQ3.out))
            go_wp2_with fail
            refine (HW.out _).mono ?_
            rintro e w1 ⟨rfl, b1⟩
            go_wp2_with fail
            go_roundw
            case rel => exact ⟨k + 1, d, 0, by omega, by omega, .inl rfl, by go_num, rfl, rfl, by have h1 := HZ.out; have h2 := HS.out; show k + 1 + runt nm.data.toList false 0 (d) (s.data.toList.drop (k + 1)) = Z; omega, (HB.out).trans (b1.mono (HB.out).size)⟩
            case measure => simp [intOf]; omega
        · have HZ : Hid (k + runt nm.data.toList false 1 d (s.data.toList.drop k) = Z) := HZ0.out
          cases e1 with
          | true =>
            have HS := Lib.hid (runt_stop (nm := nm.data.toList) (sc := false) (z := 1) (d := d) HG.out (by omega) HQ3.out)
            go_wp2_with fail
            refine (HW.out _).mono ?_
            rintro e w1 ⟨rfl, b1⟩
            go_wp2_with fail
            go_ret
            exact ⟨by have h1 := HZ.out; have h2 := HS.out; rw [← h1, h2]; rfl, HB.out.trans (b1.mono HB.out.size)⟩
          | false =>
            have HS := Lib.hid (runt_flat (nm := nm.data.toList) (z := 1) (d := d) HG.out (fun _ => HQ3.out))
            go_wp2_with fail
            refine (HW.out _).mono ?_
            rintro e w1 ⟨rfl, b1⟩
            go_wp2_with fail
            go_roundw
            case rel => exact ⟨k + 1, d, 1, by omega, by omega, .inr (.inl rfl), by go_num, rfl, rfl, by have h1 := HZ.out; have h2 := HS.out; show k + 1 + runt nm.data.toList false 1 (d) (s.data.toList.drop (k + 1)) = Z; omega, (HB.out).trans (b1.mono (HB.out).size)⟩
            case measure => simp [intOf]; omega
        · have HZ : Hid (k + runt nm.data.toList false 2 d (s.data.toList.drop k) = Z) := HZ0.out
          have HS := Lib.hid (runt_flat (nm := nm.data.toList) (z := 2) (d := d) HG.out (fun h => absurd h (by omega)))
          go_wp2_with fail
          go_roundw
          case rel => exact ⟨k + 1, d, 2, by omega, by omega, .inr (.inr rfl), by go_num, rfl, rfl, by have h1 := HZ.out; have h2 := HS.out; show k + 1 + runt nm.data.toList false 2 (d) (s.data.toList.drop (k + 1)) = Z; omega, HB.out⟩
          case measure => simp [intOf]; omega
      | true =>
        rcases hz with rfl | rfl | rfl
        · have HZ : Hid (k + runt nm.data.toList true 0 d (s.data.toList.drop k) = Z) := HZ0.out
          cases e1 with
          | true =>
            have HS := Lib.hid (runt_stop (nm := nm.data.toList) (sc := true) (z := 0) (d := d) HG.out (by omega) HQ3.out)
            go_wp2_with fail
            refine (HW.out _).mono ?_
            rintro e w1 ⟨rfl, b1⟩
            go_wp2_with fail
            go_ret
            exact ⟨by have h1 := HZ.out; have h2 := HS.out; rw [← h1, h2]; rfl, HB.out.trans (b1.mono HB.out.size)⟩
          | false =>
            by_cases h45 : c = 45
            · have t1 := byte_is (z := 45) h45 rfl
              cases p1 with
              | true =>
                have HS := Lib.hid (runt_step (nm := nm.data.toList) (z := 0) (d := d) HG.out (fun _ => HQ3.out) 0 1 (d + 1) (by rw [h45]; simp) (by rw [HQ1.out]; simp) (by rw [if_pos h45]))
                clear h45
                go_wp2_with fail
                refine (HW.out _).mono ?_
                rintro e w1 ⟨rfl, b1⟩
                go_wp2_with fail
                refine (HSF.out _).mono ?_
                rintro e w2 ⟨rfl, b2⟩
                go_wp2_with fail
                go_roundw
                case rel => exact ⟨k + 1, d + 1, 1, by omega, by omega, .inr (.inl rfl), by go_num, by go_num, rfl, by have h1 := HZ.out; have h2 := HS.out; show k + 1 + runt nm.data.toList true 1 (d + 1) (s.data.toList.drop (k + 1)) = Z; omega, ((HB.out).trans (b1.mono (HB.out).size)).trans (b2.mono ((HB.out).trans (b1.mono (HB.out).size)).size)⟩
                case measure => simp [intOf]; omega
              | false =>
                have HS := Lib.hid (runt_step (nm := nm.data.toList) (z := 0) (d := d) HG.out (fun _ => HQ3.out) 0 0 (d + 1) (by rw [h45]; simp) (by rw [HQ1.out]; simp) (by rw [if_pos h45]))
                clear h45
                go_wp2_with fail
                refine (HW.out _).mono ?_
                rintro e w1 ⟨rfl, b1⟩
                go_wp2_with fail
                refine (HSF.out _).mono ?_
                rintro e w2 ⟨rfl, b2⟩
                go_wp2_with fail
                go_roundw
                case rel => exact ⟨k + 1, d + 1, 0, by omega, by omega, .inl rfl, by go_num, by go_num, rfl, by have h1 := HZ.out; have h2 := HS.out; show k + 1 + runt nm.data.toList true 0 (d + 1) (s.data.toList.drop (k + 1)) = Z; omega, ((HB.out).trans (b1.mono (HB.out).size)).trans (b2.mono ((HB.out).trans (b1.mono (HB.out).size)).size)⟩
                case measure => simp [intOf]; omega
            · have t1 := byte_not (z := 45) h45 rfl
              by_cases h62 : c = 62
              · have t2 := byte_is (z := 62) h62 rfl
                by_cases hd2 : 2 ≤ d
                · have t3 : (2 : Int) ≤ d := by omega
                  cases p1 with
                  | true =>
                    have HS := Lib.hid (runt_step (nm := nm.data.toList) (z := 0) (d := d) HG.out (fun _ => HQ3.out) 0 1 (0) (by simp) (by rw [HQ1.out]; simp) (by rw [if_neg h45]))
                    clear h45 h62
                    go_wp2_with fail
                    refine (HW.out _).mono ?_
                    rintro e w1 ⟨rfl, b1⟩
                    go_wp2_with fail
                    refine (HSF.out _).mono ?_
                    rintro e w2 ⟨rfl, b2⟩
                    go_wp2_with fail
                    go_roundw
                    case rel => exact ⟨k + 1, 0, 1, by omega, by omega, .inr (.inl rfl), by go_num, rfl, rfl, by have h1 := HZ.out; have h2 := HS.out; show k + 1 + runt nm.data.toList true 1 (0) (s.data.toList.drop (k + 1)) = Z; omega, ((HB.out).trans (b1.mono (HB.out).size)).trans (b2.mono ((HB.out).trans (b1.mono (HB.out).size)).size)⟩
                    case measure => simp [intOf]; omega
                  | false =>
                    have HS := Lib.hid (runt_step (nm := nm.data.toList) (z := 0) (d := d) HG.out (fun _ => HQ3.out) 0 0 (0) (by simp) (by rw [HQ1.out]; simp) (by rw [if_neg h45]))
                    clear h45 h62
                    go_wp2_with fail
                    refine (HW.out _).mono ?_
                    rintro e w1 ⟨rfl, b1⟩
                    go_wp2_with fail
                    refine (HSF.out _).mono ?_
                    rintro e w2 ⟨rfl, b2⟩
                    go_wp2_with fail
                    go_roundw
                    case rel => exact ⟨k + 1, 0, 0, by omega, by omega, .inl rfl, by go_num, rfl, rfl, by have h1 := HZ.out; have h2 := HS.out; show k + 1 + runt nm.data.toList true 0 (0) (s.data.toList.drop (k + 1)) = Z; omega, ((HB.out).trans (b1.mono (HB.out).size)).trans (b2.mono ((HB.out).trans (b1.mono (HB.out).size)).size)⟩
                    case measure => simp [intOf]; omega
                · have t3 : ¬ (2 : Int) ≤ d := by omega
                  cases p1 with
                  | true =>
                    have HS := Lib.hid (runt_step (nm := nm.data.toList) (z := 0) (d := d) HG.out (fun _ => HQ3.out) 0 1 (0) (by rw [if_neg (fun h => hd2 h.2.1)]) (by rw [HQ1.out]; simp) (by rw [if_neg h45]))
                    clear h45 h62
                    go_wp2_with fail
                    refine (HW.out _).mono ?_
                    rintro e w1 ⟨rfl, b1⟩
                    go_wp2_with fail
                    refine (HSF.out _).mono ?_
                    rintro e w2 ⟨rfl, b2⟩
                    go_wp2_with fail
                    go_roundw
                    case rel => exact ⟨k + 1, 0, 1, by omega, by omega, .inr (.inl rfl), by go_num, rfl, rfl, by have h1 := HZ.out; have h2 := HS.out; show k + 1 + runt nm.data.toList true 1 (0) (s.data.toList.drop (k + 1)) = Z; omega, ((HB.out).trans (b1.mono (HB.out).size)).trans (b2.mono ((HB.out).trans (b1.mono (HB.out).size)).size)⟩
                    case measure => simp [intOf]; omega
                  | false =>
                    have HS := Lib.hid (runt_step (nm := nm.data.toList) (z := 0) (d := d) HG.out (fun _ => HQ3.out) 0 0 (0) (by rw [if_neg (fun h => hd2 h.2.1)]) (by rw [HQ1.out]; simp) (by rw [if_neg h45]))
                    clear h45 h62
                    go_wp2_with fail
                    refine (HW.out _).mono ?_
                    rintro e w1 ⟨rfl, b1⟩
                    go_wp2_with fail
                    refine (HSF.out _).mono ?_
                    rintro e w2 ⟨rfl, b2⟩
                    go_wp2_with fail
                    go_roundw
                    case rel => exact ⟨k + 1, 0, 0, by omega, by omega, .inl rfl, by go_num, rfl, rfl, by have h1 := HZ.out; have h2 := HS.out; show k + 1 + runt nm.data.toList true 0 (0) (s.data.toList.drop (k + 1)) = Z; omega, ((HB.out).trans (b1.mono (HB.out).size)).trans (b2.mono ((HB.out).trans (b1.mono (HB.out).size)).size)⟩
                    case measure => simp [intOf]; omega
              · have t2 := byte_not (z := 62) h62 rfl
                cases p1 with
                | true =>
                  have HS := Lib.hid (runt_step (nm := nm.data.toList) (z := 0) (d := d) HG.out (fun _ => HQ3.out) 0 1 (0) (by rw [if_neg (fun h => h62 h.1)]) (by rw [HQ1.out]; simp) (by rw [if_neg h45]))
                  clear h45 h62
                  go_wp2_with fail
                  refine (HW.out _).mono ?_
                  rintro e w1 ⟨rfl, b1⟩
                  go_wp2_with fail
                  refine (HSF.out _).mono ?_
                  rintro e w2 ⟨rfl, b2⟩
                  go_wp2_with fail
                  go_roundw
                  case rel => exact ⟨k + 1, 0, 1, by omega, by omega, .inr (.inl rfl), by go_num, rfl, rfl, by have h1 := HZ.out; have h2 := HS.out; show k + 1 + runt nm.data.toList true 1 (0) (s.data.toList.drop (k + 1)) = Z; omega, ((HB.out).trans (b1.mono (HB.out).size)).trans (b2.mono ((HB.out).trans (b1.mono (HB.out).size)).size)⟩
                  case measure => simp [intOf]; omega
                | false =>
                  have HS := Lib.hid (runt_step (nm := nm.data.toList) (z := 0) (d := d) HG.out (fun _ => HQ3.out) 0 0 (0) (by rw [if_neg (fun h => h62 h.1)]) (by rw [HQ1.out]; simp) (by rw [if_neg h45]))
                  clear h45 h62
                  go_wp2_with fail
                  refine (HW.out _).mono ?_
                  rintro e w1 ⟨rfl, b1⟩
                  go_wp2_with fail
                  refine (HSF.out _).mono ?_
                  rintro e w2 ⟨rfl, b2⟩
                  go_wp2_with fail
                  go_roundw
                  case rel => exact ⟨k + 1, 0, 0, by omega, by omega, .inl rfl, by go_num, rfl, rfl, by have h1 := HZ.out; have h2 := HS.out; show k + 1 + runt nm.data.toList true 0 (0) (s.data.toList.drop (k + 1)) = Z; omega, ((HB.out).trans (b1.mono (HB.out).size)).trans (b2.mono ((HB.out).trans (b1.mono (HB.out).size)).size)⟩
                  case measure => simp [intOf]; omega
        · have HZ : Hid (k + runt nm.data.toList true 1 d (s.data.toList.drop k) = Z) := HZ0.out
          cases e1 with
          | true =>
            have HS := Lib.hid (runt_stop (nm := nm.data.toList) (sc := true) (z := 1) (d := d) HG.out (by omega) HQ3.out)
            go_wp2_with fail
            refine (HW.out _).mono ?_
            rintro e w1 ⟨rfl, b1⟩
            go_wp2_with fail
            go_ret
            exact ⟨by have h1 := HZ.out; have h2 := HS.out; rw [← h1, h2]; rfl, HB.out.trans (b1.mono HB.out.size)⟩
          | false =>
            by_cases h45 : c = 45
            · have t1 := byte_is (z := 45) h45 rfl
              cases bb with
              | true =>
                have HS := Lib.hid (runt_step (nm := nm.data.toList) (z := 1) (d := d) HG.out (fun _ => HQ3.out) 1 2 (d + 1) (by rw [h45]; simp) (by rw [HQ5.out]; simp) (by rw [if_pos h45]))
                clear h45
                go_wp2_with fail
                refine (HW.out _).mono ?_
                rintro e w1 ⟨rfl, b1⟩
                go_wp2_with fail
                refine (HWB.out _).mono ?_
                rintro e w2 ⟨rfl, b2⟩
                go_wp2_with fail
                go_roundw
                case rel => exact ⟨k + 1, d + 1, 2, by omega, by omega, .inr (.inr rfl), by go_num, by go_num, rfl, by have h1 := HZ.out; have h2 := HS.out; show k + 1 + runt nm.data.toList true 2 (d + 1) (s.data.toList.drop (k + 1)) = Z; omega, ((HB.out).trans (b1.mono (HB.out).size)).trans (b2.mono ((HB.out).trans (b1.mono (HB.out).size)).size)⟩
                case measure => simp [intOf]; omega
              | false =>
                have HS := Lib.hid (runt_step (nm := nm.data.toList) (z := 1) (d := d) HG.out (fun _ => HQ3.out) 1 1 (d + 1) (by rw [h45]; simp) (by rw [HQ5.out]; simp) (by rw [if_pos h45]))
                clear h45
                go_wp2_with fail
                refine (HW.out _).mono ?_
                rintro e w1 ⟨rfl, b1⟩
                go_wp2_with fail
                refine (HWB.out _).mono ?_
                rintro e w2 ⟨rfl, b2⟩
                go_wp2_with fail
                go_roundw
                case rel => exact ⟨k + 1, d + 1, 1, by omega, by omega, .inr (.inl rfl), by go_num, by go_num, rfl, by have h1 := HZ.out; have h2 := HS.out; show k + 1 + runt nm.data.toList true 1 (d + 1) (s.data.toList.drop (k + 1)) = Z; omega, ((HB.out).trans (b1.mono (HB.out).size)).trans (b2.mono ((HB.out).trans (b1.mono (HB.out).size)).size)⟩
                case measure => simp [intOf]; omega
            · have t1 := byte_not (z := 45) h45 rfl
              by_cases h62 : c = 62
              · have t2 := byte_is (z := 62) h62 rfl
                by_cases hd2 : 2 ≤ d
                · have t3 : (2 : Int) ≤ d := by omega
                  cases p1 with
                  | true =>
                    have HS := Lib.hid (runt_step (nm := nm.data.toList) (z := 1) (d := d) HG.out (fun _ => HQ3.out) 0 1 (0) (by rw [if_pos ⟨h62, hd2, by omega⟩]) (by rw [HQ1.out]; simp) (by rw [if_neg h45]))
                    clear h45 h62
                    go_wp2_with fail
                    refine (HW.out _).mono ?_
                    rintro e w1 ⟨rfl, b1⟩
                    go_wp2_with fail
                    refine (HSF.out _).mono ?_
                    rintro e w2 ⟨rfl, b2⟩
                    go_wp2_with fail
                    go_roundw
                    case rel => exact ⟨k + 1, 0, 1, by omega, by omega, .inr (.inl rfl), by go_num, rfl, rfl, by have h1 := HZ.out; have h2 := HS.out; show k + 1 + runt nm.data.toList true 1 (0) (s.data.toList.drop (k + 1)) = Z; omega, ((HB.out).trans (b1.mono (HB.out).size)).trans (b2.mono ((HB.out).trans (b1.mono (HB.out).size)).size)⟩
                    case measure => simp [intOf]; omega
                  | false =>
                    have HS := Lib.hid (runt_step (nm := nm.data.toList) (z := 1) (d := d) HG.out (fun _ => HQ3.out) 0 0 (0) (by rw [if_pos ⟨h62, hd2, by omega⟩]) (by rw [HQ1.out]; simp) (by rw [if_neg h45]))
                    clear h45 h62
                    go_wp2_with fail
                    refine (HW.out _).mono ?_
                    rintro e w1 ⟨rfl, b1⟩
                    go_wp2_with fail
                    refine (HSF.out _).mono ?_
                    rintro e w2 ⟨rfl, b2⟩
                    go_wp2_with fail
                    go_roundw
                    case rel => exact ⟨k + 1, 0, 0, by omega, by omega, .inl rfl, by go_num, rfl, rfl, by have h1 := HZ.out; have h2 := HS.out; show k + 1 + runt nm.data.toList true 0 (0) (s.data.toList.drop (k + 1)) = Z; omega, ((HB.out).trans (b1.mono (HB.out).size)).trans (b2.mono ((HB.out).trans (b1.mono (HB.out).size)).size)⟩
                    case measure => simp [intOf]; omega
                · have t3 : ¬ (2 : Int) ≤ d := by omega
                  cases bb with
                  | true =>
                    have HS := Lib.hid (runt_step (nm := nm.data.toList) (z := 1) (d := d) HG.out (fun _ => HQ3.out) 1 2 (0) (by rw [if_neg (fun h => hd2 h.2.1)]) (by rw [HQ5.out]; simp) (by rw [if_neg h45]))
                    clear h45 h62
                    go_wp2_with fail
                    refine (HW.out _).mono ?_
                    rintro e w1 ⟨rfl, b1⟩
                    go_wp2_with fail
                    refine (HWB.out _).mono ?_
                    rintro e w2 ⟨rfl, b2⟩
                    go_wp2_with fail
                    go_roundw
                    case rel => exact ⟨k + 1, 0, 2, by omega, by omega, .inr (.inr rfl), by go_num, rfl, rfl, by have h1 := HZ.out; have h2 := HS.out; show k + 1 + runt nm.data.toList true 2 (0) (s.data.toList.drop (k + 1)) = Z; omega, ((HB.out).trans (b1.mono (HB.out).size)).trans (b2.mono ((HB.out).trans (b1.mono (HB.out).size)).size)⟩
                    case measure => simp [intOf]; omega
                  | false =>
                    have HS := Lib.hid (runt_step (nm := nm.data.toList) (z := 1) (d := d) HG.out (fun _ => HQ3.out) 1 1 (0) (by rw [if_neg (fun h => hd2 h.2.1)]) (by rw [HQ5.out]; simp) (by rw [if_neg h45]))
                    clear h45 h62
                    go_wp2_with fail
                    refine (HW.out _).mono ?_
                    rintro e w1 ⟨rfl, b1⟩
                    go_wp2_with fail
                    refine (HWB.out _).mono ?_
                    rintro e w2 ⟨rfl, b2⟩
                    go_wp2_with fail
                    go_roundw
                    case rel => exact ⟨k + 1, 0, 1, by omega, by omega, .inr (.inl rfl), by go_num, rfl, rfl, by have h1 := HZ.out; have h2 := HS.out; show k + 1 + runt nm.data.toList true 1 (0) (s.data.toList.drop (k + 1)) = Z; omega, ((HB.out).trans (b1.mono (HB.out).size)).trans (b2.mono ((HB.out).trans (b1.mono (HB.out).size)).size)⟩
                    case measure => simp [intOf]; omega
              · have t2 := byte_not (z := 62) h62 rfl
                cases bb with
                | true =>
                  have HS := Lib.hid (runt_step (nm := nm.data.toList) (z := 1) (d := d) HG.out (fun _ => HQ3.out) 1 2 (0) (by rw [if_neg (fun h => h62 h.1)]) (by rw [HQ5.out]; simp) (by rw [if_neg h45]))
                  clear h45 h62
                  go_wp2_with fail
                  refine (HW.out _).mono ?_
                  rintro e w1 ⟨rfl, b1⟩
                  go_wp2_with fail
                  refine (HWB.out _).mono ?_
                  rintro e w2 ⟨rfl, b2⟩
                  go_wp2_with fail
                  go_roundw
                  case rel => exact ⟨k + 1, 0, 2, by omega, by omega, .inr (.inr rfl), by go_num, rfl, rfl, by have h1 := HZ.out; have h2 := HS.out; show k + 1 + runt nm.data.toList true 2 (0) (s.data.toList.drop (k + 1)) = Z; omega, ((HB.out).trans (b1.mono (HB.out).size)).trans (b2.mono ((HB.out).trans (b1.mono (HB.out).size)).size)⟩
                  case measure => simp [intOf]; omega
                | false =>
                  have HS := Lib.hid (runt_step (nm := nm.data.toList) (z := 1) (d := d) HG.out (fun _ => HQ3.out) 1 1 (0) (by rw [if_neg (fun h => h62 h.1)]) (by rw [HQ5.out]; simp) (by rw [if_neg h45]))
                  clear h45 h62
                  go_wp2_with fail
                  refine (HW.out _).mono ?_
                  rintro e w1 ⟨rfl, b1⟩
                  go_wp2_with fail
                  refine (HWB.out _).mono ?_
                  rintro e w2 ⟨rfl, b2⟩
                  go_wp2_with fail
                  go_roundw
                  case rel => exact ⟨k + 1, 0, 1, by omega, by omega, .inr (.inl rfl), by go_num, rfl, rfl, by have h1 := HZ.out; have h2 := HS.out; show k + 1 + runt nm.data.toList true 1 (0) (s.data.toList.drop (k + 1)) = Z; omega, ((HB.out).trans (b1.mono (HB.out).size)).trans (b2.mono ((HB.out).trans (b1.mono (HB.out).size)).size)⟩
                  case measure => simp [intOf]; omega
        · have HZ : Hid (k + runt nm.data.toList true 2 d (s.data.toList.drop k) = Z) := HZ0.out
          by_cases h45 : c = 45
          · have t1 := byte_is (z := 45) h45 rfl
            cases e2 with
            | true =>
              have HS := Lib.hid (runt_step (nm := nm.data.toList) (z := 2) (d := d) HG.out (fun h => absurd h (by omega)) 2 1 (d + 1) (by rw [h45]; simp) (by rw [HQ4.out]; simp) (by rw [if_pos h45]))
              clear h45
              go_wp2_with fail
              refine (HWE.out _).mono ?_
              rintro e w1 ⟨rfl, b1⟩
              go_wp2_with fail
              go_roundw
              case rel => exact ⟨k + 1, d + 1, 1, by omega, by omega, .inr (.inl rfl), by go_num, by go_num, rfl, by have h1 := HZ.out; have h2 := HS.out; show k + 1 + runt nm.data.toList true 1 (d + 1) (s.data.toList.drop (k + 1)) = Z; omega, (HB.out).trans (b1.mono (HB.out).size)⟩
              case measure => simp [intOf]; omega
            | false =>
              have HS := Lib.hid (runt_step (nm := nm.data.toList) (z := 2) (d := d) HG.out (fun h => absurd h (by omega)) 2 2 (d + 1) (by rw [h45]; simp) (by rw [HQ4.out]; simp) (by rw [if_pos h45]))
              clear h45
              go_wp2_with fail
              refine (HWE.out _).mono ?_
              rintro e w1 ⟨rfl, b1⟩
              go_wp2_with fail
              go_roundw
              case rel => exact ⟨k + 1, d + 1, 2, by omega, by omega, .inr (.inr rfl), by go_num, by go_num, rfl, by have h1 := HZ.out; have h2 := HS.out; show k + 1 + runt nm.data.toList true 2 (d + 1) (s.data.toList.drop (k + 1)) = Z; omega, (HB.out).trans (b1.mono (HB.out).size)⟩
              case measure => simp [intOf]; omega
          · have t1 := byte_not (z := 45) h45 rfl
            by_cases h62 : c = 62
            · have t2 := byte_is (z := 62) h62 rfl
              by_cases hd2 : 2 ≤ d
              · have t3 : (2 : Int) ≤ d := by omega
                cases p1 with
                | true =>
                  have HS := Lib.hid (runt_step (nm := nm.data.toList) (z := 2) (d := d) HG.out (fun h => absurd h (by omega)) 0 1 (0) (by rw [if_pos ⟨h62, hd2, by omega⟩]) (by rw [HQ1.out]; simp) (by rw [if_neg h45]))
                  clear h45 h62
                  go_wp2_with fail
                  refine (HSF.out _).mono ?_
                  rintro e w1 ⟨rfl, b1⟩
                  go_wp2_with fail
                  go_roundw
                  case rel => exact ⟨k + 1, 0, 1, by omega, by omega, .inr (.inl rfl), by go_num, rfl, rfl, by have h1 := HZ.out; have h2 := HS.out; show k + 1 + runt nm.data.toList true 1 (0) (s.data.toList.drop (k + 1)) = Z; omega, (HB.out).trans (b1.mono (HB.out).size)⟩
                  case measure => simp [intOf]; omega
                | false =>
                  have HS := Lib.hid (runt_step (nm := nm.data.toList) (z := 2) (d := d) HG.out (fun h => absurd h (by omega)) 0 0 (0) (by rw [if_pos ⟨h62, hd2, by omega⟩]) (by rw [HQ1.out]; simp) (by rw [if_neg h45]))
                  clear h45 h62
                  go_wp2_with fail
                  refine (HSF.out _).mono ?_
                  rintro e w1 ⟨rfl, b1⟩
                  go_wp2_with fail
                  go_roundw
                  case rel => exact ⟨k + 1, 0, 0, by omega, by omega, .inl rfl, by go_num, rfl, rfl, by have h1 := HZ.out; have h2 := HS.out; show k + 1 + runt nm.data.toList true 0 (0) (s.data.toList.drop (k + 1)) = Z; omega, (HB.out).trans (b1.mono (HB.out).size)⟩
                  case measure => simp [intOf]; omega
              · have t3 : ¬ (2 : Int) ≤ d := by omega
                cases e2 with
                | true =>
                  have HS := Lib.hid (runt_step (nm := nm.data.toList) (z := 2) (d := d) HG.out (fun h => absurd h (by omega)) 2 1 (0) (by rw [if_neg (fun h => hd2 h.2.1)]) (by rw [HQ4.out]; simp) (by rw [if_neg h45]))
                  clear h45 h62
                  go_wp2_with fail
                  refine (HWE.out _).mono ?_
                  rintro e w1 ⟨rfl, b1⟩
                  go_wp2_with fail
                  go_roundw
                  case rel => exact ⟨k + 1, 0, 1, by omega, by omega, .inr (.inl rfl), by go_num, rfl, rfl, by have h1 := HZ.out; have h2 := HS.out; show k + 1 + runt nm.data.toList true 1 (0) (s.data.toList.drop (k + 1)) = Z; omega, (HB.out).trans (b1.mono (HB.out).size)⟩
                  case measure => simp [intOf]; omega
                | false =>
                  have HS := Lib.hid (runt_step (nm := nm.data.toList) (z := 2) (d := d) HG.out (fun h => absurd h (by omega)) 2 2 (0) (by rw [if_neg (fun h => hd2 h.2.1)]) (by rw [HQ4.out]; simp) (by rw [if_neg h45]))
                  clear h45 h62
                  go_wp2_with fail
                  refine (HWE.out _).mono ?_
                  rintro e w1 ⟨rfl, b1⟩
                  go_wp2_with fail
                  go_roundw
                  case rel => exact ⟨k + 1, 0, 2, by omega, by omega, .inr (.inr rfl), by go_num, rfl, rfl, by have h1 := HZ.out; have h2 := HS.out; show k + 1 + runt nm.data.toList true 2 (0) (s.data.toList.drop (k + 1)) = Z; omega, (HB.out).trans (b1.mono (HB.out).size)⟩
                  case measure => simp [intOf]; omega
            · have t2 := byte_not (z := 62) h62 rfl
              cases e2 with
              | true =>
                have HS := Lib.hid (runt_step (nm := nm.data.toList) (z := 2) (d := d) HG.out (fun h => absurd h (by omega)) 2 1 (0) (by rw [if_neg (fun h => h62 h.1)]) (by rw [HQ4.out]; simp) (by rw [if_neg h45]))
                clear h45 h62
                go_wp2_with fail
                refine (HWE.out _).mono ?_
                rintro e w1 ⟨rfl, b1⟩
                go_wp2_with fail
                go_roundw
                case rel => exact ⟨k + 1, 0, 1, by omega, by omega, .inr (.inl rfl), by go_num, rfl, rfl, by have h1 := HZ.out; have h2 := HS.out; show k + 1 + runt nm.data.toList true 1 (0) (s.data.toList.drop (k + 1)) = Z; omega, (HB.out).trans (b1.mono (HB.out).size)⟩
                case measure => simp [intOf]; omega
              | false =>
                have HS := Lib.hid (runt_step (nm := nm.data.toList) (z := 2) (d := d) HG.out (fun h => absurd h (by omega)) 2 2 (0) (by rw [if_neg (fun h => h62 h.1)]) (by rw [HQ4.out]; simp) (by rw [if_neg h45]))
                clear h45 h62
                go_wp2_with fail
                refine (HWE.out _).mono ?_
                rintro e w1 ⟨rfl, b1⟩
                go_wp2_with fail
                go_roundw
                case rel => exact ⟨k + 1, 0, 2, by omega, by omega, .inr (.inr rfl), by go_num, rfl, rfl, by have h1 := HZ.out; have h2 := HS.out; show k + 1 + runt nm.data.toList true 2 (0) (s.data.toList.drop (k + 1)) = Z; omega, (HB.out).trans (b1.mono (HB.out).size)⟩
                case measure => simp [intOf]; omega
    · have hki : ¬ (k : Int) < s.size := by omega
      have HS : Hid (runt nm.data.toList sc z.toNat d (s.data.toList.drop k) = 0) := by show _ = _; rw [drop_over hlt]; unfold runt; rfl
      have hks : k = s.size := by omega
      have HKS := Lib.hid hks
      clear hlt hks
      go_wp2_with fail
      go_ret
      exact ⟨by have h1 := HZ0.out; have h2 := HS.out; have h3 := HKS.out; rw [← h1, h2, h3]; rfl, HB.out⟩
end Go.Proofs.YtbpdmbmooboimaaDoor.R11
