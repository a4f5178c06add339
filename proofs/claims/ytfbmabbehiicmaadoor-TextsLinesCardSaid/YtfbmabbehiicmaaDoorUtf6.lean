/- The document's Decode. -/
import Derived.Test.YtfbmabbehiicmaaDoorUtf5
import Derived.Test.YtfbmabbehiicmaaDoorUtf4
set_option linter.unusedVariables false
namespace Go.Proofs.YtfbmabbehiicmaaDoor
open Go.RowKit

theorem quietU_one {P : Program} {f : FuncId} {args : Array Value} {w : World} {n : Nat} {v : Value} (h : Calls P f args (w.drewN n) fun e w' => e = .returned v ∧ w.drewN n = w') : Calls P f args (w.drewN n) fun e w' => e = .returned v ∧ ∃ k, w' = w.drewN k :=
  h.mono fun _ _ ⟨he, hw⟩ => ⟨he, n, hw.symm⟩
theorem quietU_add {P : Program} {f : FuncId} {args : Array Value} {w : World} {a n : Nat} {v : Value} (h : Calls P f args (w.drewN (a + n)) fun e w' => e = .returned v ∧ w.drewN (a + n) = w') : Calls P f args (w.drewN (a + n)) fun e w' => e = .returned v ∧ ∃ k, w' = w.drewN (a + k) :=
  h.mono fun _ _ ⟨he, hw⟩ => ⟨he, n, hw.symm⟩
def stU (H : List UInt8) (q : Nat) : List UInt8 := if q = 0 then [] else H
theorem unmark_no {l : List UInt8} (h : Lib.hasPrefix l [239, 187, 191] = false) : unmark l = l := by
  unfold unmark Lib.trimPrefix
  rw [h]
  rfl
theorem unmark_yes {l : List UInt8} (h : Lib.hasPrefix l [239, 187, 191] = true) : unmark l = l.drop 3 := by
  unfold unmark Lib.trimPrefix
  rw [h]
  rfl

theorem mark_test (b : ByteArray) : ((b.extract 0 3).toList == [239, 187, 191]) = Lib.hasPrefix b.data.toList [239, 187, 191] := by
  rw [ByteArray.toList_eq, ext_toList, Bool.eq_iff_iff]
  unfold Lib.hasPrefix
  rw [beq_iff_eq, List.isPrefixOf_iff_prefix, List.prefix_iff_eq_take]
  simp
  exact eq_comm
theorem noprefix_short {l : List UInt8} (h : l.length < 3) : Lib.hasPrefix l [239, 187, 191] = false := by
  unfold Lib.hasPrefix
  rw [Bool.eq_false_iff]
  intro e
  have := (List.isPrefixOf_iff_prefix.1 e).length_le
  simp at this
  omega
theorem add_atU (t s : ByteArray) (k : Nat) (h : k < s.size) : (t ++ s.extract k (k + 1)).data.toList = t.data.toList ++ [s[k]] := by
  rw [ByteArray.data_append, Array.toList_append, ext_toList]
  congr 1
  have hk : k < s.data.toList.length := by simpa using h
  rw [List.drop_eq_getElem_cons hk]
  simp
  rfl
theorem one_atU (s : ByteArray) (k : Nat) (h : k < s.size) : (s.extract k (k + 1)).data.toList = [s[k]] := by
  rw [ext_toList]
  have hk : k < s.data.toList.length := by simpa using h
  rw [List.drop_eq_getElem_cons hk]
  simp
  rfl
theorem app_dataU (a b : ByteArray) : (a ++ b).data.toList = a.data.toList ++ b.data.toList := by
  rw [ByteArray.data_append, Array.toList_append]
theorem moreI_le (c : Int) : -1 ≤ moreI c ∧ moreI c ≤ 3 := by
  unfold moreI
  repeat' split
  all_goals omega

theorem u_drop {s : ByteArray} {k : Nat} (hk : k < s.size) : s.data.toList.drop k = s[k] :: s.data.toList.drop (k + 1) := by
  rw [List.drop_eq_getElem_cons (by simpa using hk)]
  rfl
theorem u_none {O s H : ByteArray} {k : Nat} {T : List UInt8} (hk : k < s.size) (h : O.data.toList ++ runU (s.data.toList.drop k) [] 0 = T) (hm : moreI (s[k].toNat : Int) < 0) :
    (O ++ ⟨#[239, 191, 189]⟩).data.toList ++ runU (s.data.toList.drop (k + 1)) (stU H.data.toList 0) 0 = T := by
  rw [u_drop hk, runU_none hm] at h
  rw [app_dataU, ← h, List.append_assoc]
  rfl
theorem u_zero {O s H : ByteArray} {k : Nat} {T : List UInt8} (hk : k < s.size) (h : O.data.toList ++ runU (s.data.toList.drop k) [] 0 = T) (hm : (moreI (s[k].toNat : Int) == 0) = true) :
    (O ++ s.extract k (k + 1)).data.toList ++ runU (s.data.toList.drop (k + 1)) (stU H.data.toList 0) 0 = T := by
  have hm0 : moreI (s[k].toNat : Int) = 0 := by simpa using hm
  rw [u_drop hk, runU_first (by omega), hm0, show (0 : Int).toNat = 0 from rfl, runU_zero] at h
  rw [add_atU _ _ _ hk, ← h]
  simp [stU]
theorem u_some {O s : ByteArray} {k : Nat} {T : List UInt8} (hk : k < s.size) (h : O.data.toList ++ runU (s.data.toList.drop k) [] 0 = T) (hm : 0 ≤ moreI (s[k].toNat : Int)) (hm0 : (moreI (s[k].toNat : Int) == 0) = false) :
    O.data.toList ++ runU (s.data.toList.drop (k + 1)) (stU (s.extract k (k + 1)).data.toList (moreI (s[k].toNat : Int)).toNat) (moreI (s[k].toNat : Int)).toNat = T := by
  have hne : moreI (s[k].toNat : Int) ≠ 0 := by simpa using hm0
  rw [u_drop hk, runU_first (by omega)] at h
  unfold stU
  rw [if_neg (by omega), one_atU _ _ hk, ← h]
theorem u_first {H : ByteArray} (h : 0 < H.size) : firstI H.data.toList = (H[0].toNat : Int) := by
  have h2 := u_drop h
  rw [List.drop_zero] at h2
  rw [h2]
  rfl
theorem u_fail {O s H : ByteArray} {k q : Nat} {T : List UInt8} (hk : k < s.size) (hH : 0 < H.size) (h : O.data.toList ++ runU (s.data.toList.drop k) (stU H.data.toList (q + 1)) (q + 1) = T) (hm : mayI (H[0].toNat : Int) (s[k].toNat : Int) (H.size : Int) = false) :
    (O ++ ⟨#[239, 191, 189]⟩).data.toList ++ runU (s.data.toList.drop k) [] 0 = T := by
  have e : stU H.data.toList (q + 1) = H.data.toList := rfl
  rw [e, u_drop hk, runU_fail (by rw [u_first hH, show H.data.toList.length = H.size by simp]; exact hm)] at h
  rw [u_drop hk, app_dataU, ← h, List.append_assoc]
  rfl
theorem u_last {O s H : ByteArray} {k : Nat} {T : List UInt8} (hk : k < s.size) (hH : 0 < H.size) (h : O.data.toList ++ runU (s.data.toList.drop k) (stU H.data.toList 1) 1 = T) (hm : mayI (H[0].toNat : Int) (s[k].toNat : Int) (H.size : Int) = true) :
    (O ++ (H ++ s.extract k (k + 1))).data.toList ++ runU (s.data.toList.drop (k + 1)) (stU (⟨#[]⟩ : ByteArray).data.toList 0) 0 = T := by
  have e : stU H.data.toList 1 = H.data.toList := rfl
  rw [e, u_drop hk, runU_go (by rw [u_first hH, show H.data.toList.length = H.size by simp]; exact hm), runU_zero] at h
  rw [app_dataU, add_atU _ _ _ hk, ← h]
  simp [stU]
theorem u_go {O s H : ByteArray} {k q : Nat} {T : List UInt8} (hk : k < s.size) (hH : 0 < H.size) (h : O.data.toList ++ runU (s.data.toList.drop k) (stU H.data.toList (q + 2)) (q + 2) = T) (hm : mayI (H[0].toNat : Int) (s[k].toNat : Int) (H.size : Int) = true) :
    O.data.toList ++ runU (s.data.toList.drop (k + 1)) (stU (H ++ s.extract k (k + 1)).data.toList (q + 1)) (q + 1) = T := by
  have e : stU H.data.toList (q + 2) = H.data.toList := rfl
  rw [e, u_drop hk, runU_go (by rw [u_first hH, show H.data.toList.length = H.size by simp]; exact hm)] at h
  have e2 : stU (H ++ s.extract k (k + 1)).data.toList (q + 1) = (H ++ s.extract k (k + 1)).data.toList := rfl
  rw [e2, add_atU _ _ _ hk, ← h]
theorem u_size {s : ByteArray} {k : Nat} (hk : k < s.size) : (s.extract k (k + 1)).size = 1 := by
  rw [ByteArray.size_extract]; omega
theorem three_size : (⟨#[239, 191, 189]⟩ : ByteArray).size = 3 := rfl
theorem max_zero (x : Int) (h : 0 ≤ x) : Value.int .i64 (max x 0) = .int .i64 ((x.toNat : Nat) : Int) := by
  rw [show max x 0 = ((x.toNat : Nat) : Int) by omega]
theorem max_eq0 (x : Int) (h : (x == 0) = true) : Value.int .i64 (max x 0) = .int .i64 ((0 : Nat) : Int) := by
  have := beq_iff_eq.1 h
  rw [this]; rfl
theorem max_neg (x : Int) (h : x < 0) : Value.int .i64 (max x 0) = .int .i64 ((0 : Nat) : Int) := by
  rw [show max x 0 = ((0 : Nat) : Int) by omega]

set_option maxHeartbeats 4000000 in
set_option maxRecDepth 100000 in
theorem rtdecode_any (b : ByteArray) (w : World) (hb : b.size ≤ 1073741824) :
    Calls Tryd.prog 13 #[.string b] w fun e w' => e = .returned (.string ⟨(textU b.data.toList).toArray⟩) ∧ Below w.heap.size w w' := by
  obtain ⟨s, hs, hcase⟩ : ∃ s : ByteArray, s.data.toList = unmark b.data.toList ∧ ((b.size < 3 ∧ s = b) ∨ (3 ≤ b.size ∧ ((b.extract 0 3).toList == [239, 187, 191]) = false ∧ s = b) ∨ (3 ≤ b.size ∧ ((b.extract 0 3).toList == [239, 187, 191]) = true ∧ s = b.extract 3 b.size)) := by
    have hl : b.data.toList.length = b.size := by simp
    by_cases h3 : b.size < 3
    · exact ⟨b, (unmark_no (noprefix_short (by omega))).symm, .inl ⟨h3, rfl⟩⟩
    · rw [mark_test]
      cases hp : Lib.hasPrefix b.data.toList [239, 187, 191] with
      | false => exact ⟨b, (unmark_no hp).symm, .inr (.inl ⟨by omega, rfl, rfl⟩)⟩
      | true => exact ⟨b.extract 3 b.size, by rw [ext_allU, unmark_yes hp], .inr (.inr ⟨by omega, rfl, rfl⟩)⟩
  have HS := Lib.hid hs
  clear hs
  have hss : s.size ≤ b.size := by
    rcases hcase with ⟨_, rfl⟩ | ⟨_, _, rfl⟩ | ⟨_, _, rfl⟩
    · exact Nat.le_refl _
    · exact Nat.le_refl _
    · rw [ByteArray.size_extract]; omega
  rcases hcase with ⟨h1, hsb⟩ | ⟨h1, h2, hsb⟩ | ⟨h1, h2, hsb⟩
  all_goals
    have HSB := Lib.hid hsb
    clear hsb
    go_enter Tryd.func13, Tryd.ntmps13
    go_wp2_with fail
    rw [← HSB.out]
    go_loopw [3, 4, 5, 6] (fun o hv nd i wr => ∃ (k n q : Nat) (O H : ByteArray), k ≤ s.size ∧ i = .int .i64 k ∧ o = .string O ∧ hv = .string H ∧ nd = .int .i64 q ∧ O.size ≤ 6 * k ∧ H.size + q ≤ 4 ∧ (q = 0 ∨ 0 < H.size) ∧ q ≤ 3 ∧ Hid (O.data.toList ++ runU (s.data.toList.drop k) (stU H.data.toList q) q = textU b.data.toList) ∧ wr = w.drewN n) (fun _ _ _ i _ => s.size - (intOf i).toNat)
    case atStart =>
      refine ⟨0, 0, 0, ⟨#[]⟩, ⟨#[]⟩, Nat.zero_le _, rfl, rfl, rfl, rfl, Nat.le_refl _, by decide, .inl rfl, by omega, ?_, rfl⟩
      show [] ++ runU s.data.toList [] 0 = _
      rw [List.nil_append, HS.out]
      rfl
    case round =>
      obtain ⟨k, n, q, O, H, hk, rfl, rfl, rfl, rfl, hO, hH, hqH, hq3, HI, rfl⟩ := hrel
      have hln : Hid (s.data.toList.length = s.size) := by show s.data.toList.length = s.size; simp
      by_cases hlt : k < s.size
      · have kq0 : (0 : Int) ≤ (k : Int) := by omega
        have kq1 : (k : Int) < (s.size : Int) := by omega
        have kq2 : (k : Int) + 1 ≤ (s.size : Int) := by omega
        have kq3 : (k : Int) ≤ (k : Int) + 1 := by omega
        have hdr : Hid (s.data.toList.drop k = s[k] :: s.data.toList.drop (k + 1)) := by
          show s.data.toList.drop k = _
          rw [List.drop_eq_getElem_cons (by rw [hln.out]; exact hlt)]
          rfl
        obtain ⟨M, hM⟩ : ∃ M, moreI (s[k].toNat : Int) = M := ⟨_, rfl⟩
        have hMb := moreI_le (s[k].toNat : Int)
        rw [hM] at hMb
        have HM := Lib.hid hM
        clear hM
        have hz1 := u_size hlt
        have HZ1 := Lib.hid hz1
        clear hz1
        obtain hq | hq | hq | hq : q = 0 ∨ q = 1 ∨ q = 2 ∨ q = 3 := by omega
        · subst hq
          go_wp2_with fail
          go_quiet (fail)
          go_wp2_with fail
          go_quiet ((go_at_call 31; refine quietU_add (rmore_any _ _)))
          go_wp2_with fail
          · go_roundw
            case rel => exact ⟨k + 1, _, 0, _, _, by omega, by go_num, rfl, rfl, max_neg _ (by assumption), by rw [ByteArray.size_append, three_size]; omega, by rw [HZ1.out]; omega, .inl rfl, by omega, u_none hlt HI.out (by assumption), rfl⟩
            case measure => simp [intOf]; omega
          · go_roundw
            case rel => exact ⟨k + 1, _, 0, _, _, by omega, by go_num, rfl, rfl, max_eq0 _ (by assumption), by rw [ByteArray.size_append, HZ1.out]; omega, by rw [HZ1.out]; omega, .inl rfl, by omega, u_zero hlt HI.out (by assumption), rfl⟩
            case measure => simp [intOf]; omega
          · go_roundw
            case rel => exact ⟨k + 1, _, _, _, _, by omega, by go_num, rfl, rfl, max_zero _ (by assumption), by omega, by rw [HZ1.out, HM.out]; omega, .inr (by rw [HZ1.out]; omega), by rw [HM.out]; omega, u_some hlt HI.out (by assumption) (by assumption), rfl⟩
            case measure => simp [intOf]; omega
        all_goals
          subst hq
          have hH0 : 0 < H.size := by omega
          have hH1 : (0 : Int) < (H.size : Int) := by omega
          cases hmay : mayI (H[0].toNat : Int) (s[k].toNat : Int) (H.size : Int) with
          | true =>
            have HMY := Lib.hid hmay
            clear hmay
            go_wp2_with fail
            go_quiet ((go_at_call 30; refine quietU_add (rmay_any _ _ _ _)))
            rw [HMY.out]
            go_wp2_with fail
            go_roundw
            case rel => first
              | exact ⟨k + 1, _, 0, _, _, by omega, by go_num, rfl, rfl, rfl, by rw [ByteArray.size_append, ByteArray.size_append, HZ1.out]; omega, by decide, .inl rfl, by omega, u_last hlt hH0 HI.out HMY.out, rfl⟩
              | exact ⟨k + 1, _, 1, _, _, by omega, by go_num, rfl, rfl, rfl, by omega, by rw [ByteArray.size_append, HZ1.out]; omega, .inr (by rw [ByteArray.size_append]; omega), by omega, u_go (q := 0) hlt hH0 HI.out HMY.out, rfl⟩
              | exact ⟨k + 1, _, 2, _, _, by omega, by go_num, rfl, rfl, rfl, by omega, by rw [ByteArray.size_append, HZ1.out]; omega, .inr (by rw [ByteArray.size_append]; omega), by omega, u_go (q := 1) hlt hH0 HI.out HMY.out, rfl⟩
            case measure => simp [intOf]; omega
          | false =>
            have HMY := Lib.hid hmay
            clear hmay
            have HF := Lib.hid (u_fail hlt hH0 HI.out HMY.out)
            go_wp2_with fail
            go_quiet ((go_at_call 30; refine quietU_add (rmay_any _ _ _ _)))
            rw [HMY.out]
            go_wp2_with fail
            go_quiet ((go_at_call 31; refine quietU_add (rmore_any _ _)))
            go_wp2_with fail
            · go_roundw
              case rel => exact ⟨k + 1, _, 0, _, _, by omega, by go_num, rfl, rfl, max_neg _ (by assumption), by rw [ByteArray.size_append, ByteArray.size_append, three_size]; omega, by rw [HZ1.out]; omega, .inl rfl, by omega, u_none hlt HF.out (by assumption), rfl⟩
              case measure => simp [intOf]; omega
            · go_roundw
              case rel => exact ⟨k + 1, _, 0, _, _, by omega, by go_num, rfl, rfl, max_eq0 _ (by assumption), by rw [ByteArray.size_append, ByteArray.size_append, HZ1.out, three_size]; omega, by rw [HZ1.out]; omega, .inl rfl, by omega, u_zero hlt HF.out (by assumption), rfl⟩
              case measure => simp [intOf]; omega
            · go_roundw
              case rel => exact ⟨k + 1, _, _, _, _, by omega, by go_num, rfl, rfl, max_zero _ (by assumption), by rw [ByteArray.size_append, three_size]; omega, by rw [HZ1.out, HM.out]; omega, .inr (by rw [HZ1.out]; omega), by rw [HM.out]; omega, u_some hlt HF.out (by assumption) (by assumption), rfl⟩
              case measure => simp [intOf]; omega
      · have hke : k = s.size := by omega
        have hend : Hid (s.data.toList.drop k = []) := by show s.data.toList.drop k = []; exact List.drop_eq_nil_of_le (by rw [hln.out]; omega)
        have HI2 := HI.out
        rw [hend.out] at HI2
        obtain hq | hq : q = 0 ∨ 0 < q := by omega
        · subst hq
          have HR : Hid ((⟨(textU b.data.toList).toArray⟩ : ByteArray) = O) := by
            show (⟨(textU b.data.toList).toArray⟩ : ByteArray) = O
            rw [← HI2]
            simp [stU, runU]
          clear HI2
          go_wp2_with fail
          go_ret
          rw [HR.out]
          exact ⟨rfl, below_drewM (Below.refl _ _) _⟩
        · obtain ⟨q', rfl⟩ : ∃ q', q = q' + 1 := ⟨q - 1, by omega⟩
          have hq1 : (0 : Int) < (((q' + 1 : Nat)) : Int) := by omega
          have HR : Hid ((⟨(textU b.data.toList).toArray⟩ : ByteArray) = O ++ ⟨#[239, 191, 189]⟩) := by
            show (⟨(textU b.data.toList).toArray⟩ : ByteArray) = _
            rw [← HI2]
            apply ByteArray.ext
            simp [runU, repl]
          clear HI2
          go_wp2_with fail
          go_ret
          rw [HR.out]
          exact ⟨rfl, below_drewM (Below.refl _ _) _⟩
end Go.Proofs.YtfbmabbehiicmaaDoor
