/- lazaretlaw11.has, ends. -/
import Derived.Test.YtbpdmbmooboimaaDoorRwu
set_option linter.unusedVariables false
set_option linter.unusedSimpArgs false
namespace Go.Proofs.YtbpdmbmooboimaaDoor.R11
open Go.RowKit R9 T10

theorem some_hit {l t : List UInt8} {a : Nat} (h : t.isPrefixOf (l.drop a) = true) : (fnd (l.drop a) t).isSome = true := by rw [fnd_hit h]; rfl
theorem some_miss {l t : List UInt8} {a : Nat} {c : UInt8} (hc : l[a]? = some c) (h : t.isPrefixOf (l.drop a) = false) : (fnd (l.drop a) t).isSome = (fnd (l.drop (a + 1)) t).isSome := by
  have hl := (List.getElem?_eq_some_iff.1 hc).1
  have hd := List.drop_eq_getElem_cons hl
  rw [hd] at h ⊢
  rw [fnd_miss h]
  cases fnd (l.drop (a + 1)) t <;> rfl
theorem some_end {l t : List UInt8} {a : Nat} (h : l.length < a + t.length) (ht : t ≠ []) : (fnd (l.drop a) t).isSome = false := by
  cases hf : fnd (l.drop a) t with
  | none => rfl
  | some i =>
    have := (fnd_some hf).2.1
    rw [List.length_drop] at this
    have ht2 : 0 < t.length := List.length_pos_iff.2 ht
    omega
set_option maxHeartbeats 1600000 in
set_option maxRecDepth 100000 in
theorem has_any (s t : ByteArray) (w : World) (hs : s.size ≤ 1000000) (ht : t.size ≤ 1000) (ht1 : 1 ≤ t.size) :
    Calls Tryd.prog 22 #[.string s, .string t] w fun e w' => e = .returned (.bool (fnd s.data.toList t.data.toList).isSome) ∧ w = w' := by
  obtain ⟨R, hR⟩ : ∃ R, (fnd s.data.toList t.data.toList).isSome = R := ⟨_, rfl⟩
  rw [hR]
  have hsl : s.data.toList.length = s.size := by simp
  have htl : t.data.toList.length = t.size := by simp
  have HSL := Lib.hid hsl
  have HTL := Lib.hid htl
  have h0 : Hid ((fnd (s.data.toList.drop 0) t.data.toList).isSome = R) := hR
  clear hsl htl hR
  go_enter Tryd.func22, Tryd.ntmps22
  go_wp2_with fail
  go_loop [5] (fun i => ∃ k : Nat, k ≤ s.size + 1 ∧ i = .int .i64 k ∧ Hid ((fnd (s.data.toList.drop k) t.data.toList).isSome = R)) (fun i => s.size + 1 - (intOf i).toNat)
  case atStart => exact ⟨0, by omega, rfl, h0⟩
  case round =>
    obtain ⟨k, hk, rfl, HZ⟩ := hrel
    obtain ⟨K, hK⟩ : ∃ K, k + t.size = K := ⟨_, rfl⟩
    have hKi : (k : Int) + t.size = K := by omega
    by_cases hle : K ≤ s.size
    · have hKs : (K : Int) ≤ s.size := by omega
      have hkK : (k : Int) ≤ K := by omega
      have hlt : k < s.size := by omega
      obtain ⟨X, hX⟩ : ∃ X, s.extract k K = X := ⟨_, rfl⟩
      have hXl : X.data.toList = (s.data.toList.drop k).take t.size := by rw [← hX, ext_toList, ← hK, Nat.add_sub_cancel_left]
      have hq : (X.toList == t.toList) = t.data.toList.isPrefixOf (s.data.toList.drop k) := by
        rw [prefix_take, ByteArray.toList_eq, ByteArray.toList_eq, hXl, HTL.out, decide_eq_true (by rw [List.length_drop, HSL.out]; omega), Bool.true_and]
      cases hp : t.data.toList.isPrefixOf (s.data.toList.drop k) with
      | true =>
        rw [hp] at hq
        have HF := Lib.hid (some_hit hp)
        have HK := Lib.hid hK
        clear hp hXl hK
        go_wp2_with fail
        go_ret
        exact ⟨by have h1 := HZ.out; have h2 := HF.out; rw [← h1, h2]; rfl, rfl⟩
      | false =>
        rw [hp] at hq
        have HF := Lib.hid (some_miss (at_get hlt) hp)
        have HK := Lib.hid hK
        clear hp hXl hK
        go_wp2_with fail
        go_round
        case rel => exact ⟨k + 1, by omega, by go_num, by have h1 := HZ.out; rw [HF.out] at h1; exact h1⟩
        case measure => simp [intOf]; omega
    · have hKs : ¬ (K : Int) ≤ s.size := by omega
      have HF : Hid ((fnd (s.data.toList.drop k) t.data.toList).isSome = false) := some_end (by rw [HSL.out, HTL.out]; omega) (by intro e; have := HTL.out; rw [e] at this; simp at this; omega)
      clear hle hK
      go_wp2_with fail
      go_ret
      exact ⟨by have h1 := HZ.out; have h2 := HF.out; rw [← h1, h2]; rfl, rfl⟩
theorem ends_law (s t : ByteArray) (w : World) (hs : s.size ≤ 1000000) (ht : t.size ≤ 1000) :
    Calls Tryd.prog 23 #[.string s, .string t] w fun e w' => e = .returned (.bool (t.data.toList.isSuffixOf s.data.toList)) ∧ w = w' := by
  have hsl : s.data.toList.length = s.size := by simp
  have htl : t.data.toList.length = t.size := by simp
  by_cases hle : t.size ≤ s.size
  · obtain ⟨N, hN⟩ : ∃ N, s.size - t.size = N := ⟨_, rfl⟩
    have i1 : (s.size : Int) - t.size = N := by omega
    have i2 : (N : Int) ≤ s.size := by omega
    have i3 : (t.size : Int) ≤ s.size := by omega
    obtain ⟨X, hX⟩ : ∃ X, s.extract N s.size = X := ⟨_, rfl⟩
    have hq : (X.toList == t.toList) = t.data.toList.isSuffixOf s.data.toList := by
      rw [suffix_take, hsl, htl, decide_eq_true hle, Bool.true_and, hN, ByteArray.toList_eq, ByteArray.toList_eq, ← hX, ext_tail]
    rw [← hq]
    clear hsl htl hle hN hq
    go_enter Tryd.func23, Tryd.ntmps23
    go_wp2_with fail
    go_ret
    exact ⟨by exact rfl, rfl⟩
  · have i3 : ¬ (t.size : Int) ≤ s.size := by omega
    have hq : t.data.toList.isSuffixOf s.data.toList = false := by rw [suffix_take, decide_eq_false (by omega), Bool.false_and]
    rw [hq]
    clear hsl htl hle hq
    go_enter Tryd.func23, Tryd.ntmps23
    go_wp2_with fail
    go_ret
    exact ⟨by exact rfl, rfl⟩
theorem fnd1_none {l : List UInt8} {c : UInt8} (h : fnd l [c] = none) : ∀ x ∈ l, x ≠ c := by
  intro x hx e
  obtain ⟨j, hj, hjx⟩ := List.getElem_of_mem hx
  have := (fnd_none h).2 j (by omega)
  rw [(pre1 l j c).2 (by rw [List.getElem?_eq_getElem hj, hjx, e])] at this
  cases this
theorem none_of_isSome {l t : List UInt8} (h : (fnd l t).isSome = false) : fnd l t = none := by
  cases hf : fnd l t with
  | none => rfl
  | some i => rw [hf] at h; cases h
/-- A script's text ends where an end of it begins. -/
theorem raw_script {P Q : List UInt8} (h : scan scr 0 (P ++ Q) = P.length) : rawT (P ++ Q) 3 scr = cleanR P ∧ rawN (P ++ Q) 3 scr = P.length := by
  have hn : rawN (P ++ Q) 3 scr = P.length := h
  refine ⟨?_, hn⟩
  unfold rawT
  rw [if_neg (by omega), hn, List.take_left]
end Go.Proofs.YtbpdmbmooboimaaDoor.R11
