/- lazaretref25: base, find, behind. -/
import Derived.Test.YteeplfbaflldaaaGreatDoorRs2
import Derived.Test.YteeplfbaflldaaaGreatDoorSrcV
import Derived.Test.YteeplfbaflldaaaGreatDoorAscii2
set_option linter.unusedVariables false
set_option linter.unusedSimpArgs false
namespace Go.Proofs.YteeplfbaflldaaaGreatDoor.S25
open Go.RowKit T10

/-- What stands ahead of the last = signs. -/
def stripEq (l : List UInt8) : List UInt8 := (l.reverse.dropWhile (fun x => x == 61)).reverse
def baseL (l : List UInt8) : Bool := decide (l.length - (stripEq l).length ≤ 2) && wordB b64C (stripEq l)
theorem stripEq_snoc (t : List UInt8) : stripEq (t ++ [61]) = stripEq t := by
  unfold stripEq
  simp
theorem stripEq_id {l : List UInt8} (h : ∀ t, l ≠ t ++ [61]) : stripEq l = l := by
  unfold stripEq
  cases hr : l.reverse with
  | nil => have := List.reverse_eq_nil_iff.1 hr; subst this; rfl
  | cons a r =>
    have hl : l = r.reverse ++ [a] := by
      have := congrArg List.reverse hr
      simpa using this
    have ha : a ≠ 61 := by
      rintro rfl
      exact h _ hl
    have hb : (a == 61) = false := by simpa using ha
    rw [List.dropWhile_cons, hb, if_neg (by simp), ← hr, List.reverse_reverse]
theorem stripEq_len (l : List UInt8) : (stripEq l).length ≤ l.length := by
  unfold stripEq
  rw [List.length_reverse]
  have := List.IsSuffix.length_le (List.dropWhile_suffix (fun x => x == 61) (l := l.reverse))
  rwa [List.length_reverse] at this
theorem trim_cases (l : List UInt8) : (∃ t, l = t ++ [61] ∧ Lib.trimSuffix l [61] = t) ∨ ((∀ t, l ≠ t ++ [61]) ∧ Lib.trimSuffix l [61] = l) := by
  unfold Lib.trimSuffix Lib.hasSuffix
  by_cases h : List.isSuffixOf [61] l = true
  · rw [if_pos h]
    obtain ⟨t, rfl⟩ := List.isSuffixOf_iff_suffix.1 h
    exact .inl ⟨t, rfl, by simp⟩
  · rw [if_neg h]
    refine .inr ⟨?_, rfl⟩
    rintro t rfl
    exact h (List.isSuffixOf_iff_suffix.2 (List.suffix_append _ _))
theorem word_eq (t : List UInt8) : wordB b64C (t ++ [61]) = false := by
  unfold wordB
  rw [Bool.and_eq_false_iff]
  right
  rw [List.all_eq_false]
  exact ⟨61, by simp, by decide⟩
/-- The document's base64 is the program's. -/
theorem base_same (l : List UInt8) : baseL l = b64B l := by
  unfold baseL b64B unpad
  rcases trim_cases l with ⟨t, rfl, h1⟩ | ⟨h0, h1⟩
  · rw [h1, stripEq_snoc]
    rcases trim_cases t with ⟨u, rfl, h2⟩ | ⟨h0, h2⟩
    · rw [h2, stripEq_snoc]
      by_cases h3 : ∃ v, u = v ++ [61]
      · obtain ⟨v, rfl⟩ := h3
        rw [word_eq, stripEq_snoc]
        have := stripEq_len v
        rw [decide_eq_false (by simp only [List.length_append, List.length_cons, List.length_nil]; omega)]
        rfl
      · rw [stripEq_id fun v e => h3 ⟨v, e⟩, decide_eq_true (by simp only [List.length_append, List.length_cons, List.length_nil]; omega)]
        rfl
    · rw [h2, stripEq_id h0, decide_eq_true (by simp only [List.length_append, List.length_cons, List.length_nil]; omega)]
      rfl
  · rw [h1, h1, stripEq_id h0, decide_eq_true (by omega)]
    rfl
/-- The first n bytes end where what is stripped begins. -/
theorem strip_take {l : List UInt8} {n : Nat} (hn : n ≤ l.length) (h : stripEq (l.take n) = stripEq l) (he : ∀ t, l.take n ≠ t ++ [61]) : stripEq l = l.take n := by
  rw [← h]; exact stripEq_id he
theorem take_snoc1 {l : List UInt8} {n : Nat} {c : UInt8} (h : l[n]? = some c) : l.take (n + 1) = l.take n ++ [c] := by
  rw [List.take_add_one, h]; rfl
set_option maxHeartbeats 1600000 in
set_option maxRecDepth 100000 in
theorem rbase_any (s : ByteArray) (w : World) (hs : s.size ≤ 1000000) :
    Calls Tryz.prog 27 #[.string s] w fun e w' => e = .returned (.bool (b64B s.data.toList)) ∧ w = w' := by
  have hsl : s.data.toList.length = s.size := by simp
  obtain ⟨Z, hZ⟩ : ∃ Z, b64B s.data.toList = Z := ⟨_, rfl⟩
  rw [hZ]
  rw [← base_same] at hZ
  have HZ := Lib.hid hZ
  have HSL := Lib.hid hsl
  clear hZ hsl
  go_enter Tryz.func27, Tryz.ntmps27
  go_wp2_with fail
  go_loop [3] (fun i => ∃ n : Nat, n ≤ s.size ∧ i = .int .i64 n ∧ Hid (stripEq (s.data.toList.take n) = stripEq s.data.toList)) (fun i => (intOf i).toNat)
  case atStart => exact ⟨s.size, Nat.le_refl _, rfl, by show _ = _; rw [List.take_of_length_le (by rw [HSL.out]; exact Nat.le_refl _)]⟩
  case round =>
    obtain ⟨n, hn, rfl, HK⟩ := hrel
    by_cases h0 : 0 < n
    · obtain ⟨j, rfl⟩ : ∃ j, n = j + 1 := ⟨n - 1, by omega⟩
      have h0i : (0 : Int) < ((j + 1 : Nat) : Int) := by omega
      have hj1 : ((j + 1 : Nat) : Int) - 1 = (j : Int) := by omega
      have hjs : j < s.size := by omega
      have hji : (j : Int) < s.size := by omega
      obtain ⟨c, hc⟩ : ∃ c, s[j] = c := ⟨_, rfl⟩
      have hg := at_get hjs
      rw [hc] at hg
      have HT := Lib.hid (take_snoc1 hg)
      clear hg
      by_cases h61 : c = 61
      · have t1 : ((c.toNat : Int) == 61) = true := by rw [h61]; rfl
        have HC := Lib.hid h61
        clear h61
        go_wp2_with fail
        go_round
        case rel => exact ⟨j, by omega, by go_num, by show _ = _; rw [← HK.out, HT.out, HC.out, stripEq_snoc]⟩
        case measure => simp [intOf]
      · have t1 : ((c.toNat : Int) == 61) = false := by
          rw [beq_eq_false_iff_ne]
          intro e
          exact h61 (UInt8.toNat_inj.1 (by show c.toNat = 61; omega))
        have HS : Hid (stripEq s.data.toList = s.data.toList.take (j + 1)) := by
          show _ = _
          refine strip_take (by rw [HSL.out]; omega) HK.out ?_
          intro t e
          rw [HT.out] at e
          have := congrArg List.getLast? e
          rw [List.getLast?_append, List.getLast?_append] at this
          exact h61 (by simpa using this)
        have HO := Lib.hid (ronly_any ⟨#[43, 47, 45, 95]⟩ b64C in_b64 (s.extract 0 (j + 1)) w (by simp; omega) (by decide))
        have hO2 : Hid (Calls Tryz.prog 28 #[.string (s.extract 0 (j + 1)), .string ⟨#[43, 47, 45, 95]⟩] w fun e w' => e = .returned (.bool (wordB b64C (stripEq s.data.toList))) ∧ w = w') := by
          have := HO.out
          rw [ext_take, ← HS.out] at this
          exact this
        have hle : ((j + 1 : Nat) : Int) ≤ s.size := by omega
        by_cases h2 : (s.size : Int) - ((j + 1 : Nat) : Int) ≤ 2
        · have HF : Hid (Z = wordB b64C (stripEq s.data.toList)) := by
            show _ = _
            rw [← HZ.out]
            unfold baseL
            rw [HSL.out, HS.out, List.length_take, HSL.out, decide_eq_true (by omega)]
            rfl
          obtain ⟨Q, hQ⟩ : ∃ Q, wordB b64C (stripEq s.data.toList) = Q := ⟨_, rfl⟩
          rw [hQ] at hO2 HF
          clear h61 hQ HO
          go_wp2_with (go_at_call 28; refine hO2.out.mono ?_; rintro e w' ⟨rfl, rfl⟩)
          go_ret
          exact ⟨by rw [HF.out]; rfl, rfl⟩
        · have HF : Hid (Z = false) := by
            show _ = _
            rw [← HZ.out]
            unfold baseL
            rw [HSL.out, HS.out, List.length_take, HSL.out, decide_eq_false (by omega)]
            rfl
          clear h61 HO hO2
          go_wp2_with fail
          go_ret
          exact ⟨by rw [HF.out]; rfl, rfl⟩
    · have hn0 : n = 0 := by omega
      subst hn0
      have HS : Hid (stripEq s.data.toList = []) := by
        show _ = _
        rw [← HK.out]; rfl
      have HF : Hid (Z = false) := by
        show _ = _
        rw [← HZ.out]
        unfold baseL
        rw [HS.out]
        simp [wordB]
      have HO := Lib.hid (ronly_any ⟨#[43, 47, 45, 95]⟩ b64C in_b64 (s.extract 0 0) w (by simp) (by decide))
      have hO2 : Hid (Calls Tryz.prog 28 #[.string ByteArray.empty, .string ⟨#[43, 47, 45, 95]⟩] w fun e w' => e = .returned (.bool false) ∧ w = w') := ronly_any ⟨#[43, 47, 45, 95]⟩ b64C in_b64 ByteArray.empty w (by decide) (by decide)
      by_cases h2 : (s.size : Int) - ((0 : Nat) : Int) ≤ 2
      · have h2' : (s.size : Int) ≤ 2 := by omega
        clear HO
        go_wp2_with (go_at_call 28; refine hO2.out.mono ?_; rintro e w' ⟨rfl, rfl⟩)
        go_ret
        exact ⟨by rw [HF.out]; rfl, rfl⟩
      · have h2' : ¬ (s.size : Int) ≤ 2 := by omega
        clear HO hO2
        go_wp2_with fail
        go_ret
        exact ⟨by rw [HF.out]; rfl, rfl⟩
end Go.Proofs.YteeplfbaflldaaaGreatDoor.S25
