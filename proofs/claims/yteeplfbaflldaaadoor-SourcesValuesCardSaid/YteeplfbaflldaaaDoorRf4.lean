/- refs.Find. -/
import Derived.Test.YteeplfbaflldaaaDoorRf3
set_option linter.unusedVariables false
set_option linter.unusedSimpArgs false
namespace Go.Proofs.YteeplfbaflldaaaDoor.R9
open Go.RowKit

/-- The reference that stands at the front of r: its character, and how many bytes it takes. -/
def findS (r : List UInt8) (attr : Bool) : Option (Int × Nat) :=
  if r.head? = some 38 then (if (r.drop 1).head? = some 35 then (numR (r.drop 2)).map (fun x => (x.1, x.2 + 2)) else (nameR (r.drop 1) attr).map (fun x => (x.1, x.2 + 1))) else none
theorem ret3_more (a k : Nat) (o : Option (Int × Nat)) : ret3 (a + k) o = ret3 a (o.map fun x => (x.1, x.2 + k)) := by
  cases o with
  | none => rfl
  | some x =>
    obtain ⟨c, n⟩ := x
    show Value.tuple #[_, .int .i64 ((a + k + n : Nat) : Int), _] = Value.tuple #[_, .int .i64 ((a + (n + k) : Nat) : Int), _]
    rw [show a + k + n = a + (n + k) by omega]
theorem hash_any (P : ByteArray) (w : World) (hP : P.size ≤ 1000000) : Calls Tryd.prog 108 #[.string P, .string ⟨#[35]⟩] w fun e w' => e = .returned (.bool (P.data.toList.head? == some 35)) ∧ w = w' := by
  obtain ⟨b, hb⟩ : ∃ b, (P.data.toList.head? == some 35) = b := ⟨_, rfl⟩
  rw [hb]
  by_cases h : 1 ≤ P.size
  · have hq : ((P.extract 0 1).toList == [35]) = b := by
      rw [← hb, ByteArray.toList_eq, ByteArray.data_extract, Array.toList_extract, List.extract_eq_take_drop]
      have hl : 0 < P.data.toList.length := by simp; omega
      obtain ⟨x, r, hx⟩ : ∃ x r, P.data.toList = x :: r := by
        cases hc : P.data.toList with
        | nil => rw [hc] at hl; cases hl
        | cons x r => exact ⟨x, r, rfl⟩
      rw [hx]
      simp
    have hi : (1 : Int) ≤ P.size := by omega
    clear hb
    go_enter Tryd.func108, Tryd.ntmps108
    go_wp2
    go_ret
    exact ⟨rfl, rfl⟩
  · have hi : ¬ (1 : Int) ≤ P.size := by omega
    have hbf : b = false := by
      have hl : P.data.toList = [] := by
        rw [← List.length_eq_zero_iff]
        have : P.data.toList.length = P.size := by simp
        omega
      rw [← hb, hl]
      rfl
    subst hbf
    clear hb
    go_enter Tryd.func108, Tryd.ntmps108
    go_wp2
    go_ret
    exact ⟨rfl, rfl⟩

set_option maxHeartbeats 1600000 in
set_option maxRecDepth 100000 in
theorem find_out (s : ByteArray) (z : Int) (attr : Bool) (w : World) (hz : z < 0 ∨ (s.size : Int) ≤ z) :
    Calls Tryd.prog 90 #[.string s, .int .i64 z, .bool attr] w fun e w' => e = .returned (ret3 0 none) ∧ w = w' := by
  by_cases h0 : z < 0
  · go_enter Tryd.func90, Tryd.ntmps90
    go_wp2
    go_ret3
    exact ⟨rfl, rfl⟩
  · have h1 : (s.size : Int) ≤ z := by omega
    go_enter Tryd.func90, Tryd.ntmps90
    go_wp2
    go_ret3
    exact ⟨rfl, rfl⟩
set_option maxHeartbeats 1600000 in
set_option maxRecDepth 100000 in
theorem find_in (s : ByteArray) (a : Nat) (attr : Bool) (w : World) (hT : RTab w) (ha : a < s.size) (hs : s.size ≤ 5000) :
    Calls Tryd.prog 90 #[.string s, .int .i64 a, .bool attr] w fun e w' => e = .returned (ret3 a (findS (s.data.toList.drop a) attr)) ∧ w = w' := by
  obtain ⟨F, hF⟩ : ∃ F, findS (s.data.toList.drop a) attr = F := ⟨_, rfl⟩
  have hhd : (s.data.toList.drop a).head? = some s[a] := by
    have hl : a < s.data.toList.length := by simpa using ha
    rw [List.head?_drop, List.getElem?_eq_getElem hl]
    rfl
  have hai : (a : Int) < s.size := by omega
  have hai2 : ¬ (s.size : Int) ≤ a := by omega
  have ha0 : ¬ (a : Int) < 0 := by omega
  rw [hF]
  by_cases h38 : s[a] = 38
  · have hq : ((s[a].toNat : Int) != 38) = false := by rw [h38]; rfl
    rw [findS, hhd, if_pos (by rw [h38]), List.drop_drop, List.drop_drop] at hF
    obtain ⟨A, hA⟩ : ∃ A, a + 1 = A := ⟨_, rfl⟩
    have hAi : (a : Int) + 1 = (A : Int) := by omega
    have hAs : (A : Int) ≤ s.size := by omega
    obtain ⟨P, hP⟩ : ∃ P, s.extract A s.size = P := ⟨_, rfl⟩
    have hPs : P.size ≤ 1000000 := by rw [← hP]; simp; omega
    have hPh : P.data.toList.head? = (s.data.toList.drop A).head? := by
      rw [← hP, ByteArray.data_extract, Array.toList_extract, List.extract_eq_take_drop, List.take_of_length_le (by rw [List.length_drop]; simp)]
    have HHA := Lib.hid (hash_any P w hPs)
    rw [hA] at hF
    rw [hPh] at HHA
    by_cases h35 : (s.data.toList.drop A).head? = some 35
    · rw [if_pos h35] at hF
      have hb : ((s.data.toList.drop A).head? == some 35) = true := by rw [h35]; rfl
      rw [hb] at HHA
      have hA2 : A + 1 ≤ s.size := by
        have : A < s.data.toList.length := by
          rw [List.head?_drop] at h35
          exact (List.getElem?_eq_some_iff.1 h35).1
        have h3 : A < s.size := by simpa using this
        omega
      obtain ⟨B, hB⟩ : ∃ B, a + 2 = B := ⟨_, rfl⟩
      have hBi : (a : Int) + 2 = (B : Int) := by omega
      have HNU := Lib.hid (number_any s B w hT (by omega) hs)
      rw [hB] at hF
      have HF : Hid (ret3 B (numR (s.data.toList.drop B)) = ret3 a F) := by show _ = _; rw [← hF, ← hB, ret3_more]
      rw [HF.out] at HNU
      obtain ⟨X, hX⟩ : ∃ X, ret3 a F = X := ⟨_, rfl⟩
      have hX3 : ∃ x y z, X = .tuple #[x, y, z] := by rw [← hX]; cases F with
        | none => exact ⟨_, _, _, rfl⟩
        | some q => exact ⟨_, _, _, rfl⟩
      obtain ⟨x, y, z, hX3⟩ := hX3
      subst hX3
      rw [hX] at HNU
      rw [hX]
      clear hF hhd h38 hA hPs hPh h35 hb hA2 hB hX HF hT
      go_enter Tryd.func90, Tryd.ntmps90
      go_wp2_with fail
      refine HHA.out.mono ?_
      rintro e w' ⟨rfl, rfl⟩
      go_wp2_with fail
      refine HNU.out.mono ?_
      rintro e w' ⟨rfl, rfl⟩
      go_wp2_with fail
      go_ret3
      exact ⟨rfl, rfl⟩
    · rw [if_neg h35] at hF
      have hb : ((s.data.toList.drop A).head? == some 35) = false := by simpa using h35
      rw [hb] at HHA
      have HNA := Lib.hid (name_any s A attr w (by omega) hs)
      have HF : Hid (ret3 A (nameR (s.data.toList.drop A) attr) = ret3 a F) := by show _ = _; rw [← hF, ← hA, ret3_more]
      rw [HF.out] at HNA
      obtain ⟨X, hX⟩ : ∃ X, ret3 a F = X := ⟨_, rfl⟩
      have hX3 : ∃ x y z, X = .tuple #[x, y, z] := by rw [← hX]; cases F with
        | none => exact ⟨_, _, _, rfl⟩
        | some q => exact ⟨_, _, _, rfl⟩
      obtain ⟨x, y, z, hX3⟩ := hX3
      subst hX3
      rw [hX] at HNA
      rw [hX]
      clear hF hhd h38 hA hPs hPh h35 hb hX HF hT
      go_enter Tryd.func90, Tryd.ntmps90
      go_wp2_with fail
      refine HHA.out.mono ?_
      rintro e w' ⟨rfl, rfl⟩
      go_wp2_with fail
      refine HNA.out.mono ?_
      rintro e w' ⟨rfl, rfl⟩
      go_wp2_with fail
      go_ret3
      exact ⟨rfl, rfl⟩
  · have hq : ((s[a].toNat : Int) != 38) = true := by unfold bne; rw [byte_ne (c := 38) (z := 38) h38 rfl]; rfl
    rw [findS, hhd, if_neg (by simpa using h38)] at hF
    subst hF
    clear hhd h38
    go_enter Tryd.func90, Tryd.ntmps90
    go_wp2
    go_ret3
    exact ⟨rfl, rfl⟩
end Go.Proofs.YteeplfbaflldaaaDoor.R9
