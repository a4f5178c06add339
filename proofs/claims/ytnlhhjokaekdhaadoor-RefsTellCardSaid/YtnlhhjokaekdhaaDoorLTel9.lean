/- The law RefsTell. -/
import Derived.Test.YtnlhhjokaekdhaaDoorRt4
set_option linter.unusedVariables false
set_option linter.unusedSimpArgs false
namespace Go.Proofs.YtnlhhjokaekdhaaDoor.R9
open Go.RowKit

theorem ret3_shape (a : Nat) (o : Option (Int × Nat)) : ∃ (T : ByteArray) (N : Int) (B : Bool), ret3 a o = .tuple #[.string T, .int .i64 N, .bool B] := by
  cases o with
  | none => exact ⟨_, _, _, rfl⟩
  | some q => exact ⟨_, _, _, rfl⟩
theorem both (s : ByteArray) (z : Int) (attr : Bool) (hs : s.size ≤ 5000) : ∃ (T : ByteArray) (N : Int) (B : Bool),
    (∀ w, RTab w → Calls Tryd.prog 22 #[.string s, .int .i64 z, .bool attr] w fun e w' => e = .returned (.tuple #[.string T, .int .i64 N, .bool B]) ∧ w = w') ∧
    (∀ w, Calls Tryd.prog 23 #[.string s, .int .i64 z, .bool attr] w fun e w' => e = .returned (.tuple #[.string T, .int .i64 N, .bool B]) ∧ Below w.heap.size w w') := by
  by_cases hz : z < 0 ∨ (s.size : Int) ≤ z
  · obtain ⟨T, N, B, e⟩ := ret3_shape 0 none
    refine ⟨T, N, B, fun w _ => ?_, fun w => ?_⟩
    · have h := find_out s z attr w hz
      rw [e] at h
      exact h
    · have h := rfind_out s z attr w hz
      rw [e] at h
      exact h
  · obtain ⟨a, rfl⟩ : ∃ a : Nat, z = (a : Int) := ⟨z.toNat, by omega⟩
    obtain ⟨T, N, B, e⟩ := ret3_shape a (findS (s.data.toList.drop a) attr)
    refine ⟨T, N, B, fun w hT => ?_, fun w => ?_⟩
    · have h := find_in s a attr w hT (by omega) hs
      rw [e] at h
      exact h
    · have h := rfind_in s a attr w (by omega) hs
      rw [e] at h
      exact h
set_option maxHeartbeats 3200000 in
set_option maxRecDepth 100000 in
theorem refsTell_law (s : ByteArray) (z : Int) (w : World) (hT : RTab w) :
    Calls Tryd.prog 9 #[.string s, .int .i64 z] w fun e w' => e = .returned (.bool true) ∧ Below w.heap.size w w' := by
  have HRE := Lib.hid (fun W hW => refers_any W hW)
  have HT := Lib.hid hT
  clear hT
  by_cases hl : (2000 : Int) < s.size
  · go_enter Tryd.func9, Tryd.ntmps9
    go_wp2_with fail
    refine (HRE.out _ HT.out).mono ?_
    rintro e w' ⟨rfl, rfl⟩
    go_wp2_with fail
    go_ret
    exact ⟨by exact rfl, Below.refl _ _⟩
  · have HBO := Lib.hid (fun attr => both s z attr (by omega))
    have i0 : ∀ W, (Instr.index 28 (.agg #[.bool false, .bool true]) (.int .i64 0)).run Tryd.prog W = .ok (.bool false) W := fun _ => by kernel_rfl
    have i1 : ∀ W, (Instr.index 28 (.agg #[.bool false, .bool true]) (.int .i64 1)).run Tryd.prog W = .ok (.bool true) W := fun _ => by kernel_rfl
    go_enter Tryd.func9, Tryd.ntmps9
    go_wp2_with fail
    go_loopw [18] (fun i wr => ∃ k : Nat, k ≤ 2 ∧ i = .int .i64 k ∧ Hid (Below w.heap.size w wr)) (fun i _ => 2 - (intOf i).toNat)
    case atStart => exact ⟨0, by omega, rfl, Below.refl _ w⟩
    case round =>
      obtain ⟨k, hk, rfl, B⟩ := hrel
      by_cases hk2 : k < 2
      · rcases (by omega : k = 0 ∨ k = 1) with rfl | rfl
        · obtain ⟨T, N, Bo, f1, f2⟩ := HBO.out false
          have HF1 := Lib.hid f1
          have HF2 := Lib.hid f2
          have hq : (T.toList != T.toList) = false := by simp
          clear f1 f2
          go_wp2_with fail
          refine (HF1.out _ (HT.out.below B.out)).mono ?_
          rintro e w' ⟨rfl, rfl⟩
          go_wp2_with fail
          refine (HF2.out _).mono ?_
          rintro e w3 ⟨rfl, b3⟩
          have B3 : Hid (Below w.heap.size w w3) := B.out.trans (b3.mono B.out.size)
          clear b3
          cases Bo
          all_goals
            go_wp2_with fail
            go_roundw
            case rel => exact ⟨1, by omega, by first | go_num | rfl, B3.out⟩
            case measure => first | (simp [intOf]; done) | (simp [intOf]; omega)
        · obtain ⟨T, N, Bo, f1, f2⟩ := HBO.out true
          have HF1 := Lib.hid f1
          have HF2 := Lib.hid f2
          have hq : (T.toList != T.toList) = false := by simp
          clear f1 f2
          go_wp2_with fail
          refine (HF1.out _ (HT.out.below B.out)).mono ?_
          rintro e w' ⟨rfl, rfl⟩
          go_wp2_with fail
          refine (HF2.out _).mono ?_
          rintro e w3 ⟨rfl, b3⟩
          have B3 : Hid (Below w.heap.size w w3) := B.out.trans (b3.mono B.out.size)
          clear b3
          cases Bo
          all_goals
            go_wp2_with fail
            go_roundw
            case rel => exact ⟨2, by omega, by first | go_num | rfl, B3.out⟩
            case measure => first | (simp [intOf]; done) | (simp [intOf]; omega)
      · obtain rfl : k = 2 := by omega
        go_wp2_with fail
        refine (HRE.out _ (HT.out.below B.out)).mono ?_
        rintro e w' ⟨rfl, rfl⟩
        go_wp2_with fail
        go_ret
        exact ⟨by exact rfl, B.out⟩
end Go.Proofs.YtnlhhjokaekdhaaDoor.R9
