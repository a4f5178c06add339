/- The plain functions of layer 2 over lists of bytes, and the contracts of its functions on single bytes: the program's and the document's. -/
import Derived.Test.YteeplfbaflldaaaDoorProg
import Derived.WalkKit
import Derived.BigQuiet
import Derived.Deep.QuietTactic
import Derived.WalkSpells
import Derived.WalkLawsBesides
import Derived.Outline
import Derived.Lib.Hide
namespace Go.Proofs.YteeplfbaflldaaaDoor
open Go.RowKit

def upI (c : Int) : Bool := decide (65 ≤ c) && decide (c ≤ 90)
def spI (c : Int) : Bool := c == 9 || c == 10 || c == 12 || c == 13 || c == 32
def alI (c : Int) : Bool := upI c || (decide (97 ≤ c) && decide (c ≤ 122))
def diI (c : Int) : Bool := decide (48 ≤ c) && decide (c ≤ 57)
def hexI (c : Int) : Option Int := if 48 ≤ c ∧ c ≤ 57 then some (c - 48) else if 97 ≤ c ∧ c ≤ 102 then some (c - 87) else if 65 ≤ c ∧ c ≤ 70 then some (c - 55) else none

theorem ret_bool {a b : Bool} (h : a = b) : Ending.returned (.bool a) = .returned (.bool b) := by rw [h]

theorem upper_any (c : Int) (w : World) : Calls Tryd.prog 59 #[.int .u8 c] w fun e w' => e = .returned (.bool (upI c)) ∧ w = w' := by
  go_enter Tryd.func59, Tryd.ntmps59
  go_wp2
  all_goals (go_ret; refine ⟨ret_bool ?_, rfl⟩; rw [Bool.eq_iff_iff]; simp [upI]; try omega)
theorem digit_any (c : Int) (w : World) : Calls Tryd.prog 94 #[.int .u8 c] w fun e w' => e = .returned (.bool (diI c)) ∧ w = w' := by
  go_enter Tryd.func94, Tryd.ntmps94
  go_wp2
  all_goals (go_ret; refine ⟨ret_bool ?_, rfl⟩; rw [Bool.eq_iff_iff]; simp [diI]; try omega)
theorem rdigit_any (c : Int) (w : World) : Calls Tryd.prog 49 #[.int .u8 c] w fun e w' => e = .returned (.bool (diI c)) ∧ w = w' := by
  go_enter Tryd.func49, Tryd.ntmps49
  go_wp2
  all_goals (go_ret; refine ⟨ret_bool ?_, rfl⟩; rw [Bool.eq_iff_iff]; simp [diI]; try omega)
theorem ralpha_any (c : Int) (w : World) : Calls Tryd.prog 29 #[.int .u8 c] w fun e w' => e = .returned (.bool (alI c)) ∧ w = w' := by
  go_enter Tryd.func29, Tryd.ntmps29
  go_wp2
  all_goals (go_ret; refine ⟨ret_bool ?_, rfl⟩; rw [Bool.eq_iff_iff]; simp [alI, upI]; try omega)
theorem alpha_any (c : Int) (w : World) : Calls Tryd.prog 38 #[.int .u8 c] w fun e w' => e = .returned (.bool (alI c)) ∧ w = w' := by
  go_enter Tryd.func38, Tryd.ntmps38
  go_wp2_with (go_at_call 59; refine (upper_any _ _).mono ?_; rintro e w' ⟨rfl, rfl⟩)
  all_goals (go_ret; refine ⟨ret_bool ?_, rfl⟩; rw [Bool.eq_iff_iff]; simp [alI, *]; try omega)

/-- What a digit to the base 16 is worth, and whether it is one. -/
def hexV (c : Int) : Int := if 48 ≤ c ∧ c ≤ 57 then c - 48 else if 97 ≤ c ∧ c ≤ 102 then c - 97 + 10 else if 65 ≤ c ∧ c ≤ 70 then c - 65 + 10 else 0
def hexB (c : Int) : Bool := (decide (48 ≤ c) && decide (c ≤ 57)) || (decide (97 ≤ c) && decide (c ≤ 102)) || (decide (65 ≤ c) && decide (c ≤ 70))
theorem ret_ib {a b : Int} {x y : Bool} (h : a = b) (k : x = y) : Ending.returned (.tuple #[.int .i64 a, .bool x]) = .returned (.tuple #[.int .i64 b, .bool y]) := by rw [h, k]
theorem hex_any (c : Int) (w : World) (h0 : 0 ≤ c) (h1 : c ≤ 255) : Calls Tryd.prog 122 #[.int .u8 c] w fun e w' => e = .returned (.tuple #[.int .i64 (hexV c), .bool (hexB c)]) ∧ w = w' := by
  go_enter Tryd.func122, Tryd.ntmps122
  go_wp2
  all_goals (go_ret2; refine ⟨ret_ib (by unfold hexV; split <;> (try split) <;> (try split) <;> omega) ?_, rfl⟩; rw [Bool.eq_iff_iff]; simp [hexB]; try omega)

/-- The digit number k, and whether it is one for c. -/
def dig16 (k : Nat) : Int := if k < 10 then 48 + k else 87 + k
def isDig (c : Int) (k : Nat) : Prop := dig16 k = c ∨ (65 ≤ c ∧ c ≤ 90 ∧ dig16 k = c + 32)
theorem hex_at {c : Int} {k : Nat} (hk : k < 16) (h : isDig c k) : (k : Int) = hexV c ∧ true = hexB c := by
  have e : hexB c = decide ((48 ≤ c ∧ c ≤ 57) ∨ (97 ≤ c ∧ c ≤ 102) ∨ (65 ≤ c ∧ c ≤ 70)) := by
    rw [Bool.eq_iff_iff]; simp [hexB]; omega
  rw [e]
  unfold isDig dig16 at h
  unfold hexV
  refine ⟨?_, (decide_eq_true ?_).symm⟩
  · split at h <;> split <;> (try split) <;> (try split) <;> omega
  · split at h <;> omega
theorem hex_none {c : Int} (h : ∀ k, k < 16 → ¬ isDig c k) : (0 : Int) = hexV c ∧ false = hexB c := by
  have e : hexB c = decide ((48 ≤ c ∧ c ≤ 57) ∨ (97 ≤ c ∧ c ≤ 102) ∨ (65 ≤ c ∧ c ≤ 70)) := by
    rw [Bool.eq_iff_iff]; simp [hexB]; omega
  rw [e]
  have n : ¬ ((48 ≤ c ∧ c ≤ 57) ∨ (97 ≤ c ∧ c ≤ 102) ∨ (65 ≤ c ∧ c ≤ 70)) := by
    rintro (⟨a, b⟩ | ⟨a, b⟩ | ⟨a, b⟩)
    · exact h (c - 48).toNat (by omega) (.inl (by unfold dig16; split <;> omega))
    · exact h (c - 87).toNat (by omega) (.inl (by unfold dig16; split <;> omega))
    · exact h (c - 55).toNat (by omega) (.inr ⟨by omega, by omega, by unfold dig16; split <;> omega⟩)
  refine ⟨?_, (decide_eq_false n).symm⟩
  unfold hexV
  split <;> (try split) <;> (try split) <;> omega

theorem dig16_eq (k : Nat) (h : k < 16) : ((((⟨#[48, 49, 50, 51, 52, 53, 54, 55, 56, 57, 97, 98, 99, 100, 101, 102]⟩ : ByteArray)[k]'(by exact h)).toNat : Nat) : Int) = dig16 k := by
  have : ∀ k : Fin 16, ((((⟨#[48, 49, 50, 51, 52, 53, 54, 55, 56, 57, 97, 98, 99, 100, 101, 102]⟩ : ByteArray)[k.val]'(k.isLt)).toNat : Nat) : Int) = dig16 k.val := by decide
  exact this ⟨k, h⟩
set_option maxHeartbeats 1000000 in
theorem rhex_any (c : Int) (w : World) (h0 : 0 ≤ c) (h1 : c ≤ 255) : Calls Tryd.prog 46 #[.int .u8 c] w fun e w' => e = .returned (.tuple #[.int .i64 (hexV c), .bool (hexB c)]) ∧ w = w' := by
  go_enter Tryd.func46, Tryd.ntmps46
  go_wp2
  go_loop [5] (fun i => ∃ k : Nat, k ≤ 16 ∧ i = .int .i64 k ∧ Hid (∀ j, j < k → ¬ isDig c j)) (fun i => 16 - (intOf i).toNat)
  case atStart => exact ⟨0, by omega, rfl, fun j hj => by omega⟩
  case round =>
    obtain ⟨k, hk, rfl, hno⟩ := hrel
    by_cases hlt : k < 16
    · have HG := Lib.hid (dig16_eq k hlt)
      go_wp2
      · go_ret2
        have hd : isDig c k := .inl (by rw [← HG.out]; assumption)
        exact ⟨ret_ib (hex_at hlt hd).1 (hex_at hlt hd).2, rfl⟩
      · go_ret2
        have hd : isDig c k := by
          have t := HG.out
          simp only [t] at *
          unfold isDig
          simp at *
          omega
        exact ⟨ret_ib (hex_at hlt hd).1 (hex_at hlt hd).2, rfl⟩
      all_goals
        have hd : ¬ isDig c k := by
          have t := HG.out
          simp only [t] at *
          unfold isDig
          simp at *
          omega
        go_round
        case rel => exact ⟨k + 1, by omega, by go_num, fun j hj => if h : j = k then h ▸ hd else hno.out j (by omega)⟩
        case measure => simp [intOf]; omega
    · go_wp2
      go_ret2
      have e : k = 16 := by omega
      subst e
      exact ⟨ret_ib (hex_none hno.out).1 (hex_none hno.out).2, rfl⟩
end Go.Proofs.YteeplfbaflldaaaDoor
