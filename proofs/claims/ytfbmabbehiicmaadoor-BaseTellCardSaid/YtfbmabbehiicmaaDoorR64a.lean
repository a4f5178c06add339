/- lazaretref03: letter, value, Plain, Encode. -/
import Derived.Test.YtfbmabbehiicmaaDoorR64
import Derived.Test.YtfbmabbehiicmaaDoorB64p
set_option linter.unusedVariables false
namespace Go.Proofs.YtfbmabbehiicmaaDoor
open Go.RowKit

theorem ret_i {a b : Int} (h : a = b) : Ending.returned (.int .i64 a) = .returned (.int .i64 b) := by rw [h]
theorem ret_u8 {a b : Int} (h : a = b) : Ending.returned (.int .u8 a) = .returned (.int .u8 b) := by rw [h]
theorem rletter_any (n : Nat) (w : World) (hn : n < 1099511627776) : Calls Tryd.prog 38 #[.int .i64 n] w fun e w' => e = .returned (.int .u8 ((L64 (n % 64)).toNat : Int)) ∧ w = w' := by
  have h1 : (n : Int) % 64 < 64 := by omega
  have h0 : (0 : Int) ≤ (n : Int) % 64 := by omega
  obtain ⟨q, hq⟩ : ∃ q : Nat, n % 64 = q := ⟨_, rfl⟩
  have hq64 : q < 64 := by omega
  have hqi : (n : Int) % 64 = (q : Int) := by omega
  have hq0 : (0 : Int) ≤ (q : Int) := by omega
  have hq1 : (q : Int) < 64 := by omega
  have HQ : Hid ((alphB[q]'(by exact hq64)).toNat = (L64 (n % 64)).toNat) := by
    show (alphB[q]'(by exact hq64)).toNat = (L64 (n % 64)).toNat
    rw [hq, L64_at q hq64]
  clear h1 h0 hq
  go_enter Tryd.func38, Tryd.ntmps38
  go_wp2_with fail
  go_ret
  refine ⟨ret_u8 ?_, rfl⟩
  rw [← HQ.out]
  rfl

set_option maxHeartbeats 2000000 in
set_option maxRecDepth 100000 in
theorem rvalue_any (c : UInt8) (w : World) : Calls Tryd.prog 36 #[.int .u8 (c.toNat : Int)] w fun e w' => e = .returned (.int .i64 (valZ c)) ∧ w = w' := by
  obtain ⟨d, hd⟩ : ∃ d, plainB c = d := ⟨_, rfl⟩
  have hkey : Hid (∀ k, k < 64 → ((L64 k).toNat : Int) = (d.toNat : Int) → valZ c = k) := by
    intro k hk h
    refine valZ_at hk ?_
    rw [hd]
    exact UInt8.toNat_inj.1 (by omega)
  have hnone : Hid ((∀ k, k < 64 → ((L64 k).toNat : Int) ≠ (d.toNat : Int)) → valZ c = -1) := by
    intro h
    refine valZ_none fun k hk e => h k hk ?_
    rw [e, hd]
  have hd8 := d.toNat_lt
  have hcase : ((c.toNat : Int) = 45 ∧ (d.toNat : Int) = 43) ∨ ((c.toNat : Int) = 95 ∧ (d.toNat : Int) = 47) ∨ (((c.toNat : Int) == 45) = false ∧ ((c.toNat : Int) == 95) = false ∧ d = c) := by
    by_cases h1 : c = 45
    · left; subst h1; subst hd; exact ⟨rfl, rfl⟩
    · by_cases h2 : c = 95
      · right; left; subst h2; subst hd; exact ⟨rfl, rfl⟩
      · right; right
        refine ⟨?_, ?_, ?_⟩
        · rw [beq_eq_false_iff_ne]; intro e; exact h1 (UInt8.toNat_inj.1 (by show c.toNat = 45; omega))
        · rw [beq_eq_false_iff_ne]; intro e; exact h2 (UInt8.toNat_inj.1 (by show c.toNat = 95; omega))
        · rw [← hd]; unfold plainB; rw [if_neg h1, if_neg h2]
  clear hd
  rcases hcase with ⟨h1, h2⟩ | ⟨h1, h2⟩ | ⟨h1, h2, h3⟩
  · rw [h1]
    rw [h2] at hkey hnone
    clear h1 h2
    go_enter Tryd.func36, Tryd.ntmps36
    go_wp2_with fail
    go_loop [3] (fun i => ∃ k : Nat, k ≤ 64 ∧ i = .int .i64 k ∧ Hid (∀ j, j < k → ((L64 j).toNat : Int) ≠ 43)) (fun i => 64 - (intOf i).toNat)
    case atStart => exact ⟨0, by omega, rfl, fun j h => by omega⟩
    case round =>
      obtain ⟨k, hk, rfl, HI⟩ := hrel
      by_cases hlt : k < 64
      · cases hq : (((L64 (k % 64)).toNat : Int) == 43) with
        | true =>
          have HQ := Lib.hid (beq_iff_eq.1 hq)
          go_wp2_with fail
          refine (rletter_any k _ (by omega)).mono ?_
          rintro e w' ⟨rfl, rfl⟩
          go_wp2_with fail
          go_ret
          have h := HQ.out
          rw [Nat.mod_eq_of_lt hlt] at h
          exact ⟨ret_i (hkey.out k hlt h).symm, rfl⟩
        | false =>
          have HQ := Lib.hid (beq_eq_false_iff_ne.1 hq)
          go_wp2_with fail
          refine (rletter_any k _ (by omega)).mono ?_
          rintro e w' ⟨rfl, rfl⟩
          go_wp2_with fail
          go_round
          case rel => exact ⟨k + 1, by omega, by go_num, fun j hj => by
            by_cases e : j = k
            · subst e; have h := HQ.out; rwa [Nat.mod_eq_of_lt hlt] at h
            · exact HI.out j (by omega)⟩
          case measure => simp [intOf]; omega
      · go_wp2_with fail
        go_ret
        exact ⟨ret_i (hnone.out fun j hj => HI.out j (by omega)).symm, rfl⟩
  · rw [h1]
    rw [h2] at hkey hnone
    clear h1 h2
    go_enter Tryd.func36, Tryd.ntmps36
    go_wp2_with fail
    go_loop [3] (fun i => ∃ k : Nat, k ≤ 64 ∧ i = .int .i64 k ∧ Hid (∀ j, j < k → ((L64 j).toNat : Int) ≠ 47)) (fun i => 64 - (intOf i).toNat)
    case atStart => exact ⟨0, by omega, rfl, fun j h => by omega⟩
    case round =>
      obtain ⟨k, hk, rfl, HI⟩ := hrel
      by_cases hlt : k < 64
      · cases hq : (((L64 (k % 64)).toNat : Int) == 47) with
        | true =>
          have HQ := Lib.hid (beq_iff_eq.1 hq)
          go_wp2_with fail
          refine (rletter_any k _ (by omega)).mono ?_
          rintro e w' ⟨rfl, rfl⟩
          go_wp2_with fail
          go_ret
          have h := HQ.out
          rw [Nat.mod_eq_of_lt hlt] at h
          exact ⟨ret_i (hkey.out k hlt h).symm, rfl⟩
        | false =>
          have HQ := Lib.hid (beq_eq_false_iff_ne.1 hq)
          go_wp2_with fail
          refine (rletter_any k _ (by omega)).mono ?_
          rintro e w' ⟨rfl, rfl⟩
          go_wp2_with fail
          go_round
          case rel => exact ⟨k + 1, by omega, by go_num, fun j hj => by
            by_cases e : j = k
            · subst e; have h := HQ.out; rwa [Nat.mod_eq_of_lt hlt] at h
            · exact HI.out j (by omega)⟩
          case measure => simp [intOf]; omega
      · go_wp2_with fail
        go_ret
        exact ⟨ret_i (hnone.out fun j hj => HI.out j (by omega)).symm, rfl⟩
  · subst h3
    go_enter Tryd.func36, Tryd.ntmps36
    go_wp2_with fail
    go_loop [3] (fun i => ∃ k : Nat, k ≤ 64 ∧ i = .int .i64 k ∧ Hid (∀ j, j < k → ((L64 j).toNat : Int) ≠ (d.toNat : Int))) (fun i => 64 - (intOf i).toNat)
    case atStart => exact ⟨0, by omega, rfl, fun j h => by omega⟩
    case round =>
      obtain ⟨k, hk, rfl, HI⟩ := hrel
      by_cases hlt : k < 64
      · cases hq : (((L64 (k % 64)).toNat : Int) == (d.toNat : Int)) with
        | true =>
          have HQ := Lib.hid (beq_iff_eq.1 hq)
          go_wp2_with fail
          refine (rletter_any k _ (by omega)).mono ?_
          rintro e w' ⟨rfl, rfl⟩
          go_wp2_with fail
          go_ret
          have h := HQ.out
          rw [Nat.mod_eq_of_lt hlt] at h
          exact ⟨ret_i (hkey.out k hlt h).symm, rfl⟩
        | false =>
          have HQ := Lib.hid (beq_eq_false_iff_ne.1 hq)
          go_wp2_with fail
          refine (rletter_any k _ (by omega)).mono ?_
          rintro e w' ⟨rfl, rfl⟩
          go_wp2_with fail
          go_round
          case rel => exact ⟨k + 1, by omega, by go_num, fun j hj => by
            by_cases e : j = k
            · subst e; have h := HQ.out; rwa [Nat.mod_eq_of_lt hlt] at h
            · exact HI.out j (by omega)⟩
          case measure => simp [intOf]; omega
      · go_wp2_with fail
        go_ret
        exact ⟨ret_i (hnone.out fun j hj => HI.out j (by omega)).symm, rfl⟩
end Go.Proofs.YtfbmabbehiicmaaDoor
