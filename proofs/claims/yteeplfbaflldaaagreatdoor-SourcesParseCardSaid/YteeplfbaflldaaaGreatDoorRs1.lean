/- lazaretref25: in, letter, only. -/
import Derived.Test.YteeplfbaflldaaaGreatDoorSrc2
set_option linter.unusedVariables false
set_option linter.unusedSimpArgs false
namespace Go.Proofs.YteeplfbaflldaaaGreatDoor.S25
open Go.RowKit T10

def inB (c : UInt8) (l : List UInt8) : Bool := l.any (fun x => x == c)
theorem any_take {l : List UInt8} {k : Nat} {x : UInt8} {f : UInt8 → Bool} (h : l[k]? = some x) : (l.take (k + 1)).any f = ((l.take k).any f || f x) := by
  rw [List.take_add_one, h]; simp
set_option maxHeartbeats 1600000 in
set_option maxRecDepth 100000 in
theorem rin_any (c : UInt8) (s : ByteArray) (w : World) (hs : s.size ≤ 1000000) :
    Calls Tryz.prog 29 #[.int .u8 (c.toNat : Int), .string s] w fun e w' => e = .returned (.bool (inB c s.data.toList)) ∧ w = w' := by
  obtain ⟨Z, hZ⟩ : ∃ Z, inB c s.data.toList = Z := ⟨_, rfl⟩
  rw [hZ]
  have HZ := Lib.hid hZ
  clear hZ
  go_enter Tryz.func29, Tryz.ntmps29
  go_wp2_with fail
  go_loop [4, 5] (fun r i => ∃ k : Nat, k ≤ s.size ∧ r = .bool false ∧ i = .int .i64 k ∧ Hid ((s.data.toList.take k).any (fun x => x == c) = false)) (fun _ i => s.size - (intOf i).toNat)
  case atStart => exact ⟨0, Nat.zero_le _, rfl, rfl, by show _ = _; simp⟩
  case round =>
    obtain ⟨k, hk, rfl, rfl, HK⟩ := hrel
    by_cases hlt : k < s.size
    · have hki : (k : Int) < s.size := by omega
      obtain ⟨d, hd⟩ : ∃ d, s[k] = d := ⟨_, rfl⟩
      have hg := at_get hlt
      rw [hd] at hg
      have HSN : Hid ((s.data.toList.take (k + 1)).any (fun x => x == c) = (d == c)) := by show _ = _; rw [any_take hg, HK.out]; rfl
      have HYES : Hid (d = c → Z = true) := fun h => by
        rw [← HZ.out]
        unfold inB
        rw [List.any_eq_true]
        exact ⟨d, List.mem_of_getElem? hg, by rw [h]; simp⟩
      clear hg
      by_cases hdc : d = c
      · have HT := Lib.hid (HYES.out hdc)
        have t1 : ((d.toNat : Int) == (c.toNat : Int)) = true := by rw [hdc]; simp
        clear hdc
        go_wp2_with fail
        go_ret
        exact ⟨by rw [HT.out]; rfl, rfl⟩
      · have t1 : ((d.toNat : Int) == (c.toNat : Int)) = false := by
          rw [beq_eq_false_iff_ne]
          intro e
          exact hdc (UInt8.toNat_inj.1 (by omega))
        have HN : Hid ((d == c) = false) := by show _ = _; rw [beq_eq_false_iff_ne]; exact hdc
        clear hdc
        go_wp2_with fail
        go_round
        case rel => exact ⟨k + 1, by omega, rfl, by go_num, by rw [HSN.out, HN.out]; exact rfl⟩
        case measure => simp [intOf]; omega
    · have hki : ¬ (k : Int) < s.size := by omega
      have HF : Hid (Z = false) := by
        show _ = _
        rw [← HZ.out]
        have h := HK.out
        rw [List.take_of_length_le (by simp; omega)] at h
        exact h
      go_wp2_with fail
      go_ret
      exact ⟨by rw [HF.out]; rfl, rfl⟩
theorem u8_each2 {P : UInt8 → Bool} (h : (List.range 256).all (fun n => P (UInt8.ofNat n)) = true) (c : UInt8) : P c = true := by
  have h1 := List.all_eq_true.1 h c.toNat (List.mem_range.2 c.toNat_lt)
  simpa using h1
def letterB (c : UInt8) : Bool := alI c.toNat || diI c.toNat
set_option maxHeartbeats 1600000 in
set_option maxRecDepth 100000 in
theorem rletter_any (c : UInt8) (w : World) :
    Calls Tryz.prog 51 #[.int .u8 (c.toNat : Int)] w fun e w' => e = .returned (.bool (letterB c)) ∧ w = w' := by
  obtain ⟨n, hn⟩ : ∃ n : Int, (c.toNat : Int) = n := ⟨_, rfl⟩
  have e : letterB c = ((decide (65 ≤ n) && decide (n ≤ 90) || (decide (97 ≤ n) && decide (n ≤ 122))) || (decide (48 ≤ n) && decide (n ≤ 57))) := by
    unfold letterB alI upI diI; rw [hn]
  rw [e, hn]
  clear e hn
  rcases (by omega : n < 48 ∨ (48 ≤ n ∧ n ≤ 57) ∨ (58 ≤ n ∧ n < 65) ∨ (65 ≤ n ∧ n ≤ 90) ∨ (91 ≤ n ∧ n < 97) ∨ (97 ≤ n ∧ n ≤ 122) ∨ 122 < n) with h | h | h | h | h | h | h
  all_goals
    have a1 := decide_eq_true_eq (p := 97 ≤ n)
    by_cases t1 : 97 ≤ n <;> by_cases t2 : n ≤ 122 <;> by_cases t3 : 65 ≤ n <;> by_cases t4 : n ≤ 90 <;> by_cases t5 : 48 ≤ n <;> by_cases t6 : n ≤ 57
    all_goals first
      | (exfalso; omega)
      | skip
  all_goals
    have HE : Hid (((decide (65 ≤ n) && decide (n ≤ 90) || (decide (97 ≤ n) && decide (n ≤ 122))) || (decide (48 ≤ n) && decide (n ≤ 57))) = _) := rfl
    simp only [t1, t2, t3, t4, t5, t6, decide_true, decide_false, Bool.and_true, Bool.and_false, Bool.or_true, Bool.or_false]
    clear HE h a1
    go_enter Tryz.func51, Tryz.ntmps51
    go_wp2_with fail
    go_ret
    exact ⟨by first | rfl | simp [t1, t2, t3, t4, t5, t6], rfl⟩
end Go.Proofs.YteeplfbaflldaaaGreatDoor.S25
