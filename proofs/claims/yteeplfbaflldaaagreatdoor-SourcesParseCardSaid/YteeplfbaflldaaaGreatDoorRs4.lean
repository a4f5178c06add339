/- lazaretref25: find, behind. -/
import Derived.Test.YteeplfbaflldaaaGreatDoorRs3
set_option linter.unusedVariables false
set_option linter.unusedSimpArgs false
namespace Go.Proofs.YteeplfbaflldaaaGreatDoor.S25
open Go.RowKit T10

theorem ext_take_len (s : ByteArray) (a n : Nat) : (s.extract a (a + n)).data.toList = (s.data.toList.drop a).take n := by
  rw [ext_list]; congr 1; omega
set_option maxHeartbeats 1600000 in
set_option maxRecDepth 100000 in
theorem rfind_any (s what : ByteArray) (w : World) (hs : s.size ≤ 1000000) (hw : what.size ≤ 1000000) (hne : 0 < what.size) :
    Calls Tryz.prog 30 #[.string s, .string what] w fun e w' => e = .returned (.int .i64 (Lib.index s.data.toList what.data.toList)) ∧ w = w' := by
  have hsl : s.data.toList.length = s.size := by simp
  have hwl : what.data.toList.length = what.size := by simp
  obtain ⟨Z, hZ⟩ : ∃ Z, Lib.index s.data.toList what.data.toList = Z := ⟨_, rfl⟩
  rw [hZ]
  have HZ := Lib.hid hZ
  have HSL := Lib.hid hsl
  have HWL := Lib.hid hwl
  have HNE := Lib.hid hne
  obtain ⟨n, hn⟩ : ∃ n, what.size = n := ⟨_, rfl⟩
  clear hZ hsl hwl hne
  go_enter Tryz.func30, Tryz.ntmps30
  go_wp2_with fail
  go_loop [4, 5] (fun r i => ∃ k : Nat, k ≤ s.size + 1 ∧ r = .int .i64 0 ∧ i = .int .i64 k ∧ Hid (Lib.NoOcc s.data.toList what.data.toList k)) (fun _ i => s.size + 1 - (intOf i).toNat)
  case atStart => exact ⟨0, Nat.zero_le _, rfl, rfl, Lib.NoOcc.zero _ _⟩
  case round =>
    obtain ⟨k, hk, rfl, rfl, HK⟩ := hrel
    by_cases hlt : k + what.size ≤ s.size
    · obtain ⟨p, hp⟩ : ∃ p, k + what.size = p := ⟨_, rfl⟩
      have hpi : (k : Int) + what.size = (p : Int) := by omega
      have hps : (p : Int) ≤ s.size := by omega
      have hkp : (k : Int) ≤ p := by omega
      have HO : Hid (Lib.occAt s.data.toList what.data.toList k = ((s.extract k p).toList == what.toList)) := by
        show _ = _
        rw [Lib.occAt_iff_take _ _ _ (by rw [HSL.out, HWL.out]; exact hlt), ByteArray.toList_eq, ByteArray.toList_eq, ← hp, ext_take_len, HWL.out]
      cases hq : ((s.extract k p).toList == what.toList) with
      | true =>
        have HF : Hid (Z = k) := by
          show _ = _
          rw [← HZ.out]
          exact Lib.index_hit HK.out (by rw [HSL.out]; omega) (by rw [HO.out, hq])
        clear hlt hn
        go_wp2_with fail
        go_ret
        exact ⟨by rw [HF.out]; rfl, rfl⟩
      | false =>
        have HN : Hid (Lib.NoOcc s.data.toList what.data.toList (k + 1)) := Lib.NoOcc.succ HK.out (by rw [HO.out, hq])
        have hk1 : k + 1 ≤ s.size + 1 := by omega
        clear hlt hn
        go_wp2_with fail
        go_round
        case rel => exact ⟨k + 1, hk1, rfl, by go_num, HN.out⟩
        case measure => simp [intOf]; omega
    · have hni : ¬ (k : Int) + what.size ≤ s.size := by omega
      have HF : Hid (Z = -1) := by
        show _ = _
        rw [← HZ.out]
        refine Lib.index_past ?_ HK.out (by rw [HSL.out, HWL.out]; omega)
        intro e
        have := congrArg List.length e
        rw [HWL.out, List.length_nil] at this
        have := HNE.out
        omega
      clear hlt hn
      go_wp2_with fail
      go_ret
      exact ⟨by rw [HF.out]; rfl, rfl⟩
/-- What stands behind a head, in any case. -/
def behindL (l head : List UInt8) : Option (List UInt8) := if l.length < head.length then none else if lowL (l.take head.length) = head then some (l.drop head.length) else none
def behindV (o : Option (List UInt8)) : Value := match o with
  | some r => .tuple #[.string (ba r), .bool true]
  | none => .tuple #[.string ⟨#[]⟩, .bool false]
set_option maxHeartbeats 1600000 in
set_option maxRecDepth 100000 in
theorem rbehind_any (s head : ByteArray) (w : World) (hs : s.size ≤ 1000000) (hh : head.size ≤ 1000) :
    Calls Tryz.prog 26 #[.string s, .string head] w fun e w' => e = .returned (behindV (behindL s.data.toList head.data.toList)) ∧ Below w.heap.size w w' := by
  have hsl : s.data.toList.length = s.size := by simp
  have hhl : head.data.toList.length = head.size := by simp
  unfold behindL
  rw [hsl, hhl]
  by_cases h1 : s.size < head.size
  · have h1i : (s.size : Int) < head.size := by omega
    rw [if_pos h1]
    clear h1 hsl hhl
    go_enter Tryz.func26, Tryz.ntmps26
    go_wp2_with fail
    go_ret2
    exact ⟨by exact rfl, Below.refl _ _⟩
  · have h1i : ¬ (s.size : Int) < head.size := by omega
    have h1j : (head.size : Int) ≤ s.size := by omega
    rw [if_neg h1]
    have hlo := rlower_any (s.extract 0 head.size) w (by simp; omega)
    rw [ext_take] at hlo
    obtain ⟨low, hlow⟩ : ∃ low : ByteArray, (⟨(lowL (s.data.toList.take head.size)).toArray⟩ : ByteArray) = low := ⟨_, rfl⟩
    rw [hlow] at hlo
    have HLO := Lib.hid hlo
    have hll : low.toList = lowL (s.data.toList.take head.size) := by rw [ByteArray.toList_eq, ← hlow]
    by_cases h2 : lowL (s.data.toList.take head.size) = head.data.toList
    · have t1 : (low.toList != head.toList) = false := by rw [hll, h2, ByteArray.toList_eq]; simp
      have t2 : (low.toList == head.toList) = true := by rw [hll, h2, ByteArray.toList_eq]; simp
      rw [if_pos h2]
      have HE : Hid (ba (s.data.toList.drop head.size) = s.extract head.size s.size) := by show _ = _; rw [ext_ba_drop]
      simp only [behindV]
      rw [HE.out]
      clear h1 hsl hhl hlo hlow hll h2
      go_enter Tryz.func26, Tryz.ntmps26
      go_wp2_with (go_at_call 13; refine HLO.out.mono ?_; rintro e w2 ⟨rfl, b2⟩)
      go_ret2
      exact ⟨by exact rfl, b2⟩
    · have t1 : (low.toList != head.toList) = true := by rw [hll, ByteArray.toList_eq, bne, Bool.not_eq_true', beq_eq_false_iff_ne]; exact h2
      have t2 : (low.toList == head.toList) = false := by rw [hll, ByteArray.toList_eq, beq_eq_false_iff_ne]; exact h2
      rw [if_neg h2]
      clear h1 hsl hhl hlo hlow hll h2
      go_enter Tryz.func26, Tryz.ntmps26
      go_wp2_with (go_at_call 13; refine HLO.out.mono ?_; rintro e w2 ⟨rfl, b2⟩)
      go_ret2
      exact ⟨by exact rfl, b2⟩
end Go.Proofs.YteeplfbaflldaaaGreatDoor.S25
