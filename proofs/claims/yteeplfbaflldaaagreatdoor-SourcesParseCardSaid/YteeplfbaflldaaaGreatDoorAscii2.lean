/- The contracts of layer 2's functions on texts: the document's. -/
import Derived.Test.YteeplfbaflldaaaGreatDoorAscii
import Derived.Test.YteeplfbaflldaaaGreatDoorLz
set_option linter.unusedVariables false
namespace Go.Proofs.YteeplfbaflldaaaGreatDoor
open Go.RowKit

theorem upDec (x : UInt8) : isUp x = (decide (65 ≤ (x.toNat : Int)) && decide ((x.toNat : Int) ≤ 90)) := rfl

set_option maxHeartbeats 1000000 in
set_option maxRecDepth 100000 in
theorem rlower_any (s : ByteArray) (w : World) (hs : s.size ≤ 1099511627776) :
    Calls Tryz.prog 13 #[.string s] w fun e w' => e = .returned (.string ⟨(lowL s.data.toList).toArray⟩) ∧ Below w.heap.size w w' := by
  go_enter Tryz.func13, Tryz.ntmps13
  go_wp2
  go_loopw [3, 4] (fun b i wr => ∃ k : Nat, k ≤ s.size ∧ i = .int .i64 k ∧ wr.ownsRow w.heap.size 5 1 b (lowL (s.data.toList.take k)).length (Lib.byteCells (lowL (s.data.toList.take k))) ∧ Below w.heap.size w wr) (fun _ i _ => s.size - (intOf i).toNat)
  case atStart => exact ⟨0, Nat.zero_le _, rfl, World.ownsRow_nil _ _ _ _, Below.refl _ _⟩
  case round =>
    obtain ⟨k, hk, rfl, hown, hb⟩ := hrel
    have hsz := hb.size
    have hlen : (lowL (s.data.toList.take k)).length ≤ k := by simp [lowL]; omega
    by_cases hlt : k < s.size
    · have HS := Lib.hid (take_snoc s k hlt)
      have fin : ∀ (x : Int) b' (w2 : World), ((lowB s[k]).toNat : Int) = x → w2.ownsRow w.heap.size 5 1 b' ((lowL (s.data.toList.take k)).length + 1) (Lib.byteCells (lowL (s.data.toList.take k)) ++ [.int .u8 x]) → w2.ownsRow w.heap.size 5 1 b' (lowL (s.data.toList.take (k + 1))).length (Lib.byteCells (lowL (s.data.toList.take (k + 1)))) := by
        intro x b' w2 hx h
        rw [HS.out]
        simp only [lowL, List.map_append, List.map_cons, List.map_nil, List.length_append, List.length_cons, List.length_nil, Lib.byteCells_append]
        subst hx
        exact h
      have FIN := Lib.hid fin
      clear fin
      by_cases hu : isUp s[k] = true
      · have HU := Lib.hid (lowB_up hu)
        have hb2 := (isUp_iff s[k]).1 hu
        clear hu
        go_wp2_with (at_builtin; refine app1 rfl _ _ 59 rfl infoByte Tryz.underlying59 rfl (by decide) hown rfl rfl rfl (by omega) hsz ?_; intro v' w' hown' hg hbw)
        go_roundw
        case rel => exact ⟨k + 1, by omega, by go_num, FIN.out _ _ _ HU.out hown', hb.trans hbw⟩
        case measure => simp [intOf]; omega
      · have hu0 : isUp s[k] = false := by simpa using hu
        have hd : s[k].toNat < 65 ∨ 90 < s[k].toNat := by
          have : ¬ (65 ≤ s[k].toNat ∧ s[k].toNat ≤ 90) := fun h => hu ((isUp_iff s[k]).2 h)
          omega
        have HU := Lib.hid (lowB_not hu0)
        clear hu hu0
        rcases hd with hge | hge
        all_goals
          go_wp2_with (at_builtin; refine app1 rfl _ _ 59 rfl infoByte Tryz.underlying59 rfl (by decide) hown rfl rfl rfl (by omega) hsz ?_; intro v' w' hown' hg hbw)
          go_roundw
          case rel => exact ⟨k + 1, by omega, by go_num, FIN.out _ _ _ (by rw [HU.out]) hown', hb.trans hbw⟩
          case measure => simp [intOf]; omega
    · have e : s.data.toList.take k = s.data.toList := List.take_of_length_le (by simp; omega)
      rw [e] at hown
      have hcv := conv_own Tryz.underlying59 Tryz.underlying5 Tryz.underlying9 hown
      go_wp2
      go_ret
      exact ⟨rfl, hb⟩

theorem same_len {a b : List UInt8} (h : a.length ≠ b.length) : sameL a b = false := by
  unfold sameL
  rw [beq_eq_false_iff_ne]
  intro e
  have := congrArg List.length e
  simp [lowL] at this
  exact h this
end Go.Proofs.YteeplfbaflldaaaGreatDoor
