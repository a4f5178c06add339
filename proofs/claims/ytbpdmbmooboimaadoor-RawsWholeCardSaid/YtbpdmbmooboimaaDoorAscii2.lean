/- The contracts of layer 2's functions on texts: the document's. -/
import Derived.Test.YtbpdmbmooboimaaDoorAscii
import Derived.Test.YtbpdmbmooboimaaDoorLz
set_option linter.unusedVariables false
namespace Go.Proofs.YtbpdmbmooboimaaDoor
open Go.RowKit

theorem upDec (x : UInt8) : isUp x = (decide (65 ≤ (x.toNat : Int)) && decide ((x.toNat : Int) ≤ 90)) := rfl

set_option maxHeartbeats 1000000 in
set_option maxRecDepth 100000 in
theorem rlower_any (s : ByteArray) (w : World) (hs : s.size ≤ 1099511627776) :
    Calls Tryd.prog 45 #[.string s] w fun e w' => e = .returned (.string ⟨(lowL s.data.toList).toArray⟩) ∧ Below w.heap.size w w' := by
  go_enter Tryd.func45, Tryd.ntmps45
  go_wp2
  go_loopw [3, 4] (fun b i wr => ∃ k : Nat, k ≤ s.size ∧ i = .int .i64 k ∧ wr.ownsRow w.heap.size 5 1 b (lowL (s.data.toList.take k)).length (Lib.byteCells (lowL (s.data.toList.take k))) ∧ Below w.heap.size w wr) (fun _ i _ => s.size - (intOf i).toNat)
  case atStart => exact ⟨0, Nat.zero_le _, rfl, World.ownsRow_nil _ _ _ _, Below.refl _ _⟩
  case round =>
    obtain ⟨k, hk, rfl, hown, hb⟩ := hrel
    have hsz := hb.size
    have hlen : (lowL (s.data.toList.take k)).length ≤ k := by simp [lowL]; omega
    by_cases hlt : k < s.size
    · have HS := Lib.hid (take_snoc s k hlt)
      have fin : ∀ (x : Int) b' (w2 : World), ((lowB s[k]).toNat : Int) = x → w2.ownsRow w.heap.size 5 1 b' ((lowL (s.data.toList.take k)).length + 1) (Lib.byteCells (lowL (s.data.toList.take k)) ++ [.int .u8 x]) → w2.ownsRow w.heap.size 5 1 b' (lowL (s.data.toList.take (k + 1))).length (Lib.byteCells (lowL (s.data.toList.take (k + 1)))) := by
        intro x b' w2 hx h
        rw [HS.out]
        simp only [lowL, List.map_append, List.map_cons, List.map_nil, List.length_append, List.length_cons, List.length_nil, Lib.byteCells_append]
        subst hx
        exact h
      have FIN := Lib.hid fin
      clear fin
      by_cases hu : isUp s[k] = true
      · have HU := Lib.hid (lowB_up hu)
        have hb2 := (isUp_iff s[k]).1 hu
        clear hu
        go_wp2_with (at_builtin; refine app1 rfl _ _ 45 rfl infoByte Tryd.underlying45 rfl (by decide) hown rfl rfl rfl (by omega) hsz ?_; intro v' w' hown' hg hbw)
        go_roundw
        case rel => exact ⟨k + 1, by omega, by go_num, FIN.out _ _ _ HU.out hown', hb.trans hbw⟩
        case measure => simp [intOf]; omega
      · have hu0 : isUp s[k] = false := by simpa using hu
        have hd : s[k].toNat < 65 ∨ 90 < s[k].toNat := by
          have : ¬ (65 ≤ s[k].toNat ∧ s[k].toNat ≤ 90) := fun h => hu ((isUp_iff s[k]).2 h)
          omega
        have HU := Lib.hid (lowB_not hu0)
        clear hu hu0
        rcases hd with hge | hge
        all_goals
          go_wp2_with (at_builtin; refine app1 rfl _ _ 45 rfl infoByte Tryd.underlying45 rfl (by decide) hown rfl rfl rfl (by omega) hsz ?_; intro v' w' hown' hg hbw)
          go_roundw
          case rel => exact ⟨k + 1, by omega, by go_num, FIN.out _ _ _ (by rw [HU.out]) hown', hb.trans hbw⟩
          case measure => simp [intOf]; omega
    · have e : s.data.toList.take k = s.data.toList := List.take_of_length_le (by simp; omega)
      rw [e] at hown
      have hcv := conv_own Tryd.underlying45 Tryd.underlying5 Tryd.underlying9 hown
      go_wp2
      go_ret
      exact ⟨rfl, hb⟩

theorem same_len {a b : List UInt8} (h : a.length ≠ b.length) : sameL a b = false := by
  unfold sameL
  rw [beq_eq_false_iff_ne]
  intro e
  have := congrArg List.length e
  simp [lowL] at this
  exact h this
set_option maxHeartbeats 1000000 in
theorem same_any (s t : ByteArray) (w : World) (hs : s.size ≤ 1099511627776) (ht : t.size ≤ 1099511627776) :
    Calls Tryd.prog 60 #[.string s, .string t] w fun e w' => e = .returned (.bool (sameL s.data.toList t.data.toList)) ∧ Below w.heap.size w w' := by
  by_cases hl : s.size = t.size
  · have hl' : ((s.size : Int) == (t.size : Int)) = true := by simp [hl]
    clear hl
    go_enter Tryd.func60, Tryd.ntmps60
    go_wp2_with fail
    refine (lower_any s _ hs).mono ?_
    rintro e w1 ⟨rfl, h1⟩
    go_wp2_with fail
    refine (lower_any t _ ht).mono ?_
    rintro e w2 ⟨rfl, h2⟩
    go_wp2
    go_ret
    exact ⟨rfl, h1.trans (h2.mono h1.size)⟩
  · have hf := Lib.hid (same_len (a := s.data.toList) (b := t.data.toList) (by simpa using hl))
    have hl' : ((s.size : Int) == (t.size : Int)) = false := by simp; omega
    clear hl
    go_enter Tryd.func60, Tryd.ntmps60
    go_wp2
    go_ret
    exact ⟨ret_bool hf.out.symm, Below.refl _ _⟩

theorem rsame_any (s t : ByteArray) (w : World) (hs : s.size ≤ 1099511627776) (ht : t.size ≤ 1099511627776) :
    Calls Tryd.prog 63 #[.string s, .string t] w fun e w' => e = .returned (.bool (sameL s.data.toList t.data.toList)) ∧ Below w.heap.size w w' := by
  go_enter Tryd.func63, Tryd.ntmps63
  go_wp2_with fail
  refine (rlower_any s _ hs).mono ?_
  rintro e w1 ⟨rfl, h1⟩
  go_wp2_with fail
  refine (rlower_any t _ ht).mono ?_
  rintro e w2 ⟨rfl, h2⟩
  go_wp2
  go_ret
  exact ⟨rfl, h1.trans (h2.mono h1.size)⟩
end Go.Proofs.YtbpdmbmooboimaaDoor
