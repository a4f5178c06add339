/- texts.piece. -/
import Derived.Test.YtfbmabbehiicmaaDoorUtf2
set_option linter.unusedVariables false
namespace Go.Proofs.YtfbmabbehiicmaaDoor
open Go.RowKit

def leadsC : Array Value := #[.int .u8 0, .int .u8 127, .int .u8 128, .int .u8 191, .int .i64 1, .int .u8 194, .int .u8 223, .int .u8 128, .int .u8 191, .int .i64 2, .int .u8 224, .int .u8 224, .int .u8 160, .int .u8 191, .int .i64 3, .int .u8 225, .int .u8 236, .int .u8 128, .int .u8 191, .int .i64 3, .int .u8 237, .int .u8 237, .int .u8 128, .int .u8 159, .int .i64 3, .int .u8 238, .int .u8 239, .int .u8 128, .int .u8 191, .int .i64 3, .int .u8 240, .int .u8 240, .int .u8 144, .int .u8 191, .int .i64 4, .int .u8 241, .int .u8 243, .int .u8 128, .int .u8 191, .int .i64 4, .int .u8 244, .int .u8 244, .int .u8 128, .int .u8 143, .int .i64 4]
/-- The table of layer 1 holds what its initialiser lays. -/
def LTab (w : World) : Prop := ∃ t fr, w.heap[(0 : Nat)]? = some (.cells leadsC t fr)
theorem LTab.below {w w' : World} (h : LTab w) (hb : Below w.heap.size w w') : LTab w' := by
  obtain ⟨t, fr, hh⟩ := h
  exact ⟨t, fr, (hb.block _ (Array.getElem?_eq_some_iff.1 hh).1).trans hh⟩
theorem lead_at0 (w : World) : (Instr.index 60 (.agg leadsC) (.int .i64 0)).run Tryd.prog w = .ok (.agg #[.int .u8 0, .int .u8 127, .int .u8 128, .int .u8 191, .int .i64 1]) w := by kernel_rfl
theorem lead_at1 (w : World) : (Instr.index 60 (.agg leadsC) (.int .i64 1)).run Tryd.prog w = .ok (.agg #[.int .u8 194, .int .u8 223, .int .u8 128, .int .u8 191, .int .i64 2]) w := by kernel_rfl
theorem lead_at2 (w : World) : (Instr.index 60 (.agg leadsC) (.int .i64 2)).run Tryd.prog w = .ok (.agg #[.int .u8 224, .int .u8 224, .int .u8 160, .int .u8 191, .int .i64 3]) w := by kernel_rfl
theorem lead_at3 (w : World) : (Instr.index 60 (.agg leadsC) (.int .i64 3)).run Tryd.prog w = .ok (.agg #[.int .u8 225, .int .u8 236, .int .u8 128, .int .u8 191, .int .i64 3]) w := by kernel_rfl
theorem lead_at4 (w : World) : (Instr.index 60 (.agg leadsC) (.int .i64 4)).run Tryd.prog w = .ok (.agg #[.int .u8 237, .int .u8 237, .int .u8 128, .int .u8 159, .int .i64 3]) w := by kernel_rfl
theorem lead_at5 (w : World) : (Instr.index 60 (.agg leadsC) (.int .i64 5)).run Tryd.prog w = .ok (.agg #[.int .u8 238, .int .u8 239, .int .u8 128, .int .u8 191, .int .i64 3]) w := by kernel_rfl
theorem lead_at6 (w : World) : (Instr.index 60 (.agg leadsC) (.int .i64 6)).run Tryd.prog w = .ok (.agg #[.int .u8 240, .int .u8 240, .int .u8 144, .int .u8 191, .int .i64 4]) w := by kernel_rfl
theorem lead_at7 (w : World) : (Instr.index 60 (.agg leadsC) (.int .i64 7)).run Tryd.prog w = .ok (.agg #[.int .u8 241, .int .u8 243, .int .u8 128, .int .u8 191, .int .i64 4]) w := by kernel_rfl
theorem lead_at8 (w : World) : (Instr.index 60 (.agg leadsC) (.int .i64 8)).run Tryd.prog w = .ok (.agg #[.int .u8 244, .int .u8 244, .int .u8 128, .int .u8 143, .int .i64 4]) w := by kernel_rfl
def fromA (q : Nat) : Nat := [0, 194, 224, 225, 237, 238, 240, 241, 244].getD q 0
def toA (q : Nat) : Nat := [127, 223, 224, 236, 237, 239, 240, 243, 244].getD q 0

set_option maxHeartbeats 4000000 in
set_option maxRecDepth 100000 in
theorem piece_any (s : ByteArray) (f : UInt8) (w : World) (hs : s.size ≤ 1099511627776) (hf : s.data.toList.head? = some f) (hl : LTab w) :
    Calls Tryd.prog 27 #[.string s] w fun e w' => PieceRes s.data.toList e ∧ Below w.heap.size w w' := by
  obtain ⟨t, fr, hh⟩ := hl
  have HF := Lib.hid hf
  clear hf
  go_enter Tryd.func27, Tryd.ntmps27
  go_wp2_with (refine wpList_load_row rfl 60 _ rfl 0 rfl t _ fr _ hh Tryd.underlying60 rfl (by kernel_rfl) ?_)
  go_wp2_with fail
  go_loopw [7] (fun i wr => ∃ j : Nat, j ≤ 9 ∧ i = .int .i64 j ∧ Hid (∀ q, q < j → ¬ (fromA q ≤ f.toNat ∧ f.toNat ≤ toA q)) ∧ Hid (Below w.heap.size w wr)) (fun i _ => 9 - (intOf i).toNat)
  case atStart => exact ⟨0, by omega, rfl, fun q h => by omega, Below.refl _ _⟩
  case round =>
    obtain ⟨j, hj, rfl, HP, HB⟩ := hrel
    have hf0 : Hid (∀ h : 0 < s.size, s[0] = f) := by
      intro h
      have e := HF.out
      cases hl : s.data.toList with
      | nil => rw [hl] at e; cases e
      | cons x r =>
        have e1 : x = f := by rw [hl] at e; simpa using e
        have e2 : s.data.toList[0]? = some s[0] := by
          rw [List.getElem?_eq_getElem (by simpa using h)]
          rfl
        rw [hl] at e2
        simp at e2
        rw [← e2, e1]
    have hpos : 0 < s.size := by
      have e := HF.out
      have hl : s.data.toList.length = s.size := by simp
      cases hl2 : s.data.toList with
      | nil => rw [hl2] at e; cases e
      | cons x r => rw [hl2] at hl; simp at hl; omega
    have hs0 : s[0].toNat = f.toNat := by rw [hf0.out hpos]
    by_cases h9 : j = 9
    · have hnone : Hid (moreI (f.toNat : Int) < 0) := by
        show moreI (f.toNat : Int) < 0
        have p0 := HP.out 0 (by omega)
        have p1 := HP.out 1 (by omega)
        have p2 := HP.out 2 (by omega)
        have p3 := HP.out 3 (by omega)
        have p4 := HP.out 4 (by omega)
        have p5 := HP.out 5 (by omega)
        have p6 := HP.out 6 (by omega)
        have p7 := HP.out 7 (by omega)
        have p8 := HP.out 8 (by omega)
        simp [fromA, toA] at p0 p1 p2 p3 p4 p5 p6 p7 p8
        unfold moreI
        repeat' split
        all_goals omega
      have hstep : Hid (decU s.data.toList = repl ++ decU (s.data.toList.drop 1)) := by
        show decU s.data.toList = _
        have e := HF.out
        cases hl2 : s.data.toList with
        | nil => rw [hl2] at e; cases e
        | cons x r =>
          have e1 : x = f := by rw [hl2] at e; simpa using e
          unfold decU
          rw [runU_none (by rw [e1]; exact hnone.out)]
          rfl
      have hlen : Hid (s.data.toList.length = s.size) := by show s.data.toList.length = s.size; simp
      go_wp2_with fail
      go_ret2
      exact ⟨⟨1, false, rfl, Nat.le_refl _, by rw [hlen.out]; exact hpos, hstep.out⟩, HB.out⟩
    · have hcase : j = 0 ∨ j = 1 ∨ j = 2 ∨ j = 3 ∨ j = 4 ∨ j = 5 ∨ j = 6 ∨ j = 7 ∨ j = 8 := by omega
      clear h9 hj
      rcases hcase with rfl | rfl | rfl | rfl | rfl | rfl | rfl | rfl | rfl
      · have hcell : Hid ((wr.alloc (.cells #[.int .u8 0, .int .u8 127, .int .u8 128, .int .u8 191, .int .i64 1] 59)).heap[wr.heap.size]? = some (.cells #[.int .u8 0, .int .u8 127, .int .u8 128, .int .u8 191, .int .i64 1] 59 (0, 0))) := by
          show (wr.heap.push _)[wr.heap.size]? = _
          rw [Array.getElem?_push_size]
        have hB2 : Hid (Below w.heap.size w (wr.alloc (.cells #[.int .u8 0, .int .u8 127, .int .u8 128, .int .u8 191, .int .i64 1] 59))) := HB.out.alloc HB.out.size _
        have c0 := Lib.cell_of_heap hcell.out 0
        have c1 := Lib.cell_of_heap hcell.out 1
        have c2 := Lib.cell_of_heap hcell.out 2
        have c3 := Lib.cell_of_heap hcell.out 3
        have c4 := Lib.cell_of_heap hcell.out 4
        by_cases hlo : 0 ≤ f.toNat
        · by_cases hhi : f.toNat ≤ 127
          · have hmore : Hid (moreI (f.toNat : Int) = ((0 : Nat) : Int)) := by
              show moreI (f.toNat : Int) = _
              unfold moreI
              repeat' split
              all_goals omega
            have hlow : Hid ((128 : Int) = lowI (f.toNat : Int)) := by
              show _ = lowI (f.toNat : Int)
              unfold lowI
              repeat' split
              all_goals omega
            have hhigh : Hid ((191 : Int) = highI (f.toNat : Int)) := by
              show _ = highI (f.toNat : Int)
              unfold highI
              repeat' split
              all_goals omega
            have g1 : decide ((0 : Int) ≤ (f.toNat : Int)) = true := by rw [decide_eq_true_eq]; omega
            have g2 : decide ((f.toNat : Int) ≤ 127) = true := by rw [decide_eq_true_eq]; omega
            go_wp2_with fail
            rw [lead_at0]
            go_wp2_with fail
            go_quiet (fail)
            go_wp2_with fail
            refine (follow_any s f 0 127 128 191 0 _ hs HF.out hmore.out hlow.out hhigh.out).mono ?_
            rintro e w4 ⟨⟨n4, q4, rfl, n41, n42, n43⟩, b4⟩
            have H4 := Lib.hid n43
            clear n43
            have hB3 := Lib.hid (Below.trans (below_drewM hB2.out _) (b4.mono hB2.out.size))
            go_wp2_with fail
            go_ret2
            exact ⟨⟨n4, q4, rfl, n41, n42, H4.out⟩, hB3.out⟩
          · have g1 : decide ((0 : Int) ≤ (f.toNat : Int)) = true := by rw [decide_eq_true_eq]; omega
            have g2 : decide ((f.toNat : Int) ≤ 127) = false := by rw [decide_eq_false_iff_not]; omega
            go_wp2_with fail
            rw [lead_at0]
            go_wp2_with fail
            go_quiet (fail)
            go_wp2_with fail
            go_roundw
            case rel =>
              refine ⟨1, by omega, by go_num, fun q hq => ?_, by repeat (first | exact hB2.out | refine below_drewM ?_ _)⟩
              by_cases hqj : q < 0
              · exact HP.out q hqj
              · obtain rfl : q = 0 := by omega
                show ¬ (0 ≤ f.toNat ∧ f.toNat ≤ 127)
                omega
            case measure => simp [intOf]
        · exact absurd (Nat.zero_le _) hlo
      · have hcell : Hid ((wr.alloc (.cells #[.int .u8 194, .int .u8 223, .int .u8 128, .int .u8 191, .int .i64 2] 59)).heap[wr.heap.size]? = some (.cells #[.int .u8 194, .int .u8 223, .int .u8 128, .int .u8 191, .int .i64 2] 59 (0, 0))) := by
          show (wr.heap.push _)[wr.heap.size]? = _
          rw [Array.getElem?_push_size]
        have hB2 : Hid (Below w.heap.size w (wr.alloc (.cells #[.int .u8 194, .int .u8 223, .int .u8 128, .int .u8 191, .int .i64 2] 59))) := HB.out.alloc HB.out.size _
        have c0 := Lib.cell_of_heap hcell.out 0
        have c1 := Lib.cell_of_heap hcell.out 1
        have c2 := Lib.cell_of_heap hcell.out 2
        have c3 := Lib.cell_of_heap hcell.out 3
        have c4 := Lib.cell_of_heap hcell.out 4
        by_cases hlo : 194 ≤ f.toNat
        · by_cases hhi : f.toNat ≤ 223
          · have hmore : Hid (moreI (f.toNat : Int) = ((1 : Nat) : Int)) := by
              show moreI (f.toNat : Int) = _
              unfold moreI
              repeat' split
              all_goals omega
            have hlow : Hid ((128 : Int) = lowI (f.toNat : Int)) := by
              show _ = lowI (f.toNat : Int)
              unfold lowI
              repeat' split
              all_goals omega
            have hhigh : Hid ((191 : Int) = highI (f.toNat : Int)) := by
              show _ = highI (f.toNat : Int)
              unfold highI
              repeat' split
              all_goals omega
            have g1 : decide ((194 : Int) ≤ (f.toNat : Int)) = true := by rw [decide_eq_true_eq]; omega
            have g2 : decide ((f.toNat : Int) ≤ 223) = true := by rw [decide_eq_true_eq]; omega
            go_wp2_with fail
            rw [lead_at1]
            go_wp2_with fail
            go_quiet (fail)
            go_wp2_with fail
            refine (follow_any s f 194 223 128 191 1 _ hs HF.out hmore.out hlow.out hhigh.out).mono ?_
            rintro e w4 ⟨⟨n4, q4, rfl, n41, n42, n43⟩, b4⟩
            have H4 := Lib.hid n43
            clear n43
            have hB3 := Lib.hid (Below.trans (below_drewM hB2.out _) (b4.mono hB2.out.size))
            go_wp2_with fail
            go_ret2
            exact ⟨⟨n4, q4, rfl, n41, n42, H4.out⟩, hB3.out⟩
          · have g1 : decide ((194 : Int) ≤ (f.toNat : Int)) = true := by rw [decide_eq_true_eq]; omega
            have g2 : decide ((f.toNat : Int) ≤ 223) = false := by rw [decide_eq_false_iff_not]; omega
            go_wp2_with fail
            rw [lead_at1]
            go_wp2_with fail
            go_quiet (fail)
            go_wp2_with fail
            go_roundw
            case rel =>
              refine ⟨2, by omega, by go_num, fun q hq => ?_, by repeat (first | exact hB2.out | refine below_drewM ?_ _)⟩
              by_cases hqj : q < 1
              · exact HP.out q hqj
              · obtain rfl : q = 1 := by omega
                show ¬ (194 ≤ f.toNat ∧ f.toNat ≤ 223)
                omega
            case measure => simp [intOf]
        · have g1 : decide ((194 : Int) ≤ (f.toNat : Int)) = false := by rw [decide_eq_false_iff_not]; omega
          go_wp2_with fail
          rw [lead_at1]
          go_wp2_with fail
          go_quiet (fail)
          go_wp2_with fail
          go_roundw
          case rel =>
            refine ⟨2, by omega, by go_num, fun q hq => ?_, by repeat (first | exact hB2.out | refine below_drewM ?_ _)⟩
            by_cases hqj : q < 1
            · exact HP.out q hqj
            · obtain rfl : q = 1 := by omega
              show ¬ (194 ≤ f.toNat ∧ f.toNat ≤ 223)
              omega
          case measure => simp [intOf]
      · have hcell : Hid ((wr.alloc (.cells #[.int .u8 224, .int .u8 224, .int .u8 160, .int .u8 191, .int .i64 3] 59)).heap[wr.heap.size]? = some (.cells #[.int .u8 224, .int .u8 224, .int .u8 160, .int .u8 191, .int .i64 3] 59 (0, 0))) := by
          show (wr.heap.push _)[wr.heap.size]? = _
          rw [Array.getElem?_push_size]
        have hB2 : Hid (Below w.heap.size w (wr.alloc (.cells #[.int .u8 224, .int .u8 224, .int .u8 160, .int .u8 191, .int .i64 3] 59))) := HB.out.alloc HB.out.size _
        have c0 := Lib.cell_of_heap hcell.out 0
        have c1 := Lib.cell_of_heap hcell.out 1
        have c2 := Lib.cell_of_heap hcell.out 2
        have c3 := Lib.cell_of_heap hcell.out 3
        have c4 := Lib.cell_of_heap hcell.out 4
        by_cases hlo : 224 ≤ f.toNat
        · by_cases hhi : f.toNat ≤ 224
          · have hmore : Hid (moreI (f.toNat : Int) = ((2 : Nat) : Int)) := by
              show moreI (f.toNat : Int) = _
              unfold moreI
              repeat' split
              all_goals omega
            have hlow : Hid ((160 : Int) = lowI (f.toNat : Int)) := by
              show _ = lowI (f.toNat : Int)
              unfold lowI
              repeat' split
              all_goals omega
            have hhigh : Hid ((191 : Int) = highI (f.toNat : Int)) := by
              show _ = highI (f.toNat : Int)
              unfold highI
              repeat' split
              all_goals omega
            have g1 : decide ((224 : Int) ≤ (f.toNat : Int)) = true := by rw [decide_eq_true_eq]; omega
            have g2 : decide ((f.toNat : Int) ≤ 224) = true := by rw [decide_eq_true_eq]; omega
            go_wp2_with fail
            rw [lead_at2]
            go_wp2_with fail
            go_quiet (fail)
            go_wp2_with fail
            refine (follow_any s f 224 224 160 191 2 _ hs HF.out hmore.out hlow.out hhigh.out).mono ?_
            rintro e w4 ⟨⟨n4, q4, rfl, n41, n42, n43⟩, b4⟩
            have H4 := Lib.hid n43
            clear n43
            have hB3 := Lib.hid (Below.trans (below_drewM hB2.out _) (b4.mono hB2.out.size))
            go_wp2_with fail
            go_ret2
            exact ⟨⟨n4, q4, rfl, n41, n42, H4.out⟩, hB3.out⟩
          · have g1 : decide ((224 : Int) ≤ (f.toNat : Int)) = true := by rw [decide_eq_true_eq]; omega
            have g2 : decide ((f.toNat : Int) ≤ 224) = false := by rw [decide_eq_false_iff_not]; omega
            go_wp2_with fail
            rw [lead_at2]
            go_wp2_with fail
            go_quiet (fail)
            go_wp2_with fail
            go_roundw
            case rel =>
              refine ⟨3, by omega, by go_num, fun q hq => ?_, by repeat (first | exact hB2.out | refine below_drewM ?_ _)⟩
              by_cases hqj : q < 2
              · exact HP.out q hqj
              · obtain rfl : q = 2 := by omega
                show ¬ (224 ≤ f.toNat ∧ f.toNat ≤ 224)
                omega
            case measure => simp [intOf]
        · have g1 : decide ((224 : Int) ≤ (f.toNat : Int)) = false := by rw [decide_eq_false_iff_not]; omega
          go_wp2_with fail
          rw [lead_at2]
          go_wp2_with fail
          go_quiet (fail)
          go_wp2_with fail
          go_roundw
          case rel =>
            refine ⟨3, by omega, by go_num, fun q hq => ?_, by repeat (first | exact hB2.out | refine below_drewM ?_ _)⟩
            by_cases hqj : q < 2
            · exact HP.out q hqj
            · obtain rfl : q = 2 := by omega
              show ¬ (224 ≤ f.toNat ∧ f.toNat ≤ 224)
              omega
          case measure => simp [intOf]
      · have hcell : Hid ((wr.alloc (.cells #[.int .u8 225, .int .u8 236, .int .u8 128, .int .u8 191, .int .i64 3] 59)).heap[wr.heap.size]? = some (.cells #[.int .u8 225, .int .u8 236, .int .u8 128, .int .u8 191, .int .i64 3] 59 (0, 0))) := by
          show (wr.heap.push _)[wr.heap.size]? = _
          rw [Array.getElem?_push_size]
        have hB2 : Hid (Below w.heap.size w (wr.alloc (.cells #[.int .u8 225, .int .u8 236, .int .u8 128, .int .u8 191, .int .i64 3] 59))) := HB.out.alloc HB.out.size _
        have c0 := Lib.cell_of_heap hcell.out 0
        have c1 := Lib.cell_of_heap hcell.out 1
        have c2 := Lib.cell_of_heap hcell.out 2
        have c3 := Lib.cell_of_heap hcell.out 3
        have c4 := Lib.cell_of_heap hcell.out 4
        by_cases hlo : 225 ≤ f.toNat
        · by_cases hhi : f.toNat ≤ 236
          · have hmore : Hid (moreI (f.toNat : Int) = ((2 : Nat) : Int)) := by
              show moreI (f.toNat : Int) = _
              unfold moreI
              repeat' split
              all_goals omega
            have hlow : Hid ((128 : Int) = lowI (f.toNat : Int)) := by
              show _ = lowI (f.toNat : Int)
              unfold lowI
              repeat' split
              all_goals omega
            have hhigh : Hid ((191 : Int) = highI (f.toNat : Int)) := by
              show _ = highI (f.toNat : Int)
              unfold highI
              repeat' split
              all_goals omega
            have g1 : decide ((225 : Int) ≤ (f.toNat : Int)) = true := by rw [decide_eq_true_eq]; omega
            have g2 : decide ((f.toNat : Int) ≤ 236) = true := by rw [decide_eq_true_eq]; omega
            go_wp2_with fail
            rw [lead_at3]
            go_wp2_with fail
            go_quiet (fail)
            go_wp2_with fail
            refine (follow_any s f 225 236 128 191 2 _ hs HF.out hmore.out hlow.out hhigh.out).mono ?_
            rintro e w4 ⟨⟨n4, q4, rfl, n41, n42, n43⟩, b4⟩
            have H4 := Lib.hid n43
            clear n43
            have hB3 := Lib.hid (Below.trans (below_drewM hB2.out _) (b4.mono hB2.out.size))
            go_wp2_with fail
            go_ret2
            exact ⟨⟨n4, q4, rfl, n41, n42, H4.out⟩, hB3.out⟩
          · have g1 : decide ((225 : Int) ≤ (f.toNat : Int)) = true := by rw [decide_eq_true_eq]; omega
            have g2 : decide ((f.toNat : Int) ≤ 236) = false := by rw [decide_eq_false_iff_not]; omega
            go_wp2_with fail
            rw [lead_at3]
            go_wp2_with fail
            go_quiet (fail)
            go_wp2_with fail
            go_roundw
            case rel =>
              refine ⟨4, by omega, by go_num, fun q hq => ?_, by repeat (first | exact hB2.out | refine below_drewM ?_ _)⟩
              by_cases hqj : q < 3
              · exact HP.out q hqj
              · obtain rfl : q = 3 := by omega
                show ¬ (225 ≤ f.toNat ∧ f.toNat ≤ 236)
                omega
            case measure => simp [intOf]
        · have g1 : decide ((225 : Int) ≤ (f.toNat : Int)) = false := by rw [decide_eq_false_iff_not]; omega
          go_wp2_with fail
          rw [lead_at3]
          go_wp2_with fail
          go_quiet (fail)
          go_wp2_with fail
          go_roundw
          case rel =>
            refine ⟨4, by omega, by go_num, fun q hq => ?_, by repeat (first | exact hB2.out | refine below_drewM ?_ _)⟩
            by_cases hqj : q < 3
            · exact HP.out q hqj
            · obtain rfl : q = 3 := by omega
              show ¬ (225 ≤ f.toNat ∧ f.toNat ≤ 236)
              omega
          case measure => simp [intOf]
      · have hcell : Hid ((wr.alloc (.cells #[.int .u8 237, .int .u8 237, .int .u8 128, .int .u8 159, .int .i64 3] 59)).heap[wr.heap.size]? = some (.cells #[.int .u8 237, .int .u8 237, .int .u8 128, .int .u8 159, .int .i64 3] 59 (0, 0))) := by
          show (wr.heap.push _)[wr.heap.size]? = _
          rw [Array.getElem?_push_size]
        have hB2 : Hid (Below w.heap.size w (wr.alloc (.cells #[.int .u8 237, .int .u8 237, .int .u8 128, .int .u8 159, .int .i64 3] 59))) := HB.out.alloc HB.out.size _
        have c0 := Lib.cell_of_heap hcell.out 0
        have c1 := Lib.cell_of_heap hcell.out 1
        have c2 := Lib.cell_of_heap hcell.out 2
        have c3 := Lib.cell_of_heap hcell.out 3
        have c4 := Lib.cell_of_heap hcell.out 4
        by_cases hlo : 237 ≤ f.toNat
        · by_cases hhi : f.toNat ≤ 237
          · have hmore : Hid (moreI (f.toNat : Int) = ((2 : Nat) : Int)) := by
              show moreI (f.toNat : Int) = _
              unfold moreI
              repeat' split
              all_goals omega
            have hlow : Hid ((128 : Int) = lowI (f.toNat : Int)) := by
              show _ = lowI (f.toNat : Int)
              unfold lowI
              repeat' split
              all_goals omega
            have hhigh : Hid ((159 : Int) = highI (f.toNat : Int)) := by
              show _ = highI (f.toNat : Int)
              unfold highI
              repeat' split
              all_goals omega
            have g1 : decide ((237 : Int) ≤ (f.toNat : Int)) = true := by rw [decide_eq_true_eq]; omega
            have g2 : decide ((f.toNat : Int) ≤ 237) = true := by rw [decide_eq_true_eq]; omega
            go_wp2_with fail
            rw [lead_at4]
            go_wp2_with fail
            go_quiet (fail)
            go_wp2_with fail
            refine (follow_any s f 237 237 128 159 2 _ hs HF.out hmore.out hlow.out hhigh.out).mono ?_
            rintro e w4 ⟨⟨n4, q4, rfl, n41, n42, n43⟩, b4⟩
            have H4 := Lib.hid n43
            clear n43
            have hB3 := Lib.hid (Below.trans (below_drewM hB2.out _) (b4.mono hB2.out.size))
            go_wp2_with fail
            go_ret2
            exact ⟨⟨n4, q4, rfl, n41, n42, H4.out⟩, hB3.out⟩
          · have g1 : decide ((237 : Int) ≤ (f.toNat : Int)) = true := by rw [decide_eq_true_eq]; omega
            have g2 : decide ((f.toNat : Int) ≤ 237) = false := by rw [decide_eq_false_iff_not]; omega
            go_wp2_with fail
            rw [lead_at4]
            go_wp2_with fail
            go_quiet (fail)
            go_wp2_with fail
            go_roundw
            case rel =>
              refine ⟨5, by omega, by go_num, fun q hq => ?_, by repeat (first | exact hB2.out | refine below_drewM ?_ _)⟩
              by_cases hqj : q < 4
              · exact HP.out q hqj
              · obtain rfl : q = 4 := by omega
                show ¬ (237 ≤ f.toNat ∧ f.toNat ≤ 237)
                omega
            case measure => simp [intOf]
        · have g1 : decide ((237 : Int) ≤ (f.toNat : Int)) = false := by rw [decide_eq_false_iff_not]; omega
          go_wp2_with fail
          rw [lead_at4]
          go_wp2_with fail
          go_quiet (fail)
          go_wp2_with fail
          go_roundw
          case rel =>
            refine ⟨5, by omega, by go_num, fun q hq => ?_, by repeat (first | exact hB2.out | refine below_drewM ?_ _)⟩
            by_cases hqj : q < 4
            · exact HP.out q hqj
            · obtain rfl : q = 4 := by omega
              show ¬ (237 ≤ f.toNat ∧ f.toNat ≤ 237)
              omega
          case measure => simp [intOf]
      · have hcell : Hid ((wr.alloc (.cells #[.int .u8 238, .int .u8 239, .int .u8 128, .int .u8 191, .int .i64 3] 59)).heap[wr.heap.size]? = some (.cells #[.int .u8 238, .int .u8 239, .int .u8 128, .int .u8 191, .int .i64 3] 59 (0, 0))) := by
          show (wr.heap.push _)[wr.heap.size]? = _
          rw [Array.getElem?_push_size]
        have hB2 : Hid (Below w.heap.size w (wr.alloc (.cells #[.int .u8 238, .int .u8 239, .int .u8 128, .int .u8 191, .int .i64 3] 59))) := HB.out.alloc HB.out.size _
        have c0 := Lib.cell_of_heap hcell.out 0
        have c1 := Lib.cell_of_heap hcell.out 1
        have c2 := Lib.cell_of_heap hcell.out 2
        have c3 := Lib.cell_of_heap hcell.out 3
        have c4 := Lib.cell_of_heap hcell.out 4
        by_cases hlo : 238 ≤ f.toNat
        · by_cases hhi : f.toNat ≤ 239
          · have hmore : Hid (moreI (f.toNat : Int) = ((2 : Nat) : Int)) := by
              show moreI (f.toNat : Int) = _
              unfold moreI
              repeat' split
              all_goals omega
            have hlow : Hid ((128 : Int) = lowI (f.toNat : Int)) := by
              show _ = lowI (f.toNat : Int)
              unfold lowI
              repeat' split
              all_goals omega
            have hhigh : Hid ((191 : Int) = highI (f.toNat : Int)) := by
              show _ = highI (f.toNat : Int)
              unfold highI
              repeat' split
              all_goals omega
            have g1 : decide ((238 : Int) ≤ (f.toNat : Int)) = true := by rw [decide_eq_true_eq]; omega
            have g2 : decide ((f.toNat : Int) ≤ 239) = true := by rw [decide_eq_true_eq]; omega
            go_wp2_with fail
            rw [lead_at5]
            go_wp2_with fail
            go_quiet (fail)
            go_wp2_with fail
            refine (follow_any s f 238 239 128 191 2 _ hs HF.out hmore.out hlow.out hhigh.out).mono ?_
            rintro e w4 ⟨⟨n4, q4, rfl, n41, n42, n43⟩, b4⟩
            have H4 := Lib.hid n43
            clear n43
            have hB3 := Lib.hid (Below.trans (below_drewM hB2.out _) (b4.mono hB2.out.size))
            go_wp2_with fail
            go_ret2
            exact ⟨⟨n4, q4, rfl, n41, n42, H4.out⟩, hB3.out⟩
          · have g1 : decide ((238 : Int) ≤ (f.toNat : Int)) = true := by rw [decide_eq_true_eq]; omega
            have g2 : decide ((f.toNat : Int) ≤ 239) = false := by rw [decide_eq_false_iff_not]; omega
            go_wp2_with fail
            rw [lead_at5]
            go_wp2_with fail
            go_quiet (fail)
            go_wp2_with fail
            go_roundw
            case rel =>
              refine ⟨6, by omega, by go_num, fun q hq => ?_, by repeat (first | exact hB2.out | refine below_drewM ?_ _)⟩
              by_cases hqj : q < 5
              · exact HP.out q hqj
              · obtain rfl : q = 5 := by omega
                show ¬ (238 ≤ f.toNat ∧ f.toNat ≤ 239)
                omega
            case measure => simp [intOf]
        · have g1 : decide ((238 : Int) ≤ (f.toNat : Int)) = false := by rw [decide_eq_false_iff_not]; omega
          go_wp2_with fail
          rw [lead_at5]
          go_wp2_with fail
          go_quiet (fail)
          go_wp2_with fail
          go_roundw
          case rel =>
            refine ⟨6, by omega, by go_num, fun q hq => ?_, by repeat (first | exact hB2.out | refine below_drewM ?_ _)⟩
            by_cases hqj : q < 5
            · exact HP.out q hqj
            · obtain rfl : q = 5 := by omega
              show ¬ (238 ≤ f.toNat ∧ f.toNat ≤ 239)
              omega
          case measure => simp [intOf]
      · have hcell : Hid ((wr.alloc (.cells #[.int .u8 240, .int .u8 240, .int .u8 144, .int .u8 191, .int .i64 4] 59)).heap[wr.heap.size]? = some (.cells #[.int .u8 240, .int .u8 240, .int .u8 144, .int .u8 191, .int .i64 4] 59 (0, 0))) := by
          show (wr.heap.push _)[wr.heap.size]? = _
          rw [Array.getElem?_push_size]
        have hB2 : Hid (Below w.heap.size w (wr.alloc (.cells #[.int .u8 240, .int .u8 240, .int .u8 144, .int .u8 191, .int .i64 4] 59))) := HB.out.alloc HB.out.size _
        have c0 := Lib.cell_of_heap hcell.out 0
        have c1 := Lib.cell_of_heap hcell.out 1
        have c2 := Lib.cell_of_heap hcell.out 2
        have c3 := Lib.cell_of_heap hcell.out 3
        have c4 := Lib.cell_of_heap hcell.out 4
        by_cases hlo : 240 ≤ f.toNat
        · by_cases hhi : f.toNat ≤ 240
          · have hmore : Hid (moreI (f.toNat : Int) = ((3 : Nat) : Int)) := by
              show moreI (f.toNat : Int) = _
              unfold moreI
              repeat' split
              all_goals omega
            have hlow : Hid ((144 : Int) = lowI (f.toNat : Int)) := by
              show _ = lowI (f.toNat : Int)
              unfold lowI
              repeat' split
              all_goals omega
            have hhigh : Hid ((191 : Int) = highI (f.toNat : Int)) := by
              show _ = highI (f.toNat : Int)
              unfold highI
              repeat' split
              all_goals omega
            have g1 : decide ((240 : Int) ≤ (f.toNat : Int)) = true := by rw [decide_eq_true_eq]; omega
            have g2 : decide ((f.toNat : Int) ≤ 240) = true := by rw [decide_eq_true_eq]; omega
            go_wp2_with fail
            rw [lead_at6]
            go_wp2_with fail
            go_quiet (fail)
            go_wp2_with fail
            refine (follow_any s f 240 240 144 191 3 _ hs HF.out hmore.out hlow.out hhigh.out).mono ?_
            rintro e w4 ⟨⟨n4, q4, rfl, n41, n42, n43⟩, b4⟩
            have H4 := Lib.hid n43
            clear n43
            have hB3 := Lib.hid (Below.trans (below_drewM hB2.out _) (b4.mono hB2.out.size))
            go_wp2_with fail
            go_ret2
            exact ⟨⟨n4, q4, rfl, n41, n42, H4.out⟩, hB3.out⟩
          · have g1 : decide ((240 : Int) ≤ (f.toNat : Int)) = true := by rw [decide_eq_true_eq]; omega
            have g2 : decide ((f.toNat : Int) ≤ 240) = false := by rw [decide_eq_false_iff_not]; omega
            go_wp2_with fail
            rw [lead_at6]
            go_wp2_with fail
            go_quiet (fail)
            go_wp2_with fail
            go_roundw
            case rel =>
              refine ⟨7, by omega, by go_num, fun q hq => ?_, by repeat (first | exact hB2.out | refine below_drewM ?_ _)⟩
              by_cases hqj : q < 6
              · exact HP.out q hqj
              · obtain rfl : q = 6 := by omega
                show ¬ (240 ≤ f.toNat ∧ f.toNat ≤ 240)
                omega
            case measure => simp [intOf]
        · have g1 : decide ((240 : Int) ≤ (f.toNat : Int)) = false := by rw [decide_eq_false_iff_not]; omega
          go_wp2_with fail
          rw [lead_at6]
          go_wp2_with fail
          go_quiet (fail)
          go_wp2_with fail
          go_roundw
          case rel =>
            refine ⟨7, by omega, by go_num, fun q hq => ?_, by repeat (first | exact hB2.out | refine below_drewM ?_ _)⟩
            by_cases hqj : q < 6
            · exact HP.out q hqj
            · obtain rfl : q = 6 := by omega
              show ¬ (240 ≤ f.toNat ∧ f.toNat ≤ 240)
              omega
          case measure => simp [intOf]
      · have hcell : Hid ((wr.alloc (.cells #[.int .u8 241, .int .u8 243, .int .u8 128, .int .u8 191, .int .i64 4] 59)).heap[wr.heap.size]? = some (.cells #[.int .u8 241, .int .u8 243, .int .u8 128, .int .u8 191, .int .i64 4] 59 (0, 0))) := by
          show (wr.heap.push _)[wr.heap.size]? = _
          rw [Array.getElem?_push_size]
        have hB2 : Hid (Below w.heap.size w (wr.alloc (.cells #[.int .u8 241, .int .u8 243, .int .u8 128, .int .u8 191, .int .i64 4] 59))) := HB.out.alloc HB.out.size _
        have c0 := Lib.cell_of_heap hcell.out 0
        have c1 := Lib.cell_of_heap hcell.out 1
        have c2 := Lib.cell_of_heap hcell.out 2
        have c3 := Lib.cell_of_heap hcell.out 3
        have c4 := Lib.cell_of_heap hcell.out 4
        by_cases hlo : 241 ≤ f.toNat
        · by_cases hhi : f.toNat ≤ 243
          · have hmore : Hid (moreI (f.toNat : Int) = ((3 : Nat) : Int)) := by
              show moreI (f.toNat : Int) = _
              unfold moreI
              repeat' split
              all_goals omega
            have hlow : Hid ((128 : Int) = lowI (f.toNat : Int)) := by
              show _ = lowI (f.toNat : Int)
              unfold lowI
              repeat' split
              all_goals omega
            have hhigh : Hid ((191 : Int) = highI (f.toNat : Int)) := by
              show _ = highI (f.toNat : Int)
              unfold highI
              repeat' split
              all_goals omega
            have g1 : decide ((241 : Int) ≤ (f.toNat : Int)) = true := by rw [decide_eq_true_eq]; omega
            have g2 : decide ((f.toNat : Int) ≤ 243) = true := by rw [decide_eq_true_eq]; omega
            go_wp2_with fail
            rw [lead_at7]
            go_wp2_with fail
            go_quiet (fail)
            go_wp2_with fail
            refine (follow_any s f 241 243 128 191 3 _ hs HF.out hmore.out hlow.out hhigh.out).mono ?_
            rintro e w4 ⟨⟨n4, q4, rfl, n41, n42, n43⟩, b4⟩
            have H4 := Lib.hid n43
            clear n43
            have hB3 := Lib.hid (Below.trans (below_drewM hB2.out _) (b4.mono hB2.out.size))
            go_wp2_with fail
            go_ret2
            exact ⟨⟨n4, q4, rfl, n41, n42, H4.out⟩, hB3.out⟩
          · have g1 : decide ((241 : Int) ≤ (f.toNat : Int)) = true := by rw [decide_eq_true_eq]; omega
            have g2 : decide ((f.toNat : Int) ≤ 243) = false := by rw [decide_eq_false_iff_not]; omega
            go_wp2_with fail
            rw [lead_at7]
            go_wp2_with fail
            go_quiet (fail)
            go_wp2_with fail
            go_roundw
            case rel =>
              refine ⟨8, by omega, by go_num, fun q hq => ?_, by repeat (first | exact hB2.out | refine below_drewM ?_ _)⟩
              by_cases hqj : q < 7
              · exact HP.out q hqj
              · obtain rfl : q = 7 := by omega
                show ¬ (241 ≤ f.toNat ∧ f.toNat ≤ 243)
                omega
            case measure => simp [intOf]
        · have g1 : decide ((241 : Int) ≤ (f.toNat : Int)) = false := by rw [decide_eq_false_iff_not]; omega
          go_wp2_with fail
          rw [lead_at7]
          go_wp2_with fail
          go_quiet (fail)
          go_wp2_with fail
          go_roundw
          case rel =>
            refine ⟨8, by omega, by go_num, fun q hq => ?_, by repeat (first | exact hB2.out | refine below_drewM ?_ _)⟩
            by_cases hqj : q < 7
            · exact HP.out q hqj
            · obtain rfl : q = 7 := by omega
              show ¬ (241 ≤ f.toNat ∧ f.toNat ≤ 243)
              omega
          case measure => simp [intOf]
      · have hcell : Hid ((wr.alloc (.cells #[.int .u8 244, .int .u8 244, .int .u8 128, .int .u8 143, .int .i64 4] 59)).heap[wr.heap.size]? = some (.cells #[.int .u8 244, .int .u8 244, .int .u8 128, .int .u8 143, .int .i64 4] 59 (0, 0))) := by
          show (wr.heap.push _)[wr.heap.size]? = _
          rw [Array.getElem?_push_size]
        have hB2 : Hid (Below w.heap.size w (wr.alloc (.cells #[.int .u8 244, .int .u8 244, .int .u8 128, .int .u8 143, .int .i64 4] 59))) := HB.out.alloc HB.out.size _
        have c0 := Lib.cell_of_heap hcell.out 0
        have c1 := Lib.cell_of_heap hcell.out 1
        have c2 := Lib.cell_of_heap hcell.out 2
        have c3 := Lib.cell_of_heap hcell.out 3
        have c4 := Lib.cell_of_heap hcell.out 4
        by_cases hlo : 244 ≤ f.toNat
        · by_cases hhi : f.toNat ≤ 244
          · have hmore : Hid (moreI (f.toNat : Int) = ((3 : Nat) : Int)) := by
              show moreI (f.toNat : Int) = _
              unfold moreI
              repeat' split
              all_goals omega
            have hlow : Hid ((128 : Int) = lowI (f.toNat : Int)) := by
              show _ = lowI (f.toNat : Int)
              unfold lowI
              repeat' split
              all_goals omega
            have hhigh : Hid ((143 : Int) = highI (f.toNat : Int)) := by
              show _ = highI (f.toNat : Int)
              unfold highI
              repeat' split
              all_goals omega
            have g1 : decide ((244 : Int) ≤ (f.toNat : Int)) = true := by rw [decide_eq_true_eq]; omega
            have g2 : decide ((f.toNat : Int) ≤ 244) = true := by rw [decide_eq_true_eq]; omega
            go_wp2_with fail
            rw [lead_at8]
            go_wp2_with fail
            go_quiet (fail)
            go_wp2_with fail
            refine (follow_any s f 244 244 128 143 3 _ hs HF.out hmore.out hlow.out hhigh.out).mono ?_
            rintro e w4 ⟨⟨n4, q4, rfl, n41, n42, n43⟩, b4⟩
            have H4 := Lib.hid n43
            clear n43
            have hB3 := Lib.hid (Below.trans (below_drewM hB2.out _) (b4.mono hB2.out.size))
            go_wp2_with fail
            go_ret2
            exact ⟨⟨n4, q4, rfl, n41, n42, H4.out⟩, hB3.out⟩
          · have g1 : decide ((244 : Int) ≤ (f.toNat : Int)) = true := by rw [decide_eq_true_eq]; omega
            have g2 : decide ((f.toNat : Int) ≤ 244) = false := by rw [decide_eq_false_iff_not]; omega
            go_wp2_with fail
            rw [lead_at8]
            go_wp2_with fail
            go_quiet (fail)
            go_wp2_with fail
            go_roundw
            case rel =>
              refine ⟨9, by omega, by go_num, fun q hq => ?_, by repeat (first | exact hB2.out | refine below_drewM ?_ _)⟩
              by_cases hqj : q < 8
              · exact HP.out q hqj
              · obtain rfl : q = 8 := by omega
                show ¬ (244 ≤ f.toNat ∧ f.toNat ≤ 244)
                omega
            case measure => simp [intOf]
        · have g1 : decide ((244 : Int) ≤ (f.toNat : Int)) = false := by rw [decide_eq_false_iff_not]; omega
          go_wp2_with fail
          rw [lead_at8]
          go_wp2_with fail
          go_quiet (fail)
          go_wp2_with fail
          go_roundw
          case rel =>
            refine ⟨9, by omega, by go_num, fun q hq => ?_, by repeat (first | exact hB2.out | refine below_drewM ?_ _)⟩
            by_cases hqj : q < 8
            · exact HP.out q hqj
            · obtain rfl : q = 8 := by omega
              show ¬ (244 ≤ f.toNat ∧ f.toNat ≤ 244)
              omega
          case measure => simp [intOf]
end Go.Proofs.YtfbmabbehiicmaaDoor
