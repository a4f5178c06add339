/- The law KindsCase, by the contracts. -/
import Derived.Test.YthgecembedjnaaaDoorLKinds
import Derived.Test.YthgecembedjnaaaDoorLists2
set_option linter.unusedVariables false
namespace Go.Proofs.YthgecembedjnaaaDoor
open Go.RowKit

/-- No word of these lists has a byte below 33 or in upper case, nor is one empty. -/
def lowW (W : List (List UInt8)) : Bool := W.all fun x => !x.isEmpty && x.all fun b => decide (33 ≤ b.toNat) && !(decide (65 ≤ b.toNat) && decide (b.toNat ≤ 90))
def badByte (b : UInt8) : Prop := b.toNat < 33 ∨ (65 ≤ b.toNat ∧ b.toNat ≤ 90)
theorem low_no {W : List (List UInt8)} (hW : lowW W = true) {n : List UInt8} (h : n = [] ∨ ∃ b ∈ n, badByte b) : memW W n = false := by
  cases hm : memW W n with
  | false => rfl
  | true =>
    have hn : n ∈ W := by unfold memW at hm; simpa using hm
    have := List.all_eq_true.1 hW n hn
    simp only [Bool.and_eq_true, List.all_eq_true, Bool.not_eq_true', decide_eq_true_eq] at this
    rcases h with rfl | ⟨b, hb, hbad⟩
    · simp at this
    · have := this.2 b hb
      simp only [Bool.and_eq_false_iff, decide_eq_false_iff_not] at this
      unfold badByte at hbad
      omega
theorem bad_special {n : List UInt8} (h : n = [] ∨ ∃ b ∈ n, badByte b) : specialS 0 n = false := low_no (W := special0W) (by decide) h
theorem bad_scope {n : List UInt8} (h : n = [] ∨ ∃ b ∈ n, badByte b) (q : Int) : scopeS q 0 n = false := by
  unfold scopeS
  split
  · rfl
  · rw [if_neg (by simp)]
    split
    · exact low_no (by decide) h
    · split
      · exact low_no (by decide) h
      · split
        · exact low_no (by decide) h
        · exact low_no (by decide) h
theorem bad_state {n : List UInt8} (h : n = [] ∨ ∃ b ∈ n, badByte b) : stateS n = 0 := by
  unfold stateS
  simp only [low_no (W := state1W) (by decide) h, low_no (W := state2W) (by decide) h, low_no (W := state3W) (by decide) h, low_no (W := state4W) (by decide) h]
  rfl
end Go.Proofs.YthgecembedjnaaaDoor
