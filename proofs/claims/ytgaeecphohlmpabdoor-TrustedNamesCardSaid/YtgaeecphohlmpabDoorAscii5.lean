/- The contracts of Commas: the document's and the program's. -/
import Derived.Test.YtgaeecphohlmpabDoorAscii4
import Derived.Test.YtgaeecphohlmpabDoorLists3
set_option linter.unusedVariables false
namespace Go.Proofs.YtgaeecphohlmpabDoor
open Go.RowKit

def cR (l : List UInt8) (k : Nat) : List (List UInt8) × List UInt8 := if k ≤ l.length then sRun 44 (l.take k) else (spl 44 l, [])
theorem cR_not (s : ByteArray) (k : Nat) (h : k < s.size) (hc : s[k] ≠ 44) : cR s.data.toList (k + 1) = ((cR s.data.toList k).1, (cR s.data.toList k).2 ++ [s[k]]) := by
  unfold cR
  rw [if_pos (by simp; omega), if_pos (by simp; omega), sRun_take 44 s k h]
  simp [sStep, hc]
theorem cR_hit (s : ByteArray) (k : Nat) (h : k < s.size) (hc : s[k] = 44) : cR s.data.toList (k + 1) = ((cR s.data.toList k).1 ++ [(cR s.data.toList k).2], []) := by
  unfold cR
  rw [if_pos (by simp; omega), if_pos (by simp; omega), sRun_take 44 s k h]
  simp [sStep, hc]
theorem cR_end (s : ByteArray) : cR s.data.toList (s.size + 1) = ((cR s.data.toList s.size).1 ++ [(cR s.data.toList s.size).2], []) := by
  unfold cR
  rw [if_neg (by simp), if_pos (by simp), List.take_of_length_le (by simp), sRun_spl]
theorem cR_len (l : List UInt8) (k : Nat) (h : k ≤ l.length) : (cR l k).1.length + (cR l k).2.length ≤ l.length := by
  unfold cR
  rw [if_pos h]
  have := sRun_len 44 (l.take k)
  simp at this
  omega
theorem cR_last (l : List UInt8) : cR l (l.length + 1) = (spl 44 l, []) := by
  unfold cR; rw [if_neg (by omega)]
theorem byte44 {x : UInt8} (h : x ≠ 44) : ((x.toNat : Int) != 44) = true := by
  rw [bne_iff_ne]
  intro e
  exact h (UInt8.toNat_inj.1 (by simpa using (show x.toNat = 44 by omega)))

/-- What strings.Split hands back, at a text of one byte. -/
theorem split_facts (s : ByteArray) (d : UInt8) : ∃ ps : List ByteArray, Lib.splitB ⟨#[d]⟩ 0 (Lib.countB s ⟨#[d]⟩) s = ps ∧ Lib.countB s ⟨#[d]⟩ + 1 = ps.length ∧ ps.map (·.data.toList) = spl d s.data.toList := by
  refine ⟨_, rfl, ?_, ?_⟩
  · have h1 := Lib.splitB_data ⟨#[d]⟩ 0 (Lib.countB s ⟨#[d]⟩) s
    have h2 := split_spl d _ s.data.toList (Nat.le_refl _)
    have h3 := congrArg List.length h1
    rw [List.length_map] at h3
    rw [h3]
    have e : Lib.splitK [d] 0 (Lib.countB s ⟨#[d]⟩) s.data.toList = spl d s.data.toList := h2.1
    show _ = (Lib.splitK [d] 0 (Lib.countB s ⟨#[d]⟩) s.data.toList).length
    rw [e]
    exact h2.2
  · rw [Lib.splitB_data]
    exact (split_spl d _ s.data.toList (Nat.le_refl _)).1

end Go.Proofs.YtgaeecphohlmpabDoor
