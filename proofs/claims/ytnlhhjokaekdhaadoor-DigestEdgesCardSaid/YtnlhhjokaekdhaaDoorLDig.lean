/- lazaretlaw04.sums; the law DigestLength. -/
import Derived.Test.YtnlhhjokaekdhaaDoorHex4
import Derived.Deep.Cut
set_option linter.unusedVariables false
set_option linter.unusedSimpArgs false
namespace Go.Proofs.YtnlhhjokaekdhaaDoor
open Go.RowKit

set_option maxHeartbeats 3200000 in
set_option maxRecDepth 100000 in
theorem sums_any (w : World) (hT : DTab w) :
    Calls Tryd.prog 13 #[] w fun e w' => e = .returned (.bool true) ∧ Below w.heap.size w w' := by
  obtain ⟨S0, hS0⟩ : ∃ S : ByteArray, (⟨(sumL []).toArray⟩ : ByteArray) = S := ⟨_, rfl⟩
  obtain ⟨T0, hT0⟩ : ∃ S : ByteArray, (⟨(hexL (sumL [])).toArray⟩ : ByteArray) = S := ⟨_, rfl⟩
  have hq0 : (T0.toList == [101, 51, 98, 48, 99, 52, 52, 50, 57, 56, 102, 99, 49, 99, 49, 52, 57, 97, 102, 98, 102, 52, 99, 56, 57, 57, 54, 102, 98, 57, 50, 52, 50, 55, 97, 101, 52, 49, 101, 52, 54, 52, 57, 98, 57, 51, 52, 99, 97, 52, 57, 53, 57, 57, 49, 98, 55, 56, 53, 50, 98, 56, 53, 53]) = true := by
    rw [ByteArray.toList_eq, ← hT0, beq_iff_eq]
    exact ex0
  have HC0 : Hid (∀ W, DTab W → Calls Tryd.prog 14 #[.string ⟨#[]⟩] W fun e w' => e = .returned (.string S0) ∧ Below W.heap.size W w') := fun W hW => by
    rw [← hS0]; exact sum_any ⟨#[]⟩ W (by decide) hW
  have HH0 : Hid (∀ W, Calls Tryd.prog 27 #[.string S0] W fun e w' => e = .returned (.string T0) ∧ Below W.heap.size W w') := fun W => by
    have h1 : S0.data.toList = sumL [] := by rw [← hS0]
    have h2 : S0.size = 32 := by
      have e1 : S0.data.toList.length = S0.size := by simp
      rw [← e1, h1, sumL_len]
    rw [← hT0, ← h1]; exact hexes_any S0 W (by omega)
  have HQ0 := Lib.hid hq0
  clear hS0 hT0 hq0
  obtain ⟨S1, hS1⟩ : ∃ S : ByteArray, (⟨(sumL msg1).toArray⟩ : ByteArray) = S := ⟨_, rfl⟩
  obtain ⟨T1, hT1⟩ : ∃ S : ByteArray, (⟨(hexL (sumL msg1)).toArray⟩ : ByteArray) = S := ⟨_, rfl⟩
  have hq1 : (T1.toList == [98, 97, 55, 56, 49, 54, 98, 102, 56, 102, 48, 49, 99, 102, 101, 97, 52, 49, 52, 49, 52, 48, 100, 101, 53, 100, 97, 101, 50, 50, 50, 51, 98, 48, 48, 51, 54, 49, 97, 51, 57, 54, 49, 55, 55, 97, 57, 99, 98, 52, 49, 48, 102, 102, 54, 49, 102, 50, 48, 48, 49, 53, 97, 100]) = true := by
    rw [ByteArray.toList_eq, ← hT1, beq_iff_eq]
    exact ex1
  have HC1 : Hid (∀ W, DTab W → Calls Tryd.prog 14 #[.string ⟨#[97, 98, 99]⟩] W fun e w' => e = .returned (.string S1) ∧ Below W.heap.size W w') := fun W hW => by
    rw [← hS1]; exact sum_any ⟨#[97, 98, 99]⟩ W (by decide) hW
  have HH1 : Hid (∀ W, Calls Tryd.prog 27 #[.string S1] W fun e w' => e = .returned (.string T1) ∧ Below W.heap.size W w') := fun W => by
    have h1 : S1.data.toList = sumL msg1 := by rw [← hS1]
    have h2 : S1.size = 32 := by
      have e1 : S1.data.toList.length = S1.size := by simp
      rw [← e1, h1, sumL_len]
    rw [← hT1, ← h1]; exact hexes_any S1 W (by omega)
  have HQ1 := Lib.hid hq1
  clear hS1 hT1 hq1
  obtain ⟨S2, hS2⟩ : ∃ S : ByteArray, (⟨(sumL msg2).toArray⟩ : ByteArray) = S := ⟨_, rfl⟩
  obtain ⟨T2, hT2⟩ : ∃ S : ByteArray, (⟨(hexL (sumL msg2)).toArray⟩ : ByteArray) = S := ⟨_, rfl⟩
  have hq2 : (T2.toList == [50, 52, 56, 100, 54, 97, 54, 49, 100, 50, 48, 54, 51, 56, 98, 56, 101, 53, 99, 48, 50, 54, 57, 51, 48, 99, 51, 101, 54, 48, 51, 57, 97, 51, 51, 99, 101, 52, 53, 57, 54, 52, 102, 102, 50, 49, 54, 55, 102, 54, 101, 99, 101, 100, 100, 52, 49, 57, 100, 98, 48, 54, 99, 49]) = true := by
    rw [ByteArray.toList_eq, ← hT2, beq_iff_eq]
    exact ex2
  have HC2 : Hid (∀ W, DTab W → Calls Tryd.prog 14 #[.string ⟨#[97, 98, 99, 100, 98, 99, 100, 101, 99, 100, 101, 102, 100, 101, 102, 103, 101, 102, 103, 104, 102, 103, 104, 105, 103, 104, 105, 106, 104, 105, 106, 107, 105, 106, 107, 108, 106, 107, 108, 109, 107, 108, 109, 110, 108, 109, 110, 111, 109, 110, 111, 112, 110, 111, 112, 113]⟩] W fun e w' => e = .returned (.string S2) ∧ Below W.heap.size W w') := fun W hW => by
    rw [← hS2]; exact sum_any ⟨#[97, 98, 99, 100, 98, 99, 100, 101, 99, 100, 101, 102, 100, 101, 102, 103, 101, 102, 103, 104, 102, 103, 104, 105, 103, 104, 105, 106, 104, 105, 106, 107, 105, 106, 107, 108, 106, 107, 108, 109, 107, 108, 109, 110, 108, 109, 110, 111, 109, 110, 111, 112, 110, 111, 112, 113]⟩ W (by decide) hW
  have HH2 : Hid (∀ W, Calls Tryd.prog 27 #[.string S2] W fun e w' => e = .returned (.string T2) ∧ Below W.heap.size W w') := fun W => by
    have h1 : S2.data.toList = sumL msg2 := by rw [← hS2]
    have h2 : S2.size = 32 := by
      have e1 : S2.data.toList.length = S2.size := by simp
      rw [← e1, h1, sumL_len]
    rw [← hT2, ← h1]; exact hexes_any S2 W (by omega)
  have HQ2 := Lib.hid hq2
  clear hS2 hT2 hq2
  have HT := Lib.hid hT
  clear hT
  go_enter Tryd.func13, Tryd.ntmps13
  go_wp2_with fail
  refine (HC0.out w HT.out).mono ?_
  rintro e w1 ⟨rfl, b⟩
  have B1 : Hid (Below w.heap.size w w1) := b
  clear b
  go_wp2_with fail
  refine (HH0.out w1).mono ?_
  rintro e w2 ⟨rfl, b⟩
  have B2 : Hid (Below w.heap.size w w2) := B1.out.trans (b.mono B1.out.size)
  clear b
  have hq0 := HQ0.out
  go_wp2_with fail
  refine (HC1.out w2 (HT.out.below B2.out)).mono ?_
  rintro e w3 ⟨rfl, b⟩
  have B3 : Hid (Below w.heap.size w w3) := B2.out.trans (b.mono B2.out.size)
  clear b
  go_wp2_with fail
  refine (HH1.out w3).mono ?_
  rintro e w4 ⟨rfl, b⟩
  have B4 : Hid (Below w.heap.size w w4) := B3.out.trans (b.mono B3.out.size)
  clear b
  have hq1 := HQ1.out
  go_wp2_with fail
  refine (HC2.out w4 (HT.out.below B4.out)).mono ?_
  rintro e w5 ⟨rfl, b⟩
  have B5 : Hid (Below w.heap.size w w5) := B4.out.trans (b.mono B4.out.size)
  clear b
  go_wp2_with fail
  refine (HH2.out w5).mono ?_
  rintro e w6 ⟨rfl, b⟩
  have B6 : Hid (Below w.heap.size w w6) := B5.out.trans (b.mono B5.out.size)
  clear b
  have hq2 := HQ2.out
  go_wp2_with fail
  go_ret
  exact ⟨by exact rfl, B6.out⟩

set_option maxHeartbeats 3200000 in
set_option maxRecDepth 100000 in
theorem digestLength_law (s : ByteArray) (w : World) (hT : DTab w) :
    Calls Tryd.prog 5 #[.string s] w fun e w' => e = .returned (.bool true) ∧ Below w.heap.size w w' := by
  have HT := Lib.hid hT
  clear hT
  by_cases hl : 5000 < s.size
  · have hl' : (5000 : Int) < s.size := by omega
    go_enter Tryd.func5, Tryd.ntmps5
    go_wp2_with (go_at_call 13; refine (sums_any w HT.out).mono ?_; rintro e w1 ⟨rfl, b1⟩)
    go_ret
    exact ⟨by exact rfl, b1⟩
  · have hl' : ¬ (5000 : Int) < s.size := by omega
    obtain ⟨S, hS⟩ : ∃ S : ByteArray, (⟨(sumL s.data.toList).toArray⟩ : ByteArray) = S := ⟨_, rfl⟩
    have h32 : S.size = 32 := by
      have e1 : S.data.toList.length = S.size := by simp
      rw [← e1, ← hS]
      exact sumL_len _
    have HC : Hid (∀ W, DTab W → Calls Tryd.prog 14 #[.string s] W fun e w' => e = .returned (.string S) ∧ Below W.heap.size W w') := fun W hW => by
      rw [← hS]; exact sum_any s W (by omega) hW
    have hi1 : (((S.size : Nat) : Int) == 32) = true := by rw [h32]; rfl
    have hq : (S.toList == S.toList) = true := by simp
    clear hS hl h32
    go_enter Tryd.func5, Tryd.ntmps5
    go_wp2_with fail
    refine (HC.out w HT.out).mono ?_
    rintro e w1 ⟨rfl, b1⟩
    have B1 := Lib.hid b1
    clear b1
    go_wp2_with fail
    refine (HC.out w1 (HT.out.below B1.out)).mono ?_
    rintro e w2 ⟨rfl, b2⟩
    have B2 : Hid (Below w.heap.size w w2) := B1.out.trans (b2.mono B1.out.size)
    clear b2
    go_wp2_with fail
    refine (sums_any w2 (HT.out.below B2.out)).mono ?_
    rintro e w3 ⟨rfl, b3⟩
    have B3 : Hid (Below w.heap.size w w3) := B2.out.trans (b3.mono B2.out.size)
    clear b3
    go_wp2_with fail
    go_ret
    exact ⟨by exact rfl, B3.out⟩
end Go.Proofs.YtnlhhjokaekdhaaDoor
