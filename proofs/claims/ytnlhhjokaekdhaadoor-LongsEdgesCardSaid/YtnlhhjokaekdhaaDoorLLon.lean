/- lazaretlaw05.published; the law LongsLength. -/
import Derived.Test.YtnlhhjokaekdhaaDoorSum5
import Derived.Deep.Cut
set_option linter.unusedVariables false
set_option linter.unusedSimpArgs false
namespace Go.Proofs.YtnlhhjokaekdhaaDoor.L5
open Go.RowKit

set_option maxHeartbeats 3200000 in
set_option maxRecDepth 100000 in
theorem published_any (w : World) (hT : LTab5 w) :
    Calls Tryd.prog 16 #[] w fun e w' => e = .returned (.bool true) ∧ Below w.heap.size w w' := by
  obtain ⟨S0, hS0⟩ : ∃ S : ByteArray, (⟨(sum384L msg1).toArray⟩ : ByteArray) = S := ⟨_, rfl⟩
  obtain ⟨T0, hT0⟩ : ∃ S : ByteArray, (⟨(hexL (sum384L msg1)).toArray⟩ : ByteArray) = S := ⟨_, rfl⟩
  have hq0 : (T0.toList == [99, 98, 48, 48, 55, 53, 51, 102, 52, 53, 97, 51, 53, 101, 56, 98, 98, 53, 97, 48, 51, 100, 54, 57, 57, 97, 99, 54, 53, 48, 48, 55, 50, 55, 50, 99, 51, 50, 97, 98, 48, 101, 100, 101, 100, 49, 54, 51, 49, 97, 56, 98, 54, 48, 53, 97, 52, 51, 102, 102, 53, 98, 101, 100, 56, 48, 56, 54, 48, 55, 50, 98, 97, 49, 101, 55, 99, 99, 50, 51, 53, 56, 98, 97, 101, 99, 97, 49, 51, 52, 99, 56, 50, 53, 97, 55]) = true := by
    rw [ByteArray.toList_eq, ← hT0, beq_iff_eq]
    exact ex0
  have HC0 : Hid (∀ W, LTab5 W → Calls Tryd.prog 19 #[.string ⟨#[97, 98, 99]⟩] W fun e w' => e = .returned (.string S0) ∧ Below W.heap.size W w') := fun W hW => by
    rw [← hS0]; exact sum384_any ⟨#[97, 98, 99]⟩ W (by decide) hW
  have HH0 : Hid (∀ W, Calls Tryd.prog 27 #[.string S0] W fun e w' => e = .returned (.string T0) ∧ Below W.heap.size W w') := fun W => by
    have h1 : S0.data.toList = sum384L msg1 := by rw [← hS0]
    have h2 : S0.size = 48 := by
      have e1 : S0.data.toList.length = S0.size := by simp
      rw [← e1, h1, sum384_len]
    rw [← hT0, ← h1]; exact hexes_any S0 W (by omega)
  have HQ0 := Lib.hid hq0
  clear hS0 hT0 hq0
  obtain ⟨S1, hS1⟩ : ∃ S : ByteArray, (⟨(sum512L msg1).toArray⟩ : ByteArray) = S := ⟨_, rfl⟩
  obtain ⟨T1, hT1⟩ : ∃ S : ByteArray, (⟨(hexL (sum512L msg1)).toArray⟩ : ByteArray) = S := ⟨_, rfl⟩
  have hq1 : (T1.toList == [100, 100, 97, 102, 51, 53, 97, 49, 57, 51, 54, 49, 55, 97, 98, 97, 99, 99, 52, 49, 55, 51, 52, 57, 97, 101, 50, 48, 52, 49, 51, 49, 49, 50, 101, 54, 102, 97, 52, 101, 56, 57, 97, 57, 55, 101, 97, 50, 48, 97, 57, 101, 101, 101, 101, 54, 52, 98, 53, 53, 100, 51, 57, 97, 50, 49, 57, 50, 57, 57, 50, 97, 50, 55, 52, 102, 99, 49, 97, 56, 51, 54, 98, 97, 51, 99, 50, 51, 97, 51, 102, 101, 101, 98, 98, 100, 52, 53, 52, 100, 52, 52, 50, 51, 54, 52, 51, 99, 101, 56, 48, 101, 50, 97, 57, 97, 99, 57, 52, 102, 97, 53, 52, 99, 97, 52, 57, 102]) = true := by
    rw [ByteArray.toList_eq, ← hT1, beq_iff_eq]
    exact ex1
  have HC1 : Hid (∀ W, LTab5 W → Calls Tryd.prog 17 #[.string ⟨#[97, 98, 99]⟩] W fun e w' => e = .returned (.string S1) ∧ Below W.heap.size W w') := fun W hW => by
    rw [← hS1]; exact sum512_any ⟨#[97, 98, 99]⟩ W (by decide) hW
  have HH1 : Hid (∀ W, Calls Tryd.prog 27 #[.string S1] W fun e w' => e = .returned (.string T1) ∧ Below W.heap.size W w') := fun W => by
    have h1 : S1.data.toList = sum512L msg1 := by rw [← hS1]
    have h2 : S1.size = 64 := by
      have e1 : S1.data.toList.length = S1.size := by simp
      rw [← e1, h1, sum512_len]
    rw [← hT1, ← h1]; exact hexes_any S1 W (by omega)
  have HQ1 := Lib.hid hq1
  clear hS1 hT1 hq1
  obtain ⟨S2, hS2⟩ : ∃ S : ByteArray, (⟨(sum512L []).toArray⟩ : ByteArray) = S := ⟨_, rfl⟩
  obtain ⟨T2, hT2⟩ : ∃ S : ByteArray, (⟨(hexL (sum512L [])).toArray⟩ : ByteArray) = S := ⟨_, rfl⟩
  have hq2 : (T2.toList == [99, 102, 56, 51, 101, 49, 51, 53, 55, 101, 101, 102, 98, 56, 98, 100, 102, 49, 53, 52, 50, 56, 53, 48, 100, 54, 54, 100, 56, 48, 48, 55, 100, 54, 50, 48, 101, 52, 48, 53, 48, 98, 53, 55, 49, 53, 100, 99, 56, 51, 102, 52, 97, 57, 50, 49, 100, 51, 54, 99, 101, 57, 99, 101, 52, 55, 100, 48, 100, 49, 51, 99, 53, 100, 56, 53, 102, 50, 98, 48, 102, 102, 56, 51, 49, 56, 100, 50, 56, 55, 55, 101, 101, 99, 50, 102, 54, 51, 98, 57, 51, 49, 98, 100, 52, 55, 52, 49, 55, 97, 56, 49, 97, 53, 51, 56, 51, 50, 55, 97, 102, 57, 50, 55, 100, 97, 51, 101]) = true := by
    rw [ByteArray.toList_eq, ← hT2, beq_iff_eq]
    exact ex2
  have HC2 : Hid (∀ W, LTab5 W → Calls Tryd.prog 17 #[.string ⟨#[]⟩] W fun e w' => e = .returned (.string S2) ∧ Below W.heap.size W w') := fun W hW => by
    rw [← hS2]; exact sum512_any ⟨#[]⟩ W (by decide) hW
  have HH2 : Hid (∀ W, Calls Tryd.prog 27 #[.string S2] W fun e w' => e = .returned (.string T2) ∧ Below W.heap.size W w') := fun W => by
    have h1 : S2.data.toList = sum512L [] := by rw [← hS2]
    have h2 : S2.size = 64 := by
      have e1 : S2.data.toList.length = S2.size := by simp
      rw [← e1, h1, sum512_len]
    rw [← hT2, ← h1]; exact hexes_any S2 W (by omega)
  have HQ2 := Lib.hid hq2
  clear hS2 hT2 hq2
  have HT := Lib.hid hT
  clear hT
  go_enter Tryd.func16, Tryd.ntmps16
  go_wp2_with fail
  refine (HC0.out w HT.out).mono ?_
  rintro e w1 ⟨rfl, b⟩
  have B1 : Hid (Below w.heap.size w w1) := b
  clear b
  go_wp2_with fail
  refine (HH0.out w1).mono ?_
  rintro e w2 ⟨rfl, b⟩
  have B2 : Hid (Below w.heap.size w w2) := B1.out.trans (b.mono B1.out.size)
  clear b
  have hq0 := HQ0.out
  go_wp2_with fail
  refine (HC1.out w2 (HT.out.below B2.out)).mono ?_
  rintro e w3 ⟨rfl, b⟩
  have B3 : Hid (Below w.heap.size w w3) := B2.out.trans (b.mono B2.out.size)
  clear b
  go_wp2_with fail
  refine (HH1.out w3).mono ?_
  rintro e w4 ⟨rfl, b⟩
  have B4 : Hid (Below w.heap.size w w4) := B3.out.trans (b.mono B3.out.size)
  clear b
  have hq1 := HQ1.out
  go_wp2_with fail
  refine (HC2.out w4 (HT.out.below B4.out)).mono ?_
  rintro e w5 ⟨rfl, b⟩
  have B5 : Hid (Below w.heap.size w w5) := B4.out.trans (b.mono B4.out.size)
  clear b
  go_wp2_with fail
  refine (HH2.out w5).mono ?_
  rintro e w6 ⟨rfl, b⟩
  have B6 : Hid (Below w.heap.size w w6) := B5.out.trans (b.mono B5.out.size)
  clear b
  have hq2 := HQ2.out
  go_wp2_with fail
  go_ret
  exact ⟨by exact rfl, B6.out⟩

set_option maxHeartbeats 3200000 in
set_option maxRecDepth 100000 in
theorem longsLength_law (s : ByteArray) (w : World) (hT : LTab5 w) :
    Calls Tryd.prog 8 #[.string s] w fun e w' => e = .returned (.bool true) ∧ Below w.heap.size w w' := by
  have HT := Lib.hid hT
  clear hT
  by_cases hl : 5000 < s.size
  · have hl' : (5000 : Int) < s.size := by omega
    go_enter Tryd.func8, Tryd.ntmps8
    go_wp2_with (go_at_call 16; refine (published_any w HT.out).mono ?_; rintro e w1 ⟨rfl, b1⟩)
    go_ret
    exact ⟨by exact rfl, b1⟩
  · have hl' : ¬ (5000 : Int) < s.size := by omega
    obtain ⟨S, hS⟩ : ∃ S : ByteArray, (⟨(sum512L s.data.toList).toArray⟩ : ByteArray) = S := ⟨_, rfl⟩
    obtain ⟨R, hR⟩ : ∃ S : ByteArray, (⟨(sum384L s.data.toList).toArray⟩ : ByteArray) = S := ⟨_, rfl⟩
    have h64 : S.size = 64 := by
      have e1 : S.data.toList.length = S.size := by simp
      rw [← e1, ← hS]
      exact sum512_len _
    have h48 : R.size = 48 := by
      have e1 : R.data.toList.length = R.size := by simp
      rw [← e1, ← hR]
      exact sum384_len _
    have HC : Hid (∀ W, LTab5 W → Calls Tryd.prog 17 #[.string s] W fun e w' => e = .returned (.string S) ∧ Below W.heap.size W w') := fun W hW => by
      rw [← hS]; exact sum512_any s W (by omega) hW
    have HD : Hid (∀ W, LTab5 W → Calls Tryd.prog 19 #[.string s] W fun e w' => e = .returned (.string R) ∧ Below W.heap.size W w') := fun W hW => by
      rw [← hR]; exact sum384_any s W (by omega) hW
    have hi1 : (((S.size : Nat) : Int) == 64) = true := by rw [h64]; rfl
    have hi2 : (((R.size : Nat) : Int) == 48) = true := by rw [h48]; rfl
    have hq : (S.toList == S.toList) = true := by simp
    have hq2 : (R.toList == R.toList) = true := by simp
    clear hS hR hl h64 h48
    go_enter Tryd.func8, Tryd.ntmps8
    go_wp2_with fail
    refine (HC.out w HT.out).mono ?_
    rintro e w1 ⟨rfl, b1⟩
    have B1 := Lib.hid b1
    clear b1
    go_wp2_with fail
    refine (HD.out w1 (HT.out.below B1.out)).mono ?_
    rintro e w2 ⟨rfl, b2⟩
    have B2 : Hid (Below w.heap.size w w2) := B1.out.trans (b2.mono B1.out.size)
    clear b2
    go_wp2_with fail
    refine (HC.out w2 (HT.out.below B2.out)).mono ?_
    rintro e w3 ⟨rfl, b3⟩
    have B3 : Hid (Below w.heap.size w w3) := B2.out.trans (b3.mono B2.out.size)
    clear b3
    go_wp2_with fail
    refine (HD.out w3 (HT.out.below B3.out)).mono ?_
    rintro e w4 ⟨rfl, b4⟩
    have B4 : Hid (Below w.heap.size w w4) := B3.out.trans (b4.mono B3.out.size)
    clear b4
    go_wp2_with fail
    refine (published_any w4 (HT.out.below B4.out)).mono ?_
    rintro e w5 ⟨rfl, b5⟩
    have B5 : Hid (Below w.heap.size w w5) := B4.out.trans (b5.mono B4.out.size)
    clear b5
    go_wp2_with fail
    go_ret
    exact ⟨by exact rfl, B5.out⟩
end Go.Proofs.YtnlhhjokaekdhaaDoor.L5
