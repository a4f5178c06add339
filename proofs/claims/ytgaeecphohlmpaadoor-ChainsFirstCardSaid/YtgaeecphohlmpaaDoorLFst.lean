/- The law ChainsFirst. -/
import Derived.Test.YtgaeecphohlmpaaDoorMor
import Derived.Deep.Cut
set_option linter.unusedVariables false
namespace Go.Proofs.YtgaeecphohlmpaaDoor
open Go.RowKit

set_option maxHeartbeats 3200000 in
set_option maxRecDepth 100000 in
theorem chainsFirst_law (x m : Int) (s : ByteArray) (w : World) (hx : 0 ≤ x ∧ x ≤ 255) (hm : MaxOk m w) (hT : ETab w) :
    Calls Tryd.prog 5 #[.int .u8 x, .string s] w fun e w' => e = .returned (.bool true) ∧ Below w.heap.size w w' := by
  by_cases hl : 300 < s.size
  · have hl' : (300 : Int) < s.size := by omega
    go_enter Tryd.func5, Tryd.ntmps5
    go_wp2_with (go_at_call 15; refine (falls_any m w hm hT).mono ?_; rintro e w1 ⟨rfl, b1⟩)
    go_ret
    exact ⟨by exact rfl, b1⟩
  · have hl' : ¬ (300 : Int) < s.size := by omega
    obtain ⟨r, hr⟩ : ∃ r : Nat, x % 16 = (r : Int) := ⟨(x % 16).toNat, by omega⟩
    have hr16 : r < 16 := by omega
    have hri : (r : Int) < 16 := by omega
    have hr0 : (0 : Int) ≤ r := by omega
    obtain ⟨f1, f2, f3, f4, f5, f6⟩ := first_facts ⟨r, hr16⟩
    simp only at f1 f2 f3 f4 f5 f6
    obtain ⟨nm, hnm⟩ : ∃ nm : ByteArray, (⟨(effS (1 + (r : Int))).toArray⟩ : ByteArray) = nm := ⟨_, rfl⟩
    have hnl : nm.data.toList = effS (1 + (r : Int)) := by rw [← hnm]
    have hns : nm.size ≤ 20 := by rw [← hnm]; show (effS (1 + (r : Int))).toArray.size ≤ 20; rw [List.size_toArray]; exact f5
    have HE : Hid (∀ W, ETab W → Calls Tryd.prog 17 #[.int .i64 (1 + (r : Int))] W fun e w' => e = .returned (.string nm) ∧ w' = W) := fun W h => by rw [← hnm]; exact eff_any _ W h
    have hne : (nm.toList == []) = false := ne_bq (by rw [hnl]; exact f1)
    have hq : (nm.toList == nm.toList) = true := by simp
    have hs1 : (nm ++ ⟨#[32, 120, 59]⟩ ++ s).size ≤ 1073741824 := by simp only [ByteArray.size_append]; show nm.size + 3 + s.size ≤ _; omega
    have hs2 : ((⟨#[100, 101, 102, 97, 117, 108, 116, 45, 115, 114, 99, 32, 121, 59, 32, 120, 45]⟩ : ByteArray) ++ nm).size ≤ 1073741824 := by simp only [ByteArray.size_append]; show 17 + nm.size ≤ _; omega
    have HN1 : Hid (∀ W, MaxOk m W → ETab W → Calls Tryd.prog 25 #[.string (nm ++ ⟨#[32, 120, 59]⟩ ++ s), .int .i64 (1 + (r : Int))] W fun e w' => e = .returned (.string nm) ∧ Below W.heap.size W w') := by
      have := named_first (s := s.data.toList) rfl f1 f2 f3
      rw [← hnl] at this
      have h1 : namedL (nm ++ ⟨#[32, 120, 59]⟩ ++ s).data.toList (1 + (r : Int)) = nm.data.toList := by
        rw [← this]
        congr 1
      intro W h2 h3
      refine (named_any _ _ m W hs1 h2 h3).mono ?_
      rintro e w' ⟨rfl, b⟩
      exact ⟨by rw [h1], b⟩
    have HN2 : ∀ last : List UInt8, (if r = 14 ∨ r = 15 then [] else dsN) = last → Hid (∀ W, MaxOk m W → ETab W → Calls Tryd.prog 25 #[.string ((⟨#[100, 101, 102, 97, 117, 108, 116, 45, 115, 114, 99, 32, 121, 59, 32, 120, 45]⟩ : ByteArray) ++ nm), .int .i64 (1 + (r : Int))] W fun e w' => e = .returned (.string ⟨last.toArray⟩) ∧ Below W.heap.size W w') := by
      intro last hla W h2 h3
      have h1 : namedL ((⟨#[100, 101, 102, 97, 117, 108, 116, 45, 115, 114, 99, 32, 121, 59, 32, 120, 45]⟩ : ByteArray) ++ nm).data.toList (1 + (r : Int)) = last := by
        rw [← hla, ← f6, ← hnl]
        congr 1
      refine (named_any _ _ m W hs2 h2 h3).mono ?_
      rintro e w' ⟨rfl, b⟩
      exact ⟨by rw [h1], b⟩
    have HM0 := Lib.hid hm
    have HT0 := Lib.hid hT
    clear hl hnm hnl f1 f2 f3 f4 f5 f6 hs1 hs2
    have hcase : (((1 + (r : Int)) != 15) = true ∧ ((1 + (r : Int)) != 16) = true ∧ (if r = 14 ∨ r = 15 then [] else dsN) = dsN) ∨ (((1 + (r : Int)) != 15) = false ∧ (if r = 14 ∨ r = 15 then [] else dsN) = []) ∨ (((1 + (r : Int)) != 15) = true ∧ ((1 + (r : Int)) != 16) = false ∧ (if r = 14 ∨ r = 15 then [] else dsN) = []) := by
      by_cases c1 : r = 14
      · subst c1; exact .inr (.inl ⟨rfl, rfl⟩)
      · by_cases c2 : r = 15
        · subst c2; exact .inr (.inr ⟨rfl, rfl, rfl⟩)
        · refine .inl ⟨?_, ?_, if_neg (by omega)⟩
          · rw [bne_iff_ne]; omega
          · rw [bne_iff_ne]; omega
    rcases hcase with ⟨t1, t2, t3⟩ | ⟨t1, t3⟩ | ⟨t1, t2, t3⟩
    all_goals
      replace HN2 := HN2 _ t3
      clear t3
      go_enter Tryd.func5, Tryd.ntmps5
      go_wp2_with (first
        | (go_at_call 15; refine (falls_any m w4 HM4.out HT4.out).mono ?_; rintro e w5 ⟨rfl, b5⟩; have B5 := Lib.hid b5; clear b5)
        | (go_at_call 25; refine (HN2.out _ HM3.out HT3.out).mono ?_; rintro e w4 ⟨rfl, b4⟩; have B4 := Lib.hid b4; have HM4 := Lib.hid (HM3.out.below b4); have HT4 := Lib.hid (HT3.out.below b4); clear b4)
        | (go_at_call 25; refine (HN1.out _ HM0.out HT0.out).mono ?_; rintro e w3 ⟨rfl, b3⟩; have B3 := Lib.hid b3; have HM3 := Lib.hid (HM0.out.below b3); have HT3 := Lib.hid (HT0.out.below b3); clear b3)
        | (go_at_call 17; refine (HE.out _ HT0.out).mono ?_; rintro e w1' ⟨rfl, rfl⟩))
      go_ret
      exact ⟨by exact rfl, B3.out.trans ((B4.out.trans (B5.out.mono B4.out.size)).mono B3.out.size)⟩
end Go.Proofs.YtgaeecphohlmpaaDoor
