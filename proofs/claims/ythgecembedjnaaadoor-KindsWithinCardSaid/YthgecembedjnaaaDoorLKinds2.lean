/- The law KindsWithin, by the contracts. -/
import Derived.Test.YthgecembedjnaaaDoorLKinds
set_option linter.unusedVariables false
namespace Go.Proofs.YthgecembedjnaaaDoor
open Go.RowKit

theorem mem_all {W : List (List UInt8)} {p : List UInt8 → Bool} (h : W.all p = true) {n : List UInt8} (hn : memW W n = true) : p n = true := by
  unfold memW at hn
  exact List.all_eq_true.1 h n (by simpa using hn)
theorem within_implied {n : List UInt8} (h : memW impliedW n = true) : memW thoroughW n = true ∧ memW formattingW n = false ∧ memW headingW n = false ∧ memW voidW n = false := by
  have := mem_all (p := fun x => memW thoroughW x && !memW formattingW x && !memW headingW x && !memW voidW x) (by decide) h
  simpa [and_assoc] using this
theorem within_formatting {n : List UInt8} (h : memW formattingW n = true) : memW impliedW n = false ∧ specialS 0 n = false ∧ memW headingW n = false ∧ memW voidW n = false := by
  have := mem_all (p := fun x => !memW impliedW x && !specialS 0 x && !memW headingW x && !memW voidW x) (by decide) h
  simpa [and_assoc] using this
theorem within_heading {n : List UInt8} (h : memW headingW n = true) : memW impliedW n = false ∧ memW formattingW n = false ∧ specialS 0 n = true ∧ memW voidW n = false := by
  have := mem_all (p := fun x => !memW impliedW x && !memW formattingW x && specialS 0 x && !memW voidW x) (by decide) h
  simpa [and_assoc] using this
theorem within_void {n : List UInt8} (h : memW voidW n = true) : memW impliedW n = false ∧ memW formattingW n = false ∧ memW headingW n = false ∧ stateS n = 0 := by
  have := mem_all (p := fun x => !memW impliedW x && !memW formattingW x && !memW headingW x && (stateS x == 0)) (by decide) h
  simpa [and_assoc] using this
theorem scope_special {q sp : Int} {n : List UInt8} (h : scopeS q sp n = true) : specialS sp n = true := by
  unfold scopeS at h
  by_cases h0 : q < 0 ∨ 4 ≤ q
  · rw [if_pos h0] at h; cases h
  · rw [if_neg h0] at h
    by_cases hs : sp = 0
    · subst hs
      rw [if_neg (by simp)] at h
      show memW special0W n = true
      split at h
      · exact mem_all (by decide) h
      · split at h
        · exact mem_all (by decide) h
        · split at h
          · exact mem_all (by decide) h
          · exact mem_all (by decide) h
    · rw [if_pos hs] at h
      split at h
      · exact h
      · cases h
theorem scope_more {sp : Int} {n : List UInt8} (h : scopeS 0 sp n = true) : scopeS 1 sp n = true ∧ scopeS 2 sp n = true := by
  by_cases hs : sp = 0
  · subst hs
    have h' : memW scope0W n = true := h
    exact ⟨mem_all (p := fun x => memW scope1W x) (by decide) h', mem_all (p := fun x => memW scope2W x) (by decide) h'⟩
  · unfold scopeS at h ⊢
    rw [if_neg (by decide), if_pos hs, if_pos (by decide)] at h
    rw [if_neg (by decide), if_pos hs, if_pos (by decide), if_neg (by decide), if_pos hs, if_pos (by decide)]
    exact ⟨h, h⟩

set_option maxHeartbeats 8000000 in
set_option maxRecDepth 100000 in
theorem kindsWithin_law (n : ByteArray) (sp m : Int) (w : World) (hn : n.size ≤ maxLen) (hs : -9223372036854775808 ≤ sp ∧ sp ≤ 9223372036854775807) (hm : MaxOk m w) (hk : KTabs w) :
    Calls Tryd.prog 9 #[.string n, .int .i64 sp] w fun e w' => e = .returned (.bool true) ∧ Below w.heap.size w w' := by
  have HM := Lib.hid hm
  have HK := Lib.hid hk
  clear hm hk
  unfold maxLen at hn
  by_cases h1 : 300 < n.size
  · go_enter Tryd.func9, Tryd.ntmps9
    go_wp2_with (go_at_call 35; refine (listed_any m _ HM.out HK.out).mono ?_; rintro e w' ⟨rfl, rfl⟩)
    go_ret
    exact ⟨rfl, Below.refl _ _⟩
  · have hn2 : n.size ≤ 1099511627776 := by omega
    have cI := Lib.hid (implied_any n m w hn2 HM.out)
    have cT := Lib.hid (thorough_any n m w hn2 HM.out)
    have cF := Lib.hid (formatting_any n m w hn2 HM.out)
    have cH := Lib.hid (heading_any n m w hn2 HM.out)
    have cV := Lib.hid (void_any n m w hn2 HM.out)
    have cSt := Lib.hid (state_any n m w hn2 HM.out HK.out)
    have cSp := Lib.hid (special_any 0 n m w (by omega) (by omega) hn2 HM.out HK.out)
    have HS := Lib.hid (fun q => @scope_special q sp n.data.toList)
    have HMo := Lib.hid (@scope_more sp n.data.toList)
    have hcase : (memW impliedW n.data.toList = true ∧ memW thoroughW n.data.toList = true ∧ memW formattingW n.data.toList = false ∧ memW headingW n.data.toList = false ∧ memW voidW n.data.toList = false) ∨
        (memW formattingW n.data.toList = true ∧ memW impliedW n.data.toList = false ∧ specialS 0 n.data.toList = false ∧ memW headingW n.data.toList = false ∧ memW voidW n.data.toList = false) ∨
        (memW headingW n.data.toList = true ∧ memW impliedW n.data.toList = false ∧ memW formattingW n.data.toList = false ∧ specialS 0 n.data.toList = true ∧ memW voidW n.data.toList = false) ∨
        (memW voidW n.data.toList = true ∧ memW impliedW n.data.toList = false ∧ memW formattingW n.data.toList = false ∧ memW headingW n.data.toList = false ∧ stateS n.data.toList = 0) ∨
        (memW voidW n.data.toList = false ∧ memW impliedW n.data.toList = false ∧ memW formattingW n.data.toList = false ∧ memW headingW n.data.toList = false ∧ True) := by
      cases hi : memW impliedW n.data.toList with
      | true => exact .inl ⟨rfl, within_implied hi⟩
      | false =>
        cases hf : memW formattingW n.data.toList with
        | true => exact .inr (.inl ⟨rfl, rfl, (within_formatting hf).2⟩)
        | false =>
          cases hh : memW headingW n.data.toList with
          | true => exact .inr (.inr (.inl ⟨rfl, rfl, rfl, (within_heading hh).2.2⟩))
          | false =>
            cases hv : memW voidW n.data.toList with
            | true => exact .inr (.inr (.inr (.inl ⟨rfl, rfl, rfl, rfl, (within_void hv).2.2.2⟩)))
            | false => exact .inr (.inr (.inr (.inr ⟨rfl, rfl, rfl, rfl, trivial⟩)))
    rcases hcase with ⟨a1, a2, a3, a4, a5⟩ | ⟨a1, a2, a3, a4, a5⟩ | ⟨a1, a2, a3, a4, a5⟩ | ⟨a1, a2, a3, a4, a5⟩ | ⟨a1, a2, a3, a4, a5⟩
    all_goals
      cases hno : scopeS 0 sp n.data.toList
      all_goals
        try (have hmo := HMo.out hno; obtain ⟨hm1, hm2⟩ := hmo)
        go_enter Tryd.func9, Tryd.ntmps9
        go_wp2_with (first
          | (go_at_call 44; refine cI.out.mono ?_; rintro e w' ⟨rfl, rfl⟩)
          | (go_at_call 46; refine cT.out.mono ?_; rintro e w' ⟨rfl, rfl⟩)
          | (go_at_call 40; refine cF.out.mono ?_; rintro e w' ⟨rfl, rfl⟩)
          | (go_at_call 48; refine cH.out.mono ?_; rintro e w' ⟨rfl, rfl⟩)
          | (go_at_call 42; refine cV.out.mono ?_; rintro e w' ⟨rfl, rfl⟩)
          | (go_at_call 50; refine cSt.out.mono ?_; rintro e w' ⟨rfl, rfl⟩)
          | (go_at_call 38; refine cSp.out.mono ?_; rintro e w' ⟨rfl, rfl⟩)
          | (go_at_call 36; refine (scope_any _ sp n m w (by omega) (by omega) hs.1 hs.2 hn2 HM.out HK.out).mono ?_; rintro e w' ⟨rfl, rfl⟩))
        go_loop [6] (fun i => ∃ q : Int, 0 ≤ q ∧ q ≤ 4 ∧ i = .int .i64 q) (fun i => (4 - intOf i).toNat)
        case atStart => exact ⟨0, by omega, by omega, rfl⟩
        case round =>
          obtain ⟨q, hq0, hq1, rfl⟩ := hrel
          by_cases hq : q < 4
          · cases hsq : scopeS q sp n.data.toList
            all_goals
              try have hspec := HS.out q hsq
              go_wp2_with (first
                | (go_at_call 36; refine (scope_any q sp n m w (by omega) (by omega) hs.1 hs.2 hn2 HM.out HK.out).mono ?_; rintro e w' ⟨rfl, rfl⟩)
                | (go_at_call 38; refine (special_any sp n m w hs.1 hs.2 hn2 HM.out HK.out).mono ?_; rintro e w' ⟨rfl, rfl⟩))
              go_round
              case rel => exact ⟨q + 1, by omega, by omega, by go_num⟩
              case measure => simp [intOf]; omega
          · go_wp2_with (go_at_call 35; refine (listed_any m _ HM.out HK.out).mono ?_; rintro e w' ⟨rfl, rfl⟩)
            go_ret
            exact ⟨rfl, Below.refl _ _⟩
end Go.Proofs.YthgecembedjnaaaDoor
