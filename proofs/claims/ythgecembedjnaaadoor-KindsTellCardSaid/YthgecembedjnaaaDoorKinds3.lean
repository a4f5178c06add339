/- The contracts of layer 13's functions: the document's, where names are held against names. -/
import Derived.Test.YthgecembedjnaaaDoorKinds2
set_option linter.unusedVariables false
namespace Go.Proofs.YthgecembedjnaaaDoor
open Go.RowKit

theorem byteI (b : UInt8) (k : Nat) (hk : k < 256) : b = UInt8.ofNat k ↔ (b.toNat : Int) = k := by
  constructor
  · intro e; rw [e]; simp; omega
  · intro e
    apply UInt8.toNat_inj.1
    have : b.toNat = k := by omega
    rw [this]; simp; omega
theorem headings_two (a b : UInt8) : memW headingW [a, b] = (((a.toNat : Int) == 104) && (decide (49 ≤ (b.toNat : Int)) && decide ((b.toNat : Int) ≤ 54))) := by
  have ha : a = 104 ↔ (a.toNat : Int) = 104 := byteI a 104 (by omega)
  have h1 : b = 49 ↔ (b.toNat : Int) = 49 := byteI b 49 (by omega)
  have h2 : b = 50 ↔ (b.toNat : Int) = 50 := byteI b 50 (by omega)
  have h3 : b = 51 ↔ (b.toNat : Int) = 51 := byteI b 51 (by omega)
  have h4 : b = 52 ↔ (b.toNat : Int) = 52 := byteI b 52 (by omega)
  have h5 : b = 53 ↔ (b.toNat : Int) = 53 := byteI b 53 (by omega)
  have h6 : b = 54 ↔ (b.toNat : Int) = 54 := byteI b 54 (by omega)
  rw [Bool.eq_iff_iff]
  unfold memW headingW
  rw [List.contains_eq_mem]
  simp only [decide_eq_true_eq, List.mem_cons, List.cons.injEq, and_true, List.not_mem_nil, or_false, Bool.and_eq_true, beq_iff_eq, ha, h1, h2, h3, h4, h5, h6]
  omega
theorem headings_len {n : List UInt8} (h : n.length ≠ 2) : memW headingW n = false := by
  unfold memW
  rw [List.contains_eq_mem, decide_eq_false_iff_not]
  intro hm
  have : headingW.all (fun x => x.length == 2) = true := by decide
  have := List.all_eq_true.1 this n hm
  simp at this
  exact h this

theorem rheading_any (n : ByteArray) (w : World) (hn : n.size ≤ 1099511627776) : Calls Tryd.prog 49 #[.string n] w fun e w' => e = .returned (.bool (memW headingW n.data.toList)) ∧ w = w' := by
  by_cases h2 : n.size = 2
  · obtain ⟨a, b, hab⟩ : ∃ a b, n.data.toList = [a, b] := by
      have hlen : n.data.toList.length = 2 := by simpa using h2
      generalize n.data.toList = l at hlen
      match l, hlen with
      | [a, b], _ => exact ⟨a, b, rfl⟩
    have e : n = ⟨#[a, b]⟩ := by
      cases n with
      | mk d =>
        have : d.toList = [a, b] := hab
        have : d = #[a, b] := by rw [← Array.toArray_toList (xs := d), this]
        rw [this]
    subst e
    have HR := Lib.hid (headings_two a b)
    clear hab h2
    go_enter Tryd.func49, Tryd.ntmps49
    go_wp2
    all_goals
      go_ret
      refine ⟨ret_bool ?_, rfl⟩
      rw [HR.out]
      have e0 : ((⟨#[a, b]⟩ : ByteArray)[0]'(Nat.zero_lt_succ 1)) = a := rfl
      have e1 : ((⟨#[a, b]⟩ : ByteArray)[1]'(Nat.lt_succ_self 1)) = b := rfl
      simp only [e0, e1] at *
      rw [Bool.eq_iff_iff]
      simp
      omega
  · have HR := Lib.hid (headings_len (n := n.data.toList) (by simpa using h2))
    have hb : ((n.size : Int) == 2) = false := by rw [beq_eq_false_iff_ne]; omega
    clear h2
    go_enter Tryd.func49, Tryd.ntmps49
    go_wp2
    go_ret
    exact ⟨ret_bool HR.out.symm, rfl⟩

theorem of_list {n : ByteArray} {l : List UInt8} (h : n.data.toList = l) : n = ⟨l.toArray⟩ := by
  subst h; simp
theorem ne_beq {n : ByteArray} {l : List UInt8} (h : ¬ n.data.toList = l) : (n.toList == l) = false := by
  rw [ByteArray.toList_eq, beq_eq_false_iff_ne]; exact h

set_option maxHeartbeats 2000000 in
theorem rstate_any (n : ByteArray) (w : World) : Calls Tryd.prog 51 #[.string n] w fun e w' => e = .returned (.int .i64 (stateS n.data.toList)) ∧ w = w' := by
  by_cases h0 : n.data.toList = [116, 101, 120, 116, 97, 114, 101, 97]
  · obtain rfl := of_list h0
    clear h0
    have HR : Hid (stateS [116, 101, 120, 116, 97, 114, 101, 97] = 1) := by show stateS [116, 101, 120, 116, 97, 114, 101, 97] = 1; decide
    go_enter Tryd.func51, Tryd.ntmps51
    go_wp2
    go_ret
    exact ⟨ret_int HR.out.symm, rfl⟩
  by_cases h1 : n.data.toList = [116, 105, 116, 108, 101]
  · obtain rfl := of_list h1
    clear h0 h1
    have HR : Hid (stateS [116, 105, 116, 108, 101] = 1) := by show stateS [116, 105, 116, 108, 101] = 1; decide
    go_enter Tryd.func51, Tryd.ntmps51
    go_wp2
    go_ret
    exact ⟨ret_int HR.out.symm, rfl⟩
  by_cases h2 : n.data.toList = [115, 99, 114, 105, 112, 116]
  · obtain rfl := of_list h2
    clear h0 h1 h2
    have HR : Hid (stateS [115, 99, 114, 105, 112, 116] = 3) := by show stateS [115, 99, 114, 105, 112, 116] = 3; decide
    go_enter Tryd.func51, Tryd.ntmps51
    go_wp2
    go_ret
    exact ⟨ret_int HR.out.symm, rfl⟩
  by_cases h3 : n.data.toList = [112, 108, 97, 105, 110, 116, 101, 120, 116]
  · obtain rfl := of_list h3
    clear h0 h1 h2 h3
    have HR : Hid (stateS [112, 108, 97, 105, 110, 116, 101, 120, 116] = 4) := by show stateS [112, 108, 97, 105, 110, 116, 101, 120, 116] = 4; decide
    go_enter Tryd.func51, Tryd.ntmps51
    go_wp2
    go_ret
    exact ⟨ret_int HR.out.symm, rfl⟩
  by_cases h4 : n.data.toList = [105, 102, 114, 97, 109, 101]
  · obtain rfl := of_list h4
    clear h0 h1 h2 h3 h4
    have HR : Hid (stateS [105, 102, 114, 97, 109, 101] = 2) := by show stateS [105, 102, 114, 97, 109, 101] = 2; decide
    go_enter Tryd.func51, Tryd.ntmps51
    go_wp2
    go_ret
    exact ⟨ret_int HR.out.symm, rfl⟩
  by_cases h5 : n.data.toList = [110, 111, 101, 109, 98, 101, 100]
  · obtain rfl := of_list h5
    clear h0 h1 h2 h3 h4 h5
    have HR : Hid (stateS [110, 111, 101, 109, 98, 101, 100] = 2) := by show stateS [110, 111, 101, 109, 98, 101, 100] = 2; decide
    go_enter Tryd.func51, Tryd.ntmps51
    go_wp2
    go_ret
    exact ⟨ret_int HR.out.symm, rfl⟩
  by_cases h6 : n.data.toList = [110, 111, 102, 114, 97, 109, 101, 115]
  · obtain rfl := of_list h6
    clear h0 h1 h2 h3 h4 h5 h6
    have HR : Hid (stateS [110, 111, 102, 114, 97, 109, 101, 115] = 2) := by show stateS [110, 111, 102, 114, 97, 109, 101, 115] = 2; decide
    go_enter Tryd.func51, Tryd.ntmps51
    go_wp2
    go_ret
    exact ⟨ret_int HR.out.symm, rfl⟩
  by_cases h7 : n.data.toList = [115, 116, 121, 108, 101]
  · obtain rfl := of_list h7
    clear h0 h1 h2 h3 h4 h5 h6 h7
    have HR : Hid (stateS [115, 116, 121, 108, 101] = 2) := by show stateS [115, 116, 121, 108, 101] = 2; decide
    go_enter Tryd.func51, Tryd.ntmps51
    go_wp2
    go_ret
    exact ⟨ret_int HR.out.symm, rfl⟩
  by_cases h8 : n.data.toList = [120, 109, 112]
  · obtain rfl := of_list h8
    clear h0 h1 h2 h3 h4 h5 h6 h7 h8
    have HR : Hid (stateS [120, 109, 112] = 2) := by show stateS [120, 109, 112] = 2; decide
    go_enter Tryd.func51, Tryd.ntmps51
    go_wp2
    go_ret
    exact ⟨ret_int HR.out.symm, rfl⟩
  have HR : Hid (stateS n.data.toList = 0) := by
    show stateS n.data.toList = 0
    unfold stateS memW state1W state2W state3W state4W
    simp [h0, h1, h2, h3, h4, h5, h6, h7, h8]
  have b0 := ne_beq h0
  have b1 := ne_beq h1
  have b2 := ne_beq h2
  have b3 := ne_beq h3
  have b4 := ne_beq h4
  have b5 := ne_beq h5
  have b6 := ne_beq h6
  have b7 := ne_beq h7
  have b8 := ne_beq h8
  clear h0 h1 h2 h3 h4 h5 h6 h7 h8
  go_enter Tryd.func51, Tryd.ntmps51
  go_wp2
  go_ret
  exact ⟨ret_int HR.out.symm, rfl⟩

set_option maxHeartbeats 4000000 in
set_option maxRecDepth 100000 in
theorem rscope_any (wh sp : Int) (n : ByteArray) (w : World) (hw0 : -9223372036854775808 ≤ wh) (hw1 : wh ≤ 9223372036854775807) :
    Calls Tryd.prog 37 #[.int .i64 wh, .int .i64 sp, .string n] w fun e w' => e = .returned (.bool (scopeS wh sp n.data.toList)) ∧ Below w.heap.size w w' := by
  by_cases h0 : wh < 0
  · have hf : Hid (scopeS wh sp n.data.toList = false) := by
      show scopeS wh sp n.data.toList = false
      unfold scopeS
      rw [if_pos (.inl h0)]
    go_enter Tryd.func37, Tryd.ntmps37
    go_wp2_with fail
    go_ret
    exact ⟨ret_bool hf.out.symm, Below.refl _ _⟩
  · by_cases h4 : 4 ≤ wh
    · have hf : Hid (scopeS wh sp n.data.toList = false) := by
        show scopeS wh sp n.data.toList = false
        unfold scopeS
        rw [if_pos (.inr h4)]
      go_enter Tryd.func37, Tryd.ntmps37
      go_wp2_with fail
      go_ret
      exact ⟨ret_bool hf.out.symm, Below.refl _ _⟩
    · by_cases hsp : sp = 0
      · subst hsp
        have hc : wh = 0 ∨ wh = 1 ∨ wh = 2 ∨ wh = 3 := by omega
        rcases hc with rfl | rfl | rfl | rfl
        · have ho := Lib.hid (lit_owns w scope0W (by decide))
          go_enter Tryd.func37, Tryd.ntmps37
          go_wp2_with fail
          refine (among_any _ n _ scope0W _ ho.out (by decide)).mono ?_
          rintro e w' ⟨rfl, rfl⟩
          go_wp2
          go_ret
          exact ⟨ret_bool rfl, (Below.refl _ w).alloc (Nat.le_refl _) _⟩
        · by_cases a0 : n.data.toList = [111, 108]
          · obtain rfl := of_list a0
            clear a0
            go_enter Tryd.func37, Tryd.ntmps37
            go_wp2_with fail
            go_ret
            exact ⟨ret_bool (by decide), Below.refl _ _⟩
          by_cases a1 : n.data.toList = [117, 108]
          · obtain rfl := of_list a1
            clear a0 a1
            go_enter Tryd.func37, Tryd.ntmps37
            go_wp2_with fail
            go_ret
            exact ⟨ret_bool (by decide), Below.refl _ _⟩
          have HR : Hid (scopeS 1 0 n.data.toList = memW scope0W n.data.toList) := by
            show memW scope1W n.data.toList = memW scope0W n.data.toList
            unfold memW scope1W scope0W
            simp [a0, a1]
          have b0 := ne_beq a0
          have b1 := ne_beq a1
          clear a0 a1
          have ho := Lib.hid (lit_owns w scope0W (by decide))
          go_enter Tryd.func37, Tryd.ntmps37
          go_wp2_with fail
          refine (among_any _ n _ scope0W _ ho.out (by decide)).mono ?_
          rintro e w' ⟨rfl, rfl⟩
          go_wp2
          go_ret
          exact ⟨ret_bool HR.out.symm, (Below.refl _ w).alloc (Nat.le_refl _) _⟩
        · by_cases a0 : n.data.toList = [98, 117, 116, 116, 111, 110]
          · obtain rfl := of_list a0
            clear a0
            go_enter Tryd.func37, Tryd.ntmps37
            go_wp2_with fail
            go_ret
            exact ⟨ret_bool (by decide), Below.refl _ _⟩
          have HR : Hid (scopeS 2 0 n.data.toList = memW scope0W n.data.toList) := by
            show memW scope2W n.data.toList = memW scope0W n.data.toList
            unfold memW scope2W scope0W
            simp [a0]
          have b0 := ne_beq a0
          clear a0
          have ho := Lib.hid (lit_owns w scope0W (by decide))
          go_enter Tryd.func37, Tryd.ntmps37
          go_wp2_with fail
          refine (among_any _ n _ scope0W _ ho.out (by decide)).mono ?_
          rintro e w' ⟨rfl, rfl⟩
          go_wp2
          go_ret
          exact ⟨ret_bool HR.out.symm, (Below.refl _ w).alloc (Nat.le_refl _) _⟩
        · by_cases a0 : n.data.toList = [104, 116, 109, 108]
          · obtain rfl := of_list a0
            clear a0
            go_enter Tryd.func37, Tryd.ntmps37
            go_wp2_with fail
            go_ret
            exact ⟨ret_bool (by decide), Below.refl _ _⟩
          by_cases a1 : n.data.toList = [116, 97, 98, 108, 101]
          · obtain rfl := of_list a1
            clear a0 a1
            go_enter Tryd.func37, Tryd.ntmps37
            go_wp2_with fail
            go_ret
            exact ⟨ret_bool (by decide), Below.refl _ _⟩
          by_cases a2 : n.data.toList = [116, 101, 109, 112, 108, 97, 116, 101]
          · obtain rfl := of_list a2
            clear a0 a1 a2
            go_enter Tryd.func37, Tryd.ntmps37
            go_wp2_with fail
            go_ret
            exact ⟨ret_bool (by decide), Below.refl _ _⟩
          have HR : Hid (scopeS 3 0 n.data.toList = false) := by
            show memW scope3W n.data.toList = false
            unfold memW scope3W
            simp [a0, a1, a2]
          have b0 := ne_beq a0
          have b1 := ne_beq a1
          have b2 := ne_beq a2
          clear a0 a1 a2
          go_enter Tryd.func37, Tryd.ntmps37
          go_wp2_with fail
          go_ret
          exact ⟨ret_bool HR.out.symm, Below.refl _ _⟩
      · have hsb : (sp != 0) = true := by simp [hsp]
        by_cases hw3 : wh = 3
        · subst hw3
          have hf : Hid (scopeS 3 sp n.data.toList = false) := by
            show scopeS 3 sp n.data.toList = false
            unfold scopeS
            rw [if_neg (by omega), if_pos hsp, if_neg (by omega)]
          clear hsp
          go_enter Tryd.func37, Tryd.ntmps37
          go_wp2_with fail
          go_ret
          exact ⟨ret_bool hf.out.symm, Below.refl _ _⟩
        · have hwb : (wh != 3) = true := by simp [hw3]
          have hf : Hid (scopeS wh sp n.data.toList = specialS sp n.data.toList) := by
            show scopeS wh sp n.data.toList = specialS sp n.data.toList
            unfold scopeS
            rw [if_neg (by omega), if_pos hsp, if_pos hw3]
          clear hsp hw3
          go_enter Tryd.func37, Tryd.ntmps37
          go_wp2_with fail
          refine (rspecial_any sp n _).mono ?_
          rintro e w1 ⟨rfl, b1⟩
          go_wp2_with fail
          go_ret
          exact ⟨ret_bool hf.out.symm, b1⟩
end Go.Proofs.YthgecembedjnaaaDoor
