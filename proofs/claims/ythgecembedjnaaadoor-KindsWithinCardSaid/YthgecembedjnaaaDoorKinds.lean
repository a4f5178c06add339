/- The contracts of layer 13's functions: the program's. -/
import Derived.Test.YthgecembedjnaaaDoorLists7
import Derived.Test.YthgecembedjnaaaDoorAscii6
set_option linter.unusedVariables false
namespace Go.Proofs.YthgecembedjnaaaDoor
open Go.RowKit

theorem cat3 (n : ByteArray) : ((⟨#[32]⟩ : ByteArray) ++ n ++ ⟨#[32]⟩).data.toList = 32 :: (n.data.toList ++ [32]) := by
  simp [ByteArray.data_append]

set_option maxHeartbeats 1000000 in
theorem has_any (l n : ByteArray) (m : Int) (w : World) (hl : l.size ≤ 1000000) (hn : n.size ≤ 1099511627776) (hm : MaxOk m w) :
    Calls Tryd.prog 67 #[.string l, .string n] w fun e w' => e = .returned (.bool (hasL l.data.toList n.data.toList)) ∧ w = w' := by
  have HM := Lib.hid hm
  clear hm
  by_cases h0 : n.data.toList = []
  · have hE : n.toList.isEmpty = true := empty_t rfl h0
    have hf : Hid (hasL l.data.toList n.data.toList = false) := by
      show hasL l.data.toList n.data.toList = false
      rw [h0]; rfl
    clear h0
    go_enter Tryd.func67, Tryd.ntmps67
    go_wp2_with fail
    go_ret
    exact ⟨ret_bool hf.out.symm, rfl⟩
  · have hE : n.toList.isEmpty = false := empty_f rfl h0
    by_cases hb : decide (0 ≤ Lib.indexByte n.data.toList 32) = true
    · have hf : Hid (hasL l.data.toList n.data.toList = false) := by
        show hasL l.data.toList n.data.toList = false
        unfold hasL
        rw [hb]
        simp
      clear h0
      go_enter Tryd.func67, Tryd.ntmps67
      go_wp2_with fail
      refine (Tryd.strings_Contains_one n 32 _).mono ?_
      rintro e w' ⟨rfl, rfl⟩
      rw [hb]
      go_wp2_with fail
      go_ret
      exact ⟨ret_bool hf.out.symm, rfl⟩
    · have hb' : decide (0 ≤ Lib.indexByte n.data.toList 32) = false := by simpa using hb
      have hf : Hid (hasL l.data.toList n.data.toList = Lib.contains l.data.toList (32 :: (n.data.toList ++ [32]))) := by
        show hasL l.data.toList n.data.toList = _
        unfold hasL
        rw [hb']
        have : n.data.toList.isEmpty = false := by simpa using h0
        rw [this]
        simp
      clear h0 hb
      go_enter Tryd.func67, Tryd.ntmps67
      go_wp2_with fail
      refine (Tryd.strings_Contains_one n 32 _).mono ?_
      rintro e w' ⟨rfl, rfl⟩
      rw [hb']
      go_wp2_with fail
      refine (Tryd.strings_Contains l _ m _ (by omega) HM.out).mono ?_
      rintro e w' ⟨rfl, rfl⟩
      rw [cat3, ← hf.out]
      go_wp2_with fail
      go_ret
      exact ⟨rfl, rfl⟩

def specialC : Array Value := #[.string ⟨special0B.toArray⟩, .string ⟨special1B.toArray⟩, .string ⟨special2B.toArray⟩]
def scopeC : Array Value := #[.string ⟨scope0B.toArray⟩, .string ⟨scope1B.toArray⟩, .string ⟨scope2B.toArray⟩, .string ⟨scope3B.toArray⟩]
def stateC : Array Value := #[.string ⟨state0B.toArray⟩, .string ⟨state1B.toArray⟩, .string ⟨state2B.toArray⟩, .string ⟨state3B.toArray⟩, .string ⟨state4B.toArray⟩]
/-- The three tables of layer 13 hold what their initialisers lay. -/
structure KTabs (w : World) : Prop where
  sp : ∃ t fr, w.heap[(1 : Nat)]? = some (.cells specialC t fr)
  sc : ∃ t fr, w.heap[(0 : Nat)]? = some (.cells scopeC t fr)
  st : ∃ t fr, w.heap[(2 : Nat)]? = some (.cells stateC t fr)
theorem cell_below {w w' : World} {a : Addr} {v : Value} (h : w.cell? a = some v) (hb : Below w.heap.size w w') : w'.cell? a = some v :=
  (hb.cell (p := a) (World.block_lt_of_cell? w _ h)).trans h
theorem KTabs.below {w w' : World} (h : KTabs w) (hb : Below w.heap.size w w') : KTabs w' := by
  have f : ∀ {g : Nat} {cs : Array Value}, (∃ t fr, w.heap[g]? = some (.cells cs t fr)) → ∃ t fr, w'.heap[g]? = some (.cells cs t fr) := by
    rintro g cs ⟨t, fr, hh⟩
    exact ⟨t, fr, (hb.block g (Array.getElem?_eq_some_iff.1 hh).1).trans hh⟩
  exact ⟨f h.sp, f h.sc, f h.st⟩
theorem cell_of_tab {w : World} {g : Nat} {cs : Array Value} (h : ∃ t fr, w.heap[g]? = some (.cells cs t fr)) (j : Nat) : w.cell? ⟨g, j, none⟩ = cs[j]? := by
  obtain ⟨t, fr, hh⟩ := h
  exact Lib.cell_of_heap hh j
theorem KTabs.s0 {w : World} (h : KTabs w) : w.cell? ⟨1, 0, none⟩ = some (.string ⟨special0B.toArray⟩) := cell_of_tab h.sp 0
theorem KTabs.s1 {w : World} (h : KTabs w) : w.cell? ⟨1, 1, none⟩ = some (.string ⟨special1B.toArray⟩) := cell_of_tab h.sp 1
theorem KTabs.s2 {w : World} (h : KTabs w) : w.cell? ⟨1, 2, none⟩ = some (.string ⟨special2B.toArray⟩) := cell_of_tab h.sp 2
theorem KTabs.c0 {w : World} (h : KTabs w) : w.cell? ⟨0, 0, none⟩ = some (.string ⟨scope0B.toArray⟩) := cell_of_tab h.sc 0
theorem KTabs.c1 {w : World} (h : KTabs w) : w.cell? ⟨0, 1, none⟩ = some (.string ⟨scope1B.toArray⟩) := cell_of_tab h.sc 1
theorem KTabs.c2 {w : World} (h : KTabs w) : w.cell? ⟨0, 2, none⟩ = some (.string ⟨scope2B.toArray⟩) := cell_of_tab h.sc 2
theorem KTabs.c3 {w : World} (h : KTabs w) : w.cell? ⟨0, 3, none⟩ = some (.string ⟨scope3B.toArray⟩) := cell_of_tab h.sc 3

theorem has_list {L : List UInt8} {W : List (List UInt8)} (hW : ∀ name, hasL L name = memW W name) (hlen : L.length ≤ 1000000) (n : ByteArray) (m : Int) (w : World) (hn : n.size ≤ 1099511627776) (hm : MaxOk m w) :
    Calls Tryd.prog 67 #[.string ⟨L.toArray⟩, .string n] w fun e w' => e = .returned (.bool (memW W n.data.toList)) ∧ w = w' := by
  refine (has_any ⟨L.toArray⟩ n m w hlen hn hm).mono ?_
  rintro e w' ⟨rfl, rfl⟩
  refine ⟨ret_bool ?_, rfl⟩
  exact hW n.data.toList

set_option maxHeartbeats 2000000 in
set_option maxRecDepth 100000 in
theorem special_any (sp : Int) (n : ByteArray) (m : Int) (w : World) (hs0 : -9223372036854775808 ≤ sp) (hs1 : sp ≤ 9223372036854775807) (hn : n.size ≤ 1099511627776) (hm : MaxOk m w) (hk : KTabs w) :
    Calls Tryd.prog 38 #[.int .i64 sp, .string n] w fun e w' => e = .returned (.bool (specialS sp n.data.toList)) ∧ w = w' := by
  have HM := Lib.hid hm
  clear hm
  by_cases h0 : sp < 0
  · have hf : Hid (specialS sp n.data.toList = false) := by
      show specialS sp n.data.toList = false
      unfold specialS
      rw [if_neg (by omega), if_neg (by omega), if_neg (by omega)]
    go_enter Tryd.func38, Tryd.ntmps38
    go_wp2_with fail
    go_ret
    exact ⟨ret_bool hf.out.symm, rfl⟩
  · by_cases h3 : 3 ≤ sp
    · have hf : Hid (specialS sp n.data.toList = false) := by
        show specialS sp n.data.toList = false
        unfold specialS
        rw [if_neg (by omega), if_neg (by omega), if_neg (by omega)]
      go_enter Tryd.func38, Tryd.ntmps38
      go_wp2_with fail
      go_ret
      exact ⟨ret_bool hf.out.symm, rfl⟩
    · have hc : sp = 0 ∨ sp = 1 ∨ sp = 2 := by omega
      rcases hc with rfl | rfl | rfl
      · have cc := hk.s0
        clear hk
        go_enter Tryd.func38, Tryd.ntmps38
        go_wp2_with fail
        refine (has_list special0_has (by decide) n m _ hn HM.out).mono ?_
        rintro e w' ⟨rfl, rfl⟩
        go_wp2_with fail
        go_ret
        exact ⟨ret_bool rfl, rfl⟩
      · have cc := hk.s1
        clear hk
        go_enter Tryd.func38, Tryd.ntmps38
        go_wp2_with fail
        refine (has_list special1_has (by decide) n m _ hn HM.out).mono ?_
        rintro e w' ⟨rfl, rfl⟩
        go_wp2_with fail
        go_ret
        exact ⟨ret_bool rfl, rfl⟩
      · have cc := hk.s2
        clear hk
        go_enter Tryd.func38, Tryd.ntmps38
        go_wp2_with fail
        refine (has_list special2_has (by decide) n m _ hn HM.out).mono ?_
        rintro e w' ⟨rfl, rfl⟩
        go_wp2_with fail
        go_ret
        exact ⟨ret_bool rfl, rfl⟩

theorem formatting_any (n : ByteArray) (m : Int) (w : World) (hn : n.size ≤ 1099511627776) (hm : MaxOk m w) :
    Calls Tryd.prog 40 #[.string n] w fun e w' => e = .returned (.bool (memW formattingW n.data.toList)) ∧ w = w' := by
  have HM := Lib.hid hm
  clear hm
  go_enter Tryd.func40, Tryd.ntmps40
  go_wp2_with fail
  refine (has_list formatting_has (by decide) n m _ hn HM.out).mono ?_
  rintro e w' ⟨rfl, rfl⟩
  go_wp2_with fail
  go_ret
  exact ⟨ret_bool rfl, rfl⟩

theorem void_any (n : ByteArray) (m : Int) (w : World) (hn : n.size ≤ 1099511627776) (hm : MaxOk m w) :
    Calls Tryd.prog 42 #[.string n] w fun e w' => e = .returned (.bool (memW voidW n.data.toList)) ∧ w = w' := by
  have HM := Lib.hid hm
  clear hm
  go_enter Tryd.func42, Tryd.ntmps42
  go_wp2_with fail
  refine (has_list void_has (by decide) n m _ hn HM.out).mono ?_
  rintro e w' ⟨rfl, rfl⟩
  go_wp2_with fail
  go_ret
  exact ⟨ret_bool rfl, rfl⟩

theorem implied_any (n : ByteArray) (m : Int) (w : World) (hn : n.size ≤ 1099511627776) (hm : MaxOk m w) :
    Calls Tryd.prog 44 #[.string n] w fun e w' => e = .returned (.bool (memW impliedW n.data.toList)) ∧ w = w' := by
  have HM := Lib.hid hm
  clear hm
  go_enter Tryd.func44, Tryd.ntmps44
  go_wp2_with fail
  refine (has_list implied_has (by decide) n m _ hn HM.out).mono ?_
  rintro e w' ⟨rfl, rfl⟩
  go_wp2_with fail
  go_ret
  exact ⟨ret_bool rfl, rfl⟩

theorem thorough_any (n : ByteArray) (m : Int) (w : World) (hn : n.size ≤ 1099511627776) (hm : MaxOk m w) :
    Calls Tryd.prog 46 #[.string n] w fun e w' => e = .returned (.bool (memW thoroughW n.data.toList)) ∧ w = w' := by
  have HM := Lib.hid hm
  clear hm
  go_enter Tryd.func46, Tryd.ntmps46
  go_wp2_with fail
  refine (has_list thorough_has (by decide) n m _ hn HM.out).mono ?_
  rintro e w' ⟨rfl, rfl⟩
  go_wp2_with fail
  go_ret
  exact ⟨ret_bool rfl, rfl⟩

theorem heading_any (n : ByteArray) (m : Int) (w : World) (hn : n.size ≤ 1099511627776) (hm : MaxOk m w) :
    Calls Tryd.prog 48 #[.string n] w fun e w' => e = .returned (.bool (memW headingW n.data.toList)) ∧ w = w' := by
  have HM := Lib.hid hm
  clear hm
  go_enter Tryd.func48, Tryd.ntmps48
  go_wp2_with fail
  refine (has_list heading_has (by decide) n m _ hn HM.out).mono ?_
  rintro e w' ⟨rfl, rfl⟩
  go_wp2_with fail
  go_ret
  exact ⟨ret_bool rfl, rfl⟩

set_option maxHeartbeats 2000000 in
set_option maxRecDepth 100000 in
theorem scope_any (wh sp : Int) (n : ByteArray) (m : Int) (w : World) (hw0 : -9223372036854775808 ≤ wh) (hw1 : wh ≤ 9223372036854775807) (hs0 : -9223372036854775808 ≤ sp) (hs1 : sp ≤ 9223372036854775807) (hn : n.size ≤ 1099511627776) (hm : MaxOk m w) (hk : KTabs w) :
    Calls Tryd.prog 36 #[.int .i64 wh, .int .i64 sp, .string n] w fun e w' => e = .returned (.bool (scopeS wh sp n.data.toList)) ∧ w = w' := by
  have HM := Lib.hid hm
  have HK := Lib.hid hk
  clear hm
  by_cases h0 : wh < 0
  · clear hk
    have hf : Hid (scopeS wh sp n.data.toList = false) := by
      show scopeS wh sp n.data.toList = false
      unfold scopeS
      rw [if_pos (.inl h0)]
    go_enter Tryd.func36, Tryd.ntmps36
    go_wp2_with fail
    go_ret
    exact ⟨ret_bool hf.out.symm, rfl⟩
  · by_cases h4 : 4 ≤ wh
    · clear hk
      have hf : Hid (scopeS wh sp n.data.toList = false) := by
        show scopeS wh sp n.data.toList = false
        unfold scopeS
        rw [if_pos (.inr h4)]
      go_enter Tryd.func36, Tryd.ntmps36
      go_wp2_with fail
      go_ret
      exact ⟨ret_bool hf.out.symm, rfl⟩
    · by_cases hsp : sp = 0
      · subst hsp
        have hc : wh = 0 ∨ wh = 1 ∨ wh = 2 ∨ wh = 3 := by omega
        rcases hc with rfl | rfl | rfl | rfl
        · have cc := hk.c0
          clear hk
          go_enter Tryd.func36, Tryd.ntmps36
          go_wp2_with fail
          refine (has_list scope0_has (by decide) n m _ hn HM.out).mono ?_
          rintro e w' ⟨rfl, rfl⟩
          go_wp2_with fail
          go_ret
          exact ⟨ret_bool rfl, rfl⟩
        · have cc := hk.c1
          clear hk
          go_enter Tryd.func36, Tryd.ntmps36
          go_wp2_with fail
          refine (has_list scope1_has (by decide) n m _ hn HM.out).mono ?_
          rintro e w' ⟨rfl, rfl⟩
          go_wp2_with fail
          go_ret
          exact ⟨ret_bool rfl, rfl⟩
        · have cc := hk.c2
          clear hk
          go_enter Tryd.func36, Tryd.ntmps36
          go_wp2_with fail
          refine (has_list scope2_has (by decide) n m _ hn HM.out).mono ?_
          rintro e w' ⟨rfl, rfl⟩
          go_wp2_with fail
          go_ret
          exact ⟨ret_bool rfl, rfl⟩
        · have cc := hk.c3
          clear hk
          go_enter Tryd.func36, Tryd.ntmps36
          go_wp2_with fail
          refine (has_list scope3_has (by decide) n m _ hn HM.out).mono ?_
          rintro e w' ⟨rfl, rfl⟩
          go_wp2_with fail
          go_ret
          exact ⟨ret_bool rfl, rfl⟩
      · have hsb : (sp != 0) = true := by simp [hsp]
        clear hk
        by_cases hw3 : wh = 3
        · subst hw3
          have hf : Hid (scopeS 3 sp n.data.toList = false) := by
            show scopeS 3 sp n.data.toList = false
            unfold scopeS
            rw [if_neg (by omega), if_pos hsp, if_neg (by omega)]
          clear hsp
          go_enter Tryd.func36, Tryd.ntmps36
          go_wp2_with fail
          go_ret
          exact ⟨ret_bool hf.out.symm, rfl⟩
        · have hwb : (wh != 3) = true := by simp [hw3]
          have hf : Hid (scopeS wh sp n.data.toList = specialS sp n.data.toList) := by
            show scopeS wh sp n.data.toList = specialS sp n.data.toList
            unfold scopeS
            rw [if_neg (by omega), if_pos hsp, if_pos hw3]
          clear hsp hw3
          go_enter Tryd.func36, Tryd.ntmps36
          go_wp2_with fail
          refine (special_any sp n m _ hs0 hs1 hn HM.out HK.out).mono ?_
          rintro e w' ⟨rfl, rfl⟩
          go_wp2_with fail
          go_ret
          exact ⟨ret_bool hf.out.symm, rfl⟩

theorem idx_state0 (w : World) : (Instr.index 62 (.agg stateC) (.int .i64 0)).run Tryd.prog w = .ok (.string ⟨state0B.toArray⟩) w := by kernel_rfl
theorem idx_state1 (w : World) : (Instr.index 62 (.agg stateC) (.int .i64 1)).run Tryd.prog w = .ok (.string ⟨state1B.toArray⟩) w := by kernel_rfl
theorem idx_state2 (w : World) : (Instr.index 62 (.agg stateC) (.int .i64 2)).run Tryd.prog w = .ok (.string ⟨state2B.toArray⟩) w := by kernel_rfl
theorem idx_state3 (w : World) : (Instr.index 62 (.agg stateC) (.int .i64 3)).run Tryd.prog w = .ok (.string ⟨state3B.toArray⟩) w := by kernel_rfl
theorem idx_state4 (w : World) : (Instr.index 62 (.agg stateC) (.int .i64 4)).run Tryd.prog w = .ok (.string ⟨state4B.toArray⟩) w := by kernel_rfl

def stateW (k : Nat) : List (List UInt8) := if k = 0 then state0W else if k = 1 then state1W else if k = 2 then state2W else if k = 3 then state3W else state4W
theorem stateS_hit {n : List UInt8} {k : Nat} (hk : k < 5) (h : ∀ j, j < k → memW (stateW j) n = false) (hm : memW (stateW k) n = true) : (k : Int) = stateS n := by
  have hc : k = 0 ∨ k = 1 ∨ k = 2 ∨ k = 3 ∨ k = 4 := by omega
  have h1 := h 1; have h2 := h 2; have h3 := h 3
  unfold stateS
  rcases hc with rfl | rfl | rfl | rfl | rfl
  · simp [stateW, memW, state0W] at hm
  all_goals simp_all [stateW]
theorem stateS_none {n : List UInt8} (h : ∀ j, j < 5 → memW (stateW j) n = false) : (0 : Int) = stateS n := by
  have h1 := h 1 (by decide); have h2 := h 2 (by decide); have h3 := h 3 (by decide); have h4 := h 4 (by decide)
  unfold stateS
  simp_all [stateW]
theorem ret_int {a b : Int} (h : a = b) : Ending.returned (.int .i64 a) = .returned (.int .i64 b) := by rw [h]

set_option maxHeartbeats 2000000 in
set_option maxRecDepth 100000 in
theorem state_any (n : ByteArray) (m : Int) (w : World) (hn : n.size ≤ 1099511627776) (hm : MaxOk m w) (hk : KTabs w) :
    Calls Tryd.prog 50 #[.string n] w fun e w' => e = .returned (.int .i64 (stateS n.data.toList)) ∧ w = w' := by
  have HM := Lib.hid hm
  obtain ⟨tt, fr, hst⟩ := hk.st
  clear hm hk
  go_enter Tryd.func50, Tryd.ntmps50
  go_wp2_with (refine wpList_load_row rfl 62 _ rfl 2 rfl tt _ fr _ hst Tryd.underlying62 rfl (by kernel_rfl) ?_)
  clear hst
  go_loop [6] (fun i => ∃ k : Nat, k ≤ 5 ∧ i = .int .i64 k ∧ Hid (∀ j, j < k → memW (stateW j) n.data.toList = false)) (fun i => 5 - (intOf i).toNat)
  case atStart => exact ⟨0, by omega, rfl, fun j hj => by omega⟩
  case round =>
    obtain ⟨k, hk, rfl, hno⟩ := hrel
    by_cases hlt : k < 5
    · have hc : k = 0 ∨ k = 1 ∨ k = 2 ∨ k = 3 ∨ k = 4 := by omega
      rcases hc with rfl | rfl | rfl | rfl | rfl
      · have ix := idx_state0
        by_cases hm : memW state0W n.data.toList = true
        · have HR := Lib.hid (stateS_hit (by decide) hno.out hm)
          go_wp2_with (go_at_call 67; refine (has_list state0_has (by decide) n m _ hn HM.out).mono ?_; rintro e w' ⟨rfl, rfl⟩)
          go_ret
          exact ⟨ret_int HR.out, rfl⟩
        · have hm0 : memW state0W n.data.toList = false := by simpa using hm
          have HN : Hid (∀ j, j < 0 + 1 → memW (stateW j) n.data.toList = false) := fun j hj => if h : j = 0 then by subst h; exact hm0 else hno.out j (by omega)
          clear hm
          go_wp2_with (go_at_call 67; refine (has_list state0_has (by decide) n m _ hn HM.out).mono ?_; rintro e w' ⟨rfl, rfl⟩)
          exact ⟨⟨1, by omega, rfl, HN.out⟩, by simp [intOf]⟩
      · have ix := idx_state1
        by_cases hm : memW state1W n.data.toList = true
        · have HR := Lib.hid (stateS_hit (by decide) hno.out hm)
          go_wp2_with (go_at_call 67; refine (has_list state1_has (by decide) n m _ hn HM.out).mono ?_; rintro e w' ⟨rfl, rfl⟩)
          go_ret
          exact ⟨ret_int HR.out, rfl⟩
        · have hm0 : memW state1W n.data.toList = false := by simpa using hm
          have HN : Hid (∀ j, j < 1 + 1 → memW (stateW j) n.data.toList = false) := fun j hj => if h : j = 1 then by subst h; exact hm0 else hno.out j (by omega)
          clear hm
          go_wp2_with (go_at_call 67; refine (has_list state1_has (by decide) n m _ hn HM.out).mono ?_; rintro e w' ⟨rfl, rfl⟩)
          exact ⟨⟨2, by omega, rfl, HN.out⟩, by simp [intOf]⟩
      · have ix := idx_state2
        by_cases hm : memW state2W n.data.toList = true
        · have HR := Lib.hid (stateS_hit (by decide) hno.out hm)
          go_wp2_with (go_at_call 67; refine (has_list state2_has (by decide) n m _ hn HM.out).mono ?_; rintro e w' ⟨rfl, rfl⟩)
          go_ret
          exact ⟨ret_int HR.out, rfl⟩
        · have hm0 : memW state2W n.data.toList = false := by simpa using hm
          have HN : Hid (∀ j, j < 2 + 1 → memW (stateW j) n.data.toList = false) := fun j hj => if h : j = 2 then by subst h; exact hm0 else hno.out j (by omega)
          clear hm
          go_wp2_with (go_at_call 67; refine (has_list state2_has (by decide) n m _ hn HM.out).mono ?_; rintro e w' ⟨rfl, rfl⟩)
          exact ⟨⟨3, by omega, rfl, HN.out⟩, by simp [intOf]⟩
      · have ix := idx_state3
        by_cases hm : memW state3W n.data.toList = true
        · have HR := Lib.hid (stateS_hit (by decide) hno.out hm)
          go_wp2_with (go_at_call 67; refine (has_list state3_has (by decide) n m _ hn HM.out).mono ?_; rintro e w' ⟨rfl, rfl⟩)
          go_ret
          exact ⟨ret_int HR.out, rfl⟩
        · have hm0 : memW state3W n.data.toList = false := by simpa using hm
          have HN : Hid (∀ j, j < 3 + 1 → memW (stateW j) n.data.toList = false) := fun j hj => if h : j = 3 then by subst h; exact hm0 else hno.out j (by omega)
          clear hm
          go_wp2_with (go_at_call 67; refine (has_list state3_has (by decide) n m _ hn HM.out).mono ?_; rintro e w' ⟨rfl, rfl⟩)
          exact ⟨⟨4, by omega, rfl, HN.out⟩, by simp [intOf]⟩
      · have ix := idx_state4
        by_cases hm : memW state4W n.data.toList = true
        · have HR := Lib.hid (stateS_hit (by decide) hno.out hm)
          go_wp2_with (go_at_call 67; refine (has_list state4_has (by decide) n m _ hn HM.out).mono ?_; rintro e w' ⟨rfl, rfl⟩)
          go_ret
          exact ⟨ret_int HR.out, rfl⟩
        · have hm0 : memW state4W n.data.toList = false := by simpa using hm
          have HN : Hid (∀ j, j < 4 + 1 → memW (stateW j) n.data.toList = false) := fun j hj => if h : j = 4 then by subst h; exact hm0 else hno.out j (by omega)
          clear hm
          go_wp2_with (go_at_call 67; refine (has_list state4_has (by decide) n m _ hn HM.out).mono ?_; rintro e w' ⟨rfl, rfl⟩)
          exact ⟨⟨5, by omega, rfl, HN.out⟩, by simp [intOf]⟩
    · have e : k = 5 := by omega
      subst e
      have HR := Lib.hid (stateS_none hno.out)
      go_wp2
      go_ret
      exact ⟨ret_int HR.out, rfl⟩
end Go.Proofs.YthgecembedjnaaaDoor
