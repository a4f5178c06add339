/- The law ChainsNames. -/
import Derived.Test.YtgaeecphohlmpaaDoorRef28
import Derived.Deep.Cut
set_option linter.unusedVariables false
namespace Go.Proofs.YtgaeecphohlmpaaDoor
open Go.RowKit

theorem words_same (va vb : Value) (a : List (List UInt8)) (w : World) (ha : SliceIn w va (strCells a)) (hb : SliceIn w vb (strCells a)) :
    Calls Tryd.prog 19 #[va, vb] w fun e w' => e = .returned (.bool true) ∧ Below w.heap.size w w' := by
  refine (words_any va vb a a w ha hb).mono ?_
  rintro e w' ⟨rfl, b⟩
  exact ⟨by rw [beq_self_eq_true], b⟩
theorem words_own {va vb : Value} {a : List (List UInt8)} {w : World} {B B' : Nat} (ha : w.ownsRow B 9 1 va a.length (strCells a)) (hb : w.ownsRow B' 9 1 vb a.length (strCells a)) :
    Calls Tryd.prog 19 #[va, vb] w fun e w' => e = .returned (.bool true) ∧ Below w.heap.size w w' :=
  words_same va vb a w (owns_slice ha (strCells_len a)) (owns_slice hb (strCells_len a))

theorem owns_free {w : World} {B n sz cap g : Nat} {e : TypeId} {v : Value} {xs : List Value} (h : w.ownsRow B e sz v n xs) (hv : v = .slice (some ⟨g, 0, none⟩) n cap) (k : Nat) : w.frozen? ⟨g, k, none⟩ = false := by
  rcases h.2 with ⟨rfl, _⟩ | ⟨g', cap', cur, rfl, hg, hh, hle, hcm, hcs, htake⟩
  · cases hv
  · injection hv with e1 _ e3
    injection e1 with e1
    injection e1 with e1 _
    subst e1
    exact Lib.frozen_of_heap hh k

set_option maxHeartbeats 3200000 in
set_option maxRecDepth 100000 in
theorem chainsNames_law (k : Int) (s : ByteArray) (m : Int) (w : World) (hm : MaxOk m w) (hT : ETab w) :
    Calls Tryd.prog 3 #[.int .i64 k, .string s] w fun e w' => e = .returned (.bool true) ∧ Below w.heap.size w w' := by
  by_cases hl : 300 < s.size
  · have hl' : (300 : Int) < s.size := by omega
    go_enter Tryd.func3, Tryd.ntmps3
    go_wp2_with (go_at_call 15; refine (falls_any m w hm hT).mono ?_; rintro e w1 ⟨rfl, b1⟩)
    go_ret
    exact ⟨by exact rfl, b1⟩
  · have hl' : ¬ (300 : Int) < s.size := by omega
    obtain ⟨nm, hnm⟩ : ∃ nm : ByteArray, (⟨(effS k).toArray⟩ : ByteArray) = nm := ⟨_, rfl⟩
    have HE : Hid (∀ W, ETab W → Calls Tryd.prog 17 #[.int .i64 k] W fun e w' => e = .returned (.string nm) ∧ w' = W) := fun W h => by rw [← hnm]; exact eff_any k W h
    have HR : Hid (∀ W, Calls Tryd.prog 18 #[.int .i64 k] W fun e w' => e = .returned (.string nm) ∧ Below W.heap.size W w') := fun W => by rw [← hnm]; exact reff_any k W
    have hq : (nm.toList != nm.toList) = false := by simp
    have hcl := Lib.hid (chain_len s.data.toList)
    have HC := Lib.hid (chain_any s)
    have HRC := Lib.hid (rchain_any s)
    have hpos : 0 < (chainL s.data.toList).length := by unfold chainL; simp
    generalize chainL s.data.toList = C at *
    clear hnm hl
    go_enter Tryd.func3, Tryd.ntmps3
    go_wp2_with fail
    refine (HC.out _).mono ?_
    rintro e w1 ⟨v, rfl, o1, b1⟩
    have HT1 := Lib.hid (hT.below b1)
    have HM0 := Lib.hid hm
    have HT0 := Lib.hid hT
    have hs1 := b1.size
    obtain ⟨g, cp, hv, _, _, hg1, hg2, _⟩ := owns_cell o1 (j := 0) hpos
    subst hv
    have hcl5 := hcl.out
    have O1 := Lib.hid o1
    have B1 := Lib.hid b1
    clear o1 b1 hm hT
    go_wp2_with (first
      | (go_at_call 19; refine (words_own (owns_below O1.out (B2.out.trans (B3.out.mono B2.out.size))) O3.out).mono ?_; rintro e w4 ⟨rfl, b4⟩; have B4 := Lib.hid b4; clear b4)
      | (go_at_call 20; refine (HRC.out _).mono ?_; rintro e w3 ⟨v3, rfl, o3, b3⟩; have O3 := Lib.hid o3; have B3 := Lib.hid b3; clear o3 b3)
      | (go_at_call 18; refine (HR.out _).mono ?_; rintro e w2 ⟨rfl, b2⟩; have B2 := Lib.hid b2; clear b2)
      | (go_at_call 17; refine (HE.out _ HT1.out).mono ?_; rintro e w1' ⟨rfl, rfl⟩))
    have B14 : Below w.heap.size w w4 := B1.out.trans (((B2.out.trans (B3.out.mono B2.out.size)).trans (B4.out.mono (Nat.le_trans B2.out.size B3.out.size))).mono hs1)
    have hs4 := B14.size
    have O4 : w4.ownsRow w.heap.size 9 1 (.slice (some ⟨g, 0, none⟩) C.length cp) C.length (strCells C) := owns_below (owns_below (owns_below O1.out B2.out) B3.out) B4.out
    clear O1 O3 B1 B2 B3 B4 HT1
    go_loopw [6] (fun i wr => ∃ (j : Nat) (xs : List Value), j ≤ C.length ∧ i = .int .i64 j ∧ wr.ownsRow w.heap.size 9 1 (.slice (some ⟨g, 0, none⟩) C.length cp) C.length xs ∧ Below w.heap.size w wr) (fun i _ => C.length - (intOf i).toNat)
    case atStart => exact ⟨0, _, Nat.zero_le _, rfl, O4, B14⟩
    case round =>
      obtain ⟨j, xs, hj, rfl, hown, hb⟩ := hrel
      by_cases hlt : j < C.length
      · obtain ⟨_, _, _, _, _, hg1', hg2', rr⟩ := owns_cell hown (j := 0) hpos
        have hxl := hown.1
        obtain ⟨u, hu⟩ : ∃ u, xs[j]? = some u := ⟨_, List.getElem?_eq_getElem (by omega)⟩
        have c0 := rr j u hu
        have f0 := owns_free hown rfl j
        clear rr hu hxl
        go_wp2_with fail
        go_roundw
        case rel => exact ⟨j + 1, _, by omega, by go_num, owns_set hown rfl _, hb.setCell hg1' _⟩
        case measure => simp [intOf]; omega
      · have hmw := HM0.out.below hb
        have hTw := HT0.out.below hb
        have hsw := hb.size
        have HB := Lib.hid hb
        clear hb hown O4 B14
        go_wp2_with (first
          | (go_at_call 15; refine (falls_any m _ ((hmw.below B5.out).below ((B6.out.trans (B7.out.mono B6.out.size)).mono (Nat.le_refl _))) ((hTw.below B5.out).below ((B6.out.trans (B7.out.mono B6.out.size))))).mono ?_; rintro e w8 ⟨rfl, b8⟩; have B8 := Lib.hid b8; clear b8)
          | (go_at_call 19; refine (words_own (owns_below O5.out B6.out) O6.out).mono ?_; rintro e w7 ⟨rfl, b7⟩; have B7 := Lib.hid b7; clear b7)
          | (go_at_call 20; refine (HRC.out _).mono ?_; rintro e w6 ⟨v6, rfl, o6, b6⟩; have O6 := Lib.hid o6; have B6 := Lib.hid b6; clear o6 b6)
          | (go_at_call 16; refine (HC.out _).mono ?_; rintro e w5 ⟨v5, rfl, o5, b5⟩; have O5 := Lib.hid o5; have B5 := Lib.hid b5; clear o5 b5))
        go_ret
        exact ⟨by exact rfl, HB.out.trans ((B5.out.trans ((B6.out.trans ((B7.out.trans (B8.out.mono B7.out.size)).mono B6.out.size)).mono B5.out.size)).mono hsw)⟩
end Go.Proofs.YtgaeecphohlmpaaDoor
