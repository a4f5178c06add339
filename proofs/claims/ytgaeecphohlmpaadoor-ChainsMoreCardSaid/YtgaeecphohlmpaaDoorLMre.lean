/- The law ChainsMore. -/
import Derived.Test.YtgaeecphohlmpaaDoorMor
import Derived.Deep.Cut
set_option linter.unusedVariables false
namespace Go.Proofs.YtgaeecphohlmpaaDoor
open Go.RowKit

def moreC : Array Value := #[.string ⟨#[100, 101, 102, 97, 117, 108, 116, 45, 115, 114, 99]⟩, .string ⟨#[115, 99, 114, 105, 112, 116, 45, 115, 114, 99]⟩, .string ⟨#[115, 99, 114, 105, 112, 116, 45, 115, 114, 99, 45, 101, 108, 101, 109]⟩, .string ⟨#[115, 99, 114, 105, 112, 116, 45, 115, 114, 99, 45, 97, 116, 116, 114]⟩, .string ⟨#[115, 116, 121, 108, 101, 45, 115, 114, 99]⟩, .string ⟨#[115, 116, 121, 108, 101, 45, 115, 114, 99, 45, 101, 108, 101, 109]⟩, .string ⟨#[105, 109, 103, 45, 115, 114, 99]⟩, .string ⟨#[99, 104, 105, 108, 100, 45, 115, 114, 99]⟩, .string ⟨#[102, 114, 97, 109, 101, 45, 115, 114, 99]⟩, .string ⟨#[120]⟩]
theorem more_at : ∀ j : Fin 10, moreC[j.val]? = some (.string ⟨(moreN.getD j.val []).toArray⟩) := by
  intro j
  match j with
  | ⟨0, _⟩ => rfl
  | ⟨1, _⟩ => rfl
  | ⟨2, _⟩ => rfl
  | ⟨3, _⟩ => rfl
  | ⟨4, _⟩ => rfl
  | ⟨5, _⟩ => rfl
  | ⟨6, _⟩ => rfl
  | ⟨7, _⟩ => rfl
  | ⟨8, _⟩ => rfl
  | ⟨9, _⟩ => rfl
theorem idx_hit {C : List (List UInt8)} {x : List UInt8} {j : Nat} (hj : j < C.length) (h : C[j] = x) : j + (C.drop j).idxOf x = j := by
  rw [List.drop_eq_getElem_cons hj, h]; simp
theorem idx_miss {C : List (List UInt8)} {x : List UInt8} {j : Nat} (hj : j < C.length) (h : ¬ C[j] = x) : j + (C.drop j).idxOf x = (j + 1) + (C.drop (j + 1)).idxOf x := by
  rw [List.drop_eq_getElem_cons hj, List.idxOf_cons, show (C[j] == x) = false by rw [beq_eq_false_iff_ne]; exact h]
  show j + ((C.drop (j + 1)).idxOf x + 1) = _
  omega
theorem idx_le {C : List (List UInt8)} {x : List UInt8} (j : Nat) : (C.drop j).idxOf x ≤ C.length := by
  have := List.idxOf_le_length (a := x) (l := C.drop j)
  simp at this
  omega

set_option maxHeartbeats 3200000 in
set_option maxRecDepth 100000 in
theorem chainsMore_law (s : ByteArray) (x y m : Int) (w : World) (hx : 0 ≤ x ∧ x ≤ 255) (hy : 0 ≤ y ∧ y ≤ 255) (hm : MaxOk m w) (hT : ETab w) :
    Calls Tryd.prog 7 #[.string s, .int .u8 x, .int .u8 y] w fun e w' => e = .returned (.bool true) ∧ Below w.heap.size w w' := by
  by_cases hl : 300 < s.size
  · have hl' : (300 : Int) < s.size := by omega
    go_enter Tryd.func7, Tryd.ntmps7
    go_wp2_with (go_at_call 15; refine (falls_any m w hm hT).mono ?_; rintro e w1 ⟨rfl, b1⟩)
    go_ret
    exact ⟨by exact rfl, b1⟩
  · have hl' : ¬ (300 : Int) < s.size := by omega
    obtain ⟨q, hq⟩ : ∃ q : Nat, x % 10 = (q : Int) := ⟨(x % 10).toNat, by omega⟩
    have hq10 : q < 10 := by omega
    have hqi : (q : Int) < 10 := by omega
    have hq0 : (0 : Int) ≤ q := by omega
    obtain ⟨r, hr⟩ : ∃ r : Nat, y % 16 = (r : Int) := ⟨(y % 16).toNat, by omega⟩
    have hr16 : r < 16 := by omega
    have hri : (r : Int) < 16 := by omega
    have hr0 : (0 : Int) ≤ r := by omega
    obtain ⟨f1, f2, f3, f4, f5, f6⟩ := first_facts ⟨r, hr16⟩
    simp only at f1 f2 f3 f4 f5 f6
    obtain ⟨g1, g2, g3, g4⟩ := more_facts ⟨q, hq10⟩
    simp only at g1 g2 g3 g4
    have hmore := named_more (s := s.data.toList) f1 f4 g1 g2 g3
    obtain ⟨mo, hmo⟩ : ∃ mo : ByteArray, (⟨(moreN.getD q []).toArray⟩ : ByteArray) = mo := ⟨_, rfl⟩
    have hml : mo.data.toList = moreN.getD q [] := by rw [← hmo]
    have hms : mo.size ≤ 20 := by rw [← hmo]; show (moreN.getD q []).toArray.size ≤ 20; rw [List.size_toArray]; exact g4
    obtain ⟨nm, hnm⟩ : ∃ nm : ByteArray, (⟨(effS (1 + (r : Int))).toArray⟩ : ByteArray) = nm := ⟨_, rfl⟩
    have hnl : nm.data.toList = effS (1 + (r : Int)) := by rw [← hnm]
    obtain ⟨wa, hwa⟩ : ∃ wa : ByteArray, (⟨(namedL s.data.toList (1 + (r : Int))).toArray⟩ : ByteArray) = wa := ⟨_, rfl⟩
    have hwl : wa.data.toList = namedL s.data.toList (1 + (r : Int)) := by rw [← hwa]
    have HE : Hid (∀ W, ETab W → Calls Tryd.prog 17 #[.int .i64 (1 + (r : Int))] W fun e w' => e = .returned (.string nm) ∧ w' = W) := fun W h => by rw [← hnm]; exact eff_any _ W h
    have HC : Hid (∀ W, Calls Tryd.prog 16 #[.string nm] W fun e w' => ∃ v, e = .returned v ∧ w'.ownsRow W.heap.size 9 1 v (chainL (effS (1 + (r : Int)))).length (strCells (chainL (effS (1 + (r : Int))))) ∧ Below W.heap.size W w') := by rw [← hnl]; exact chain_any nm
    have hs1 : ((s ++ ⟨#[59]⟩) ++ mo ++ ⟨#[32, 122]⟩).size ≤ 1073741824 := by simp only [ByteArray.size_append]; show s.size + 1 + mo.size + 2 ≤ _; omega
    obtain ⟨nw, hnw⟩ : ∃ nw : ByteArray, (⟨(namedL ((s ++ ⟨#[59]⟩) ++ mo ++ ⟨#[32, 122]⟩).data.toList (1 + (r : Int))).toArray⟩ : ByteArray) = nw := ⟨_, rfl⟩
    have hnwl : nw.data.toList = if (chainL (effS (1 + (r : Int)))).idxOf mo.data.toList < (chainL (effS (1 + (r : Int)))).idxOf wa.data.toList then mo.data.toList else wa.data.toList := by
      rw [hwl, hml, ← hmore, ← hnw, ← hml]
      congr 1
    have HN0 : Hid (∀ W, MaxOk m W → ETab W → Calls Tryd.prog 25 #[.string s, .int .i64 (1 + (r : Int))] W fun e w' => e = .returned (.string wa) ∧ Below W.heap.size W w') := by
      intro W h2 h3
      rw [← hwa]
      exact named_any _ _ m W (by omega) h2 h3
    have HN1 : Hid (∀ W, MaxOk m W → ETab W → Calls Tryd.prog 25 #[.string ((s ++ ⟨#[59]⟩) ++ mo ++ ⟨#[32, 122]⟩), .int .i64 (1 + (r : Int))] W fun e w' => e = .returned (.string nw) ∧ Below W.heap.size W w') := by
      intro W h2 h3
      rw [← hnw]
      exact named_any _ _ m W hs1 h2 h3
    have HNW := Lib.hid hnwl
    have hcl := Lib.hid (chain_len (effS (1 + (r : Int))))
    have hpos : 0 < (chainL (effS (1 + (r : Int)))).length := by unfold chainL; simp
    generalize chainL (effS (1 + (r : Int))) = C at *
    obtain ⟨W1, hW1⟩ : ∃ W1, W1 = w.alloc (.cells moreC 9) := ⟨_, rfl⟩
    have hb1 : Below w.heap.size w W1 := by rw [hW1]; exact (Below.refl _ w).alloc (Nat.le_refl _) _
    have hz1 := hb1.size
    have hcm : W1.cell? ⟨w.heap.size, q, none⟩ = some (.string mo) := by
      rw [hW1, Lib.cell_of_heap (heap_alloc_new w (.cells moreC 9)), ← hmo]
      exact more_at ⟨q, hq10⟩
    have HM0 := Lib.hid (hm.below hb1)
    have HT0 := Lib.hid (hT.below hb1)
    unfold moreC at hW1
    rw [hW1] at hcm
    clear hl hnm hnl hwa hwl hmo hml hnw hnwl hmore f1 f2 f3 f4 f5 f6 g1 g2 g3 g4 hs1 hm hT
    have hcl5 := hcl.out
    go_enter Tryd.func7, Tryd.ntmps7
    go_upto_region 5 with fail
    rw [← hW1]
    clear hW1 hcm
    go_wp2_with (first
      | (go_at_call 16; refine (HC.out _).mono ?_; rintro e w5 ⟨v5, rfl, o5, b5⟩; obtain ⟨g, cp, hv, _, _, hg1, hg2, _⟩ := owns_cell o5 (j := 0) hpos; subst hv; have O5 := Lib.hid o5; have B5 := Lib.hid b5; clear o5 b5)
      | (go_at_call 17; refine (HE.out _ HT4.out).mono ?_; rintro e w4' ⟨rfl, rfl⟩)
      | (go_at_call 25; refine (HN1.out _ HM3.out HT3.out).mono ?_; rintro e w4 ⟨rfl, b4⟩; have B4 := Lib.hid b4; have HM4 := Lib.hid (HM3.out.below b4); have HT4 := Lib.hid (HT3.out.below b4); clear b4)
      | (go_at_call 25; refine (HN0.out _ HM0.out HT0.out).mono ?_; rintro e w3 ⟨rfl, b3⟩; have B3 := Lib.hid b3; have HM3 := Lib.hid (HM0.out.below b3); have HT3 := Lib.hid (HT0.out.below b3); clear b3))
    have hs5 := B5.out.size
    have RR : Hid (∀ i (h : i < C.length), w5.cell? ⟨g, i, none⟩ = some (.string ⟨C[i].toArray⟩)) := by
      obtain ⟨g', _, hv', _, _, _, _, rr⟩ := owns_cell O5.out (j := 0) hpos
      injection hv' with e1 _ _
      injection e1 with e1
      injection e1 with e1 _
      subst e1
      exact fun i h => rr i _ (by simp [strCells, h])
    have HM5 := Lib.hid (HM4.out.below B5.out)
    have HT5 := Lib.hid (HT4.out.below B5.out)
    have HB : Hid (Below w.heap.size w w5) := hb1.trans ((B3.out.trans ((B4.out.trans (B5.out.mono B4.out.size)).mono B3.out.size)).mono hz1)
    clear O5 B3 B4 B5 HM0 HM3 HM4 HT0 HT3 HT4
    go_loopw [13, 14, 15] (fun a b i wr => ∃ (mI aN bN : Nat) (z : Int), mI ≤ C.length ∧ a = .int .i64 (aN : Int) ∧ b = .int .i64 (bN : Int) ∧ i = .int .i64 z ∧ z = (mI : Int) - 1 ∧ Hid (aN = mI + (C.drop mI).idxOf wa.data.toList) ∧ Hid (bN = mI + (C.drop mI).idxOf mo.data.toList) ∧ wr = w5) (fun _ _ i _ => (intOf i + 1).toNat)
    case atStart => exact ⟨C.length, C.length, C.length, (C.length : Int) - 1, Nat.le_refl _, rfl, rfl, rfl, rfl, (by show _ = _; simp), (by show _ = _; simp), rfl⟩
    case round =>
      obtain ⟨mI, aN, bN, z, hmI, rfl, rfl, rfl, hz, haN, hbN, rfl⟩ := hrel
      by_cases hz0 : 0 ≤ z
      · obtain ⟨j, hj⟩ : ∃ j, mI = j + 1 := ⟨mI - 1, by omega⟩
        subst hj
        obtain rfl : z = (j : Int) := by omega
        clear hz
        have hltj : j < C.length := by omega
        have cj := RR.out j hltj
        obtain ⟨cb, hcb⟩ : ∃ cb : ByteArray, (⟨C[j].toArray⟩ : ByteArray) = cb := ⟨_, rfl⟩
        have hcbl : cb.data.toList = C[j] := by rw [← hcb]
        rw [hcb] at cj
        clear hcb
        have hji : (j : Int) < C.length := by omega
        by_cases e1 : C[j] = wa.data.toList
        · have t1 : (cb.toList == wa.toList) = true := by rw [ByteArray.toList_eq, ByteArray.toList_eq, beq_iff_eq, hcbl]; exact e1
          have k1 : Hid (j + (C.drop j).idxOf wa.data.toList = j) := idx_hit hltj e1
          by_cases e2 : C[j] = mo.data.toList
          · have t2 : (cb.toList == mo.toList) = true := by rw [ByteArray.toList_eq, ByteArray.toList_eq, beq_iff_eq, hcbl]; exact e2
            have k2 : Hid (j + (C.drop j).idxOf mo.data.toList = j) := idx_hit hltj e2
            clear e1 e2 hcbl
            go_wp2_with fail
            go_roundw
            case rel => exact ⟨j, j, j, (j : Int) - 1, by omega, by rfl, by rfl, by rfl, rfl, k1.out.symm, k2.out.symm, by first | rfl | trivial⟩
            case measure => simp [intOf]
          · have t2 : (cb.toList == mo.toList) = false := by rw [ByteArray.toList_eq, ByteArray.toList_eq, beq_eq_false_iff_ne, hcbl]; exact e2
            have k2 : Hid (j + (C.drop j).idxOf mo.data.toList = (j + 1) + (C.drop (j + 1)).idxOf mo.data.toList) := idx_miss hltj e2
            clear e1 e2 hcbl
            go_wp2_with fail
            go_roundw
            case rel => exact ⟨j, j, bN, (j : Int) - 1, by omega, by rfl, by rfl, by rfl, rfl, k1.out.symm, hbN.out.trans k2.out.symm, by first | rfl | trivial⟩
            case measure => simp [intOf]
        · have t1 : (cb.toList == wa.toList) = false := by rw [ByteArray.toList_eq, ByteArray.toList_eq, beq_eq_false_iff_ne, hcbl]; exact e1
          have k1 : Hid (j + (C.drop j).idxOf wa.data.toList = (j + 1) + (C.drop (j + 1)).idxOf wa.data.toList) := idx_miss hltj e1
          by_cases e2 : C[j] = mo.data.toList
          · have t2 : (cb.toList == mo.toList) = true := by rw [ByteArray.toList_eq, ByteArray.toList_eq, beq_iff_eq, hcbl]; exact e2
            have k2 : Hid (j + (C.drop j).idxOf mo.data.toList = j) := idx_hit hltj e2
            clear e1 e2 hcbl
            go_wp2_with fail
            go_roundw
            case rel => exact ⟨j, aN, j, (j : Int) - 1, by omega, by rfl, by rfl, by rfl, rfl, haN.out.trans k1.out.symm, k2.out.symm, by first | rfl | trivial⟩
            case measure => simp [intOf]
          · have t2 : (cb.toList == mo.toList) = false := by rw [ByteArray.toList_eq, ByteArray.toList_eq, beq_eq_false_iff_ne, hcbl]; exact e2
            have k2 : Hid (j + (C.drop j).idxOf mo.data.toList = (j + 1) + (C.drop (j + 1)).idxOf mo.data.toList) := idx_miss hltj e2
            clear e1 e2 hcbl
            go_wp2_with fail
            go_roundw
            case rel => exact ⟨j, aN, bN, (j : Int) - 1, by omega, by rfl, by rfl, by rfl, rfl, haN.out.trans k1.out.symm, hbN.out.trans k2.out.symm, by first | rfl | trivial⟩
            case measure => simp [intOf]
      · obtain rfl : mI = 0 := by omega
        have haC : Hid (aN = C.idxOf wa.data.toList) := by show aN = _; rw [haN.out]; simp
        have hbC : Hid (bN = C.idxOf mo.data.toList) := by show bN = _; rw [hbN.out]; simp
        have hnw2 : Hid (nw.data.toList = if bN < aN then mo.data.toList else wa.data.toList) := by show _ = _; rw [haC.out, hbC.out]; exact HNW.out
        clear haN hbN hz haC hbC
        by_cases hba : bN < aN
        · have hbai : (bN : Int) < aN := by omega
          have t3 : (nw.toList == mo.toList) = true := by rw [ByteArray.toList_eq, ByteArray.toList_eq, beq_iff_eq, hnw2.out, if_pos hba]
          clear hba
          go_wp2_with (go_at_call 15; refine (falls_any m _ HM5.out HT5.out).mono ?_; rintro e w6 ⟨rfl, b6⟩; have B6 := Lib.hid b6; clear b6)
          go_ret
          exact ⟨by exact rfl, HB.out.trans (B6.out.mono HB.out.size)⟩
        · have hbai : ¬ (bN : Int) < aN := by omega
          have t3 : (nw.toList == wa.toList) = true := by rw [ByteArray.toList_eq, ByteArray.toList_eq, beq_iff_eq, hnw2.out, if_neg hba]
          clear hba
          go_wp2_with (go_at_call 15; refine (falls_any m _ HM5.out HT5.out).mono ?_; rintro e w6 ⟨rfl, b6⟩; have B6 := Lib.hid b6; clear b6)
          go_ret
          exact ⟨by exact rfl, HB.out.trans (B6.out.mono HB.out.size)⟩
end Go.Proofs.YtgaeecphohlmpaaDoor
