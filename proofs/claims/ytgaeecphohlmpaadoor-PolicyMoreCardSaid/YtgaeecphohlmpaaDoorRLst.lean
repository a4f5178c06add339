/- lazaretref24.List. -/
import Derived.Test.YtgaeecphohlmpaaDoorOne24
import Derived.Test.YtgaeecphohlmpaaDoorLst
import Derived.Deep.Cut
set_option linter.unusedVariables false
namespace Go.Proofs.YtgaeecphohlmpaaDoor
open Go.RowKit

set_option maxHeartbeats 4000000 in
set_option maxRecDepth 100000 in
theorem rlist_any (s : ByteArray) (rep : Bool) (w : World) (hs : s.size ≤ 1073741824) :
    Calls Tryd.prog 34 #[.string s, .bool rep] w fun e w' => (∃ v cs, e = .returned v ∧ w'.ownsRow w.heap.size 30 2 v (listL s.data.toList rep).length cs ∧ PolC w' cs (listL s.data.toList rep)) ∧ Below w.heap.size w w' := by
  have hsl : s.data.toList.length = s.size := by simp
  have hN := spl_len 44 s.data.toList
  have HP := Lib.hid (rpart_any s 44 w hs)
  have HON : Hid ((spl 44 s.data.toList).foldl (addP rep) [] = listL s.data.toList rep) := rfl
  have HMEM : Hid (∀ p ∈ spl 44 s.data.toList, p.length ≤ s.size) := fun p hp => by have := spl_mem hp; omega
  generalize spl 44 s.data.toList = P at *
  have hPl : P.length ≤ 1073741825 := by omega
  obtain ⟨i0, hi0, hz0, hz1, hz2⟩ := info_parts infoPol
  clear hN hsl
  go_enter Tryd.func34, Tryd.ntmps34
  go_wp2_with fail
  refine HP.out.mono ?_
  rintro e w1 ⟨⟨v, rfl, o1⟩, b1⟩
  have S1 := owns_slice o1 (strCells_len P)
  obtain ⟨ao, cp, rfl⟩ := owns_shape o1
  have HB1 := Lib.hid b1
  have hz1' := b1.size
  clear o1 b1 HP
  go_wp2_with fail
  go_loopw [5, 7] (fun l i wr => ∃ (k : Nat) (acc : List Pol) (cs : List Value), k ≤ P.length ∧ i = .int .i64 k ∧ Hid (acc = (P.take k).foldl (addP rep) []) ∧ acc.length ≤ k ∧ wr.ownsRow w1.heap.size 30 2 l acc.length cs ∧ Hid (PolC wr cs acc) ∧ Below w1.heap.size w1 wr) (fun _ i _ => P.length - (intOf i).toNat)
  case atStart => exact ⟨0, [], [], Nat.zero_le _, rfl, rfl, Nat.le_refl _, World.ownsRow_nil _ _ _ _, trivial, Below.refl _ _⟩
  case round =>
    obtain ⟨k, acc, cs, hk, rfl, HA, hacc, hown, HPC, hb⟩ := hrel
    have HB := Lib.hid hb
    have Sw := S1.below hb
    have hsz := hb.size
    clear hb
    by_cases hlt : k < P.length
    · have hki : (k : Int) < P.length := by omega
      obtain ⟨b, off, cap, e1, hbl, hcell⟩ := Sw.text hlt
      injection e1 with f1 _ f3
      subst f1 f3
      obtain ⟨p, hp⟩ : ∃ p, P[k] = p := ⟨_, rfl⟩
      have hpk : P[k]? = some p := by rw [← hp]; exact List.getElem?_eq_getElem hlt
      have HT : Hid ((P.take (k + 1)).foldl (addP rep) [] = addP rep acc p) := by
        show _ = _
        rw [List.take_add_one, hpk, Option.toList_some, List.foldl_append, ← HA.out]
        rfl
      rw [hp] at hcell
      have hpm := HMEM.out p (List.mem_of_getElem? hpk)
      obtain ⟨t, ht⟩ : ∃ t : ByteArray, (⟨p.toArray⟩ : ByteArray) = t := ⟨_, rfl⟩
      have htl : t.data.toList = p := by rw [← ht]
      have htz : t.size ≤ s.size := by
        have h2 : t.data.toList.length = t.size := by simp
        rw [← h2, htl]; exact hpm
      rw [ht] at hcell
      have HO := Lib.hid (rone_any t wr (by omega))
      rw [htl] at HO
      have hll := oneL_len p
      obtain ⟨D, hD⟩ : ∃ D, oneL p = D := ⟨_, rfl⟩
      have HD := Lib.hid hD
      rw [hD] at HO hll
      have hdl : D.length ≤ 1099511627776 := by omega
      clear ht hp hpk htl Sw hD
      go_wp2_with fail
      refine HO.out.mono ?_
      rintro e w2 ⟨⟨v1, cs1, rfl, o2, c2⟩, b2⟩
      have V1 := Lib.hid (dirV_of o2 c2)
      obtain ⟨va, vc, rfl⟩ := owns_shape o2
      have hown1 := owns_below hown b2
      have HPC1 := Lib.hid (HPC.out.imp fun sv vs h => h.below b2)
      have HB2 : Hid (Below w1.heap.size w1 w2) := HB.out.trans (b2.mono hsz)
      have hsz2 := HB2.out.size
      clear o2 c2 b2 hown hcell HO
      by_cases h0 : D = []
      · subst h0
        have HAD : Hid (addP rep acc p = acc) := by show _ = _; unfold addP; rw [if_pos HD.out]
        go_wp2_with fail
        go_roundw
        case rel => exact ⟨k + 1, acc, cs, by omega, by go_num, by rw [HT.out, HAD.out]; exact rfl, by omega, hown1, HPC1.out, HB2.out⟩
        case measure => simp [intOf]; omega
      · have HAD : Hid (addP rep acc p = acc ++ [(D, rep)]) := by show _ = _; unfold addP; rw [HD.out, if_neg h0]
        have hpos : (0 : Int) < D.length := by have := List.length_pos_iff.2 h0; omega
        have N2 : Hid (∀ u ∈ ([.slice va D.length vc, .bool rep] : List Value), u.oneCell' = true) := by
          intro u hu
          simp at hu
          rcases hu with rfl | rfl <;> rfl
        clear h0
        go_wp2_with (at_builtin; refine wpList_append_own _ rfl _ _ 47 rfl w1.heap.size 30 i0 _ 2 32 Tryd.underlying47 hi0 hz0 hz1 hz2 rfl (by decide) _ _ _ rfl (hown1.alloc _) ⟨w2.heap.size, 0, none⟩ 1 1 [.slice va D.length vc, .bool rep] rfl rfl (news2 w2 _ _ _) N2.out (by unfold maxLen; omega) (by omega) (by simp; omega) ?_; intro v' w4 hown4 hg4 hnil4; clear hnil4)
        go_roundw
        case rel =>
          have al : Below w2.heap.size w2 (w2.alloc (.cells #[.slice va D.length vc, .bool rep] 30)) := (Below.refl _ w2).alloc (Nat.le_refl _) _
          refine ⟨k + 1, acc ++ [(D, rep)], _, by omega, by go_num, by rw [HT.out, HAD.out]; exact rfl, by simp; omega, by rw [List.length_append]; exact hown4, ?_, ?_⟩
          · exact PolC.snoc (p := (D, rep)) rfl ((V1.out.below al).grownP (hown1.alloc _) hg4) (HPC1.out.imp fun lv ds h => (h.below al).grownP (hown1.alloc _) hg4)
          · exact (HB2.out.alloc hsz2 _).grown hg4 (by simp; omega) (fun j hj => (hown1.lt j hj).1)
        case measure => simp [intOf]; omega
    · have hfin : Hid (acc = listL s.data.toList rep) := by
        show acc = _
        have hkk : k = P.length := by omega
        rw [HA.out, hkk, List.take_length, HON.out]
      go_wp2_with fail
      go_ret
      exact ⟨⟨_, cs, by exact rfl, by rw [← hfin.out]; exact owns_mono hown hz1', by rw [← hfin.out]; exact HPC.out⟩, HB1.out.trans (HB.out.mono hz1')⟩
end Go.Proofs.YtgaeecphohlmpaaDoor
