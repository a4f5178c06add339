/- lazaretref24.One. -/
import Derived.Test.YtgaeecphohlmpaaDoorPrt
import Derived.Test.YtgaeecphohlmpaaDoorAsk1
import Derived.Deep.Cut
import Derived.Deep.RegionLaw
import Derived.Deep.AppendLies
set_option linter.unusedVariables false
namespace Go.Proofs.YtgaeecphohlmpaaDoor
open Go.RowKit

theorem atL_of_hasD {acc : List Dir} {n : List UInt8} : (hasD acc n = false ∧ atL acc n = -1) ∨ (hasD acc n = true ∧ ∃ k : Nat, atL acc n = k) := by
  cases h : hasD acc n with
  | false => exact .inl ⟨rfl, atL_none (fnd_none.2 h)⟩
  | true =>
    right
    refine ⟨rfl, ?_⟩
    cases hf : fndL acc n with
    | none => rw [fnd_none.1 hf] at h; cases h
    | some d =>
      obtain ⟨k, _, h1, _⟩ := atL_some hf
      exact ⟨k, h1⟩

set_option maxHeartbeats 8000000 in
set_option maxRecDepth 100000 in
theorem rone_any (s : ByteArray) (w : World) (hs : s.size ≤ 1073741824) :
    Calls Tryd.prog 31 #[.string s] w fun e w' => (∃ v cs, e = .returned v ∧ w'.ownsRow w.heap.size 33 2 v (oneL s.data.toList).length cs ∧ DirC w' cs (oneL s.data.toList)) ∧ Below w.heap.size w w' := by
  have hsl : s.data.toList.length = s.size := by simp
  have hN := spl_len 59 s.data.toList
  have HP := Lib.hid (rpart_any s 59 w hs)
  have HON : Hid ((spl 59 s.data.toList).foldl addD [] = oneL s.data.toList) := rfl
  have HMEM : Hid (∀ p ∈ spl 59 s.data.toList, p.length ≤ s.size) := fun p hp => by have := spl_mem hp; omega
  generalize spl 59 s.data.toList = P at *
  have hPl : P.length ≤ 1073741825 := by omega
  obtain ⟨i0, hi0, hz0, hz1, hz2⟩ := info_parts infoDir
  clear hN hsl
  go_enter Tryd.func31, Tryd.ntmps31
  go_wp2_with fail
  refine HP.out.mono ?_
  rintro e w1 ⟨⟨v, rfl, o1⟩, b1⟩
  have S1 := owns_slice o1 (strCells_len P)
  obtain ⟨ao, cp, rfl⟩ := owns_shape o1
  have HB1 := Lib.hid b1
  have hz1' := b1.size
  clear o1 b1 HP
  go_wp2_with fail
  go_loopw [3, 5] (fun l i wr => ∃ (k : Nat) (acc : List Dir) (cs : List Value), k ≤ P.length ∧ i = .int .i64 k ∧ Hid (acc = (P.take k).foldl addD []) ∧ acc.length ≤ k ∧ wr.ownsRow w1.heap.size 33 2 l acc.length cs ∧ Hid (DirC wr cs acc) ∧ Below w1.heap.size w1 wr) (fun _ i _ => P.length - (intOf i).toNat)
  case atStart => exact ⟨0, [], [], Nat.zero_le _, rfl, rfl, Nat.le_refl _, World.ownsRow_nil _ _ _ _, trivial, Below.refl _ _⟩
  case round =>
    obtain ⟨k, acc, cs, hk, rfl, HA, hacc, hown, HDC, hb⟩ := hrel
    obtain ⟨oa, oc, hol⟩ := owns_shape hown
    subst hol
    have HB := Lib.hid hb
    have Sw := S1.below hb
    have hsz := hb.size
    clear hb
    by_cases hlt : k < P.length
    · have hki : (k : Int) < P.length := by omega
      obtain ⟨b, off, cap, e1, hbl, hcell⟩ := Sw.text hlt
      injection e1 with f1 _ f3
      subst f1 f3
      obtain ⟨p, hp⟩ : ∃ p, P[k] = p := ⟨_, rfl⟩
      have hpk : P[k]? = some p := by rw [← hp]; exact List.getElem?_eq_getElem hlt
      have HT : Hid ((P.take (k + 1)).foldl addD [] = addD acc p) := by
        show _ = _
        rw [List.take_add_one, hpk, Option.toList_some, List.foldl_append, ← HA.out]
        rfl
      rw [hp] at hcell
      have hpm := HMEM.out p (List.mem_of_getElem? hpk)
      obtain ⟨t, ht⟩ : ∃ t : ByteArray, (⟨p.toArray⟩ : ByteArray) = t := ⟨_, rfl⟩
      have htl : t.data.toList = p := by rw [← ht]
      have htz : t.size ≤ s.size := by
        have h2 : t.data.toList.length = t.size := by simp
        rw [← h2, htl]; exact hpm
      rw [ht] at hcell
      have HF := Lib.hid (rfields_any t wr (by omega))
      rw [htl] at HF
      have hfn := fieldsL_len p
      have hfl : Hid (∀ f ∈ fieldsL p, f.length ≤ p.length) := fun f h => field_len h
      clear ht hp hpk htl Sw
      cases hf : fieldsL p with
      | nil =>
        rw [hf] at HF
        have HAD : Hid (addD acc p = acc) := addD_none hf
        clear hf
        go_upto_region 7 with (go_at_call 47; refine HF.out.mono ?_; rintro e w2 ⟨⟨v2, rfl, o2⟩, b2⟩; obtain ⟨va, vc, rfl⟩ := owns_shape o2)
        have hown2 := owns_below hown b2
        have HDC2 := Lib.hid (HDC.out.imp fun sv vs h => h.below b2)
        have HB2 : Hid (Below w1.heap.size w1 w2) := HB.out.trans (b2.mono hsz)
        clear o2 b2 hown HF
        go_wp2_with fail
        go_roundw
        case rel => exact ⟨k + 1, acc, cs, by omega, by go_num, by rw [HT.out, HAD.out]; exact rfl, by omega, hown2, HDC2.out, HB2.out⟩
        case measure => simp [intOf]; omega
      | cons x ws =>
        rw [hf] at HF hfn
        have hxl := hfl.out x (by rw [hf]; simp)
        simp at hfn
        obtain ⟨nm, hnm⟩ : ∃ nm : ByteArray, (⟨(lowL x).toArray⟩ : ByteArray) = nm := ⟨_, rfl⟩
        have hnl : nm.data.toList = lowL x := by rw [← hnm]
        have HNM := Lib.hid hnm
        have HLO : Hid (∀ W, Calls Tryd.prog 49 #[.string ⟨x.toArray⟩] W fun e w' => e = .returned (.string nm) ∧ Below W.heap.size W w') := by
          intro W
          rw [← hnm]
          exact rlower_any ⟨x.toArray⟩ W (by show x.toArray.size ≤ _; rw [List.size_toArray]; omega)
        have HAT : Hid (∀ W, DirsIn W (.slice oa acc.length oc) acc → Calls Tryd.prog 48 #[.slice oa acc.length oc, .string nm] W fun e w' => e = .returned (.int .i64 (atL acc (lowL x))) ∧ w' = W) := by
          intro W h
          rw [← hnl]
          exact rat_any _ acc nm W h (by omega)
        have HF2 := Lib.hid hf
        clear hnm hnl hf
        go_upto_region 7 with (go_at_call 47; refine HF.out.mono ?_; rintro e w2 ⟨⟨v2, rfl, o2⟩, b2⟩)
        obtain ⟨g1, c1, hv1, hc1, hc2, hg1, hg2, r1⟩ := owns_cell o2 (j := 0) (by simp)
        have q1 := r1 0 (.string ⟨x.toArray⟩) (by simp [strCells])
        subst hv1
        have hown2 := owns_below hown b2
        have HDC2 := Lib.hid (HDC.out.imp fun sv vs h => h.below b2)
        have HB2 : Hid (Below w1.heap.size w1 w2) := HB.out.trans (b2.mono hsz)
        have D2 := Lib.hid (dirs_in hown2 HDC2.out)
        have HVT := Lib.hid (vals_tail o2)
        have HO2 := Lib.hid hown2
        have hw1n : (0 : Int) < (ws.length : Int) + 1 := by omega
        have hc1n : ws.length + 1 ≤ c1 := by simpa using hc1
        clear r1 o2 b2 hown HF hown2
        rcases @atL_of_hasD acc (lowL x) with ⟨hh, ha⟩ | ⟨hh, kk, ha⟩
        · have HAD : Hid (addD acc p = acc ++ [(lowL x, ws)]) := addD_new HF2.out hh
          rw [ha] at HAT
          clear ha hh
          go_upto_region 8 with (first
            | (go_at_call 48; refine (HAT.out w3 ?hA).mono ?_; (case hA => exact D2.out.below B3.out); rintro e w4 ⟨rfl, rfl⟩)
            | (go_at_call 49; refine (HLO.out w2).mono ?_; rintro e w3 ⟨rfl, b3⟩; have B3 := Lib.hid b3; clear b3))
          have q4 : w4.cell? ⟨g1, 0, none⟩ = some (.string ⟨x.toArray⟩) := (B3.out.cell (p := ⟨g1, 0, none⟩) hg2).trans q1
          have O4 := Lib.hid (owns_below HO2.out B3.out)
          have HDC4 := Lib.hid (HDC2.out.imp fun sv vs h => h.below B3.out)
          have HB4 : Hid (Below w1.heap.size w1 w4) := HB2.out.trans (B3.out.mono HB2.out.size)
          have H63 : Hid (acc.length + 1 ≤ maxLen) := by show _ ≤ _; unfold maxLen; omega
          have HBY : Hid ((acc.length + 1) * 40 ≤ 140737488355328) := by show _ ≤ _; omega
          by_cases hcap : c1 = 1
          · have hws : ws.length = 0 := by omega
            subst hcap
            have N2 : Hid (∀ u ∈ ([.string nm, .slice (some ⟨g1, 0, none⟩) 0 0] : List Value), u.oneCell' = true) := by
              intro u hu
              simp at hu
              rcases hu with rfl | rfl <;> rfl
            have HV : Hid (ValsIn w4 (.slice (some ⟨g1, 0, none⟩) 0 0) ws) := (HVT.out.1 rfl).below B3.out
            clear HVT
            go_wp2_with fail
            go_region_law (first
              | (refine step_append_lies _ (by rfl) _ _ _ (by rfl) w1.heap.size 33 i0 _ 2 40 Tryd.underlying28 hi0 hz0 hz1 hz2 rfl (by omega) _ _ _ (by rfl) (HO5.out.alloc _) ⟨w5.heap.size, 0, none⟩ 1 1 [.string nm, .slice (some ⟨g1, 0, none⟩) 0 0] (by rfl) (by rfl) (news2 w5 _ _ _) N2.out (by omega) H63.out HBY.out HBS.out (w5.heap.size + 1) (by simp) ?_; intro gg capg w6 hown6 hgrow hat hlt6)
              | (go_simp; go_at_call 49; refine (HLO.out _).mono ?_; rintro e w5 ⟨rfl, b5⟩; have B5 : Hid (Below w4.heap.size w4 w5) := (below_drewN (Below.refl _ w4) 1).trans (by exact b5); have HO5 := Lib.hid (owns_below O4.out B5.out); have HBS : Hid (w1.heap.size ≤ (w5.alloc (.cells #[.string nm, .slice (some ⟨g1, 0, none⟩) 0 0] 33)).heap.size) := (by show _ ≤ _; simp; have := B5.out.size; have := HB4.out.size; omega); clear b5))
            all_goals
              go_wp2_with fail
              go_roundw
              case rel =>
                have al : Below w5.heap.size w5 (w5.alloc (.cells #[.string nm, .slice (some ⟨g1, 0, none⟩) 0 0] 33)) := (Below.refl _ w5).alloc (Nat.le_refl _) _
                have hz5 := B5.out.size
                have hz4 := HB4.out.size
                refine ⟨k + 1, acc ++ [(lowL x, ws)], _, by omega, by go_num, by rw [HT.out, HAD.out]; exact rfl, by simp; omega, by rw [List.length_append]; exact hown6, ?_, ?_⟩
                · exact DirC.snoc (d := (lowL x, ws)) (by rw [HNM.out]) (((HV.out.below B5.out).below al).grown (HO5.out.alloc _) hgrow) (HDC4.out.imp fun sv vs h => ((h.below B5.out).below al).grown (HO5.out.alloc _) hgrow)
                · exact ((HB4.out.trans (B5.out.mono hz4)).alloc (by omega) _).grown hgrow (by simp; omega) (fun j hj => (HO5.out.lt j hj).1)
              case measure => simp [intOf]; omega
          · have hc1i : (1 : Int) < c1 := by omega
            have hlen1 : (1 : Int) ≤ (ws.length : Int) + 1 := by omega
            have N2 : Hid (∀ u ∈ ([.string nm, .slice (some ⟨g1, 1, none⟩) ws.length (c1 - 1)] : List Value), u.oneCell' = true) := by
              intro u hu
              simp at hu
              rcases hu with rfl | rfl <;> rfl
            have HV : Hid (ValsIn w4 (.slice (some ⟨g1, 1, none⟩) ws.length (c1 - 1)) ws) := (HVT.out.2 hcap).below B3.out
            clear HVT
            go_wp2_with fail
            go_region_law (first
              | (refine step_append_lies _ (by rfl) _ _ _ (by rfl) w1.heap.size 33 i0 _ 2 40 Tryd.underlying28 hi0 hz0 hz1 hz2 rfl (by omega) _ _ _ (by rfl) (HO5.out.alloc _) ⟨w5.heap.size, 0, none⟩ 1 1 [.string nm, .slice (some ⟨g1, 1, none⟩) ws.length (c1 - 1)] (by rfl) (by rfl) (news2 w5 _ _ _) N2.out (by omega) H63.out HBY.out HBS.out (w5.heap.size + 1) (by simp) ?_; intro gg capg w6 hown6 hgrow hat hlt6)
              | (go_simp; go_at_call 49; refine (HLO.out _).mono ?_; rintro e w5 ⟨rfl, b5⟩; have B5 : Hid (Below w4.heap.size w4 w5) := (below_drewN (Below.refl _ w4) 1).trans (by exact b5); have HO5 := Lib.hid (owns_below O4.out B5.out); have HBS : Hid (w1.heap.size ≤ (w5.alloc (.cells #[.string nm, .slice (some ⟨g1, 1, none⟩) ws.length (c1 - 1)] 33)).heap.size) := (by show _ ≤ _; simp; have := B5.out.size; have := HB4.out.size; omega); clear b5))
            all_goals
              go_wp2_with fail
              go_roundw
              case rel =>
                have al : Below w5.heap.size w5 (w5.alloc (.cells #[.string nm, .slice (some ⟨g1, 1, none⟩) ws.length (c1 - 1)] 33)) := (Below.refl _ w5).alloc (Nat.le_refl _) _
                have hz5 := B5.out.size
                have hz4 := HB4.out.size
                refine ⟨k + 1, acc ++ [(lowL x, ws)], _, by omega, by go_num, by rw [HT.out, HAD.out]; exact rfl, by simp; omega, by rw [List.length_append]; exact hown6, ?_, ?_⟩
                · exact DirC.snoc (d := (lowL x, ws)) (by rw [HNM.out]) (((HV.out.below B5.out).below al).grown (HO5.out.alloc _) hgrow) (HDC4.out.imp fun sv vs h => ((h.below B5.out).below al).grown (HO5.out.alloc _) hgrow)
                · exact ((HB4.out.trans (B5.out.mono hz4)).alloc (by omega) _).grown hgrow (by simp; omega) (fun j hj => (HO5.out.lt j hj).1)
              case measure => simp [intOf]; omega
        · have HAD : Hid (addD acc p = acc) := addD_old HF2.out hh
          rw [ha] at HAT
          clear ha hh
          go_wp2_with (first
            | (go_at_call 48; refine (HAT.out w3 ?hA).mono ?_; (case hA => exact D2.out.below B3.out); rintro e w4 ⟨rfl, rfl⟩)
            | (go_at_call 49; refine (HLO.out w2).mono ?_; rintro e w3 ⟨rfl, b3⟩; have B3 := Lib.hid b3; clear b3))
          go_roundw
          case rel => exact ⟨k + 1, acc, cs, by omega, by go_num, by rw [HT.out, HAD.out]; exact rfl, by omega, owns_below HO2.out B3.out, HDC2.out.imp fun sv vs h => h.below B3.out, HB2.out.trans (B3.out.mono HB2.out.size)⟩
          case measure => simp [intOf]; omega
    · have hfin : Hid (acc = oneL s.data.toList) := by
        show acc = _
        have hkk : k = P.length := by omega
        rw [HA.out, hkk, List.take_length, HON.out]
      go_wp2_with fail
      go_ret
      exact ⟨⟨_, cs, by exact rfl, by rw [← hfin.out]; exact owns_mono hown hz1', by rw [← hfin.out]; exact HDC.out⟩, HB1.out.trans (HB.out.mono hz1')⟩
end Go.Proofs.YtgaeecphohlmpaaDoor
