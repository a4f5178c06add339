/- lazaretref24.Meta. -/
import Derived.Test.YtgaeecphohlmpaaDoorOne24
import Derived.Test.YtgaeecphohlmpaaDoorMet
import Derived.Test.YtgaeecphohlmpaaDoorLst
import Derived.Deep.Cut
import Derived.Deep.RegionLaw
import Derived.Deep.AppendLies
set_option linter.unusedVariables false
namespace Go.Proofs.YtgaeecphohlmpaaDoor
open Go.RowKit

theorem cell0_of {w : World} {b : Nat} {x y : Value} {t : TypeId} {fr : Nat × Nat} (h : w.heap[b]? = some (.cells #[x, y] t fr)) : w.cell? ⟨b, 0, none⟩ = some x := by rw [Lib.cell_of_heap h]; rfl
theorem cell1_of {w : World} {b : Nat} {x y : Value} {t : TypeId} {fr : Nat × Nat} (h : w.heap[b]? = some (.cells #[x, y] t fr)) : w.cell? ⟨b, 1, none⟩ = some y := by rw [Lib.cell_of_heap h]; rfl
theorem row_at {w : World} {B : Nat} {v : Value} {ds : List Dir} {cs : List Value} (h : w.ownsRow B 33 2 v ds.length cs) (hc : DirC w cs ds) {i : Nat} (hi : i < ds.length) :
    ∃ g cap sv, v = .slice (some ⟨g, 0, none⟩) ds.length cap ∧ g < w.heap.size ∧ w.cell? ⟨g, i * 2, none⟩ = some (.string ⟨ds[i].1.toArray⟩) ∧ w.cell? ⟨g, i * 2 + 1, none⟩ = some sv ∧ ValsIn w sv ds[i].2 := by
  rcases h.2 with ⟨_, h0⟩ | ⟨g, cap, cur, rfl, hg, hh, hle, hcm, hcs, htake⟩
  · omega
  · obtain ⟨c1, sv, c2, c3⟩ := dirC_vals hc i hi
    have hadd : ∀ j, (⟨g, 0, none⟩ : Addr).add j = ⟨g, 0 + j, none⟩ := by intro j; unfold Addr.add; split <;> simp_all
    have r1 := h.cells (g := g) rfl _ _ c1
    have r2 := h.cells (g := g) rfl _ _ c2
    rw [hadd, Nat.zero_add] at r1 r2
    exact ⟨g, cap, sv, rfl, (Array.getElem?_eq_some_iff.1 hh).1, r1, r2, c3⟩

set_option maxHeartbeats 8000000 in
set_option maxRecDepth 100000 in
theorem rmeta_any (s : ByteArray) (w : World) (hs : s.size ≤ 1073741824) :
    Calls Tryd.prog 28 #[.string s] w fun e w' => MetaRes w' (metaL (oneL s.data.toList)) e ∧ Below w.heap.size w w' := by
  obtain ⟨W2, hW2⟩ : ∃ W2, W2 = (w.alloc (.cells #[.slice none 0 0, .bool false] 30)).alloc (.cells #[.slice none 0 0, .bool false] 30) := ⟨_, rfl⟩
  have hs2 : W2.heap.size = w.heap.size + 2 := by rw [hW2]; simp
  have hb2 : Below w.heap.size w W2 := by
    rw [hW2]
    exact ((Below.refl _ w).alloc (Nat.le_refl _) _).alloc (by simp) _
  have k1 : W2.heap[w.heap.size + 1]? = some (.cells #[.slice none 0 0, .bool false] 30 (0, 0)) := by
    rw [hW2]
    have := heap_alloc_new (w.alloc (.cells #[.slice none 0 0, .bool false] 30)) (.cells #[.slice none 0 0, .bool false] 30)
    simpa using this
  have k0 : W2.heap[w.heap.size]? = some (.cells #[.slice none 0 0, .bool false] 30 (0, 0)) := by
    rw [hW2, Below.heap_alloc _ _ _ (by simp)]
    exact heap_alloc_new w (.cells #[.slice none 0 0, .bool false] 30)
  have hll := oneL_len s.data.toList
  have hsl : s.data.toList.length = s.size := by simp
  have HO := Lib.hid (rone_any s W2 hs)
  generalize oneL s.data.toList = L at *
  have hL : L.length ≤ 1073741825 := by omega
  have HEND : Hid (metaL (L.take L.length) = metaL L) := by show _ = _; rw [List.take_length]
  obtain ⟨R, hR⟩ : ∃ R, metaL L = R := ⟨_, rfl⟩
  rw [hR] at HEND ⊢
  have HW2 := Lib.hid hW2
  obtain ⟨i0, hi0, hz0, hz1, hz2⟩ := info_parts infoDir
  clear hll hsl hR hW2
  go_enter Tryd.func28, Tryd.ntmps28
  go_wp2_with fail
  rw [← HW2.out]
  refine HO.out.mono ?_
  rintro e w3 ⟨⟨v3, cs3, rfl, o3, d3⟩, b3⟩
  obtain ⟨ao3, cp3, hv3⟩ := owns_shape o3
  subst hv3
  have K1 := (b3.block _ (by omega)).trans k1
  have K0 := (b3.block _ (by omega)).trans k0
  have HB3 := Lib.hid (hb2.trans (b3.mono (by omega)))
  have hz3 := b3.size
  have hown3 : Hid (∀ q, (Value.slice ao3 L.length cp3).ownBlock = some q → q < w3.heap.size) := fun q hq => (o3.lt q hq).2
  have HS2 := Lib.hid hs2
  have HZ := Lib.hid hz3
  clear b3 HO k0 k1 hb2 hs2 hz3
  go_wp2_with fail
  go_loopw [6] (fun i wr => ∃ (k : Nat) (acc : List Dir) (lv : Value) (cs : List Value), k ≤ L.length ∧ i = .int .i64 k ∧ Hid (acc = metaL (L.take k)) ∧ acc.length ≤ k ∧ Hid (wr.heap[w.heap.size + 1]? = some (.cells #[lv, .bool false] 30 (0, 0))) ∧ Hid (wr.heap[w.heap.size]? = some (.cells #[.slice none 0 0, .bool false] 30 (0, 0))) ∧ wr.ownsRow w3.heap.size 33 2 lv acc.length cs ∧ Hid (DirC wr cs acc) ∧ wr.ownsRow W2.heap.size 33 2 (.slice ao3 L.length cp3) L.length cs3 ∧ Hid (DirC wr cs3 L) ∧ w3.heap.size ≤ wr.heap.size ∧ Below w.heap.size w wr) (fun i _ => L.length - (intOf i).toNat)
  case atStart => exact ⟨0, [], _, [], Nat.zero_le _, rfl, rfl, Nat.le_refl _, K1, K0, World.ownsRow_nil _ _ _ _, trivial, o3, d3, Nat.le_refl _, HB3.out⟩
  case round =>
    obtain ⟨k, acc, lv, cs, hk, rfl, HA, hacc, HK1, HK0, hown, HDC, hownL, HDL, hsz, hb⟩ := hrel
    obtain ⟨oa, oc, hol⟩ := owns_shape hown
    subst hol
    have HB := Lib.hid hb
    clear hb
    by_cases hlt : k < L.length
    · have hki : (k : Int) < L.length := by omega
      obtain ⟨g, cap, sv, e1, hgl, x0, x1, hvals⟩ := row_at hownL HDL.out hlt
      injection e1 with f1 _ f3
      subst f1 f3
      obtain ⟨d, hd⟩ : ∃ d, L[k] = d := ⟨_, rfl⟩
      have HDK : Hid (L[k]? = some d) := by show _ = _; rw [← hd]; exact List.getElem?_eq_getElem hlt
      rw [hd] at x0 hvals
      clear hd
      have HST := Lib.hid (metaL_step HDK.out)
      obtain ⟨nk, hnk2⟩ : ∃ nk : ByteArray, (⟨d.1.toArray⟩ : ByteArray) = nk := ⟨_, rfl⟩
      have HNL : Hid (nk.data.toList = d.1) := by show nk.data.toList = _; rw [← hnk2]
      have HNK := Lib.hid hnk2
      rw [hnk2] at x0
      clear hnk2
      have HV := Lib.hid hvals
      have hskip : hdrB d.1 = true → Hid (acc = metaL (L.take (k + 1))) := by
        intro h
        show acc = _
        rw [HST.out, if_pos h]
        exact HA.out
      by_cases h1 : d.1 = [114, 101, 112, 111, 114, 116, 45, 117, 114, 105]
      · have hh := hskip (by unfold hdrB; rw [h1]; decide)
        obtain rfl := of_lst (HNL.out.trans h1)
        clear h1 hskip hvals
        go_wp2_with fail
        go_roundw
        case rel => exact ⟨k + 1, acc, _, cs, by omega, by go_num, hh.out, by omega, HK1.out, HK0.out, hown, HDC.out, hownL, HDL.out, hsz, HB.out⟩
        case measure => simp [intOf]; omega
      have q1 : (nk.toList == [114, 101, 112, 111, 114, 116, 45, 117, 114, 105]) = false := ne_bq (by rw [HNL.out]; exact h1)
      by_cases h2 : d.1 = [102, 114, 97, 109, 101, 45, 97, 110, 99, 101, 115, 116, 111, 114, 115]
      · have hh := hskip (by unfold hdrB; rw [h2]; decide)
        obtain rfl := of_lst (HNL.out.trans h2)
        clear h1 h2 hskip q1 hvals
        go_wp2_with fail
        go_roundw
        case rel => exact ⟨k + 1, acc, _, cs, by omega, by go_num, hh.out, by omega, HK1.out, HK0.out, hown, HDC.out, hownL, HDL.out, hsz, HB.out⟩
        case measure => simp [intOf]; omega
      have q2 : (nk.toList == [102, 114, 97, 109, 101, 45, 97, 110, 99, 101, 115, 116, 111, 114, 115]) = false := ne_bq (by rw [HNL.out]; exact h2)
      by_cases h3 : d.1 = [115, 97, 110, 100, 98, 111, 120]
      · have hh := hskip (by unfold hdrB; rw [h3]; decide)
        obtain rfl := of_lst (HNL.out.trans h3)
        clear h1 h2 h3 hskip q1 q2 hvals
        go_wp2_with fail
        go_roundw
        case rel => exact ⟨k + 1, acc, _, cs, by omega, by go_num, hh.out, by omega, HK1.out, HK0.out, hown, HDC.out, hownL, HDL.out, hsz, HB.out⟩
        case measure => simp [intOf]; omega
      have q3 : (nk.toList == [115, 97, 110, 100, 98, 111, 120]) = false := ne_bq (by rw [HNL.out]; exact h3)
      have hno : hdrB d.1 = false := by
        unfold hdrB
        simp [h1, h2, h3]
      have HN1 : Hid (metaL (L.take (k + 1)) = acc ++ [d]) := by
        show _ = _
        rw [HST.out, if_neg (by rw [hno]; decide), ← HA.out]
      clear h1 h2 h3 hno hskip
      obtain ⟨vb, voff, vcap, vcs, vfr, hvv, _, _, _, _⟩ := hvals
      subst hvv
      have N2 : Hid (∀ u ∈ ([.string nk, .slice (some ⟨vb, voff, none⟩) d.2.length vcap] : List Value), u.oneCell' = true) := by
        intro u hu
        simp at hu
        rcases hu with rfl | rfl <;> rfl
      have H63 : Hid (acc.length + 1 ≤ maxLen) := by show _ ≤ _; unfold maxLen; omega
      have HBY : Hid ((acc.length + 1) * 40 ≤ 140737488355328) := by show _ ≤ _; omega
      have y0 : wr.cell? ⟨w.heap.size + 1, 0, none⟩ = some (.slice oa acc.length oc) := by rw [Lib.cell_of_heap HK1.out]; rfl
      have hlp : w.heap.size + 1 < wr.heap.size := (Array.getElem?_eq_some_iff.1 HK1.out).1
      have HLP := Lib.hid hlp
      have HOB : Hid (∀ q, (Value.slice oa acc.length oc).ownBlock = some q → w3.heap.size ≤ q) := fun q hq => (hown.lt q hq).1
      have HSZ : Hid (w3.heap.size ≤ (wr.alloc (.cells #[.string nk, .slice (some ⟨vb, voff, none⟩) d.2.length vcap] 33)).drew.heap.size) := by show w3.heap.size ≤ (wr.alloc _).heap.size; simp; omega
      have HLPA : Hid (w.heap.size + 1 < (wr.alloc (.cells #[.string nk, .slice (some ⟨vb, voff, none⟩) d.2.length vcap] 33)).drew.heap.size) := by show _ < (wr.alloc _).heap.size; simp; omega
      have HKA : Hid ((wr.alloc (.cells #[.string nk, .slice (some ⟨vb, voff, none⟩) d.2.length vcap] 33)).drew.heap[w.heap.size + 1]? = some (.cells #[.slice oa acc.length oc, .bool false] 30 (0, 0))) := (Below.heap_alloc wr _ _ hlp).trans HK1.out
      have HNE : Hid (some (w.heap.size + 1) ≠ (Value.slice oa acc.length oc).ownBlock) := fun e => by
        have h1 := HOB.out _ e.symm
        have h2 := HZ.out
        have h3 := HS2.out
        omega
      have N1 : ¬ w.heap.size + 1 = wr.heap.size := by omega
      go_wp2_with fail
      go_region_law (refine step_append_lies _ (by rfl) _ _ _ (by rfl) w3.heap.size 33 i0 _ 2 40 Tryd.underlying28 hi0 hz0 hz1 hz2 rfl (by omega) _ _ _ (by rfl) ((hown.alloc _).drew) ⟨wr.heap.size, 0, none⟩ 1 1 [.string nk, .slice (some ⟨vb, voff, none⟩) d.2.length vcap] (by rfl) (by rfl) (news2 wr _ _ _) N2.out (by omega) H63.out HBY.out HSZ.out (wr.heap.size + 1) (by simp) ?_; intro gg capg w6 hown6 hgrow hat hlt6; have t0 : w6.heap[w.heap.size + 1]? = some (.cells #[.slice oa acc.length oc, .bool false] 30 (0, 0)) := (hgrow.block _ HLPA.out HNE.out).trans HKA.out; have y6 := cell0_of t0; have z6 := Lib.frozen_of_heap t0 0)
      all_goals
        go_wp2_with fail
        go_roundw
        case rel =>
          have al : Below wr.heap.size wr (wr.alloc (.cells #[.string nk, .slice (some ⟨vb, voff, none⟩) d.2.length vcap] 33)).drew := ((Below.refl _ wr).alloc (Nat.le_refl _) _).drew
          have hpb : w.heap.size + 1 < w3.heap.size := by have := HZ.out; have := HS2.out; omega
          have hgL := hown3.out g rfl
          have hv : ∀ sv vs, ValsIn wr sv vs → ValsIn (w6.setCell ⟨w.heap.size + 1, 0, none⟩ (.slice (some ⟨gg, 0, none⟩) (acc.length + 1) capg)) sv vs := fun sv vs h => ((h.below al).grown ((hown.alloc _).drew) hgrow).celled t0 (by decide) _ _
          refine ⟨k + 1, acc ++ [d], .slice (some ⟨gg, 0, none⟩) (acc.length + 1) capg, cs ++ [.string nk, .slice (some ⟨vb, voff, none⟩) d.2.length vcap], by omega, by go_num, HN1.out.symm, by simp; omega, ?_, ?_, ?_, ?_, ?_, ?_, ?_, ?_⟩
          · exact heap_setCell t0 0 _
          · refine (Below.heap_setCell w6 ⟨w.heap.size + 1, 0, none⟩ _ w.heap.size (by show w.heap.size ≠ w.heap.size + 1; omega)).trans ?_
            refine (hgrow.block _ (by show w.heap.size < (wr.alloc _).heap.size; simp; omega) ?_).trans ((Below.heap_alloc wr (.cells #[.string nk, .slice (some ⟨vb, voff, none⟩) d.2.length vcap] 33) w.heap.size (by omega)).trans HK0.out)
            intro e
            have := HOB.out _ e.symm
            omega
          · rw [List.length_append]; exact ownsRow_setCell_below hown6 (by exact hpb) _
          · exact DirC.snoc (by rw [HNK.out]) (hv _ _ HV.out) (HDC.out.imp hv)
          · refine ownsRow_setCell_below (((hownL.alloc (.cells #[.string nk, .slice (some ⟨vb, voff, none⟩) d.2.length vcap] 33)).drew).kept hgrow (.inr ?_)) (by show w.heap.size + 1 < _; have := HS2.out; omega) _
            intro e
            have := HOB.out g e.symm
            omega
          · exact HDL.out.imp hv
          · have h1 : (wr.alloc (.cells #[.string nk, .slice (some ⟨vb, voff, none⟩) d.2.length vcap] 33)).drew.heap.size ≤ w6.heap.size := hgrow.size
            have h2 : (wr.alloc (.cells #[.string nk, .slice (some ⟨vb, voff, none⟩) d.2.length vcap] 33)).drew.heap.size = wr.heap.size + 1 := by show (wr.alloc (.cells #[.string nk, .slice (some ⟨vb, voff, none⟩) d.2.length vcap] 33)).heap.size = _; simp
            simp [World.setCell]; omega
          · refine Below.setCell (((HB.out.alloc (by have := HB.out.size; omega) (.cells #[.string nk, .slice (some ⟨vb, voff, none⟩) d.2.length vcap] 33)).drew).grown hgrow (by show w.heap.size ≤ (wr.alloc (.cells #[.string nk, .slice (some ⟨vb, voff, none⟩) d.2.length vcap] 33)).heap.size; simp; have := HB.out.size; omega) (fun j hj => by have := HOB.out j hj; omega)) (by show w.heap.size ≤ w.heap.size + 1; omega) _
        case measure => simp [intOf]; omega
    · have hfin : Hid (acc = R) := by
        show acc = _
        have hkk : k = L.length := by omega
        rw [HA.out, hkk, HEND.out]
      have y0 := cell0_of HK1.out
      have y1 := cell1_of HK1.out
      have x0 := cell0_of HK0.out
      have x1 := cell1_of HK0.out
      have z0 := Lib.frozen_of_heap HK0.out 0
      have z1 := Lib.frozen_of_heap HK0.out 1
      have N1 : ¬ w.heap.size + 1 = w.heap.size := by omega
      have hpb : w.heap.size < w3.heap.size := by have := HZ.out; have := HS2.out; omega
      have hokb : (decide (0 < acc.length)) = (!R.isEmpty) := by rw [hfin.out]; cases R <;> simp
      have HOK := Lib.hid hokb
      clear hokb
      go_wp2_with fail
      go_region
      all_goals (try go_wp2_with fail)
      all_goals refine bodyPost_ret (v := .tuple #[.agg #[.slice oa acc.length oc, .bool false], .bool (decide (0 < acc.length))]) ?_ rfl ?_
      all_goals first
        | (rw [results_cell_tmp rfl]; go_simp; done)
        | (refine ⟨⟨.slice oa acc.length oc, by rw [HOK.out], ?_⟩, (HB.out.drew.setCell (by show _ ≤ w.heap.size; omega) _).setCell (by show _ ≤ w.heap.size; omega) _⟩
           rw [← hfin.out]
           refine dirs_in (ownsRow_setCell_below (ownsRow_setCell_below hown (by exact hpb) _) (by exact hpb) _) (HDC.out.imp fun sv vs h => ?_)
           exact ((h.below ((Below.refl _ wr).drew)).celled (by exact HK0.out) (by decide) _ _).celled (heap_setCell (by exact HK0.out) _ _) (by decide) _ _)
end Go.Proofs.YtgaeecphohlmpaaDoor
