/- policy.List: the policies of a header's value. -/
import Derived.Test.YtgaeecphohlmpaaDoorTxt
import Derived.Test.YtgaeecphohlmpaaDoorFls
import Derived.Deep.Cut
set_option linter.unusedVariables false
namespace Go.Proofs.YtgaeecphohlmpaaDoor
open Go.RowKit

theorem block_kept {w w' : World} {b : Nat} {cs : Array Value} {e1 e2 : TypeId} {fr : Nat × Nat} {B sz n : Nat} {v : Value} {xs : List Value} (hh : w.heap[b]? = some (.cells cs e1 fr)) (hown : w.ownsRow B e2 sz v n xs) (hne : e1 ≠ e2) (hg : w.grownBy w' v.ownBlock) : w'.heap[b]? = some (.cells cs e1 fr) := by
  refine (hg.block b (Array.getElem?_eq_some_iff.1 hh).1 ?_).trans hh
  intro e
  rcases hown.2 with ⟨rfl, _⟩ | ⟨g, cp, cur, rfl, _, h2, _⟩
  · cases e
  · have e2 : b = g := by simpa [Value.ownBlock] using e
    subst e2
    rw [hh] at h2
    injection h2 with h2
    injection h2 with _ h2 _
    exact hne h2
/-- A slice of directives, in a block of directives. -/
def DirV (w : World) (lv : Value) (ds : List Dir) : Prop :=
  (lv = .slice none 0 0 ∧ ds = []) ∨ ∃ b off cap cs fr, lv = .slice (some ⟨b, off, none⟩) ds.length cap ∧ ds.length ≤ cap ∧ cap ≤ maxLen ∧ w.heap[b]? = some (.cells cs 33 fr) ∧ ∀ i (hi : i < ds.length), cs[off + i * 2]? = some (.string ⟨ds[i].1.toArray⟩) ∧ ∃ sv, cs[off + i * 2 + 1]? = some sv ∧ ValsIn w sv ds[i].2
theorem dirC_vals {w : World} : ∀ {cs : List Value} {ds : List Dir}, DirC w cs ds → ∀ i (h : i < ds.length), cs[i * 2]? = some (.string ⟨ds[i].1.toArray⟩) ∧ ∃ sv, cs[i * 2 + 1]? = some sv ∧ ValsIn w sv ds[i].2
  | [], [], _, i, h => by simp at h
  | [], _ :: _, h, _, _ => by cases h
  | [_], [], h, _, _ => by cases h
  | [_], _ :: _, h, _, _ => by cases h
  | _ :: _ :: _, [], h, _, _ => by cases h
  | a :: b :: cs, d :: ds, h, 0, _ => ⟨by simp [h.1], b, by simp, h.2.1⟩
  | a :: b :: cs, d :: ds, h, i + 1, hi => by
    have := dirC_vals h.2.2 i (by simpa using hi)
    have e1 : (i + 1) * 2 = i * 2 + 2 := by omega
    rw [e1]
    simpa using this
theorem dirV_of {w : World} {B : Nat} {v : Value} {ds : List Dir} {cs : List Value} (h : w.ownsRow B 33 2 v ds.length cs) (hc : DirC w cs ds) : DirV w v ds := by
  rcases h.2 with ⟨rfl, h0⟩ | ⟨g, cap, cur, rfl, hg, hh, hle, hcm, hcs, htake⟩
  · exact .inl ⟨rfl, List.eq_nil_of_length_eq_zero h0⟩
  · refine .inr ⟨g, 0, cap, cur, _, rfl, hle, hcm, hh, fun i hi => ?_⟩
    obtain ⟨c1, sv, c2, c3⟩ := dirC_vals hc i hi
    have hadd : ∀ j, (⟨g, 0, none⟩ : Addr).add j = ⟨g, 0 + j, none⟩ := by intro j; unfold Addr.add; split <;> simp_all
    have r1 := h.cells (g := g) rfl _ _ c1
    have r2 := h.cells (g := g) rfl _ _ c2
    rw [hadd, Lib.cell_of_heap hh] at r1 r2
    exact ⟨r1, sv, by rw [← r2]; congr 1, c3⟩
theorem DirV.below {w w' : World} {lv : Value} {ds : List Dir} (h : DirV w lv ds) (hb : Below w.heap.size w w') : DirV w' lv ds := by
  rcases h with h | ⟨b, off, cap, cs, fr, h1, h2, h3, h4, h5⟩
  · exact .inl h
  · refine .inr ⟨b, off, cap, cs, fr, h1, h2, h3, (hb.block _ (Array.getElem?_eq_some_iff.1 h4).1).trans h4, fun i hi => ?_⟩
    obtain ⟨c1, sv, c2, c3⟩ := h5 i hi
    exact ⟨c1, sv, c2, c3.below hb⟩
theorem DirV.dirs {w : World} {lv : Value} {ds : List Dir} (h : DirV w lv ds) : DirsIn w lv ds := by
  rcases h with ⟨rfl, rfl⟩ | ⟨b, off, cap, cs, fr, h1, h2, h3, h4, h5⟩
  · exact ⟨none, 0, rfl, Nat.le_refl _, by unfold maxLen; omega, fun hne => absurd rfl hne⟩
  · refine ⟨_, cap, h1, h2, h3, fun _ => ⟨b, off, rfl, (Array.getElem?_eq_some_iff.1 h4).1, fun i hi => ?_⟩⟩
    obtain ⟨c1, sv, c2, c3⟩ := h5 i hi
    exact ⟨by rw [Lib.cell_of_heap h4]; exact c1, sv, by rw [Lib.cell_of_heap h4]; exact c2, vals_slice c3⟩
theorem ValsIn.grownP {w w' : World} {sv : Value} {vs : List (List UInt8)} (h : ValsIn w sv vs) {B n : Nat} {v : Value} {xs : List Value} (hown : w.ownsRow B 30 2 v n xs) (hg : w.grownBy w' v.ownBlock) : ValsIn w' sv vs := by
  obtain ⟨b, off, cap, cs, fr, h1, h2, h3, h4, h5⟩ := h
  exact ⟨b, off, cap, cs, fr, h1, h2, h3, block_kept h4 hown (by decide) hg, h5⟩
theorem DirV.grownP {w w' : World} {lv : Value} {ds : List Dir} (h : DirV w lv ds) {B n : Nat} {v : Value} {xs : List Value} (hown : w.ownsRow B 30 2 v n xs) (hg : w.grownBy w' v.ownBlock) : DirV w' lv ds := by
  rcases h with h | ⟨b, off, cap, cs, fr, h1, h2, h3, h4, h5⟩
  · exact .inl h
  · refine .inr ⟨b, off, cap, cs, fr, h1, h2, h3, block_kept h4 hown (by decide) hg, fun i hi => ?_⟩
    obtain ⟨c1, sv, c2, c3⟩ := h5 i hi
    exact ⟨c1, sv, c2, c3.grownP hown hg⟩

abbrev Pol := List Dir × Bool
/-- The cells of policies. -/
def PolC (w : World) : List Value → List Pol → Prop
  | [], [] => True
  | lv :: rv :: cs, p :: ps => rv = .bool p.2 ∧ DirV w lv p.1 ∧ PolC w cs ps
  | _, _ => False
theorem PolC.snoc {w : World} {lv rv : Value} {p : Pol} (h1 : rv = .bool p.2) (h2 : DirV w lv p.1) : ∀ {cs : List Value} {ps : List Pol}, PolC w cs ps → PolC w (cs ++ [lv, rv]) (ps ++ [p])
  | [], [], _ => ⟨h1, h2, trivial⟩
  | [], _ :: _, h => by cases h
  | [_], [], h => by cases h
  | [_], _ :: _, h => by cases h
  | _ :: _ :: _, [], h => by cases h
  | a :: b :: cs, e :: ps, h => ⟨h.1, h.2.1, PolC.snoc h1 h2 h.2.2⟩
theorem PolC.imp {w w' : World} (hk : ∀ lv ds, DirV w lv ds → DirV w' lv ds) : ∀ {cs : List Value} {ps : List Pol}, PolC w cs ps → PolC w' cs ps
  | [], [], h => trivial
  | [], _ :: _, h => by cases h
  | [_], [], h => by cases h
  | [_], _ :: _, h => by cases h
  | _ :: _ :: _, [], h => by cases h
  | a :: b :: cs, e :: ps, h => ⟨h.1, hk _ _ h.2.1, PolC.imp hk h.2.2⟩
theorem polC_at {w : World} : ∀ {cs : List Value} {ps : List Pol}, PolC w cs ps → ∀ i (h : i < ps.length), cs[i * 2 + 1]? = some (.bool ps[i].2) ∧ ∃ lv, cs[i * 2]? = some lv ∧ DirV w lv ps[i].1
  | [], [], _, i, h => by simp at h
  | [], _ :: _, h, _, _ => by cases h
  | [_], [], h, _, _ => by cases h
  | [_], _ :: _, h, _, _ => by cases h
  | _ :: _ :: _, [], h, _, _ => by cases h
  | a :: b :: cs, d :: ps, h, 0, _ => ⟨by simp [h.1], a, by simp, h.2.1⟩
  | a :: b :: cs, d :: ps, h, i + 1, hi => by
    have := polC_at h.2.2 i (by simpa using hi)
    have e1 : (i + 1) * 2 = i * 2 + 2 := by omega
    rw [e1]
    simpa using this
/-- A slice of policies, as it is read. -/
def PolsIn (w : World) (v : Value) (ps : List Pol) : Prop :=
  ∃ ao cap, v = .slice ao ps.length cap ∧ ps.length ≤ cap ∧ cap ≤ maxLen ∧ (ps ≠ [] → ∃ b off, ao = some ⟨b, off, none⟩ ∧ b < w.heap.size ∧ ∀ i (h : i < ps.length), w.cell? ⟨b, off + i * 2 + 1, none⟩ = some (.bool ps[i].2) ∧ ∃ lv, w.cell? ⟨b, off + i * 2, none⟩ = some lv ∧ DirsIn w lv ps[i].1)
theorem PolsIn.below {w w' : World} {v : Value} {ps : List Pol} (h : PolsIn w v ps) (hb : Below w.heap.size w w') : PolsIn w' v ps := by
  obtain ⟨ao, cap, h1, h2, h3, h4⟩ := h
  refine ⟨ao, cap, h1, h2, h3, fun hne => ?_⟩
  obtain ⟨b, off, ha, hlt, hc⟩ := h4 hne
  refine ⟨b, off, ha, Nat.lt_of_lt_of_le hlt hb.size, fun i hi => ?_⟩
  obtain ⟨c1, lv, c2, c3⟩ := hc i hi
  exact ⟨(hb.cell (p := ⟨b, off + i * 2 + 1, none⟩) hlt).trans c1, lv, (hb.cell (p := ⟨b, off + i * 2, none⟩) hlt).trans c2, c3.below hb⟩
theorem PolsIn.at {w : World} {v : Value} {ps : List Pol} (h : PolsIn w v ps) {i : Nat} (hi : i < ps.length) : ∃ b off cap lv, v = .slice (some ⟨b, off, none⟩) ps.length cap ∧ b < w.heap.size ∧ w.cell? ⟨b, off + i * 2, none⟩ = some lv ∧ w.cell? ⟨b, off + i * 2 + 1, none⟩ = some (.bool ps[i].2) ∧ DirsIn w lv ps[i].1 := by
  obtain ⟨ao, cap, h1, h2, h3, h4⟩ := h
  obtain ⟨b, off, ha, hlt, hc⟩ := h4 (by intro e; rw [e] at hi; simp at hi)
  obtain ⟨c1, lv, c2, c3⟩ := hc i hi
  exact ⟨b, off, cap, lv, by rw [h1, ha], hlt, c2, c1, c3⟩
theorem PolsIn.shape {w : World} {v : Value} {ps : List Pol} (h : PolsIn w v ps) : ∃ ao cap, v = .slice ao ps.length cap := by
  obtain ⟨ao, cap, h1, _⟩ := h
  exact ⟨ao, cap, h1⟩
theorem pols_in {w : World} {B : Nat} {v : Value} {ps : List Pol} {cs : List Value} (h : w.ownsRow B 30 2 v ps.length cs) (hc : PolC w cs ps) : PolsIn w v ps := by
  rcases h.2 with ⟨rfl, h0⟩ | ⟨g, cap, cur, rfl, hg, hh, hle, hcm, hcs, htake⟩
  · exact ⟨none, 0, by rw [h0], by omega, by unfold maxLen; omega, fun hne => absurd (List.length_eq_zero_iff.1 h0) hne⟩
  · refine ⟨_, cap, rfl, hle, hcm, fun hne => ⟨g, 0, rfl, (Array.getElem?_eq_some_iff.1 hh).1, fun i hi => ?_⟩⟩
    obtain ⟨c1, lv, c2, c3⟩ := polC_at hc i hi
    have hadd : ∀ j, (⟨g, 0, none⟩ : Addr).add j = ⟨g, 0 + j, none⟩ := by intro j; unfold Addr.add; split <;> simp_all
    have r1 := h.cells (g := g) rfl _ _ c1
    have r2 := h.cells (g := g) rfl _ _ c2
    rw [hadd] at r1 r2
    exact ⟨r1, lv, r2, c3.dirs⟩

def addP (rep : Bool) (acc : List Pol) (p : List UInt8) : List Pol := if oneL p = [] then acc else acc ++ [(oneL p, rep)]
def listL (s : List UInt8) (rep : Bool) : List Pol := (spl 44 s).foldl (addP rep) []
theorem infoPol : (Tryd.prog.info? 30).map (fun i => (i.zero, i.size, i.bytes)) = some (some (.agg #[.slice none 0 0, .bool false]), 2, 32) := by kernel_rfl

set_option maxHeartbeats 4000000 in
set_option maxRecDepth 100000 in
theorem plist_any (s : ByteArray) (rep : Bool) (m : Int) (w : World) (hs : s.size ≤ 1073741824) (hm : MaxOk m w) :
    Calls Tryd.prog 33 #[.string s, .bool rep] w fun e w' => (∃ v cs, e = .returned v ∧ w'.ownsRow w.heap.size 30 2 v (listL s.data.toList rep).length cs ∧ PolC w' cs (listL s.data.toList rep)) ∧ Below w.heap.size w w' := by
  obtain ⟨ps, h1, h2, h3⟩ := split_facts s 44
  have hc := Tryd.strings_Split s ⟨#[44]⟩ m w (by omega) hm (by decide)
  rw [h1, h2] at hc
  have HC := Lib.hid hc
  have hN : ps.length ≤ s.size + 1 := by
    have h4 := congrArg List.length h3
    rw [List.length_map] at h4
    rw [h4]
    simpa using spl_len 44 s.data.toList
  have H3 := Lib.hid h3
  have HM := Lib.hid hm
  clear h1 h2 h3 hc hm
  obtain ⟨i0, hi0, hz0, hz1, hz2⟩ := info_parts infoPol
  go_enter Tryd.func33, Tryd.ntmps33
  go_wp2_with (go_at_call 43; refine HC.out.mono ?_; rintro e w' ⟨rfl, rfl⟩)
  go_loopw [5, 12] (fun l i wr => ∃ (k : Nat) (acc : List Pol) (cs : List Value), k ≤ ps.length ∧ i = .int .i64 k ∧ Hid (acc = ((spl 44 s.data.toList).take k).foldl (addP rep) []) ∧ acc.length ≤ k ∧ Hid (wr.heap[w.heap.size]? = some (.cells (ps.map Value.string).toArray 9 (0, 0))) ∧ wr.ownsRow (w.heap.size + 1) 30 2 l acc.length cs ∧ Hid (PolC wr cs acc) ∧ w.heap.size + 1 ≤ wr.heap.size ∧ Below w.heap.size w wr) (fun _ i _ => ps.length - (intOf i).toNat)
  case atStart =>
    exact ⟨0, [], [], Nat.zero_le _, rfl, rfl, Nat.le_refl _, heap_alloc_new w _, World.ownsRow_nil _ _ _ _, trivial, by simp, (Below.refl _ w).alloc (Nat.le_refl _) _⟩
  case round =>
    obtain ⟨k, acc, cs, hk, rfl, HA, hacc, HP, hown, HPC, hsz, hb⟩ := hrel
    by_cases hlt : k < ps.length
    · obtain ⟨t, htp⟩ : ∃ t, ps[k]? = some t := ⟨_, List.getElem?_eq_getElem hlt⟩
      have hx : (spl 44 s.data.toList)[k]? = some t.data.toList := by
        rw [← H3.out, List.getElem?_map, htp]; rfl
      have hts : t.size ≤ s.size := by
        have := spl_mem (List.mem_of_getElem? hx)
        simpa using this
      have hcell : wr.cell? ⟨w.heap.size, k, none⟩ = some (.string t) := by
        rw [Lib.cell_of_heap HP.out]; simp [htp]
      have HT : Hid (((spl 44 s.data.toList).take (k + 1)).foldl (addP rep) [] = addP rep acc t.data.toList) := by
        show _ = _
        obtain ⟨hk3, hk4⟩ := List.getElem?_eq_some_iff.1 hx
        rw [List.take_succ_eq_append_getElem hk3, hk4, List.foldl_append, ← HA.out]
        rfl
      have hki : (k : Int) < ps.length := by omega
      have HM1 := Lib.hid (HM.out.below hb)
      have HO := Lib.hid (pone_any t m wr (by omega) HM1.out)
      have hll := Lib.hid (oneL_len t.data.toList)
      have htl : Hid (t.data.toList.length = t.size) := by show t.data.toList.length = t.size; simp
      clear htp hx
      obtain ⟨D, hD⟩ : ∃ D, oneL t.data.toList = D := ⟨_, rfl⟩
      have HD := Lib.hid hD
      rw [hD] at HO hll
      clear hD
      go_wp2_with fail
      refine HO.out.mono ?_
      rintro e w1 ⟨⟨v1, cs1, rfl, o1, c1⟩, b1⟩
      have B1 := Lib.hid b1
      have V1 := Lib.hid (dirV_of o1 c1)
      obtain ⟨va, vc, rfl⟩ := owns_shape o1
      have hown1 := owns_below hown b1
      have HPC1 := Lib.hid (HPC.out.imp fun sv vs h => h.below b1)
      have hsz1 := Nat.le_trans hsz b1.size
      have HP1 : Hid (w1.heap[w.heap.size]? = some (.cells (ps.map Value.string).toArray 9 (0, 0))) := (b1.block _ (Array.getElem?_eq_some_iff.1 HP.out).1).trans HP.out
      have hdl : D.length ≤ 1099511627776 := by have := hll.out; rw [htl.out] at this; omega
      have HB1 : Hid (Below w.heap.size w w1) := hb.trans (b1.mono (by omega))
      clear o1 c1 b1 hown hcell
      by_cases h0 : D = []
      · subst h0
        have HAD : Hid (addP rep acc t.data.toList = acc) := by show _ = _; unfold addP; rw [if_pos HD.out]
        go_wp2_with fail
        go_roundw
        case rel => exact ⟨k + 1, acc, cs, by omega, by go_num, by rw [HT.out, HAD.out]; exact rfl, by omega, HP1.out, hown1, HPC1.out, hsz1, HB1.out⟩
        case measure => simp [intOf]; omega
      · have HAD : Hid (addP rep acc t.data.toList = acc ++ [(D, rep)]) := by show _ = _; unfold addP; rw [HD.out, if_neg h0]
        have hpos : (0 : Int) < D.length := by have := List.length_pos_iff.2 h0; omega
        have N2 : Hid (∀ u ∈ ([.slice va D.length vc, .bool rep] : List Value), u.oneCell' = true) := by
          intro u hu
          simp at hu
          rcases hu with rfl | rfl <;> rfl
        clear h0
        go_wp2_with (at_builtin; refine wpList_append_own _ rfl _ _ 47 rfl (w.heap.size + 1) 30 i0 _ 2 32 Tryd.underlying47 hi0 hz0 hz1 hz2 rfl (by decide) _ _ _ rfl (hown1.alloc _) ⟨w1.heap.size, 0, none⟩ 1 1 [.slice va D.length vc, .bool rep] rfl rfl (news2 w1 _ _ _) N2.out (by unfold maxLen; omega) (by omega) (by simp; omega) ?_; intro v' w4 hown4 hg4 hnil4; clear hnil4)
        go_roundw
        case rel =>
          have al : Below w1.heap.size w1 (w1.alloc (.cells #[.slice va D.length vc, .bool rep] 30)) := (Below.refl _ w1).alloc (Nat.le_refl _) _
          refine ⟨k + 1, acc ++ [(D, rep)], _, by omega, by go_num, by rw [HT.out, HAD.out]; exact rfl, by simp; omega, ?_, by rw [List.length_append]; exact hown4, ?_, ?_, ?_⟩
          · exact (hg4.block _ (by simp; omega) (own_ne hown1 (by omega))).trans ((Below.heap_alloc w1 _ _ (by omega)).trans HP1.out)
          · exact PolC.snoc (p := (D, rep)) rfl ((V1.out.below al).grownP (hown1.alloc _) hg4) (HPC1.out.imp fun lv ds h => (h.below al).grownP (hown1.alloc _) hg4)
          · exact Nat.le_trans (by simp; omega) hg4.size
          · exact (HB1.out.alloc (by omega) _).grown hg4 (by simp; omega) (fun j hj => by have := (hown1.lt j hj).1; omega)
        case measure => simp [intOf]; omega
    · have hfin : Hid (acc = listL s.data.toList rep) := by
        show acc = _
        have hkk : k = (spl 44 s.data.toList).length := by rw [← H3.out, List.length_map]; omega
        rw [HA.out, hkk, List.take_length]
        rfl
      go_wp2_with fail
      go_ret
      exact ⟨⟨_, cs, by exact rfl, by rw [← hfin.out]; exact owns_mono hown (by omega), by rw [← hfin.out]; exact HPC.out⟩, hb⟩
end Go.Proofs.YtgaeecphohlmpaaDoor
