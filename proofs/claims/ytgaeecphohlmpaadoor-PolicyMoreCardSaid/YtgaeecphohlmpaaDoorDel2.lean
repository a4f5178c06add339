/- slices.DeleteFunc with policy.Meta's closure, and policy.Meta. -/
import Derived.Test.YtgaeecphohlmpaaDoorDel
import Derived.Deep.Cut
set_option linter.unusedVariables false
namespace Go.Proofs.YtgaeecphohlmpaaDoor
open Go.RowKit

theorem dirC_take {w : World} : ∀ {cs : List Value} {ds : List Dir} (k : Nat), DirC w cs ds → DirC w (cs.take (k * 2)) (ds.take k)
  | [], [], k, h => by simp; trivial
  | [], _ :: _, _, h => by cases h
  | [_], [], _, h => by cases h
  | [_], _ :: _, _, h => by cases h
  | _ :: _ :: _, [], _, h => by cases h
  | a :: b :: cs, d :: ds, 0, h => by simp; trivial
  | a :: b :: cs, d :: ds, k + 1, h => by
    have := dirC_take k h.2.2
    have e1 : (k + 1) * 2 = k * 2 + 1 + 1 := by omega
    rw [e1]
    exact ⟨h.1, h.2.1, this⟩
theorem dirC_drop {w : World} : ∀ {cs : List Value} {ds : List Dir} (k : Nat), DirC w cs ds → DirC w (cs.drop (k * 2)) (ds.drop k)
  | [], [], k, h => by simp; trivial
  | [], _ :: _, _, h => by cases h
  | [_], [], _, h => by cases h
  | [_], _ :: _, _, h => by cases h
  | _ :: _ :: _, [], _, h => by cases h
  | a :: b :: cs, d :: ds, 0, h => by simpa using h
  | a :: b :: cs, d :: ds, k + 1, h => by
    have := dirC_drop k h.2.2
    have e1 : (k + 1) * 2 = k * 2 + 1 + 1 := by omega
    rw [e1]
    exact this
theorem dirC_head {w : World} {cs : List Value} {d : Dir} {ds : List Dir} (h : DirC w cs (d :: ds)) : ∃ n sv cs', cs = n :: sv :: cs' ∧ n = .string ⟨d.1.toArray⟩ ∧ ValsIn w sv d.2 ∧ DirC w cs' ds := by
  match cs, h with
  | n :: sv :: cs', h => exact ⟨n, sv, cs', rfl, h.1, h.2.1, h.2.2⟩
/-- What is stored into a row of directives is in no text's block. -/
theorem ValsIn.stored {w : World} {sv : Value} {vs : List (List UInt8)} (h : ValsIn w sv vs) {B n g cap k : Nat} {xs : List Value} (hown : w.ownsRow B 33 2 (.slice (some ⟨g, 0, none⟩) n cap) n xs) (u : Value) : ValsIn (w.setCell ⟨g, k, none⟩ u) sv vs := by
  obtain ⟨b, off, cap', cs, fr, h1, h2, h3, h4, h5⟩ := h
  refine ⟨b, off, cap', cs, fr, h1, h2, h3, ?_, h5⟩
  have hne : b ≠ g := by
    rintro rfl
    rcases hown.2 with ⟨e, _⟩ | ⟨g', cp, cur, e, _, hh, _⟩
    · cases e
    · injection e with e _ _
      injection e with e
      injection e with e _
      subst e
      rw [h4] at hh
      injection hh with hh
      injection hh with _ hh _
      cases hh
  unfold World.setCell
  simp only [Array.getElem?_modify]
  rw [if_neg (fun e => hne e.symm)]
  exact h4
theorem ValsIn.rowed {w : World} {sv : Value} {vs : List (List UInt8)} (h : ValsIn w sv vs) {g : Nat} {cur : Array Value} {fz : Nat × Nat} (hh : w.heap[g]? = some (.cells cur 33 fz)) (cs : Array Value) : ValsIn (w.setRow g cs) sv vs := by
  obtain ⟨b, off, cap', cs', fr, h1, h2, h3, h4, h5⟩ := h
  have hne : b ≠ g := by
    rintro rfl
    rw [h4] at hh
    injection hh with hh
    injection hh with _ hh _
    cases hh
  exact ⟨b, off, cap', cs', fr, h1, h2, h3, (setRow_other w g b cs hne).trans h4, h5⟩
theorem size_zc (z : Array Value) (n : Nat) : (Builtin.zeroCells z n).toList.length = n * z.size := by simp [Builtin.zeroCells]
theorem run_clear_row {P : Program} (w : World) (t e ty : TypeId) (z : Value) (ht : P.underlying t = some (.slice e)) (hv : ∀ w, (zeroValue e).run P w = .ok z w) (h1 : ∀ u ∈ z.cells, u.oneCell' = true) (g o m c : Nat) (cur : Array Value)
    (hg : w.heap[g]? = some (.cells cur e (0, 0))) (hfit : o + m * z.cells.size ≤ cur.size) :
    (Builtin.clear_ #[t] ty #[.slice (some ⟨g, o, none⟩) m c]).run P w = .ok (.tuple #[]) (w.setRow g (cur.toList.take o ++ (Builtin.zeroCells z.cells m).toList ++ cur.toList.drop (o + m * z.cells.size)).toArray) := by
  have hone : ∀ u ∈ (Builtin.zeroCells z.cells m).toList, u.oneCell' = true := by
    intro u hu
    have : u ∈ z.cells := by
      simp only [Builtin.zeroCells, Array.mem_toList_iff, Array.mem_map, Array.mem_range] at hu
      obtain ⟨i, hi, rfl⟩ := hu
      have hp : 0 < z.cells.size := by
        rcases Nat.eq_zero_or_pos z.cells.size with h0 | h0
        · rw [h0] at hi; simp at hi
        · exact h0
      have hlt : i % z.cells.size < z.cells.size := Nat.mod_lt _ hp
      rw [getElem!_pos z.cells _ hlt]
      exact Array.getElem_mem hlt
    exact h1 u this
  have hst := run_storeCells_at (P := P) g o e (Builtin.zeroCells z.cells m).toList 0 cur w hg (by rw [size_zc]; exact hfit) hone
  rw [size_zc] at hst
  simp only [Nat.add_zero] at hst
  cases m with
  | zero =>
    have hz : (Builtin.zeroCells z.cells 0).toList = [] := List.length_eq_zero_iff.1 (by rw [size_zc]; simp)
    rw [hz]
    simp only [Nat.zero_mul, Nat.add_zero, List.append_nil, List.take_append_drop, Array.toArray_toList]
    rw [setRow_self w g cur e (0, 0) hg]
    simp [Builtin.clear_, run_underlying ht]
  | succ m => simp [Builtin.clear_, run_underlying ht, hv, hst]
theorem zeroD (w : World) : (zeroValue 33).run Tryd.prog w = .ok (.agg #[.string ⟨#[]⟩, .slice none 0 0]) w := by kernel_rfl

theorem set2_take {α : Type} {CS : List α} {i : Nat} (h : i * 2 + 1 < CS.length) (a b : α) : ((CS.set (i * 2) a).set (i * 2 + 1) b).take ((i + 1) * 2) = CS.take (i * 2) ++ [a, b] := by
  apply List.ext_getElem?
  intro q
  have e1 : (i + 1) * 2 = i * 2 + 2 := by omega
  rw [e1, List.getElem?_take, List.getElem?_append]
  have hlen : (CS.take (i * 2)).length = i * 2 := by rw [List.length_take]; omega
  rw [hlen]
  by_cases h1 : q < i * 2
  · rw [if_pos (by omega), if_pos h1, List.getElem?_set_ne (by omega), List.getElem?_set_ne (by omega), List.getElem?_take, if_pos h1]
  · rw [if_neg h1]
    by_cases h2 : q = i * 2
    · subst h2
      rw [if_pos (by omega), List.getElem?_set_ne (by omega), List.getElem?_set_self (by omega)]
      simp
    · by_cases h3 : q = i * 2 + 1
      · subst h3
        rw [if_pos (by omega), List.getElem?_set_self (by simp; omega)]
        simp
      · rw [if_neg (by omega)]
        have : q - i * 2 ≥ 2 := by omega
        rw [List.getElem?_eq_none (by simpa using this)]
theorem set2_drop {α : Type} {CS : List α} {i j : Nat} (h : i < j) (a b : α) : ((CS.set (i * 2) a).set (i * 2 + 1) b).drop ((j + 1) * 2) = CS.drop ((j + 1) * 2) := by
  rw [List.drop_set_of_lt (by omega), List.drop_set_of_lt (by omega)]
theorem metaL_step {ds : List Dir} {j : Nat} {d : Dir} (h : ds[j]? = some d) : metaL (ds.take (j + 1)) = if hdrB d.1 then metaL (ds.take j) else metaL (ds.take j) ++ [d] := by
  unfold metaL
  rw [List.take_add_one, h, Option.toList_some, List.filter_append]
  cases hb : hdrB d.1 <;> simp [hb]

set_option maxHeartbeats 3200000 in
set_option maxRecDepth 100000 in
theorem delete_any (v : Value) (ds : List Dir) (cs : List Value) (B : Nat) (w : World) (hown : w.ownsRow B 33 2 v ds.length cs) (hdc : DirC w cs ds) (hB : B ≤ w.heap.size) (hl : ds.length ≤ 1099511627776) :
    Calls Tryd.prog 41 #[v, .func (.func 42) #[] #[]] w fun e w' => (∃ v' cs', e = .returned v' ∧ w'.ownsRow B 33 2 v' (metaL ds).length cs' ∧ DirC w' cs' (metaL ds)) ∧ Below B w w' := by
  have hin := dirs_in hown hdc
  rcases hdrAt_cases ds with ⟨h1, h2⟩ | ⟨k, h1, hk, h2⟩
  · have HI := midx_any v ds w hin hl
    rw [h1] at HI
    rw [h2]
    clear h2 hin
    go_enter Tryd.func41, Tryd.ntmps41
    go_wp2_with fail
    refine HI.mono ?_
    rintro e w1 ⟨rfl, b1⟩
    go_wp2_with fail
    go_ret
    exact ⟨⟨v, cs, by exact rfl, owns_below hown b1, hdc.imp fun sv vs h => h.below b1⟩, b1.mono hB⟩
  · have HI := midx_any v ds w hin hl
    rw [h1] at HI
    clear hin h1
    have HM := Lib.hid h2
    clear h2
    have hvs : ∃ g cap, v = .slice (some ⟨g, 0, none⟩) ds.length cap ∧ B ≤ g ∧ g < w.heap.size ∧ ds.length ≤ cap ∧ cap ≤ maxLen := by
      rcases hown.2 with ⟨_, h0⟩ | ⟨g, cap, cur, rfl, hg, hh, hle, hcm, _, _⟩
      · omega
      · exact ⟨g, cap, rfl, hg, (Array.getElem?_eq_some_iff.1 hh).1, hle, hcm⟩
    obtain ⟨g, cap, rfl, hgB, hgw, hcap, hcm⟩ := hvs
    unfold maxLen at hcm
    have hki : (k : Int) < ds.length := by omega
    go_enter Tryd.func41, Tryd.ntmps41
    go_wp2_with fail
    refine HI.mono ?_
    rintro e w1 ⟨rfl, b1⟩
    have hown1 := owns_below hown b1
    have hdc1 := hdc.imp fun sv vs h => h.below b1
    have hb1 := b1.mono hB
    have hB1 : B ≤ w1.heap.size := Nat.le_trans hB b1.size
    have hgw1 : g < w1.heap.size := Nat.lt_of_lt_of_le hgw b1.size
    clear hown hdc HI b1 hgw
    go_wp2_with fail
    go_loopw [5, 6] (fun si sj wr => ∃ (i j : Nat) (CS : List Value), j ≤ ds.length ∧ i < j ∧ si = .int .i64 i ∧ sj = .int .i64 j ∧ Hid (i = (metaL (ds.take j)).length) ∧ wr.ownsRow B 33 2 (.slice (some ⟨g, 0, none⟩) ds.length cap) ds.length CS ∧ Hid (DirC wr (CS.take (i * 2)) (metaL (ds.take j))) ∧ Hid (DirC wr (CS.drop (j * 2)) (ds.drop j)) ∧ B ≤ wr.heap.size ∧ g < wr.heap.size ∧ Below B w wr) (fun _ sj _ => ds.length - (intOf sj).toNat)
    case atStart =>
      refine ⟨k, k + 1, cs, by omega, by omega, rfl, by go_num, ?_, hown1, ?_, dirC_drop (k + 1) hdc1, hB1, hgw1, hb1⟩
      · show _ = _
        rw [HM.out, List.length_take]; omega
      · show DirC _ _ _
        rw [HM.out]
        exact dirC_take k hdc1
    case round =>
      obtain ⟨i, j, CS, hj, hij, rfl, rfl, hi, hown, hd1, hd2, hBw, hgw, hb⟩ := hrel
      by_cases hlt : j < ds.length
      · obtain ⟨d, hd⟩ : ∃ d, ds[j]? = some d := ⟨_, List.getElem?_eq_getElem hlt⟩
        obtain ⟨hj1, hj2⟩ := List.getElem?_eq_some_iff.1 hd
        have hdd : ds.drop j = d :: ds.drop (j + 1) := by rw [List.drop_eq_getElem_cons hj1, hj2]
        have hd2' := hd2.out
        rw [hdd] at hd2'
        obtain ⟨n0, sv, cs', hcs, hn0, hvals, hrest⟩ := dirC_head hd2'
        have hc0 : CS[j * 2]? = some n0 := by
          have : (CS.drop (j * 2))[0]? = some n0 := by rw [hcs]; rfl
          simpa using this
        have hc1 : CS[j * 2 + 1]? = some sv := by
          have : (CS.drop (j * 2))[1]? = some sv := by rw [hcs]; rfl
          simpa using this
        have hdr : CS.drop ((j + 1) * 2) = cs' := by
          have e1 : (j + 1) * 2 = j * 2 + 2 := by omega
          rw [e1, ← List.drop_drop, hcs]
          rfl
        have hadd : ∀ q, (⟨g, 0, none⟩ : Addr).add q = ⟨g, 0 + q, none⟩ := by intro q; unfold Addr.add; split <;> simp_all
        have r0 := hown.cells (g := g) rfl _ _ hc0
        have r1 := hown.cells (g := g) rfl _ _ hc1
        rw [hadd, Nat.zero_add] at r0 r1
        have hCl := hown.1
        obtain ⟨u0, hu0⟩ : ∃ u, CS[i * 2]? = some u := ⟨_, List.getElem?_eq_getElem (by omega)⟩
        obtain ⟨u1, hu1⟩ : ∃ u, CS[i * 2 + 1]? = some u := ⟨_, List.getElem?_eq_getElem (by omega)⟩
        have s0 := hown.cells (g := g) rfl _ _ hu0
        have s1 := hown.cells (g := g) rfl _ _ hu1
        rw [hadd, Nat.zero_add] at s0 s1
        have z0 := owns_free hown rfl (i * 2)
        have z1 := owns_free hown rfl (i * 2 + 1)
        obtain ⟨vb, voff, vcap, vcs, vfr, hvv, hv1, hv2, hv3, hv4⟩ := id hvals
        subst hvv
        rw [hn0] at r0
        obtain ⟨dn, hdn⟩ : ∃ dn : ByteArray, (⟨d.1.toArray⟩ : ByteArray) = dn := ⟨_, rfl⟩
        have hdl : Hid (dn.data.toList = d.1) := by show dn.data.toList = _; rw [← hdn]
        have HDN := Lib.hid hdn
        rw [hdn] at r0
        have HV := Lib.hid hvals
        have HR := Lib.hid hrest
        have HDR := Lib.hid hdr
        have HST := Lib.hid (metaL_step hd)
        have HCL := Lib.hid hCl
        have hji : (j : Int) < ds.length := by omega
        have hii : (i : Int) < ds.length := by omega
        clear hd hj1 hj2 hdd hd2 hd2' hcs hn0 hvals hrest hc0 hc1 hdr hadd hu0 hu1 hdn hCl hv3 hv4
        go_upto_region 8 with fail
        obtain ⟨W2, hW2⟩ : ∃ W2, W2 = wr.alloc (.cells #[.string dn, .slice (some ⟨vb, voff, none⟩) d.2.length vcap] 33) := ⟨_, rfl⟩
        have hb2w : Below wr.heap.size wr W2 := by rw [hW2]; exact (Below.refl _ wr).alloc (Nat.le_refl _) _
        have y0 : W2.cell? ⟨wr.heap.size, 0, none⟩ = some (.string dn) := by rw [hW2, Lib.cell_of_heap (heap_alloc_new wr _)]; rfl
        have y1 : W2.cell? ⟨wr.heap.size, 1, none⟩ = some (.slice (some ⟨vb, voff, none⟩) d.2.length vcap) := by rw [hW2, Lib.cell_of_heap (heap_alloc_new wr _)]; rfl
        have hltw : wr.heap.size < W2.heap.size := by rw [hW2]; simp
        rw [← hW2]
        clear hW2
        have HMD := Lib.hid (mdel_any dn (.slice (some ⟨vb, voff, none⟩) d.2.length vcap) W2)
        rw [hdl.out] at HMD
        have HB2 := Lib.hid hb2w
        have HLT := Lib.hid hltw
        clear hb2w hltw r0 r1
        cases hh : hdrB d.1 with
        | true =>
          rw [hh] at HMD HST
          have hst : Hid (metaL (ds.take (j + 1)) = metaL (ds.take j)) := HST.out
          clear hh
          go_wp2_with fail
          refine HMD.out.mono ?_
          rintro e w3 ⟨rfl, b3⟩
          have B3 : Hid (Below wr.heap.size wr w3) := HB2.out.trans (b3.mono (Nat.le_of_lt HLT.out))
          clear b3 s0 s1 z0 z1 y0 y1
          go_wp2_with fail
          go_roundw
          case rel =>
            refine ⟨_, _, _, _, _, _, _, _, _, _, _, _, _, _, _, _, _, _, _, _, _, _, _, ⟨i, j + 1, CS, by omega, by omega, rfl, by go_num, ?_, owns_below hown B3.out, ?_, ?_, Nat.le_trans hBw B3.out.size, Nat.lt_of_lt_of_le hgw B3.out.size, hb.trans (B3.out.mono hBw)⟩, rfl⟩
            · show _ = _
              rw [hst.out]; exact hi.out
            · show DirC _ _ _
              rw [hst.out]; exact hd1.out.imp fun sv vs h => h.below B3.out
            · show DirC _ _ _
              rw [HDR.out]; exact HR.out.imp fun sv vs h => h.below B3.out
          case measure => simp [intOf]; omega
        | false =>
          rw [hh] at HMD HST
          have hst : Hid (metaL (ds.take (j + 1)) = metaL (ds.take j) ++ [d]) := HST.out
          clear hh
          go_wp2_with fail
          refine HMD.out.mono ?_
          rintro e w3 ⟨rfl, b3⟩
          have B3 : Hid (Below wr.heap.size wr w3) := HB2.out.trans (b3.mono (Nat.le_of_lt HLT.out))
          have t0 : w3.cell? ⟨wr.heap.size, 0, none⟩ = some (.string dn) := (b3.cell (p := ⟨wr.heap.size, 0, none⟩) HLT.out).trans y0
          have t1 : w3.cell? ⟨wr.heap.size, 1, none⟩ = some (.slice (some ⟨vb, voff, none⟩) d.2.length vcap) := (b3.cell (p := ⟨wr.heap.size, 1, none⟩) HLT.out).trans y1
          have v0 : w3.cell? ⟨g, i * 2, none⟩ = some u0 := (B3.out.cell (p := ⟨g, i * 2, none⟩) hgw).trans s0
          have v1 : w3.cell? ⟨g, i * 2 + 1, none⟩ = some u1 := (B3.out.cell (p := ⟨g, i * 2 + 1, none⟩) hgw).trans s1
          have x0 : w3.frozen? ⟨g, i * 2, none⟩ = false := (B3.out.frozen (p := ⟨g, i * 2, none⟩) hgw).trans z0
          have x1 : w3.frozen? ⟨g, i * 2 + 1, none⟩ = false := (B3.out.frozen (p := ⟨g, i * 2 + 1, none⟩) hgw).trans z1
          have O3 := Lib.hid (owns_below hown B3.out)
          have hB3 := Nat.le_trans hBw B3.out.size
          have hg3 := Nat.lt_of_lt_of_le hgw B3.out.size
          clear b3 s0 s1 z0 z1 y0 y1 hown
          go_wp2_with fail
          go_roundw
          case rel =>
            have o4 := owns_set (k := i * 2) O3.out rfl (.string dn)
            have o5 := owns_set (k := i * 2 + 1) o4 rfl (.slice (some ⟨vb, voff, none⟩) d.2.length vcap)
            have hst2 : ∀ sv vs, ValsIn wr sv vs → ValsIn ((w3.setCell ⟨g, i * 2, none⟩ (.string dn)).setCell ⟨g, i * 2 + 1, none⟩ (.slice (some ⟨vb, voff, none⟩) d.2.length vcap)) sv vs := fun sv vs h => ((h.below B3.out).stored O3.out _).stored o4 _
            refine ⟨_, _, _, _, _, _, _, _, _, _, _, _, _, _, _, _, _, _, _, _, _, _, _, ⟨i + 1, j + 1, _, by omega, by omega, by go_num, by go_num, ?_, o5, ?_, ?_, by simp [World.setCell]; omega, by simp [World.setCell]; omega, ((hb.trans (B3.out.mono hBw)).setCell (by exact hgB) _).setCell (by exact hgB) _⟩, rfl⟩
            · show _ = _
              rw [hst.out, List.length_append, ← hi.out]; rfl
            · show DirC _ _ _
              rw [hst.out, set2_take (by have := HCL.out; omega)]
              exact DirC.snoc (by rw [HDN.out]) (hst2 _ _ HV.out) (hd1.out.imp hst2)
            · show DirC _ _ _
              rw [set2_drop hij, HDR.out]
              exact HR.out.imp hst2
          case measure => simp [intOf]; omega
      · have hjj : j = ds.length := by omega
        have hml : Hid (metaL (ds.take j) = metaL ds) := by show _ = _; rw [hjj, List.take_length]
        rcases hown.2 with ⟨e, _⟩ | ⟨g', cp', cur, e, _, hh, hle, hcm2, hcs, htake⟩
        · cases e
        injection e with e _ e3
        injection e with e
        injection e with e _
        subst e e3
        have hcl := run_clear_row (P := Tryd.prog) wr 28 33 0 (.agg #[.string ⟨#[]⟩, .slice none 0 0]) Tryd.underlying28 zeroD (by decide) g (i * 2) (ds.length - i) (cap - i) cur hh (by show i * 2 + (ds.length - i) * 2 ≤ _; omega)
        obtain ⟨WC, hWC⟩ : ∃ WC, wr.setRow g (cur.toList.take (i * 2) ++ (Builtin.zeroCells (Value.agg #[.string ⟨#[]⟩, .slice none 0 0]).cells (ds.length - i)).toList ++ cur.toList.drop (i * 2 + (ds.length - i) * (Value.agg #[.string ⟨#[]⟩, .slice none 0 0]).cells.size)).toArray = WC := ⟨_, rfl⟩
        rw [hWC] at hcl
        have HWC := Lib.hid hWC
        have hii : (i : Int) < ds.length := by omega
        have hic : (i : Int) < cap := by omega
        clear hWC
        have OW : WC.ownsRow B 33 2 (.slice (some ⟨g, 0, none⟩) i cap) (metaL ds).length (CS.take (i * 2)) := by
          have hil : i = (metaL ds).length := by rw [hi.out, hml.out]
          rw [← HWC.out, ← hil]
          have hln := hown.1
          refine ⟨by rw [List.length_take]; omega, .inr ⟨g, cap, _, rfl, hgB, setRow_heap wr g cur _ _ _ hh, by omega, hcm2, ?_, ?_⟩⟩
          · rw [List.size_toArray, List.length_append, List.length_append, List.length_take, List.length_drop, size_zc, Array.length_toList]
            show min (i * 2) cur.size + (ds.length - i) * 2 + (cur.size - (i * 2 + (ds.length - i) * 2)) = cap * 2
            omega
          · show (cur.toList.take (i * 2) ++ _ ++ _).take (i * 2) = _
            have hl2 : (cur.toList.take (i * 2)).length = i * 2 := by rw [List.length_take, Array.length_toList]; omega
            rw [List.append_assoc, List.take_append_of_le_length (by omega), ← htake, List.take_take, List.take_take]
            congr 1
            omega
        have DW : DirC WC (CS.take (i * 2)) (metaL ds) := by
          rw [← hml.out, ← HWC.out]
          exact hd1.out.imp fun sv vs h => h.rowed hh _
        have BW : Below B w WC := by
          rw [← HWC.out]
          refine hb.trans ⟨rfl, rfl, rfl, by simp [World.setRow], fun q hq => setRow_other wr g q _ (by omega)⟩
        have OW := Lib.hid OW
        have DW := Lib.hid DW
        have BW := Lib.hid BW
        clear hh hcs htake hown
        go_wp2_with fail
        go_ret
        exact ⟨⟨_, by exact rfl, _, OW.out, DW.out⟩, BW.out⟩
end Go.Proofs.YtgaeecphohlmpaaDoor
