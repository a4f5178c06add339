/- policy.Find: what a policy has of a name. -/
import Derived.Test.YtgaeecphohlmpabDoorPol
import Derived.Test.YtgaeecphohlmpabDoorArgs2
import Derived.MapKept
set_option linter.unusedVariables false
namespace Go.Proofs.YtgaeecphohlmpabDoor
open Go.RowKit Go.Maps Go.WideMaps

/-- lv is a list of directives. -/
def DirsIn (w : World) (lv : Value) (ds : List Dir) : Prop :=
  ∃ ao cap, lv = .slice ao ds.length cap ∧ ds.length ≤ cap ∧ cap ≤ maxLen ∧ (ds ≠ [] → ∃ b off, ao = some ⟨b, off, none⟩ ∧ b < w.heap.size ∧ ∀ i (h : i < ds.length), w.cell? ⟨b, off + i * 2, none⟩ = some (.string ⟨ds[i].1.toArray⟩) ∧ ∃ sv, w.cell? ⟨b, off + i * 2 + 1, none⟩ = some sv ∧ SliceIn w sv (strCells ds[i].2))
theorem DirsIn.below {w w' : World} {lv : Value} {ds : List Dir} (h : DirsIn w lv ds) (hb : Below w.heap.size w w') : DirsIn w' lv ds := by
  obtain ⟨ao, cap, h1, h2, h3, h4⟩ := h
  refine ⟨ao, cap, h1, h2, h3, fun hne => ?_⟩
  obtain ⟨b, off, ha, hlt, hc⟩ := h4 hne
  refine ⟨b, off, ha, Nat.lt_of_lt_of_le hlt hb.size, fun i hi => ?_⟩
  obtain ⟨c1, sv, c2, c3⟩ := hc i hi
  exact ⟨(hb.cell (p := ⟨b, off + i * 2, none⟩) hlt).trans c1, sv, (hb.cell (p := ⟨b, off + i * 2 + 1, none⟩) hlt).trans c2, c3.below hb⟩
theorem DirsIn.at {w : World} {lv : Value} {ds : List Dir} (h : DirsIn w lv ds) {i : Nat} (hi : i < ds.length) : ∃ b off cap sv, lv = .slice (some ⟨b, off, none⟩) ds.length cap ∧ b < w.heap.size ∧ w.cell? ⟨b, off + i * 2, none⟩ = some (.string ⟨ds[i].1.toArray⟩) ∧ w.cell? ⟨b, off + i * 2 + 1, none⟩ = some sv ∧ SliceIn w sv (strCells ds[i].2) := by
  obtain ⟨ao, cap, h1, h2, h3, h4⟩ := h
  obtain ⟨b, off, ha, hlt, hc⟩ := h4 (by intro e; rw [e] at hi; simp at hi)
  obtain ⟨c1, sv, c2, c3⟩ := hc i hi
  exact ⟨b, off, cap, sv, by rw [h1, ha], hlt, c1, c2, c3⟩

theorem lt_of_cell {w : World} {b off : Nat} {u : Value} (h : w.cell? ⟨b, off, none⟩ = some u) : b < w.heap.size := by
  by_cases hb : b < w.heap.size
  · exact hb
  · exfalso
    unfold World.cell? at h
    simp [Array.getElem?_eq_none (Nat.le_of_not_lt hb)] at h

set_option maxHeartbeats 1600000 in
theorem pfind1_any (nm n : ByteArray) (sv : Value) (b : Nat) (w : World) (hc : w.cell? ⟨b, 0, none⟩ = some (.string n)) :
    Calls Tryd.prog 29 #[.agg #[.string nm, sv], .pointer (some ⟨b, 0, none⟩)] w fun e w' => e = .returned (.bool (nm.toList == n.toList)) ∧ Below w.heap.size w w' := by
  go_enter Tryd.func29, Tryd.ntmps29
  have hca : (w.alloc (.cells #[.string nm, sv] 42)).cell? ⟨b, 0, none⟩ = some (.string n) := (((Below.refl _ w).alloc (Nat.le_refl _) _).cell (p := ⟨b, 0, none⟩) (lt_of_cell hc)).trans hc
  go_wp2_with fail
  go_ret
  exact ⟨by exact rfl, (Below.refl _ w).alloc (Nat.le_refl _) _⟩

def fndL (ds : List Dir) (n : List UInt8) : Option Dir := ds.find? fun d => d.1 == n
/-- Where the first of a name is. -/
def atL (ds : List Dir) (n : List UInt8) : Int := match ds.findIdx? fun d => d.1 == n with
  | some i => i
  | none => -1

theorem dn_iff {l : List UInt8} {n : ByteArray} : ((⟨l.toArray⟩ : ByteArray).toList == n.toList) = (l == n.data.toList) := by
  rw [ByteArray.toList_eq, ByteArray.toList_eq]
theorem atL_hit {ds : List Dir} {n : List UInt8} {k : Nat} {d : Dir} (h : ds[k]? = some d) (hn : (d.1 == n) = true) (hno : ∀ (j : Nat) (d : Dir), j < k → ds[j]? = some d → (d.1 == n) = false) : atL ds n = k := by
  obtain ⟨hk, hd⟩ := List.getElem?_eq_some_iff.1 h
  have : ds.findIdx? (fun d => d.1 == n) = some k := by
    rw [List.findIdx?_eq_some_iff_getElem]
    refine ⟨hk, by rw [hd]; exact hn, fun j hj => ?_⟩
    rw [hno j _ hj (List.getElem?_eq_getElem (by omega))]
    simp
  unfold atL
  rw [this]
theorem atL_miss {ds : List Dir} {n : List UInt8} (hno : ∀ (j : Nat) (d : Dir), ds[j]? = some d → (d.1 == n) = false) : atL ds n = -1 := by
  have : ds.findIdx? (fun d => d.1 == n) = none := by
    rw [List.findIdx?_eq_none_iff]
    intro d hd
    obtain ⟨j, hj⟩ := List.getElem?_of_mem hd
    exact hno j d hj
  unfold atL
  rw [this]
set_option maxHeartbeats 1600000 in
theorem pidx_any (lv : Value) (ds : List Dir) (n : ByteArray) (b : Nat) (w : World) (hd : DirsIn w lv ds) (hl : ds.length ≤ 1099511627776) (hc : w.cell? ⟨b, 0, none⟩ = some (.string n)) :
    Calls Tryd.prog 28 #[lv, .func (.func 29) #[] #[.pointer (some ⟨b, 0, none⟩)]] w fun e w' => e = .returned (.int .i64 (atL ds n.data.toList)) ∧ Below w.heap.size w w' := by
  go_enter Tryd.func28, Tryd.ntmps28
  have hlen : ∃ ao cap, lv = .slice ao ds.length cap := by
    obtain ⟨ao, cap, h, _⟩ := hd
    exact ⟨ao, cap, h⟩
  obtain ⟨ao, cap, rfl⟩ := hlen
  go_wp2_with fail
  go_loopw [8] (fun i wr => ∃ k : Nat, k ≤ ds.length ∧ i = .int .i64 k ∧ (∀ j d, j < k → ds[j]? = some d → (d.1 == n.data.toList) = false) ∧ Below w.heap.size w wr) (fun i _ => ds.length - (intOf i).toNat)
  case atStart => exact ⟨0, Nat.zero_le _, rfl, by intro j d h; omega, Below.refl _ w⟩
  case round =>
    obtain ⟨k, hk, rfl, hno, hb⟩ := hrel
    by_cases hlt : k < ds.length
    · obtain ⟨b2, off, cap2, sv, hv, hb2, c1, c2, _⟩ := (hd.below hb).at hlt
      injection hv with e1 e2 e3
      subst e1 e3
      have hcw : wr.cell? ⟨b, 0, none⟩ = some (.string n) := (hb.cell (p := ⟨b, 0, none⟩) (lt_of_cell hc)).trans hc
      have hat : ds[k]? = some ds[k] := List.getElem?_eq_getElem hlt
      have hdd := (hd.below hb)
      by_cases heq : (⟨ds[k].1.toArray⟩ : ByteArray).toList == n.toList
      · have hfi : Hid (atL ds n.data.toList = k) := atL_hit hat (by rw [← dn_iff]; exact heq) hno
        go_wp2_with fail
        refine (pfind1_any _ n _ b _ hcw).mono ?_
        rintro e w1 ⟨rfl, b1⟩
        rw [heq]
        go_wp2_with fail
        go_ret
        exact ⟨by rw [hfi.out]; exact rfl, hb.trans (b1.mono hb.size)⟩
      · have heq' : ((⟨ds[k].1.toArray⟩ : ByteArray).toList == n.toList) = false := by simpa using heq
        have hno' : Hid (∀ j d, j < k + 1 → ds[j]? = some d → (d.1 == n.data.toList) = false) := by
          intro j d hj hd2
          by_cases e : j = k
          · subst e
            rw [hat] at hd2
            injection hd2 with hd2
            rw [← hd2, ← dn_iff]
            exact heq'
          · exact hno j d (by omega) hd2
        go_wp2_with fail
        refine (pfind1_any _ n _ b _ hcw).mono ?_
        rintro e w1 ⟨rfl, b1⟩
        rw [heq']
        go_wp2_with fail
        go_roundw
        case rel => exact ⟨k + 1, by omega, by go_num, hno'.out, hb.trans (b1.mono hb.size)⟩
        case measure => simp [intOf]; omega
    · have hfi : Hid (atL ds n.data.toList = -1) := atL_miss (fun j d hd2 => hno j d (by have := (List.getElem?_eq_some_iff.1 hd2).1; omega) hd2)
      go_wp2_with fail
      go_ret
      exact ⟨by rw [hfi.out]; exact rfl, hb⟩
theorem atL_some {ds : List Dir} {n : List UInt8} {d : Dir} (h : fndL ds n = some d) : ∃ k : Nat, ∃ hk : k < ds.length, atL ds n = k ∧ ds[k] = d ∧ d.1 = n := by
  unfold fndL at h
  rw [List.find?_eq_some_iff_getElem] at h
  obtain ⟨hp, k, hk, he, hno⟩ := h
  refine ⟨k, hk, atL_hit (List.getElem?_eq_getElem hk) (by rw [he]; exact hp) ?_, he, by simpa using hp⟩
  intro j d hj hd
  obtain ⟨h1, h2⟩ := List.getElem?_eq_some_iff.1 hd
  have := hno j hj
  rw [h2] at this
  simpa using this
theorem atL_none {ds : List Dir} {n : List UInt8} (h : fndL ds n = none) : atL ds n = -1 := by
  unfold fndL at h
  rw [List.find?_eq_none] at h
  refine atL_miss fun j d hd => ?_
  have := h d (List.mem_of_getElem? hd)
  simpa using this

/-- What is owned, as it is read. -/
theorem owns_slice {w : World} {B n : Nat} {e : TypeId} {v : Value} {xs : List Value} (h : w.ownsRow B e 1 v n xs) (hn : xs.length = n) : SliceIn w v xs := by
  subst hn
  rcases h.2 with ⟨rfl, h0⟩ | ⟨g, cap, cur, rfl, hg, hh, hle, hcm, hcs, htake⟩
  · exact ⟨none, 0, by rw [h0], by omega, by unfold maxLen; omega, fun hne => absurd (List.length_eq_zero_iff.1 h0) hne⟩
  · refine ⟨_, cap, rfl, hle, hcm, fun hne => ⟨g, 0, rfl, (Array.getElem?_eq_some_iff.1 hh).1, fun i hi => ?_⟩⟩
    have := h.cells (g := g) rfl i _ (List.getElem?_eq_getElem hi)
    have hadd : (⟨g, 0, none⟩ : Addr).add i = ⟨g, 0 + i, none⟩ := by unfold Addr.add; split <;> simp_all
    rw [hadd] at this
    exact this
theorem strCells_len (l : List (List UInt8)) : (strCells l).length = l.length := by simp [strCells]

theorem clone_any (sv : Value) (vs : List (List UInt8)) (w : World) (h : SliceIn w sv (strCells vs)) (hl : vs.length ≤ 1099511627776) :
    Calls Tryd.prog 30 #[sv] w fun e w' => ∃ v', e = .returned v' ∧ w'.ownsRow w.heap.size 9 1 v' vs.length (strCells vs) ∧ Below w.heap.size w w' := by
  obtain ⟨ao, cap, hv, h1, h2, hc⟩ := h
  rw [strCells_len] at hv
  subst hv
  by_cases h0 : vs = []
  · subst h0
    cases ao with
    | none =>
      refine (Tryd.slices_Clone_string_nil 0 cap w).mono ?_
      rintro e w' ⟨rfl, rfl⟩
      exact ⟨_, rfl, World.ownsRow_nil _ _ _ _, Below.refl _ _⟩
    | some a =>
      refine (Tryd.slices_Clone_string_zero a cap w).mono ?_
      rintro e w' ⟨v', rfl, o, _, b⟩
      exact ⟨v', rfl, o, b⟩
  · obtain ⟨b, off, ha, hlt, hcell⟩ := hc (by intro e; apply h0; simpa [strCells] using e)
    subst ha
    refine (Tryd.slices_Clone_string b off vs.length cap (vs.map fun x => (⟨x.toArray⟩ : ByteArray)) w (by simp) (by omega) ?_).mono ?_
    · intro j hj
      have hj2 : j < (strCells vs).length := by rw [strCells_len]; simpa using hj
      have hj3 : j < vs.length := by simpa using hj
      rw [hcell j hj2]
      simp [strCells, hj3]
    · rintro e w' ⟨v', rfl, o, _, b⟩
      refine ⟨v', rfl, ?_, b⟩
      have : ((vs.map fun x => (⟨x.toArray⟩ : ByteArray)).take vs.length).map Value.string = strCells vs := by
        rw [List.take_of_length_le (by simp)]
        simp [strCells]
      rw [this] at o
      exact o

/-- What Find tells. -/
def FindRes (B : Nat) (w : World) (r : Option Dir) (e : Ending) : Prop := ∃ sv, e = .returned (.tuple #[.agg #[.string ⟨(r.getD ([], [])).1.toArray⟩, sv], .bool r.isSome]) ∧ w.ownsRow B 9 1 sv (r.getD ([], [])).2.length (strCells (r.getD ([], [])).2)

set_option maxHeartbeats 3200000 in
theorem pfind_any (lv : Value) (rep : Bool) (ds : List Dir) (n : ByteArray) (w : World) (hd : DirsIn w lv ds) (hl : ds.length ≤ 1099511627776) (hv : ∀ d ∈ ds, d.2.length ≤ 1099511627776) :
    Calls Tryd.prog 17 #[.agg #[lv, .bool rep], .string n] w fun e w' => FindRes w.heap.size w' (fndL ds n.data.toList) e ∧ Below w.heap.size w w' := by
  go_enter Tryd.func17, Tryd.ntmps17
  obtain ⟨W3, hW3⟩ : ∃ W3, W3 = ((w.alloc (.cells #[lv, .bool rep] 24)).alloc (.cells #[.string n] 9)).alloc (.cells #[.string ⟨#[]⟩, .slice none 0 0] 42) := ⟨_, rfl⟩
  have hs3 : W3.heap.size = w.heap.size + 3 := by rw [hW3]; simp
  have hb0 : Below w.heap.size w W3 := by
    rw [hW3]
    exact (((Below.refl _ w).alloc (Nat.le_refl _) _).alloc (by simp) _).alloc (by simp; omega) _
  have k2 : W3.heap[w.heap.size + 1 + 1]? = some (.cells #[.string ⟨#[]⟩, .slice none 0 0] 42 (0, 0)) := by
    rw [hW3]
    have := heap_alloc_new ((w.alloc (.cells #[lv, .bool rep] 24)).alloc (.cells #[.string n] 9)) (.cells #[.string ⟨#[]⟩, .slice none 0 0] 42)
    simpa using this
  have k1 : W3.heap[w.heap.size + 1]? = some (.cells #[.string n] 9 (0, 0)) := by
    rw [hW3, Below.heap_alloc _ _ _ (by simp)]
    have := heap_alloc_new (w.alloc (.cells #[lv, .bool rep] 24)) (.cells #[.string n] 9)
    simpa using this
  have k0 : W3.heap[w.heap.size]? = some (.cells #[lv, .bool rep] 24 (0, 0)) := by
    rw [hW3, Below.heap_alloc _ _ _ (by simp; omega), Below.heap_alloc _ _ _ (by simp)]
    exact heap_alloc_new w (.cells #[lv, .bool rep] 24)
  have hd3 := hd.below hb0
  have HW3 := Lib.hid hW3
  go_wp2_with fail
  rw [← HW3.out]
  refine (pidx_any lv ds n _ _ hd3 hl (by rw [Lib.cell_of_heap k1]; rfl)).mono ?_
  rintro e w1 ⟨rfl, b1⟩
  have hb1 : Below w.heap.size w w1 := hb0.trans (b1.mono (by omega))
  have j0 := (b1.block _ (by omega)).trans k0
  have j1 := (b1.block _ (by omega)).trans k1
  have j2 := (b1.block _ (by omega)).trans k2
  have hd1 := hd3.below b1
  have hs1 := b1.size
  clear hW3 k0 k1 k2 hb0 b1 HW3 hd3
  have q0 : w1.cell? ⟨w.heap.size, 0, none⟩ = some lv := by rw [Lib.cell_of_heap j0]; rfl
  have q1 : w1.cell? ⟨w.heap.size + 1, 0, none⟩ = some (.string n) := by rw [Lib.cell_of_heap j1]; rfl
  have q2 : w1.cell? ⟨w.heap.size + 1 + 1, 0, none⟩ = some (.string ⟨#[]⟩) := by rw [Lib.cell_of_heap j2]; rfl
  have q3 : w1.cell? ⟨w.heap.size + 1 + 1, 1, none⟩ = some (.slice none 0 0) := by rw [Lib.cell_of_heap j2]; rfl
  have z2 := Lib.frozen_of_heap j2 0
  have z3 := Lib.frozen_of_heap j2 1
  cases hf : fndL ds n.data.toList with
  | none =>
    rw [atL_none hf]
    go_wp2_with fail
    refine bodyPost_ret (v := .tuple #[.agg #[.string ⟨#[]⟩, .slice none 0 0], .bool false]) ?_ rfl ?_
    · rw [results_cell_tmp rfl]
      go_simp
    · exact ⟨⟨.slice none 0 0, by rw [hf]; exact rfl, by rw [hf]; exact World.ownsRow_nil _ _ _ _⟩, (hb1.setCell (by simp; omega) _).setCell (by simp; omega) _⟩
  | some d =>
    obtain ⟨k, hk, h1, h2, h3⟩ := atL_some hf
    rw [h1]
    obtain ⟨b2, off, cap2, sv, hv2, hb2, c1, c2, hsl⟩ := hd1.at hk
    rw [h2] at hsl
    subst hv2
    have hdn : Hid (n = ⟨d.1.toArray⟩) := by show n = _; rw [h3]
    have hs0 : Hid (w.heap.size ≤ w1.heap.size) := hb1.size
    have L1 : w.heap.size + 1 < w1.heap.size := by omega
    have L2 : w.heap.size + 1 + 1 < w1.heap.size := by omega
    have HCL := Lib.hid (fun W (h : SliceIn W sv (strCells d.2)) => clone_any sv d.2 W h (hv d (by rw [← h2]; exact List.getElem_mem hk)))
    go_wp2_with fail
    go_region_with (go_at_call 30; refine (HCL.out _ (by exact hsl)).mono ?_; rintro e w2 ⟨v', rfl, o2, bb⟩; have y1 : w2.cell? ⟨w.heap.size + 1, 0, none⟩ = some (.string n) := (bb.cell (p := ⟨w.heap.size + 1, 0, none⟩) (by exact L1)).trans (by exact q1); have y2 : w2.cell? ⟨w.heap.size + 1 + 1, 0, none⟩ = some (.string ⟨#[]⟩) := (bb.cell (p := ⟨w.heap.size + 1 + 1, 0, none⟩) (by exact L2)).trans (by exact q2); have y3 : w2.cell? ⟨w.heap.size + 1 + 1, 1, none⟩ = some (.slice none 0 0) := (bb.cell (p := ⟨w.heap.size + 1 + 1, 1, none⟩) (by exact L2)).trans (by exact q3); have x2 : w2.frozen? ⟨w.heap.size + 1 + 1, 0, none⟩ = false := (bb.frozen (p := ⟨w.heap.size + 1 + 1, 0, none⟩) (by exact L2)).trans (by exact z2); have x3 : w2.frozen? ⟨w.heap.size + 1 + 1, 1, none⟩ = false := (bb.frozen (p := ⟨w.heap.size + 1 + 1, 1, none⟩) (by exact L2)).trans (by exact z3); obtain ⟨ao', cp', hvv⟩ := owns_shape o2; subst hvv)
    all_goals (try go_wp2_with fail)
    all_goals refine bodyPost_ret (v := .tuple #[.agg #[.string n, .slice ao' d.2.length cp'], .bool true]) ?_ rfl ?_
    all_goals first
      | (rw [results_cell_tmp rfl]; go_simp; done)
      | refine ⟨⟨.slice ao' d.2.length cp', by rw [hf, hdn.out]; exact rfl, by rw [hf]; exact owns_mono (ownsRow_setCell_below (ownsRow_setCell_below o2 (by exact L2) _) (by exact L2) _) (by exact hs0.out)⟩, (((Below.drew hb1).trans (bb.mono hs0.out)).setCell (by show _ ≤ w.heap.size + 1 + 1; omega) _).setCell (by show _ ≤ w.heap.size + 1 + 1; omega) _⟩
end Go.Proofs.YtgaeecphohlmpabDoor
