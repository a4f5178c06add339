/- What is asked of a policy that comes in: lazaretlaw24.Great and Directive, lazaretref24.At and Find. -/
import Derived.Test.YtgaeecphohlmpaaDoorLNam
import Derived.Test.YtgaeecphohlmpaaDoorRow
set_option linter.unusedVariables false
namespace Go.Proofs.YtgaeecphohlmpaaDoor
open Go.RowKit

def SmallD (d : Dir) : Prop := d.1.length ≤ 200 ∧ d.2.length ≤ 20 ∧ ∀ v ∈ d.2, v.length ≤ 200
def SmallDs (ds : List Dir) : Prop := ds.length ≤ 20 ∧ ∀ d ∈ ds, SmallD d
noncomputable def greatB (ds : List Dir) : Bool := @decide (¬ SmallDs ds) (Classical.propDecidable _)
theorem greatB_no {ds : List Dir} (h : SmallDs ds) : greatB ds = false := by unfold greatB; exact @decide_eq_false _ (Classical.propDecidable _) (fun h2 => h2 h)
theorem greatB_yes {ds : List Dir} (h : ¬ SmallDs ds) : greatB ds = true := by unfold greatB; exact @decide_eq_true _ (Classical.propDecidable _) h
/-- What Great tells. -/
def GreatRes (ds : List Dir) (e : Ending) : Prop := e = .returned (.bool (greatB ds))
theorem GreatRes.yes {ds : List Dir} (h : ¬ SmallDs ds) : GreatRes ds (.returned (.bool true)) := by unfold GreatRes; rw [greatB_yes h]
theorem GreatRes.no {ds : List Dir} (h : SmallDs ds) : GreatRes ds (.returned (.bool false)) := by unfold GreatRes; rw [greatB_no h]
theorem DirsIn.shape {w : World} {lv : Value} {ds : List Dir} (h : DirsIn w lv ds) : ∃ ao cap, lv = .slice ao ds.length cap := by
  obtain ⟨ao, cap, h1, _⟩ := h
  exact ⟨ao, cap, h1⟩
theorem SliceIn.shape {w : World} {sv : Value} {vs : List (List UInt8)} (h : SliceIn w sv (strCells vs)) : ∃ ao cap, sv = .slice ao vs.length cap := by
  obtain ⟨ao, cap, h1, _⟩ := h
  rw [strCells_len] at h1
  exact ⟨ao, cap, h1⟩
theorem SliceIn.text {w : World} {sv : Value} {vs : List (List UInt8)} (h : SliceIn w sv (strCells vs)) {i : Nat} (hi : i < vs.length) : ∃ b off cap, sv = .slice (some ⟨b, off, none⟩) vs.length cap ∧ b < w.heap.size ∧ w.cell? ⟨b, off + i, none⟩ = some (.string ⟨vs[i].toArray⟩) := by
  obtain ⟨b, off, cap, e, l, r⟩ := h.at (i := i) (by rw [strCells_len]; exact hi)
  rw [strCells_len] at e
  have x1 : (strCells vs)[i]'(by rw [strCells_len]; exact hi) = .string ⟨vs[i].toArray⟩ := by simp [strCells]
  rw [x1] at r
  exact ⟨b, off, cap, e, l, r⟩

set_option maxHeartbeats 3200000 in
set_option maxRecDepth 100000 in
theorem great_any (lv : Value) (rep : Bool) (ds : List Dir) (w : World) (hd : DirsIn w lv ds) :
    Calls Tryd.prog 21 #[.agg #[lv, .bool rep]] w fun e w' => GreatRes ds e ∧ Below w.heap.size w w' := by
  obtain ⟨W1, hW1⟩ : ∃ W1, W1 = w.alloc (.cells #[lv, .bool rep] 30) := ⟨_, rfl⟩
  have hb1 : Below w.heap.size w W1 := by rw [hW1]; exact (Below.refl _ w).alloc (Nat.le_refl _) _
  have q0 : W1.cell? ⟨w.heap.size, 0, none⟩ = some lv := by rw [hW1, Lib.cell_of_heap (heap_alloc_new w _)]; rfl
  have hd1 := hd.below hb1
  obtain ⟨ao, cap, rfl⟩ := hd.shape
  clear hd
  by_cases h20 : 20 < ds.length
  · have h20i : (20 : Int) < ds.length := by omega
    rw [hW1] at q0
    go_enter Tryd.func21, Tryd.ntmps21
    go_wp2_with fail
    go_ret
    rw [← hW1]
    exact ⟨GreatRes.yes (fun h => by have := h.1; omega), hb1⟩
  have h20i : ¬ (20 : Int) < ds.length := by omega
  have HW1 := Lib.hid hW1
  go_enter Tryd.func21, Tryd.ntmps21
  rw [hW1] at q0
  go_upto_region 4 with fail
  rw [← HW1.out]
  rw [← HW1.out] at q0
  clear hW1 HW1
  have HB := Lib.hid hb1
  clear hb1
  go_loopw [3] (fun i wr => ∃ k : Nat, k ≤ ds.length ∧ i = .int .i64 k ∧ Hid (∀ (c : Nat) (d : Dir), c < k → ds[c]? = some d → SmallD d) ∧ wr = W1) (fun i _ => ds.length - (intOf i).toNat)
  case atStart => exact ⟨0, Nat.zero_le _, rfl, by intro c d h; omega, rfl⟩
  case round =>
    obtain ⟨k, hk, rfl, hno, rfl⟩ := hrel
    by_cases hlt : k < ds.length
    · have hki : (k : Int) < ds.length := by omega
      obtain ⟨b, off, cap2, sv, hv, hb2, c1, c2, hsl⟩ := hd1.at hlt
      injection hv with e1 e2 e3
      subst e1 e3
      obtain ⟨d, hdk⟩ : ∃ d, ds[k] = d := ⟨_, rfl⟩
      have hdk2 : ds[k]? = some d := by rw [← hdk]; exact List.getElem?_eq_getElem hlt
      rw [hdk] at c1 hsl
      clear hdk
      have HDK := Lib.hid hdk2
      clear hdk2
      obtain ⟨nk, hnk⟩ : ∃ nk : ByteArray, (⟨d.1.toArray⟩ : ByteArray) = nk := ⟨_, rfl⟩
      have hnl : Hid (nk.size = d.1.length) := by show nk.size = _; rw [← hnk]; show d.1.toArray.size = _; simp
      rw [hnk] at c1
      clear hnk
      obtain ⟨ao2, cp2, rfl⟩ := hsl.shape
      by_cases h200 : 200 < nk.size
      · have h200i : (200 : Int) < nk.size := by omega
        go_wp2_with fail
        go_ret
        exact ⟨GreatRes.yes (fun h => by have := (h.2 d (List.mem_of_getElem? HDK.out)).1; rw [← hnl.out] at this; omega), HB.out⟩
      have h200i : ¬ (200 : Int) < nk.size := by omega
      by_cases h21 : 20 < d.2.length
      · have h21i : (20 : Int) < d.2.length := by omega
        go_wp2_with fail
        go_ret
        exact ⟨GreatRes.yes (fun h => by have := (h.2 d (List.mem_of_getElem? HDK.out)).2.1; omega), HB.out⟩
      have h21i : ¬ (20 : Int) < d.2.length := by omega
      go_wp2_with fail
      go_loopw [4] (fun i wr2 => ∃ j : Nat, j ≤ d.2.length ∧ i = .int .i64 j ∧ Hid (∀ (c : Nat) (v : List UInt8), c < j → d.2[c]? = some v → v.length ≤ 200) ∧ wr2 = wr) (fun i _ => d.2.length - (intOf i).toNat)
      case atStart => exact ⟨0, Nat.zero_le _, rfl, by intro c d h; omega, rfl⟩
      case round =>
        obtain ⟨j, hj, rfl, hno2, rfl⟩ := hrel
        by_cases hlt2 : j < d.2.length
        · have hji : (j : Int) < d.2.length := by omega
          obtain ⟨b3, off3, cap3, hv3, _, c3⟩ := hsl.text hlt2
          injection hv3 with g1 g2 g3
          subst g1 g3
          obtain ⟨vj, hvj⟩ : ∃ vj, d.2[j] = vj := ⟨_, rfl⟩
          have hvj2 : d.2[j]? = some vj := by rw [← hvj]; exact List.getElem?_eq_getElem hlt2
          rw [hvj] at c3
          clear hvj
          have HVJ := Lib.hid hvj2
          clear hvj2
          obtain ⟨vk, hvk⟩ : ∃ vk : ByteArray, (⟨vj.toArray⟩ : ByteArray) = vk := ⟨_, rfl⟩
          have hvl : Hid (vk.size = vj.length) := by show vk.size = _; rw [← hvk]; show vj.toArray.size = _; simp
          rw [hvk] at c3
          clear hvk
          by_cases h200v : 200 < vk.size
          · have h200vi : (200 : Int) < vk.size := by omega
            go_wp2_with fail
            go_ret
            exact ⟨GreatRes.yes (fun h => by have := (h.2 d (List.mem_of_getElem? HDK.out)).2.2 vj (List.mem_of_getElem? HVJ.out); rw [← hvl.out] at this; omega), HB.out⟩
          · have h200vi : ¬ (200 : Int) < vk.size := by omega
            have hno3 : Hid (∀ (c : Nat) (v : List UInt8), c < j + 1 → d.2[c]? = some v → v.length ≤ 200) := by
              intro c v hc hv
              by_cases e : c = j
              · subst e
                rw [HVJ.out] at hv
                injection hv with hv
                rw [← hv, ← hvl.out]
                omega
              · exact hno2.out c v (by omega) hv
            go_wp2_with fail
            go_roundw
            case rel => exact ⟨j + 1, by omega, by go_num, hno3.out, by first | rfl | trivial⟩
            case measure => simp [intOf]; omega
        · have hno4 : Hid (∀ (c : Nat) (d : Dir), c < k + 1 → ds[c]? = some d → SmallD d) := by
            intro c d' hc hd'
            by_cases e : c = k
            · subst e
              rw [HDK.out] at hd'
              injection hd' with hd'
              subst hd'
              refine ⟨by rw [← hnl.out]; omega, by omega, fun v hv => ?_⟩
              obtain ⟨c, hc⟩ := List.getElem?_of_mem hv
              exact hno2.out c v (by have := (List.getElem?_eq_some_iff.1 hc).1; omega) hc
            · exact hno.out c d' (by omega) hd'
          go_wp2_with fail
          go_roundw
          case rel => exact ⟨k + 1, by omega, by go_num, hno4.out, by first | rfl | trivial⟩
          case measure => simp [intOf]; omega
    · have hfin : Hid (SmallDs ds) := ⟨by omega, fun d hd => by
        obtain ⟨c, hc⟩ := List.getElem?_of_mem hd
        exact hno.out c d (by have := (List.getElem?_eq_some_iff.1 hc).1; omega) hc⟩
      go_wp2_with fail
      go_ret
      exact ⟨GreatRes.no hfin.out, HB.out⟩

set_option maxHeartbeats 1600000 in
theorem rat_any (lv : Value) (ds : List Dir) (n : ByteArray) (w : World) (hd : DirsIn w lv ds) (hl : ds.length ≤ 1099511627776) :
    Calls Tryd.prog 48 #[lv, .string n] w fun e w' => e = .returned (.int .i64 (atL ds n.data.toList)) ∧ w' = w := by
  obtain ⟨ao, cap, rfl⟩ := hd.shape
  go_enter Tryd.func48, Tryd.ntmps48
  go_wp2_with fail
  go_loopw [5] (fun i wr => ∃ k : Nat, k ≤ ds.length ∧ i = .int .i64 k ∧ Hid (∀ j d, j < k → ds[j]? = some d → (d.1 == n.data.toList) = false) ∧ wr = w) (fun i _ => ds.length - (intOf i).toNat)
  case atStart => exact ⟨0, Nat.zero_le _, rfl, by intro j d h; omega, rfl⟩
  case round =>
    obtain ⟨k, hk, rfl, hno, rfl⟩ := hrel
    by_cases hlt : k < ds.length
    · obtain ⟨b2, off, cap2, sv, hv, hb2, c1, c2, _⟩ := hd.at hlt
      injection hv with e1 e2 e3
      subst e1 e3
      have hki : (k : Int) < ds.length := by omega
      have hat : Hid (ds[k]? = some ds[k]) := List.getElem?_eq_getElem hlt
      obtain ⟨nk, hnk⟩ : ∃ nk : ByteArray, (⟨ds[k].1.toArray⟩ : ByteArray) = nk := ⟨_, rfl⟩
      have hnl : Hid (nk.data.toList = ds[k].1) := by show nk.data.toList = _; rw [← hnk]
      rw [hnk] at c1
      clear hnk
      by_cases heq : nk.data.toList = n.data.toList
      · have hq : (nk.toList == n.toList) = true := by rw [ByteArray.toList_eq, ByteArray.toList_eq, beq_iff_eq]; exact heq
        have hfi : Hid (atL ds n.data.toList = k) := atL_hit hat.out (by rw [← hnl.out, beq_iff_eq]; exact heq) hno.out
        clear heq
        go_wp2_with fail
        go_ret
        exact ⟨by rw [hfi.out]; exact rfl, rfl⟩
      · have hq : (nk.toList == n.toList) = false := by rw [ByteArray.toList_eq, ByteArray.toList_eq, beq_eq_false_iff_ne]; exact heq
        have hno' : Hid (∀ j d, j < k + 1 → ds[j]? = some d → (d.1 == n.data.toList) = false) := by
          intro j d hj hd2
          by_cases e : j = k
          · subst e
            rw [hat.out] at hd2
            injection hd2 with hd2
            rw [← hd2, ← hnl.out, beq_eq_false_iff_ne]
            exact heq
          · exact hno.out j d (by omega) hd2
        clear heq
        go_wp2_with fail
        go_roundw
        case rel => exact ⟨k + 1, by omega, by go_num, hno'.out, by first | rfl | trivial⟩
        case measure => simp [intOf]; omega
    · have hfi : Hid (atL ds n.data.toList = -1) := atL_miss (fun j d hd2 => hno.out j d (by have := (List.getElem?_eq_some_iff.1 hd2).1; omega) hd2)
      go_wp2_with fail
      go_ret
      exact ⟨by rw [hfi.out]; exact rfl, rfl⟩

/-- What lazaretref24.Find tells. -/
def FindRd (w : World) (r : Option Dir) (e : Ending) : Prop := ∃ sv, e = .returned (.tuple #[.agg #[.string ⟨(r.getD ([], [])).1.toArray⟩, sv], .bool r.isSome]) ∧ SliceIn w sv (strCells (r.getD ([], [])).2)
theorem nil_in (w : World) : SliceIn w (.slice none 0 0) (strCells []) := ⟨none, 0, rfl, Nat.le_refl _, by unfold maxLen; omega, fun h => absurd rfl h⟩
theorem FindRes.read {B : Nat} {w : World} {r : Option Dir} {e : Ending} (h : FindRes B w r e) : FindRd w r e := by
  obtain ⟨sv, h1, h2⟩ := h
  exact ⟨sv, h1, owns_slice h2 (strCells_len _)⟩

set_option maxHeartbeats 3200000 in
theorem rfind_any (lv : Value) (rep : Bool) (ds : List Dir) (n : ByteArray) (w0 w : World) (hd0 : DirsIn w0 lv ds) (hb0 : Below w0.heap.size w0 w) (hl : ds.length ≤ 1099511627776) :
    Calls Tryd.prog 38 #[.agg #[lv, .bool rep], .string n] w fun e w' => FindRd w0 (fndL ds n.data.toList) e ∧ Below w.heap.size w w' := by
  have hd := hd0.below hb0
  have hz0 := hb0.size
  obtain ⟨W3, hW3⟩ : ∃ W3, W3 = (w.alloc (.cells #[lv, .bool rep] 30)).alloc (.cells #[.string ⟨#[]⟩, .slice none 0 0] 33) := ⟨_, rfl⟩
  have hs3 : W3.heap.size = w.heap.size + 2 := by rw [hW3]; simp
  have hb3 : Below w.heap.size w W3 := by
    rw [hW3]
    exact ((Below.refl _ w).alloc (Nat.le_refl _) _).alloc (by simp) _
  have k2 : W3.heap[w.heap.size + 1]? = some (.cells #[.string ⟨#[]⟩, .slice none 0 0] 33 (0, 0)) := by
    rw [hW3]
    have := heap_alloc_new (w.alloc (.cells #[lv, .bool rep] 30)) (.cells #[.string ⟨#[]⟩, .slice none 0 0] 33)
    simpa using this
  have k0 : W3.heap[w.heap.size]? = some (.cells #[lv, .bool rep] 30 (0, 0)) := by
    rw [hW3, Below.heap_alloc _ _ _ (by simp)]
    exact heap_alloc_new w (.cells #[lv, .bool rep] 30)
  have HW3 := Lib.hid hW3
  have hd3 := hd.below hb3
  clear hW3
  go_enter Tryd.func38, Tryd.ntmps38
  go_upto_region 2 with (go_at_call 48; rw [← HW3.out]; refine (rat_any lv ds n _ hd3 hl).mono ?_; rintro e w1 ⟨rfl, rfl⟩)
  have q0 : w1.cell? ⟨w.heap.size, 0, none⟩ = some lv := by rw [Lib.cell_of_heap k0]; rfl
  have q2 : w1.cell? ⟨w.heap.size + 1, 0, none⟩ = some (.string ⟨#[]⟩) := by rw [Lib.cell_of_heap k2]; rfl
  have q3 : w1.cell? ⟨w.heap.size + 1, 1, none⟩ = some (.slice none 0 0) := by rw [Lib.cell_of_heap k2]; rfl
  have z2 := Lib.frozen_of_heap k2 0
  have z3 := Lib.frozen_of_heap k2 1
  have HB3 := Lib.hid hb3
  clear hs3 hb3
  cases hf : fndL ds n.data.toList with
  | none =>
    rw [atL_none hf]
    go_wp2_with fail
    refine bodyPost_ret (v := .tuple #[.agg #[.string ⟨#[]⟩, .slice none 0 0], .bool false]) ?_ rfl ?_
    · rw [results_cell_tmp rfl]
      go_simp
    · exact ⟨⟨.slice none 0 0, by rw [hf]; exact rfl, by rw [hf]; exact nil_in _⟩, (HB3.out.setCell (by show _ ≤ w.heap.size + 1; omega) _).setCell (by show _ ≤ w.heap.size + 1; omega) _⟩
  | some d =>
    obtain ⟨k, hk, h1, h2, h3⟩ := atL_some hf
    rw [h1]
    obtain ⟨b2, off, cap2, sv, hv2, hb2, c1', c2', hsl⟩ := hd0.at hk
    have HB0 := Lib.hid (hb0.trans (HB3.out.mono hz0))
    have c1 := (HB0.out.cell (p := ⟨b2, off + k * 2, none⟩) hb2).trans c1'
    have c2 := (HB0.out.cell (p := ⟨b2, off + k * 2 + 1, none⟩) hb2).trans c2'
    rw [h2] at hsl c1
    subst hv2
    clear c1' c2'
    obtain ⟨ao2, cp2, rfl⟩ := hsl.shape
    have hki : (k : Int) < ds.length := by omega
    clear h1 h2 h3
    go_wp2_with fail
    refine bodyPost_ret (v := .tuple #[.agg #[.string ⟨d.1.toArray⟩, .slice ao2 d.2.length cp2], .bool true]) ?_ rfl ?_
    · rw [results_cell_tmp rfl]
      go_simp
    · exact ⟨⟨.slice ao2 d.2.length cp2, by rw [hf]; exact rfl, by rw [hf]; exact hsl⟩, (HB3.out.setCell (by show _ ≤ w.heap.size + 1; omega) _).setCell (by show _ ≤ w.heap.size + 1; omega) _⟩

set_option maxHeartbeats 1600000 in
theorem directive_any (va vb : Value) (a b : Dir) (w : World) (ha : SliceIn w va (strCells a.2)) (hb : SliceIn w vb (strCells b.2)) :
    Calls Tryd.prog 24 #[.agg #[.string ⟨a.1.toArray⟩, va], .agg #[.string ⟨b.1.toArray⟩, vb]] w fun e w' => e = .returned (.bool (a == b)) ∧ Below w.heap.size w w' := by
  obtain ⟨an, han⟩ : ∃ an : ByteArray, (⟨a.1.toArray⟩ : ByteArray) = an := ⟨_, rfl⟩
  have hal : an.data.toList = a.1 := by rw [← han]
  obtain ⟨bn, hbn⟩ : ∃ bn : ByteArray, (⟨b.1.toArray⟩ : ByteArray) = bn := ⟨_, rfl⟩
  have hbl : bn.data.toList = b.1 := by rw [← hbn]
  rw [han, hbn]
  clear han hbn
  obtain ⟨W2, hW2⟩ : ∃ W2, W2 = (w.alloc (.cells #[.string an, va] 33)).alloc (.cells #[.string bn, vb] 33) := ⟨_, rfl⟩
  have hb2 : Below w.heap.size w W2 := by
    rw [hW2]
    exact ((Below.refl _ w).alloc (Nat.le_refl _) _).alloc (by simp) _
  have HB2 := Lib.hid hb2
  have ha2 := ha.below hb2
  have hb2' := hb.below hb2
  rw [hW2] at ha2 hb2'
  rw [hW2] at HB2
  clear hb2 hW2
  by_cases hn : a.1 = b.1
  · have hq : (an.toList == bn.toList) = true := by rw [ByteArray.toList_eq, ByteArray.toList_eq, beq_iff_eq, hal, hbl]; exact hn
    have hab : Hid ((a == b) = (a.2 == b.2)) := by
      show (a.1 == b.1 && a.2 == b.2) = _
      rw [hn]; simp
    clear hn hal hbl
    go_enter Tryd.func24, Tryd.ntmps24
    go_wp2_with (go_at_call 19; refine (words_any va vb a.2 b.2 _ ha2 hb2').mono ?_; rintro e w3 ⟨rfl, b3⟩; have B3 := Lib.hid b3; clear b3)
    go_ret
    exact ⟨by rw [hab.out]; exact rfl, HB2.out.trans (B3.out.mono (by simp; omega))⟩
  · have hq : (an.toList == bn.toList) = false := by rw [ByteArray.toList_eq, ByteArray.toList_eq, beq_eq_false_iff_ne, hal, hbl]; exact hn
    have hab : Hid ((a == b) = false) := by
      show (a == b) = false
      rw [beq_eq_false_iff_ne]
      rintro rfl
      exact hn rfl
    clear hn hal hbl
    go_enter Tryd.func24, Tryd.ntmps24
    go_wp2_with fail
    go_ret
    exact ⟨by rw [hab.out]; exact rfl, HB2.out⟩

end Go.Proofs.YtgaeecphohlmpaaDoor
