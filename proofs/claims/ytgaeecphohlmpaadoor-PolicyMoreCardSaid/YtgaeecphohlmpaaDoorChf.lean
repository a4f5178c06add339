/- chains.Effective and chains.Find. -/
import Derived.Test.YtgaeecphohlmpaaDoorChn
set_option linter.unusedVariables false
namespace Go.Proofs.YtgaeecphohlmpaaDoor
open Go.RowKit

/-- The directives that are asked, by the kinds. -/
def effL : List (List UInt8) := [
  [],
  [115, 99, 114, 105, 112, 116, 45, 115, 114, 99, 45, 101, 108, 101, 109],
  [115, 99, 114, 105, 112, 116, 45, 115, 114, 99, 45, 101, 108, 101, 109],
  [115, 99, 114, 105, 112, 116, 45, 115, 114, 99, 45, 97, 116, 116, 114],
  [115, 99, 114, 105, 112, 116, 45, 115, 114, 99, 45, 101, 108, 101, 109],
  [115, 116, 121, 108, 101, 45, 115, 114, 99, 45, 101, 108, 101, 109],
  [115, 116, 121, 108, 101, 45, 115, 114, 99, 45, 101, 108, 101, 109],
  [115, 116, 121, 108, 101, 45, 115, 114, 99, 45, 97, 116, 116, 114],
  [105, 109, 103, 45, 115, 114, 99],
  [102, 111, 110, 116, 45, 115, 114, 99],
  [109, 101, 100, 105, 97, 45, 115, 114, 99],
  [102, 114, 97, 109, 101, 45, 115, 114, 99],
  [111, 98, 106, 101, 99, 116, 45, 115, 114, 99],
  [109, 97, 110, 105, 102, 101, 115, 116, 45, 115, 114, 99],
  [99, 111, 110, 110, 101, 99, 116, 45, 115, 114, 99],
  [98, 97, 115, 101, 45, 117, 114, 105],
  [102, 111, 114, 109, 45, 97, 99, 116, 105, 111, 110]]
def effS (k : Int) : List UInt8 := if 0 ≤ k ∧ k < 17 then effL.getD k.toNat [] else []
def effC : Array Value := (effL.map fun z => Value.string ⟨z.toArray⟩).toArray
def ETab (w : World) : Prop := ∃ t fr, w.heap[(0 : Nat)]? = some (.cells effC t fr)
theorem ETab.below {w w' : World} (h : ETab w) (hb : Below w.heap.size w w') : ETab w' := by
  obtain ⟨t, fr, hh⟩ := h
  exact ⟨t, fr, (hb.block _ (Array.getElem?_eq_some_iff.1 hh).1).trans hh⟩
theorem ETab.at {w : World} (h : ETab w) {k : Nat} (hk : k < 17) : w.cell? ⟨0, k, none⟩ = some (.string ⟨(effS k).toArray⟩) := by
  obtain ⟨t, fr, hh⟩ := h
  rw [Lib.cell_of_heap hh]
  have h1 : effS k = effL.getD k [] := by
    unfold effS
    rw [if_pos (by omega)]
    rfl
  have h2 : effL.length = 17 := by decide
  rw [h1]
  simp [effC, hk, h2]

set_option maxHeartbeats 1600000 in
theorem eff_any (k : Int) (w : World) (hT : ETab w) : Calls Tryd.prog 17 #[.int .i64 k] w fun e w' => e = .returned (.string ⟨(effS k).toArray⟩) ∧ w' = w := by
  by_cases h0 : k < 0
  · have hs : Hid (effS k = []) := by show effS k = []; unfold effS; rw [if_neg (by omega)]
    go_enter Tryd.func17, Tryd.ntmps17
    go_wp2_with fail
    go_ret
    exact ⟨by rw [hs.out]; exact rfl, rfl⟩
  by_cases h1 : 17 ≤ k
  · have hs : Hid (effS k = []) := by show effS k = []; unfold effS; rw [if_neg (by omega)]
    go_enter Tryd.func17, Tryd.ntmps17
    go_wp2_with fail
    go_ret
    exact ⟨by rw [hs.out]; exact rfl, rfl⟩
  · obtain ⟨n, rfl⟩ : ∃ n : Nat, k = n := ⟨k.toNat, by omega⟩
    have hn : n < 17 := by omega
    have hc := hT.at hn
    have hn0 : (0 : Int) ≤ n := by omega
    have hn1 : (n : Int) < 17 := by omega
    go_enter Tryd.func17, Tryd.ntmps17
    go_wp2_with fail
    go_ret
    exact ⟨rfl, rfl⟩
/-- The directive that counts. -/
def firstL (ds : List Dir) : List (List UInt8) → Option Dir
  | [] => none
  | n :: ns => match fndL ds n with
    | some d => some d
    | none => firstL ds ns
def cfL (ds : List Dir) (k : Int) : Option Dir := if effS k = [] then none else firstL ds (chainL (effS k))
theorem firstL_skip {ds : List Dir} : ∀ {l : List (List UInt8)} {j : Nat}, (∀ c n, c < j → l[c]? = some n → fndL ds n = none) → firstL ds l = firstL ds (l.drop j)
  | [], j, _ => by simp
  | n :: l, 0, _ => rfl
  | n :: l, j + 1, h => by
    have h0 := h 0 n (by omega) rfl
    show (match fndL ds n with | some d => some d | none => firstL ds l) = _
    rw [h0]
    exact firstL_skip fun c m hc hm => h (c + 1) m (by omega) hm

theorem chain_len (n : List UInt8) : (chainL n).length ≤ 5 := by
  unfold chainL
  cases h : chainsT.find? fun p => p.1 == n with
  | none => simp
  | some p =>
    have := List.mem_of_find?_eq_some h
    have hall : ∀ p ∈ chainsT, p.2.length ≤ 4 := by decide
    have := hall p this
    simpa using this

set_option maxHeartbeats 3200000 in
set_option maxRecDepth 100000 in
theorem cfind_any (lv : Value) (rep : Bool) (ds : List Dir) (k : Int) (w : World) (hd : DirsIn w lv ds) (hT : ETab w) (hl : ds.length ≤ 1099511627776) (hv : ∀ d ∈ ds, d.2.length ≤ 1099511627776) :
    Calls Tryd.prog 22 #[.agg #[lv, .bool rep], .int .i64 k] w fun e w' => FindRes w.heap.size w' (cfL ds k) e ∧ Below w.heap.size w w' := by
  obtain ⟨W3, hW3⟩ : ∃ W3, W3 = (w.alloc (.cells #[lv, .bool rep] 30)).alloc (.cells #[.string ⟨#[]⟩, .slice none 0 0] 33) := ⟨_, rfl⟩
  have hs3 : W3.heap.size = w.heap.size + 2 := by rw [hW3]; simp
  have hb3 : Below w.heap.size w W3 := by
    rw [hW3]
    exact ((Below.refl _ w).alloc (Nat.le_refl _) _).alloc (by simp) _
  have k2 : W3.heap[w.heap.size + 1]? = some (.cells #[.string ⟨#[]⟩, .slice none 0 0] 33 (0, 0)) := by
    rw [hW3]
    have := heap_alloc_new (w.alloc (.cells #[lv, .bool rep] 30)) (.cells #[.string ⟨#[]⟩, .slice none 0 0] 33)
    simpa using this
  have k0 : W3.heap[w.heap.size]? = some (.cells #[lv, .bool rep] 30 (0, 0)) := by
    rw [hW3, Below.heap_alloc _ _ _ (by simp)]
    exact heap_alloc_new w (.cells #[lv, .bool rep] 30)
  have HW3 := Lib.hid hW3
  have hd3 := hd.below hb3
  have hT3 := hT.below hb3
  clear hW3
  go_enter Tryd.func22, Tryd.ntmps22
  go_upto_region 2 with (go_at_call 17; rw [← HW3.out]; refine (eff_any k _ hT3).mono ?_; rintro e w1 ⟨rfl, rfl⟩)
  have q2 : w1.cell? ⟨w.heap.size + 1, 0, none⟩ = some (.string ⟨#[]⟩) := by rw [Lib.cell_of_heap k2]; rfl
  have q3 : w1.cell? ⟨w.heap.size + 1, 1, none⟩ = some (.slice none 0 0) := by rw [Lib.cell_of_heap k2]; rfl
  have z2 := Lib.frozen_of_heap k2 0
  have z3 := Lib.frozen_of_heap k2 1
  by_cases he : effS k = []
  · have hr : cfL ds k = none := by unfold cfL; rw [if_pos he]
    rw [he]
    go_wp2_with fail
    refine bodyPost_ret (v := .tuple #[.agg #[.string ⟨#[]⟩, .slice none 0 0], .bool false]) ?_ rfl ?_
    · rw [results_cell_tmp rfl]
      go_simp
    · exact ⟨⟨.slice none 0 0, by rw [hr]; exact rfl, by rw [hr]; exact World.ownsRow_nil _ _ _ _⟩, (hb3.setCell (by show _ ≤ w.heap.size + 1; omega) _).setCell (by show _ ≤ w.heap.size + 1; omega) _⟩
  have hr : Hid (cfL ds k = firstL ds (chainL (effS k))) := by show cfL ds k = _; unfold cfL; rw [if_neg he]
  have hne : ((⟨(effS k).toArray⟩ : ByteArray).toList == []) = false := ne_bq (by simpa using he)
  clear he q2 q3 z2 z3
  obtain ⟨nm, hnm⟩ : ∃ nm : ByteArray, (⟨(effS k).toArray⟩ : ByteArray) = nm := ⟨_, rfl⟩
  have hnl : Hid (nm.data.toList = effS k) := by show nm.data.toList = _; rw [← hnm]
  have hcl : Hid ((chainL (effS k)).length ≤ 5) := by
    show (chainL (effS k)).length ≤ 5
    exact chain_len _
  rw [hnm] at hne ⊢
  clear hnm
  go_wp2_with fail
  refine (chain_any nm _).mono ?_
  rintro e w2 ⟨v, rfl, o2, b2⟩
  rw [hnl.out] at o2
  obtain ⟨ao, cp, rfl⟩ := owns_shape o2
  have hcl5 := hcl.out
  have hd2 := hd3.below b2
  have hb2 := hb3.trans (b2.mono (by omega))
  have k0' := (b2.block _ (by omega)).trans k0
  have k2' := (b2.block _ (by omega)).trans k2
  have hs2 := b2.size
  clear k0 k2 hd3 hb3 b2
  generalize hC : chainL (effS k) = C at *
  go_wp2_with fail
  go_loopw [19] (fun i wr => ∃ j : Nat, j ≤ C.length ∧ i = .int .i64 j ∧ (∀ c n, c < j → C[c]? = some n → fndL ds n = none) ∧ Below w2.heap.size w2 wr) (fun i _ => C.length - (intOf i).toNat)
  case atStart => exact ⟨0, Nat.zero_le _, rfl, by intro c n h; omega, Below.refl _ w2⟩
  case round =>
    obtain ⟨j, hj, rfl, hno, hb⟩ := hrel
    have r0 := (hb.block _ (by omega)).trans k0'
    have r2 := (hb.block _ (by omega)).trans k2'
    have hs := hb.size
    have q0 : wr.cell? ⟨w.heap.size, 0, none⟩ = some lv := by rw [Lib.cell_of_heap r0]; rfl
    have q1 : wr.cell? ⟨w.heap.size, 1, none⟩ = some (.bool rep) := by rw [Lib.cell_of_heap r0]; rfl
    by_cases hlt : j < C.length
    · obtain ⟨x, hx⟩ : ∃ x, C[j]? = some x := ⟨_, List.getElem?_eq_getElem hlt⟩
      obtain ⟨g, cap, hv2, _, _, _, hg2, rr⟩ := owns_cell (owns_below o2 hb) (j := j) (by omega)
      injection hv2 with e1 e2 e3
      subst e1 e3
      have hc := rr j (.string ⟨x.toArray⟩) (by simp [strCells, hx])
      go_wp2_with fail
      refine (pfind_any lv rep ds ⟨x.toArray⟩ _ (hd2.below hb) hl hv).mono ?_
      rintro e w3 ⟨⟨sv, rfl, hsl⟩, b3⟩
      obtain ⟨sa, sc, hsv⟩ := owns_shape hsl
      have hx2 : (⟨x.toArray⟩ : ByteArray).data.toList = x := by simp
      rw [hx2] at hsl hsv ⊢
      have hw3 := b3.size
      have hb3 : Below w2.heap.size w2 w3 := hb.trans (b3.mono hs)
      have t0 : w3.heap[w.heap.size + 1]? = some (.cells #[.string ⟨#[]⟩, .slice none 0 0] 33 (0, 0)) := (b3.block _ (by omega)).trans r2
      cases hf : fndL ds x with
      | none =>
        rw [hf] at hsl hsv
        subst hsv
        have hno2 : Hid (∀ c n, c < j + 1 → C[c]? = some n → fndL ds n = none) := by
          intro c n hc hn
          by_cases e : c = j
          · subst e
            rw [hx] at hn
            injection hn with hn
            rw [← hn]
            exact hf
          · exact hno c n (by omega) hn
        go_wp2_with fail
        go_roundw
        case rel => exact ⟨j + 1, by omega, by go_num, hno2.out, hb3.alloc (by omega) _⟩
        case measure => simp [intOf]; omega
      | some d =>
        rw [hf] at hsl hsv
        subst hsv
        have hfin : Hid (firstL ds C = some d) := by
          show firstL ds C = some d
          rw [firstL_skip (j := j) hno]
          obtain ⟨hj1, hj2⟩ := List.getElem?_eq_some_iff.1 hx
          rw [List.drop_eq_getElem_cons hj1, hj2]
          simp [firstL, hf]
        obtain ⟨W5, hW5⟩ : ∃ W5, W5 = w3.alloc (.cells #[.string ⟨d.1.toArray⟩, .slice sa d.2.length sc] 33) := ⟨_, rfl⟩
        have t1 : W5.heap[w.heap.size + 1]? = some (.cells #[.string ⟨#[]⟩, .slice none 0 0] 33 (0, 0)) := by
          rw [hW5, Below.heap_alloc _ _ _ (by omega)]; exact t0
        have p2 : W5.cell? ⟨w.heap.size + 1, 0, none⟩ = some (.string ⟨#[]⟩) := by rw [Lib.cell_of_heap t1]; rfl
        have p3 : W5.cell? ⟨w.heap.size + 1, 1, none⟩ = some (.slice none 0 0) := by rw [Lib.cell_of_heap t1]; rfl
        have z2 := Lib.frozen_of_heap t1 0
        have z3 := Lib.frozen_of_heap t1 1
        rw [hW5] at p2 p3 z2 z3
        go_wp2_with fail
        refine bodyPost_ret (v := .tuple #[.agg #[.string ⟨d.1.toArray⟩, .slice sa d.2.length sc], .bool true]) ?_ rfl ?_
        · rw [results_cell_tmp rfl]
          go_simp
        · refine ⟨⟨.slice sa d.2.length sc, by rw [hr.out, hfin.out]; exact rfl, ?_⟩, ?_⟩
          · rw [hr.out, hfin.out]
            exact owns_mono (ownsRow_setCell_below (ownsRow_setCell_below (hsl.alloc _) (by show w.heap.size + 1 < _; omega) _) (by show w.heap.size + 1 < _; omega) _) (by omega)
          · exact (((hb2.trans (hb3.mono (by omega))).alloc (by omega) _).setCell (by show _ ≤ w.heap.size + 1; omega) _).setCell (by show _ ≤ w.heap.size + 1; omega) _
    · have hfin : Hid (firstL ds C = none) := by
        show firstL ds C = none
        rw [firstL_skip (j := C.length) (fun c n hc hn => hno c n (by omega) hn)]
        simp [firstL]
      have p2 : wr.cell? ⟨w.heap.size + 1, 0, none⟩ = some (.string ⟨#[]⟩) := by rw [Lib.cell_of_heap r2]; rfl
      have p3 : wr.cell? ⟨w.heap.size + 1, 1, none⟩ = some (.slice none 0 0) := by rw [Lib.cell_of_heap r2]; rfl
      have z2 := Lib.frozen_of_heap r2 0
      have z3 := Lib.frozen_of_heap r2 1
      go_wp2_with fail
      refine bodyPost_ret (v := .tuple #[.agg #[.string ⟨#[]⟩, .slice none 0 0], .bool false]) ?_ rfl ?_
      · rw [results_cell_tmp rfl]
        go_simp
      · exact ⟨⟨.slice none 0 0, by rw [hr.out, hfin.out]; exact rfl, by rw [hr.out, hfin.out]; exact World.ownsRow_nil _ _ _ _⟩, ((hb2.trans (hb.mono (by omega))).setCell (by show _ ≤ w.heap.size + 1; omega) _).setCell (by show _ ≤ w.heap.size + 1; omega) _⟩
end Go.Proofs.YtgaeecphohlmpaaDoor
