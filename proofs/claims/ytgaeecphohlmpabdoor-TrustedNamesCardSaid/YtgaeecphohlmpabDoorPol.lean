/- policy.One: a policy's directives. -/
import Derived.Test.YtgaeecphohlmpabDoorAscii5
import Derived.Test.YtgaeecphohlmpabDoorMx
import Derived.Test.YtgaeecphohlmpabDoorLists4
import Derived.Maps.OwnSet
import Derived.Maps.OwnOps
import Derived.Carry
import Derived.Maps.Views
import Derived.StringKeys
import Derived.Deep.Cut
set_option linter.unusedVariables false
namespace Go.Proofs.YtgaeecphohlmpabDoor
open Go.RowKit Go.Maps Go.WideMaps

abbrev Dir := List UInt8 × List (List UInt8)
def hasD (l : List Dir) (n : List UInt8) : Bool := l.any fun d => d.1 == n
def addD (acc : List Dir) (p : List UInt8) : List Dir := match fieldsL p with
  | [] => acc
  | x :: ws => if hasD acc (lowL x) = true then acc else acc ++ [(lowL x, ws)]
def oneL (s : List UInt8) : List Dir := (spl 59 s).foldl addD []
theorem hasD_snoc (l : List Dir) (d : Dir) (n : List UInt8) : hasD (l ++ [d]) n = (hasD l n || d.1 == n) := by simp [hasD]
theorem addD_none {acc : List Dir} {p : List UInt8} (h : fieldsL p = []) : addD acc p = acc := by unfold addD; rw [h]
theorem addD_old {acc : List Dir} {p x : List UInt8} {ws : List (List UInt8)} (h : fieldsL p = x :: ws) (h2 : hasD acc (lowL x) = true) : addD acc p = acc := by
  unfold addD; rw [h]; simp [h2]
theorem addD_new {acc : List Dir} {p x : List UInt8} {ws : List (List UInt8)} (h : fieldsL p = x :: ws) (h2 : hasD acc (lowL x) = false) : addD acc p = acc ++ [(lowL x, ws)] := by
  unfold addD; rw [h]; simp [h2]
theorem addD_len (acc : List Dir) (p : List UInt8) : (addD acc p).length ≤ acc.length + 1 := by
  unfold addD
  repeat' split
  all_goals simp

theorem fieldsL_len (l : List UInt8) : (fieldsL l).length ≤ l.length + 1 := by
  have := fRun_len l
  unfold fieldsL fEnd
  split <;> simp <;> omega

/-- How often each name has come so far. -/
def SeenM (D : DataW Unit) (acc : List Dir) (k : Nat) : Prop :=
  IsMap D ∧ ∀ n : List UInt8, ∃ c : Nat, c ≤ k ∧ D.atKey (.string n) (.lit (.int .i64 0)) = .lit (.int .i64 (c : Int)) ∧ (c = 0 ↔ hasD acc n = false)
theorem SeenM.start : SeenM (.map []) [] 0 := ⟨isMap_empty, fun n => ⟨0, Nat.le_refl _, rfl, by simp [hasD]⟩⟩
theorem SeenM.mono {D : DataW Unit} {acc : List Dir} {k : Nat} (h : SeenM D acc k) : SeenM D acc (k + 1) :=
  ⟨h.1, fun n => by obtain ⟨c, h1, h2, h3⟩ := h.2 n; exact ⟨c, by omega, h2, h3⟩⟩
theorem SeenM.step {D : DataW Unit} {acc acc' : List Dir} {k c : Nat} {nm : List UInt8} (h : SeenM D acc k) (hc : D.atKey (.string nm) (.lit (.int .i64 0)) = .lit (.int .i64 (c : Int))) (hck : c ≤ k) (hacc : ∀ n, hasD acc' n = (hasD acc n || nm == n)) :
    SeenM (D.put (.string nm) (.lit (.int .i64 ((c : Int) + 1)))) acc' (k + 1) := by
  refine ⟨h.1.put _ _, fun n => ?_⟩
  by_cases e : n = nm
  · subst e
    refine ⟨c + 1, by omega, ?_, ?_⟩
    · rw [atKey_put_same h.1 (by trivial)]; rfl
    · rw [hacc]; simp
  · obtain ⟨c', h1, h2, h3⟩ := h.2 n
    refine ⟨c', by omega, ?_, ?_⟩
    · rw [atKey_put_other (by intro e2; injection e2 with e2; exact e e2)]; exact h2
    · rw [hacc, h3]
      have : (nm == n) = false := by rw [beq_eq_false_iff_ne]; exact fun e2 => e e2.symm
      rw [this, Bool.or_false]
theorem lit_int_inj {a b : Int} (h : (DataW.lit (.int .i64 a) : DataW Unit) = .lit (.int .i64 b)) : a = b := by
  injection h with h
  injection h

/-- A directive's values: a slice of a block of texts. -/
def ValsIn (w : World) (sv : Value) (vs : List (List UInt8)) : Prop :=
  ∃ b off cap cs fr, sv = .slice (some ⟨b, off, none⟩) vs.length cap ∧ vs.length ≤ cap ∧ cap ≤ maxLen ∧ w.heap[b]? = some (.cells cs 9 fr) ∧ ∀ i u, (strCells vs)[i]? = some u → cs[off + i]? = some u
/-- The cells of directives. -/
def DirC (w : World) : List Value → List Dir → Prop
  | [], [] => True
  | n :: sv :: cs, d :: ds => n = .string ⟨d.1.toArray⟩ ∧ ValsIn w sv d.2 ∧ DirC w cs ds
  | _, _ => False
theorem DirC.snoc {w : World} {n sv : Value} {d : Dir} (h1 : n = .string ⟨d.1.toArray⟩) (h2 : ValsIn w sv d.2) : ∀ {cs : List Value} {ds : List Dir}, DirC w cs ds → DirC w (cs ++ [n, sv]) (ds ++ [d])
  | [], [], _ => ⟨h1, h2, trivial⟩
  | [], _ :: _, h => by cases h
  | [_], [], h => by cases h
  | [_], _ :: _, h => by cases h
  | _ :: _ :: _, [], h => by cases h
  | a :: b :: cs, e :: ds, h => ⟨h.1, h.2.1, DirC.snoc h1 h2 h.2.2⟩
theorem DirC.imp {w w' : World} (hk : ∀ sv vs, ValsIn w sv vs → ValsIn w' sv vs) : ∀ {cs : List Value} {ds : List Dir}, DirC w cs ds → DirC w' cs ds
  | [], [], h => trivial
  | [], _ :: _, h => by cases h
  | [_], [], h => by cases h
  | [_], _ :: _, h => by cases h
  | _ :: _ :: _, [], h => by cases h
  | a :: b :: cs, e :: ds, h => ⟨h.1, hk _ _ h.2.1, DirC.imp hk h.2.2⟩
theorem ValsIn.below {w w' : World} {sv : Value} {vs : List (List UInt8)} (h : ValsIn w sv vs) (hb : Below w.heap.size w w') : ValsIn w' sv vs := by
  obtain ⟨b, off, cap, cs, fr, h1, h2, h3, h4, h5⟩ := h
  exact ⟨b, off, cap, cs, fr, h1, h2, h3, (hb.block b (Array.getElem?_eq_some_iff.1 h4).1).trans h4, h5⟩
/-- What grows is a row of directives, no text's. -/
theorem ValsIn.grown {w w' : World} {sv : Value} {vs : List (List UInt8)} (h : ValsIn w sv vs) {B n : Nat} {v : Value} {xs : List Value} (hown : w.ownsRow B 42 2 v n xs) (hg : w.grownBy w' v.ownBlock) : ValsIn w' sv vs := by
  obtain ⟨b, off, cap, cs, fr, h1, h2, h3, h4, h5⟩ := h
  refine ⟨b, off, cap, cs, fr, h1, h2, h3, (hg.block b (Array.getElem?_eq_some_iff.1 h4).1 ?_).trans h4, h5⟩
  intro e
  rcases hown.2 with ⟨rfl, _⟩ | ⟨g, cp, cur, rfl, _, hh, _⟩
  · cases e
  · have e2 : b = g := by simpa [Value.ownBlock] using e
    subst e2
    rw [h4] at hh
    injection hh with hh
    injection hh with _ hh _
    cases hh

theorem vals_tail {w : World} {B c1 g1 : Nat} {x : List UInt8} {ws : List (List UInt8)} (h : w.ownsRow B 9 1 (.slice (some ⟨g1, 0, none⟩) (ws.length + 1) c1) (ws.length + 1) (strCells (x :: ws))) :
    (c1 = 1 → ValsIn w (.slice (some ⟨g1, 0, none⟩) 0 0) ws) ∧ (c1 ≠ 1 → ValsIn w (.slice (some ⟨g1, 1, none⟩) ws.length (c1 - 1)) ws) := by
  obtain ⟨g, cap, hv, hc1, hc2, _, _, r1⟩ := owns_cell h (j := 0) (by omega)
  rcases h.2 with ⟨hv0, _⟩ | ⟨g', cap', cur, hv', hg', hh, _⟩
  · cases hv0
  · injection hv' with e1 e2 e3
    injection e1 with e1
    injection e1 with e1 _
    injection hv with f1 f2 f3
    injection f1 with f1
    injection f1 with f1 _
    subst e1 f1 f3
    have hcell : ∀ i u, (strCells ws)[i]? = some u → cur[1 + i]? = some u := by
      intro i u hu
      have := r1 (i + 1) u (by simpa [strCells] using hu)
      rw [Lib.cell_of_heap hh] at this
      rw [Nat.add_comm]
      exact this
    constructor
    · intro h1
      have h0 : ws = [] := List.eq_nil_of_length_eq_zero (by omega)
      subst h0
      exact ⟨g1, 0, 0, cur, _, rfl, Nat.le_refl _, by simp, hh, fun i u hu => by simp [strCells] at hu⟩
    · intro h1
      exact ⟨g1, 1, c1 - 1, cur, _, rfl, by omega, by omega, hh, hcell⟩
theorem own_ne {w : World} {B : Nat} {e : TypeId} {sz : Nat} {v : Value} {n : Nat} {xs : List Value} (h : w.ownsRow B e sz v n xs) {j : Nat} (hj : j < B) : some j ≠ v.ownBlock := fun e => by
  have := (h.lt j e.symm).1
  omega
theorem news2 (w : World) (a b : Value) (t : TypeId) : ∀ (j : Nat) (u : Value), ([a, b] : List Value)[j]? = some u → (w.alloc (.cells #[a, b] t)).cell? ((⟨w.heap.size, 0, none⟩ : Addr).add j) = some u := by
  intro j u hj
  match j, hj with
  | 0, hj => simp at hj; subst hj; simp [Addr.add]
  | 1, hj => simp at hj; subst hj; simp [Addr.add]
theorem lawStr : Keyed Tryd.prog 9 := string_keyed Tryd.underlying9
theorem zeroI (w : World) : (zeroValue 3).run Tryd.prog w = .ok (.int .i64 0) w := by kernel_rfl
theorem infoDir : (Tryd.prog.info? 42).map (fun i => (i.zero, i.size, i.bytes)) = some (some (.agg #[.string ⟨#[]⟩, .slice none 0 0]), 2, 40) := by kernel_rfl

set_option maxHeartbeats 4000000 in
set_option maxRecDepth 100000 in
theorem pone_any (s : ByteArray) (m : Int) (w : World) (hs : s.size ≤ 1073741824) (hm : MaxOk m w) :
    Calls Tryd.prog 27 #[.string s] w fun e w' => (∃ v cs, e = .returned v ∧ w'.ownsRow w.heap.size 42 2 v (oneL s.data.toList).length cs ∧ DirC w' cs (oneL s.data.toList)) ∧ Below w.heap.size w w' := by
  obtain ⟨ps, h1, h2, h3⟩ := split_facts s 59
  have hm2 : MaxOk m (w.alloc (.map #[] 0)) := hm.below ((Below.refl _ w).alloc (Nat.le_refl _) _)
  have hc := Tryd.strings_Split s ⟨#[59]⟩ m (w.alloc (.map #[] 0)) (by omega) hm2 (by decide)
  rw [h1, h2] at hc
  have HC := Lib.hid hc
  have hN : ps.length ≤ s.size + 1 := by
    have h4 := congrArg List.length h3
    rw [List.length_map] at h4
    rw [h4]
    simpa using spl_len 59 s.data.toList
  have H3 := Lib.hid h3
  clear h1 h2 h3 hc hm hm2
  have hmm := @run_makeMap Tryd.prog
  go_enter Tryd.func27, Tryd.ntmps27
  go_wp2_with (go_at_call 38; refine HC.out.mono ?_; rintro e w' ⟨rfl, rfl⟩)
  go_loopw [3, 13] (fun l i wr => ∃ (k : Nat) (D : DataW Unit) (acc : List Dir) (cs : List Value), k ≤ ps.length ∧ i = .int .i64 k ∧ Hid (acc = ((spl 59 s.data.toList).take k).foldl addD []) ∧ acc.length ≤ k ∧ wr.heap[w.heap.size + 1]? = some (.cells (ps.map Value.string).toArray 9 (0, 0)) ∧ wr.ownsMap Tryd.prog 9 (plainElem Tryd.prog 3) w.heap.size k D ∧ Hid (SeenM D acc k) ∧ wr.ownsRow (w.heap.size + 2) 42 2 l acc.length cs ∧ Hid (DirC wr cs acc) ∧ w.heap.size + 2 ≤ wr.heap.size ∧ Below w.heap.size w wr) (fun _ i _ => ps.length - (intOf i).toNat)
  case atStart =>
    refine ⟨0, .map [], [], [], Nat.zero_le _, rfl, rfl, Nat.le_refl _, ?_, ?_, SeenM.start, World.ownsRow_nil _ _ _ _, trivial, by simp, ?_⟩
    · have := heap_alloc_new (w.alloc (.map #[] 0)) (.cells (ps.map Value.string).toArray 9 (0, 0))
      simpa using this
    · exact (World.ownsMap_made (H := Unit) w Tryd.prog 9 (plainElem Tryd.prog 3)).alloc _
    · exact ((Below.refl _ w).alloc (Nat.le_refl _) _).alloc (by simp) _
  case round =>
    obtain ⟨k, D, acc, cs, hk, rfl, HA, hacc, hP, hmap, HS, hown, HDC, hsz, hb⟩ := hrel
    by_cases hlt : k < ps.length
    · obtain ⟨t, htp⟩ : ∃ t, ps[k]? = some t := ⟨_, List.getElem?_eq_getElem hlt⟩
      have hx : (spl 59 s.data.toList)[k]? = some t.data.toList := by
        rw [← H3.out, List.getElem?_map, htp]; rfl
      have hts : t.size ≤ s.size := by
        have := spl_mem (List.mem_of_getElem? hx)
        simpa using this
      have hcell : wr.cell? ⟨w.heap.size + 1, k, none⟩ = some (.string t) := by
        rw [Lib.cell_of_heap hP]; simp [htp]
      have HT : Hid (((spl 59 s.data.toList).take (k + 1)).foldl addD [] = addD acc t.data.toList) := by
        show _ = _
        obtain ⟨hk3, hk4⟩ := List.getElem?_eq_some_iff.1 hx
        rw [List.take_succ_eq_append_getElem hk3, hk4, List.foldl_append, ← HA.out]
        rfl
      clear htp hx
      have HP := Lib.hid hP
      clear hP
      go_wp2_with fail
      refine (fields_any t _ (by omega)).mono ?_
      rintro e w1 ⟨⟨v1, rfl, o1⟩, b1⟩
      have hmap1 : w1.ownsMap Tryd.prog 9 (plainElem Tryd.prog 3) w.heap.size k D := hmap.kept (row := none) ⟨b1.os, b1.tape, b1.output, b1.size, fun j hj _ => b1.block j hj⟩ (by simp)
      have HP1 : Hid (w1.heap[w.heap.size + 1]? = some (.cells (ps.map Value.string).toArray 9 (0, 0))) := (b1.block _ (Array.getElem?_eq_some_iff.1 HP.out).1).trans HP.out
      have hown1 := owns_below hown b1
      have HDC1 := Lib.hid (HDC.out.imp fun sv vs h => h.below b1)
      have hsz1 := Nat.le_trans hsz b1.size
      have hb1 := hb.trans (b1.mono (by omega))
      have hw2 : w.heap.size + 2 ≤ wr.heap.size := hsz
      have hfl := Lib.hid (fun f (h : f ∈ fieldsL t.data.toList) => field_len h)
      have hfn := fieldsL_len t.data.toList
      have htl : Hid (t.data.toList.length = t.size) := by show t.data.toList.length = t.size; simp
      clear hown hmap HDC hcell
      cases hf : fieldsL t.data.toList with
      | nil =>
        have HAD : Hid (addD acc t.data.toList = acc) := addD_none hf
        rw [hf] at o1
        obtain ⟨va, vc, hv1⟩ := owns_shape o1
        subst hv1
        clear hf o1
        go_wp2_with fail
        go_roundw
        case rel => exact ⟨k + 1, D, acc, cs, by omega, by go_num, by rw [HT.out, HAD.out]; exact rfl, by omega, HP1.out, hmap1.mono (by omega), HS.out.mono, hown1, HDC1.out, hsz1, hb1⟩
        case measure => simp [intOf]; omega
      | cons x ws =>
        have hxl := hfl.out x (by rw [hf]; simp)
        have hxs : x.length ≤ s.size := by rw [htl.out] at hxl; omega
        have hwl : ws.length ≤ s.size + 1 := by
          rw [hf, htl.out] at hfn
          simp at hfn
          omega
        rw [hf] at o1
        obtain ⟨g1, c1, hv1, hc1, hc2, hg1, hg2, r1⟩ := owns_cell o1 (j := 0) (by simp)
        have q1 := r1 0 (.string ⟨x.toArray⟩) (by simp [strCells])
        have hlowl : (lowL x).length = x.length := by simp [lowL]
        obtain ⟨cn, hcn1, hcn2, hcn3⟩ := HS.out.2 (lowL x)
        obtain ⟨nm, hnm⟩ : ∃ nm : ByteArray, (⟨(lowL x).toArray⟩ : ByteArray) = nm := ⟨_, rfl⟩
        have hnml : Hid (nm.data.toList = lowL x) := by show nm.data.toList = _; rw [← hnm]
        have hnms : nm.size ≤ s.size := by
          rw [← hnm]
          show (lowL x).toArray.size ≤ _
          rw [List.size_toArray, hlowl]
          exact hxs
        have hkey : Hid (keyOf Tryd.prog 9 (.string nm) = some (.string (lowL x))) := by
          show keyOf Tryd.prog 9 (.string nm) = _
          rw [← hnml.out]
          exact keyOf_string_mk Tryd.underlying9 (by unfold maxLen; omega)
        have HCN2 := Lib.hid hcn2
        have HCN3 := Lib.hid hcn3
        have HNM := Lib.hid hnm
        have HF := Lib.hid hf
        have R1 := Lib.hid r1
        have HV1 := Lib.hid hv1
        subst hv1
        have HVT := Lib.hid (vals_tail o1)
        clear hf r1 hcn2 hcn3 hnm hlowl o1
        go_wp2_with fail
        refine (lower_any ⟨x.toArray⟩ _ (by show x.toArray.size ≤ _; rw [List.size_toArray]; omega)).mono ?_
        rintro e w2 ⟨rfl, b2⟩
        rw [show lowL (⟨x.toArray⟩ : ByteArray).data.toList = lowL x from rfl, HNM.out]
        have hmap2 : w2.ownsMap Tryd.prog 9 (plainElem Tryd.prog 3) w.heap.size k D := hmap1.kept (row := none) ⟨b2.os, b2.tape, b2.output, b2.size, fun j hj _ => b2.block j hj⟩ (by simp)
        have HP2 : Hid (w2.heap[w.heap.size + 1]? = some (.cells (ps.map Value.string).toArray 9 (0, 0))) := (b2.block _ (Array.getElem?_eq_some_iff.1 HP1.out).1).trans HP1.out
        have hown2 := owns_below hown1 b2
        have HDC2 := Lib.hid (HDC1.out.imp fun sv vs h => h.below b2)
        have hsz2 := Nat.le_trans hsz1 b2.size
        have hb2 := hb1.trans (b2.mono (by omega))
        have hat3 : Hid ((D.put (.string (lowL x)) (.lit (.int .i64 ((cn : Int) + 1)))).atKey (.string (lowL x)) (.lit (.int .i64 0)) = (.lit (.int .i64 ((cn : Int) + 1)) : DataW Unit)) := by
          show _ = _
          rw [atKey_put_same HS.out.1 (by trivial)]
        by_cases hc0 : cn = 0
        · have HNEW : Hid (addD acc t.data.toList = acc ++ [(lowL x, ws)]) := addD_new HF.out (HCN3.out.1 hc0)
          have HSN : Hid (SeenM (D.put (.string (lowL x)) (.lit (.int .i64 ((cn : Int) + 1)))) (acc ++ [(lowL x, ws)]) (k + 1)) := HS.out.step HCN2.out hcn1 (fun n => by rw [hasD_snoc])
          have heq1 : (((cn : Int) + 1) == 1) = true := by rw [hc0]; rfl
          have hcn1' : (cn : Int) ≤ (k : Int) := by omega
          clear hc0
          have hw1n : (0 : Int) < (ws.length : Int) + 1 := by omega
          have hc1n : ws.length + 1 ≤ c1 := by simpa using hc1
          go_upto_region 11 with (first
            | (at_lookup; refine wpList_lookup_own_int (H := Unit) _ rfl _ _ 60 rfl 9 3 .i64 lawStr Tryd.underlying60 Tryd.underlying3 (zeroI _) w.heap.size (k + 1) _ rfl hmap3 _ _ rfl hkey.out ?_; intro c hat hwc; obtain rfl : c = (cn : Int) + 1 := lit_int_inj (hat.symm.trans hat3.out); clear hat hwc)
            | (at_lookup; refine wpList_lookup_own_int (H := Unit) _ rfl _ _ 60 rfl 9 3 .i64 lawStr Tryd.underlying60 Tryd.underlying3 (zeroI _) w.heap.size k _ rfl hmap2 _ _ rfl hkey.out ?_; intro c hat hwc; obtain rfl : c = (cn : Int) := lit_int_inj (hat.symm.trans HCN2.out); clear hat hwc)
            | (at_mapUpdate; refine wpList_mapUpdate_own (H := Unit) _ rfl _ _ _ 60 rfl 9 3 lawStr Tryd.underlying60 _ w.heap.size k _ rfl hmap2 (by unfold maxLen; omega) _ _ _ rfl rfl hkey.out (.lit (.int .i64 ((cn : Int) + 1))) [] (plainElem_int Tryd.underlying3 (WalkArith.wf_i64 (by omega))) ?_; intro w3 hmap3 hg3))
          have hown3 : w3.ownsRow (w.heap.size + 2) 42 2 _ acc.length cs := hown2.kept hg3 (by
            rcases hown2.2 with ⟨h0, _⟩ | ⟨g, cp, cur, h0, hg0, _⟩
            · rw [h0]; simp [Value.ownBlock]
            · rw [h0]; simp [Value.ownBlock]; omega)
          obtain ⟨i0, hi0, hz0, hz1, hz2⟩ := info_parts infoDir
          have hkp : Hid (∀ j, j < w2.heap.size → j ≠ w.heap.size → w3.heap[j]? = w2.heap[j]?) := fun j h1 h2 => hg3.block j h1 (by intro e; injection e with e; exact h2 e)
          have HDC3 : Hid (DirC w3 cs acc) := HDC2.out.imp fun sv vs h => by
            obtain ⟨b, off, cap, cs', fr, e1, e2, e3, e4, e5⟩ := h
            refine ⟨b, off, cap, cs', fr, e1, e2, e3, (hkp.out b (Array.getElem?_eq_some_iff.1 e4).1 ?_).trans e4, e5⟩
            intro e
            subst e
            obtain ⟨es, ck, em, _⟩ := hmap2
            rw [em] at e4
            cases e4
          have hsz3 := Nat.le_trans hsz2 hg3.size
          have HB3 : Hid (Below w.heap.size w w3) := hb2.grown hg3 (by omega) (fun j hj => by cases hj; exact Nat.le_refl _)
          by_cases hcap : c1 = 1
          · have hws : ws.length = 0 := by omega
            subst hcap
            have N2 : Hid (∀ u ∈ ([.string nm, .slice (some ⟨g1, 0, none⟩) 0 0] : List Value), u.oneCell' = true) := by
              intro u hu
              simp at hu
              rcases hu with rfl | rfl <;> rfl
            go_wp2_with (at_builtin; refine wpList_append_own _ rfl _ _ 22 rfl (w.heap.size + 2) 42 i0 _ 2 40 Tryd.underlying22 hi0 hz0 hz1 hz2 rfl (by decide) _ _ _ rfl (hown3.alloc _) ⟨w3.heap.size, 0, none⟩ 1 1 [.string nm, .slice (some ⟨g1, 0, none⟩) 0 0] rfl rfl (news2 w3 _ _ _) N2.out (by unfold maxLen; omega) (by omega) (by simp; omega) ?_; intro v' w4 hown4 hg4 hnil4; clear hnil4)
            have HV4 : Hid (ValsIn w4 (.slice (some ⟨g1, 0, none⟩) 0 0) ws) := by
              have h1 := HVT.out.1 rfl
              have h2 := h1.below b2
              have h3 : ValsIn w3 (.slice (some ⟨g1, 0, none⟩) 0 0) ws := by
                obtain ⟨b, off, cap, cs', fr, e1, e2, e3, e4, e5⟩ := h2
                refine ⟨b, off, cap, cs', fr, e1, e2, e3, (hkp.out b (Array.getElem?_eq_some_iff.1 e4).1 ?_).trans e4, e5⟩
                intro e
                subst e
                obtain ⟨es, ck, em, _⟩ := hmap2
                rw [em] at e4
                cases e4
              have h4 := h3.below ((Below.refl _ w3).alloc (Nat.le_refl _) (.cells #[.string nm, .slice (some ⟨g1, 0, none⟩) 0 0] 42))
              exact h4.grown (hown3.alloc _) hg4
            have HDC4 : Hid (DirC w4 (cs ++ [.string nm, .slice (some ⟨g1, 0, none⟩) 0 0]) (acc ++ [(lowL x, ws)])) := by
              refine DirC.snoc (by rw [HNM.out]) HV4.out (HDC3.out.imp fun sv vs h => ?_)
              exact (h.below ((Below.refl _ w3).alloc (Nat.le_refl _) (.cells #[.string nm, .slice (some ⟨g1, 0, none⟩) 0 0] 42))).grown (hown3.alloc _) hg4
            go_roundw
            case rel =>
              refine ⟨k + 1, _, acc ++ [(lowL x, ws)], _, by omega, by go_num, by rw [HT.out, HNEW.out]; exact rfl, by simp; omega, ?_, ?_, HSN.out, by rw [List.length_append]; exact hown4, HDC4.out, ?_, ?_⟩
              · exact (hg4.block _ (by simp; omega) (own_ne hown3 (by omega))).trans ((Below.heap_alloc w3 _ _ (by omega)).trans ((hkp.out _ (by omega) (by omega)).trans HP2.out))
              · exact (hmap3.alloc _).kept hg4 (own_ne hown3 (by omega))
              · exact Nat.le_trans (by simp; omega) hg4.size
              · exact (HB3.out.alloc (by omega) _).grown hg4 (by simp; omega) (fun j hj => by have := (hown3.lt j hj).1; omega)
            case measure => simp [intOf]; omega
          · have N2 : Hid (∀ u ∈ ([.string nm, .slice (some ⟨g1, 1, none⟩) ws.length (c1 - 1)] : List Value), u.oneCell' = true) := by
              intro u hu
              simp at hu
              rcases hu with rfl | rfl <;> rfl
            go_wp2_with (at_builtin; refine wpList_append_own _ rfl _ _ 22 rfl (w.heap.size + 2) 42 i0 _ 2 40 Tryd.underlying22 hi0 hz0 hz1 hz2 rfl (by decide) _ _ _ rfl (hown3.alloc _) ⟨w3.heap.size, 0, none⟩ 1 1 [.string nm, .slice (some ⟨g1, 1, none⟩) ws.length (c1 - 1)] rfl rfl (news2 w3 _ _ _) N2.out (by unfold maxLen; omega) (by omega) (by simp; omega) ?_; intro v' w4 hown4 hg4 hnil4; clear hnil4)
            have HV4 : Hid (ValsIn w4 (.slice (some ⟨g1, 1, none⟩) ws.length (c1 - 1)) ws) := by
              have h1 := HVT.out.2 hcap
              have h2 := h1.below b2
              have h3 : ValsIn w3 (.slice (some ⟨g1, 1, none⟩) ws.length (c1 - 1)) ws := by
                obtain ⟨b, off, cap, cs', fr, e1, e2, e3, e4, e5⟩ := h2
                refine ⟨b, off, cap, cs', fr, e1, e2, e3, (hkp.out b (Array.getElem?_eq_some_iff.1 e4).1 ?_).trans e4, e5⟩
                intro e
                subst e
                obtain ⟨es, ck, em, _⟩ := hmap2
                rw [em] at e4
                cases e4
              have h4 := h3.below ((Below.refl _ w3).alloc (Nat.le_refl _) (.cells #[.string nm, .slice (some ⟨g1, 1, none⟩) ws.length (c1 - 1)] 42))
              exact h4.grown (hown3.alloc _) hg4
            have HDC4 : Hid (DirC w4 (cs ++ [.string nm, .slice (some ⟨g1, 1, none⟩) ws.length (c1 - 1)]) (acc ++ [(lowL x, ws)])) := by
              refine DirC.snoc (by rw [HNM.out]) HV4.out (HDC3.out.imp fun sv vs h => ?_)
              exact (h.below ((Below.refl _ w3).alloc (Nat.le_refl _) (.cells #[.string nm, .slice (some ⟨g1, 1, none⟩) ws.length (c1 - 1)] 42))).grown (hown3.alloc _) hg4
            go_roundw
            case rel =>
              refine ⟨k + 1, _, acc ++ [(lowL x, ws)], _, by omega, by go_num, by rw [HT.out, HNEW.out]; exact rfl, by simp; omega, ?_, ?_, HSN.out, by rw [List.length_append]; exact hown4, HDC4.out, ?_, ?_⟩
              · exact (hg4.block _ (by simp; omega) (own_ne hown3 (by omega))).trans ((Below.heap_alloc w3 _ _ (by omega)).trans ((hkp.out _ (by omega) (by omega)).trans HP2.out))
              · exact (hmap3.alloc _).kept hg4 (own_ne hown3 (by omega))
              · exact Nat.le_trans (by simp; omega) hg4.size
              · exact (HB3.out.alloc (by omega) _).grown hg4 (by simp; omega) (fun j hj => by have := (hown3.lt j hj).1; omega)
            case measure => simp [intOf]; omega
        · have hne : (((cn : Int) + 1) == 1) = false := by rw [beq_eq_false_iff_ne]; omega
          have HOLD : Hid (addD acc t.data.toList = acc) := addD_old HF.out (by
            cases h : hasD acc (lowL x) with
            | true => rfl
            | false => exact absurd (HCN3.out.2 h) hc0)
          have HSN : Hid (SeenM (D.put (.string (lowL x)) (.lit (.int .i64 ((cn : Int) + 1)))) acc (k + 1)) := HS.out.step HCN2.out hcn1 (fun n => by
            by_cases e : lowL x = n
            · subst e
              cases h : hasD acc (lowL x) with
              | true => rfl
              | false => exact absurd (HCN3.out.2 h) hc0
            · rw [show (lowL x == n) = false by rw [beq_eq_false_iff_ne]; exact e, Bool.or_false])
          have hcn1' : (cn : Int) ≤ (k : Int) := by omega
          clear hc0
          go_wp2_with (first
            | (at_lookup; refine wpList_lookup_own_int (H := Unit) _ rfl _ _ 60 rfl 9 3 .i64 lawStr Tryd.underlying60 Tryd.underlying3 (zeroI _) w.heap.size (k + 1) _ rfl hmap3 _ _ rfl hkey.out ?_; intro c hat hwc; obtain rfl : c = (cn : Int) + 1 := lit_int_inj (hat.symm.trans hat3.out); clear hat hwc)
            | (at_lookup; refine wpList_lookup_own_int (H := Unit) _ rfl _ _ 60 rfl 9 3 .i64 lawStr Tryd.underlying60 Tryd.underlying3 (zeroI _) w.heap.size k _ rfl hmap2 _ _ rfl hkey.out ?_; intro c hat hwc; obtain rfl : c = (cn : Int) := lit_int_inj (hat.symm.trans HCN2.out); clear hat hwc)
            | (at_mapUpdate; refine wpList_mapUpdate_own (H := Unit) _ rfl _ _ _ 60 rfl 9 3 lawStr Tryd.underlying60 _ w.heap.size k _ rfl hmap2 (by unfold maxLen; omega) _ _ _ rfl rfl hkey.out (.lit (.int .i64 ((cn : Int) + 1))) [] (plainElem_int Tryd.underlying3 (WalkArith.wf_i64 (by omega))) ?_; intro w3 hmap3 hg3))
          have hne3 : w.heap.size + 1 ≠ w.heap.size := by omega
          have hkp : ∀ j, j < w2.heap.size → j ≠ w.heap.size → w3.heap[j]? = w2.heap[j]? := fun j h1 h2 => hg3.block j h1 (by intro e; injection e with e; exact h2 e)
          go_roundw
          case rel =>
            refine ⟨k + 1, _, acc, cs, by omega, by go_num, by rw [HT.out, HOLD.out]; exact rfl, by omega, (hkp _ (by omega) (by omega)).trans HP2.out, hmap3, HSN.out, ?_, ?_, Nat.le_trans hsz2 hg3.size, ?_⟩
            · exact hown2.kept hg3 (by
                rcases hown2.2 with ⟨h0, _⟩ | ⟨g, cp, cur, h0, hg0, _⟩
                · rw [h0]; simp [Value.ownBlock]
                · rw [h0]; simp [Value.ownBlock]; omega)
            · refine HDC2.out.imp fun sv vs h => ?_
              obtain ⟨b, off, cap, cs', fr, e1, e2, e3, e4, e5⟩ := h
              refine ⟨b, off, cap, cs', fr, e1, e2, e3, (hkp b (Array.getElem?_eq_some_iff.1 e4).1 ?_).trans e4, e5⟩
              intro e
              subst e
              obtain ⟨es, ck, em, _⟩ := hmap2
              rw [em] at e4
              cases e4
            · exact hb2.grown hg3 (by omega) (fun j hj => by cases hj; exact Nat.le_refl _)
          case measure => simp [intOf]; omega
    · have hall : Hid (acc = oneL s.data.toList) := by
        show acc = _
        rw [HA.out]
        unfold oneL
        rw [List.take_of_length_le (by rw [← H3.out, List.length_map]; omega)]
      have HP := Lib.hid hP
      clear hP
      go_wp2_with fail
      go_ret
      have h1 := hown
      have h2 := HDC.out
      rw [hall.out] at h1 h2
      exact ⟨⟨_, cs, rfl, owns_mono h1 (by omega), h2⟩, hb⟩
end Go.Proofs.YtgaeecphohlmpabDoor
