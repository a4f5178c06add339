/- policy.Text and lazaretref24.Text. -/
import Derived.Test.YtgaeecphohlmpaaDoorAsk1
import Derived.Deep.Cut
import Derived.Lib.Join
set_option linter.unusedVariables false
namespace Go.Proofs.YtgaeecphohlmpaaDoor
open Go.RowKit

def wordL (d : Dir) : List UInt8 := Lib.join (d.1 :: d.2) [32]
def textL (ds : List Dir) : List UInt8 := Lib.join (ds.map wordL) [59, 32]
def Bnd (ds : List Dir) : Prop := ds.length ≤ 8192 ∧ ∀ d ∈ ds, d.1.length ≤ 8192 ∧ d.2.length ≤ 8192 ∧ ∀ v ∈ d.2, v.length ≤ 8192
theorem lens_bound {N : Nat} : ∀ {l : List (List UInt8)}, (∀ v ∈ l, v.length ≤ N) → Lib.lens l ≤ l.length * N
  | [], _ => by simp [Lib.lens]
  | x :: l, h => by
    have h1 := lens_bound (l := l) fun v hv => h v (List.mem_cons_of_mem _ hv)
    have h2 := h x List.mem_cons_self
    simp only [Lib.lens, List.map_cons, List.sum_cons, List.length_cons, Nat.succ_mul] at h1 ⊢
    omega
theorem word_len {d : Dir} (h : d.1.length ≤ 8192 ∧ d.2.length ≤ 8192 ∧ ∀ v ∈ d.2, v.length ≤ 8192) : (wordL d).length ≤ 134217728 := by
  unfold wordL
  rw [Lib.join_length]
  have h1 := lens_bound (l := d.1 :: d.2) (N := 8192) (by
    intro v hv
    rcases List.mem_cons.1 hv with rfl | hv
    · exact h.1
    · exact h.2.2 v hv)
  simp only [List.length_cons, List.length_nil] at h1 ⊢
  omega
theorem text_len {ds : List Dir} (h : Bnd ds) : (textL ds).length ≤ 2199023255552 := by
  unfold textL
  cases ds with
  | nil => simp [Lib.join]
  | cons d ds =>
    rw [List.map_cons, Lib.join_length]
    have h1 := lens_bound (l := wordL d :: ds.map wordL) (N := 134217728) (by
      intro v hv
      rw [← List.map_cons] at hv
      obtain ⟨e, he, rfl⟩ := List.mem_map.1 hv
      exact word_len (h.2 e he))
    have h2 := h.1
    simp only [List.length_cons, List.length_map, List.length_nil] at h1 h2 ⊢
    omega
theorem Bnd.take {ds : List Dir} (h : Bnd ds) (k : Nat) : Bnd (ds.take k) := ⟨by have := h.1; rw [List.length_take]; omega, fun d hd => h.2 d (List.mem_of_mem_take hd)⟩

theorem strCells_app (a b : List (List UInt8)) : strCells (a ++ b) = strCells a ++ strCells b := by simp [strCells]
theorem strCells_one (l : List (List UInt8)) : ∀ u ∈ strCells l, u.oneCell' = true := by
  intro u hu
  simp only [strCells, List.mem_map] at hu
  obtain ⟨x, _, rfl⟩ := hu
  rfl

theorem run_append_none' {P : Program} {w : World} (base : Nat) (t ty e : TypeId) (i : TypeInfo) (size c : Nat) (ht : P.underlying t = some (.slice e)) (hi : P.info? e = some i)
    (v : Value) (n : Nat) (xs : List Value) (hown : w.ownsRow base e size v n xs) :
    (Builtin.append_ #[t, t] ty #[v, .slice none 0 c]).run P w = .ok v w := by
  rcases hown.2 with ⟨rfl, rfl⟩ | ⟨g, cap, cur, rfl, _, _, hnc, _⟩
  · simp [Builtin.append_, run_underlying ht, sizeOf, typeInfo, hi, Builtin.lenOf, Builtin.firstCells]
  · simp [Builtin.append_, run_underlying ht, sizeOf, typeInfo, hi, Builtin.lenOf, Builtin.firstCells, hnc, storeCells]
theorem appNone {P : Program} {w : World} {ops : Array Oper} {rest : List Oper} {o : Oper} {a : Act} {Q : Exit → Act → World → Prop} (hgd : o.guard = none) (s x : Operand) (t : TypeId)
    (ho : o.op = .call { callee := .builtin .append, args := #[s, x], argTypes := #[t, t] })
    (base : Nat) (e : TypeId) (i : TypeInfo) (size c : Nat) (ht : P.underlying t = some (.slice e)) (hi : P.info? e = some i)
    (v : Value) (n : Nat) (xs : List Value) (hs : a.eval s = v) (hown : w.ownsRow base e size v n xs) (hx : a.eval x = .slice none 0 c)
    (h : wpList P ops Q rest (a.put o.dst v) w) : wpList P ops Q (o :: rest) a w := by
  refine wpList_plain hgd fun K hK => ?_
  have hrun := run_append_none' (P := P) (w := w) base t o.type e i size c ht hi v n xs hown
  unfold Oper.wp
  simp [execOp, ho, resolve, invoke, builtin, hs, hx, hrun, Result.andThen]
  exact hK _ _ h
/-- 'append(s, us...)'. -/
theorem appS {P : Program} {wr : World} {ops : Array Oper} {rest : List Oper} {o : Oper} {a : Act} {Q : Exit → Act → World → Prop} (hgd : o.guard = none) (s x : Operand) (t : TypeId)
    (ho : o.op = .call { callee := .builtin .append, args := #[s, x], argTypes := #[t, t] })
    {base : Nat} {e : TypeId} {z : Value} {bytes : Nat} (hinfo : (P.info? e).map (fun i => (i.zero, i.size, i.bytes)) = some (some z, 1, bytes)) (ht : P.underlying t = some (.slice e)) (hzs : z.cells.size = 1) (hbytes : bytes ≤ 64)
    {v : Value} {n : Nat} {xs us : List Value} {sv : Value} (hown : wr.ownsRow base e 1 v n xs) (hs : a.eval s = v) (hx : a.eval x = sv) (hsl : SliceIn wr sv us) (hone : ∀ u ∈ us, u.oneCell' = true) (hn : n + us.length ≤ 1099511627776) (hbase : base ≤ wr.heap.size)
    (h : ∀ v' w', w'.ownsRow base e 1 v' (n + us.length) (xs ++ us) → wr.grownBy w' v.ownBlock → Below base wr w' → wpList P ops Q rest (a.put o.dst v') w') : wpList P ops Q (o :: rest) a wr := by
  obtain ⟨i0, hi, hz0, hz1, hz2⟩ := info_parts hinfo
  obtain ⟨ao, cap, rfl, h1, h2, hc⟩ := hsl
  have hb2 : (n + us.length) * bytes ≤ 140737488355328 := by
    have : (n + us.length) * bytes ≤ 1099511627776 * 64 := Nat.mul_le_mul hn hbytes
    omega
  have hlt : ∀ k, v.ownBlock = some k → base ≤ k := fun k hk => (hown.lt k hk).1
  have big : ∀ ad : Addr, ao = some ad → (∀ j u, us[j]? = some u → wr.cell? (ad.add j) = some u) → wpList P ops Q (o :: rest) a wr := by
    intro ad ha hcell
    subst ha
    refine wpList_append_own _ hgd s x t ho base e i0 z 1 bytes ht hi hz0 hz1 hz2 hzs (by decide) v n xs hs hown ad us.length cap us hx (by simp) hcell hone (by unfold maxLen; omega) hb2 hbase ?_
    intro v' w' hown' hg _
    exact h v' w' hown' hg ((Below.refl base wr).grown hg hbase hlt)
  by_cases hu : us = []
  · subst hu
    cases ao with
    | none =>
      refine appNone hgd s x t ho base e i0 1 cap ht hi v n xs hs hown hx ?_
      exact h v wr (by simpa using hown) ⟨rfl, rfl, rfl, Nat.le_refl _, fun _ _ _ => rfl⟩ (Below.refl _ _)
    | some ad => exact big ad rfl (by intro j u hj; simp at hj)
  · obtain ⟨b, off, ha, hb, hcell⟩ := hc hu
    refine big _ ha fun j u hj => ?_
    obtain ⟨hj1, hj2⟩ := List.getElem?_eq_some_iff.1 hj
    have hadd : (⟨b, off, none⟩ : Addr).add j = ⟨b, off + j, none⟩ := by unfold Addr.add; split <;> simp_all
    rw [hadd, hcell j hj1, hj2]

theorem join_own (v : Value) (n : Nat) (ls : List (List UInt8)) (sep : ByteArray) (B : Nat) (w : World) (h : w.ownsRow B 9 1 v n (strCells ls)) (hN : n ≤ 1099511627776) (hlen : (Lib.join ls sep.data.toList).length ≤ 140737488355328) :
    Calls Tryd.prog 54 #[v, .string sep] w fun e w' => e = .returned (.string ⟨(Lib.join ls sep.data.toList).toArray⟩) ∧ Below w.heap.size w w' := by
  have hn : n = ls.length := by have := h.1; rw [strCells_len] at this; omega
  subst hn
  by_cases h0 : ls = []
  · subst h0
    have hv : ∃ a c, v = .slice a 0 c := by obtain ⟨a, c, e⟩ := owns_shape h; exact ⟨a, c, e⟩
    obtain ⟨a, c, rfl⟩ := hv
    refine (Tryd.strings_Join_none a c sep w).mono ?_
    rintro e w' ⟨rfl, rfl⟩
    exact ⟨rfl, Below.refl _ _⟩
  · have hpos : 0 < ls.length := List.length_pos_iff.2 h0
    obtain ⟨g, cp, rfl, hc, _, _, hg, rr⟩ := owns_cell h (j := 0) hpos
    have hxs : (ls.map fun x => (⟨x.toArray⟩ : ByteArray)).map (·.data.toList) = ls := by
      rw [List.map_map]
      conv => rhs; rw [← List.map_id ls]
      exact List.map_congr_left fun x _ => by simp
    have := Tryd.strings_Join g 0 cp (ls.map fun x => (⟨x.toArray⟩ : ByteArray)) sep w (by
      intro j x hj
      rw [List.getElem?_map] at hj
      obtain ⟨y, hy, rfl⟩ := Option.map_eq_some_iff.1 hj
      rw [Nat.zero_add]
      exact rr j _ (by simp [strCells, hy])) hg (by rw [List.length_map]; omega) (by rw [List.length_map]; exact hc) (by rw [hxs]; exact hlen)
    rw [hxs, List.length_map] at this
    exact this

set_option maxHeartbeats 3200000 in
set_option maxRecDepth 100000 in
theorem ptext_any (lv : Value) (rep : Bool) (ds : List Dir) (w : World) (hd : DirsIn w lv ds) (hbd : Bnd ds) :
    Calls Tryd.prog 39 #[.agg #[lv, .bool rep]] w fun e w' => e = .returned (.string ⟨(textL ds).toArray⟩) ∧ Below w.heap.size w w' := by
  obtain ⟨W1, hW1⟩ : ∃ W1, W1 = w.alloc (.cells #[lv, .bool rep] 30) := ⟨_, rfl⟩
  have hb1 : Below w.heap.size w W1 := by rw [hW1]; exact (Below.refl _ w).alloc (Nat.le_refl _) _
  have q0 : W1.cell? ⟨w.heap.size, 0, none⟩ = some lv := by rw [hW1, Lib.cell_of_heap (heap_alloc_new w _)]; rfl
  obtain ⟨ao, cap, rfl⟩ := hd.shape
  have HW1 := Lib.hid hW1
  have HB1 := Lib.hid hb1
  have HD := Lib.hid hbd
  have hl := hbd.1
  rw [hW1] at q0
  clear hW1 hb1 hbd
  go_enter Tryd.func39, Tryd.ntmps39
  go_wp2_with fail
  rw [← HW1.out]
  clear q0
  go_loopw [3, 10] (fun l i wr => ∃ k : Nat, k ≤ ds.length ∧ i = .int .i64 k ∧ wr.ownsRow w.heap.size 9 1 l k (strCells ((ds.take k).map wordL)) ∧ Below w.heap.size w wr) (fun _ i _ => ds.length - (intOf i).toNat)
  case atStart => exact ⟨0, Nat.zero_le _, rfl, World.ownsRow_nil _ _ _ _, HB1.out⟩
  case round =>
    obtain ⟨k, hk, rfl, hown, hb⟩ := hrel
    by_cases hlt : k < ds.length
    · obtain ⟨b, off, cap2, sv, hv, hb2, c1, c2, hsl⟩ := (hd.below hb).at hlt
      injection hv with e1 e2 e3
      subst e1 e3
      obtain ⟨d, hdk⟩ : ∃ d, ds[k] = d := ⟨_, rfl⟩
      have HDK : Hid (ds[k]? = some d) := by show _ = _; rw [← hdk]; exact List.getElem?_eq_getElem hlt
      rw [hdk] at c1 hsl
      clear hdk
      have hdb := HD.out.2 d (List.mem_of_getElem? HDK.out)
      have hvl := hdb.2.1
      have hwl : Hid ((wordL d).length ≤ 134217728) := word_len hdb
      obtain ⟨dn, hdn⟩ : ∃ dn : ByteArray, (⟨d.1.toArray⟩ : ByteArray) = dn := ⟨_, rfl⟩
      have HDN := Lib.hid hdn
      rw [hdn] at c1
      have hki : (k : Int) < ds.length := by omega
      have hsz := hb.size
      clear hdn
      obtain ⟨ao2, cp2, rfl⟩ := hsl.shape
      go_upto_region 5 with fail
      obtain ⟨W2, hW2⟩ : ∃ W2, W2 = wr.alloc (.cells #[.string dn, .slice ao2 d.2.length cp2] 33) := ⟨_, rfl⟩
      have hb2w : Below wr.heap.size wr W2 := by rw [hW2]; exact (Below.refl _ wr).alloc (Nat.le_refl _) _
      have p0 : W2.cell? ⟨wr.heap.size, 0, none⟩ = some (.string dn) := by rw [hW2, Lib.cell_of_heap (heap_alloc_new wr _)]; rfl
      have p1 : W2.cell? ⟨wr.heap.size, 1, none⟩ = some (.slice ao2 d.2.length cp2) := by rw [hW2, Lib.cell_of_heap (heap_alloc_new wr _)]; rfl
      have hs2 := hb2w.size
      have hltw : wr.heap.size < W2.heap.size := by rw [hW2]; simp
      rw [← hW2]
      have hown0 := ch0 W2 dn
      have hb3 : Below W2.heap.size W2 (W2.alloc (.cells #[.string dn] 9)) := (Below.refl _ W2).alloc (Nat.le_refl _) _
      have hsl3 := (hsl.below hb2w).below hb3
      have hz3 : W2.heap.size ≤ (W2.alloc (.cells #[.string dn] 9)).heap.size := hb3.size
      have HS3 := Lib.hid hsl3
      have HZ3 := Lib.hid hz3
      have HO0 := Lib.hid hown0
      have H23 := Lib.hid hb3
      have H2W := Lib.hid hb2w
      have HS2 := Lib.hid hs2
      have hone := Lib.hid (strCells_one d.2)
      have hlen : 1 + (strCells d.2).length ≤ 1099511627776 := by rw [strCells_len]; omega
      have HLE := Lib.hid hlen
      clear hW2 hb2w hown0 hb3 hsl3 hz3 hs2 hlen
      go_upto_region 6 with (at_builtin; refine appS rfl _ _ 23 rfl infoStr Tryd.underlying23 rfl (by decide) HO0.out rfl rfl HS3.out hone.out HLE.out HZ3.out ?_; intro v3 w3 hown3 hg3 hbw3)
      have HB3 : Hid (Below wr.heap.size wr w3) := H2W.out.trans ((H23.out.trans hbw3).mono HS2.out)
      have hcc : [Value.string dn] ++ strCells d.2 = strCells (d.1 :: d.2) := by rw [← HDN.out]; simp [strCells]
      rw [hcc, strCells_len] at hown3
      have HJ := Lib.hid (join_own v3 (1 + d.2.length) (d.1 :: d.2) ⟨#[32]⟩ _ w3 hown3 (by omega) (by have := hwl.out; unfold wordL at this; exact Nat.le_trans this (by decide)))
      obtain ⟨a3, c3, hv3⟩ := owns_shape hown3
      subst hv3
      have hs3 := HB3.out.size
      clear hcc hown3 hg3 hbw3 HS3 HZ3 HO0 H23 H2W HS2 hone HLE p0 p1
      obtain ⟨wd, hwd⟩ : ∃ wd : ByteArray, (⟨(Lib.join (d.1 :: d.2) (⟨#[32]⟩ : ByteArray).data.toList).toArray⟩ : ByteArray) = wd := ⟨_, rfl⟩
      rw [hwd] at HJ
      have HWD := Lib.hid hwd
      clear hwd
      go_upto_region 7 with (first
        | (at_builtin; refine app1 rfl _ _ 23 rfl infoStr Tryd.underlying23 rfl (by decide) HO4.out rfl rfl rfl HK.out HZ4.out ?_; intro v5 w5 hown5 hg5 hbw5)
        | (go_at_call 54; refine HJ.out.mono ?_; rintro e w4 ⟨rfl, b4⟩; have HO4 := Lib.hid (owns_below (owns_below hown HB3.out) b4); have HZ4 : Hid (w.heap.size ≤ w4.heap.size) := Nat.le_trans hsz (Nat.le_trans hs3 b4.size); have HK : Hid (k + 1 ≤ 1099511627776) := (by show _ ≤ _; omega); have B4 := Lib.hid b4; clear b4))
      have HNX : Hid (strCells ((ds.take (k + 1)).map wordL) = strCells ((ds.take k).map wordL) ++ [.string wd]) := by
        show _ = _
        rw [List.take_add_one, HDK.out, ← HWD.out]
        simp [strCells]
        rfl
      go_wp2_with fail
      go_roundw
      case rel => exact ⟨k + 1, by omega, by go_num, by rw [HNX.out]; exact hown5, hb.trans ((HB3.out.mono hsz).trans ((B4.out.mono (Nat.le_trans hsz hs3)).trans hbw5))⟩
      case measure => simp [intOf]; omega
    · have hkk : k = ds.length := by omega
      have htk : ds.take k = ds := by rw [hkk]; exact List.take_length
      rw [htk] at hown
      have HJ := Lib.hid (join_own _ k (ds.map wordL) ⟨#[59, 32]⟩ _ wr hown (by omega) (by have := text_len HD.out; exact Nat.le_trans this (by decide)))
      clear htk
      go_wp2_with (go_at_call 54; refine HJ.out.mono ?_; rintro e w3 ⟨rfl, b3⟩; have B3 := Lib.hid b3; clear b3)
      go_ret
      exact ⟨by exact rfl, hb.trans (B3.out.mono hb.size)⟩

theorem join_snoc (xs : List (List UInt8)) (y sep : List UInt8) : Lib.join (xs ++ [y]) sep = (if xs = [] then [] else Lib.join xs sep ++ sep) ++ y := by
  cases xs with
  | nil => simp [Lib.join_one]
  | cons x r => rw [List.cons_append, Lib.join_cons, Lib.join_cons, if_neg (by simp)]; simp [Lib.joinTail]
theorem text_succ {ds : List Dir} {k : Nat} {d : Dir} (h : ds[k]? = some d) : textL (ds.take (k + 1)) = (if k = 0 then [] else textL (ds.take k) ++ [59, 32]) ++ wordL d := by
  have hk := (List.getElem?_eq_some_iff.1 h).1
  unfold textL
  rw [List.take_add_one, h]
  simp only [Option.toList_some, List.map_append, List.map_cons, List.map_nil]
  rw [join_snoc]
  congr 1
  by_cases h0 : k = 0
  · subst h0; simp
  · rw [if_neg h0, if_neg]
    simp only [List.map_eq_nil_iff, List.take_eq_nil_iff]
    rintro (h1 | h1)
    · exact h0 h1
    · subst h1; simp at hk
theorem word_tail (d : Dir) : wordL d = d.1 ++ Lib.joinTail [32] (d.2.take d.2.length) := by
  unfold wordL
  rw [Lib.join_cons, List.take_length]

set_option maxHeartbeats 3200000 in
set_option maxRecDepth 100000 in
theorem rtext_any (lv : Value) (rep : Bool) (ds : List Dir) (w : World) (hd : DirsIn w lv ds) (hbd : Bnd ds) :
    Calls Tryd.prog 40 #[.agg #[lv, .bool rep]] w fun e w' => e = .returned (.string ⟨(textL ds).toArray⟩) ∧ Below w.heap.size w w' := by
  obtain ⟨W1, hW1⟩ : ∃ W1, W1 = w.alloc (.cells #[lv, .bool rep] 30) := ⟨_, rfl⟩
  have hb1 : Below w.heap.size w W1 := by rw [hW1]; exact (Below.refl _ w).alloc (Nat.le_refl _) _
  have q0 : W1.cell? ⟨w.heap.size, 0, none⟩ = some lv := by rw [hW1, Lib.cell_of_heap (heap_alloc_new w _)]; rfl
  have hd1 := hd.below hb1
  obtain ⟨ao, cap, rfl⟩ := hd.shape
  have HW1 := Lib.hid hW1
  have HB1 := Lib.hid hb1
  have HD := Lib.hid hbd
  have hl := hbd.1
  clear hW1 hb1 hbd hd
  go_enter Tryd.func40, Tryd.ntmps40
  go_upto_region 3 with fail
  rw [← HW1.out]
  clear HW1
  go_loopw [3, 4] (fun s i wr => ∃ (k : Nat) (t : ByteArray), k ≤ ds.length ∧ i = .int .i64 k ∧ s = .string t ∧ Hid (t.data.toList = textL (ds.take k)) ∧ wr = W1) (fun _ i _ => ds.length - (intOf i).toNat)
  case atStart => exact ⟨0, ⟨#[]⟩, Nat.zero_le _, rfl, rfl, by rfl, rfl⟩
  case round =>
    obtain ⟨k, t, hk, rfl, rfl, ht, rfl⟩ := hrel
    have hts : t.size ≤ 2199023255552 := by
      have h1 := text_len (HD.out.take k)
      have h2 := congrArg List.length ht.out
      simp at h2
      omega
    by_cases hlt : k < ds.length
    · obtain ⟨b, off, cap2, sv, hv, hb2, c1, c2, hsl⟩ := hd1.at hlt
      injection hv with e1 e2 e3
      subst e1 e3
      obtain ⟨d, hdk⟩ : ∃ d, ds[k] = d := ⟨_, rfl⟩
      have HDK : Hid (ds[k]? = some d) := by show _ = _; rw [← hdk]; exact List.getElem?_eq_getElem hlt
      rw [hdk] at c1 hsl
      clear hdk
      have hdb := HD.out.2 d (List.mem_of_getElem? HDK.out)
      have hvl := hdb.2.1
      have HV := Lib.hid hdb.2.2
      obtain ⟨ao2, cp2, rfl⟩ := hsl.shape
      obtain ⟨dn, hdn⟩ : ∃ dn : ByteArray, (⟨d.1.toArray⟩ : ByteArray) = dn := ⟨_, rfl⟩
      have hdl : dn.data.toList = d.1 := by rw [← hdn]
      have hdsz : dn.size ≤ 8192 := by rw [← hdn]; show d.1.toArray.size ≤ _; rw [List.size_toArray]; exact hdb.1
      rw [hdn] at c1
      have hki : (k : Int) < ds.length := by omega
      have HT : Hid (textL (ds.take (k + 1)) = (if k = 0 then [] else textL (ds.take k) ++ [59, 32]) ++ wordL d) := text_succ HDK.out
      have HDL := Lib.hid hdl
      clear hdn hdl
      by_cases h0 : k = 0
      · have h0i : ¬ (0 : Int) < k := by omega
        have HK0 := Lib.hid h0
        clear h0
        have ht0 : t.data.toList = [] := by rw [ht.out, HK0.out]; rfl
        have hps : t.size ≤ 2199023255560 := by omega
        have HP : Hid (∀ x : List UInt8, (t.data.toList ++ d.1) ++ Lib.joinTail [32] (d.2.take d.2.length) = x → textL (ds.take (k + 1)) = x) := by
          intro x hx
          rw [HT.out, word_tail, ← hx]
          rw [if_pos HK0.out, ht0]
          simp
        go_wp2_with fail
        go_loopw [3, 5] (fun s i wr2 => ∃ (j : Nat) (u : ByteArray), j ≤ d.2.length ∧ i = .int .i64 j ∧ s = .string u ∧ Hid (u.data.toList = (t.data.toList ++ d.1) ++ Lib.joinTail [32] (d.2.take j)) ∧ u.size ≤ 2199023263752 + j * 8193 ∧ wr2 = wr) (fun _ i _ => d.2.length - (intOf i).toNat)
        case atStart => exact ⟨0, _, Nat.zero_le _, rfl, rfl, (by show _ = _; simp [Lib.joinTail, HDL.out]), (by simp only [ByteArray.size_append] at *; omega), rfl⟩
        case round =>
          obtain ⟨j, u, hj, rfl, rfl, hu, hus, rfl⟩ := hrel
          by_cases hlt2 : j < d.2.length
          · have hji : (j : Int) < d.2.length := by omega
            obtain ⟨b3, off3, cap3, hv3, _, c3⟩ := hsl.text hlt2
            injection hv3 with g1 g2 g3
            subst g1 g3
            obtain ⟨vj, hvj⟩ : ∃ vj, d.2[j] = vj := ⟨_, rfl⟩
            have HVJ : Hid (d.2[j]? = some vj) := by show _ = _; rw [← hvj]; exact List.getElem?_eq_getElem hlt2
            rw [hvj] at c3
            clear hvj
            have hvb := HV.out vj (List.mem_of_getElem? HVJ.out)
            obtain ⟨vk, hvk⟩ : ∃ vk : ByteArray, (⟨vj.toArray⟩ : ByteArray) = vk := ⟨_, rfl⟩
            have HVL : Hid (vk.data.toList = vj) := by show vk.data.toList = _; rw [← hvk]
            have hvs : vk.size ≤ 8192 := by rw [← hvk]; show vj.toArray.size ≤ _; rw [List.size_toArray]; exact hvb
            rw [hvk] at c3
            clear hvk
            have HN : Hid (u.data.toList ++ [32] ++ vk.data.toList = (t.data.toList ++ d.1) ++ Lib.joinTail [32] (d.2.take (j + 1))) := by
              show _ = _
              rw [Lib.joinTail_take_succ _ _ _ _ HVJ.out, hu.out, HVL.out]
              simp
            go_wp2_with fail
            go_roundw
            case rel =>
              refine ⟨j + 1, _, by omega, by go_num, rfl, ?_, ?_, by first | rfl | trivial⟩
              · show _ = _
                rw [← HN.out]
                simp
              · simp only [ByteArray.size_append]
                show u.size + 1 + vk.size ≤ _
                omega
            case measure => simp [intOf]; omega
          · have hjj : j = d.2.length := by omega
            have hfin : Hid (u.data.toList = textL (ds.take (k + 1))) := by
              show _ = _
              rw [hu.out, hjj]
              exact (HP.out _ rfl).symm
            clear hjj
            go_wp2_with fail
            go_roundw
            case rel => exact ⟨k + 1, u, by omega, by go_num, rfl, hfin.out, by first | rfl | trivial⟩
            case measure => simp [intOf]; omega
      · have h0i : (0 : Int) < k := by omega
        have HK0 := Lib.hid h0
        clear h0
        have hpl : (t ++ ⟨#[59, 32]⟩).data.toList = textL (ds.take k) ++ [59, 32] := by simp [ht.out]
        have hps : (t ++ ⟨#[59, 32]⟩).size ≤ 2199023255560 := by simp only [ByteArray.size_append]; show t.size + 2 ≤ _; omega
        have HP : Hid (∀ x : List UInt8, ((t ++ ⟨#[59, 32]⟩).data.toList ++ d.1) ++ Lib.joinTail [32] (d.2.take d.2.length) = x → textL (ds.take (k + 1)) = x) := by
          intro x hx
          rw [HT.out, word_tail, ← hx]
          rw [if_neg HK0.out, hpl]
          simp
        go_wp2_with fail
        go_loopw [3, 5] (fun s i wr2 => ∃ (j : Nat) (u : ByteArray), j ≤ d.2.length ∧ i = .int .i64 j ∧ s = .string u ∧ Hid (u.data.toList = ((t ++ ⟨#[59, 32]⟩).data.toList ++ d.1) ++ Lib.joinTail [32] (d.2.take j)) ∧ u.size ≤ 2199023263752 + j * 8193 ∧ wr2 = wr) (fun _ i _ => d.2.length - (intOf i).toNat)
        case atStart => exact ⟨0, _, Nat.zero_le _, rfl, rfl, (by show _ = _; simp [Lib.joinTail, HDL.out]), (by simp only [ByteArray.size_append] at *; omega), rfl⟩
        case round =>
          obtain ⟨j, u, hj, rfl, rfl, hu, hus, rfl⟩ := hrel
          by_cases hlt2 : j < d.2.length
          · have hji : (j : Int) < d.2.length := by omega
            obtain ⟨b3, off3, cap3, hv3, _, c3⟩ := hsl.text hlt2
            injection hv3 with g1 g2 g3
            subst g1 g3
            obtain ⟨vj, hvj⟩ : ∃ vj, d.2[j] = vj := ⟨_, rfl⟩
            have HVJ : Hid (d.2[j]? = some vj) := by show _ = _; rw [← hvj]; exact List.getElem?_eq_getElem hlt2
            rw [hvj] at c3
            clear hvj
            have hvb := HV.out vj (List.mem_of_getElem? HVJ.out)
            obtain ⟨vk, hvk⟩ : ∃ vk : ByteArray, (⟨vj.toArray⟩ : ByteArray) = vk := ⟨_, rfl⟩
            have HVL : Hid (vk.data.toList = vj) := by show vk.data.toList = _; rw [← hvk]
            have hvs : vk.size ≤ 8192 := by rw [← hvk]; show vj.toArray.size ≤ _; rw [List.size_toArray]; exact hvb
            rw [hvk] at c3
            clear hvk
            have HN : Hid (u.data.toList ++ [32] ++ vk.data.toList = ((t ++ ⟨#[59, 32]⟩).data.toList ++ d.1) ++ Lib.joinTail [32] (d.2.take (j + 1))) := by
              show _ = _
              rw [Lib.joinTail_take_succ _ _ _ _ HVJ.out, hu.out, HVL.out]
              simp
            go_wp2_with fail
            go_roundw
            case rel =>
              refine ⟨j + 1, _, by omega, by go_num, rfl, ?_, ?_, by first | rfl | trivial⟩
              · show _ = _
                rw [← HN.out]
                simp
              · simp only [ByteArray.size_append]
                show u.size + 1 + vk.size ≤ _
                omega
            case measure => simp [intOf]; omega
          · have hjj : j = d.2.length := by omega
            have hfin : Hid (u.data.toList = textL (ds.take (k + 1))) := by
              show _ = _
              rw [hu.out, hjj]
              exact (HP.out _ rfl).symm
            clear hjj
            go_wp2_with fail
            go_roundw
            case rel => exact ⟨k + 1, u, by omega, by go_num, rfl, hfin.out, by first | rfl | trivial⟩
            case measure => simp [intOf]; omega
    · have htk : Hid (t.data.toList = textL ds) := by
        have hkk : k = ds.length := by omega
        have := ht.out
        rw [hkk, List.take_length] at this
        exact this
      go_wp2_with fail
      go_ret
      refine ⟨?_, HB1.out⟩
      rw [← htk.out]
      exact rfl
end Go.Proofs.YtgaeecphohlmpaaDoor
