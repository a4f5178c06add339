/- sources: parseHost, whole. sources: parse, at what is neither quoted nor a scheme; parse, whole. -/
import Derived.Test.YteeplfbaflldaaaDoorSrcI
set_option linter.unusedVariables false
set_option linter.unusedSimpArgs false
namespace Go.Proofs.YteeplfbaflldaaaDoor.S25
open Go.RowKit Go.Extern.Stop Go.Stop Go.Extern T10

/-- A fault, or what is joined, its first a fault. -/
def FaultAt (ty : TypeId) (v : Value) (W : World) : Prop :=
  (∃ a b : ByteArray, ty = 72 ∧ v = .agg #[.string a, .string b]) ∨
  (∃ j sb m cp a b, ty = 147 ∧ v = .pointer (some ⟨j, 0, none⟩) ∧ 0 < m ∧ W.cell? ⟨j, 0, none⟩ = some (.slice (some ⟨sb, 0, none⟩) m cp) ∧ W.cell? ⟨sb, 0, none⟩ = some (.iface 72 (.agg #[.string a, .string b])))
/-- What reading hands back: a source, or an error. -/
def PRes (o : Option SrcL) (e : Ending) (w' : World) : Prop := match o with
  | some x => e = .returned (.tuple #[srcW x, .nilIface])
  | none => ∃ k t b sc ho wi po pa ty v, e = .returned (.tuple #[srcV k t b sc ho wi po pa, .iface ty v]) ∧ FaultAt ty v w'
/-- None, or a fault. -/
def OneF (e : Option (TypeId × Value)) : Prop := ∃ a b : ByteArray, e = some (72, .agg #[.string a, .string b])
theorem heads {e0 e1 e2 e3 : Option (TypeId × Value)} (h0 : e0 = none ∨ OneF e0) (h1 : e1 = none ∨ OneF e1) (h2 : e2 = none ∨ OneF e2) (h3 : e3 = none ∨ OneF e3) {ty : TypeId} {v : Value} (h : (okE [e0, e1, e2, e3]).head? = some (ty, v)) : ∃ a b : ByteArray, ty = 72 ∧ v = .agg #[.string a, .string b] := by
  have hm : some (ty, v) ∈ [e0, e1, e2, e3] := by
    have := List.mem_of_mem_head? h
    unfold okE at this
    obtain ⟨a, h4, h5⟩ := List.mem_filterMap.1 this
    simp only [id] at h5
    rw [← h5]; exact h4
  have aux : ∀ e, (e = none ∨ OneF e) → e = some (ty, v) → ∃ a b : ByteArray, ty = 72 ∧ v = .agg #[.string a, .string b] := by
    rintro e (rfl | ⟨a, b, rfl⟩) h
    · cases h
    · injection h with h
      injection h with h6 h7
      exact ⟨a, b, h6.symm, h7.symm⟩
  simp only [List.mem_cons, List.not_mem_nil, or_false] at hm
  rcases hm with hm | hm | hm | hm
  · exact aux e0 h0 hm.symm
  · exact aux e1 h1 hm.symm
  · exact aux e2 h2 hm.symm
  · exact aux e3 h3 hm.symm
theorem none_of_okE {e0 e1 e2 e3 : Option (TypeId × Value)} (h : okE [e0, e1, e2, e3] = []) : e0 = none ∧ e1 = none ∧ e2 = none ∧ e3 = none := by
  unfold okE at h
  cases e0 <;> cases e1 <;> cases e2 <;> cases e3 <;> simp at h ⊢
theorem cut_sizes (l d : List UInt8) : (Lib.cut l d).1.length ≤ l.length ∧ (Lib.cut l d).2.1.length ≤ l.length := by
  unfold Lib.cut
  split
  · simp only [List.length_take, List.length_drop]; omega
  · simp
theorem sc_part (l : List UInt8) (hl : l.length ≤ 1000000) : ∃ (sc : ByteArray) (e0 : Option (TypeId × Value)),
    ((Lib.cut l [58, 47, 47]).2.2 = true → ∀ W, Calls Tryd.prog 70 #[.string (ba (Lib.cut l [58, 47, 47]).1)] W fun e w' => e = .returned (.tuple #[.string sc, encE e0]) ∧ Below W.heap.size W w') ∧
    ((Lib.cut l [58, 47, 47]).2.2 = false → sc = ⟨#[]⟩ ∧ e0 = none) ∧
    ((schL l = some sc.data.toList ∧ e0 = none) ∨ (schL l = none ∧ OneF e0)) := by
  unfold schL
  have hs := (cut_sizes l [58, 47, 47]).1
  by_cases h : (Lib.cut l [58, 47, 47]).2.2 = true
  · rw [if_pos h]
    by_cases h2 : schB (Lib.cut l [58, 47, 47]).1 = true
    · refine ⟨ba (lowL (Lib.cut l [58, 47, 47]).1), none, fun _ W => ?_, fun h3 => (by rw [h] at h3; cases h3), .inl ⟨by rw [if_pos h2]; rfl, rfl⟩⟩
      have := readScheme_any (ba (Lib.cut l [58, 47, 47]).1) W (by rw [ba_size]; omega)
      rw [ba_data, if_pos h2] at this
      exact this
    · refine ⟨⟨#[]⟩, some (72, .agg #[.string ⟨#[115, 99, 104, 101, 109, 101]⟩, .string (ba (Lib.cut l [58, 47, 47]).1)]), fun _ W => ?_, fun h3 => (by rw [h] at h3; cases h3), .inr ⟨by rw [if_neg h2], _, _, rfl⟩⟩
      have := readScheme_any (ba (Lib.cut l [58, 47, 47]).1) W (by rw [ba_size]; omega)
      rw [ba_data, if_neg h2] at this
      exact this
  · rw [if_neg h]
    exact ⟨⟨#[]⟩, none, fun h3 => absurd h3 h, fun _ => ⟨rfl, rfl⟩, .inl ⟨rfl, rfl⟩⟩
theorem pa_part (r : ByteArray) (hr : r.size ≤ 1000000) : ∃ (pa : ByteArray) (e1 : Option (TypeId × Value)),
    (0 ≤ Lib.indexByte r.data.toList 47 → ∀ W, Calls Tryd.prog 71 #[.string (r.extract (Lib.indexByte r.data.toList 47).toNat r.size)] W fun e w' => e = .returned (.tuple #[.string pa, encE e1]) ∧ W = w') ∧
    (¬ 0 ≤ Lib.indexByte r.data.toList 47 → pa = ⟨#[]⟩ ∧ e1 = none) ∧
    (((pathL r.data.toList).all pathC = true ∧ pa.data.toList = pathL r.data.toList ∧ e1 = none) ∨ (¬ (pathL r.data.toList).all pathC = true ∧ OneF e1)) := by
  unfold pathL
  by_cases h : 0 ≤ Lib.indexByte r.data.toList 47
  · rw [if_pos h]
    obtain ⟨q, hq⟩ : ∃ q, r.extract (Lib.indexByte r.data.toList 47).toNat r.size = q := ⟨_, rfl⟩
    have hql : r.data.toList.drop (Lib.indexByte r.data.toList 47).toNat = q.data.toList := by rw [← hq, ext_drop]
    have hqs : q.size ≤ 1000000 := by rw [← hq]; simp; omega
    rw [hql, hq]
    cases hb : q.data.toList.all pathC with
    | true =>
      refine ⟨q, none, fun _ W => ?_, fun h3 => absurd h h3, .inl ⟨rfl, rfl, rfl⟩⟩
      have := readPath_any q W hqs
      rw [hb] at this
      exact this
    | false =>
      refine ⟨⟨#[]⟩, some (72, .agg #[.string ⟨#[112, 97, 116, 104]⟩, .string q]), fun _ W => ?_, fun h3 => absurd h h3, .inr ⟨by simp, _, _, rfl⟩⟩
      have := readPath_any q W hqs
      rw [hb] at this
      exact this
  · rw [if_neg h]
    exact ⟨⟨#[]⟩, none, fun h3 => absurd h3 h, fun _ => ⟨rfl, rfl⟩, .inl ⟨rfl, rfl, rfl⟩⟩
theorem rest_eq (s : ByteArray) : (restB s).data.toList = restL s.data.toList := by
  unfold restB restL
  cases h : Lib.hasPrefix s.data.toList [42, 46] with
  | true => rw [if_pos rfl]; exact ext_drop s 2
  | false => rfl
theorem na_part (nm : ByteArray) (m : Int) (hn : nm.size ≤ 1000000) : ∃ (ho : ByteArray) (wi : Bool) (e2 : Option (TypeId × Value)),
    (∀ W, W.cell? ⟨2, 0, none⟩ = some (.int .i64 m) → Calls Tryd.prog 72 #[.string nm] W fun e w' => e = .returned (.tuple #[.string ho, .bool wi, encE e2]) ∧ Below W.heap.size W w') ∧
    ((nameL nm.data.toList = some (ho.data.toList, wi) ∧ e2 = none) ∨ (nameL nm.data.toList = none ∧ OneF e2)) := by
  unfold nameL
  by_cases h : nm.data.toList = [42]
  · rw [if_pos h]
    have e : nm = ⟨#[42]⟩ := by rw [← ba_list nm, h]; rfl
    refine ⟨⟨#[]⟩, true, none, fun W _ => ?_, .inl ⟨rfl, rfl⟩⟩
    rw [e]
    refine (readName_star W).mono ?_
    rintro e w' ⟨rfl, rfl⟩
    exact ⟨rfl, Below.refl _ _⟩
  · rw [if_neg h]
    cases hb : labB (restL nm.data.toList) with
    | true =>
      refine ⟨ba (lowL (restL nm.data.toList)), Lib.hasPrefix nm.data.toList [42, 46], none, fun W hW => ?_, .inl ⟨rfl, rfl⟩⟩
      have := readName_any nm m W hn h hW
      rw [rest_eq, hb] at this
      exact this
    | false =>
      refine ⟨⟨#[]⟩, false, some (72, .agg #[.string ⟨#[104, 111, 115, 116]⟩, .string nm]), fun W hW => ?_, .inr ⟨rfl, _, _, rfl⟩⟩
      have := readName_any nm m W hn h hW
      rw [rest_eq, hb] at this
      exact this
theorem po_part (h : List UInt8) (hl : h.length ≤ 1000000) : ∃ (po : Int) (e3 : Option (TypeId × Value)),
    ((Lib.cut h [58]).2.2 = true → ∀ W, Calls Tryd.prog 73 #[.string (ba (Lib.cut h [58]).2.1)] W fun e w' => e = .returned (.tuple #[.int .i64 po, encE e3]) ∧ W = w') ∧
    ((Lib.cut h [58]).2.2 = false → po = -1 ∧ e3 = none) ∧
    ((portS h = some po ∧ e3 = none) ∨ (portS h = none ∧ OneF e3)) := by
  unfold portS
  have hs := (cut_sizes h [58]).2
  by_cases hc : (Lib.cut h [58]).2.2 = true
  · rw [if_pos hc]
    cases hp : portL (Lib.cut h [58]).2.1 with
    | some p =>
      refine ⟨p, none, fun _ W => ?_, fun h3 => (by rw [hc] at h3; cases h3), .inl ⟨rfl, rfl⟩⟩
      have := readPort_any (ba (Lib.cut h [58]).2.1) W (by rw [ba_size]; omega)
      rw [ba_data, hp] at this
      exact this
    | none =>
      refine ⟨0, some (72, .agg #[.string ⟨#[112, 111, 114, 116]⟩, .string (ba (Lib.cut h [58]).2.1)]), fun _ W => ?_, fun h3 => (by rw [hc] at h3; cases h3), .inr ⟨rfl, _, _, rfl⟩⟩
      have := readPort_any (ba (Lib.cut h [58]).2.1) W (by rw [ba_size]; omega)
      rw [ba_data, hp] at this
      exact this
  · rw [if_neg hc]
    exact ⟨-1, none, fun h3 => absurd h3 hc, fun _ => ⟨rfl, rfl⟩, .inl ⟨rfl, rfl⟩⟩
set_option maxHeartbeats 800000 in
theorem parseHost_any (s : ByteArray) (m : Int) (w : World) (hs : s.size ≤ 1000000) (hm : w.cell? ⟨2, 0, none⟩ = some (.int .i64 m)) :
    Calls Tryd.prog 53 #[.string s] w fun e w' => PRes (hostL s.data.toList) e w' ∧ Below w.heap.size w w' := by
  have hsl : s.data.toList.length = s.size := by simp
  obtain ⟨sc, e0, s1, s2, s3⟩ := sc_part s.data.toList (by omega)
  obtain ⟨r, hr⟩ : ∃ r, r = if (Lib.cut s.data.toList [58, 47, 47]).2.2 = true then ba (Lib.cut s.data.toList [58, 47, 47]).2.1 else s := ⟨_, rfl⟩
  have hrl : r.data.toList = behL s.data.toList := by
    rw [hr]
    unfold behL
    split <;> rfl
  have hrs : r.size ≤ 1000000 := by
    have h1 := (cut_sizes s.data.toList [58, 47, 47]).2
    rw [hr]
    split
    · rw [ba_size]; omega
    · exact hs
  obtain ⟨pa, e1, p1, p2, p3⟩ := pa_part r hrs
  have hrl2 : r.data.toList.length = r.size := by simp
  obtain ⟨h, hh⟩ : ∃ h, h = if 0 ≤ Lib.indexByte r.data.toList 47 then r.extract 0 (Lib.indexByte r.data.toList 47).toNat else r := ⟨_, rfl⟩
  have hhl : h.data.toList = headL r.data.toList := by
    rw [hh]
    unfold headL
    split
    · exact ext_take _ _
    · rfl
  have hhs : h.data.toList.length ≤ 1000000 := by
    rw [hhl]
    unfold headL
    split
    · rw [List.length_take]; omega
    · omega
  have hhs2 : h.data.toList.length = h.size := by simp
  obtain ⟨po, e3, o1, o2, o3⟩ := po_part h.data.toList hhs
  have hns := (cut_sizes h.data.toList [58]).1
  obtain ⟨ho, wi, e2, n1, n3⟩ := na_part (ba (Lib.cut h.data.toList [58]).1) m (by rw [ba_size]; omega)
  rw [ba_data] at n3
  have hI : 0 ≤ Lib.indexByte r.data.toList 47 → (Lib.indexByte r.data.toList 47).toNat ≤ r.size := by
    intro hi
    obtain ⟨t, ht⟩ := ib_split r.data.toList 47 hi
    have := congrArg List.length ht
    rw [List.length_drop] at this
    simp only [List.length_cons] at this
    omega
  refine (host_walk s (ba (Lib.cut s.data.toList [58, 47, 47]).1) (ba (Lib.cut s.data.toList [58, 47, 47]).2.1) r h ⟨#[]⟩ (ba (Lib.cut h.data.toList [58]).1) (ba (Lib.cut h.data.toList [58]).2.1) sc pa ho (Lib.cut s.data.toList [58, 47, 47]).2.2 (Lib.cut h.data.toList [58]).2.2 wi (Lib.indexByte r.data.toList 47) po m e0 e1 e2 e3 w hm
    (fun W hW => Tryd.strings_Cut s ⟨#[58, 47, 47]⟩ m W (by omega) hW) s1 s2 hr (fun W => ib_any r 47 W) hI hrs p1 p2 hh
    (fun W hW => Tryd.strings_Cut h ⟨#[58]⟩ m W (by omega) hW) n1 o1 o2).mono ?_
  rintro e w' ⟨hend, hb⟩
  refine ⟨?_, hb⟩
  have hH : hostL s.data.toList = match schL s.data.toList with
      | some sc => tailL sc r.data.toList
      | none => none := by rw [hrl]; rfl
  rcases hend with ⟨hn, he⟩ | ⟨jj, hn, he, sb, mm, cp, ty, v, j1, j2, j3, j4⟩
  · obtain ⟨z0, z1, z2, z3⟩ := none_of_okE hn
    have no : ∀ {e : Option (TypeId × Value)}, e = none → ¬ OneF e := by rintro e rfl ⟨a, b, h⟩; cases h
    have q0 := s3.resolve_right fun x => no z0 x.2
    have q1 := p3.resolve_right fun x => no z1 x.2
    have q2 := n3.resolve_right fun x => no z2 x.2
    have q3 := o3.resolve_right fun x => no z3 x.2
    rw [hH, q0.1]
    simp only []
    unfold tailL
    rw [← hhl, q2.1, q3.1]
    simp only []
    rw [if_pos q1.1]
    unfold PRes
    rw [he]
    simp only [srcW, ← q1.2.1, ba_list]
    rfl
  · have hnone : hostL s.data.toList = none := by
      rw [hH]
      rcases s3 with ⟨a1, a2⟩ | ⟨a1, _⟩
      · rw [a1]
        simp only []
        unfold tailL
        rw [← hhl]
        rcases n3 with ⟨b1, b2⟩ | ⟨b1, _⟩
        · rw [b1]
          rcases o3 with ⟨c1, c2⟩ | ⟨c1, _⟩
          · rw [c1]
            rcases p3 with ⟨d1, d2, d3⟩ | ⟨d1, _⟩
            · exact absurd (by rw [a2, b2, c2, d3]; rfl) hn
            · simp only []
              rw [if_neg d1]
          · rw [c1]
        · rw [b1]
      · rw [a1]
    rw [hnone]
    have w0 : e0 = none ∨ OneF e0 := s3.elim (fun x => .inl x.2) (fun x => .inr x.2)
    have w1 : e1 = none ∨ OneF e1 := p3.elim (fun x => .inl x.2.2) (fun x => .inr x.2)
    have w2 : e2 = none ∨ OneF e2 := n3.elim (fun x => .inl x.2) (fun x => .inr x.2)
    have w3 : e3 = none ∨ OneF e3 := o3.elim (fun x => .inl x.2) (fun x => .inr x.2)
    obtain ⟨a, b, rfl, rfl⟩ := heads w0 w1 w2 w3 j3
    exact ⟨_, _, _, _, _, _, _, _, _, _, he, .inr ⟨jj, sb, mm, cp, a, b, rfl, rfl, j1, j2, j4⟩⟩
end Go.Proofs.YteeplfbaflldaaaDoor.S25
set_option linter.unusedVariables false
set_option linter.unusedSimpArgs false
namespace Go.Proofs.YteeplfbaflldaaaDoor.S25
open Go.RowKit Go.Extern.Stop Go.Stop Go.Extern T10

theorem PRes.parts {o : Option SrcL} {e : Ending} {w' : World} (h : PRes o e w') : ∃ k t b sc ho wi po pa EV, e = .returned (.tuple #[srcV k t b sc ho wi po pa, EV]) ∧
    ((∃ x, o = some x ∧ srcV k t b sc ho wi po pa = srcW x ∧ EV = .nilIface) ∨ (o = none ∧ ∃ ty v, EV = .iface ty v ∧ FaultAt ty v w')) := by
  cases o with
  | some x => exact ⟨_, _, _, _, _, _, _, _, _, h, .inl ⟨x, rfl, rfl, rfl⟩⟩
  | none =>
    obtain ⟨k, t, b, sc, ho, wi, po, pa, ty, v, h1, h2⟩ := h
    exact ⟨k, t, b, sc, ho, wi, po, pa, _, h1, .inr ⟨rfl, ty, v, rfl, h2⟩⟩
/-- Eight stores into a block of numbers leave a fault where it is. -/
theorem fault_keep8 {ty : TypeId} {v : Value} {W : World} (h : FaultAt ty v W) {p : Nat} {z : Int} (hp : W.cell? ⟨p, 0, none⟩ = some (.int .i64 z)) (v0 v1 v2 v3 v4 v5 v6 v7 : Value) :
    FaultAt ty v ((((((((W.setCell ⟨p, 0, none⟩ v0).setCell ⟨p, 1, none⟩ v1).setCell ⟨p, 2, none⟩ v2).setCell ⟨p, 3, none⟩ v3).setCell ⟨p, 4, none⟩ v4).setCell ⟨p, 5, none⟩ v5).setCell ⟨p, 6, none⟩ v6).setCell ⟨p, 7, none⟩ v7) := by
  rcases h with h | ⟨j, sb, m, cp, a, b, h1, h2, h3, h4, h5⟩
  · exact .inl h
  · refine .inr ⟨j, sb, m, cp, a, b, h1, h2, h3, keep8 ?_ h4 _ _ _ _ _ _ _ _, keep8 ?_ h5 _ _ _ _ _ _ _ _⟩
    · rintro rfl
      rw [hp] at h4
      cases h4
    · rintro rfl
      rw [hp] at h5
      cases h5
theorem FaultAt.far {ty : TypeId} {v : Value} {W W' : World} (h : FaultAt ty v W) (hB : Below W.heap.size W W') : FaultAt ty v W' := by
  rcases h with h | ⟨j, sb, m, cp, a, b, h1, h2, h3, h4, h5⟩
  · exact .inl h
  · have l4 := World.block_lt_of_cell? W _ h4
    have l5 := World.block_lt_of_cell? W _ h5
    simp only [] at l4 l5
    exact .inr ⟨j, sb, m, cp, a, b, h1, h2, h3, (hB.cell (p := ⟨j, 0, none⟩) l4).trans h4, (hB.cell (p := ⟨sb, 0, none⟩) l5).trans h5⟩
set_option maxHeartbeats 1600000 in
set_option maxRecDepth 100000 in
theorem parse_host (s : ByteArray) (m : Int) (w : World) (hs : s.size ≤ 1000000) (hm : w.cell? ⟨2, 0, none⟩ = some (.int .i64 m))
    (hq : s.size < 2 ∨ (∃ h : 2 ≤ s.size, s[0]'(by omega) ≠ 39) ∨ (∃ h : 2 ≤ s.size, s[0]'(by omega) = 39 ∧ s[s.size - 1]'(by omega) ≠ 39))
    (hsch : Lib.hasSuffix s.data.toList [58] = false ∨ (Lib.hasSuffix s.data.toList [58] = true ∧ schB (s.extract 0 (s.size - 1)).data.toList = false)) :
    Calls Tryd.prog 34 #[.string s] w fun e w' => PRes (hostL s.data.toList) e w' ∧ Below w.heap.size w w' := by
  obtain ⟨W1, hW1⟩ : ∃ W1, W1 = w.alloc (.cells #[.int .i64 0, .string ⟨#[]⟩, .int .i64 0, .string ⟨#[]⟩, .string ⟨#[]⟩, .bool false, .int .i64 0, .string ⟨#[]⟩] 41) := ⟨_, rfl⟩
  have B1 : Below w.heap.size w W1 := by rw [hW1]; exact (Below.refl _ w).alloc (Nat.le_refl _) _
  have k0 : W1.heap[w.heap.size]? = some (.cells #[.int .i64 0, .string ⟨#[]⟩, .int .i64 0, .string ⟨#[]⟩, .string ⟨#[]⟩, .bool false, .int .i64 0, .string ⟨#[]⟩] 41 (0, 0)) := by rw [hW1]; exact heap_alloc_new w _
  have hlt1 : w.heap.size < W1.heap.size := by rw [hW1]; simp
  have h2l := World.block_lt_of_cell? w _ hm
  simp only [] at h2l
  have hcs := cutSuffix_any s ⟨#[58]⟩ W1 hs (by decide)
  have hpr := parseHost_any s m W1 hs ((B1.cell (p := ⟨2, 0, none⟩) h2l).trans hm)
  have HPR : Hid (Calls Tryd.prog 53 #[.string s] W1 fun e w' => (∃ k t b sc ho wi po pa EV, e = .returned (.tuple #[.agg #[.int .i64 k, .string t, .int .i64 b, .string sc, .string ho, .bool wi, .int .i64 po, .string pa], EV]) ∧
    Hid ((∃ x, hostL s.data.toList = some x ∧ srcV k t b sc ho wi po pa = srcW x ∧ EV = .nilIface) ∨ (hostL s.data.toList = none ∧ ∃ ty v, EV = .iface ty v ∧ FaultAt ty v w'))) ∧ Below W1.heap.size W1 w') := by
    refine hpr.mono ?_
    rintro e w' ⟨h1, h2⟩
    exact ⟨h1.parts, h2⟩
  have HB1 := Lib.hid B1
  have HW := Lib.hid hW1
  have HK0 := Lib.hid k0
  clear hW1 k0 B1 hpr hm
  have HCS : Hid (∃ q ok, (Calls Tryd.prog 51 #[.string s, .string ⟨#[58]⟩] W1 fun e w' => e = .returned (.tuple #[.string q, .bool ok]) ∧ w' = W1) ∧ (ok = true → Calls Tryd.prog 52 #[.string q] W1 fun e w' => e = .returned (.bool false) ∧ W1 = w')) := by
    rcases hsch with h | ⟨h, h2⟩
    · refine ⟨s, false, ?_, fun h => by cases h⟩
      refine hcs.mono ?_
      rintro e w' ⟨rfl, rfl⟩
      refine ⟨?_, rfl⟩
      cases hb : Lib.hasSuffix s.data.toList [58] with
      | true => rw [hb] at h; cases h
      | false => rfl
    · refine ⟨s.extract 0 (s.size - 1), true, ?_, fun _ => ?_⟩
      · refine hcs.mono ?_
        rintro e w' ⟨rfl, rfl⟩
        refine ⟨?_, rfl⟩
        cases hb : Lib.hasSuffix s.data.toList [58] with
        | true => rfl
        | false => rw [hb] at h; cases h
      · have := isScheme_any (s.extract 0 (s.size - 1)) W1 (by simp; omega)
        rw [h2] at this
        exact this
  obtain ⟨q, ok, hC, hS⟩ := HCS.out
  have HC := Lib.hid hC
  clear hC HCS hcs hsch
  have HQ : Hid (s.size < 2 ∨ (∃ c : UInt8, 2 ≤ s.size ∧ (∃ h : 0 < s.size, s[0] = c) ∧ ((c.toNat : Int) == 39) = false) ∨ (∃ c d : UInt8, 2 ≤ s.size ∧ (∃ h : 0 < s.size, s[0] = c) ∧ (∃ h : s.size - 1 < s.size, s[s.size - 1] = d) ∧ ((c.toNat : Int) == 39) = true ∧ ((d.toNat : Int) == 39) = false)) := by
    have ne : ∀ c : UInt8, c ≠ 39 → ((c.toNat : Int) == 39) = false := by
      intro c hc
      rw [beq_eq_false_iff_ne]
      intro e
      exact hc (UInt8.toNat_inj.1 (by show c.toNat = 39; omega))
    rcases hq with h | ⟨h, h2⟩ | ⟨h, h2, h3⟩
    · exact .inl h
    · exact .inr (.inl ⟨_, h, ⟨by omega, rfl⟩, ne _ h2⟩)
    · exact .inr (.inr ⟨_, _, h, ⟨by omega, rfl⟩, ⟨by omega, rfl⟩, by rw [h2]; rfl, ne _ h3⟩)
  clear hq
  go_enter Tryd.func34, Tryd.ntmps34
  go_upto_region 1 with fail
  rw [← HW.out]
  rcases HQ.out with hlt2 | ⟨c, h2, ⟨p0, hc⟩, hne⟩ | ⟨c, d, h2, ⟨p0, hc⟩, ⟨p1, hd⟩, hce, hne⟩
  all_goals
    try have hlast : (s.size : Int) - 1 = ((s.size - 1 : Nat) : Int) := by omega
    cases ok with
    | true =>
      have HS := Lib.hid (hS rfl)
      clear hS
      go_wp2_with (first
        | (go_at_call 51; refine HC.out.mono ?_; rintro e w2 ⟨rfl, rfl⟩)
        | (go_at_call 52; refine HS.out.mono ?_; rintro e w2 ⟨rfl, rfl⟩)
        | (go_at_call 53; refine HPR.out.mono ?_; rintro e w2 ⟨⟨k, t, b, sc, ho, wi, po, pa, EV, rfl, hpv⟩, b2⟩; obtain ⟨⟨c0, c1, c2, c3, c4, c5, c6, c7⟩, f0, f1, f2, f3, f4, f5, f6, f7⟩ := eight ((b2.block _ hlt1).trans HK0.out); have HB2 := Lib.hid (HB1.out.trans (b2.mono (Nat.le_of_lt hlt1))); clear b2))
      refine bodyPost_ret (v := .tuple #[srcV k t b sc ho wi po pa, EV]) ?_ rfl ?_
      · rw [results_cell_tmp rfl]
        go_simp
        rfl
      · refine ⟨?_, below_set8 HB2.out _ _ _ _ _ _ _ _⟩
        rcases hpv.out with ⟨x, h1, h2, h3⟩ | ⟨h1, ty, v, h2, h3⟩
        · rw [h1, h2, h3]; exact rfl
        · rw [h1, h2]; exact ⟨k, t, b, sc, ho, wi, po, pa, ty, v, rfl, fault_keep8 h3 c0 _ _ _ _ _ _ _ _⟩
    | false =>
      clear hS
      go_wp2_with (first
        | (go_at_call 51; refine HC.out.mono ?_; rintro e w2 ⟨rfl, rfl⟩)
        | (go_at_call 53; refine HPR.out.mono ?_; rintro e w2 ⟨⟨k, t, b, sc, ho, wi, po, pa, EV, rfl, hpv⟩, b2⟩; obtain ⟨⟨c0, c1, c2, c3, c4, c5, c6, c7⟩, f0, f1, f2, f3, f4, f5, f6, f7⟩ := eight ((b2.block _ hlt1).trans HK0.out); have HB2 := Lib.hid (HB1.out.trans (b2.mono (Nat.le_of_lt hlt1))); clear b2))
      refine bodyPost_ret (v := .tuple #[srcV k t b sc ho wi po pa, EV]) ?_ rfl ?_
      · rw [results_cell_tmp rfl]
        go_simp
        rfl
      · refine ⟨?_, below_set8 HB2.out _ _ _ _ _ _ _ _⟩
        rcases hpv.out with ⟨x, h1, h2, h3⟩ | ⟨h1, ty, v, h2, h3⟩
        · rw [h1, h2, h3]; exact rfl
        · rw [h1, h2]; exact ⟨k, t, b, sc, ho, wi, po, pa, ty, v, rfl, fault_keep8 h3 c0 _ _ _ _ _ _ _ _⟩
theorem head_at {s : ByteArray} (h : 0 < s.size) : s.data.toList.head? = some (s[0]) := by
  have := at_get h
  rw [List.head?_eq_getElem?]; exact this
theorem last_at {s : ByteArray} (h : 0 < s.size) : s.data.toList.getLast? = some (s[s.size - 1]'(by omega)) := by
  have := at_get (s := s) (k := s.size - 1) (by omega)
  have hl : s.data.toList.length = s.size := by simp
  rw [List.getLast?_eq_getElem?, hl]; exact this
theorem parse_any (s : ByteArray) (m : Int) (w : World) (hs : s.size ≤ 1000000) (hm : w.cell? ⟨2, 0, none⟩ = some (.int .i64 m)) :
    Calls Tryd.prog 34 #[.string s] w fun e w' => PRes (parseL s.data.toList) e w' ∧ Below w.heap.size w w' := by
  have hl : s.data.toList.length = s.size := by simp
  unfold parseL
  by_cases h1 : 2 ≤ s.data.toList.length ∧ s.data.toList.head? = some 39 ∧ s.data.toList.getLast? = some 39
  · rw [if_pos h1]
    obtain ⟨a1, a2, a3⟩ := h1
    have h2 : 2 ≤ s.size := by omega
    rw [head_at (by omega)] at a2
    rw [last_at (by omega)] at a3
    injection a2 with a2
    injection a3 with a3
    have hq : (s.extract 1 (s.size - 1)).data.toList = (s.data.toList.drop 1).take (s.data.toList.length - 2) := by
      rw [ext_list, hl]
      rfl
    refine (parse_quoted s m w hs h2 a2 a3 hm).mono ?_
    rintro e w' ⟨rfl, hb⟩
    refine ⟨?_, hb⟩
    rw [quotedV_eq, hq]
    cases quoL ((s.data.toList.drop 1).take (s.data.toList.length - 2)) with
    | some x => exact rfl
    | none => exact ⟨_, _, _, _, _, _, _, _, _, _, rfl, .inl ⟨_, _, rfl, rfl⟩⟩
  · rw [if_neg h1]
    by_cases h2 : Lib.hasSuffix s.data.toList [58] = true ∧ schB (s.data.toList.take (s.data.toList.length - 1)) = true
    · rw [if_pos h2]
      have e0 : (s.extract 0 (s.size - 1)).data.toList = s.data.toList.take (s.data.toList.length - 1) := by rw [ext_take, hl]
      have hne := schB_ne h2.2
      have hlen : 2 ≤ s.size := by
        have e := suffix_58 h2.1
        have h3 := congrArg List.length e
        have h4 := List.length_pos_iff.2 hne
        rw [List.length_append] at h3
        simp only [List.length_cons, List.length_nil] at h3
        omega
      have ha : s[0]'(by omega) ≠ 39 := by
        intro e
        have e2 := head_at (s := s) (by omega)
        rw [e] at e2
        have e3 := suffix_58 h2.1
        cases hL : s.data.toList.take (s.data.toList.length - 1) with
        | nil => exact hne hL
        | cons c r =>
          rw [hL] at e3
          rw [e3] at e2
          simp at e2
          have := (schB_chars h2.2 c (by rw [hL]; simp)).2.2
          exact this e2
      refine (parse_scheme s w hs hlen ha h2.1 (by rw [e0]; exact h2.2)).mono ?_
      rintro e w' ⟨rfl, hb⟩
      refine ⟨?_, hb⟩
      rw [e0]
      exact rfl
    · rw [if_neg h2]
      refine parse_host s m w hs hm ?_ ?_
      · by_cases hz : s.size < 2
        · exact .inl hz
        · right
          by_cases h3 : s[0]'(by omega) = 39
          · right
            refine ⟨by omega, h3, fun h4 => h1 ⟨by omega, ?_, ?_⟩⟩
            · rw [head_at (by omega), h3]
            · rw [last_at (by omega), h4]
          · exact .inl ⟨by omega, h3⟩
      · cases h5 : Lib.hasSuffix s.data.toList [58] with
        | false => exact .inl rfl
        | true =>
          right
          refine ⟨rfl, ?_⟩
          rw [ext_take, ← hl]
          cases h6 : schB (s.data.toList.take (s.data.toList.length - 1)) with
          | false => rfl
          | true => exact absurd ⟨h5, h6⟩ h2
end Go.Proofs.YteeplfbaflldaaaDoor.S25
