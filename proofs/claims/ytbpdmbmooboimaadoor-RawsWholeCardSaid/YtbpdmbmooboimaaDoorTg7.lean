/- lazaretlaw10.Attrs, Same: two tokens that are the same. -/
import Derived.Test.YtbpdmbmooboimaaDoorTg6
import Derived.Deep.Cut
set_option linter.unusedVariables false
set_option linter.unusedSimpArgs false
namespace Go.Proofs.YtbpdmbmooboimaaDoor.T10
open Go.RowKit R9

/-- A slice of attributes, wherever it lies. -/
def AttIn (w : World) (v : Value) (l : List At) : Prop :=
  ∃ ao cap, v = .slice ao l.length cap ∧ l.length ≤ cap ∧ cap ≤ maxLen ∧ (l ≠ [] → ∃ b off, ao = some ⟨b, off, none⟩ ∧ b < w.heap.size ∧ ∀ (i : Nat) (h : i < l.length), w.cell? ⟨b, off + i * 2, none⟩ = some (.string ⟨l[i].1.toArray⟩) ∧ w.cell? ⟨b, off + i * 2 + 1, none⟩ = some (.string ⟨l[i].2.toArray⟩))
theorem AttIn.below {w w' : World} {v : Value} {l : List At} {B : Nat} (h : AttIn w v l) (hb : Below B w w') (hB : w.heap.size ≤ B) : AttIn w' v l := by
  obtain ⟨ao, cap, h1, h2, h3, h4⟩ := h
  refine ⟨ao, cap, h1, h2, h3, fun hne => ?_⟩
  obtain ⟨b, off, h5, h6, h7⟩ := h4 hne
  refine ⟨b, off, h5, Nat.lt_of_lt_of_le h6 hb.size, fun i hi => ?_⟩
  obtain ⟨h8, h9⟩ := h7 i hi
  exact ⟨(hb.cell (p := ⟨b, off + i * 2, none⟩) (by show b < B; omega)).trans h8, (hb.cell (p := ⟨b, off + i * 2 + 1, none⟩) (by show b < B; omega)).trans h9⟩
theorem AttIn.nil (w : World) : AttIn w (.slice none 0 0) [] := ⟨none, 0, rfl, Nat.le_refl _, by decide, fun h => absurd rfl h⟩
theorem attC_at : ∀ (l : List At) (i : Nat) (h : i < l.length), (attC l)[i * 2]? = some (.string ⟨l[i].1.toArray⟩) ∧ (attC l)[i * 2 + 1]? = some (.string ⟨l[i].2.toArray⟩)
  | [], i, h => by simp at h
  | a :: t, 0, h => ⟨rfl, rfl⟩
  | a :: t, i + 1, h => by
    have ih := attC_at t i (by simpa using h)
    have e : attC (a :: t) = .string ⟨a.1.toArray⟩ :: .string ⟨a.2.toArray⟩ :: attC t := rfl
    rw [e, show (i + 1) * 2 = i * 2 + 1 + 1 by omega]
    simpa using ih
theorem att_in {w : World} {B : Nat} {v : Value} {l : List At} (h : w.ownsRow B 83 2 v l.length (attC l)) : AttIn w v l := by
  rcases h.2 with ⟨rfl, h0⟩ | ⟨g, cap, cur, rfl, hg, hh, hle, hcm, hcs, htake⟩
  · exact ⟨none, 0, by rw [h0], by omega, by unfold maxLen; omega, fun hne => absurd (List.length_eq_zero_iff.1 h0) hne⟩
  · refine ⟨_, cap, rfl, hle, hcm, fun hne => ⟨g, 0, rfl, (Array.getElem?_eq_some_iff.1 hh).1, fun i hi => ?_⟩⟩
    obtain ⟨c1, c2⟩ := attC_at l i hi
    have hadd : ∀ j, (⟨g, 0, none⟩ : Addr).add j = ⟨g, 0 + j, none⟩ := by intro j; unfold Addr.add; split <;> simp_all
    have r1 := h.cells (g := g) rfl _ _ c1
    have r2 := h.cells (g := g) rfl _ _ c2
    rw [hadd] at r1 r2
    exact ⟨r1, r2⟩
theorem att_lit (w : World) (l : List At) (hn : l ≠ []) (h : l.length ≤ 1000) : AttIn (w.alloc (.cells (attC l).toArray 83)) (.slice (some ⟨w.heap.size, 0, none⟩) l.length l.length) l := by
  refine ⟨_, l.length, rfl, Nat.le_refl _, by unfold maxLen; omega, fun _ => ⟨w.heap.size, 0, rfl, by simp, fun i hi => ?_⟩⟩
  obtain ⟨c1, c2⟩ := attC_at l i hi
  have k := heap_alloc_new w (.cells (attC l).toArray 83 (0, 0))
  rw [Lib.cell_of_heap k, Lib.cell_of_heap k]
  simpa using ⟨c1, c2⟩
theorem AttIn.shape {w : World} {v : Value} {l : List At} (h : AttIn w v l) : ∃ ao cap, v = .slice ao l.length cap := by
  obtain ⟨ao, cap, h1, _⟩ := h
  exact ⟨ao, cap, h1⟩

set_option maxHeartbeats 3200000 in
set_option maxRecDepth 100000 in
theorem attrs_is (va vb : Value) (l : List At) (w : World) (ha : AttIn w va l) (hb : AttIn w vb l) :
    Calls Tryd.prog 47 #[va, vb] w fun e w' => e = .returned (.bool true) ∧ Below w.heap.size w w' := by
  obtain ⟨aa, ca, rfl, ha1, ha2, ha3⟩ := ha
  obtain ⟨ab, cb, rfl, hb1, hb2, hb3⟩ := hb
  have HA := Lib.hid ha3
  have HB := Lib.hid hb3
  obtain ⟨n, hn⟩ : ∃ n, l.length = n := ⟨_, rfl⟩
  have HN := Lib.hid hn
  rw [hn] at ha1 hb1 ⊢
  unfold maxLen at ha2
  have hll : ((n : Int) != (n : Int)) = false := by simp
  clear ha3 hb3 hn hb1 hb2
  go_enter Tryd.func47, Tryd.ntmps47
  go_wp2_with fail
  go_loopw [5] (fun i wr => ∃ k : Nat, k ≤ n ∧ i = .int .i64 k ∧ Hid (Below w.heap.size w wr)) (fun i _ => n - (intOf i).toNat)
  case atStart => exact ⟨0, Nat.zero_le _, rfl, Below.refl _ _⟩
  case round =>
    obtain ⟨k, hk, rfl, HW⟩ := hrel
    by_cases hlt : k < n
    · have hki : (k : Int) < n := by omega
      have hlen : k < l.length := by rw [HN.out]; exact hlt
      have hne : l ≠ [] := by intro e; rw [e] at hlen; simp at hlen
      obtain ⟨b1, o1, rfl, hb1, x⟩ := HA.out hne
      obtain ⟨b2, o2, rfl, hb2, y⟩ := HB.out hne
      obtain ⟨x0, x1⟩ := x k hlen
      obtain ⟨y0, y1⟩ := y k hlen
      obtain ⟨nm, hnm⟩ : ∃ nm : ByteArray, (⟨l[k].1.toArray⟩ : ByteArray) = nm := ⟨_, rfl⟩
      obtain ⟨vl, hvl⟩ : ∃ vl : ByteArray, (⟨l[k].2.toArray⟩ : ByteArray) = vl := ⟨_, rfl⟩
      rw [hnm] at x0 y0
      rw [hvl] at x1 y1
      have X0 := (HW.out.cell (p := ⟨b1, o1 + k * 2, none⟩) hb1).trans x0
      have X1 := (HW.out.cell (p := ⟨b1, o1 + k * 2 + 1, none⟩) hb1).trans x1
      have Y0 := (HW.out.cell (p := ⟨b2, o2 + k * 2, none⟩) hb2).trans y0
      have Y1 := (HW.out.cell (p := ⟨b2, o2 + k * 2 + 1, none⟩) hb2).trans y1
      clear x y x0 x1 y0 y1 hnm hvl
      go_wp2_with fail
      go_region
      all_goals go_wp2_with fail
      all_goals go_roundw
      all_goals first
        | (simp [intOf]; omega)
        | exact ⟨k + 1, by omega, by go_num, HW.out.drew⟩
    · have hki : ¬ (k : Int) < n := by omega
      go_wp2_with fail
      go_ret
      exact ⟨by exact rfl, HW.out⟩

/-- The cells of a token. -/
def tokA (k : Int) (n x : ByteArray) (v : Value) (d s q : Bool) (fr tx : Int) : Array Value := #[.int .i64 k, .string n, .string x, v, .bool d, .bool s, .bool q, .int .i64 fr, .int .i64 tx]
set_option maxHeartbeats 3200000 in
set_option maxRecDepth 100000 in
theorem tsame_is (va vb : Value) (l : List At) (k fr tx : Int) (n x : ByteArray) (d s q : Bool) (w : World) (ha : AttIn w va l) (hb : AttIn w vb l) :
    Calls Tryd.prog 19 #[.agg (tokA k n x va d s q fr tx), .agg (tokA k n x vb d s q fr tx)] w fun e w' => e = .returned (.bool true) ∧ Below w.heap.size w w' := by
  obtain ⟨W2, hW2⟩ : ∃ W2, W2 = (w.alloc (.cells (tokA k n x va d s q fr tx) 25)).alloc (.cells (tokA k n x vb d s q fr tx) 25) := ⟨_, rfl⟩
  have hb2 : Below w.heap.size w W2 := by
    rw [hW2]
    exact ((Below.refl _ w).alloc (Nat.le_refl _) _).alloc (by simp) _
  have k1 : W2.heap[w.heap.size + 1]? = some (.cells (tokA k n x vb d s q fr tx) 25 (0, 0)) := by
    rw [hW2]
    have := heap_alloc_new (w.alloc (.cells (tokA k n x va d s q fr tx) 25)) (.cells (tokA k n x vb d s q fr tx) 25)
    simpa using this
  have k0 : W2.heap[w.heap.size]? = some (.cells (tokA k n x va d s q fr tx) 25 (0, 0)) := by
    rw [hW2, Below.heap_alloc _ _ _ (by simp)]
    exact heap_alloc_new w _
  have HC := Lib.hid (attrs_is va vb l W2 (ha.below hb2 (Nat.le_refl _)) (hb.below hb2 (Nat.le_refl _)))
  have HB2 := Lib.hid hb2
  unfold tokA at k0 k1 hW2 ⊢
  obtain ⟨aoa, capa, rfl⟩ := ha.shape
  obtain ⟨aob, capb, rfl⟩ := hb.shape
  obtain ⟨⟨c0, c1, c2, c3, c4, c5, c6, c7, c8⟩, _⟩ := nine k0
  obtain ⟨⟨d0, d1, d2, d3, d4, d5, d6, d7, d8⟩, _⟩ := nine k1
  have hk : (k == k) = true := by simp
  have hf : (fr == fr) = true := by simp
  have ht : (tx == tx) = true := by simp
  have hnn : (n.toList == n.toList) = true := by simp
  have hxx : (x.toList == x.toList) = true := by simp
  have hdd : (d == d) = true := by simp
  have hss : (s == s) = true := by simp
  have hqq : (q == q) = true := by simp
  have HW2 := Lib.hid hW2
  have hs2 : Hid (W2.heap.size = w.heap.size + 2) := by show _ = _; rw [hW2]; simp
  clear hW2 k0 k1 hb2 ha hb
  go_enter Tryd.func19, Tryd.ntmps19
  go_upto_region 1 with fail
  rw [← HW2.out]
  go_wp2_with fail
  refine HC.out.mono ?_
  rintro e w3 ⟨rfl, b3⟩
  have e0 : ∀ j v, W2.cell? ⟨w.heap.size, j, none⟩ = some v → w3.cell? ⟨w.heap.size, j, none⟩ = some v := fun j v h => (b3.cell (p := ⟨w.heap.size, j, none⟩) (by show w.heap.size < _; have := hs2.out; omega)).trans h
  have e1 : ∀ j v, W2.cell? ⟨w.heap.size + 1, j, none⟩ = some v → w3.cell? ⟨w.heap.size + 1, j, none⟩ = some v := fun j v h => (b3.cell (p := ⟨w.heap.size + 1, j, none⟩) (by show w.heap.size + 1 < _; have := hs2.out; omega)).trans h
  have c4' := e0 4 _ c4
  have c5' := e0 5 _ c5
  have c6' := e0 6 _ c6
  have c7' := e0 7 _ c7
  have c8' := e0 8 _ c8
  have d4' := e1 4 _ d4
  have d5' := e1 5 _ d5
  have d6' := e1 6 _ d6
  have d7' := e1 7 _ d7
  have d8' := e1 8 _ d8
  have HB3 : Hid (Below w.heap.size w w3) := HB2.out.trans (b3.mono (by have := hs2.out; omega))
  clear e0 e1 b3 c0 c1 c2 c3 c4 c5 c6 c7 c8 d0 d1 d2 d3 d4 d5 d6 d7 d8
  go_wp2_with fail
  go_ret
  exact ⟨by exact rfl, HB3.out⟩
/-- The zero token is the same as itself. -/
theorem zTok_eq : zTok = .agg (tokA 0 ⟨#[]⟩ ⟨#[]⟩ (.slice none 0 0) false false false 0 0) := rfl
theorem zsame (w : World) : Calls Tryd.prog 19 #[zTok, zTok] w fun e w' => e = .returned (.bool true) ∧ Below w.heap.size w w' := by
  rw [zTok_eq]
  exact tsame_is _ _ [] 0 0 0 _ _ false false false w (AttIn.nil w) (AttIn.nil w)
def kindI (t : Tok) : Int := if t.fin then 3 else 2
theorem tokV_eq (t : Tok) (a : Nat) (sv : Value) : tokV t a sv = .agg (tokA (kindI t) ⟨t.name.toArray⟩ ⟨#[]⟩ sv t.dup t.self false (a : Int) (t.next : Int)) := rfl

end Go.Proofs.YtbpdmbmooboimaaDoor.T10
