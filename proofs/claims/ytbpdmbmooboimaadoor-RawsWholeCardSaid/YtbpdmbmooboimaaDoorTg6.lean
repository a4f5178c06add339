/- tags.Read. -/
import Derived.Test.YtbpdmbmooboimaaDoorTg5
set_option linter.unusedVariables false
set_option linter.unusedSimpArgs false
namespace Go.Proofs.YtbpdmbmooboimaaDoor.T10
open Go.RowKit R9

def zTok : Value := .agg #[.int .i64 0, .string ⟨#[]⟩, .string ⟨#[]⟩, .slice none 0 0, .bool false, .bool false, .bool false, .int .i64 0, .int .i64 0]
/-- A tag that was read, its attributes in a slice. -/
def tokV (t : Tok) (a : Nat) (sv : Value) : Value := .agg #[.int .i64 (if t.fin then 3 else 2), .string ⟨t.name.toArray⟩, .string ⟨#[]⟩, sv, .bool t.dup, .bool t.self, .bool false, .int .i64 (a : Int), .int .i64 (t.next : Int)]
/-- What Read hands back. -/
def ReadRes (o : Option Tok) (a B : Nat) (w : World) (e : Ending) : Prop :=
  match o with
  | none => e = .returned (.tuple #[zTok, .int .i64 0, .bool false])
  | some t => ∃ oa oc, e = .returned (.tuple #[tokV t a (.slice oa t.attrs.length oc), .int .i64 (t.next : Int), .bool true]) ∧ w.ownsRow B 83 2 (.slice oa t.attrs.length oc) t.attrs.length (attC t.attrs)
theorem results_cell_tmp2 {fn : Func} {p u v : Tmp} {ty : TypeId} (h : fn.results = #[.cell p ty, .tmp u, .tmp v]) (tmps : Array Value) (P : Program) (w : World) :
    (results fn tmps).run P w =
      ((asAddr (tmps.getD p undef)).run P w).andThen fun a w₁ => ((loadVar ty a).run P w₁).andThen fun x w₂ => .ok (.tuple #[x, tmps.getD u undef, tmps.getD v undef]) w₂ := by
  simp only [results, h]
  simp [Sem.run_bind, Result.andThen]
theorem nine {w : World} {p : Nat} {t : TypeId} {a b c d e f g h i : Value} (k : w.heap[p]? = some (.cells #[a, b, c, d, e, f, g, h, i] t (0, 0))) :
    (w.cell? ⟨p, 0, none⟩ = some a ∧ w.cell? ⟨p, 1, none⟩ = some b ∧ w.cell? ⟨p, 2, none⟩ = some c ∧ w.cell? ⟨p, 3, none⟩ = some d ∧ w.cell? ⟨p, 4, none⟩ = some e ∧ w.cell? ⟨p, 5, none⟩ = some f ∧ w.cell? ⟨p, 6, none⟩ = some g ∧ w.cell? ⟨p, 7, none⟩ = some h ∧ w.cell? ⟨p, 8, none⟩ = some i) ∧
    (w.frozen? ⟨p, 0, none⟩ = false ∧ w.frozen? ⟨p, 1, none⟩ = false ∧ w.frozen? ⟨p, 2, none⟩ = false ∧ w.frozen? ⟨p, 3, none⟩ = false ∧ w.frozen? ⟨p, 4, none⟩ = false ∧ w.frozen? ⟨p, 5, none⟩ = false ∧ w.frozen? ⟨p, 6, none⟩ = false ∧ w.frozen? ⟨p, 7, none⟩ = false ∧ w.frozen? ⟨p, 8, none⟩ = false) := by
  refine ⟨⟨?_, ?_, ?_, ?_, ?_, ?_, ?_, ?_, ?_⟩, Lib.frozen_of_heap k 0, Lib.frozen_of_heap k 1, Lib.frozen_of_heap k 2, Lib.frozen_of_heap k 3, Lib.frozen_of_heap k 4, Lib.frozen_of_heap k 5, Lib.frozen_of_heap k 6, Lib.frozen_of_heap k 7, Lib.frozen_of_heap k 8⟩ <;> (rw [Lib.cell_of_heap k]; rfl)
/-- What nine stores into a block leave of another world. -/
theorem below_set9 {w w' : World} {p : Nat} (h : Below p w w') (a b c d e f g i j : Value) : Below p w (((((((((w'.setCell ⟨p, 0, none⟩ a).setCell ⟨p, 1, none⟩ b).setCell ⟨p, 2, none⟩ c).setCell ⟨p, 3, none⟩ d).setCell ⟨p, 4, none⟩ e).setCell ⟨p, 5, none⟩ f).setCell ⟨p, 6, none⟩ g).setCell ⟨p, 7, none⟩ i).setCell ⟨p, 8, none⟩ j) :=
  (((((((((h.setCell (by exact Nat.le_refl _) _).setCell (by exact Nat.le_refl _) _).setCell (by exact Nat.le_refl _) _).setCell (by exact Nat.le_refl _) _).setCell (by exact Nat.le_refl _) _).setCell (by exact Nat.le_refl _) _).setCell (by exact Nat.le_refl _) _).setCell (by exact Nat.le_refl _) _).setCell (by exact Nat.le_refl _) _)
theorem owns_set9 {w : World} {B p : Nat} {t : TypeId} {sz n : Nat} {v : Value} {xs : List Value} (h : w.ownsRow B t sz v n xs) (hp : p < B) (a b c d e f g i j : Value) : (((((((((w.setCell ⟨p, 0, none⟩ a).setCell ⟨p, 1, none⟩ b).setCell ⟨p, 2, none⟩ c).setCell ⟨p, 3, none⟩ d).setCell ⟨p, 4, none⟩ e).setCell ⟨p, 5, none⟩ f).setCell ⟨p, 6, none⟩ g).setCell ⟨p, 7, none⟩ i).setCell ⟨p, 8, none⟩ j).ownsRow B t sz v n xs :=
  ownsRow_setCell_below (ownsRow_setCell_below (ownsRow_setCell_below (ownsRow_setCell_below (ownsRow_setCell_below (ownsRow_setCell_below (ownsRow_setCell_below (ownsRow_setCell_below (ownsRow_setCell_below h (by exact hp) _) (by exact hp) _) (by exact hp) _) (by exact hp) _) (by exact hp) _) (by exact hp) _) (by exact hp) _) (by exact hp) _) (by exact hp) _
set_option maxHeartbeats 1600000 in
set_option maxRecDepth 100000 in
theorem read_out (s : ByteArray) (z : Int) (w : World) (hz : z < 0) : Calls Tryd.prog 85 #[.string s, .int .i64 z] w fun e w' => e = .returned (.tuple #[zTok, .int .i64 0, .bool false]) ∧ Below w.heap.size w w' := by
  obtain ⟨W1, hW1⟩ : ∃ W1, W1 = w.alloc (.cells #[.int .i64 0, .string ⟨#[]⟩, .string ⟨#[]⟩, .slice none 0 0, .bool false, .bool false, .bool false, .int .i64 0, .int .i64 0] 25) := ⟨_, rfl⟩
  have k0 : W1.heap[w.heap.size]? = some (.cells #[.int .i64 0, .string ⟨#[]⟩, .string ⟨#[]⟩, .slice none 0 0, .bool false, .bool false, .bool false, .int .i64 0, .int .i64 0] 25 (0, 0)) := by
    rw [hW1]; exact heap_alloc_new w _
  have HB1 : Hid (Below w.heap.size w W1) := by show Below _ _ _; rw [hW1]; exact (Below.refl _ w).alloc (Nat.le_refl _) _
  have HBG := Lib.hid (begin_out s z W1 hz)
  unfold retB at HBG
  have HW := Lib.hid hW1
  clear hW1
  go_enter Tryd.func85, Tryd.ntmps85
  go_upto_region 1 with fail
  rw [← HW.out]
  go_wp2_with fail
  refine HBG.out.mono ?_
  rintro e w' ⟨rfl, rfl⟩
  obtain ⟨⟨c0, c1, c2, c3, c4, c5, c6, c7, c8⟩, f0, f1, f2, f3, f4, f5, f6, f7, f8⟩ := nine k0
  clear k0
  go_wp2_with fail
  refine bodyPost_ret (v := .tuple #[zTok, .int .i64 0, .bool false]) ?_ rfl ?_
  · rw [results_cell_tmp2 rfl]
    go_simp
    rfl
  · exact ⟨rfl, below_set9 HB1.out _ _ _ _ _ _ _ _ _⟩
set_option maxHeartbeats 6400000 in
set_option maxRecDepth 100000 in
theorem read_any (s : ByteArray) (a : Nat) (m : Int) (w : World) (hT : RTab w) (hm : MaxOk m w) (ha : a ≤ 1000000) (hs : s.size ≤ 5000) :
    Calls Tryd.prog 85 #[.string s, .int .i64 a] w fun e w' => ReadRes (readL s.data.toList a) a w.heap.size w' e ∧ Below w.heap.size w w' := by
  obtain ⟨R, hR⟩ : ∃ R, readL s.data.toList a = R := ⟨_, rfl⟩
  rw [hR]
  obtain ⟨W1, hW1⟩ : ∃ W1, W1 = w.alloc (.cells #[.int .i64 0, .string ⟨#[]⟩, .string ⟨#[]⟩, .slice none 0 0, .bool false, .bool false, .bool false, .int .i64 0, .int .i64 0] 25) := ⟨_, rfl⟩
  have k0 : W1.heap[w.heap.size]? = some (.cells #[.int .i64 0, .string ⟨#[]⟩, .string ⟨#[]⟩, .slice none 0 0, .bool false, .bool false, .bool false, .int .i64 0, .int .i64 0] 25 (0, 0)) := by
    rw [hW1]; exact heap_alloc_new w _
  have HB1 : Hid (Below w.heap.size w W1) := by show Below _ _ _; rw [hW1]; exact (Below.refl _ w).alloc (Nat.le_refl _) _
  have HBG := Lib.hid (begin_any s a W1 ha (by omega))
  have HW := Lib.hid hW1
  have HT := Lib.hid hT
  have HM := Lib.hid hm
  have HGT : Hid ((1 : Nat) < w.heap.size) := by
    obtain ⟨t, fr, h1⟩ := hT
    exact (Array.getElem?_eq_some_iff.1 h1).1
  have HGM : Hid ((0 : Nat) < w.heap.size) := World.block_lt_of_cell? w _ hm
  have hsl : s.data.toList.length = s.size := by simp
  clear hW1 hT hm
  obtain ⟨⟨c0, c1, c2, c3, c4, c5, c6, c7, c8⟩, f0, f1, f2, f3, f4, f5, f6, f7, f8⟩ := nine k0
  unfold readL at hR
  by_cases h0 : (beginL s.data.toList a).1 = 0
  · rw [if_pos h0] at hR
    have e2 : (beginL s.data.toList a) = (0, (beginL s.data.toList a).2) := by rw [← h0]
    rw [e2] at HBG
    obtain ⟨q, hq⟩ : ∃ q, (beginL s.data.toList a).2 = q := ⟨_, rfl⟩
    rw [hq] at HBG
    unfold retB at HBG
    have HRR := Lib.hid hR
    clear hR h0 e2 hq hsl k0
    go_enter Tryd.func85, Tryd.ntmps85
    go_upto_region 1 with fail
    rw [← HW.out]
    go_wp2_with fail
    refine HBG.out.mono ?_
    rintro e w' ⟨rfl, rfl⟩
    go_wp2_with fail
    refine bodyPost_ret (v := .tuple #[zTok, .int .i64 0, .bool false]) ?_ rfl ?_
    · rw [results_cell_tmp2 rfl]
      go_simp
      rfl
    · exact ⟨by rw [← HRR.out]; exact rfl, below_set9 HB1.out _ _ _ _ _ _ _ _ _⟩
  · rw [if_neg h0] at hR
    obtain ⟨cb, hcb, _⟩ := begin_lt h0
    have hbl := (List.getElem?_eq_some_iff.1 hcb).1
    rw [hsl] at hbl
    obtain ⟨n, hn⟩ : ∃ n, (beginL s.data.toList a).1 = n := ⟨_, rfl⟩
    obtain ⟨fin, hfin⟩ : ∃ f, (beginL s.data.toList a).2 = f := ⟨_, rfl⟩
    have e2 : beginL s.data.toList a = (n, fin) := by rw [← hn, ← hfin]
    rw [e2] at HBG
    simp only [hn, hfin] at hR h0 hbl
    unfold retB at HBG
    obtain ⟨E, hE⟩ : ∃ E, n + upN stopA (s.data.toList.drop n) = E := ⟨_, rfl⟩
    have hue := upN_le stopA (s.data.toList.drop n)
    rw [List.length_drop, hsl] at hue
    have hEs : E ≤ s.size := by omega
    have hnE : n ≤ E := by omega
    have HU := Lib.hid (fun W => up_any ⟨#[47, 62]⟩ stopA stops_a s n W (by omega) (by omega))
    rw [hE] at HU
    obtain ⟨T, hTe⟩ : ∃ T, s.extract n E = T := ⟨_, rfl⟩
    have hTl : T.data.toList = (s.data.toList.drop n).take (upN stopA (s.data.toList.drop n)) := by rw [← hTe, ext_toList, ← hE, Nat.add_sub_cancel_left]
    have hTs : T.size ≤ 5000 := by rw [← hTe]; simp; omega
    obtain ⟨nm, hnm⟩ : ∃ nm, cleanL ((s.data.toList.drop n).take (upN stopA (s.data.toList.drop n))) = nm := ⟨_, rfl⟩
    rw [hnm, hE, hsl] at hR
    obtain ⟨Z, hZ⟩ : ∃ Z, restF (s.size + 1) (s.data.toList.drop E) [] false E = Z := ⟨_, rfl⟩
    rw [hZ] at hR
    have HZ := Lib.hid hZ
    have HRR := Lib.hid hR
    have t0 : ((n : Int) == 0) = false := by rw [beq_eq_false_iff_ne]; omega
    have i1 : (n : Int) ≤ E := by omega
    have i2 : (E : Int) ≤ s.size := by omega
    clear hR hZ hue hE hcb hn hfin e2 h0 hsl
    cases fin with
    | true =>
      obtain ⟨W2, hW2⟩ : ∃ W2, W2 = ((W1.setCell ⟨w.heap.size, 0, none⟩ (.int .i64 2)).setCell ⟨w.heap.size, 0, none⟩ (.int .i64 3)) := ⟨_, rfl⟩
      have k2 : W2.heap[w.heap.size]? = some (.cells #[.int .i64 3, .string ⟨#[]⟩, .string ⟨#[]⟩, .slice none 0 0, .bool false, .bool false, .bool false, .int .i64 0, .int .i64 0] 25 (0, 0)) := by
        rw [hW2]
        exact (hset (hset k0 0 (.int .i64 2)) 0 (.int .i64 3))
      have HB2 : Hid (Below w.heap.size w W2) := by show Below _ _ _; rw [hW2]; exact ((HB1.out.setCell (by exact Nat.le_refl _) _).setCell (by exact Nat.le_refl _) _)
      have hp2 : w.heap.size < W2.heap.size := (Array.getElem?_eq_some_iff.1 k2).1
      have HM2 : MaxOk m W2 := MaxOk.belowB HM.out HGM.out HB2.out
      have HCL := Lib.hid (clean_any T m W2 (by omega) HM2)
      rw [hTl, hnm] at HCL
      have HK2 := Lib.hid k2
      have HW2 := Lib.hid hW2
      clear k2 hW2 HM2 hTl hnm
      go_enter Tryd.func85, Tryd.ntmps85
      go_upto_region 1 with fail
      rw [← HW.out]
      go_wp2_with fail
      refine HBG.out.mono ?_
      rintro e w' ⟨rfl, rfl⟩
      go_wp2_with fail
      refine (HU.out _).mono ?_
      rintro e w' ⟨rfl, rfl⟩
      go_upto_region 8 with fail
      rw [← HW2.out]
      go_wp2_with fail
      refine HCL.out.mono ?_
      rintro e w3 ⟨rfl, b3⟩
      have k3 : w3.heap[w.heap.size]? = some (.cells #[.int .i64 3, .string ⟨#[]⟩, .string ⟨#[]⟩, .slice none 0 0, .bool false, .bool false, .bool false, .int .i64 0, .int .i64 0] 25 (0, 0)) := (b3.block _ hp2).trans HK2.out
      have HK3 := Lib.hid k3
      have HB3 : Hid (Below w.heap.size w w3) := HB2.out.trans (b3.mono (by omega))
      obtain ⟨⟨d0, d1, d2, d3, d4, d5, d6, d7, d8⟩, g0, g1, g2, g3, g4, g5, g6, g7, g8⟩ := nine k3
      clear k3 b3 c0 c1 c2 c3 c4 c5 c6 c7 c8 f0 f1 f2 f3 f4 f5 f6 f7 f8
      go_upto_region 9 with fail
      obtain ⟨W4, hW4⟩ : ∃ W4, W4 = (w3.setCell ⟨w.heap.size, 1, none⟩ (.string ⟨nm.toArray⟩)).setCell ⟨w.heap.size, 7, none⟩ (.int .i64 (a : Int)) := ⟨_, rfl⟩
      have k4 : W4.heap[w.heap.size]? = some (.cells (tokC (.int .i64 3) (.string ⟨nm.toArray⟩) (.string ⟨#[]⟩) (.slice none 0 0) false false (.bool false) (.int .i64 (a : Int)) (.int .i64 0)) 25 (0, 0)) := by
        rw [hW4]
        exact hset (hset HK3.out 1 _) 7 _
      have HB4 : Hid (Below w.heap.size w W4) := by show Below _ _ _; rw [hW4]; exact (HB3.out.setCell (by exact Nat.le_refl _) _).setCell (by exact Nat.le_refl _) _
      rw [← hW4]
      have HR := Lib.hid (rest_any s E w.heap.size m (.int .i64 3) (.string ⟨nm.toArray⟩) (.string ⟨#[]⟩) (.bool false) (.int .i64 (a : Int)) (.int .i64 0) W4 (RTab.belowB HT.out HGT.out HB4.out) (MaxOk.belowB HM.out HGM.out HB4.out) hEs hs HGT.out HGM.out k4)
      have hp4 : w.heap.size < W4.heap.size := (Array.getElem?_eq_some_iff.1 k4).1
      rw [HZ.out] at HR
      clear k4 hW4 d0 d1 d2 d3 d4 d5 d6 d7 d8 g0 g1 g2 g3 g4 g5 g6 g7 g8
      go_wp2_with fail
      refine HR.out.mono ?_
      rintro e w5 ⟨⟨rfl, r5⟩, b5⟩
      have HB5 : Hid (Below w.heap.size w w5) := HB4.out.trans b5
      obtain ⟨K, dup, self, sv, k5, hown, hrel⟩ := r5
      obtain ⟨oa, oc, hsv⟩ := owns_shape hown
      subst hsv
      obtain ⟨⟨d0, d1, d2, d3, d4, d5, d6, d7, d8⟩, g0, g1, g2, g3, g4, g5, g6, g7, g8⟩ := nine k5
      have HOWN : Hid (w5.ownsRow (w.heap.size + 1) 83 2 (.slice oa K.length oc) K.length (attC K)) := owns_mono hown (by omega)
      have HK5 := Lib.hid k5
      clear k5 b5 hown
      cases Z with
      | none =>
        have hneg : nextI none = -1 := rfl
        rw [hneg]
        have HA : Hid (R = none) := HRR.out.symm
        clear hrel hneg
        go_wp2_with fail
        refine bodyPost_ret (v := .tuple #[zTok, .int .i64 0, .bool false]) ?_ rfl ?_
        · rw [results_cell_tmp2 rfl]
          go_simp
          rfl
        · exact ⟨by rw [HA.out]; exact rfl, below_set9 HB5.out _ _ _ _ _ _ _ _ _⟩
      | some x =>
        obtain ⟨acc, b, j⟩ := x
        obtain ⟨hK1, hK2, hK3⟩ := hrel acc b j rfl
        have hn : nextI (some (acc, b, j)) = (j : Int) := rfl
        rw [hn]
        have hj0 : ¬ (j : Int) < 0 := by omega
        subst hK2 hK3
        clear hrel hn
        have HA : Hid (R = some ⟨true, nm, [], false, false, j⟩) := HRR.out.symm
        obtain ⟨W6, hW6⟩ : ∃ W6, W6 = (((w5.setCell ⟨w.heap.size, 3, none⟩ (.slice none 0 0)).setCell ⟨w.heap.size, 4, none⟩ (.bool false)).setCell ⟨w.heap.size, 5, none⟩ (.bool false)).setCell ⟨w.heap.size, 8, none⟩ (.int .i64 (j : Int)) := ⟨_, rfl⟩
        have k6 : W6.heap[w.heap.size]? = some (.cells #[.int .i64 3, .string ⟨nm.toArray⟩, .string ⟨#[]⟩, .slice none 0 0, .bool false, .bool false, .bool false, .int .i64 (a : Int), .int .i64 (j : Int)] 25 (0, 0)) := by
          rw [hW6]
          exact hset (hset (hset (hset HK5.out 3 _) 4 _) 5 _) 8 _
        have HB6 : Hid (Below w.heap.size w W6) := by
          show Below _ _ _
          rw [hW6]
          exact (((HB5.out.setCell (by exact Nat.le_refl _) _).setCell (by exact Nat.le_refl _) _).setCell (by exact Nat.le_refl _) _).setCell (by exact Nat.le_refl _) _
        have HW6 := Lib.hid hW6
        clear hK1 hW6
        go_upto_region 15 with fail
        rw [← HW6.out]
        clear d0 d1 d2 d3 d4 d5 d6 d7 d8 g0 g1 g2 g3 g4 g5 g6 g7 g8 HR HB5 HOWN HK5 HW6 HB4 HB3 HK3 HB2 HK2 HCL HU HBG hp4 hp2 i1 i2 t0 hj0
        obtain ⟨⟨d0, d1, d2, d3, d4, d5, d6, d7, d8⟩, g0, g1, g2, g3, g4, g5, g6, g7, g8⟩ := nine k6
        clear k6
        go_wp2_with fail
        refine bodyPost_ret (v := .tuple #[tokV ⟨true, nm, [], false, false, j⟩ a (.slice none 0 0), .int .i64 (j : Int), .bool true]) ?_ rfl ?_
        · rw [results_cell_tmp2 rfl]
          go_simp
          rfl
        · refine ⟨?_, below_set9 HB6.out _ _ _ _ _ _ _ _ _⟩
          rw [HA.out]
          exact ⟨none, 0, rfl, World.ownsRow_nil _ _ _ _⟩
    | false =>
      obtain ⟨W2, hW2⟩ : ∃ W2, W2 = (W1.setCell ⟨w.heap.size, 0, none⟩ (.int .i64 2)) := ⟨_, rfl⟩
      have k2 : W2.heap[w.heap.size]? = some (.cells #[.int .i64 2, .string ⟨#[]⟩, .string ⟨#[]⟩, .slice none 0 0, .bool false, .bool false, .bool false, .int .i64 0, .int .i64 0] 25 (0, 0)) := by
        rw [hW2]
        exact (hset k0 0 (.int .i64 2))
      have HB2 : Hid (Below w.heap.size w W2) := by show Below _ _ _; rw [hW2]; exact (HB1.out.setCell (by exact Nat.le_refl _) _)
      have hp2 : w.heap.size < W2.heap.size := (Array.getElem?_eq_some_iff.1 k2).1
      have HM2 : MaxOk m W2 := MaxOk.belowB HM.out HGM.out HB2.out
      have HCL := Lib.hid (clean_any T m W2 (by omega) HM2)
      rw [hTl, hnm] at HCL
      have HK2 := Lib.hid k2
      have HW2 := Lib.hid hW2
      clear k2 hW2 HM2 hTl hnm
      go_enter Tryd.func85, Tryd.ntmps85
      go_upto_region 1 with fail
      rw [← HW.out]
      go_wp2_with fail
      refine HBG.out.mono ?_
      rintro e w' ⟨rfl, rfl⟩
      go_wp2_with fail
      refine (HU.out _).mono ?_
      rintro e w' ⟨rfl, rfl⟩
      go_upto_region 8 with fail
      rw [← HW2.out]
      go_wp2_with fail
      refine HCL.out.mono ?_
      rintro e w3 ⟨rfl, b3⟩
      have k3 : w3.heap[w.heap.size]? = some (.cells #[.int .i64 2, .string ⟨#[]⟩, .string ⟨#[]⟩, .slice none 0 0, .bool false, .bool false, .bool false, .int .i64 0, .int .i64 0] 25 (0, 0)) := (b3.block _ hp2).trans HK2.out
      have HK3 := Lib.hid k3
      have HB3 : Hid (Below w.heap.size w w3) := HB2.out.trans (b3.mono (by omega))
      obtain ⟨⟨d0, d1, d2, d3, d4, d5, d6, d7, d8⟩, g0, g1, g2, g3, g4, g5, g6, g7, g8⟩ := nine k3
      clear k3 b3 c0 c1 c2 c3 c4 c5 c6 c7 c8 f0 f1 f2 f3 f4 f5 f6 f7 f8
      go_upto_region 9 with fail
      obtain ⟨W4, hW4⟩ : ∃ W4, W4 = (w3.setCell ⟨w.heap.size, 1, none⟩ (.string ⟨nm.toArray⟩)).setCell ⟨w.heap.size, 7, none⟩ (.int .i64 (a : Int)) := ⟨_, rfl⟩
      have k4 : W4.heap[w.heap.size]? = some (.cells (tokC (.int .i64 2) (.string ⟨nm.toArray⟩) (.string ⟨#[]⟩) (.slice none 0 0) false false (.bool false) (.int .i64 (a : Int)) (.int .i64 0)) 25 (0, 0)) := by
        rw [hW4]
        exact hset (hset HK3.out 1 _) 7 _
      have HB4 : Hid (Below w.heap.size w W4) := by show Below _ _ _; rw [hW4]; exact (HB3.out.setCell (by exact Nat.le_refl _) _).setCell (by exact Nat.le_refl _) _
      rw [← hW4]
      have HR := Lib.hid (rest_any s E w.heap.size m (.int .i64 2) (.string ⟨nm.toArray⟩) (.string ⟨#[]⟩) (.bool false) (.int .i64 (a : Int)) (.int .i64 0) W4 (RTab.belowB HT.out HGT.out HB4.out) (MaxOk.belowB HM.out HGM.out HB4.out) hEs hs HGT.out HGM.out k4)
      have hp4 : w.heap.size < W4.heap.size := (Array.getElem?_eq_some_iff.1 k4).1
      rw [HZ.out] at HR
      clear k4 hW4 d0 d1 d2 d3 d4 d5 d6 d7 d8 g0 g1 g2 g3 g4 g5 g6 g7 g8
      go_wp2_with fail
      refine HR.out.mono ?_
      rintro e w5 ⟨⟨rfl, r5⟩, b5⟩
      have HB5 : Hid (Below w.heap.size w w5) := HB4.out.trans b5
      obtain ⟨K, dup, self, sv, k5, hown, hrel⟩ := r5
      obtain ⟨oa, oc, hsv⟩ := owns_shape hown
      subst hsv
      obtain ⟨⟨d0, d1, d2, d3, d4, d5, d6, d7, d8⟩, g0, g1, g2, g3, g4, g5, g6, g7, g8⟩ := nine k5
      have HOWN : Hid (w5.ownsRow (w.heap.size + 1) 83 2 (.slice oa K.length oc) K.length (attC K)) := owns_mono hown (by omega)
      have HK5 := Lib.hid k5
      clear k5 b5 hown
      cases Z with
      | none =>
        have hneg : nextI none = -1 := rfl
        rw [hneg]
        have HA : Hid (R = none) := HRR.out.symm
        clear hrel hneg
        go_wp2_with fail
        refine bodyPost_ret (v := .tuple #[zTok, .int .i64 0, .bool false]) ?_ rfl ?_
        · rw [results_cell_tmp2 rfl]
          go_simp
          rfl
        · exact ⟨by rw [HA.out]; exact rfl, below_set9 HB5.out _ _ _ _ _ _ _ _ _⟩
      | some x =>
        obtain ⟨acc, b, j⟩ := x
        obtain ⟨hK1, hK2, hK3⟩ := hrel acc b j rfl
        have hn : nextI (some (acc, b, j)) = (j : Int) := rfl
        rw [hn]
        have hj0 : ¬ (j : Int) < 0 := by omega
        subst hK2 hK3
        clear hrel hn
        have HA : Hid (R = some ⟨false, nm, (keepL acc).1, (keepL acc).2, self, j⟩) := HRR.out.symm
        subst hK1
        obtain ⟨L, hL⟩ : ∃ L, (keepL acc).1.length = L := ⟨_, rfl⟩
        obtain ⟨C, hC⟩ : ∃ C, attC (keepL acc).1 = C := ⟨_, rfl⟩
        obtain ⟨U, hU⟩ : ∃ U, (keepL acc).2 = U := ⟨_, rfl⟩
        rw [hL] at d3
        rw [hU] at d4
        rw [hL, hC] at HOWN
        have HL := Lib.hid hL
        have HC := Lib.hid hC
        have HUU := Lib.hid hU
        obtain ⟨W6, hW6⟩ : ∃ W6, W6 = w5.setCell ⟨w.heap.size, 8, none⟩ (.int .i64 (j : Int)) := ⟨_, rfl⟩
        have k6 : W6.heap[w.heap.size]? = some (.cells #[.int .i64 2, .string ⟨nm.toArray⟩, .string ⟨#[]⟩, .slice oa L oc, .bool U, .bool self, .bool false, .int .i64 (a : Int), .int .i64 (j : Int)] 25 (0, 0)) := by
          rw [hW6]
          rw [hL, hU] at HK5
          exact hset HK5.out 8 _
        have HB6 : Hid (Below w.heap.size w W6) := by
          show Below _ _ _
          rw [hW6]
          exact HB5.out.setCell (by exact Nat.le_refl _) _
        have HOWN6 : Hid (W6.ownsRow (w.heap.size + 1) 83 2 (.slice oa L oc) L C) := by
          show World.ownsRow _ _ _ _ _ _ _
          rw [hW6]
          exact ownsRow_setCell_below HOWN.out (by show w.heap.size < _; omega) _
        have HW6 := Lib.hid hW6
        clear hL hC hU hW6
        go_upto_region 15 with fail
        rw [← HW6.out]
        clear d0 d1 d2 d3 d4 d5 d6 d7 d8 g0 g1 g2 g3 g4 g5 g6 g7 g8 HR HB5 HOWN HK5 HW6 HB4 HB3 HK3 HB2 HK2 HCL HU HBG hp4 hp2 i1 i2 t0 hj0
        obtain ⟨⟨d0, d1, d2, d3, d4, d5, d6, d7, d8⟩, g0, g1, g2, g3, g4, g5, g6, g7, g8⟩ := nine k6
        clear k6
        go_wp2_with fail
        refine bodyPost_ret (v := .tuple #[tokV ⟨false, nm, (keepL acc).1, U, self, j⟩ a (.slice oa L oc), .int .i64 (j : Int), .bool true]) ?_ rfl ?_
        · rw [results_cell_tmp2 rfl]
          go_simp
          rfl
        · refine ⟨?_, below_set9 HB6.out _ _ _ _ _ _ _ _ _⟩
          rw [HA.out, HUU.out]
          refine ⟨oa, oc, ?_, ?_⟩
          · simp only []
            rw [HL.out]
          · simp only []
            rw [HL.out, HC.out]
            exact owns_mono (owns_set9 HOWN6.out (by omega) _ _ _ _ _ _ _ _ _) (by omega)
end Go.Proofs.YtbpdmbmooboimaaDoor.T10
