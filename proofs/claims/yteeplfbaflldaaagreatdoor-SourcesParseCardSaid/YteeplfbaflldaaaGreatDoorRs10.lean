/- lazaretref25: Parse. -/
import Derived.Test.YteeplfbaflldaaaGreatDoorRs9
import Derived.Test.YteeplfbaflldaaaGreatDoorSrcR
set_option linter.unusedVariables false
set_option linter.unusedSimpArgs false
namespace Go.Proofs.YteeplfbaflldaaaGreatDoor.S25
open Go.RowKit Go.Extern.Stop Go.Stop Go.Extern T10

/-- What stands in Parse's two blocks. -/
def PAt (n : Nat) (w W : World) (a b c d e f g i : Value) : Prop :=
  W.heap[n]? = some (.cells #[.int .i64 0, .string ⟨#[]⟩, .int .i64 0, .string ⟨#[]⟩, .string ⟨#[]⟩, .bool false, .int .i64 0, .string ⟨#[]⟩] 24 (0, 0)) ∧
  W.heap[n + 1]? = some (.cells #[a, b, c, d, e, f, g, i] 24 (0, 0)) ∧ Below n w W
theorem PAt.far {n : Nat} {w W W' : World} {a b c d e f g i : Value} (h : PAt n w W a b c d e f g i) (hb : Below W.heap.size W W') : PAt n w W' a b c d e f g i := by
  obtain ⟨h1, h2, h3⟩ := h
  have l2 := lt_of_heap h2
  exact ⟨(hb.block n (by omega)).trans h1, (hb.block (n + 1) l2).trans h2, h3.trans (hb.mono (by omega))⟩
theorem PAt.set8 {n : Nat} {w W : World} {a b c d e f g i : Value} (h : PAt n w W a b c d e f g i) (a' b' c' d' e' f' g' i' : Value) :
    PAt n w ((((((((W.setCell ⟨n + 1, 0, none⟩ a').setCell ⟨n + 1, 1, none⟩ b').setCell ⟨n + 1, 2, none⟩ c').setCell ⟨n + 1, 3, none⟩ d').setCell ⟨n + 1, 4, none⟩ e').setCell ⟨n + 1, 5, none⟩ f').setCell ⟨n + 1, 6, none⟩ g').setCell ⟨n + 1, 7, none⟩ i') a' b' c' d' e' f' g' i' := by
  obtain ⟨h1, h2, h3⟩ := h
  have s0 : (W.setCell ⟨n + 1, 0, none⟩ a').heap[n + 1]? = some (.cells #[a', b, c, d, e, f, g, i] 24 (0, 0)) := heap_setA h2 0 _
  have s1 : ((W.setCell ⟨n + 1, 0, none⟩ a').setCell ⟨n + 1, 1, none⟩ b').heap[n + 1]? = some (.cells #[a', b', c, d, e, f, g, i] 24 (0, 0)) := heap_setA s0 1 _
  have s2 : (((W.setCell ⟨n + 1, 0, none⟩ a').setCell ⟨n + 1, 1, none⟩ b').setCell ⟨n + 1, 2, none⟩ c').heap[n + 1]? = some (.cells #[a', b', c', d, e, f, g, i] 24 (0, 0)) := heap_setA s1 2 _
  have s3 : ((((W.setCell ⟨n + 1, 0, none⟩ a').setCell ⟨n + 1, 1, none⟩ b').setCell ⟨n + 1, 2, none⟩ c').setCell ⟨n + 1, 3, none⟩ d').heap[n + 1]? = some (.cells #[a', b', c', d', e, f, g, i] 24 (0, 0)) := heap_setA s2 3 _
  have s4 : (((((W.setCell ⟨n + 1, 0, none⟩ a').setCell ⟨n + 1, 1, none⟩ b').setCell ⟨n + 1, 2, none⟩ c').setCell ⟨n + 1, 3, none⟩ d').setCell ⟨n + 1, 4, none⟩ e').heap[n + 1]? = some (.cells #[a', b', c', d', e', f, g, i] 24 (0, 0)) := heap_setA s3 4 _
  have s5 : ((((((W.setCell ⟨n + 1, 0, none⟩ a').setCell ⟨n + 1, 1, none⟩ b').setCell ⟨n + 1, 2, none⟩ c').setCell ⟨n + 1, 3, none⟩ d').setCell ⟨n + 1, 4, none⟩ e').setCell ⟨n + 1, 5, none⟩ f').heap[n + 1]? = some (.cells #[a', b', c', d', e', f', g, i] 24 (0, 0)) := heap_setA s4 5 _
  have s6 : (((((((W.setCell ⟨n + 1, 0, none⟩ a').setCell ⟨n + 1, 1, none⟩ b').setCell ⟨n + 1, 2, none⟩ c').setCell ⟨n + 1, 3, none⟩ d').setCell ⟨n + 1, 4, none⟩ e').setCell ⟨n + 1, 5, none⟩ f').setCell ⟨n + 1, 6, none⟩ g').heap[n + 1]? = some (.cells #[a', b', c', d', e', f', g', i] 24 (0, 0)) := heap_setA s5 6 _
  have s7 : ((((((((W.setCell ⟨n + 1, 0, none⟩ a').setCell ⟨n + 1, 1, none⟩ b').setCell ⟨n + 1, 2, none⟩ c').setCell ⟨n + 1, 3, none⟩ d').setCell ⟨n + 1, 4, none⟩ e').setCell ⟨n + 1, 5, none⟩ f').setCell ⟨n + 1, 6, none⟩ g').setCell ⟨n + 1, 7, none⟩ i').heap[n + 1]? = some (.cells #[a', b', c', d', e', f', g', i'] 24 (0, 0)) := heap_setA s6 7 _
  refine ⟨?_, s7, ?_⟩
  · rw [heap_setCell_other _ _ _ _ (by simp), heap_setCell_other _ _ _ _ (by simp), heap_setCell_other _ _ _ _ (by simp), heap_setCell_other _ _ _ _ (by simp), heap_setCell_other _ _ _ _ (by simp), heap_setCell_other _ _ _ _ (by simp), heap_setCell_other _ _ _ _ (by simp), heap_setCell_other _ _ _ _ (by simp)]
    exact h1
  · exact (((((((h3.setCell (by simp) _).setCell (by simp) _).setCell (by simp) _).setCell (by simp) _).setCell (by simp) _).setCell (by simp) _).setCell (by simp) _).setCell (by simp) _
theorem pat_start (w : World) : PAt w.heap.size w ((w.alloc (.cells #[.int .i64 0, .string ⟨#[]⟩, .int .i64 0, .string ⟨#[]⟩, .string ⟨#[]⟩, .bool false, .int .i64 0, .string ⟨#[]⟩] 24)).alloc (.cells #[.int .i64 0, .string ⟨#[]⟩, .int .i64 0, .string ⟨#[]⟩, .string ⟨#[]⟩, .bool false, .int .i64 0, .string ⟨#[]⟩] 24)) (.int .i64 0) (.string ⟨#[]⟩) (.int .i64 0) (.string ⟨#[]⟩) (.string ⟨#[]⟩) (.bool false) (.int .i64 0) (.string ⟨#[]⟩) := by
  refine ⟨?_, ?_, ((Below.refl _ w).alloc (Nat.le_refl _) _).alloc (by rw [World.size_alloc]; omega) _⟩
  · rw [heap_alloc_old _ _ (by rw [World.size_alloc]; omega)]; exact heap_alloc_new w _
  · have := heap_alloc_new (w.alloc (.cells #[.int .i64 0, .string ⟨#[]⟩, .int .i64 0, .string ⟨#[]⟩, .string ⟨#[]⟩, .bool false, .int .i64 0, .string ⟨#[]⟩] 24)) (.cells #[.int .i64 0, .string ⟨#[]⟩, .int .i64 0, .string ⟨#[]⟩, .string ⟨#[]⟩, .bool false, .int .i64 0, .string ⟨#[]⟩] 24)
    rw [World.size_alloc] at this
    exact this
set_option maxHeartbeats 3200000 in
set_option maxRecDepth 100000 in
theorem rparse_quoted (s : ByteArray) (w : World) (hs : s.size ≤ 1000000) (hT : PTab w) (h2 : 2 ≤ s.size) (ha : s[0]'(by omega) = 39) (hb : s[s.size - 1]'(by omega) = 39) :
    Calls Tryz.prog 6 #[.string s] w fun e w' => e = .returned (parseV (rquoL (s.extract 1 (s.size - 1)).data.toList)) ∧ Below w.heap.size w w' := by
  obtain ⟨W1, hW1⟩ : ∃ W1, W1 = (w.alloc (.cells #[.int .i64 0, .string ⟨#[]⟩, .int .i64 0, .string ⟨#[]⟩, .string ⟨#[]⟩, .bool false, .int .i64 0, .string ⟨#[]⟩] 24)).alloc (.cells #[.int .i64 0, .string ⟨#[]⟩, .int .i64 0, .string ⟨#[]⟩, .string ⟨#[]⟩, .bool false, .int .i64 0, .string ⟨#[]⟩] 24) := ⟨_, rfl⟩
  have X0 : Hid (PAt w.heap.size w W1 (.int .i64 0) (.string ⟨#[]⟩) (.int .i64 0) (.string ⟨#[]⟩) (.string ⟨#[]⟩) (.bool false) (.int .i64 0) (.string ⟨#[]⟩)) := by
    show PAt _ _ _ _ _ _ _ _ _ _ _
    rw [hW1]; exact pat_start w
  obtain ⟨o, ho⟩ : ∃ o, rquoL (s.extract 1 (s.size - 1)).data.toList = o := ⟨_, rfl⟩
  have hq := rquoted_any (s.extract 1 (s.size - 1)) W1 (by simp; omega) (hT.far X0.out.2.2 (Nat.le_refl _))
  rw [ho] at hq ⊢
  have HQ : Hid (Calls Tryz.prog 11 #[.string (s.extract 1 (s.size - 1))] W1 fun e w' => (∃ k t b sc hh wi po pa, e = .returned (.tuple #[.agg #[.int .i64 k, .string t, .int .i64 b, .string sc, .string hh, .bool wi, .int .i64 po, .string pa], .bool o.isSome]) ∧ Hid (∀ x, o = some x → srcV k t b sc hh wi po pa = srcW x)) ∧ Below W1.heap.size W1 w') := hq
  have HW := Lib.hid hW1
  have hlast : (s.size : Int) - 1 = ((s.size - 1 : Nat) : Int) := by omega
  clear hW1 hq hT ho
  go_enter Tryz.func6, Tryz.ntmps6
  go_upto_region 2 with fail
  rw [← HW.out]
  cases o with
  | some x =>
    simp only [Option.isSome_some] at HQ
    go_upto_region 8 with (go_at_call 11; refine HQ.out.mono ?_; rintro e w2 ⟨⟨k, t, b, sc, hh, wi, po, pa, rfl, hx⟩, b2⟩; have X2 := Lib.hid (X0.out.far b2); clear b2; obtain ⟨⟨c0, c1, c2, c3, c4, c5, c6, c7⟩, f0, f1, f2, f3, f4, f5, f6, f7⟩ := eight X2.out.2.1)
    have X3 := Lib.hid (X2.out.set8 (.int .i64 k) (.string t) (.int .i64 b) (.string sc) (.string hh) (.bool wi) (.int .i64 po) (.string pa))
    clear c0 c1 c2 c3 c4 c5 c6 c7 f0 f1 f2 f3 f4 f5 f6 f7 X2
    generalize hw3 : ((((((((World.setCell w2 ⟨w.heap.size + 1, 0, none⟩ (.int .i64 k)).setCell ⟨w.heap.size + 1, 1, none⟩ (.string t)).setCell ⟨w.heap.size + 1, 2, none⟩ (.int .i64 b)).setCell ⟨w.heap.size + 1, 3, none⟩ (.string sc)).setCell ⟨w.heap.size + 1, 4, none⟩ (.string hh)).setCell ⟨w.heap.size + 1, 5, none⟩ (.bool wi)).setCell ⟨w.heap.size + 1, 6, none⟩ (.int .i64 po)).setCell ⟨w.heap.size + 1, 7, none⟩ (.string pa)) = w3 at X3 ⊢
    clear hw3
    obtain ⟨⟨c0, c1, c2, c3, c4, c5, c6, c7⟩, f0, f1, f2, f3, f4, f5, f6, f7⟩ := eight X3.out.2.1
    obtain ⟨⟨d0, d1, d2, d3, d4, d5, d6, d7⟩, g0, g1, g2, g3, g4, g5, g6, g7⟩ := eight X3.out.1
    go_wp2_with fail
    refine bodyPost_ret (v := .tuple #[srcV k t b sc hh wi po pa, .int .i64 0]) ?_ rfl ?_
    · rw [results_cell_tmp rfl]
      go_simp
      rfl
    · exact ⟨by rw [hx.out x rfl]; rfl, below_set8 X3.out.2.2 _ _ _ _ _ _ _ _⟩
  | none =>
    simp only [Option.isSome_none] at HQ
    go_upto_region 8 with (go_at_call 11; refine HQ.out.mono ?_; rintro e w2 ⟨⟨k, t, b, sc, hh, wi, po, pa, rfl, hx⟩, b2⟩; have X2 := Lib.hid (X0.out.far b2); clear b2; obtain ⟨⟨c0, c1, c2, c3, c4, c5, c6, c7⟩, f0, f1, f2, f3, f4, f5, f6, f7⟩ := eight X2.out.2.1)
    have X3 := Lib.hid (X2.out.set8 (.int .i64 k) (.string t) (.int .i64 b) (.string sc) (.string hh) (.bool wi) (.int .i64 po) (.string pa))
    clear c0 c1 c2 c3 c4 c5 c6 c7 f0 f1 f2 f3 f4 f5 f6 f7 X2
    generalize hw3 : ((((((((World.setCell w2 ⟨w.heap.size + 1, 0, none⟩ (.int .i64 k)).setCell ⟨w.heap.size + 1, 1, none⟩ (.string t)).setCell ⟨w.heap.size + 1, 2, none⟩ (.int .i64 b)).setCell ⟨w.heap.size + 1, 3, none⟩ (.string sc)).setCell ⟨w.heap.size + 1, 4, none⟩ (.string hh)).setCell ⟨w.heap.size + 1, 5, none⟩ (.bool wi)).setCell ⟨w.heap.size + 1, 6, none⟩ (.int .i64 po)).setCell ⟨w.heap.size + 1, 7, none⟩ (.string pa)) = w3 at X3 ⊢
    clear hw3
    obtain ⟨⟨c0, c1, c2, c3, c4, c5, c6, c7⟩, f0, f1, f2, f3, f4, f5, f6, f7⟩ := eight X3.out.2.1
    obtain ⟨⟨d0, d1, d2, d3, d4, d5, d6, d7⟩, g0, g1, g2, g3, g4, g5, g6, g7⟩ := eight X3.out.1
    go_wp2_with fail
    refine bodyPost_ret (v := .tuple #[srcW zL, .int .i64 250]) ?_ rfl ?_
    · rw [results_cell_tmp rfl]
      go_simp
      rfl
    · exact ⟨rfl, below_set8 X3.out.2.2 _ _ _ _ _ _ _ _⟩
set_option maxHeartbeats 3200000 in
set_option maxRecDepth 100000 in
theorem rparse_scheme (s : ByteArray) (w : World) (hs : s.size ≤ 1000000) (h2 : 2 ≤ s.size) (ha : s[0]'(by omega) ≠ 39) (hb : s[s.size - 1]'(by omega) = 58) (hsch : schB (s.extract 0 (s.size - 1)).data.toList = true) :
    Calls Tryz.prog 6 #[.string s] w fun e w' => e = .returned (parseV (some ⟨2, [], 0, lowL (s.extract 0 (s.size - 1)).data.toList, [], false, -1, []⟩)) ∧ Below w.heap.size w w' := by
  obtain ⟨W1, hW1⟩ : ∃ W1, W1 = (w.alloc (.cells #[.int .i64 0, .string ⟨#[]⟩, .int .i64 0, .string ⟨#[]⟩, .string ⟨#[]⟩, .bool false, .int .i64 0, .string ⟨#[]⟩] 24)).alloc (.cells #[.int .i64 0, .string ⟨#[]⟩, .int .i64 0, .string ⟨#[]⟩, .string ⟨#[]⟩, .bool false, .int .i64 0, .string ⟨#[]⟩] 24) := ⟨_, rfl⟩
  have X0 : Hid (PAt w.heap.size w W1 (.int .i64 0) (.string ⟨#[]⟩) (.int .i64 0) (.string ⟨#[]⟩) (.string ⟨#[]⟩) (.bool false) (.int .i64 0) (.string ⟨#[]⟩)) := by
    show PAt _ _ _ _ _ _ _ _ _ _ _
    rw [hW1]; exact pat_start w
  have hsc := rscheme_any (s.extract 0 (s.size - 1)) W1 (by simp; omega)
  have hlo := rlower_any (s.extract 0 (s.size - 1)) W1 (by simp; omega)
  rw [hsch] at hsc
  obtain ⟨L, hL⟩ : ∃ L, lowL (s.extract 0 (s.size - 1)).data.toList = L := ⟨_, rfl⟩
  rw [hL] at hlo ⊢
  have hlo2 : Calls Tryz.prog 13 #[.string (s.extract 0 (s.size - 1))] W1 fun e w' => e = .returned (.string (ba L)) ∧ Below W1.heap.size W1 w' := hlo
  obtain ⟨low, hlow⟩ : ∃ low, ba L = low := ⟨_, rfl⟩
  rw [hlow] at hlo2
  have HLOW := Lib.hid hlow
  have HSC := Lib.hid hsc
  have HLO := Lib.hid hlo2
  have HW := Lib.hid hW1
  have hlast : (s.size : Int) - 1 = ((s.size - 1 : Nat) : Int) := by omega
  have hle : ((s.size - 1 : Nat) : Int) ≤ s.size := by omega
  obtain ⟨c, hc⟩ : ∃ c, s[0]'(by omega) = c := ⟨_, rfl⟩
  rw [hc] at ha
  have hne : ((c.toNat : Int) == 39) = false := by
    rw [beq_eq_false_iff_ne]
    intro e
    exact ha (UInt8.toNat_inj.1 (by show c.toNat = 39; omega))
  clear hW1 hsc hlo hlo2 hlow hL ha hsch
  go_enter Tryz.func6, Tryz.ntmps6
  go_upto_region 2 with fail
  rw [← HW.out]
  go_upto_region 8 with (first
    | (go_at_call 13; refine HLO.out.mono ?_; rintro e w2 ⟨rfl, b2⟩; have X2 := Lib.hid (X0.out.far b2); clear b2; obtain ⟨⟨c0, c1, c2, c3, c4, c5, c6, c7⟩, f0, f1, f2, f3, f4, f5, f6, f7⟩ := eight X2.out.2.1)
    | (go_at_call 12; refine HSC.out.mono ?_; rintro e w2 ⟨rfl, rfl⟩))
  have X3 := Lib.hid (X2.out.set8 (.int .i64 2) (.string ⟨#[]⟩) (.int .i64 0) (.string low) (.string ⟨#[]⟩) (.bool false) (.int .i64 (-1)) (.string ⟨#[]⟩))
  clear c0 c1 c2 c3 c4 c5 c6 c7 f0 f1 f2 f3 f4 f5 f6 f7 X2
  generalize hw3 : ((((((((World.setCell w2 ⟨w.heap.size + 1, 0, none⟩ (.int .i64 2)).setCell ⟨w.heap.size + 1, 1, none⟩ (.string ⟨#[]⟩)).setCell ⟨w.heap.size + 1, 2, none⟩ (.int .i64 0)).setCell ⟨w.heap.size + 1, 3, none⟩ (.string low)).setCell ⟨w.heap.size + 1, 4, none⟩ (.string ⟨#[]⟩)).setCell ⟨w.heap.size + 1, 5, none⟩ (.bool false)).setCell ⟨w.heap.size + 1, 6, none⟩ (.int .i64 (-1))).setCell ⟨w.heap.size + 1, 7, none⟩ (.string ⟨#[]⟩)) = w3 at X3 ⊢
  clear hw3
  obtain ⟨⟨c0, c1, c2, c3, c4, c5, c6, c7⟩, f0, f1, f2, f3, f4, f5, f6, f7⟩ := eight X3.out.2.1
  obtain ⟨⟨d0, d1, d2, d3, d4, d5, d6, d7⟩, g0, g1, g2, g3, g4, g5, g6, g7⟩ := eight X3.out.1
  go_wp2_with fail
  refine bodyPost_ret (v := .tuple #[srcV 2 ⟨#[]⟩ 0 low ⟨#[]⟩ false (-1) ⟨#[]⟩, .int .i64 0]) ?_ rfl ?_
  · rw [results_cell_tmp rfl]
    go_simp
    rfl
  · exact ⟨by rw [← HLOW.out]; rfl, below_set8 X3.out.2.2 _ _ _ _ _ _ _ _⟩
set_option maxHeartbeats 3200000 in
set_option maxRecDepth 100000 in
theorem rparse_host (s : ByteArray) (w : World) (hs : s.size ≤ 1000000)
    (hq : s.size ≤ 1 ∨ (∃ h : 2 ≤ s.size, (s[0]'(by omega) ≠ 39 ∨ (s[0]'(by omega) = 39 ∧ s[s.size - 1]'(by omega) ≠ 39)) ∧ (s[s.size - 1]'(by omega) ≠ 58 ∨ (s[s.size - 1]'(by omega) = 58 ∧ schB (s.extract 0 (s.size - 1)).data.toList = false)))) :
    Calls Tryz.prog 6 #[.string s] w fun e w' => e = .returned (parseV (hostL s.data.toList)) ∧ Below w.heap.size w w' := by
  obtain ⟨W1, hW1⟩ : ∃ W1, W1 = (w.alloc (.cells #[.int .i64 0, .string ⟨#[]⟩, .int .i64 0, .string ⟨#[]⟩, .string ⟨#[]⟩, .bool false, .int .i64 0, .string ⟨#[]⟩] 24)).alloc (.cells #[.int .i64 0, .string ⟨#[]⟩, .int .i64 0, .string ⟨#[]⟩, .string ⟨#[]⟩, .bool false, .int .i64 0, .string ⟨#[]⟩] 24) := ⟨_, rfl⟩
  have X0 : Hid (PAt w.heap.size w W1 (.int .i64 0) (.string ⟨#[]⟩) (.int .i64 0) (.string ⟨#[]⟩) (.string ⟨#[]⟩) (.bool false) (.int .i64 0) (.string ⟨#[]⟩)) := by
    show PAt _ _ _ _ _ _ _ _ _ _ _
    rw [hW1]; exact pat_start w
  obtain ⟨o, ho⟩ : ∃ o, hostL s.data.toList = o := ⟨_, rfl⟩
  have hh0 := rhost_any s W1 hs
  rw [ho] at hh0 ⊢
  have HQ : Hid (Calls Tryz.prog 14 #[.string s] W1 fun e w' => (∃ k t b sc hh wi po pa, e = .returned (.tuple #[.agg #[.int .i64 k, .string t, .int .i64 b, .string sc, .string hh, .bool wi, .int .i64 po, .string pa], .bool o.isSome]) ∧ Hid (∀ x, o = some x → srcV k t b sc hh wi po pa = srcW x)) ∧ Below W1.heap.size W1 w') := hh0
  have HW := Lib.hid hW1
  have ne : ∀ (c : UInt8) (n : Nat) (hn : n < 256), c.toNat ≠ n → ((c.toNat : Int) == (n : Int)) = false := by
    intro c n _ h
    rw [beq_eq_false_iff_ne]; omega
  have HC : Hid (s.size ≤ 1 ∨ (∃ c d : UInt8, 2 ≤ s.size ∧ (∃ h : 0 < s.size, s[0] = c) ∧ (∃ h : s.size - 1 < s.size, s[s.size - 1] = d) ∧ (((c.toNat : Int) == 39) = false ∨ (((c.toNat : Int) == 39) = true ∧ ((d.toNat : Int) == 39) = false)) ∧ (((d.toNat : Int) == 58) = false ∨ (((d.toNat : Int) == 58) = true ∧ Hid (Calls Tryz.prog 12 #[.string (s.extract 0 (s.size - 1))] W1 fun e w' => e = .returned (.bool false) ∧ W1 = w'))))) := by
    have eq0 : ∀ c : UInt8, c ≠ 39 → ((c.toNat : Int) == 39) = false := fun c h => ne c 39 (by decide) (fun e => h (UInt8.toNat_inj.1 e))
    have eq1 : ∀ c : UInt8, c ≠ 58 → ((c.toNat : Int) == 58) = false := fun c h => ne c 58 (by decide) (fun e => h (UInt8.toNat_inj.1 e))
    rcases hq with h | ⟨h, h1, h2⟩
    · exact .inl h
    · refine .inr ⟨_, _, h, ⟨by omega, rfl⟩, ⟨by omega, rfl⟩, ?_, ?_⟩
      · rcases h1 with h1 | ⟨h1, h3⟩
        · exact .inl (eq0 _ h1)
        · exact .inr ⟨by rw [h1]; rfl, eq0 _ h3⟩
      · rcases h2 with h2 | ⟨h2, h3⟩
        · exact .inl (eq1 _ h2)
        · refine .inr ⟨by rw [h2]; rfl, ?_⟩
          have := rscheme_any (s.extract 0 (s.size - 1)) W1 (by simp; omega)
          rw [h3] at this
          exact this
  clear hW1 hh0 ho hq ne
  go_enter Tryz.func6, Tryz.ntmps6
  go_upto_region 2 with fail
  rw [← HW.out]
  rcases HC.out with h1 | ⟨c, d, h2, ⟨p0, hc⟩, ⟨p1, hd⟩, (e1 | ⟨e1, e2⟩), (e3 | ⟨e3, HSC⟩)⟩
  all_goals
    try have hlast : (s.size : Int) - 1 = ((s.size - 1 : Nat) : Int) := by omega
    try have hle : ((s.size - 1 : Nat) : Int) ≤ s.size := by omega
    cases o with
    | some x =>
      simp only [Option.isSome_some] at HQ
      go_upto_region 8 with (first
        | (go_at_call 12; refine HSC.out.mono ?_; rintro e w2 ⟨rfl, rfl⟩)
        | (go_at_call 14; refine HQ.out.mono ?_; rintro e w2 ⟨⟨k, t, b, sc, hh, wi, po, pa, rfl, hx⟩, b2⟩; have X2 := Lib.hid (X0.out.far b2); clear b2; obtain ⟨⟨c0, c1, c2, c3, c4, c5, c6, c7⟩, f0, f1, f2, f3, f4, f5, f6, f7⟩ := eight X2.out.2.1))
      have X3 := Lib.hid (X2.out.set8 (.int .i64 k) (.string t) (.int .i64 b) (.string sc) (.string hh) (.bool wi) (.int .i64 po) (.string pa))
      clear c0 c1 c2 c3 c4 c5 c6 c7 f0 f1 f2 f3 f4 f5 f6 f7 X2
      generalize hw3 : ((((((((World.setCell w2 ⟨w.heap.size + 1, 0, none⟩ (.int .i64 k)).setCell ⟨w.heap.size + 1, 1, none⟩ (.string t)).setCell ⟨w.heap.size + 1, 2, none⟩ (.int .i64 b)).setCell ⟨w.heap.size + 1, 3, none⟩ (.string sc)).setCell ⟨w.heap.size + 1, 4, none⟩ (.string hh)).setCell ⟨w.heap.size + 1, 5, none⟩ (.bool wi)).setCell ⟨w.heap.size + 1, 6, none⟩ (.int .i64 po)).setCell ⟨w.heap.size + 1, 7, none⟩ (.string pa)) = w3 at X3 ⊢
      clear hw3
      obtain ⟨⟨c0, c1, c2, c3, c4, c5, c6, c7⟩, f0, f1, f2, f3, f4, f5, f6, f7⟩ := eight X3.out.2.1
      obtain ⟨⟨d0, d1, d2, d3, d4, d5, d6, d7⟩, g0, g1, g2, g3, g4, g5, g6, g7⟩ := eight X3.out.1
      go_wp2_with fail
      refine bodyPost_ret (v := .tuple #[srcV k t b sc hh wi po pa, .int .i64 0]) ?_ rfl ?_
      · rw [results_cell_tmp rfl]
        go_simp
        rfl
      · exact ⟨by rw [hx.out x rfl]; rfl, below_set8 X3.out.2.2 _ _ _ _ _ _ _ _⟩
    | none =>
      simp only [Option.isSome_none] at HQ
      go_upto_region 8 with (first
        | (go_at_call 12; refine HSC.out.mono ?_; rintro e w2 ⟨rfl, rfl⟩)
        | (go_at_call 14; refine HQ.out.mono ?_; rintro e w2 ⟨⟨k, t, b, sc, hh, wi, po, pa, rfl, hx⟩, b2⟩; have X2 := Lib.hid (X0.out.far b2); clear b2; obtain ⟨⟨c0, c1, c2, c3, c4, c5, c6, c7⟩, f0, f1, f2, f3, f4, f5, f6, f7⟩ := eight X2.out.2.1))
      have X3 := Lib.hid (X2.out.set8 (.int .i64 k) (.string t) (.int .i64 b) (.string sc) (.string hh) (.bool wi) (.int .i64 po) (.string pa))
      clear c0 c1 c2 c3 c4 c5 c6 c7 f0 f1 f2 f3 f4 f5 f6 f7 X2
      generalize hw3 : ((((((((World.setCell w2 ⟨w.heap.size + 1, 0, none⟩ (.int .i64 k)).setCell ⟨w.heap.size + 1, 1, none⟩ (.string t)).setCell ⟨w.heap.size + 1, 2, none⟩ (.int .i64 b)).setCell ⟨w.heap.size + 1, 3, none⟩ (.string sc)).setCell ⟨w.heap.size + 1, 4, none⟩ (.string hh)).setCell ⟨w.heap.size + 1, 5, none⟩ (.bool wi)).setCell ⟨w.heap.size + 1, 6, none⟩ (.int .i64 po)).setCell ⟨w.heap.size + 1, 7, none⟩ (.string pa)) = w3 at X3 ⊢
      clear hw3
      obtain ⟨⟨c0, c1, c2, c3, c4, c5, c6, c7⟩, f0, f1, f2, f3, f4, f5, f6, f7⟩ := eight X3.out.2.1
      obtain ⟨⟨d0, d1, d2, d3, d4, d5, d6, d7⟩, g0, g1, g2, g3, g4, g5, g6, g7⟩ := eight X3.out.1
      go_wp2_with fail
      refine bodyPost_ret (v := .tuple #[srcW zL, .int .i64 250]) ?_ rfl ?_
      · rw [results_cell_tmp rfl]
        go_simp
        rfl
      · exact ⟨rfl, below_set8 X3.out.2.2 _ _ _ _ _ _ _ _⟩
end Go.Proofs.YteeplfbaflldaaaGreatDoor.S25
