/- sources.Parse. -/
import Derived.Test.YteeplfbaflldaaaDoorSrcK
set_option linter.unusedVariables false
set_option linter.unusedSimpArgs false
namespace Go.Proofs.YteeplfbaflldaaaDoor.S25
open Go.RowKit Go.Extern.Stop Go.Stop Go.Extern T10

def zL : SrcL := ⟨0, [], 0, [], [], false, 0, []⟩
/-- What Parse hands back. -/
def parseV (o : Option SrcL) : Value := match o with
  | some x => .tuple #[srcW x, .int .i64 0]
  | none => .tuple #[srcW zL, .int .i64 250]
theorem asTrue_at {ty : TypeId} {v : Value} {W W' : World} (h : FaultAt ty v W) (hB : Below W.heap.size W W') {t : Nat} {o0 o1 : Value} (ht0 : W'.cell? ⟨t, 0, none⟩ = some o0) (ht1 : W'.cell? ⟨t, 1, none⟩ = some o1) (hf0 : W'.frozen? ⟨t, 0, none⟩ = false) (hf1 : W'.frozen? ⟨t, 1, none⟩ = false) : AsTrue (.iface ty v) t W' := by
  rcases h.far hB with ⟨a, b, rfl, rfl⟩ | ⟨j, sb, m, cp, a, b, rfl, rfl, h3, h4, h5⟩
  · exact asTrue_fault ht0 ht1 hf0 hf1
  · exact asTrue_join h3 h4 h5 ht0 ht1 hf0 hf1
set_option maxHeartbeats 1600000 in
set_option maxRecDepth 100000 in
theorem Parse_any (s : ByteArray) (m : Int) (w : World) (hs : s.size ≤ 1000000) (hm : w.cell? ⟨2, 0, none⟩ = some (.int .i64 m)) (hg : w.cell? ⟨0, 0, none⟩ = some (.iface 118 (.agg #[.pointer (some ⟨8, 68, none⟩)]))) :
    Calls Tryd.prog 18 #[.string s] w fun e w' => e = .returned (parseV (parseL s.data.toList)) ∧ Below w.heap.size w w' := by
  obtain ⟨W1, hW1⟩ : ∃ W1, W1 = w.alloc (.cells #[.int .i64 0, .string ⟨#[]⟩, .int .i64 0, .string ⟨#[]⟩, .string ⟨#[]⟩, .bool false, .int .i64 0, .string ⟨#[]⟩] 41) := ⟨_, rfl⟩
  have B1 : Below w.heap.size w W1 := by rw [hW1]; exact (Below.refl _ w).alloc (Nat.le_refl _) _
  have k0 : W1.heap[w.heap.size]? = some (.cells #[.int .i64 0, .string ⟨#[]⟩, .int .i64 0, .string ⟨#[]⟩, .string ⟨#[]⟩, .bool false, .int .i64 0, .string ⟨#[]⟩] 41 (0, 0)) := by rw [hW1]; exact heap_alloc_new w _
  have hlt1 : w.heap.size < W1.heap.size := by rw [hW1]; simp
  have h2l := World.block_lt_of_cell? w _ hm
  have h0l := World.block_lt_of_cell? w _ hg
  simp only [] at h2l h0l
  obtain ⟨R, hR⟩ : ∃ R, parseL s.data.toList = R := ⟨_, rfl⟩
  have hpr := parse_any s m W1 hs ((B1.cell (p := ⟨2, 0, none⟩) h2l).trans hm)
  have HG : Hid (∀ W, Below w.heap.size w W → W.cell? ⟨0, 0, none⟩ = some (.iface 118 (.agg #[.pointer (some ⟨8, 68, none⟩)]))) := fun W hB => (hB.cell (p := ⟨0, 0, none⟩) h0l).trans hg
  have HB1 := Lib.hid B1
  have HW := Lib.hid hW1
  have HK0 := Lib.hid k0
  rw [hR] at hpr ⊢
  clear hW1 k0 B1 hm hg
  cases R with
  | some x =>
    have HPR : Hid (Calls Tryd.prog 34 #[.string s] W1 fun e w' => e = .returned (.tuple #[.agg #[.int .i64 x.kind, .string (ba x.text), .int .i64 x.bits, .string (ba x.scheme), .string (ba x.host), .bool x.wild, .int .i64 x.port, .string (ba x.path)], .nilIface]) ∧ Below W1.heap.size W1 w') := hpr
    clear hpr
    go_enter Tryd.func18, Tryd.ntmps18
    go_upto_region 1 with fail
    rw [← HW.out]
    go_upto_region 3 with (go_at_call 34; refine HPR.out.mono ?_; rintro e w2 ⟨rfl, b2⟩; have hk2 := Lib.hid ((b2.block _ hlt1).trans HK0.out); have HB2 := Lib.hid (HB1.out.trans (b2.mono (Nat.le_of_lt hlt1))); clear b2)
    obtain ⟨W3, hW3⟩ : ∃ W3, W3 = (w2.alloc (.cells #[.int .i64 x.kind, .string (ba x.text), .int .i64 x.bits, .string (ba x.scheme), .string (ba x.host), .bool x.wild, .int .i64 x.port, .string (ba x.path)] 41)).alloc (.cells #[.string ⟨#[]⟩, .string ⟨#[]⟩] 72) := ⟨_, rfl⟩
    have hlt2 := lt_of_heap hk2.out
    have k1 : W3.heap[w2.heap.size]? = some (.cells #[.int .i64 x.kind, .string (ba x.text), .int .i64 x.bits, .string (ba x.scheme), .string (ba x.host), .bool x.wild, .int .i64 x.port, .string (ba x.path)] 41 (0, 0)) := by
      rw [hW3, heap_alloc_old _ _ (by simp)]; exact heap_alloc_new w2 _
    have k2 : W3.heap[w.heap.size]? = some (.cells #[.int .i64 0, .string ⟨#[]⟩, .int .i64 0, .string ⟨#[]⟩, .string ⟨#[]⟩, .bool false, .int .i64 0, .string ⟨#[]⟩] 41 (0, 0)) := by
      rw [hW3, heap_alloc_old _ _ (by simp; omega), heap_alloc_old _ _ (by omega)]; exact hk2.out
    have HB3 : Hid (Below w.heap.size w W3) := by
      show Below _ _ _
      rw [hW3]
      exact (HB2.out.alloc (by omega) _).alloc (by simp; omega) _
    rw [← hW3]
    have HN := Lib.hid (as_nil (.iface 74 (.pointer (some ⟨w2.heap.size + 1, 0, none⟩))) W3)
    obtain ⟨⟨c0, c1, c2, c3, c4, c5, c6, c7⟩, f0, f1, f2, f3, f4, f5, f6, f7⟩ := eight k1
    obtain ⟨⟨d0, d1, d2, d3, d4, d5, d6, d7⟩, g0, g1, g2, g3, g4, g5, g6, g7⟩ := eight k2
    clear hW3 k1 k2 hk2 HW HK0 HPR
    go_wp2_with (go_at_call 35; refine HN.out.mono ?_; rintro e w4 ⟨rfl, rfl⟩)
    refine bodyPost_ret (v := .tuple #[srcW x, .int .i64 0]) ?_ rfl ?_
    · rw [results_cell_tmp rfl]
      go_simp
      rfl
    · exact ⟨rfl, below_set8 HB3.out _ _ _ _ _ _ _ _⟩
  | none =>
    have HPR : Hid (Calls Tryd.prog 34 #[.string s] W1 fun e w' => (∃ k t b sc ho wi po pa ty v, e = .returned (.tuple #[.agg #[.int .i64 k, .string t, .int .i64 b, .string sc, .string ho, .bool wi, .int .i64 po, .string pa], .iface ty v]) ∧ Hid (FaultAt ty v w')) ∧ Below W1.heap.size W1 w') := hpr
    clear hpr
    go_enter Tryd.func18, Tryd.ntmps18
    go_upto_region 1 with fail
    rw [← HW.out]
    go_upto_region 3 with (go_at_call 34; refine HPR.out.mono ?_; rintro e w2 ⟨⟨k, t, b, sc, ho, wi, po, pa, ty, v, rfl, hfa⟩, b2⟩; have hk2 := Lib.hid ((b2.block _ hlt1).trans HK0.out); have HB2 := Lib.hid (HB1.out.trans (b2.mono (Nat.le_of_lt hlt1))); clear b2)
    obtain ⟨W3, hW3⟩ : ∃ W3, W3 = (w2.alloc (.cells #[.int .i64 k, .string t, .int .i64 b, .string sc, .string ho, .bool wi, .int .i64 po, .string pa] 41)).alloc (.cells #[.string ⟨#[]⟩, .string ⟨#[]⟩] 72) := ⟨_, rfl⟩
    have hlt2 := lt_of_heap hk2.out
    have k1 : W3.heap[w2.heap.size + 1]? = some (.cells #[.string ⟨#[]⟩, .string ⟨#[]⟩] 72 (0, 0)) := by
      rw [hW3]
      have := heap_alloc_new (w2.alloc (.cells #[.int .i64 k, .string t, .int .i64 b, .string sc, .string ho, .bool wi, .int .i64 po, .string pa] 41)) (.cells #[.string ⟨#[]⟩, .string ⟨#[]⟩] 72)
      rw [World.size_alloc] at this
      exact this
    have k2 : W3.heap[w.heap.size]? = some (.cells #[.int .i64 0, .string ⟨#[]⟩, .int .i64 0, .string ⟨#[]⟩, .string ⟨#[]⟩, .bool false, .int .i64 0, .string ⟨#[]⟩] 41 (0, 0)) := by
      rw [hW3, heap_alloc_old _ _ (by simp; omega), heap_alloc_old _ _ (by omega)]; exact hk2.out
    have B23 : Below w2.heap.size w2 W3 := by
      rw [hW3]
      exact ((Below.refl _ w2).alloc (Nat.le_refl _) _).alloc (by simp) _
    have HB3 : Hid (Below w.heap.size w W3) := HB2.out.trans (B23.mono (by omega))
    have hs3 : W3.heap.size = w2.heap.size + 1 + 1 := by rw [hW3]; simp
    have e0 : W3.cell? ⟨w2.heap.size + 1, 0, none⟩ = some (.string ⟨#[]⟩) := by rw [Lib.cell_of_heap k1]; rfl
    have e1 : W3.cell? ⟨w2.heap.size + 1, 1, none⟩ = some (.string ⟨#[]⟩) := by rw [Lib.cell_of_heap k1]; rfl
    have HAS := As_true ty v (w2.heap.size + 1) W3 (HG.out _ HB3.out) (asTrue_at hfa.out B23 e0 e1 (Lib.frozen_of_heap k1 0) (Lib.frozen_of_heap k1 1))
    have HA : Hid (Calls Tryd.prog 35 #[.iface ty v, .iface 74 (.pointer (some ⟨w2.heap.size + 1, 0, none⟩))] W3 fun e w' => e = .returned (.bool true) ∧ Hid (Below (w2.heap.size + 1) W3 w')) := by
      refine HAS.mono ?_
      rintro e w' ⟨h1, h2⟩
      exact ⟨h1, h2 _ (Nat.le_refl _) (by omega)⟩
    have K2 := Lib.hid k2
    rw [← hW3]
    clear hW3 k1 k2 hk2 HW HK0 HPR HAS e0 e1 B23 hs3 hfa
    go_wp2_with (go_at_call 35; refine HA.out.mono ?_; rintro e w4 ⟨rfl, b4⟩; obtain ⟨⟨d0, d1, d2, d3, d4, d5, d6, d7⟩, g0, g1, g2, g3, g4, g5, g6, g7⟩ := eight ((b4.out.block _ (Nat.lt_succ_of_lt hlt2)).trans K2.out))
    refine bodyPost_ret (v := .tuple #[srcW zL, .int .i64 250]) ?_ rfl ?_
    · rw [results_cell_tmp rfl]
      go_simp
      rfl
    · exact ⟨rfl, below_set8 (HB3.out.trans (b4.out.mono (Nat.le_of_lt (Nat.lt_succ_of_lt hlt2)))) _ _ _ _ _ _ _ _⟩
end Go.Proofs.YteeplfbaflldaaaDoor.S25
