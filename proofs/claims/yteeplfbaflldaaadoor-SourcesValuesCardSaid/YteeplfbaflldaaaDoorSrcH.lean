/- sources: parseHost's blocks: the result's, the source's, the row of errors. -/
import Derived.Test.YteeplfbaflldaaaDoorSrcV
set_option linter.unusedVariables false
set_option linter.unusedSimpArgs false
namespace Go.Proofs.YteeplfbaflldaaaDoor.S25
open Go.RowKit Go.Extern.Stop Go.Stop Go.Extern T10

theorem keep8 {W : World} {p b o : Nat} {x : Value} (h : b ≠ p) (hc : W.cell? ⟨b, o, none⟩ = some x) (v0 v1 v2 v3 v4 v5 v6 v7 : Value) :
    ((((((((W.setCell ⟨p, 0, none⟩ v0).setCell ⟨p, 1, none⟩ v1).setCell ⟨p, 2, none⟩ v2).setCell ⟨p, 3, none⟩ v3).setCell ⟨p, 4, none⟩ v4).setCell ⟨p, 5, none⟩ v5).setCell ⟨p, 6, none⟩ v6).setCell ⟨p, 7, none⟩ v7).cell? ⟨b, o, none⟩ = some x := by
  have one : ∀ (W : World) (k : Nat) (u : Value), W.cell? ⟨b, o, none⟩ = some x → (W.setCell ⟨p, k, none⟩ u).cell? ⟨b, o, none⟩ = some x := by
    intro W k u hc
    refine Eq.trans (World.cell?_setCell_other _ (⟨p, k, none⟩ : Addr) (⟨b, o, none⟩ : Addr) u ?_) hc
    intro e
    injection e with e
    exact h e.symm
  exact one _ _ _ (one _ _ _ (one _ _ _ (one _ _ _ (one _ _ _ (one _ _ _ (one _ _ _ (one _ _ _ hc)))))))
/-- What stands in parseHost's three blocks. -/
def HAt (n : Nat) (w W : World) (sc ho : ByteArray) (wi : Bool) (po : Int) (pa : ByteArray) (E0 E1 E2 E3 : Value) : Prop :=
  W.heap[n]? = some (.cells #[.int .i64 0, .string ⟨#[]⟩, .int .i64 0, .string ⟨#[]⟩, .string ⟨#[]⟩, .bool false, .int .i64 0, .string ⟨#[]⟩] 41 (0, 0)) ∧
  W.heap[n + 1]? = some (.cells #[.int .i64 3, .string ⟨#[]⟩, .int .i64 0, .string sc, .string ho, .bool wi, .int .i64 po, .string pa] 41 (0, 0)) ∧
  W.heap[n + 1 + 1]? = some (.cells #[E0, E1, E2, E3] 108 (0, 0)) ∧ Below n w W
theorem lt_of_heap {W : World} {k : Nat} {o : Obj} (h : W.heap[k]? = some o) : k < W.heap.size := (Array.getElem?_eq_some_iff.1 h).1
theorem HAt.far {n : Nat} {w W W' : World} {sc ho pa : ByteArray} {wi : Bool} {po : Int} {E0 E1 E2 E3 : Value} (h : HAt n w W sc ho wi po pa E0 E1 E2 E3) (b : Below W.heap.size W W') : HAt n w W' sc ho wi po pa E0 E1 E2 E3 := by
  obtain ⟨h1, h2, h3, h4⟩ := h
  have l3 := lt_of_heap h3
  exact ⟨(b.block n (by omega)).trans h1, (b.block (n + 1) (by omega)).trans h2, (b.block (n + 1 + 1) l3).trans h3, h4.trans (b.mono (by omega))⟩
theorem HAt.lt {n : Nat} {w W : World} {sc ho pa : ByteArray} {wi : Bool} {po : Int} {E0 E1 E2 E3 : Value} (h : HAt n w W sc ho wi po pa E0 E1 E2 E3) : n + 1 + 1 < W.heap.size := lt_of_heap h.2.2.1
theorem alloc3 (w : World) (a b c : Obj) : (((w.alloc a).alloc b).alloc c).heap[w.heap.size]? = some a ∧ (((w.alloc a).alloc b).alloc c).heap[w.heap.size + 1]? = some b ∧ (((w.alloc a).alloc b).alloc c).heap[w.heap.size + 1 + 1]? = some c := by
  have old : ∀ (w : World) (o : Obj) (k : Nat), k < w.heap.size → (w.alloc o).heap[k]? = w.heap[k]? := fun w o k h => heap_alloc_old w o h
  have new : ∀ (w : World) (o : Obj), (w.alloc o).heap[w.heap.size]? = some o := fun w o => heap_alloc_new w o
  have s1 : (w.alloc a).heap.size = w.heap.size + 1 := by simp
  have s2 : ((w.alloc a).alloc b).heap.size = w.heap.size + 1 + 1 := by simp
  refine ⟨?_, ?_, ?_⟩
  · rw [old _ _ _ (by rw [s2]; omega), old _ _ _ (by rw [s1]; omega)]; exact new w a
  · rw [old _ _ _ (by rw [s2]; omega), ← s1]; exact new _ b
  · rw [← s2]; exact new _ c
theorem hat_start (w : World) : HAt w.heap.size w (((w.alloc (.cells #[.int .i64 0, .string ⟨#[]⟩, .int .i64 0, .string ⟨#[]⟩, .string ⟨#[]⟩, .bool false, .int .i64 0, .string ⟨#[]⟩] 41)).alloc (.cells #[.int .i64 3, .string ⟨#[]⟩, .int .i64 0, .string ⟨#[]⟩, .string ⟨#[]⟩, .bool false, .int .i64 (-1), .string ⟨#[]⟩] 41)).alloc (.cells #[.nilIface, .nilIface, .nilIface, .nilIface] 108)) ⟨#[]⟩ ⟨#[]⟩ false (-1) ⟨#[]⟩ .nilIface .nilIface .nilIface .nilIface :=
  ⟨(alloc3 _ _ _ _).1, (alloc3 _ _ _ _).2.1, (alloc3 _ _ _ _).2.2, (((Below.refl _ w).alloc (Nat.le_refl _) _).alloc (by rw [World.size_alloc]; omega) _).alloc (by rw [World.size_alloc, World.size_alloc]; omega) _⟩
theorem HAt.drew {n : Nat} {w W : World} {sc ho pa : ByteArray} {wi : Bool} {po : Int} {E0 E1 E2 E3 : Value} (h : HAt n w W sc ho wi po pa E0 E1 E2 E3) : HAt n w W.drew sc ho wi po pa E0 E1 E2 E3 := h.far ((Below.refl _ W).drew)
theorem HAt.drewN {n : Nat} {w W W' : World} {sc ho pa : ByteArray} {wi : Bool} {po : Int} {E0 E1 E2 E3 : Value} (h : HAt n w W sc ho wi po pa E0 E1 E2 E3) (k : Nat) (e : W' = W.drewN k) : HAt n w W' sc ho wi po pa E0 E1 E2 E3 := by
  rw [e]; exact h.far (below_drewN (Below.refl _ W) k)
theorem HAt.setSc {n : Nat} {w W : World} {sc ho pa : ByteArray} {wi : Bool} {po : Int} {E0 E1 E2 E3 : Value} (h : HAt n w W sc ho wi po pa E0 E1 E2 E3) (sc' : ByteArray) (E : Value) :
    HAt n w ((W.setCell ⟨n + 1, 3, none⟩ (.string sc')).setCell ⟨n + 1 + 1, 0, none⟩ E) sc' ho wi po pa E E1 E2 E3 := by
  obtain ⟨h1, h2, h3, h4⟩ := h
  refine ⟨?_, ?_, ?_, ?_⟩
  · rw [heap_setCell_other _ _ _ _ (by simp; omega), heap_setCell_other _ _ _ _ (by simp)]; exact h1
  · rw [heap_setCell_other _ _ _ _ (by simp)]; exact heap_setA h2 3 _
  · have h3' : (W.setCell ⟨n + 1, 3, none⟩ (.string sc')).heap[n + 1 + 1]? = some (.cells #[E0, E1, E2, E3] 108 (0, 0)) := by
      rw [heap_setCell_other _ _ _ _ (by simp)]; exact h3
    exact heap_setA h3' 0 _
  · exact (h4.setCell (by simp) _).setCell (by simp; omega) _
theorem HAt.setPa {n : Nat} {w W : World} {sc ho pa : ByteArray} {wi : Bool} {po : Int} {E0 E1 E2 E3 : Value} (h : HAt n w W sc ho wi po pa E0 E1 E2 E3) (pa' : ByteArray) (E : Value) :
    HAt n w ((W.setCell ⟨n + 1, 7, none⟩ (.string pa')).setCell ⟨n + 1 + 1, 1, none⟩ E) sc ho wi po pa' E0 E E2 E3 := by
  obtain ⟨h1, h2, h3, h4⟩ := h
  refine ⟨?_, ?_, ?_, ?_⟩
  · rw [heap_setCell_other _ _ _ _ (by simp; omega), heap_setCell_other _ _ _ _ (by simp)]; exact h1
  · rw [heap_setCell_other _ _ _ _ (by simp)]; exact heap_setA h2 7 _
  · have h3' : (W.setCell ⟨n + 1, 7, none⟩ (.string pa')).heap[n + 1 + 1]? = some (.cells #[E0, E1, E2, E3] 108 (0, 0)) := by
      rw [heap_setCell_other _ _ _ _ (by simp)]; exact h3
    exact heap_setA h3' 1 _
  · exact (h4.setCell (by simp) _).setCell (by simp; omega) _
theorem HAt.setPo {n : Nat} {w W : World} {sc ho pa : ByteArray} {wi : Bool} {po : Int} {E0 E1 E2 E3 : Value} (h : HAt n w W sc ho wi po pa E0 E1 E2 E3) (po' : Int) (E : Value) :
    HAt n w ((W.setCell ⟨n + 1, 6, none⟩ (.int .i64 po')).setCell ⟨n + 1 + 1, 3, none⟩ E) sc ho wi po' pa E0 E1 E2 E := by
  obtain ⟨h1, h2, h3, h4⟩ := h
  refine ⟨?_, ?_, ?_, ?_⟩
  · rw [heap_setCell_other _ _ _ _ (by simp; omega), heap_setCell_other _ _ _ _ (by simp)]; exact h1
  · rw [heap_setCell_other _ _ _ _ (by simp)]; exact heap_setA h2 6 _
  · have h3' : (W.setCell ⟨n + 1, 6, none⟩ (.int .i64 po')).heap[n + 1 + 1]? = some (.cells #[E0, E1, E2, E3] 108 (0, 0)) := by
      rw [heap_setCell_other _ _ _ _ (by simp)]; exact h3
    exact heap_setA h3' 3 _
  · exact (h4.setCell (by simp) _).setCell (by simp; omega) _
theorem HAt.setNa {n : Nat} {w W : World} {sc ho pa : ByteArray} {wi : Bool} {po : Int} {E0 E1 E2 E3 : Value} (h : HAt n w W sc ho wi po pa E0 E1 E2 E3) (ho' : ByteArray) (wi' : Bool) (E : Value) :
    HAt n w (((W.setCell ⟨n + 1, 4, none⟩ (.string ho')).setCell ⟨n + 1, 5, none⟩ (.bool wi')).setCell ⟨n + 1 + 1, 2, none⟩ E) sc ho' wi' po pa E0 E1 E E3 := by
  obtain ⟨h1, h2, h3, h4⟩ := h
  refine ⟨?_, ?_, ?_, ?_⟩
  · rw [heap_setCell_other _ _ _ _ (by simp; omega), heap_setCell_other _ _ _ _ (by simp), heap_setCell_other _ _ _ _ (by simp)]; exact h1
  · rw [heap_setCell_other _ _ _ _ (by simp)]; exact heap_setA (heap_setA h2 4 _) 5 _
  · have h3' : ((W.setCell ⟨n + 1, 4, none⟩ (.string ho')).setCell ⟨n + 1, 5, none⟩ (.bool wi')).heap[n + 1 + 1]? = some (.cells #[E0, E1, E2, E3] 108 (0, 0)) := by
      rw [heap_setCell_other _ _ _ _ (by simp), heap_setCell_other _ _ _ _ (by simp)]; exact h3
    exact heap_setA h3' 2 _
  · exact ((h4.setCell (by simp) _).setCell (by simp) _).setCell (by simp; omega) _
theorem four {w : World} {p : Nat} {t : TypeId} {a b c d : Value} (k : w.heap[p]? = some (.cells #[a, b, c, d] t (0, 0))) :
    (w.cell? ⟨p, 0, none⟩ = some a ∧ w.cell? ⟨p, 1, none⟩ = some b ∧ w.cell? ⟨p, 2, none⟩ = some c ∧ w.cell? ⟨p, 3, none⟩ = some d) ∧
    (w.frozen? ⟨p, 0, none⟩ = false ∧ w.frozen? ⟨p, 1, none⟩ = false ∧ w.frozen? ⟨p, 2, none⟩ = false ∧ w.frozen? ⟨p, 3, none⟩ = false) := by
  refine ⟨⟨?_, ?_, ?_, ?_⟩, Lib.frozen_of_heap k 0, Lib.frozen_of_heap k 1, Lib.frozen_of_heap k 2, Lib.frozen_of_heap k 3⟩
  all_goals rw [Lib.cell_of_heap k]; rfl
theorem HAt.row {n : Nat} {w W : World} {sc ho pa : ByteArray} {wi : Bool} {po : Int} {e0 e1 e2 e3 : Option (TypeId × Value)} (h : HAt n w W sc ho wi po pa (encE e0) (encE e1) (encE e2) (encE e3)) :
    ∀ (k : Nat) (u : Option (TypeId × Value)), ([e0, e1, e2, e3] : List (Option (TypeId × Value)))[k]? = some u → W.cell? ⟨n + 1 + 1, k, none⟩ = some (encE u) := by
  intro k u hu
  rw [Lib.cell_of_heap h.2.2.1]
  match k with
  | 0 => simp at hu; subst hu; rfl
  | 1 => simp at hu; subst hu; rfl
  | 2 => simp at hu; subst hu; rfl
  | 3 => simp at hu; subst hu; rfl
  | k + 4 => simp at hu
/-- What is joined: the first error stands in the joined error's row. -/
def JOk (W : World) (jj : Nat) (L : List (Option (TypeId × Value))) : Prop :=
  ∃ sb m cp ty v, 0 < m ∧ W.cell? ⟨jj, 0, none⟩ = some (.slice (some ⟨sb, 0, none⟩) m cp) ∧ (okE L).head? = some (ty, v) ∧ W.cell? ⟨sb, 0, none⟩ = some (.iface ty v)
/-- What parseHost's end hands back: the source, and nil or what is joined. -/
def HostEnd (sc ho : ByteArray) (wi : Bool) (po : Int) (pa : ByteArray) (L : List (Option (TypeId × Value))) (e : Ending) (w' : World) : Prop :=
  (okE L = [] ∧ e = .returned (.tuple #[srcV 3 ⟨#[]⟩ 0 sc ho wi po pa, .nilIface])) ∨
  (∃ jj, okE L ≠ [] ∧ e = .returned (.tuple #[srcV 3 ⟨#[]⟩ 0 sc ho wi po pa, .iface 147 (.pointer (some ⟨jj, 0, none⟩))]) ∧ JOk w' jj L)
theorem join_none {L : List (Option (TypeId × Value))} (h0 : okE L = []) (hN : L.length ≤ 1000) (g cp : Nat) (W : World) (hc : ∀ k u, L[k]? = some u → W.cell? ⟨g, k, none⟩ = some (encE u)) (hgl : g < W.heap.size) :
    Calls Tryd.prog 74 #[.slice (some ⟨g, 0, none⟩) L.length cp] W fun e w' => e = .returned .nilIface ∧ w' = W := by
  refine (join_any L hN g cp W hc hgl).mono ?_
  rintro e w' (⟨_, h1, h2⟩ | ⟨jj, h1, _⟩)
  · exact ⟨h1, h2⟩
  · exact absurd h0 h1
theorem join_some {L : List (Option (TypeId × Value))} (h0 : okE L ≠ []) (hN : L.length ≤ 1000) (g cp : Nat) (W : World) (hc : ∀ k u, L[k]? = some u → W.cell? ⟨g, k, none⟩ = some (encE u)) (hgl : g < W.heap.size) :
    Calls Tryd.prog 74 #[.slice (some ⟨g, 0, none⟩) L.length cp] W fun e w' => ∃ jj, e = .returned (.iface 147 (.pointer (some ⟨jj, 0, none⟩))) ∧ JoinAt W jj (okE L).length L.length L w' := by
  refine (join_any L hN g cp W hc hgl).mono ?_
  rintro e w' (⟨h1, _⟩ | ⟨jj, _, h1, h2⟩)
  · exact absurd h1 h0
  · exact ⟨jj, h1, h2⟩
theorem joinAt_ok {W wr : World} {jj n k : Nat} {L : List (Option (TypeId × Value))} (hk : L.length ≤ k) (h : JoinAt W jj n k L wr) (hne : okE L ≠ []) {p : Nat} (hp : p < W.heap.size) (v0 v1 v2 v3 v4 v5 v6 v7 : Value) :
    JOk ((((((((wr.setCell ⟨p, 0, none⟩ v0).setCell ⟨p, 1, none⟩ v1).setCell ⟨p, 2, none⟩ v2).setCell ⟨p, 3, none⟩ v3).setCell ⟨p, 4, none⟩ v4).setCell ⟨p, 5, none⟩ v5).setCell ⟨p, 6, none⟩ v6).setCell ⟨p, 7, none⟩ v7) jj L := by
  obtain ⟨h1, h2, h3, h4, h5, h6⟩ := h
  rw [List.take_of_length_le hk] at h1 h2
  cases ho : okE L with
  | nil => exact absurd ho hne
  | cons q r =>
    obtain ⟨ty, v⟩ := q
    rw [ho] at h1 h2
    refine ⟨W.heap.size, _, n, ty, v, ?_, keep8 (by omega) h2 _ _ _ _ _ _ _ _, by rw [ho]; rfl, keep8 (by omega) ?_ _ _ _ _ _ _ _ _⟩
    · exact Nat.succ_pos _
    · exact (h1.cellAt 0 (by simp)).trans rfl
theorem JOk.drew {W : World} {jj : Nat} {L : List (Option (TypeId × Value))} (h : JOk W jj L) : JOk W.drew jj L := by
  obtain ⟨sb, m, cp, ty, v, h1, h2, h3, h4⟩ := h
  exact ⟨sb, m, cp, ty, v, h1, h2, h3, h4⟩
end Go.Proofs.YteeplfbaflldaaaDoor.S25
