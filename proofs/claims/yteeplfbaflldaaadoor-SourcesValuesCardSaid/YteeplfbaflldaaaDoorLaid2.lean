/- What a row's list of package-level variables gives: the cells of whatever plain table (arrays and structs of numbers, bools and texts). Of no program. -/
import Derived.Test.YteeplfbaflldaaaDoorLaid
import Derived.ChangeArms
set_option linter.unusedVariables false
namespace Go.Proofs.YteeplfbaflldaaaDoor
open Go.Lib

def litV : Lit → List Value
  | .bool b => [.bool b]
  | .int k n => [.int k n]
  | .string s => [.string ⟨s.toArray⟩]
  | _ => []
mutual
def plainC {H : Type} : DataW H → List Value
  | .lit l => litV l
  | .agg ds => plainA ds
  | _ => []
def plainA {H : Type} : List (DataW H) → List Value
  | [] => []
  | d :: ds => plainC d ++ plainA ds
end
def offsB (P : Program) : List Field → Nat → Nat → Bool
  | [], o, tot => o == tot
  | f :: fs, o, tot => f.offset == o && offsB P fs (o + P.cellsOf f.type) tot
def tightB (P : Program) : Nat → TypeId → Bool
  | 0, _ => false
  | n + 1, t =>
    match P.underlying t with
    | some .bool => true
    | some (.int _) => true
    | some .string => true
    | some (.struct fs) => offsB P fs.toList 0 (P.cellsOf t) && fs.toList.all fun f => tightB P n f.type
    | some (.array m e) => m * P.cellsOf e == P.cellsOf t && tightB P n e
    | _ => false

theorem struct_pieces {H : Type} {enc : TypeId × Value → H} {P : Program} {w : World} {base : Nat} {sp : Nat → Bool} {held : Bool} {fuel n : Nat} {cs : List Value}
    (ih : ∀ t cs (x : DataW H × List MemPlace), tightB P n t = true → DataW.trod enc P w base sp held fuel t cs = some x → cs = plainC x.1) :
    ∀ (fs : List Field) (o : Nat) (xs : List (DataW H × List MemPlace)), offsB P fs o cs.length = true → (fs.all fun f => tightB P n f.type) = true →
      (fs.mapM fun f => DataW.trod enc P w base sp held fuel f.type ((cs.drop f.offset).take (P.cellsOf f.type))) = some xs → cs.drop o = plainA (xs.map (·.1))
  | [], o, xs, ho, _, h => by
    simp at h
    subst h
    have : o = cs.length := by simpa [offsB] using ho
    rw [this]
    simp [plainA]
  | f :: fs, o, xs, ho, ha, h => by
    rw [List.mapM_cons] at h
    cases hx : DataW.trod enc P w base sp held fuel f.type ((cs.drop f.offset).take (P.cellsOf f.type)) with
    | none => rw [hx] at h; cases h
    | some x =>
      cases hxs : fs.mapM fun f => DataW.trod enc P w base sp held fuel f.type ((cs.drop f.offset).take (P.cellsOf f.type)) with
      | none => rw [hx, hxs] at h; cases h
      | some ys =>
        rw [hx, hxs] at h
        have e : xs = x :: ys := by
          have h2 : some (x :: ys) = some xs := h
          injection h2 with h2
          exact h2.symm
        simp only [offsB, Bool.and_eq_true, beq_iff_eq] at ho
        simp only [List.all_cons, Bool.and_eq_true] at ha
        have h1 := ih _ _ _ ha.1 hx
        have h2 := struct_pieces ih fs _ ys ho.2 ha.2 hxs
        rw [ho.1] at h1
        rw [e, List.map_cons, plainA, ← h1, ← h2, ← List.drop_drop, List.take_append_drop]

theorem array_pieces {H : Type} {enc : TypeId × Value → H} {P : Program} {w : World} {base : Nat} {sp : Nat → Bool} {held : Bool} {fuel n : Nat} {cs : List Value} {e : TypeId} (ht : tightB P n e = true)
    (ih : ∀ t cs (x : DataW H × List MemPlace), tightB P n t = true → DataW.trod enc P w base sp held fuel t cs = some x → cs = plainC x.1) :
    ∀ (m s : Nat) (xs : List (DataW H × List MemPlace)), s * P.cellsOf e + m * P.cellsOf e = cs.length →
      ((List.range' s m).mapM fun i => DataW.trod enc P w base sp held fuel e ((cs.drop (i * P.cellsOf e)).take (P.cellsOf e))) = some xs → cs.drop (s * P.cellsOf e) = plainA (xs.map (·.1))
  | 0, s, xs, hl, h => by
    simp at h
    subst h
    have : s * P.cellsOf e = cs.length := by omega
    rw [this]
    simp [plainA]
  | m + 1, s, xs, hl, h => by
    rw [List.range'_succ, List.mapM_cons] at h
    cases hx : DataW.trod enc P w base sp held fuel e ((cs.drop (s * P.cellsOf e)).take (P.cellsOf e)) with
    | none => rw [hx] at h; cases h
    | some x =>
      cases hxs : (List.range' (s + 1) m).mapM fun i => DataW.trod enc P w base sp held fuel e ((cs.drop (i * P.cellsOf e)).take (P.cellsOf e)) with
      | none => rw [hx, hxs] at h; cases h
      | some ys =>
        rw [hx, hxs] at h
        have e2 : xs = x :: ys := by
          have h2 : some (x :: ys) = some xs := h
          injection h2 with h2
          exact h2.symm
        have h1 := ih _ _ _ ht hx
        have h2 := array_pieces ht ih m (s + 1) ys (by rw [Nat.succ_mul] at hl ⊢; omega) hxs
        rw [e2, List.map_cons, plainA, ← h1, ← h2, Nat.succ_mul, ← List.drop_drop, List.take_append_drop]

theorem trod_plain {H : Type} {enc : TypeId × Value → H} {P : Program} {w : World} {base : Nat} {sp : Nat → Bool} {held : Bool} : ∀ (n fuel : Nat) (t : TypeId) (cs : List Value) (x : DataW H × List MemPlace),
    tightB P n t = true → DataW.trod enc P w base sp held fuel t cs = some x → cs = plainC x.1
  | 0, fuel, t, cs, x, ht, h => by cases ht
  | n + 1, 0, t, cs, x, ht, h => by simp [DataW.trod] at h
  | n + 1, fuel + 1, t, cs, x, ht, h => by
    have ih := fun t cs x => trod_plain (H := H) (enc := enc) (P := P) (w := w) (base := base) (sp := sp) (held := held) n fuel t cs x
    unfold tightB at ht
    split at ht
    · rename_i hu
      obtain ⟨b, rfl, rfl⟩ := DataW.trod_bool hu h
      rfl
    · rename_i hu
      obtain ⟨b, rfl, rfl, _⟩ := DataW.trod_int hu h
      rfl
    · rename_i hu
      obtain ⟨b, rfl, rfl, _⟩ := DataW.trod_string hu h
      rfl
    · rename_i fs hu
      rw [Bool.and_eq_true] at ht
      simp only [DataW.trod, hu] at h
      split at h
      · rename_i hl
        obtain ⟨xs, hm, hx⟩ := Option.map_eq_some_iff.1 h
        rw [← hl] at ht
        have := struct_pieces ih fs.toList 0 xs ht.1 ht.2 hm
        rw [← hx]
        simpa [plainC] using this
      · cases h
    · rename_i m e hu
      rw [Bool.and_eq_true, beq_iff_eq] at ht
      simp only [DataW.trod, hu] at h
      split at h
      · rename_i hl
        obtain ⟨xs, hm, hx⟩ := Option.map_eq_some_iff.1 h
        rw [List.range_eq_range'] at hm
        have := array_pieces ht.2 ih m 0 xs (by omega) hm
        rw [← hx]
        simpa [plainC] using this
      · cases h
    · cases ht

/-- A plain table on a row's list: its whole block. -/
theorem plain_laid {P : Program} {w : World} {laid : List (String × DataW Unit)} (h : laidMet P laid w) {name : String} {d : DataW Unit} (hm : (name, d) ∈ laid) {g : Nat} {t : TypeId} (n : Nat)
    (hg : P.globalNamed name = some g) (hty : (P.globals[g]?).map (·.type) = some t) (ht : tightB P n t = true) :
    ∃ tt fr, w.heap[g]? = some (.cells (plainC d).toArray tt fr) := by
  obtain ⟨ps, hps, _⟩ := h
  obtain ⟨g', t', cs, fuel, p, hg', ht', hvar, hd⟩ := laid_at hps hm
  obtain rfl := Option.some.inj (hg.symm.trans hg')
  obtain rfl := Option.some.inj (hty.symm.trans ht')
  obtain ⟨tt, fr, hh⟩ := heap_of_var hg hvar
  have := trod_plain n fuel t cs.toList (d, p) ht hd
  exact ⟨tt, fr, by rw [hh, ← this]⟩
end Go.Proofs.YteeplfbaflldaaaDoor
