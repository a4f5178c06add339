/- Of no program: loops of a function by themselves; an append in a statement that draws. -/
import Derived.Test.YteeplfbaflldaaaDoorLz
import Derived.Test.YteeplfbaflldaaaDoorArr
import Derived.Deep.AppendLies
import Derived.Below
set_option linter.unusedVariables false
namespace Go.Proofs.YteeplfbaflldaaaDoor
open Go.RowKit

/-- The first region of a piece of code. -/
def firstReg : Code → Nat
  | .region n _ _ => n
  | .seq x _ => firstReg x
  | .block _ x => firstReg x
  | .loop x => firstReg x
  | .scope x => firstReg x
  | _ => 1000000
/-- The loop that begins with a region. -/
def findLoop (n : Nat) : Code → Option Code
  | .seq x y => match findLoop n x with
    | some c => some c
    | none => findLoop n y
  | .cond _ x y => match findLoop n x with
    | some c => some c
    | none => findLoop n y
  | .block _ x => findLoop n x
  | .scope x => findLoop n x
  | .loop x => if firstReg x = n then some (.loop x) else findLoop n x
  | _ => none
def loopOf (n : Nat) (f : Func) : Option Code := f.body.bind (findLoop n)

/-- What a loop leaves by its own exit. -/
def LoopQ (id : Nat) (R : Act → World → Prop) : Exit → Act → World → Prop
  | .exit i, a, w => i = id ∧ R a w
  | _, _, _ => False
theorem loop_out {P : Program} {c : Code} {id : Nat} {R : Act → World → Prop} {Q : Exit → Act → World → Prop} {a : Act} {w : World} (h : c.wp P (LoopQ id R) a w) (hq : ∀ a w, R a w → Q (.exit id) a w) : c.wp P Q a w := by
  refine wp_mono h ?_
  intro e a w he
  cases e with
  | exit i => obtain ⟨rfl, hr⟩ := he; exact hq a w hr
  | normal => exact he.elim
  | goto l => exact he.elim
  | ret => exact he.elim
  | panic c => exact he.elim
  | outgrown => exact he.elim

/-- An append of one, as an equation that 'go_region' can meet: behind 'simp [go_sem] at ..'. -/
theorem step_run1 {P : Program} {t : TypeId} {wr : World} {base : Nat} {e : TypeId} {z : Value} {bytes : Nat} (hinfo : (P.info? e).map (fun i => (i.zero, i.size, i.bytes)) = some (some z, 1, bytes)) (ht : P.underlying t = some (.slice e)) (hzs : z.cells.size = 1) (hbytes : bytes ≤ 64)
    {v : Value} {n : Nat} {xs : List Value} {u : Value} (hown : wr.ownsRow base e 1 v n xs) (hu : u.oneCell' = true) (hn : n + 1 ≤ 1099511627776) (hbase : base ≤ wr.heap.size) :
    ∃ v' w', (Builtin.append_ #[t, t] t #[v, .slice (some ⟨wr.heap.size, 0, none⟩) 1 1]).run P (wr.alloc (.cells #[u] e)).drew = .ok v' w' ∧ w'.ownsRow base e 1 v' (n + 1) (xs ++ [u]) ∧ Below base wr w' := by
  obtain ⟨i0, hi, hz0, hz1, hz2⟩ := info_parts hinfo
  obtain ⟨g, cap, w', hr, h2, hg, _, _⟩ := run_append_lies (P := P) (wr.alloc (.cells #[u] e)).drew t t base e i0 z 1 bytes ht hi hz0 hz1 hz2 hzs (by omega) v n xs ((hown.alloc _).drew) ⟨wr.heap.size, 0, none⟩ 1 1 [u] rfl
    (World.news_of_block (cs := #[u]) (t := e) (fr := (0, 0)) (heap_alloc_new wr _)) (by intro y hy; simp at hy; subst hy; exact hu) (by omega) (by unfold maxLen; omega)
    (by have : (n + 1) * bytes ≤ 1099511627776 * 64 := Nat.mul_le_mul hn hbytes
        omega) (by show base ≤ (wr.alloc _).heap.size; simp; omega) (wr.heap.size + 1) (by simp)
  have hb1 : Below base wr (wr.alloc (.cells #[u] e)).drew := ((Below.refl base wr).alloc hbase _).drew
  have hb2 : base ≤ (wr.alloc (.cells #[u] e)).drew.heap.size := by show base ≤ (wr.alloc _).heap.size; simp; omega
  exact ⟨_, w', hr, h2, hb1.grown hg hb2 fun k hk => (hown.lt k hk).1⟩

theorem step_app1 {P : Program} {ops : Array Oper} {o : Oper} {a : Act} {K : Act → World → Prop} {Q : Exit → Act → World → Prop} {E : Prop} (hgd : o.guard = none) (s x : Operand) (t : TypeId)
    (ho : o.op = .call { callee := .builtin .append, args := #[s, x], argTypes := #[t, t] }) {wr : World}
    {base : Nat} {e : TypeId} {z : Value} {bytes : Nat} (hinfo : (P.info? e).map (fun i => (i.zero, i.size, i.bytes)) = some (some z, 1, bytes)) (ht : P.underlying t = some (.slice e)) (hzs : z.cells.size = 1) (hbytes : bytes ≤ 64)
    {v : Value} {n : Nat} {xs : List Value} {u : Value} (hown : wr.ownsRow base e 1 v n xs) (hs : a.eval s = v) (hx : a.eval x = .slice (some ⟨wr.heap.size, 0, none⟩) 1 1) (hu : u.oneCell' = true) (hn : n + 1 ≤ 1099511627776) (hbase : base ≤ wr.heap.size)
    (h : ∀ v' w', w'.ownsRow base e 1 v' (n + 1) (xs ++ [u]) → Below base wr w' → K (a.put o.dst v') w') :
    if Region.wanted o (yielded ops a.tmps) = true then Oper.wp P o a (wr.alloc (.cells #[u] e)).drew K Q else E := by
  obtain ⟨i0, hi, hz0, hz1, hz2⟩ := info_parts hinfo
  refine step_append_lies _ hgd s x t ho base e i0 z 1 bytes ht hi hz0 hz1 hz2 hzs (by omega) v n xs hs ((hown.alloc _).drew) ⟨wr.heap.size, 0, none⟩ 1 1 [u] hx rfl
    (World.news_of_block (cs := #[u]) (t := e) (fr := (0, 0)) (heap_alloc_new wr _)) ?_ (by omega) ?_ ?_ ?_ (wr.heap.size + 1) (by simp) ?_
  · intro y hy; simp at hy; subst hy; exact hu
  · unfold maxLen; omega
  · have : (n + 1) * bytes ≤ 1099511627776 * 64 := Nat.mul_le_mul hn hbytes
    omega
  · show base ≤ (wr.alloc _).heap.size
    simp
    omega
  · intro g cap w' hown' hg _ _
    have hb1 : Below base wr (wr.alloc (.cells #[u] e)).drew := ((Below.refl base wr).alloc hbase _).drew
    have hb2 : base ≤ (wr.alloc (.cells #[u] e)).drew.heap.size := by show base ≤ (wr.alloc _).heap.size; simp; omega
    exact h _ w' hown' (hb1.grown hg hb2 fun k hk => (hown.lt k hk).1)
end Go.Proofs.YteeplfbaflldaaaDoor
