/- lazaretref09.Names. -/
import Derived.Test.YtbpdmbmooboimaaDoorNms
import Derived.Great.Walk
set_option linter.unusedVariables false
namespace Go.Proofs.YtbpdmbmooboimaaDoor.R9
open Go.RowKit

theorem wp_buildTo {P : Program} {o : Oper} {a : Act} {w : World} {K : Act → World → Prop} {Q : Exit → Act → World → Prop} (t e : TypeId) (len : Nat) (parts : Array (Nat × Operand)) (ho : o.op = .buildSlice t len parts)
    (hu : P.underlying t = some (.slice e)) (cells : Array Value) (hf : P.builtSlice e len (parts.map fun (i, x) => (i, a.eval x)).toList = some cells)
    (h : K (a.put o.dst (.slice (some ⟨w.heap.size, 0, none⟩) len len)) (w.alloc (.cells cells e))) : o.wp P a w K Q := by
  unfold Program.builtSlice at hf
  cases hie : P.info? e with
  | none => simp [hie] at hf
  | some ie =>
    simp only [hie] at hf
    cases hz : ie.zero with
    | none => simp [hz] at hf
    | some z =>
      simp only [hz] at hf
      by_cases hc : len * ie.size > 2 ^ 24 ∨ len * ie.size = 0
      · simp [hc] at hf
      · rw [if_neg hc] at hf
        exact wp_buildSlice t e len parts ho cells ie z hu hie hz (fun h' => hc (Or.inl h')) (fun h' => hc (Or.inr h')) hf h
set_option maxHeartbeats 6400000 in
set_option maxRecDepth 1000000 in
theorem names_any (w : World) : Calls Tryd.prog 78 #[] w fun e w' => e = .returned (.slice (some ⟨w.heap.size, 0, none⟩) 52 52) ∧ w' = w.alloc (.cells (namesC namesT).toArray 98) := by
  go_enter Tryd.func78, Tryd.ntmps78
  go_wp2_with fail
  refine wp_buildTo 95 98 52 _ rfl Tryd.underlying95 (namesC namesT).toArray (by kernel_rfl) ?_
  generalize hW : w.alloc (.cells (namesC namesT).toArray 98) = W
  go_wp2_with fail
  go_ret
  exact ⟨by exact rfl, hW.symm⟩
end Go.Proofs.YtbpdmbmooboimaaDoor.R9
