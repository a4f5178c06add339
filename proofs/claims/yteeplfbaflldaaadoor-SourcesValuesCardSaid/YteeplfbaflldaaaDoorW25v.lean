/- A world in which SourcesValues's tables are laid, and the handle of the type error, and what its row's list says of them. -/
import Derived.Test.YteeplfbaflldaaaDoorLaid2
import Derived.Test.YteeplfbaflldaaaDoorWmax
import Derived.Test.YteeplfbaflldaaaDoorLRd25
import Derived.MakeChecks
import Derived.LaidHandle
import Derived.Stop.Joined
set_option linter.unusedVariables false
namespace Go.Proofs.YteeplfbaflldaaaDoor.S25
open Go.ChangeShapes Go.WideShapes Go.ChangeAt Go.RowKit

def putC25v (h : Array Obj) (g : Nat) (cs : Array Value) : Array Obj := h.modify g fun
  | .cells _ t frozen => .cells cs t frozen
  | o => o
noncomputable def t25vWorld (os : Os) : World :=
  { World.holding Tryd.prog os ⟨#[], #[], []⟩ with heap := putC25v (putC25v (putC25v (World.holding Tryd.prog os ⟨#[], #[], []⟩).heap 4 (plainC (H := Unit) Rows.laid_unicode_utf8_acceptRanges).toArray) 3 (plainC (H := Unit) Rows.laid_unicode_utf8_first).toArray) 0 #[.iface 118 (.agg #[.pointer (some ⟨8, 68, none⟩)])] }
set_option maxRecDepth 100000 in
theorem t25v_met (os : Os) (args : Array Value) : laidMetH Tryd.prog Rows.sourcesValuesRow.laid ((t25vWorld os).forCall (fun _ _ => 0) ⟨#[], args, []⟩).memory :=
  laidMetH_of_parts (laidMet_of_run' 8 (by kernel_rfl) (by kernel_rfl)) (by kernel_rfl)
theorem et25v : Tryd.prog.globalNamed "errors.errorType" = some 0 := by kernel_rfl
theorem rt25v : (Tryd.prog.cutTypes.find? (·.1 == "internal/reflectlite.rtype")).map (·.2) = some 118 := by kernel_rfl
theorem oneRow25v : ((List.range Tryd.prog.types.size).filter fun t => Tryd.prog.rowNamed t [101, 114, 114, 111, 114]) = [68] := by kernel_rfl
theorem halves_v {W : World} (h : laidMetH Tryd.prog Rows.sourcesValuesRow.laid W) : laidMet Tryd.prog (Rows.sourcesValuesRow.laid.filter fun x => x.2.handleName?.isNone) W ∧ handlesMet Tryd.prog (Rows.sourcesValuesRow.laid.filter fun x => x.2.handleName?.isSome) W := h
theorem handle25v {W : World} (h : laidMetH Tryd.prog Rows.sourcesValuesRow.laid W) : W.cell? ⟨0, 0, none⟩ = some (.iface 118 (.agg #[.pointer (some ⟨8, 68, none⟩)])) := by
  obtain ⟨name, u, ty, e1, e2, e3, e4, e5⟩ := (halves_v h).2 ("errors.errorType", Rows.laid_errors_errorType) (List.mem_singleton.2 rfl)
  have en : name = [101, 114, 114, 111, 114] := (Option.some.inj e1).symm
  subst en
  obtain rfl := Option.some.inj (rt25v.symm.trans e2)
  have hm : ty ∈ (List.range Tryd.prog.types.size).filter fun t => Tryd.prog.rowNamed t [101, 114, 114, 111, 114] := List.mem_filter.2 ⟨List.mem_range.2 e3, e4⟩
  rw [oneRow25v] at hm
  obtain rfl := List.mem_singleton.1 hm
  have hh : typeHandle Tryd.prog 68 = .pointer (some ⟨8, 68, none⟩) := by kernel_rfl
  rw [hh] at e5
  simpa using World.var?_cell et25v e5 0
theorem eok_v {W : World} (h : laidMetH Tryd.prog Rows.sourcesValuesRow.laid W) {m : Int} (hm : MaxOk m W) : EOk m W := ⟨hm, handle25v h⟩
end Go.Proofs.YteeplfbaflldaaaDoor.S25
