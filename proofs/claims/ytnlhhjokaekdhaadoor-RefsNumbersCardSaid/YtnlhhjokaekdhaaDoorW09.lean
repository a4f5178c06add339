/- A world in which layer 9's table is laid, and what a row's list says of it. -/
import Derived.Test.YtnlhhjokaekdhaaDoorLaid2
import Derived.Test.YtnlhhjokaekdhaaDoorRf1
import Derived.Test.YtnlhhjokaekdhaaDoorWmax
import Derived.MakeChecks
set_option linter.unusedVariables false
namespace Go.Proofs.YtnlhhjokaekdhaaDoor.R9
open Go.ChangeShapes Go.WideShapes Go.ChangeAt Go.RowKit

def putCellsT (h : Array Obj) (g : Nat) (cs : Array Value) : Array Obj := h.modify g fun
  | .cells _ t frozen => .cells cs t frozen
  | o => o
noncomputable def t09World (os : Os) : World :=
  { World.holding Tryd.prog os ⟨#[], #[], []⟩ with heap := putCellsT (World.holding Tryd.prog os ⟨#[], #[], []⟩).heap 5 (i32A winL) }
set_option maxRecDepth 100000 in
theorem t09_met (os : Os) (args : Array Value) : laidMet Tryd.prog Rows.refsPlaceRow.laid ((t09World os).forCall (fun _ _ => 0) ⟨#[], args, []⟩).memory :=
  laidMet_of_run' 8 (by kernel_rfl) (by kernel_rfl)
theorem rtab_of {W : World} (h : laidMetH Tryd.prog Rows.refsPlaceRow.laid W) : RTab W := by
  have hp : laidMet Tryd.prog Rows.refsPlaceRow.laid W := by
    rw [← Go.MakeChecks.laidMetH_plain Tryd.prog Rows.refsPlaceRow.laid W (by kernel_rfl)]
    exact h
  have e1 : (plainC (H := Unit) Rows.laid_lazaret_refs_windows).toArray = i32A winL := by kernel_rfl
  have h1 := plain_laid (g := 5) (t := 99) (d := Rows.laid_lazaret_refs_windows) hp (.head _) 4 (by kernel_rfl) (by kernel_rfl) (by kernel_rfl)
  rw [e1] at h1
  exact h1
end Go.Proofs.YtnlhhjokaekdhaaDoor.R9
