/- A world in which layer 10's tables are laid, and what a row's list says of it. -/
import Derived.Test.YteeplfbaflldaaaDoorLaid2
import Derived.Test.YteeplfbaflldaaaDoorRf1
import Derived.Test.YteeplfbaflldaaaDoorWmax
import Derived.MakeChecks
set_option linter.unusedVariables false
namespace Go.Proofs.YteeplfbaflldaaaDoor.T10
open Go.ChangeShapes Go.WideShapes Go.ChangeAt Go.RowKit R9

def accCellsT : Array Value := #[.int .u8 128, .int .u8 191, .int .u8 160, .int .u8 191, .int .u8 128, .int .u8 159, .int .u8 144, .int .u8 191, .int .u8 128, .int .u8 143, .int .u8 0, .int .u8 0, .int .u8 0, .int .u8 0, .int .u8 0, .int .u8 0, .int .u8 0, .int .u8 0, .int .u8 0, .int .u8 0, .int .u8 0, .int .u8 0, .int .u8 0, .int .u8 0, .int .u8 0, .int .u8 0, .int .u8 0, .int .u8 0, .int .u8 0, .int .u8 0, .int .u8 0, .int .u8 0]
def firstCellsT : Array Value := (Pinned.utf8FirstZ.map fun (n : Nat) => Value.int .u8 (n : Int)).toArray
def putCellsT (h : Array Obj) (g : Nat) (cs : Array Value) : Array Obj := h.modify g fun
  | .cells _ t frozen => .cells cs t frozen
  | o => o
noncomputable def t10World (os : Os) : World :=
  { World.holding Tryd.prog os ⟨#[], #[], []⟩ with heap := putCellsT (putCellsT (putCellsT (World.holding Tryd.prog os ⟨#[], #[], []⟩).heap 3 firstCellsT) 4 accCellsT) 7 (i32A winL) }
set_option maxRecDepth 100000 in
theorem t10_met (os : Os) (args : Array Value) : laidMet Tryd.prog Rows.tagsCutRow.laid ((t10World os).forCall (fun _ _ => 0) ⟨#[], args, []⟩).memory :=
  laidMet_of_run' 8 (by kernel_rfl) (by kernel_rfl)
theorem rtab_of {W : World} (h : laidMetH Tryd.prog Rows.tagsCutRow.laid W) : RTab W := by
  have hp : laidMet Tryd.prog Rows.tagsCutRow.laid W := by
    rw [← Go.MakeChecks.laidMetH_plain Tryd.prog Rows.tagsCutRow.laid W (by kernel_rfl)]
    exact h
  have e1 : (plainC (H := Unit) Rows.laid_lazaret_refs_windows).toArray = i32A winL := by kernel_rfl
  have h1 := plain_laid (g := 7) (t := 176) (d := Rows.laid_lazaret_refs_windows) hp (.tail _ (.head _)) 4 (by kernel_rfl) (by kernel_rfl) (by kernel_rfl)
  rw [e1] at h1
  exact h1
end Go.Proofs.YteeplfbaflldaaaDoor.T10
