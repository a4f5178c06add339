/- A world in which layer 11's tables are laid, and what a row's list says of it. -/
import Derived.Test.YtbpdmbmooboimaaDoorLaid2
import Derived.Test.YtbpdmbmooboimaaDoorRf1
import Derived.Test.YtbpdmbmooboimaaDoorWmax
import Derived.MakeChecks
set_option linter.unusedVariables false
namespace Go.Proofs.YtbpdmbmooboimaaDoor.R11
open Go.ChangeShapes Go.WideShapes Go.ChangeAt Go.RowKit R9

def accCellsR : Array Value := #[.int .u8 128, .int .u8 191, .int .u8 160, .int .u8 191, .int .u8 128, .int .u8 159, .int .u8 144, .int .u8 191, .int .u8 128, .int .u8 143, .int .u8 0, .int .u8 0, .int .u8 0, .int .u8 0, .int .u8 0, .int .u8 0, .int .u8 0, .int .u8 0, .int .u8 0, .int .u8 0, .int .u8 0, .int .u8 0, .int .u8 0, .int .u8 0, .int .u8 0, .int .u8 0, .int .u8 0, .int .u8 0, .int .u8 0, .int .u8 0, .int .u8 0, .int .u8 0]
def firstCellsR : Array Value := (Pinned.utf8FirstZ.map fun (n : Nat) => Value.int .u8 (n : Int)).toArray
def putCellsR (h : Array Obj) (g : Nat) (cs : Array Value) : Array Obj := h.modify g fun
  | .cells _ t frozen => .cells cs t frozen
  | o => o
noncomputable def t11World (os : Os) : World :=
  { World.holding Tryd.prog os ⟨#[], #[], []⟩ with heap := putCellsR (putCellsR (putCellsR (World.holding Tryd.prog os ⟨#[], #[], []⟩).heap 2 firstCellsR) 3 accCellsR) 1 (i32A winL) }
set_option maxRecDepth 100000 in
theorem t11_met (os : Os) (args : Array Value) : laidMet Tryd.prog Rows.rawsTellRow.laid ((t11World os).forCall (fun _ _ => 0) ⟨#[], args, []⟩).memory :=
  laidMet_of_run' 8 (by kernel_rfl) (by kernel_rfl)
theorem rtab_of {W : World} (h : laidMetH Tryd.prog Rows.rawsTellRow.laid W) : RTab W := by
  have hp : laidMet Tryd.prog Rows.rawsTellRow.laid W := by
    rw [← Go.MakeChecks.laidMetH_plain Tryd.prog Rows.rawsTellRow.laid W (by kernel_rfl)]
    exact h
  have e1 : (plainC (H := Unit) Rows.laid_lazaret_refs_windows).toArray = i32A winL := by kernel_rfl
  have h1 := plain_laid (g := 1) (t := 132) (d := Rows.laid_lazaret_refs_windows) hp (.tail _ (.head _)) 4 (by kernel_rfl) (by kernel_rfl) (by kernel_rfl)
  rw [e1] at h1
  exact h1
end Go.Proofs.YtbpdmbmooboimaaDoor.R11
