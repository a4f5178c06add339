/- A world in which layer 1's table is laid, and what a row's list says of it. -/
import Derived.Test.YtfbmabbehiicmaaDoorLaid2
import Derived.Test.YtfbmabbehiicmaaDoorUtf3
import Derived.Test.YtfbmabbehiicmaaDoorWmax
import Derived.MakeChecks
set_option linter.unusedVariables false
namespace Go.Proofs.YtfbmabbehiicmaaDoor
open Go.ChangeShapes Go.WideShapes Go.ChangeAt Go.RowKit

def accCellsT : Array Value := #[.int .u8 128, .int .u8 191, .int .u8 160, .int .u8 191, .int .u8 128, .int .u8 159, .int .u8 144, .int .u8 191, .int .u8 128, .int .u8 143, .int .u8 0, .int .u8 0, .int .u8 0, .int .u8 0, .int .u8 0, .int .u8 0, .int .u8 0, .int .u8 0, .int .u8 0, .int .u8 0, .int .u8 0, .int .u8 0, .int .u8 0, .int .u8 0, .int .u8 0, .int .u8 0, .int .u8 0, .int .u8 0, .int .u8 0, .int .u8 0, .int .u8 0, .int .u8 0]
def firstCellsT : Array Value := (Pinned.utf8FirstZ.map fun (n : Nat) => Value.int .u8 (n : Int)).toArray
def putCellsT (h : Array Obj) (g : Nat) (cs : Array Value) : Array Obj := h.modify g fun
  | .cells _ t frozen => .cells cs t frozen
  | o => o
noncomputable def t01World (os : Os) : World :=
  { World.holding Tryd.prog os ⟨#[], #[], []⟩ with heap := putCellsT (putCellsT (putCellsT (World.holding Tryd.prog os ⟨#[], #[], []⟩).heap 2 firstCellsT) 3 accCellsT) 0 leadsC }
set_option maxRecDepth 100000 in
theorem t01_met (os : Os) (args : Array Value) : laidMet Tryd.prog Rows.textsTellRow.laid ((t01World os).forCall (fun _ _ => 0) ⟨#[], args, []⟩).memory :=
  laidMet_of_run' 8 (by kernel_rfl) (by kernel_rfl)
theorem ltab_of {W : World} (h : laidMetH Tryd.prog Rows.textsTellRow.laid W) : LTab W := by
  have hp : laidMet Tryd.prog Rows.textsTellRow.laid W := by
    rw [← Go.MakeChecks.laidMetH_plain Tryd.prog Rows.textsTellRow.laid W (by kernel_rfl)]
    exact h
  exact plain_laid (t := 60) (d := Rows.laid_lazaret_texts_leads) hp (.tail _ (.head _)) 4 (by kernel_rfl) (by kernel_rfl) (by kernel_rfl)
end Go.Proofs.YtfbmabbehiicmaaDoor
