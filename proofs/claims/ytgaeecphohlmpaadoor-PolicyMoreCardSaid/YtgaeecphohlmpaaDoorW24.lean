/- A world in which the tables of layer 24's rows are laid. -/
import Derived.Test.YtgaeecphohlmpaaDoorW28
set_option linter.unusedVariables false
namespace Go.Proofs.YtgaeecphohlmpaaDoor
open Go.ChangeShapes Go.WideShapes Go.ChangeAt Go.RowKit

noncomputable def t24World (os : Os) : World :=
  { World.holding Tryd.prog os ⟨#[], #[], []⟩ with heap := putCellsT (putCellsT (World.holding Tryd.prog os ⟨#[], #[], []⟩).heap 2 firstCellsT) 3 accCellsT }
set_option maxRecDepth 100000 in
theorem t24_met (os : Os) (args : Array Value) : laidMet Tryd.prog Rows.policyTextRow.laid ((t24World os).forCall (fun _ _ => 0) ⟨#[], args, []⟩).memory :=
  laidMet_of_run' 8 (by kernel_rfl) (by kernel_rfl)
end Go.Proofs.YtgaeecphohlmpaaDoor
