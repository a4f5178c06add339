/- A world in which nothing is laid: the witness of statements whose rows lay nothing. -/
import Derived.Test.YtfbmabbehiicmaaFin
import Derived.LaidLaws
namespace Go.Proofs.Ytfbmabbehiicmaa
open Go.ChangeShapes Go.WideShapes Go.ChangeAt Go.RowKit

noncomputable def pwWorld (os : Os) : World := World.holding Try.prog os ⟨#[], #[], []⟩
theorem pw_met (os : Os) (args : Array Value) : laidMet Try.prog [] ((pwWorld os).forCall (fun _ _ => 0) ⟨#[], args, []⟩).memory :=
  laidMet_of_run' 8 (by kernel_rfl) (by kernel_rfl)
end Go.Proofs.Ytfbmabbehiicmaa
