/- The world that a law begins in has the cell of internal/bytealg.MaxLen. -/
import Derived.Test.YteeplfbaflldaaaGreatDoorMx
import Derived.Test.YteeplfbaflldaaaGreatDoorFin
namespace Go.Proofs.YteeplfbaflldaaaGreatDoor
open Go.ChangeShapes Go.WideShapes Go.ChangeAt Go.RowKit

theorem maxOk_of {W : World} (h : W.ShapedOpen Tryz.prog) : ∃ m, MaxOk m W :=
  cell_of_shapedOpen_int (g := 2) (t := 3) (zero := #[.int .i64 0]) h (of_decide_eq_true (by kernel_rfl)) (by kernel_rfl) rfl (by kernel_rfl) (by kernel_rfl) Tryz.underlying3
end Go.Proofs.YteeplfbaflldaaaGreatDoor
