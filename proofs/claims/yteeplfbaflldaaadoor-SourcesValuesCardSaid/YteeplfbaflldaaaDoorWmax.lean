/- The world that a law begins in has the cell of internal/bytealg.MaxLen. -/
import Derived.Test.YteeplfbaflldaaaDoorMx
import Derived.Test.YteeplfbaflldaaaDoorFin
namespace Go.Proofs.YteeplfbaflldaaaDoor
open Go.ChangeShapes Go.WideShapes Go.ChangeAt Go.RowKit

theorem maxOk_of {W : World} (h : W.ShapedOpen Tryd.prog) : ∃ m, MaxOk m W :=
  cell_of_shapedOpen_int (g := 2) (t := 3) (zero := #[.int .i64 0]) h (of_decide_eq_true (by kernel_rfl)) (by kernel_rfl) rfl (by kernel_rfl) (by kernel_rfl) Tryd.underlying3
end Go.Proofs.YteeplfbaflldaaaDoor
