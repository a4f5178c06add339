/- The world that a law begins in has the cell of internal/bytealg.MaxLen. -/
import Derived.Test.YtnlhhjokaekdhaaDoorMx
import Derived.Test.YtnlhhjokaekdhaaDoorFin
namespace Go.Proofs.YtnlhhjokaekdhaaDoor
open Go.ChangeShapes Go.WideShapes Go.ChangeAt Go.RowKit

end Go.Proofs.YtnlhhjokaekdhaaDoor
