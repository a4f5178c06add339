/- The law RefsPlace. -/
import Derived.Test.YteeplfbaflldaaaDoorRf5
import Derived.Test.YteeplfbaflldaaaDoorRfb
set_option linter.unusedVariables false
set_option linter.unusedSimpArgs false
namespace Go.Proofs.YteeplfbaflldaaaDoor.R9
open Go.RowKit

end Go.Proofs.YteeplfbaflldaaaDoor.R9
