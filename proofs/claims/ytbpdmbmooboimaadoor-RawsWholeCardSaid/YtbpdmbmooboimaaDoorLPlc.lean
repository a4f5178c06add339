/- The law RefsPlace. -/
import Derived.Test.YtbpdmbmooboimaaDoorRf5
import Derived.Test.YtbpdmbmooboimaaDoorRfb
set_option linter.unusedVariables false
set_option linter.unusedSimpArgs false
namespace Go.Proofs.YtbpdmbmooboimaaDoor.R9
open Go.RowKit

end Go.Proofs.YtbpdmbmooboimaaDoor.R9
