/- The constants of the layer are the roots of the primes. -/
import Derived.Test.YtnlhhjokaekdhaaDoorRoot4
import Derived.Test.YtnlhhjokaekdhaaDoorPrm4
import Derived.Test.YtnlhhjokaekdhaaDoorMix4
set_option linter.unusedVariables false
namespace Go.Proofs.YtnlhhjokaekdhaaDoor.R4
open Go.RowKit

/-- Root's answer. -/
def rootV (p d : Nat) : Int := (rootN p d 69 : Int) % 18446744073709551616
theorem roots_three : (prAt 310).map (fun p => rootV p.toNat 3 / 4294967296) = kL := by decide +kernel
theorem roots_two : ((prAt 310).take 8).map (fun p => rootV p.toNat 2 / 4294967296) = fL := by decide +kernel
end Go.Proofs.YtnlhhjokaekdhaaDoor.R4
