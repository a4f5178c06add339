/- The constants of layer 5 are the roots of the primes. -/
import Derived.Test.YtnlhhjokaekdhaaDoorRts4
import Derived.Test.YtnlhhjokaekdhaaDoorMix5
set_option linter.unusedVariables false
namespace Go.Proofs.YtnlhhjokaekdhaaDoor.R4
open Go.RowKit

theorem p80a : (prAt 407).length = 79 := by decide +kernel
theorem p80b : (prAt 408).length = 80 := by decide +kernel
theorem roots5_three : (prAt 408).map (fun p => rootV p.toNat 3) = L5.kL := by decide +kernel
theorem p8a : (prAt 17).length = 7 := by decide +kernel
theorem p8b : (prAt 18).length = 8 := by decide +kernel
theorem p16a : (prAt 51).length = 15 := by decide +kernel
theorem p16b : (prAt 52).length = 16 := by decide +kernel
theorem roots5_two : (prAt 18).map (fun p => rootV p.toNat 2) = L5.f512L := by decide +kernel
theorem roots5_next : ((prAt 52).drop 8).map (fun p => rootV p.toNat 2) = L5.f384L := by decide +kernel
end Go.Proofs.YtnlhhjokaekdhaaDoor.R4
