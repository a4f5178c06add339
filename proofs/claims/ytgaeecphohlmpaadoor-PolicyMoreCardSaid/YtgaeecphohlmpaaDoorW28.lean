/- A world in which layer 28's table is laid, and what a row's list says of it. -/
import Derived.Test.YtgaeecphohlmpaaDoorLaid
import Derived.Test.YtgaeecphohlmpaaDoorWmax
import Derived.Test.YtgaeecphohlmpaaDoorChf
import Derived.MakeChecks
set_option linter.unusedVariables false
namespace Go.Proofs.YtgaeecphohlmpaaDoor
open Go.ChangeShapes Go.WideShapes Go.ChangeAt Go.RowKit

def accCellsT : Array Value := #[.int .u8 128, .int .u8 191, .int .u8 160, .int .u8 191, .int .u8 128, .int .u8 159, .int .u8 144, .int .u8 191, .int .u8 128, .int .u8 143, .int .u8 0, .int .u8 0, .int .u8 0, .int .u8 0, .int .u8 0, .int .u8 0, .int .u8 0, .int .u8 0, .int .u8 0, .int .u8 0, .int .u8 0, .int .u8 0, .int .u8 0, .int .u8 0, .int .u8 0, .int .u8 0, .int .u8 0, .int .u8 0, .int .u8 0, .int .u8 0, .int .u8 0, .int .u8 0]
def firstCellsT : Array Value := (Pinned.utf8FirstZ.map fun (n : Nat) => Value.int .u8 (n : Int)).toArray
def putCellsT (h : Array Obj) (g : Nat) (cs : Array Value) : Array Obj := h.modify g fun
  | .cells _ t frozen => .cells cs t frozen
  | o => o
noncomputable def t28World (os : Os) : World :=
  { World.holding Tryd.prog os ⟨#[], #[], []⟩ with heap := putCellsT (putCellsT (putCellsT (World.holding Tryd.prog os ⟨#[], #[], []⟩).heap 2 firstCellsT) 3 accCellsT) 0 effC }
set_option maxRecDepth 100000 in
theorem t28_met (os : Os) (args : Array Value) : laidMet Tryd.prog Rows.chainsOrderRow.laid ((t28World os).forCall (fun _ _ => 0) ⟨#[], args, []⟩).memory :=
  laidMet_of_run' 8 (by kernel_rfl) (by kernel_rfl)
theorem eff_tab {H : Type} : (Rows.laid_lazaret_chains_effective : DataW H) = textTab effL := by rfl
theorem etab_of {W : World} (h : laidMetH Tryd.prog Rows.chainsOrderRow.laid W) : ETab W := by
  have hp : laidMet Tryd.prog Rows.chainsOrderRow.laid W := by
    rw [← Go.MakeChecks.laidMetH_plain Tryd.prog Rows.chainsOrderRow.laid W (by kernel_rfl)]
    exact h
  exact texts_laid (name := "lazaret/chains.effective") (l := effL) (t := 63) (e := 9) (n := 17) hp (by rw [← eff_tab]; first | exact .head _ | exact .tail _ (.head _) | exact .tail _ (.tail _ (.head _))) (by kernel_rfl) (by kernel_rfl) Tryd.underlying63 Tryd.underlying9 (by kernel_rfl) (by kernel_rfl)
end Go.Proofs.YtgaeecphohlmpaaDoor
