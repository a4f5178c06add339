/- A world in which layer 4's tables are laid, and what a row's list says of them. -/
import Derived.Test.YtnlhhjokaekdhaaDoorLaid2
import Derived.Test.YtnlhhjokaekdhaaDoorMix4
import Derived.Test.YtnlhhjokaekdhaaDoorWmax
import Derived.MakeChecks
set_option linter.unusedVariables false
namespace Go.Proofs.YtnlhhjokaekdhaaDoor
open Go.ChangeShapes Go.WideShapes Go.ChangeAt Go.RowKit

def putCellsT (h : Array Obj) (g : Nat) (cs : Array Value) : Array Obj := h.modify g fun
  | .cells _ t frozen => .cells cs t frozen
  | o => o
noncomputable def t04World (os : Os) : World :=
  { World.holding Tryd.prog os ⟨#[], #[], []⟩ with heap := putCellsT (putCellsT (World.holding Tryd.prog os ⟨#[], #[], []⟩).heap 3 (u32A kL)) 0 (u32A fL) }
set_option maxRecDepth 100000 in
theorem t04_met (os : Os) (args : Array Value) : laidMet Tryd.prog Rows.digestLengthRow.laid ((t04World os).forCall (fun _ _ => 0) ⟨#[], args, []⟩).memory :=
  laidMet_of_run' 8 (by kernel_rfl) (by kernel_rfl)
theorem dtab_of {W : World} (h : laidMetH Tryd.prog Rows.digestLengthRow.laid W) : DTab W := by
  have hp : laidMet Tryd.prog Rows.digestLengthRow.laid W := by
    rw [← Go.MakeChecks.laidMetH_plain Tryd.prog Rows.digestLengthRow.laid W (by kernel_rfl)]
    exact h
  have e1 : (plainC (H := Unit) Rows.laid_lazaret_digest_constants).toArray = u32A kL := by kernel_rfl
  have e2 : (plainC (H := Unit) Rows.laid_lazaret_digest_first).toArray = u32A fL := by kernel_rfl
  have h1 := plain_laid (g := 3) (t := 74) (d := Rows.laid_lazaret_digest_constants) hp (.head _) 4 (by kernel_rfl) (by kernel_rfl) (by kernel_rfl)
  have h2 := plain_laid (g := 0) (t := 44) (d := Rows.laid_lazaret_digest_first) hp (.tail _ (.head _)) 4 (by kernel_rfl) (by kernel_rfl) (by kernel_rfl)
  rw [e1] at h1
  rw [e2] at h2
  exact ⟨h1, h2⟩
end Go.Proofs.YtnlhhjokaekdhaaDoor
