/- A world in which layer 5's tables are laid, and what a row's list says of them. -/
import Derived.Test.YtnlhhjokaekdhaaDoorLaid2
import Derived.Test.YtnlhhjokaekdhaaDoorMix5
import Derived.Test.YtnlhhjokaekdhaaDoorWmax
import Derived.MakeChecks
set_option linter.unusedVariables false
namespace Go.Proofs.YtnlhhjokaekdhaaDoor.L5
open Go.ChangeShapes Go.WideShapes Go.ChangeAt Go.RowKit

def putCellsT (h : Array Obj) (g : Nat) (cs : Array Value) : Array Obj := h.modify g fun
  | .cells _ t frozen => .cells cs t frozen
  | o => o
noncomputable def t05World (os : Os) : World :=
  { World.holding Tryd.prog os ⟨#[], #[], []⟩ with heap := putCellsT (putCellsT (putCellsT (World.holding Tryd.prog os ⟨#[], #[], []⟩).heap 4 (u64A kL)) 2 (u64A f384L)) 1 (u64A f512L) }
set_option maxRecDepth 100000 in
theorem t05_met (os : Os) (args : Array Value) : laidMet Tryd.prog Rows.longsLengthRow.laid ((t05World os).forCall (fun _ _ => 0) ⟨#[], args, []⟩).memory :=
  laidMet_of_run' 8 (by kernel_rfl) (by kernel_rfl)
theorem ltab5_of {W : World} (h : laidMetH Tryd.prog Rows.longsLengthRow.laid W) : LTab5 W := by
  have hp : laidMet Tryd.prog Rows.longsLengthRow.laid W := by
    rw [← Go.MakeChecks.laidMetH_plain Tryd.prog Rows.longsLengthRow.laid W (by kernel_rfl)]
    exact h
  have e1 : (plainC (H := Unit) Rows.laid_lazaret_longs_constants).toArray = u64A kL := by kernel_rfl
  have e2 : (plainC (H := Unit) Rows.laid_lazaret_longs_first384).toArray = u64A f384L := by kernel_rfl
  have e3 : (plainC (H := Unit) Rows.laid_lazaret_longs_first512).toArray = u64A f512L := by kernel_rfl
  have h1 := plain_laid (g := 4) (t := 95) (d := Rows.laid_lazaret_longs_constants) hp (.head _) 4 (by kernel_rfl) (by kernel_rfl) (by kernel_rfl)
  have h2 := plain_laid (g := 2) (t := 62) (d := Rows.laid_lazaret_longs_first384) hp (.tail _ (.head _)) 4 (by kernel_rfl) (by kernel_rfl) (by kernel_rfl)
  have h3 := plain_laid (g := 1) (t := 62) (d := Rows.laid_lazaret_longs_first512) hp (.tail _ (.tail _ (.head _))) 4 (by kernel_rfl) (by kernel_rfl) (by kernel_rfl)
  rw [e1] at h1
  rw [e2] at h2
  rw [e3] at h3
  exact ⟨h1, h2, h3⟩
end Go.Proofs.YtnlhhjokaekdhaaDoor.L5
