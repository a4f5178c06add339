/- A world in which layer 13's tables are laid, and what a row's list says of them. -/
import Derived.Test.YthgecembedjnaaaDoorLaid
import Derived.Test.YthgecembedjnaaaDoorKinds
import Derived.Test.YthgecembedjnaaaDoorW02
import Derived.MakeChecks
set_option linter.unusedVariables false
namespace Go.Proofs.YthgecembedjnaaaDoor
open Go.ChangeShapes Go.WideShapes Go.ChangeAt Go.RowKit

noncomputable def ktWorld (os : Os) : World :=
  { World.holding Tryd.prog os ⟨#[], #[], []⟩ with heap := putCells (putCells (putCells (World.holding Tryd.prog os ⟨#[], #[], []⟩).heap 1 specialC) 0 scopeC) 2 stateC }
set_option maxRecDepth 100000 in
theorem kt_met (os : Os) (args : Array Value) : laidMet Tryd.prog Rows.kindsTellRow.laid ((ktWorld os).forCall (fun _ _ => 0) ⟨#[], args, []⟩).memory :=
  laidMet_of_run' 8 (by kernel_rfl) (by kernel_rfl)

theorem special_tab {H : Type} : (Rows.laid_lazaret_kinds_specials : DataW H) = textTab [special0B, special1B, special2B] := by rfl
theorem scope_tab {H : Type} : (Rows.laid_lazaret_kinds_scopes : DataW H) = textTab [scope0B, scope1B, scope2B, scope3B] := by rfl
theorem state_tab {H : Type} : (Rows.laid_lazaret_kinds_states : DataW H) = textTab [state0B, state1B, state2B, state3B, state4B] := by rfl

theorem ktabs_of {W : World} (h : laidMetH Tryd.prog Rows.kindsTellRow.laid W) : KTabs W := by
  have hp : laidMet Tryd.prog Rows.kindsTellRow.laid W := by
    rw [← Go.MakeChecks.laidMetH_plain Tryd.prog Rows.kindsTellRow.laid W (by kernel_rfl)]
    exact h
  refine ⟨?_, ?_, ?_⟩
  · exact texts_laid (l := [special0B, special1B, special2B]) (t := 61) (e := 9) (n := 3) hp (by rw [← special_tab]; exact .head _) (by kernel_rfl) (by kernel_rfl) Tryd.underlying61 Tryd.underlying9 (by kernel_rfl) (by kernel_rfl)
  · exact texts_laid (l := [scope0B, scope1B, scope2B, scope3B]) (t := 59) (e := 9) (n := 4) hp (by rw [← scope_tab]; exact .tail _ (.head _)) (by kernel_rfl) (by kernel_rfl) Tryd.underlying59 Tryd.underlying9 (by kernel_rfl) (by kernel_rfl)
  · exact texts_laid (l := [state0B, state1B, state2B, state3B, state4B]) (t := 62) (e := 9) (n := 5) hp (by rw [← state_tab]; exact .tail _ (.tail _ (.head _))) (by kernel_rfl) (by kernel_rfl) Tryd.underlying62 Tryd.underlying9 (by kernel_rfl) (by kernel_rfl)
end Go.Proofs.YthgecembedjnaaaDoor
