/- A world in which the tables of RefsNumbers are laid, and what its row's list says of them. -/
import Derived.Test.YtnlhhjokaekdhaaDoorW09
import Derived.Test.YtnlhhjokaekdhaaDoorRn1
import Derived.Test.YtnlhhjokaekdhaaDoorShelf
set_option linter.unusedVariables false
namespace Go.Proofs.YtnlhhjokaekdhaaDoor.R9
open Go.ChangeShapes Go.WideShapes Go.ChangeAt Go.RowKit

noncomputable def t09nWorld (os : Os) : World :=
  { World.holding Tryd.prog os ⟨#[], #[], []⟩ with heap := putCellsT (putCellsT (putCellsT (putCellsT (World.holding Tryd.prog os ⟨#[], #[], []⟩).heap 5 (i32A winL)) 7 (plainC (H := Unit) Rows.laid_math_bits_deBruijn32tab).toArray) 8 (plainC (H := Unit) Rows.laid_math_bits_deBruijn64tab).toArray) 6 (plainC (H := Unit) Rows.laid_internal_strconv_uint64pow10).toArray }
set_option maxRecDepth 100000 in
theorem t09n_met (os : Os) (args : Array Value) : laidMet Tryd.prog Rows.refsNumbersRow.laid ((t09nWorld os).forCall (fun _ _ => 0) ⟨#[], args, []⟩).memory :=
  laidMet_of_run' 8 (by kernel_rfl) (by kernel_rfl)
theorem tabs_of {W : World} (h : laidMetH Tryd.prog Rows.refsNumbersRow.laid W) : RTab W ∧ ZTab W ∧ Lib.TabIs Tryd.prog W "internal/strconv.uint64pow10" .u64 Lib.pow10Tab := by
  have hp : laidMet Tryd.prog Rows.refsNumbersRow.laid W := by
    rw [← Go.MakeChecks.laidMetH_plain Tryd.prog Rows.refsNumbersRow.laid W (by kernel_rfl)]
    exact h
  refine ⟨?_, ?_, ?_⟩
  · have e1 : (plainC (H := Unit) Rows.laid_lazaret_refs_windows).toArray = i32A winL := by kernel_rfl
    have h1 := plain_laid (g := 5) (t := 99) (d := Rows.laid_lazaret_refs_windows) hp (.tail _ (.tail _ (.tail _ (.head _)))) 4 (by kernel_rfl) (by kernel_rfl) (by kernel_rfl)
    rw [e1] at h1
    exact h1
  · obtain ⟨t, fr, h1⟩ := plain_laid (g := 8) (t := 108) (d := Rows.laid_math_bits_deBruijn64tab) hp (.tail _ (.head _)) 4 (by kernel_rfl) (by kernel_rfl) (by kernel_rfl)
    refine ⟨?_, (Array.getElem?_eq_some_iff.1 h1).1⟩
    rw [Lib.cell_of_heap h1]
    kernel_rfl
  · obtain ⟨t, fr, h1⟩ := plain_laid (g := 6) (t := 102) (d := Rows.laid_internal_strconv_uint64pow10) hp (.tail _ (.tail _ (.head _))) 4 (by kernel_rfl) (by kernel_rfl) (by kernel_rfl)
    have hg : Tryd.prog.globalNamed "internal/strconv.uint64pow10" = some 6 := by kernel_rfl
    have e1 : (plainC (H := Unit) Rows.laid_internal_strconv_uint64pow10).toArray = (Lib.pow10Tab.map fun z => Value.int .u64 z).toArray := by kernel_rfl
    unfold Lib.TabIs World.var?
    rw [hg]
    simp only [Option.bind_some, h1, e1]
end Go.Proofs.YtnlhhjokaekdhaaDoor.R9
