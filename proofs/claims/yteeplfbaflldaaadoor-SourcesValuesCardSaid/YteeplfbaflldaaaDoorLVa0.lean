/- For the law SourcesValues: a byte made a text; what is read. Made by tools/gen/lva25.py. -/
import Derived.Test.YteeplfbaflldaaaDoorLRd25
import Derived.Test.YteeplfbaflldaaaDoorSrcZ
import Derived.Deep.DeepCutAuto
import Derived.StillTailTactics
set_option linter.unusedVariables false
set_option linter.unusedSimpArgs false
namespace Go.Proofs.YteeplfbaflldaaaDoor.S25
open Go.RowKit Go.Extern.Stop Go.Stop Go.Extern T10

theorem conv_at (W : World) (g : Nat) (x : UInt8) (h : W.heap[g]? = some (.cells #[.int .u8 (x.toNat : Int)] 5 (0, 0))) : (convert 47 9 (.slice (some ⟨g, 0, none⟩) 1 1)).run Tryd.prog W = .ok (.string ⟨#[x]⟩) W := by
  refine run_convert_bytes_back _ 47 9 5 ⟨g, 0, none⟩ 1 [x] Tryd.underlying47 Tryd.underlying5 Tryd.underlying9 fun j hj => ?_
  have hj0 : j = 0 := by simp at hj; omega
  subst hj0
  show W.cell? ⟨g, 0, none⟩ = _
  rw [Lib.cell_of_heap h]; rfl
theorem parse_parts_of (l : List UInt8) : ∃ (x : SrcL) (f : Int), parseV (parseL l) = .tuple #[srcW x, .int .i64 f] ∧ (parseL l = none → f = 250) := by
  cases h : parseL l with
  | none => exact ⟨zL, 250, rfl, fun _ => rfl⟩
  | some x => exact ⟨x, 0, rfl, fun h => by cases h⟩
end Go.Proofs.YteeplfbaflldaaaDoor.S25
