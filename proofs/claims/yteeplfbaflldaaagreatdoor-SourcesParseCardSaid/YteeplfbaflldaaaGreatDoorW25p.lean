/- A world in which layer 25's tables are laid, and the handle of the type error, and what a row's list says of them. -/
import Derived.Test.YteeplfbaflldaaaGreatDoorLaid2
import Derived.Test.YteeplfbaflldaaaGreatDoorWmax
import Derived.Test.YteeplfbaflldaaaGreatDoorLRd25
import Derived.MakeChecks
import Derived.LaidHandle
import Derived.Stop.Joined
set_option linter.unusedVariables false
namespace Go.Proofs.YteeplfbaflldaaaGreatDoor.S25
open Go.ChangeShapes Go.WideShapes Go.ChangeAt Go.RowKit

def putC25 (h : Array Obj) (g : Nat) (cs : Array Value) : Array Obj := h.modify g fun
  | .cells _ t frozen => .cells cs t frozen
  | o => o
noncomputable def t25World (os : Os) : World :=
  { World.holding Tryz.prog os ⟨#[], #[], []⟩ with heap := putC25 (putC25 (putC25 (putC25 (putC25 (putC25 (World.holding Tryz.prog os ⟨#[], #[], []⟩).heap 3 (plainC (H := Unit) Rows.laid_math_bits_deBruijn32tab).toArray) 4 (plainC (H := Unit) Rows.laid_math_bits_deBruijn64tab).toArray) 1 (plainC (H := Unit) Rows.laid_internal_strconv_uint64pow10).toArray) 6 (plainC (H := Unit) Rows.laid_unicode_utf8_acceptRanges).toArray) 5 (plainC (H := Unit) Rows.laid_unicode_utf8_first).toArray) 0 #[.iface 77 (.agg #[.pointer (some ⟨7, 32, none⟩)])] }
set_option maxRecDepth 100000 in
theorem t25_met (os : Os) (args : Array Value) : laidMetH Tryz.prog Rows.sourcesParseRow.laid ((t25World os).forCall (fun _ _ => 0) ⟨#[], args, []⟩).memory :=
  laidMetH_of_parts (laidMet_of_run' 8 (by kernel_rfl) (by kernel_rfl)) (by kernel_rfl)
theorem et25 : Tryz.prog.globalNamed "errors.errorType" = some 0 := by kernel_rfl
theorem rt25 : (Tryz.prog.cutTypes.find? (·.1 == "internal/reflectlite.rtype")).map (·.2) = some 77 := by kernel_rfl
theorem oneRow25 : ((List.range Tryz.prog.types.size).filter fun t => Tryz.prog.rowNamed t [101, 114, 114, 111, 114]) = [32] := by kernel_rfl
theorem halves_of {W : World} (h : laidMetH Tryz.prog Rows.sourcesParseRow.laid W) : laidMet Tryz.prog (Rows.sourcesParseRow.laid.filter fun x => x.2.handleName?.isNone) W ∧ handlesMet Tryz.prog (Rows.sourcesParseRow.laid.filter fun x => x.2.handleName?.isSome) W := h
theorem handle25 {W : World} (h : laidMetH Tryz.prog Rows.sourcesParseRow.laid W) : W.cell? ⟨0, 0, none⟩ = some (.iface 77 (.agg #[.pointer (some ⟨7, 32, none⟩)])) := by
  obtain ⟨name, u, ty, e1, e2, e3, e4, e5⟩ := (halves_of h).2 ("errors.errorType", Rows.laid_errors_errorType) (List.mem_singleton.2 rfl)
  have en : name = [101, 114, 114, 111, 114] := (Option.some.inj e1).symm
  subst en
  obtain rfl := Option.some.inj (rt25.symm.trans e2)
  have hm : ty ∈ (List.range Tryz.prog.types.size).filter fun t => Tryz.prog.rowNamed t [101, 114, 114, 111, 114] := List.mem_filter.2 ⟨List.mem_range.2 e3, e4⟩
  rw [oneRow25] at hm
  obtain rfl := List.mem_singleton.1 hm
  have hh : typeHandle Tryz.prog 32 = .pointer (some ⟨7, 32, none⟩) := by kernel_rfl
  rw [hh] at e5
  simpa using World.var?_cell et25 e5 0
theorem eok_of {W : World} (h : laidMetH Tryz.prog Rows.sourcesParseRow.laid W) {m : Int} (hm : MaxOk m W) : EOk m W := ⟨hm, handle25 h⟩
theorem ptab_of {W : World} (h : laidMetH Tryz.prog Rows.sourcesParseRow.laid W) : PTab W := by
  obtain ⟨t, fr, h1⟩ := plain_laid (g := 1) (t := 110) (d := Rows.laid_internal_strconv_uint64pow10) (name := "internal/strconv.uint64pow10") (halves_of h).1 (.tail _ (.tail _ (.head _))) 4 (by kernel_rfl) (by kernel_rfl) (by kernel_rfl)
  have hg : Tryz.prog.globalNamed "internal/strconv.uint64pow10" = some 1 := by kernel_rfl
  have e1 : (plainC (H := Unit) Rows.laid_internal_strconv_uint64pow10).toArray = (Lib.pow10Tab.map fun z => Value.int .u64 z).toArray := by kernel_rfl
  unfold PTab Lib.TabIs World.var?
  rw [hg]
  simp only [Option.bind_some, h1, e1]
end Go.Proofs.YteeplfbaflldaaaGreatDoor.S25
