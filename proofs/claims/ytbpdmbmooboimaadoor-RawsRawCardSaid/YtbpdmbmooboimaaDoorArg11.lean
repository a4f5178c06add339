/- An argument that is a lazaretlaw11.Ask: as the walks want it. -/
import Derived.Test.YtbpdmbmooboimaaDoorFin
import Derived.Lib.SmallJoins
set_option linter.unusedVariables false
namespace Go.Proofs.YtbpdmbmooboimaaDoor.R11
open Go.ChangeShapes Go.WideShapes Go.ChangeAt Go.RowKit Go.Deep

set_option maxRecDepth 100000 in
theorem ask_in {H : Type} {enc : TypeId × Value → H} {W : World} {v : Value} {d : DataW H} {p : List MemPlace} {base : Nat}
    (hv : Value.okWide Tryd.prog W .any base 33 v) (h : DataW.Trod enc Tryd.prog W 0 (fun _ => true) true 33 v d p) :
    ∃ (st : Int) (nm : ByteArray), v = .agg #[.int .i64 st, .string nm] ∧ nm.size ≤ maxLen := by
  obtain ⟨v0, v1, y0, y1, n, rfl, _, _, h0, h1⟩ := Go.Joins.open_agg2 Tryd.underlying33 (by kernel_rfl) (by kernel_rfl) hv h
  obtain ⟨st, hst, _, _⟩ := DataW.trod_int Tryd.underlying3 h0
  obtain ⟨nm, hnm, _, hsz⟩ := DataW.trod_string Tryd.underlying9 h1
  simp only [List.cons.injEq, and_true] at hst hnm
  subst hst hnm
  exact ⟨st, nm, rfl, hsz⟩
end Go.Proofs.YtbpdmbmooboimaaDoor.R11
