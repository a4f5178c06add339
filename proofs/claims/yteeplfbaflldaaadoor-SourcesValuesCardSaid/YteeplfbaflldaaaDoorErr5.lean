/- errors.As at a target of type *sources.fault: closed facts on the model's entries for internal/reflectlite. errors.As at a target of type *sources.fault: errors.as. errors.As at a target of type *sources.fault: errors.as at a joined error whose first one is a fault. errors.As at a target of type *sources.fault: errors.As itself, by what errors.as does at the error. errors.Join. -/
import Derived.Test.YteeplfbaflldaaaDoorSrc2
import Derived.WalkKit
import Derived.LaidEql
import Derived.Stop.Asserts
import Derived.RowKitTokens
set_option linter.unusedVariables false
set_option linter.unusedSimpArgs false
namespace Go.Proofs.YteeplfbaflldaaaDoor.S25
open Go.RowKit Go.Extern.Stop Go.Stop Go.Extern T10

theorem as_nil (t : Value) (w : World) :
    Calls Tryd.prog 35 #[.nilIface, t] w fun e w' => e = .returned (.bool false) ∧ w' = w := by
  go_enter Tryd.func35, Tryd.ntmps35
  go_wp2
  go_ret
  exact ⟨rfl, rfl⟩
theorem valueOfP (t : Addr) (w : World) : (ReflectliteValue.unpack (.iface 74 (.pointer (some t)))).run Tryd.prog w
    = .ok (.agg #[.pointer (some ⟨8, 74, none⟩), .pointer (some ⟨w.heap.size, 0, none⟩), .int .u64 150]) (w.alloc (.cells #[.pointer (some t)] 74)) := by kernel_rfl
theorem typeP (a : Addr) (w : World) : (ReflectliteValue.methodAny (ReflectliteValue.valueError "reflectlite.Value.Type" 0) (fun t _ _ _ => ReflectliteType.toType t) #[.agg #[.pointer (some ⟨8, 74, none⟩), .pointer (some a), .int .u64 150]]).run Tryd.prog w
    = .ok (.iface 118 (.agg #[.pointer (some ⟨8, 74, none⟩)])) w := by kernel_rfl
theorem methodKind (h : Value) (w : World) : (Go.method 303 118 (.agg #[h]) "Kind").run Tryd.prog w = .ok (145, h) w := by kernel_rfl
theorem kindP (w : World) : ((ReflectliteType.abiMethod fun t => Functor.map (fun a : Nat => Value.int IntKind.u8 (a : Int)) (Rtype.kind t)) #[.pointer (some ⟨8, 74, none⟩)]).run Tryd.prog w = .ok (.int .u8 22) w := by kernel_rfl
theorem kindF (w : World) : ((ReflectliteType.abiMethod fun t => Functor.map (fun a : Nat => Value.int IntKind.u8 (a : Int)) (Rtype.kind t)) #[.pointer (some ⟨8, 72, none⟩)]).run Tryd.prog w = .ok (.int .u8 25) w := by kernel_rfl
theorem methodElem (h : Value) (w : World) : (Go.method 303 118 (.agg #[h]) "Elem").run Tryd.prog w = .ok (156, .agg #[h]) w := by kernel_rfl
theorem methodImplements (h : Value) (w : World) : (Go.method 303 118 (.agg #[h]) "Implements").run Tryd.prog w = .ok (157, .agg #[h]) w := by kernel_rfl
theorem methodAssignableTo (h : Value) (w : World) : (Go.method 303 118 (.agg #[h]) "AssignableTo").run Tryd.prog w = .ok (154, .agg #[h]) w := by kernel_rfl
theorem elemP (w : World) : (ReflectliteType.method ReflectliteType.elem #[.agg #[.pointer (some ⟨8, 74, none⟩)]]).run Tryd.prog w = .ok (.iface 118 (.agg #[.pointer (some ⟨8, 72, none⟩)])) w := by kernel_rfl
theorem implementsF (w : World) : (ReflectliteType.relation "Implements" ReflectliteType.implements_ #[.agg #[.pointer (some ⟨8, 72, none⟩)], .iface 118 (.agg #[.pointer (some ⟨8, 68, none⟩)])]).run Tryd.prog w = .ok (.bool true) w := by kernel_rfl
theorem typeOfF (v : Value) (w : World) : (ReflectliteType.typeOf #[.iface 72 v]).run Tryd.prog w = .ok (.iface 118 (.agg #[.pointer (some ⟨8, 72, none⟩)])) w := by kernel_rfl
theorem typeOfJ (v : Value) (w : World) : (ReflectliteType.typeOf #[.iface 147 v]).run Tryd.prog w = .ok (.iface 118 (.agg #[.pointer (some ⟨8, 147, none⟩)])) w := by kernel_rfl
theorem assignF (w : World) : (ReflectliteType.relation "AssignableTo" ReflectliteType.assignableTo #[.agg #[.pointer (some ⟨8, 72, none⟩)], .iface 118 (.agg #[.pointer (some ⟨8, 72, none⟩)])]).run Tryd.prog w = .ok (.bool true) w := by kernel_rfl
theorem assignJ (w : World) : (ReflectliteType.relation "AssignableTo" ReflectliteType.assignableTo #[.agg #[.pointer (some ⟨8, 147, none⟩)], .iface 118 (.agg #[.pointer (some ⟨8, 72, none⟩)])]).run Tryd.prog w = .ok (.bool false) w := by kernel_rfl
theorem valueOfF (a b : ByteArray) (w : World) : (ReflectliteValue.unpack (.iface 72 (.agg #[.string a, .string b]))).run Tryd.prog w
    = .ok (.agg #[.pointer (some ⟨8, 72, none⟩), .pointer (some ⟨w.heap.size, 0, none⟩), .int .u64 153]) (w.alloc (.cells #[.string a, .string b] 72)) := by kernel_rfl
theorem partsP (a : Addr) (w : World) : (ReflectliteValue.parts (.agg #[.pointer (some ⟨8, 74, none⟩), .pointer (some a), .int .u64 150])).run Tryd.prog w = .ok (some (74, a, 150)) w := by kernel_rfl
theorem rlm (z : Sem Value) (f : TypeId → Addr → Nat → Nat → Sem Value) (v : Value) :
    ReflectliteValue.method z f #[v] = (do match ← ReflectliteValue.parts v with | none => z | some (t, a, fl) => f t a fl (fl % 32)) := rfl
theorem isNilP (a p : Addr) (W : World) (ha : W.cell? a = some (.pointer (some p))) :
    (ReflectliteValue.method (ReflectliteValue.valueError "reflectlite.Value.IsNil" 0) ReflectliteValue.isNil #[.agg #[.pointer (some ⟨8, 74, none⟩), .pointer (some a), .int .u64 150]]).run Tryd.prog W = .ok (.bool false) W := by
  rw [rlm]
  simp only [Sem.run_bind, partsP, Result.andThen]
  simp [ReflectliteValue.isNil, loadVar, isAgg, underlying, Tryd.underlying74, ha, Result.andThen]
theorem elemOfP (w : World) : (Rtype.elem? 74).run Tryd.prog w = .ok (some 72) w := by kernel_rfl
theorem mkF (p : Addr) (w : World) : (ReflectliteValue.mk 72 p ReflectliteValue.flagAddr).run Tryd.prog w = .ok (.agg #[.pointer (some ⟨8, 72, none⟩), .pointer (some p), .int .u64 409]) w := by kernel_rfl
theorem elemVP (a p : Addr) (W : World) (ha : W.cell? a = some (.pointer (some p))) :
    (ReflectliteValue.method (ReflectliteValue.valueError "reflectlite.Value.Elem" 0) ReflectliteValue.elem #[.agg #[.pointer (some ⟨8, 74, none⟩), .pointer (some a), .int .u64 150]]).run Tryd.prog W
      = .ok (.agg #[.pointer (some ⟨8, 72, none⟩), .pointer (some p), .int .u64 409]) W := by
  rw [rlm]
  simp only [Sem.run_bind, partsP, Result.andThen]
  simp [ReflectliteValue.elem, loadVar, isAgg, underlying, Tryd.underlying74, ha, Result.andThen, elemOfP, mkF]
theorem partsFa (a : Addr) (w : World) : (ReflectliteValue.parts (.agg #[.pointer (some ⟨8, 72, none⟩), .pointer (some a), .int .u64 409])).run Tryd.prog w = .ok (some (72, a, 409)) w := by kernel_rfl
theorem partsF (a : Addr) (w : World) : (ReflectliteValue.parts (.agg #[.pointer (some ⟨8, 72, none⟩), .pointer (some a), .int .u64 153])).run Tryd.prog w = .ok (some (72, a, 153)) w := by kernel_rfl
theorem directF (w : World) : (Rtype.directlyAssignable 72 72).run Tryd.prog w = .ok true w := by kernel_rfl
end Go.Proofs.YteeplfbaflldaaaDoor.S25
set_option linter.unusedVariables false
set_option linter.unusedSimpArgs false
namespace Go.Proofs.YteeplfbaflldaaaDoor.S25
open Go.RowKit Go.Extern.Stop Go.Stop Go.Extern T10

theorem rls (v x : Value) : ReflectliteValue.set #[v, x] = (do
    let (some (dst, a, fl), some (src, b, _)) := (← ReflectliteValue.parts v, ← ReflectliteValue.parts x)
      | unsupported (.noEntry "extern/(internal/reflectlite.Value).Set.zeroValue")
    if fl / ReflectliteValue.flagAddr % 2 == 0 then unsupported (.noEntry "extern/(internal/reflectlite.Value).Set.unaddressable")
    let val ← loadVar src b
    if ← Rtype.directlyAssignable dst src then storeVar dst a val
    else if ← Rtype.implements dst src then
      if (← Rtype.kind src) == 20 then
        match val with
        | .nilIface => unsupported (.noEntry "extern/reflectlite: a nil value of one interface type handed on as a value of another")
        | _ => storeVar dst a val
      else storeVar dst a (.iface src val)
    else panicString ("reflectlite.Set: value of type " ++ (← Rtype.spelt src) ++ " is not assignable to type " ++ (← Rtype.spelt dst))
    pure (.tuple #[])) := rfl
theorem isAggF (w : World) : (isAgg 72).run Tryd.prog w = .ok true w := by kernel_rfl
theorem sizeF (w : World) : (sizeOf 72).run Tryd.prog w = .ok 2 w := by kernel_rfl
theorem setF (t g : Nat) (x y : ByteArray) (o0 o1 : Value) (W : World) (h0 : W.cell? ⟨g, 0, none⟩ = some (.string x)) (h1 : W.cell? ⟨g, 1, none⟩ = some (.string y)) (ht0 : W.cell? ⟨t, 0, none⟩ = some o0) (ht1 : W.cell? ⟨t, 1, none⟩ = some o1) (hf0 : W.frozen? ⟨t, 0, none⟩ = false) (hf1 : W.frozen? ⟨t, 1, none⟩ = false) :
    (ReflectliteValue.set #[.agg #[.pointer (some ⟨8, 72, none⟩), .pointer (some ⟨t, 0, none⟩), .int .u64 409], .agg #[.pointer (some ⟨8, 72, none⟩), .pointer (some ⟨g, 0, none⟩), .int .u64 153]]).run Tryd.prog W
      = .ok (.tuple #[]) ((W.setCell ⟨t, 0, none⟩ (.string x)).setCell ⟨t, 1, none⟩ (.string y)) := by
  have hc : ((W.setCell ⟨t, 0, none⟩ (.string x)).cell? ⟨t, 1, none⟩) = some o1 := by
    rw [World.cell?_setCell_other _ _ _ _ (by simp)]
    exact ht1
  have hfz : ((W.setCell ⟨t, 0, none⟩ (.string x)).frozen? ⟨t, 1, none⟩) = false := by
    rw [World.frozen?_setCell]
    exact hf1
  rw [rls]
  simp only [Sem.run_bind, partsFa, partsF, Result.andThen]
  simp [ReflectliteValue.flagAddr, loadVar, isAggF, sizeF, loadCells, loadCellsFrom, h0, h1, Result.andThen, directF, storeVar, Value.cells, storeCells, Addr.add]
  rw [run_store Tryd.prog W ⟨t, 0, none⟩ _ _ (by rfl)]
  simp [ht0, hf0]
  rw [run_store Tryd.prog _ ⟨t, 1, none⟩ _ _ (by rfl)]
  simp [hc, hfz]
set_option maxHeartbeats 4000000 in
set_option maxRecDepth 100000 in
theorem as_fault (a b : ByteArray) (t va : Nat) (tgt o0 o1 : Value) (W : World) (hv : W.cell? ⟨va, 0, none⟩ = some (.pointer (some ⟨t, 0, none⟩))) (ht0 : W.cell? ⟨t, 0, none⟩ = some o0) (ht1 : W.cell? ⟨t, 1, none⟩ = some o1) (hf0 : W.frozen? ⟨t, 0, none⟩ = false) (hf1 : W.frozen? ⟨t, 1, none⟩ = false) :
    Calls Tryd.prog 57 #[.iface 72 (.agg #[.string a, .string b]), tgt, .agg #[.pointer (some ⟨8, 74, none⟩), .pointer (some ⟨va, 0, none⟩), .int .u64 150], .iface 118 (.agg #[.pointer (some ⟨8, 72, none⟩)])] W fun e w' => e = .returned (.bool true) ∧ ∀ B, B ≤ t → B ≤ W.heap.size → Below B W w' := by
  have hTO := @run_callFunc_extern Tryd.prog 75 _ ReflectliteType.typeOf Tryd.func75 (by kernel_rfl) (by kernel_rfl) (by kernel_rfl) (by kernel_rfl)
  have hAS := @run_callFunc_extern Tryd.prog 154 _ (ReflectliteType.relation "AssignableTo" ReflectliteType.assignableTo) Tryd.func154 (by kernel_rfl) (by kernel_rfl) (by kernel_rfl) (by kernel_rfl)
  have hEL := @run_callFunc_extern Tryd.prog 76 _ (ReflectliteValue.method (ReflectliteValue.valueError "reflectlite.Value.Elem" 0) ReflectliteValue.elem) Tryd.func76 (by kernel_rfl) (by kernel_rfl) (by kernel_rfl) (by kernel_rfl)
  have hVO := @run_callFunc_extern Tryd.prog 54 _ (fun args => ReflectliteValue.unpack (args.getD 0 (.tuple #[]))) Tryd.func54 (by kernel_rfl) (by kernel_rfl) (by kernel_rfl) (by kernel_rfl)
  have hST := @run_callFunc_extern Tryd.prog 77 _ ReflectliteValue.set Tryd.func77 (by kernel_rfl) (by kernel_rfl) (by kernel_rfl) (by kernel_rfl)
  obtain ⟨W1, hW1⟩ : ∃ W1, W1 = W.alloc (.cells #[.pointer (some ⟨8, 74, none⟩), .pointer (some ⟨va, 0, none⟩), .int .u64 150] 91) := ⟨_, rfl⟩
  have htl := World.block_lt_of_cell? W _ ht0
  have hvl := World.block_lt_of_cell? W _ hv
  simp only [] at htl hvl
  have B1 : Below W.heap.size W W1 := by rw [hW1]; exact (Below.refl _ W).alloc (Nat.le_refl _) _
  have hv1 := (B1.cell (p := ⟨va, 0, none⟩) hvl).trans hv
  have kb : W1.heap[W.heap.size]? = some (.cells #[.pointer (some ⟨8, 74, none⟩), .pointer (some ⟨va, 0, none⟩), .int .u64 150] 91 (0, 0)) := by rw [hW1]; exact heap_alloc_new W _
  have b0 : W1.cell? ⟨W.heap.size, 0, none⟩ = some (.pointer (some ⟨8, 74, none⟩)) := by rw [Lib.cell_of_heap kb]; rfl
  have b1 : W1.cell? ⟨W.heap.size, 1, none⟩ = some (.pointer (some ⟨va, 0, none⟩)) := by rw [Lib.cell_of_heap kb]; rfl
  have b2 : W1.cell? ⟨W.heap.size, 2, none⟩ = some (.int .u64 150) := by rw [Lib.cell_of_heap kb]; rfl
  obtain ⟨W2, hW2⟩ : ∃ W2, W2 = W1.alloc (.cells #[.string a, .string b] 72) := ⟨_, rfl⟩
  have B2 : Below W1.heap.size W1 W2 := by rw [hW2]; exact (Below.refl _ W1).alloc (Nat.le_refl _) _
  have B12 : Below W.heap.size W W2 := B1.trans (B2.mono B1.size)
  have kf : W2.heap[W1.heap.size]? = some (.cells #[.string a, .string b] 72 (0, 0)) := by rw [hW2]; exact heap_alloc_new W1 _
  have st := setF t W1.heap.size a b o0 o1 W2 (by rw [Lib.cell_of_heap kf]; rfl) (by rw [Lib.cell_of_heap kf]; rfl) ((B12.cell (p := ⟨t, 0, none⟩) htl).trans ht0) ((B12.cell (p := ⟨t, 1, none⟩) htl).trans ht1) ((B12.frozen (p := ⟨t, 0, none⟩) htl).trans hf0) ((B12.frozen (p := ⟨t, 1, none⟩) htl).trans hf1)
  have el := elemVP ⟨va, 0, none⟩ ⟨t, 0, none⟩ W1 hv1
  have vo := valueOfF a b W1
  have mA := methodAssignableTo
  have aF := assignF
  have tO := typeOfF
  rw [hW2] at st
  have HW1 := Lib.hid hW1
  have HW2 := Lib.hid hW2
  have HB := Lib.hid B12
  clear hW1 hW2 B1 B2 B12 kb kf hv ht0 ht1 hf0 hf1 hv1
  go_enter Tryd.func57, Tryd.ntmps57
  go_wp2
  refine wp_loop_rounds 1 ?_
  rw [rounds_succ, ← HW1.out]
  go_wp2
  go_ret
  refine ⟨by exact rfl, fun B h1 h2 => ?_⟩
  have hb := HB.out
  rw [HW2.out] at hb
  exact ((hb.mono h2).setCell (by exact h1) _).setCell (by exact h1) _
end Go.Proofs.YteeplfbaflldaaaDoor.S25
set_option linter.unusedVariables false
set_option linter.unusedSimpArgs false
namespace Go.Proofs.YteeplfbaflldaaaDoor.S25
open Go.RowKit Go.Extern.Stop Go.Stop Go.Extern T10

theorem noAsJ (v : Value) (xT : TypeId) (w : World) : (Instr.typeAssert (.iface 147 v) xT 123 true).run Tryd.prog w = .ok (.tuple #[.nilIface, .bool false]) w := run_typeAssert_lacksB Tryd.underlying123 (by kernel_rfl) (by kernel_rfl) v xT w
theorem noUnJ (v : Value) (xT : TypeId) (w : World) : (Instr.typeAssert (.iface 147 v) xT 126 true).run Tryd.prog w = .ok (.tuple #[.nilIface, .bool false]) w := run_typeAssert_lacksB Tryd.underlying126 (by kernel_rfl) (by kernel_rfl) v xT w
theorem hasUnJ (v : Value) (xT : TypeId) (w : World) : (Instr.typeAssert (.iface 147 v) xT 128 true).run Tryd.prog w = .ok (.tuple #[.iface 147 v, .bool true]) w := run_typeAssert_hasB Tryd.underlying128 (by kernel_rfl) v xT w
theorem methodUnJ (v : Value) (w : World) : (Go.method 303 147 v "Unwrap").run Tryd.prog w = .ok (166, v) w := by kernel_rfl
theorem unwrap_join (j : Nat) (s : Value) (W : World) (hs : W.cell? ⟨j, 0, none⟩ = some s) :
    Calls Tryd.prog 166 #[.pointer (some ⟨j, 0, none⟩)] W fun e w' => e = .returned s ∧ w' = W := by
  go_enter Tryd.func166, Tryd.ntmps166
  go_wp2
  go_ret
  exact ⟨rfl, rfl⟩
set_option maxHeartbeats 4000000 in
set_option maxRecDepth 100000 in
theorem as_join (a b : ByteArray) (t va j sb n cp : Nat) (hn : 0 < n) (tgt o0 o1 : Value) (W : World) (hj : W.cell? ⟨j, 0, none⟩ = some (.slice (some ⟨sb, 0, none⟩) n cp)) (hs : W.cell? ⟨sb, 0, none⟩ = some (.iface 72 (.agg #[.string a, .string b]))) (hv : W.cell? ⟨va, 0, none⟩ = some (.pointer (some ⟨t, 0, none⟩))) (ht0 : W.cell? ⟨t, 0, none⟩ = some o0) (ht1 : W.cell? ⟨t, 1, none⟩ = some o1) (hf0 : W.frozen? ⟨t, 0, none⟩ = false) (hf1 : W.frozen? ⟨t, 1, none⟩ = false) :
    Calls Tryd.prog 57 #[.iface 147 (.pointer (some ⟨j, 0, none⟩)), tgt, .agg #[.pointer (some ⟨8, 74, none⟩), .pointer (some ⟨va, 0, none⟩), .int .u64 150], .iface 118 (.agg #[.pointer (some ⟨8, 72, none⟩)])] W fun e w' => e = .returned (.bool true) ∧ ∀ B, B ≤ t → B ≤ W.heap.size → Below B W w' := by
  have hTO := @run_callFunc_extern Tryd.prog 75 _ ReflectliteType.typeOf Tryd.func75 (by kernel_rfl) (by kernel_rfl) (by kernel_rfl) (by kernel_rfl)
  have hAS := @run_callFunc_extern Tryd.prog 154 _ (ReflectliteType.relation "AssignableTo" ReflectliteType.assignableTo) Tryd.func154 (by kernel_rfl) (by kernel_rfl) (by kernel_rfl) (by kernel_rfl)
  obtain ⟨W1, hW1⟩ : ∃ W1, W1 = W.alloc (.cells #[.pointer (some ⟨8, 74, none⟩), .pointer (some ⟨va, 0, none⟩), .int .u64 150] 91) := ⟨_, rfl⟩
  have htl := World.block_lt_of_cell? W _ ht0
  have hvl := World.block_lt_of_cell? W _ hv
  have hjl := World.block_lt_of_cell? W _ hj
  have hsl := World.block_lt_of_cell? W _ hs
  simp only [] at htl hvl hjl hsl
  have B1 : Below W.heap.size W W1 := by rw [hW1]; exact (Below.refl _ W).alloc (Nat.le_refl _) _
  have kb : W1.heap[W.heap.size]? = some (.cells #[.pointer (some ⟨8, 74, none⟩), .pointer (some ⟨va, 0, none⟩), .int .u64 150] 91 (0, 0)) := by rw [hW1]; exact heap_alloc_new W _
  have b0 : W1.cell? ⟨W.heap.size, 0, none⟩ = some (.pointer (some ⟨8, 74, none⟩)) := by rw [Lib.cell_of_heap kb]; rfl
  have b1 : W1.cell? ⟨W.heap.size, 1, none⟩ = some (.pointer (some ⟨va, 0, none⟩)) := by rw [Lib.cell_of_heap kb]; rfl
  have b2 : W1.cell? ⟨W.heap.size, 2, none⟩ = some (.int .u64 150) := by rw [Lib.cell_of_heap kb]; rfl
  have aF := as_fault a b t va tgt o0 o1 W1 ((B1.cell (p := ⟨va, 0, none⟩) hvl).trans hv) ((B1.cell (p := ⟨t, 0, none⟩) htl).trans ht0) ((B1.cell (p := ⟨t, 1, none⟩) htl).trans ht1) ((B1.frozen (p := ⟨t, 0, none⟩) htl).trans hf0) ((B1.frozen (p := ⟨t, 1, none⟩) htl).trans hf1)
  have cJ := (B1.cell (p := ⟨j, 0, none⟩) hjl).trans hj
  have sJ := (B1.cell (p := ⟨sb, 0, none⟩) hsl).trans hs
  have mA := methodAssignableTo
  have mU := methodUnJ
  have aJ := assignJ
  have tO := typeOfJ
  have nA := noAsJ
  have nU := noUnJ
  have hU := hasUnJ
  have HW1 := Lib.hid hW1
  have HB := Lib.hid B1
  clear hW1 B1 kb hv ht0 ht1 hf0 hf1 hj hs
  go_enter Tryd.func57, Tryd.ntmps57
  go_wp2
  refine wp_loop_rounds 1 ?_
  rw [rounds_succ, ← HW1.out]
  go_wp2
  refine wp_loop_rounds 1 ?_
  rw [rounds_succ]
  go_wp2_with (go_at_call 57; refine aF.mono ?_; rintro e w' ⟨rfl, hb⟩)
  go_ret
  refine ⟨by exact rfl, fun B h1 h2 => ?_⟩
  have B1 := HB.out
  exact (B1.mono h2).trans (hb B h1 (Nat.le_trans h2 B1.size))
end Go.Proofs.YteeplfbaflldaaaDoor.S25
set_option linter.unusedVariables false
set_option linter.unusedSimpArgs false
namespace Go.Proofs.YteeplfbaflldaaaDoor.S25
open Go.RowKit Go.Extern.Stop Go.Stop Go.Extern T10

/-- errors.as answers true at the error e, whatever stands above. -/
def AsTrue (e : Value) (t : Nat) (W : World) : Prop :=
  ∀ (va : Nat) (W' : World), Below W.heap.size W W' → W'.cell? ⟨va, 0, none⟩ = some (.pointer (some ⟨t, 0, none⟩)) →
    Calls Tryd.prog 57 #[e, .iface 74 (.pointer (some ⟨t, 0, none⟩)), .agg #[.pointer (some ⟨8, 74, none⟩), .pointer (some ⟨va, 0, none⟩), .int .u64 150], .iface 118 (.agg #[.pointer (some ⟨8, 72, none⟩)])] W' fun e w' => e = .returned (.bool true) ∧ ∀ B, B ≤ t → B ≤ W'.heap.size → Below B W' w'
theorem asTrue_fault {a b : ByteArray} {t : Nat} {o0 o1 : Value} {W : World} (ht0 : W.cell? ⟨t, 0, none⟩ = some o0) (ht1 : W.cell? ⟨t, 1, none⟩ = some o1) (hf0 : W.frozen? ⟨t, 0, none⟩ = false) (hf1 : W.frozen? ⟨t, 1, none⟩ = false) :
    AsTrue (.iface 72 (.agg #[.string a, .string b])) t W := by
  intro va W' hB hv
  have htl := World.block_lt_of_cell? W _ ht0
  simp only [] at htl
  exact as_fault a b t va _ o0 o1 W' hv ((hB.cell (p := ⟨t, 0, none⟩) htl).trans ht0) ((hB.cell (p := ⟨t, 1, none⟩) htl).trans ht1) ((hB.frozen (p := ⟨t, 0, none⟩) htl).trans hf0) ((hB.frozen (p := ⟨t, 1, none⟩) htl).trans hf1)
theorem asTrue_join {a b : ByteArray} {t j sb n cp : Nat} (hn : 0 < n) {o0 o1 : Value} {W : World} (hj : W.cell? ⟨j, 0, none⟩ = some (.slice (some ⟨sb, 0, none⟩) n cp)) (hs : W.cell? ⟨sb, 0, none⟩ = some (.iface 72 (.agg #[.string a, .string b]))) (ht0 : W.cell? ⟨t, 0, none⟩ = some o0) (ht1 : W.cell? ⟨t, 1, none⟩ = some o1) (hf0 : W.frozen? ⟨t, 0, none⟩ = false) (hf1 : W.frozen? ⟨t, 1, none⟩ = false) :
    AsTrue (.iface 147 (.pointer (some ⟨j, 0, none⟩))) t W := by
  intro va W' hB hv
  have htl := World.block_lt_of_cell? W _ ht0
  have hjl := World.block_lt_of_cell? W _ hj
  have hsl := World.block_lt_of_cell? W _ hs
  simp only [] at htl hjl hsl
  exact as_join a b t va j sb n cp hn _ o0 o1 W' ((hB.cell (p := ⟨j, 0, none⟩) hjl).trans hj) ((hB.cell (p := ⟨sb, 0, none⟩) hsl).trans hs) hv ((hB.cell (p := ⟨t, 0, none⟩) htl).trans ht0) ((hB.cell (p := ⟨t, 1, none⟩) htl).trans ht1) ((hB.frozen (p := ⟨t, 0, none⟩) htl).trans hf0) ((hB.frozen (p := ⟨t, 1, none⟩) htl).trans hf1)
set_option maxHeartbeats 4000000 in
set_option maxRecDepth 100000 in
theorem As_true (ty : TypeId) (v : Value) (t : Nat) (W : World) (hg : W.cell? ⟨0, 0, none⟩ = some (.iface 118 (.agg #[.pointer (some ⟨8, 68, none⟩)]))) (hC : AsTrue (.iface ty v) t W) :
    Calls Tryd.prog 35 #[.iface ty v, .iface 74 (.pointer (some ⟨t, 0, none⟩))] W fun e w' => e = .returned (.bool true) ∧ ∀ B, B ≤ t → B ≤ W.heap.size → Below B W w' := by
  have hVO := @run_callFunc_extern Tryd.prog 54 _ (fun args => ReflectliteValue.unpack (args.getD 0 (.tuple #[]))) Tryd.func54 (by kernel_rfl) (by kernel_rfl) (by kernel_rfl) (by kernel_rfl)
  have hTY := @run_callFunc_extern Tryd.prog 55 _ (ReflectliteValue.methodAny (ReflectliteValue.valueError "reflectlite.Value.Type" 0) (fun t _ _ _ => ReflectliteType.toType t)) Tryd.func55 (by kernel_rfl) (by kernel_rfl) (by kernel_rfl) (by kernel_rfl)
  have hIN := @run_callFunc_extern Tryd.prog 56 _ (ReflectliteValue.method (ReflectliteValue.valueError "reflectlite.Value.IsNil" 0) ReflectliteValue.isNil) Tryd.func56 (by kernel_rfl) (by kernel_rfl) (by kernel_rfl) (by kernel_rfl)
  have hKI := @run_callFunc_extern Tryd.prog 145 _ (ReflectliteType.abiMethod fun t => Functor.map (fun a : Nat => Value.int IntKind.u8 (a : Int)) (Rtype.kind t)) Tryd.func145 (by kernel_rfl) (by kernel_rfl) (by kernel_rfl) (by kernel_rfl)
  have hEL := @run_callFunc_extern Tryd.prog 156 _ (ReflectliteType.method ReflectliteType.elem) Tryd.func156 (by kernel_rfl) (by kernel_rfl) (by kernel_rfl) (by kernel_rfl)
  have hIM := @run_callFunc_extern Tryd.prog 157 _ (ReflectliteType.relation "Implements" ReflectliteType.implements_) Tryd.func157 (by kernel_rfl) (by kernel_rfl) (by kernel_rfl) (by kernel_rfl)
  have f6 := valueOfP
  have f7 := typeP
  have mK := methodKind
  have mE := methodElem
  have mI := methodImplements
  have k27 := kindP
  have k25 := kindF
  have e27 := elemP
  have i25 := implementsF
  have hlt : 0 < W.heap.size := World.block_lt_of_cell? W _ hg
  have n8 := isNilP ⟨W.heap.size, 0, none⟩ ⟨t, 0, none⟩ ((W.alloc (.cells #[.pointer (some ⟨t, 0, none⟩)] 74)).alloc (.cells #[.pointer (some ⟨8, 74, none⟩), .pointer (some ⟨W.heap.size, 0, none⟩), .int .u64 150] 91)) (by simp)
  have hg2 : ((W.alloc (.cells #[.pointer (some ⟨t, 0, none⟩)] 74)).alloc (.cells #[.pointer (some ⟨8, 74, none⟩), .pointer (some ⟨W.heap.size, 0, none⟩), .int .u64 150] 91)).cell? ⟨0, 0, none⟩ = some (.iface 118 (.agg #[.pointer (some ⟨8, 68, none⟩)])) := by
    rw [World.cell?_alloc_lt _ _ ⟨0, 0, none⟩ (by simp), World.cell?_alloc_lt _ _ ⟨0, 0, none⟩ hlt]; exact hg
  have hB : Below W.heap.size W ((W.alloc (.cells #[.pointer (some ⟨t, 0, none⟩)] 74)).alloc (.cells #[.pointer (some ⟨8, 74, none⟩), .pointer (some ⟨W.heap.size, 0, none⟩), .int .u64 150] 91)) := ((Below.refl _ W).alloc (Nat.le_refl _) _).alloc (by simp) _
  have hC2 := hC W.heap.size _ hB (by simp)
  have HB := Lib.hid hB
  clear hC hB hg
  go_enter Tryd.func35, Tryd.ntmps35
  go_wp2_with (go_at_call 57; refine hC2.mono ?_; rintro e w' ⟨rfl, hb⟩)
  go_ret
  refine ⟨by exact rfl, fun B h1 h2 => ?_⟩
  have B1 := HB.out
  exact (B1.mono h2).trans (hb B h1 (Nat.le_trans h2 B1.size))
end Go.Proofs.YteeplfbaflldaaaDoor.S25
set_option linter.unusedVariables false
set_option linter.unusedSimpArgs false
namespace Go.Proofs.YteeplfbaflldaaaDoor.S25
open Go.RowKit Go.Extern.Stop Go.Stop Go.Extern T10

def encE : Option (TypeId × Value) → Value
  | none => .nilIface
  | some (t, v) => .iface t v
def okE (L : List (Option (TypeId × Value))) : List (TypeId × Value) := L.filterMap id
def rowE (l : List (TypeId × Value)) : List Value := l.map fun p => .iface p.1 p.2
theorem okE_none {L : List (Option (TypeId × Value))} {k : Nat} (h : L[k]? = some none) : okE (L.take (k + 1)) = okE (L.take k) := by
  rw [List.take_add_one, h]; simp [okE]
theorem okE_some {L : List (Option (TypeId × Value))} {k : Nat} {t : TypeId} {v : Value} (h : L[k]? = some (some (t, v))) : okE (L.take (k + 1)) = okE (L.take k) ++ [(t, v)] := by
  rw [List.take_add_one, h]; simp [okE]
theorem okE_len (L : List (Option (TypeId × Value))) (k : Nat) : (okE (L.take k)).length ≤ (okE L).length := by
  have h : okE L = okE (L.take k) ++ okE (L.drop k) := by
    unfold okE
    rw [← List.filterMap_append, List.take_append_drop]
  rw [h, List.length_append]
  exact Nat.le_add_right _ _
theorem okE_lt {L : List (Option (TypeId × Value))} {k : Nat} {t : TypeId} {v : Value} (h : L[k]? = some (some (t, v))) : (okE (L.take k)).length + 1 ≤ (okE L).length := by
  have h2 := okE_len L (k + 1)
  rw [okE_some h, List.length_append] at h2
  exact h2
theorem okE_le (L : List (Option (TypeId × Value))) : (okE L).length ≤ L.length := List.length_filterMap_le _ _
theorem newsE (w : World) (a : Value) (t : TypeId) : ∀ (j : Nat) (u : Value), ([a] : List Value)[j]? = some u → (w.alloc (.cells #[a] t)).cell? ((⟨w.heap.size, 0, none⟩ : Addr).add j) = some u := by
  intro j u hu
  match j with
  | 0 => simp at hu; subst hu; show (w.alloc _).cell? ⟨w.heap.size, 0, none⟩ = _; rw [Lib.cell_of_heap (heap_alloc_new w _)]; rfl
  | j + 1 => simp at hu
theorem infoErr : (Tryd.prog.info? 68).map (fun i => (i.zero, i.size, i.bytes)) = some (some .nilIface, 1, 16) := by kernel_rfl
theorem info_partsE {o : Option TypeInfo} {z : Option Value} {n b : Nat} (h : o.map (fun i => (i.zero, i.size, i.bytes)) = some (z, n, b)) : ∃ i, o = some i ∧ i.zero = z ∧ i.size = n ∧ i.bytes = b := by
  cases o with
  | none => simp at h
  | some i => simp at h; exact ⟨i, rfl, h.1, h.2.1, h.2.2⟩
/-- What stands in the loop that fills the row: the row's head in the joined error's only cell. -/
def JoinAt (W : World) (jj n k : Nat) (L : List (Option (TypeId × Value))) (wr : World) : Prop :=
  wr.ownsRow W.heap.size 68 1 (.slice (some ⟨W.heap.size, 0, none⟩) (okE (L.take k)).length n) (okE (L.take k)).length (rowE (okE (L.take k))) ∧
  wr.cell? ⟨jj, 0, none⟩ = some (.slice (some ⟨W.heap.size, 0, none⟩) (okE (L.take k)).length n) ∧
  wr.frozen? ⟨jj, 0, none⟩ = false ∧ W.heap.size < jj ∧ jj < wr.heap.size ∧ Below W.heap.size W wr
set_option maxHeartbeats 4000000 in
set_option maxRecDepth 100000 in
theorem join_any (L : List (Option (TypeId × Value))) (hN : L.length ≤ 1000) (g cp : Nat) (W : World) (hc : ∀ k u, L[k]? = some u → W.cell? ⟨g, k, none⟩ = some (encE u)) (hgl : g < W.heap.size) :
    Calls Tryd.prog 74 #[.slice (some ⟨g, 0, none⟩) L.length cp] W fun e w' => (okE L = [] ∧ e = .returned .nilIface ∧ w' = W) ∨
      (∃ jj, okE L ≠ [] ∧ e = .returned (.iface 147 (.pointer (some ⟨jj, 0, none⟩))) ∧ JoinAt W jj (okE L).length L.length L w') := by
  obtain ⟨i0, hi, hz0, hz1, hz2⟩ := info_partsE infoErr
  have HC := Lib.hid hc
  clear hc
  go_enter Tryd.func74, Tryd.ntmps74
  go_wp2_with fail
  go_loop [3, 11] (fun v i => ∃ k : Nat, k ≤ L.length ∧ i = .int .i64 k ∧ v = .int .i64 ((okE (L.take k)).length : Nat)) (fun _ i => L.length - (intOf i).toNat)
  case atStart => exact ⟨0, Nat.zero_le _, rfl, rfl⟩
  case round =>
    obtain ⟨k, hk, rfl, rfl⟩ := hrel
    by_cases hlt : k < L.length
    · have hki : (k : Int) < L.length := by omega
      obtain ⟨u, hu⟩ : ∃ u, L[k] = u := ⟨_, rfl⟩
      have HU : Hid (L[k]? = some u) := by show _ = _; rw [← hu]; exact List.getElem?_eq_getElem hlt
      clear hu
      have q := HC.out k u HU.out
      cases u with
      | none =>
        simp only [encE] at q
        go_wp2_with fail
        go_round
        case rel => exact ⟨k + 1, by omega, by go_num, by rw [okE_none HU.out]⟩
        case measure => simp [intOf]; omega
      | some p =>
        obtain ⟨ty, v⟩ := p
        simp only [encE] at q
        go_wp2_with fail
        go_round
        case rel =>
          have h1 := okE_le (L.take k)
          rw [List.length_take] at h1
          have h3 : (okE (L.take (k + 1))).length = (okE (L.take k)).length + 1 := by rw [okE_some HU.out, List.length_append]; rfl
          refine ⟨k + 1, by omega, by go_num, ?_⟩
          rw [h3]
          have h4 : (okE (L.take k)).length ≤ 1000 := by omega
          clear h1 h3
          generalize (okE (L.take k)).length = m at h4 ⊢
          rw [IntWalk.wrap64_in _ (by omega)]
          rfl
        case measure => simp [intOf]; omega
    · have hkk : k = L.length := by omega
      subst hkk
      rw [List.take_length] at *
      by_cases h0 : okE L = []
      · have hl0 : (okE L).length = 0 := by rw [h0]; rfl
        rw [hl0]
        go_wp2_with fail
        go_ret
        first | exact .inl ⟨h0, by exact rfl, rfl⟩ | exact ⟨by exact rfl, rfl⟩
      · obtain ⟨n, hn⟩ : ∃ n, (okE L).length = n := ⟨_, rfl⟩
        have hpos : 0 < n := by rw [← hn]; exact List.length_pos_iff.2 h0
        have hle := okE_le L
        rw [hn] at hle ⊢
        go_wp2_with (at_make; refine wpList_make_own _ rfl _ _ 116 rfl W.heap.size 68 i0 .nilIface 1 Tryd.underlying116 hi hz0 hz1 .i64 .i64 _ n rfl rfl rfl (by rw [hz2]; omega) (by unfold maxLen; omega) (Nat.le_refl _) ?_; intro w1 o1 g1)
        obtain ⟨jj, hjj⟩ : ∃ jj, w1.heap.size = jj := ⟨_, rfl⟩
        obtain ⟨w2, hw2⟩ : ∃ w2, w2 = w1.alloc (.cells #[.slice (some ⟨W.heap.size, 0, none⟩) 0 n] 149) := ⟨_, rfl⟩
        have J0 : JoinAt W jj n 0 L w2 := by
          have hs1 := g1.size
          have hlt1 := (o1.lt W.heap.size rfl).2
          have kj : w2.heap[jj]? = some (.cells #[.slice (some ⟨W.heap.size, 0, none⟩) 0 n] 149 (0, 0)) := by rw [hw2, ← hjj]; exact heap_alloc_new w1 _
          have B1 : Below W.heap.size W w1 := ⟨g1.os, g1.tape, g1.output, g1.size, fun k hk => g1.block k hk (by simp)⟩
          refine ⟨?_, ?_, ?_, by omega, ?_, ?_⟩
          · rw [hw2]; exact o1.alloc _
          · rw [Lib.cell_of_heap kj]; rfl
          · rw [Lib.frozen_of_heap kj] <;> rfl
          · rw [hw2, ← hjj]; simp
          · rw [hw2]; exact B1.alloc hs1 _
        have HJ0 := Lib.hid J0
        have HW2 := Lib.hid hw2
        have HG1 := Lib.hid g1
        have HH0 := Lib.hid h0
        have HHN := Lib.hid hn
        clear J0 g1 o1 hw2 h0 hn
        go_wp2_with fail
        rw [hjj, ← HW2.out]
        go_loopw [28] (fun i wr => ∃ k : Nat, k ≤ L.length ∧ i = .int .i64 k ∧ JoinAt W jj n k L wr) (fun i _ => L.length - (intOf i).toNat)
        case atStart => exact ⟨0, Nat.zero_le _, rfl, HJ0.out⟩
        case round =>
          obtain ⟨k, hk, rfl, hown, hcell, hfro, hj1, hj2, hb⟩ := hrel
          have HB := Lib.hid hb
          by_cases hlt : k < L.length
          · have hki : (k : Int) < L.length := by omega
            obtain ⟨u, hu⟩ : ∃ u, L[k] = u := ⟨_, rfl⟩
            have HU : Hid (L[k]? = some u) := by show _ = _; rw [← hu]; exact List.getElem?_eq_getElem hlt
            clear hu
            have q := (hb.cell (p := ⟨g, k, none⟩) hgl).trans (HC.out k u HU.out)
            cases u with
            | none =>
              simp only [encE] at q
              have HO := Lib.hid hown
              have HJ1 := Lib.hid hj1
              have HJ2 := Lib.hid hj2
              clear hb hown hj1 hj2
              go_wp2_with fail
              go_roundw
              case rel => exact ⟨k + 1, by omega, by go_num, by unfold JoinAt; rw [okE_none HU.out]; exact ⟨HO.out, hcell, hfro, HJ1.out, HJ2.out, HB.out⟩⟩
              case measure => simp [intOf]; omega
            | some p =>
              obtain ⟨ty, v⟩ := p
              simp only [encE] at q
              have hmn := okE_lt HU.out
              rw [HHN.out] at hmn
              have HS := Lib.hid (okE_some HU.out)
              obtain ⟨m, hm⟩ : ∃ m, (okE (L.take k)).length = m := ⟨_, rfl⟩
              rw [hm] at hmn hown hcell
              have HM := Lib.hid hm
              clear hm hb
              have N1 : Hid (∀ u ∈ ([.iface ty v] : List Value), u.oneCell' = true) := by
                intro u hu
                simp at hu
                subst hu
                rfl
              have hsb := (hown.lt W.heap.size rfl).2
              go_wp2_with (at_builtin; refine wpList_append_fits _ rfl _ _ 116 rfl W.heap.size 68 i0 1 Tryd.underlying116 hi hz1 W.heap.size m n _ rfl (hown.alloc _) ⟨wr.heap.size, 0, none⟩ 1 1 [.iface ty v] rfl rfl (newsE wr _ _) N1.out (by omega) ?_; intro w4 hown4 hg4; have q4 : w4.cell? ⟨jj, 0, none⟩ = some (.slice (some ⟨W.heap.size, 0, none⟩) m n) := (hg4.cell_far ⟨jj, 0, none⟩ (by simp; omega) (by simp; omega)).trans ((World.cell?_alloc_lt _ _ ⟨jj, 0, none⟩ hj2).trans hcell); have f4 : w4.frozen? ⟨jj, 0, none⟩ = false := (hg4.frozen_far ⟨jj, 0, none⟩ (by simp; omega) (by simp; omega)).trans ((World.frozen?_alloc_old _ _ ⟨jj, 0, none⟩ (Nat.ne_of_lt hj2)).trans hfro))
              go_roundw
              case rel =>
                have hl : (okE (L.take (k + 1))).length = m + 1 := by rw [HS.out, List.length_append, HM.out]; rfl
                have hr : rowE (okE (L.take (k + 1))) = rowE (okE (L.take k)) ++ [.iface ty v] := by rw [HS.out]; simp [rowE]
                have hz4 : wr.heap.size + 1 ≤ w4.heap.size := by have := hg4.size; simpa using this
                have hb4 : Below W.heap.size W w4 := (HB.out.alloc (by omega) _).grown hg4 (by simp; omega) (fun j hj => by injection hj with hj; omega)
                refine ⟨k + 1, by omega, by go_num, ?_⟩
                unfold JoinAt
                rw [hl, hr]
                refine ⟨ownsRow_setCell_other hown4 (by show some W.heap.size ≠ some jj; intro h; injection h with h; omega) _, World.cell?_setCell_same' _ _ _ (by rw [q4]; rfl), ?_, hj1, ?_, hb4.setCell (by exact Nat.le_of_lt hj1) _⟩
                · rw [World.frozen?_setCell]; exact f4
                · rw [World.size_setCell]; omega
              case measure => simp [intOf]; omega
          · have hkk : k = L.length := by omega
            have hj : JoinAt W jj n k L wr := ⟨hown, hcell, hfro, hj1, hj2, hb⟩
            rw [hkk] at hj
            have HJ := Lib.hid hj
            clear hb hj hown hcell hfro
            go_wp2_with fail
            go_ret
            exact .inr ⟨jj, HH0.out, by exact rfl, by rw [HHN.out]; exact HJ.out⟩
end Go.Proofs.YteeplfbaflldaaaDoor.S25
