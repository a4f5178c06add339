/- base.worth: which letter is worth how much. -/
import Derived.Test.YtfbmabbehiicmaaDoorB64a
import Derived.Maps.OwnSet
import Derived.Maps.OwnOps
import Derived.Carry
import Derived.Maps.Views
set_option linter.unusedVariables false
namespace Go.Proofs.YtfbmabbehiicmaaDoor
open Go.RowKit Go.Maps

/-- A map's literal, entry by entry. -/
theorem wpList_insert_own {H : Type} {P : Program} (w : World) {ops : Array Oper} {rest : List Oper} {o : Oper} {a : Act} {Q : Exit → Act → World → Prop}
    (hg : o.guard = none) (m x v : Operand) (t : TypeId) (hop : o.op = Op.insert t m x v)
    (k e : TypeId) (K : Keyed P k) (ht : P.underlying t = some (.map k e)) (R : Value → Option (DataW H × List MemPlace)) (b n : Nat) (D : DataW H)
    (hm : a.eval m = .map (some b)) (hown : w.ownsMap P k R b n D) (hn : n < maxLen) (key val : Value) (kl : Lit) (hx : a.eval x = key) (hv : a.eval v = val) (hkey : keyOf P k key = some kl)
    (d : DataW H) (ps : List MemPlace) (hval : R val = some (d, ps))
    (hK : ∀ w', w'.ownsMap P k R b (n + 1) (D.put kl d) → w.grownBy w' (some b) → wpList P ops Q rest (a.put o.dst undef) w') :
    wpList P ops Q (o :: rest) a w := by
  refine wpList_plain hg fun K' hK' => ?_
  obtain ⟨w', hrun, r1, r2⟩ := hown.update K ht hn hkey hval
  unfold Oper.wp
  simp [execOp, hop, hm, hx, hv, hrun, Result.andThen]
  exact hK' _ _ (hK w' r1 r2)

/-- What a letter is worth, if it is one. -/
def valN (c : Nat) : Option Nat := if 65 ≤ c ∧ c ≤ 90 then some (c - 65) else if 97 ≤ c ∧ c ≤ 122 then some (c - 71) else if 48 ≤ c ∧ c ≤ 57 then some (c + 4) else if c = 43 ∨ c = 45 then some 62 else if c = 47 ∨ c = 95 then some 63 else none
def worth0 : DataW Unit := ((DataW.map []).put (.int .u8 45) (.lit (.int .i64 62))).put (.int .u8 95) (.lit (.int .i64 63))
def worthD : Nat → DataW Unit
  | 0 => worth0
  | k + 1 => (worthD k).put (.int .u8 ((L64 k).toNat : Int)) (.lit (.int .i64 (k : Int)))
def isNum (d : DataW Unit) (n : Int) : Bool := match d with
  | .lit (.int .i64 m) => m == n
  | _ => false
theorem isNum_eq {d : DataW Unit} {n c : Int} (h : isNum d n = true) (e : d = .lit (.int .i64 c)) : c = n := by
  subst e
  simpa [isNum] using h
theorem worth_has : ∀ c : Fin 256, Maps.has (worthD 64) (.int .u8 (c.val : Int)) = (valN c.val).isSome := by decide +kernel
theorem worth_at : ∀ c : Fin 256, isNum ((worthD 64).atKey (.int .u8 (c.val : Int)) (.lit (.int .i64 0))) (((valN c.val).getD 0 : Nat) : Int) = true := by decide +kernel

theorem lawByte : Keyed Tryd.prog 5 := int_keyed Tryd.underlying5
theorem wf_byte (x : UInt8) : (Lit.int .u8 (x.toNat : Int)).wf = true := by
  have h := x.toNat_lt
  simp [Lit.wf, IntKind.min, IntKind.max, IntKind.signed, IntKind.bits]
  omega

set_option maxHeartbeats 2000000 in
set_option maxRecDepth 100000 in
theorem worth_any (w : World) :
    Calls Tryd.prog 34 #[] w fun e w' => e = .returned (.map (some w.heap.size)) ∧ w'.ownsMap Tryd.prog 5 (plainElem Tryd.prog 3) w.heap.size 66 (worthD 64) ∧ Below w.heap.size w w' := by
  have hmm := @run_makeMap Tryd.prog
  go_enter Tryd.func34, Tryd.ntmps34
  have h0 := World.ownsMap_made (H := Unit) w Tryd.prog 5 (plainElem Tryd.prog 3)
  go_wp2_with (first | (refine wpList_insert_own (H := Unit) _ rfl _ _ _ 52 rfl 5 3 lawByte Tryd.underlying52 _ w.heap.size 1 _ rfl h1 (by decide) _ _ (.int .u8 95) rfl rfl (by rfl) (.lit (.int .i64 63)) [] (by rfl) ?_; intro w2 h2 g2) | (refine wpList_insert_own (H := Unit) _ rfl _ _ _ 52 rfl 5 3 lawByte Tryd.underlying52 _ w.heap.size 0 _ rfl h0 (by decide) _ _ (.int .u8 45) rfl rfl (by rfl) (.lit (.int .i64 62)) [] (by rfl) ?_; intro w1 h1 g1))
  have hb2 : Below w.heap.size w w2 := (((Below.refl _ w).alloc (Nat.le_refl _) _).grown g1 (by simp) (fun j hj => by cases hj; exact Nat.le_refl _)).grown g2 (by have := g1.size; simp at this; omega) (fun j hj => by cases hj; exact Nat.le_refl _)
  go_wp2_with fail
  go_loopw [5] (fun i wr => ∃ k : Nat, k ≤ 64 ∧ i = .int .i64 k ∧ wr.ownsMap Tryd.prog 5 (plainElem Tryd.prog 3) w.heap.size (k + 2) (worthD k) ∧ Below w.heap.size w wr) (fun i _ => 64 - (intOf i).toNat)
  case atStart => exact ⟨0, by omega, rfl, h2, hb2⟩
  case round =>
    obtain ⟨k, hk, rfl, hown, hnx⟩ := hrel
    by_cases hlt : k < 64
    · have hk0 : (0 : Int) ≤ (k : Int) := by omega
      have hk1 : (k : Int) < 64 := by omega
      have hkey : keyOf Tryd.prog 5 (.int .u8 ((alphB[k]'(by exact hlt)).toNat : Int)) = some (.int .u8 ((L64 k).toNat : Int)) := by
        rw [L64_at k hlt]
        exact keyOf_int_mk Tryd.underlying5 (wf_byte _)
      have HKEY := Lib.hid hkey
      clear hkey
      go_wp2_with (at_mapUpdate; refine wpList_mapUpdate_own (H := Unit) _ rfl _ _ _ 52 rfl 5 3 lawByte Tryd.underlying52 _ w.heap.size (k + 2) _ rfl hown (by unfold maxLen; omega) _ _ _ rfl rfl HKEY.out (.lit (.int .i64 (k : Int))) [] (plainElem_int Tryd.underlying3 (WalkArith.wf_i64 (by omega))) ?_; intro w3 hown3 hgrow3)
      go_roundw
      case rel => exact ⟨k + 1, by omega, by go_num, hown3, hnx.grown hgrow3 hnx.size (fun j hj => by cases hj; exact Nat.le_refl _)⟩
      case measure => simp [intOf]; omega
    · have hk64 : k = 64 := by omega
      subst hk64
      go_wp2_with fail
      go_ret
      exact ⟨rfl, hown, hnx⟩
end Go.Proofs.YtfbmabbehiicmaaDoor
