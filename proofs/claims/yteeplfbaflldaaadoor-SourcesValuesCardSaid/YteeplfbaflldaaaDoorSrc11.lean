/- sources: hostText, at a port that is no number. -/
import Derived.Test.YteeplfbaflldaaaDoorSrc6
set_option linter.unusedVariables false
set_option linter.unusedSimpArgs false
namespace Go.Proofs.YteeplfbaflldaaaDoor.S25
open Go.RowKit Go.Extern.Stop Go.Stop Go.Extern T10

/-- A host's name as it is written. -/
def hostB (host : ByteArray) (wild : Bool) : ByteArray :=
  match wild, host.data.toList.isEmpty with
  | false, _ => host
  | true, true => ⟨#[42]⟩
  | true, false => (⟨#[42, 46]⟩ : ByteArray) ++ host
def schemeB (scheme t : ByteArray) : ByteArray :=
  match scheme.data.toList.isEmpty with
  | true => t
  | false => scheme ++ ⟨#[58, 47, 47]⟩ ++ t
theorem empty_eq {s : ByteArray} {b : Bool} (h : s.data.toList.isEmpty = b) : (s.toList == []) = b := by
  rw [ByteArray.toList_eq]
  cases hl : s.data.toList with
  | nil => rw [hl] at h; exact h
  | cons a r => rw [hl] at h; exact h
set_option maxHeartbeats 3200000 in
set_option maxRecDepth 100000 in
theorem hostText_star (kind bits : Int) (text scheme host path : ByteArray) (wild : Bool) (w : World) (h1 : scheme.size ≤ 1000000) (h2 : host.size ≤ 1000000) (h3 : path.size ≤ 1000000) :
    Calls Tryd.prog 36 #[srcV kind text bits scheme host wild (-2) path] w fun e w' => e = .returned (.string (schemeB scheme (hostB host wild) ++ ⟨#[58, 42]⟩ ++ path)) ∧ Below w.heap.size w w' := by
  have B0 := Lib.hid ((Below.refl w.heap.size w).alloc (Nat.le_refl _) (.cells #[.int .i64 kind, .string text, .int .i64 bits, .string scheme, .string host, .bool wild, .int .i64 (-2), .string path] 41))
  unfold srcV schemeB hostB
  cases hs : scheme.data.toList.isEmpty <;> cases wild <;> cases hh : host.data.toList.isEmpty
  all_goals
    have e1 := empty_eq hs
    have e2 := empty_eq hh
    clear hs hh
    go_enter Tryd.func36, Tryd.ntmps36
    go_wp2_with fail
    go_ret
    exact ⟨by exact rfl, B0.out⟩
set_option maxHeartbeats 3200000 in
set_option maxRecDepth 100000 in
theorem hostText_none (kind bits : Int) (text scheme host path : ByteArray) (wild : Bool) (w : World) (h1 : scheme.size ≤ 1000000) (h2 : host.size ≤ 1000000) (h3 : path.size ≤ 1000000) :
    Calls Tryd.prog 36 #[srcV kind text bits scheme host wild (-1) path] w fun e w' => e = .returned (.string (schemeB scheme (hostB host wild) ++ path)) ∧ Below w.heap.size w w' := by
  have B0 := Lib.hid ((Below.refl w.heap.size w).alloc (Nat.le_refl _) (.cells #[.int .i64 kind, .string text, .int .i64 bits, .string scheme, .string host, .bool wild, .int .i64 (-1), .string path] 41))
  unfold srcV schemeB hostB
  cases hs : scheme.data.toList.isEmpty <;> cases wild <;> cases hh : host.data.toList.isEmpty
  all_goals
    have e1 := empty_eq hs
    have e2 := empty_eq hh
    clear hs hh
    go_enter Tryd.func36, Tryd.ntmps36
    go_wp2_with fail
    go_ret
    exact ⟨by exact rfl, B0.out⟩
end Go.Proofs.YteeplfbaflldaaaDoor.S25
