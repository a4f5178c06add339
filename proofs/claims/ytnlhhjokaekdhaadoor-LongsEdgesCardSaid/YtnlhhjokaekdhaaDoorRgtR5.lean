/- lazaretref05.right: at any of the numbers that are used. -/
import Derived.Test.YtnlhhjokaekdhaaDoorRot64
import Derived.RegionTactic
set_option linter.unusedVariables false
namespace Go.Proofs.YtnlhhjokaekdhaaDoor.L5
open Go.RowKit

theorem or_swap (a b : Int) : bits .or .u64 a b = bits .or .u64 b a := by
  unfold bits
  simp [Nat.or_comm]
set_option maxRecDepth 100000 in
theorem rright1 (x : Int) (w : World) : Calls Tryd.prog 61 #[.int .u64 x, .int .i64 1] w fun e w' => e = .returned (.int .u64 (rotI x 9223372036854775808 2)) ∧ w' = w.drew := by
  go_enter Tryd.func61, Tryd.ntmps61
  go_wp2_with fail
  go_region
  go_wp2_with fail
  go_ret
  exact ⟨by unfold rotI; rw [or_swap]; rfl, rfl⟩
set_option maxRecDepth 100000 in
theorem rright8 (x : Int) (w : World) : Calls Tryd.prog 61 #[.int .u64 x, .int .i64 8] w fun e w' => e = .returned (.int .u64 (rotI x 72057594037927936 256)) ∧ w' = w.drew := by
  go_enter Tryd.func61, Tryd.ntmps61
  go_wp2_with fail
  go_region
  go_wp2_with fail
  go_ret
  exact ⟨by unfold rotI; rw [or_swap]; rfl, rfl⟩
set_option maxRecDepth 100000 in
theorem rright14 (x : Int) (w : World) : Calls Tryd.prog 61 #[.int .u64 x, .int .i64 14] w fun e w' => e = .returned (.int .u64 (rotI x 1125899906842624 16384)) ∧ w' = w.drew := by
  go_enter Tryd.func61, Tryd.ntmps61
  go_wp2_with fail
  go_region
  go_wp2_with fail
  go_ret
  exact ⟨by unfold rotI; rw [or_swap]; rfl, rfl⟩
set_option maxRecDepth 100000 in
theorem rright18 (x : Int) (w : World) : Calls Tryd.prog 61 #[.int .u64 x, .int .i64 18] w fun e w' => e = .returned (.int .u64 (rotI x 70368744177664 262144)) ∧ w' = w.drew := by
  go_enter Tryd.func61, Tryd.ntmps61
  go_wp2_with fail
  go_region
  go_wp2_with fail
  go_ret
  exact ⟨by unfold rotI; rw [or_swap]; rfl, rfl⟩
set_option maxRecDepth 100000 in
theorem rright19 (x : Int) (w : World) : Calls Tryd.prog 61 #[.int .u64 x, .int .i64 19] w fun e w' => e = .returned (.int .u64 (rotI x 35184372088832 524288)) ∧ w' = w.drew := by
  go_enter Tryd.func61, Tryd.ntmps61
  go_wp2_with fail
  go_region
  go_wp2_with fail
  go_ret
  exact ⟨by unfold rotI; rw [or_swap]; rfl, rfl⟩
set_option maxRecDepth 100000 in
theorem rright28 (x : Int) (w : World) : Calls Tryd.prog 61 #[.int .u64 x, .int .i64 28] w fun e w' => e = .returned (.int .u64 (rotI x 68719476736 268435456)) ∧ w' = w.drew := by
  go_enter Tryd.func61, Tryd.ntmps61
  go_wp2_with fail
  go_region
  go_wp2_with fail
  go_ret
  exact ⟨by unfold rotI; rw [or_swap]; rfl, rfl⟩
set_option maxRecDepth 100000 in
theorem rright34 (x : Int) (w : World) : Calls Tryd.prog 61 #[.int .u64 x, .int .i64 34] w fun e w' => e = .returned (.int .u64 (rotI x 1073741824 17179869184)) ∧ w' = w.drew := by
  go_enter Tryd.func61, Tryd.ntmps61
  go_wp2_with fail
  go_region
  go_wp2_with fail
  go_ret
  exact ⟨by unfold rotI; rw [or_swap]; rfl, rfl⟩
set_option maxRecDepth 100000 in
theorem rright39 (x : Int) (w : World) : Calls Tryd.prog 61 #[.int .u64 x, .int .i64 39] w fun e w' => e = .returned (.int .u64 (rotI x 33554432 549755813888)) ∧ w' = w.drew := by
  go_enter Tryd.func61, Tryd.ntmps61
  go_wp2_with fail
  go_region
  go_wp2_with fail
  go_ret
  exact ⟨by unfold rotI; rw [or_swap]; rfl, rfl⟩
set_option maxRecDepth 100000 in
theorem rright41 (x : Int) (w : World) : Calls Tryd.prog 61 #[.int .u64 x, .int .i64 41] w fun e w' => e = .returned (.int .u64 (rotI x 8388608 2199023255552)) ∧ w' = w.drew := by
  go_enter Tryd.func61, Tryd.ntmps61
  go_wp2_with fail
  go_region
  go_wp2_with fail
  go_ret
  exact ⟨by unfold rotI; rw [or_swap]; rfl, rfl⟩
set_option maxRecDepth 100000 in
theorem rright61 (x : Int) (w : World) : Calls Tryd.prog 61 #[.int .u64 x, .int .i64 61] w fun e w' => e = .returned (.int .u64 (rotI x 8 2305843009213693952)) ∧ w' = w.drew := by
  go_enter Tryd.func61, Tryd.ntmps61
  go_wp2_with fail
  go_region
  go_wp2_with fail
  go_ret
  exact ⟨by unfold rotI; rw [or_swap]; rfl, rfl⟩
/-- Turned to the right, at any of the numbers that are used. -/
theorem rright_k (x k : Int) (w : World) (hk : isRot k = true) : Calls Tryd.prog 61 #[.int .u64 x, .int .i64 k] w fun e w' => e = .returned (.int .u64 (rotF x k)) ∧ w' = w.drew := by
  unfold isRot at hk
  simp only [Bool.or_eq_true, beq_iff_eq] at hk
  rcases hk with (((((((((rfl | rfl) | rfl) | rfl) | rfl) | rfl) | rfl) | rfl) | rfl) | rfl)
  · exact rright1 x w
  · exact rright8 x w
  · exact rright14 x w
  · exact rright18 x w
  · exact rright19 x w
  · exact rright28 x w
  · exact rright34 x w
  · exact rright39 x w
  · exact rright41 x w
  · exact rright61 x w
end Go.Proofs.YtnlhhjokaekdhaaDoor.L5
