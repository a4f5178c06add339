/- lazaretref04.right: at any of the numbers that are used. -/
import Derived.Test.YtnlhhjokaekdhaaDoorRot5
import Derived.Test.YtnlhhjokaekdhaaDoorDgt4
import Derived.RegionTactic
set_option linter.unusedVariables false
namespace Go.Proofs.YtnlhhjokaekdhaaDoor.R4
open Go.RowKit

theorem or_swap (a b : Int) : bits .or .u32 a b = bits .or .u32 b a := by
  unfold bits
  simp [Nat.or_comm]
theorem rright2 (x : Int) (w : World) : Calls Tryd.prog 35 #[.int .u32 x, .int .i64 2] w fun e w' => e = .returned (.int .u32 (rotI x 1073741824 4)) ∧ w' = w.drew := by
  go_enter Tryd.func35, Tryd.ntmps35
  go_wp2_with fail
  go_region
  go_wp2_with fail
  go_ret
  exact ⟨by unfold rotI; rw [or_swap]; rfl, rfl⟩
theorem rright6 (x : Int) (w : World) : Calls Tryd.prog 35 #[.int .u32 x, .int .i64 6] w fun e w' => e = .returned (.int .u32 (rotI x 67108864 64)) ∧ w' = w.drew := by
  go_enter Tryd.func35, Tryd.ntmps35
  go_wp2_with fail
  go_region
  go_wp2_with fail
  go_ret
  exact ⟨by unfold rotI; rw [or_swap]; rfl, rfl⟩
theorem rright7 (x : Int) (w : World) : Calls Tryd.prog 35 #[.int .u32 x, .int .i64 7] w fun e w' => e = .returned (.int .u32 (rotI x 33554432 128)) ∧ w' = w.drew := by
  go_enter Tryd.func35, Tryd.ntmps35
  go_wp2_with fail
  go_region
  go_wp2_with fail
  go_ret
  exact ⟨by unfold rotI; rw [or_swap]; rfl, rfl⟩
theorem rright11 (x : Int) (w : World) : Calls Tryd.prog 35 #[.int .u32 x, .int .i64 11] w fun e w' => e = .returned (.int .u32 (rotI x 2097152 2048)) ∧ w' = w.drew := by
  go_enter Tryd.func35, Tryd.ntmps35
  go_wp2_with fail
  go_region
  go_wp2_with fail
  go_ret
  exact ⟨by unfold rotI; rw [or_swap]; rfl, rfl⟩
theorem rright13 (x : Int) (w : World) : Calls Tryd.prog 35 #[.int .u32 x, .int .i64 13] w fun e w' => e = .returned (.int .u32 (rotI x 524288 8192)) ∧ w' = w.drew := by
  go_enter Tryd.func35, Tryd.ntmps35
  go_wp2_with fail
  go_region
  go_wp2_with fail
  go_ret
  exact ⟨by unfold rotI; rw [or_swap]; rfl, rfl⟩
theorem rright17 (x : Int) (w : World) : Calls Tryd.prog 35 #[.int .u32 x, .int .i64 17] w fun e w' => e = .returned (.int .u32 (rotI x 32768 131072)) ∧ w' = w.drew := by
  go_enter Tryd.func35, Tryd.ntmps35
  go_wp2_with fail
  go_region
  go_wp2_with fail
  go_ret
  exact ⟨by unfold rotI; rw [or_swap]; rfl, rfl⟩
theorem rright18 (x : Int) (w : World) : Calls Tryd.prog 35 #[.int .u32 x, .int .i64 18] w fun e w' => e = .returned (.int .u32 (rotI x 16384 262144)) ∧ w' = w.drew := by
  go_enter Tryd.func35, Tryd.ntmps35
  go_wp2_with fail
  go_region
  go_wp2_with fail
  go_ret
  exact ⟨by unfold rotI; rw [or_swap]; rfl, rfl⟩
theorem rright19 (x : Int) (w : World) : Calls Tryd.prog 35 #[.int .u32 x, .int .i64 19] w fun e w' => e = .returned (.int .u32 (rotI x 8192 524288)) ∧ w' = w.drew := by
  go_enter Tryd.func35, Tryd.ntmps35
  go_wp2_with fail
  go_region
  go_wp2_with fail
  go_ret
  exact ⟨by unfold rotI; rw [or_swap]; rfl, rfl⟩
theorem rright22 (x : Int) (w : World) : Calls Tryd.prog 35 #[.int .u32 x, .int .i64 22] w fun e w' => e = .returned (.int .u32 (rotI x 1024 4194304)) ∧ w' = w.drew := by
  go_enter Tryd.func35, Tryd.ntmps35
  go_wp2_with fail
  go_region
  go_wp2_with fail
  go_ret
  exact ⟨by unfold rotI; rw [or_swap]; rfl, rfl⟩
theorem rright25 (x : Int) (w : World) : Calls Tryd.prog 35 #[.int .u32 x, .int .i64 25] w fun e w' => e = .returned (.int .u32 (rotI x 128 33554432)) ∧ w' = w.drew := by
  go_enter Tryd.func35, Tryd.ntmps35
  go_wp2_with fail
  go_region
  go_wp2_with fail
  go_ret
  exact ⟨by unfold rotI; rw [or_swap]; rfl, rfl⟩
/-- Turned to the right, at any of the numbers that are used. -/
theorem rright_k (x k : Int) (w : World) (hk : isRot k = true) : Calls Tryd.prog 35 #[.int .u32 x, .int .i64 k] w fun e w' => e = .returned (.int .u32 (rotF x k)) ∧ w' = w.drew := by
  unfold isRot at hk
  simp only [Bool.or_eq_true, beq_iff_eq] at hk
  rcases hk with (((((((((rfl | rfl) | rfl) | rfl) | rfl) | rfl) | rfl) | rfl) | rfl) | rfl)
  · exact rright2 x w
  · exact rright6 x w
  · exact rright7 x w
  · exact rright11 x w
  · exact rright13 x w
  · exact rright17 x w
  · exact rright18 x w
  · exact rright19 x w
  · exact rright22 x w
  · exact rright25 x w
end Go.Proofs.YtnlhhjokaekdhaaDoor.R4
