/- bits.RotateLeft32, digest.right: at the numbers that are used. -/
import Derived.Test.YtnlhhjokaekdhaaDoorBytes
set_option linter.unusedVariables false
namespace Go.Proofs.YtnlhhjokaekdhaaDoor
open Go.RowKit

/-- x turned to the right: a is 2 to the 32 less n, b is 2 to the n. -/
def rotI (x a b : Int) : Int := bits .or .u32 (x * a % 4294967296) (x / b)
theorem right2 (x : Int) (w : World) : Calls Tryd.prog 52 #[.int .u32 x, .int .i64 2] w fun e w' => e = .returned (.int .u32 (rotI x 1073741824 4)) ∧ w = w' := by
  have hb : bits .and .u64 (IntKind.u64.wrap (-2)) 31 = 30 := by decide +kernel
  go_enter Tryd.func52, Tryd.ntmps52
  go_wp2
  go_ret
  exact ⟨by rfl, rfl⟩
theorem right6 (x : Int) (w : World) : Calls Tryd.prog 52 #[.int .u32 x, .int .i64 6] w fun e w' => e = .returned (.int .u32 (rotI x 67108864 64)) ∧ w = w' := by
  have hb : bits .and .u64 (IntKind.u64.wrap (-6)) 31 = 26 := by decide +kernel
  go_enter Tryd.func52, Tryd.ntmps52
  go_wp2
  go_ret
  exact ⟨by rfl, rfl⟩
theorem right7 (x : Int) (w : World) : Calls Tryd.prog 52 #[.int .u32 x, .int .i64 7] w fun e w' => e = .returned (.int .u32 (rotI x 33554432 128)) ∧ w = w' := by
  have hb : bits .and .u64 (IntKind.u64.wrap (-7)) 31 = 25 := by decide +kernel
  go_enter Tryd.func52, Tryd.ntmps52
  go_wp2
  go_ret
  exact ⟨by rfl, rfl⟩
theorem right11 (x : Int) (w : World) : Calls Tryd.prog 52 #[.int .u32 x, .int .i64 11] w fun e w' => e = .returned (.int .u32 (rotI x 2097152 2048)) ∧ w = w' := by
  have hb : bits .and .u64 (IntKind.u64.wrap (-11)) 31 = 21 := by decide +kernel
  go_enter Tryd.func52, Tryd.ntmps52
  go_wp2
  go_ret
  exact ⟨by rfl, rfl⟩
theorem right13 (x : Int) (w : World) : Calls Tryd.prog 52 #[.int .u32 x, .int .i64 13] w fun e w' => e = .returned (.int .u32 (rotI x 524288 8192)) ∧ w = w' := by
  have hb : bits .and .u64 (IntKind.u64.wrap (-13)) 31 = 19 := by decide +kernel
  go_enter Tryd.func52, Tryd.ntmps52
  go_wp2
  go_ret
  exact ⟨by rfl, rfl⟩
theorem right17 (x : Int) (w : World) : Calls Tryd.prog 52 #[.int .u32 x, .int .i64 17] w fun e w' => e = .returned (.int .u32 (rotI x 32768 131072)) ∧ w = w' := by
  have hb : bits .and .u64 (IntKind.u64.wrap (-17)) 31 = 15 := by decide +kernel
  go_enter Tryd.func52, Tryd.ntmps52
  go_wp2
  go_ret
  exact ⟨by rfl, rfl⟩
theorem right18 (x : Int) (w : World) : Calls Tryd.prog 52 #[.int .u32 x, .int .i64 18] w fun e w' => e = .returned (.int .u32 (rotI x 16384 262144)) ∧ w = w' := by
  have hb : bits .and .u64 (IntKind.u64.wrap (-18)) 31 = 14 := by decide +kernel
  go_enter Tryd.func52, Tryd.ntmps52
  go_wp2
  go_ret
  exact ⟨by rfl, rfl⟩
theorem right19 (x : Int) (w : World) : Calls Tryd.prog 52 #[.int .u32 x, .int .i64 19] w fun e w' => e = .returned (.int .u32 (rotI x 8192 524288)) ∧ w = w' := by
  have hb : bits .and .u64 (IntKind.u64.wrap (-19)) 31 = 13 := by decide +kernel
  go_enter Tryd.func52, Tryd.ntmps52
  go_wp2
  go_ret
  exact ⟨by rfl, rfl⟩
theorem right22 (x : Int) (w : World) : Calls Tryd.prog 52 #[.int .u32 x, .int .i64 22] w fun e w' => e = .returned (.int .u32 (rotI x 1024 4194304)) ∧ w = w' := by
  have hb : bits .and .u64 (IntKind.u64.wrap (-22)) 31 = 10 := by decide +kernel
  go_enter Tryd.func52, Tryd.ntmps52
  go_wp2
  go_ret
  exact ⟨by rfl, rfl⟩
theorem right25 (x : Int) (w : World) : Calls Tryd.prog 52 #[.int .u32 x, .int .i64 25] w fun e w' => e = .returned (.int .u32 (rotI x 128 33554432)) ∧ w = w' := by
  have hb : bits .and .u64 (IntKind.u64.wrap (-25)) 31 = 7 := by decide +kernel
  go_enter Tryd.func52, Tryd.ntmps52
  go_wp2
  go_ret
  exact ⟨by rfl, rfl⟩
end Go.Proofs.YtnlhhjokaekdhaaDoor
