/- bits.RotateLeft64, longs.right: at the numbers that are used. -/
import Derived.Test.YtnlhhjokaekdhaaDoorBytes
set_option linter.unusedVariables false
namespace Go.Proofs.YtnlhhjokaekdhaaDoor.L5
open Go.RowKit

/-- x turned to the right: a is 2 to the 64 less n, b is 2 to the n. -/
def rotI (x a b : Int) : Int := bits .or .u64 (x * a % 18446744073709551616) (x / b)
set_option maxRecDepth 100000 in
theorem right1 (x : Int) (w : World) : Calls Tryd.prog 77 #[.int .u64 x, .int .i64 1] w fun e w' => e = .returned (.int .u64 (rotI x 9223372036854775808 2)) ∧ w = w' := by
  have hb : bits .and .u64 (IntKind.u64.wrap (-1)) 63 = 63 := by decide +kernel
  go_enter Tryd.func77, Tryd.ntmps77
  go_wp2
  go_ret
  exact ⟨by rfl, rfl⟩
set_option maxRecDepth 100000 in
theorem right8 (x : Int) (w : World) : Calls Tryd.prog 77 #[.int .u64 x, .int .i64 8] w fun e w' => e = .returned (.int .u64 (rotI x 72057594037927936 256)) ∧ w = w' := by
  have hb : bits .and .u64 (IntKind.u64.wrap (-8)) 63 = 56 := by decide +kernel
  go_enter Tryd.func77, Tryd.ntmps77
  go_wp2
  go_ret
  exact ⟨by rfl, rfl⟩
set_option maxRecDepth 100000 in
theorem right14 (x : Int) (w : World) : Calls Tryd.prog 77 #[.int .u64 x, .int .i64 14] w fun e w' => e = .returned (.int .u64 (rotI x 1125899906842624 16384)) ∧ w = w' := by
  have hb : bits .and .u64 (IntKind.u64.wrap (-14)) 63 = 50 := by decide +kernel
  go_enter Tryd.func77, Tryd.ntmps77
  go_wp2
  go_ret
  exact ⟨by rfl, rfl⟩
set_option maxRecDepth 100000 in
theorem right18 (x : Int) (w : World) : Calls Tryd.prog 77 #[.int .u64 x, .int .i64 18] w fun e w' => e = .returned (.int .u64 (rotI x 70368744177664 262144)) ∧ w = w' := by
  have hb : bits .and .u64 (IntKind.u64.wrap (-18)) 63 = 46 := by decide +kernel
  go_enter Tryd.func77, Tryd.ntmps77
  go_wp2
  go_ret
  exact ⟨by rfl, rfl⟩
set_option maxRecDepth 100000 in
theorem right19 (x : Int) (w : World) : Calls Tryd.prog 77 #[.int .u64 x, .int .i64 19] w fun e w' => e = .returned (.int .u64 (rotI x 35184372088832 524288)) ∧ w = w' := by
  have hb : bits .and .u64 (IntKind.u64.wrap (-19)) 63 = 45 := by decide +kernel
  go_enter Tryd.func77, Tryd.ntmps77
  go_wp2
  go_ret
  exact ⟨by rfl, rfl⟩
set_option maxRecDepth 100000 in
theorem right28 (x : Int) (w : World) : Calls Tryd.prog 77 #[.int .u64 x, .int .i64 28] w fun e w' => e = .returned (.int .u64 (rotI x 68719476736 268435456)) ∧ w = w' := by
  have hb : bits .and .u64 (IntKind.u64.wrap (-28)) 63 = 36 := by decide +kernel
  go_enter Tryd.func77, Tryd.ntmps77
  go_wp2
  go_ret
  exact ⟨by rfl, rfl⟩
set_option maxRecDepth 100000 in
theorem right34 (x : Int) (w : World) : Calls Tryd.prog 77 #[.int .u64 x, .int .i64 34] w fun e w' => e = .returned (.int .u64 (rotI x 1073741824 17179869184)) ∧ w = w' := by
  have hb : bits .and .u64 (IntKind.u64.wrap (-34)) 63 = 30 := by decide +kernel
  go_enter Tryd.func77, Tryd.ntmps77
  go_wp2
  go_ret
  exact ⟨by rfl, rfl⟩
set_option maxRecDepth 100000 in
theorem right39 (x : Int) (w : World) : Calls Tryd.prog 77 #[.int .u64 x, .int .i64 39] w fun e w' => e = .returned (.int .u64 (rotI x 33554432 549755813888)) ∧ w = w' := by
  have hb : bits .and .u64 (IntKind.u64.wrap (-39)) 63 = 25 := by decide +kernel
  go_enter Tryd.func77, Tryd.ntmps77
  go_wp2
  go_ret
  exact ⟨by rfl, rfl⟩
set_option maxRecDepth 100000 in
theorem right41 (x : Int) (w : World) : Calls Tryd.prog 77 #[.int .u64 x, .int .i64 41] w fun e w' => e = .returned (.int .u64 (rotI x 8388608 2199023255552)) ∧ w = w' := by
  have hb : bits .and .u64 (IntKind.u64.wrap (-41)) 63 = 23 := by decide +kernel
  go_enter Tryd.func77, Tryd.ntmps77
  go_wp2
  go_ret
  exact ⟨by rfl, rfl⟩
set_option maxRecDepth 100000 in
theorem right61 (x : Int) (w : World) : Calls Tryd.prog 77 #[.int .u64 x, .int .i64 61] w fun e w' => e = .returned (.int .u64 (rotI x 8 2305843009213693952)) ∧ w = w' := by
  have hb : bits .and .u64 (IntKind.u64.wrap (-61)) 63 = 3 := by decide +kernel
  go_enter Tryd.func77, Tryd.ntmps77
  go_wp2
  go_ret
  exact ⟨by rfl, rfl⟩
def rotF (x k : Int) : Int := if k = 1 then rotI x 9223372036854775808 2 else if k = 8 then rotI x 72057594037927936 256 else if k = 14 then rotI x 1125899906842624 16384 else if k = 18 then rotI x 70368744177664 262144 else if k = 19 then rotI x 35184372088832 524288 else if k = 28 then rotI x 68719476736 268435456 else if k = 34 then rotI x 1073741824 17179869184 else if k = 39 then rotI x 33554432 549755813888 else if k = 41 then rotI x 8388608 2199023255552 else if k = 61 then rotI x 8 2305843009213693952 else 0
def isRot (k : Int) : Bool := k == 1 || k == 8 || k == 14 || k == 18 || k == 19 || k == 28 || k == 34 || k == 39 || k == 41 || k == 61
theorem right_k (x k : Int) (w : World) (hk : isRot k = true) : Calls Tryd.prog 77 #[.int .u64 x, .int .i64 k] w fun e w' => e = .returned (.int .u64 (rotF x k)) ∧ w = w' := by
  unfold isRot at hk
  simp only [Bool.or_eq_true, beq_iff_eq] at hk
  rcases hk with (((((((((rfl | rfl) | rfl) | rfl) | rfl) | rfl) | rfl) | rfl) | rfl) | rfl)
  · exact right1 x w
  · exact right8 x w
  · exact right14 x w
  · exact right18 x w
  · exact right19 x w
  · exact right28 x w
  · exact right34 x w
  · exact right39 x w
  · exact right41 x w
  · exact right61 x w
end Go.Proofs.YtnlhhjokaekdhaaDoor.L5
