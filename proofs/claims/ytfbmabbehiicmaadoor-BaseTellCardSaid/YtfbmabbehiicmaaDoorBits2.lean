/- The machine's 'and', 'or' on natural numbers below 2^62. Of no program. -/
import Derived.Test.YtfbmabbehiicmaaDoorBits
set_option linter.unusedVariables false
namespace Go.Proofs.YtfbmabbehiicmaaDoor

theorem bv_ofInt (a : Nat) (h : a < 4611686018427387904) : BitVec.ofInt IntKind.i64.bits (a : Int) = BitVec.ofNat 64 a := by
  show BitVec.ofInt 64 (a : Int) = _
  apply BitVec.eq_of_toNat_eq
  rw [BitVec.toNat_ofInt, BitVec.toNat_ofNat]
  omega
theorem wrap_small (a : Nat) (h : a < 4611686018427387904) : IntKind.i64.wrap (a : Int) = (a : Int) := IntWalk.i64_in _ (by omega)
theorem or_lt62 {a b : Nat} (ha : a < 4611686018427387904) (hb : b < 4611686018427387904) : a ||| b < 4611686018427387904 := Nat.or_lt_two_pow (n := 62) ha hb
theorem and_lt62 {a b : Nat} (ha : a < 4611686018427387904) : a &&& b < 4611686018427387904 := Nat.lt_of_le_of_lt Nat.and_le_left ha
theorem bits_or_nat (a b : Nat) (ha : a < 4611686018427387904) (hb : b < 4611686018427387904) : bits .or .i64 (a : Int) (b : Int) = ((a ||| b : Nat) : Int) := by
  unfold bits
  rw [bv_ofInt a ha, bv_ofInt b hb]
  show IntKind.i64.wrap (((BitVec.ofNat 64 a ||| BitVec.ofNat 64 b).toNat : Nat) : Int) = _
  rw [BitVec.toNat_or, BitVec.toNat_ofNat, BitVec.toNat_ofNat, Nat.mod_eq_of_lt (by omega), Nat.mod_eq_of_lt (by omega), wrap_small _ (or_lt62 ha hb)]
theorem bits_and_nat (a b : Nat) (ha : a < 4611686018427387904) (hb : b < 4611686018427387904) : bits .and .i64 (a : Int) (b : Int) = ((a &&& b : Nat) : Int) := by
  unfold bits
  rw [bv_ofInt a ha, bv_ofInt b hb]
  show IntKind.i64.wrap (((BitVec.ofNat 64 a &&& BitVec.ofNat 64 b).toNat : Nat) : Int) = _
  rw [BitVec.toNat_and, BitVec.toNat_ofNat, BitVec.toNat_ofNat, Nat.mod_eq_of_lt (by omega), Nat.mod_eq_of_lt (by omega), wrap_small _ (and_lt62 ha)]
theorem or_shift (a b i : Nat) (h : b < 2 ^ i) : a * 2 ^ i ||| b = a * 2 ^ i + b := by
  rw [← Nat.shiftLeft_eq, Nat.shiftLeft_add_eq_or_of_lt h]
/-- 'x & (2^i - 1)'. -/
theorem bits_mask (a : Nat) (i : Nat) (ha : a < 4611686018427387904) (hi : 2 ^ i - 1 < 4611686018427387904) : bits .and .i64 (a : Int) ((2 ^ i - 1 : Nat) : Int) = ((a % 2 ^ i : Nat) : Int) := by
  rw [bits_and_nat a _ ha hi, Nat.and_two_pow_sub_one_eq_mod]
end Go.Proofs.YtfbmabbehiicmaaDoor
