/- The machine's exclusive or on bytes is UInt8's. Of no program. -/
import Derived.Test.YtfbmabbehiicmaaDoorBytes
import Derived.OpenShut
set_option linter.unusedVariables false
namespace Go.Proofs.YtfbmabbehiicmaaDoor

theorem byte_ofInt (x : UInt8) : BitVec.ofInt IntKind.u8.bits (x.toNat : Int) = x.toBitVec := by
  show BitVec.ofInt 8 (x.toNat : Int) = _
  apply BitVec.eq_of_toNat_eq
  rw [BitVec.toNat_ofInt]
  have h := x.toNat_lt
  have e : x.toBitVec.toNat = x.toNat := rfl
  rw [e]
  omega
theorem bits_xor_byte (x y : UInt8) : bits .xor .u8 (x.toNat : Int) (y.toNat : Int) = ((x ^^^ y).toNat : Int) := by
  unfold bits
  rw [byte_ofInt, byte_ofInt]
  show IntKind.u8.wrap (((x ^^^ y).toNat : Nat) : Int) = _
  have h := (x ^^^ y).toNat_lt
  rw [IntKind.wrap_u8]
  omega
end Go.Proofs.YtfbmabbehiicmaaDoor
