/- A word by sums is the word by bits. -/
import Derived.Test.YtnlhhjokaekdhaaDoorSha
set_option linter.unusedVariables false
namespace Go.Proofs.YtnlhhjokaekdhaaDoor.R4
open Go.RowKit

theorem or_nat (x y : Nat) (hx : x < 4294967296) (hy : y < 4294967296) : or32 (x : Int) (y : Int) = ((x ||| y : Nat) : Int) := by
  have hb : x ||| y < 2 ^ 32 := Nat.or_lt_two_pow hx hy
  have e : ∀ n : Nat, n < 4294967296 → (BitVec.ofInt 32 (n : Int)).toNat = n := fun n hn => by
    rw [BitVec.toNat_ofInt]
    omega
  show IntKind.u32.wrap (((BitVec.ofInt 32 (x : Int) ||| BitVec.ofInt 32 (y : Int)).toNat : Nat) : Int) = _
  rw [BitVec.toNat_or, e x hx, e y hy]
  unfold IntKind.wrap
  simp [IntKind.bits, IntKind.signed]
  omega
theorem or_add (i a b : Nat) (hb : b < 2 ^ i) (h : 2 ^ i * a + b < 4294967296) : or32 ((2 ^ i * a : Nat) : Int) (b : Int) = ((2 ^ i * a + b : Nat) : Int) := by
  rw [or_nat _ _ (by omega) (by omega), Nat.two_pow_add_eq_or_of_lt hb]
/-- By sums. -/
def wordS (a b c d : Int) : Int := w32 (a * 16777216 + b * 65536 + c * 256 + d)
theorem word_sum (a b c d : Nat) (ha : a < 256) (hb : b < 256) (hc : c < 256) (hd : d < 256) : word4 (a : Int) b c d = (a : Int) * 16777216 + b * 65536 + c * 256 + d := by
  have e1 : w32 (w32 (a : Int) * 16777216) = ((2 ^ 24 * a : Nat) : Int) := by unfold w32; omega
  have e2 : w32 (w32 (b : Int) * 65536) = ((65536 * b : Nat) : Int) := by unfold w32; omega
  have e3 : w32 (w32 (c : Int) * 256) = ((256 * c : Nat) : Int) := by unfold w32; omega
  have e4 : w32 (d : Int) = (d : Int) := by unfold w32; omega
  unfold word4
  rw [e1, e2, e3, e4, or_add 24 a (65536 * b) (by omega) (by omega)]
  rw [show 2 ^ 24 * a + 65536 * b = 2 ^ 16 * (256 * a + b) by omega, or_add 16 (256 * a + b) (256 * c) (by omega) (by omega)]
  rw [show 2 ^ 16 * (256 * a + b) + 256 * c = 2 ^ 8 * (65536 * a + 256 * b + c) by omega, or_add 8 _ d (by omega) (by omega)]
  omega
end Go.Proofs.YtnlhhjokaekdhaaDoor.R4
