/- Letters back to bytes, on lists. Of no program. -/
import Derived.Test.YtfbmabbehiicmaaDoorB64m
set_option linter.unusedVariables false
namespace Go.Proofs.YtfbmabbehiicmaaDoor

def stepD (B v : Nat) : Nat := (B * 64 + v) % 65536
/-- The bytes of letters, the rest B of H bits ahead of them. -/
def decA (B H : Nat) : List UInt8 → Option (List UInt8)
  | [] => if B % 2 ^ H = 0 then some [] else none
  | c :: r => match valN c.toNat with
    | none => none
    | some v => if H = 0 then decA (stepD B v) 6 r else (decA (stepD B v) (H - 2) r).map fun t => UInt8.ofNat (stepD B v / 2 ^ (H - 2) % 256) :: t
def unpadE (l : List UInt8) : List UInt8 := if l.length % 4 ≠ 0 then l else Lib.trimSuffix (Lib.trimSuffix l [61]) [61]
def decE (l : List UInt8) : Option (List UInt8) := if (unpadE l).length % 4 = 1 then none else decA 0 0 (unpadE l)
theorem valN_lt {c v : Nat} (h : valN c = some v) : v < 64 := by
  unfold valN at h
  repeat' split at h
  all_goals first
    | (injection h with h; omega)
    | cases h
theorem stepD_int (B v : Nat) (hB : B < 65536) (hv : v < 64) : bits .and .i64 (bits .or .i64 ((B : Int) * 64) (v : Int)) 65535 = ((stepD B v : Nat) : Int) := by
  have h1 : ((B : Int) * 64) = ((B * 2 ^ 6 : Nat) : Int) := by omega
  rw [h1, bits_or_nat _ _ (by omega) (by omega), or_shift _ _ 6 (by omega)]
  have h2 : (65535 : Int) = ((2 ^ 16 - 1 : Nat) : Int) := rfl
  rw [h2, bits_mask _ 16 (by omega) (by decide)]
  rfl
theorem stepD_lt (B v : Nat) : stepD B v < 65536 := Nat.mod_lt _ (by decide)
theorem unpad_len (l : List UInt8) : (unpadE l).length ≤ l.length := by
  unfold unpadE Lib.trimSuffix
  repeat' split
  all_goals (try simp)
  all_goals omega
/-- What Decode hands back. -/
def DecRes (r : Option (List UInt8)) (e : Ending) : Prop := e = .returned (.tuple #[.string ⟨(r.getD []).toArray⟩, .int .i64 (if r.isSome = true then 0 else 30)])
theorem decRes_none : DecRes none (.returned (.tuple #[.string ⟨#[]⟩, .int .i64 30])) := rfl
theorem decRes_some (t : List UInt8) : DecRes (some t) (.returned (.tuple #[.string ⟨t.toArray⟩, .int .i64 0])) := rfl
theorem decA_cons {B H : Nat} {c : UInt8} {r : List UInt8} {v : Nat} (h : valN c.toNat = some v) (h0 : H ≠ 0) : decA B H (c :: r) = (decA (stepD B v) (H - 2) r).map fun t => UInt8.ofNat (stepD B v / 2 ^ (H - 2) % 256) :: t := by
  rw [decA, h]
  simp [h0]
theorem decA_cons0 {B : Nat} {c : UInt8} {r : List UInt8} {v : Nat} (h : valN c.toNat = some v) : decA B 0 (c :: r) = decA (stepD B v) 6 r := by
  rw [decA, h]
  simp
theorem decA_bad {B H : Nat} {c : UInt8} {r : List UInt8} (h : valN c.toNat = none) : decA B H (c :: r) = none := by
  rw [decA, h]
theorem mask_low (B H : Nat) (hB : B < 65536) (hH : H ≤ 6) : bits .and .i64 (B : Int) ((2 ^ H - 1 : Nat) : Int) = ((B % 2 ^ H : Nat) : Int) :=
  bits_mask B H (by omega) (by have : 2 ^ H ≤ 2 ^ 6 := Nat.pow_le_pow_right (by decide) hH
                               omega)
theorem byte_cells (o : List UInt8) (z : Int) (n : Nat) (h : z = ((n % 256 : Nat) : Int)) : Lib.byteCells o ++ [Value.int .u8 z] = Lib.byteCells (o ++ [UInt8.ofNat (n % 256)]) := by
  rw [Lib.byteCells_append, h]
  congr 1
  show [Value.int .u8 _] = [Value.int .u8 (((UInt8.ofNat (n % 256)).toNat : Nat) : Int)]
  rw [show (UInt8.ofNat (n % 256)).toNat = n % 256 by simp]
end Go.Proofs.YtfbmabbehiicmaaDoor
