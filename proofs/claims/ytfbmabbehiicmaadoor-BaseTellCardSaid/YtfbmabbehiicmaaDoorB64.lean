/- Bytes in 64 letters, on lists. Of no program. -/
import Derived.Test.YtfbmabbehiicmaaDoorBits2
import Derived.Test.YtfbmabbehiicmaaDoorBuild
set_option linter.unusedVariables false
namespace Go.Proofs.YtfbmabbehiicmaaDoor

def alphB : ByteArray := ⟨#[65, 66, 67, 68, 69, 70, 71, 72, 73, 74, 75, 76, 77, 78, 79, 80, 81, 82, 83, 84, 85, 86, 87, 88, 89, 90, 97, 98, 99, 100, 101, 102, 103, 104, 105, 106, 107, 108, 109, 110, 111, 112, 113, 114, 115, 116, 117, 118, 119, 120, 121, 122, 48, 49, 50, 51, 52, 53, 54, 55, 56, 57, 43, 47]⟩
def L64 (n : Nat) : UInt8 := alphB.data.toList.getD n 0
def emitE (b h : Nat) : List UInt8 := if h = 12 then [L64 (b / 64 % 64), L64 (b % 64)] else if h = 10 then [L64 (b / 16 % 64)] else if h = 8 then [L64 (b / 4 % 64)] else if h = 6 then [L64 (b % 64)] else []
def stepB (B : Nat) (c : UInt8) : Nat := (B * 256 + c.toNat) % 65536
/-- The letters of bytes, the rest B of H bits ahead of them. -/
def encA (B H : Nat) : List UInt8 → List UInt8
  | [] => if H = 0 then [] else [L64 (B * 2 ^ (6 - H) % 64)]
  | c :: r => emitE (stepB B c) (H + 8) ++ encA (stepB B c) ((H + 8) % 6) r
def padE (l : List UInt8) : List UInt8 := l ++ List.replicate ((4 - l.length % 4) % 4) 61
def encE (l : List UInt8) : List UInt8 := padE (encA 0 0 l)
theorem step_int (B : Nat) (c : UInt8) (hB : B < 65536) : bits .and .i64 (bits .or .i64 ((B : Int) * 256) (c.toNat : Int)) 65535 = ((stepB B c : Nat) : Int) := by
  have hc := c.toNat_lt
  have h1 : ((B : Int) * 256) = ((B * 2 ^ 8 : Nat) : Int) := by omega
  rw [h1, bits_or_nat _ _ (by omega) (by omega), or_shift _ _ 8 (by omega)]
  have h2 : (65535 : Int) = ((2 ^ 16 - 1 : Nat) : Int) := rfl
  rw [h2, bits_mask _ 16 (by omega) (by decide)]
  unfold stepB
  rfl
theorem stepB_lt (B : Nat) (c : UInt8) : stepB B c < 65536 := Nat.mod_lt _ (by decide)
theorem u_dropB {s : ByteArray} {k : Nat} (hk : k < s.size) : s.data.toList.drop k = s[k] :: s.data.toList.drop (k + 1) := by
  rw [List.drop_eq_getElem_cons (by simpa using hk)]
  rfl
theorem mask63 (a : Nat) (h : a < 4611686018427387904) : bits .and .i64 (a : Int) 63 = ((a % 64 : Nat) : Int) := bits_mask a 6 h (by decide)
theorem L64_at (n : Nat) (h : n < 64) : alphB[n]'(by exact h) = L64 n := by
  unfold L64
  rw [List.getD_eq_getElem?_getD, List.getElem?_eq_getElem (by show n < 64; exact h)]
  rfl
theorem encA_len : ∀ (l : List UInt8) (B H : Nat), H = 0 ∨ H = 2 ∨ H = 4 → (encA B H l).length ≤ 2 * l.length + 1
  | [], B, H, _ => by unfold encA; split <;> simp
  | c :: r, B, H, h => by
    have ih := encA_len r (stepB B c) ((H + 8) % 6) (by omega)
    unfold encA
    rw [List.length_append, List.length_cons]
    have : (emitE (stepB B c) (H + 8)).length ≤ 2 := by
      unfold emitE
      repeat' split
      all_goals simp
    omega
theorem emit_step {B h : Nat} (hh : h = 12 ∨ h = 10 ∨ h = 8 ∨ h = 6) : ∃ n, n < 64 ∧ emitE B h = L64 n :: emitE B (h - 6) ∧ n = B / 2 ^ (h - 6) % 64 := by
  refine ⟨B / 2 ^ (h - 6) % 64, Nat.mod_lt _ (by decide), ?_, rfl⟩
  rcases hh with rfl | rfl | rfl | rfl <;> simp [emitE]
theorem L64_cells (o : List UInt8) (n : Nat) (h : n < 64) : Lib.byteCells o ++ [Value.int .u8 ((alphB[n]'(by exact h)).toNat : Int)] = Lib.byteCells (o ++ [L64 n]) := by
  rw [Lib.byteCells_append, L64_at n h]
  rfl
theorem tail_int (B H : Nat) (hB : B < 65536) (h : H = 2 ∨ H = 4) : ∃ n, n < 64 ∧ [L64 (B * 2 ^ (6 - H) % 64)] = [L64 n] ∧ n = B * 2 ^ (6 - H) % 64 :=
  ⟨_, Nat.mod_lt _ (by decide), rfl, rfl⟩
theorem pad_more (o p : List UInt8) (g : Nat) (hg : g ≤ 3) (h : (o.length + g) % 4 = 0) : padE o = o ++ List.replicate g 61 := by
  unfold padE
  rw [show (4 - o.length % 4) % 4 = g by omega]
end Go.Proofs.YtfbmabbehiicmaaDoor
