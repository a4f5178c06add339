/- The sum of layer 4, as plain functions on integers. -/
import Derived.Test.YtnlhhjokaekdhaaDoorRot4
set_option linter.unusedVariables false
namespace Go.Proofs.YtnlhhjokaekdhaaDoor
open Go.RowKit

abbrev w32 (x : Int) : Int := x % 4294967296
abbrev xor32 (x y : Int) : Int := bits .xor .u32 x y
abbrev and32 (x y : Int) : Int := bits .and .u32 x y
abbrev or32 (x y : Int) : Int := bits .or .u32 x y
def byteI (l : List UInt8) (i : Nat) : Int := ((l.getD i 0).toNat : Int)
def word4 (a b c d : Int) : Int := or32 (or32 (or32 (w32 (w32 a * 16777216)) (w32 (w32 b * 65536))) (w32 (w32 c * 256))) (w32 d)
def wd (l : List UInt8) (i : Nat) : Int := word4 (byteI l (4 * i)) (byteI l (4 * i + 1)) (byteI l (4 * i + 2)) (byteI l (4 * i + 3))
def sig0 (x : Int) : Int := xor32 (xor32 (rotI x 33554432 128) (rotI x 16384 262144)) (x / 8)
def sig1 (x : Int) : Int := xor32 (xor32 (rotI x 32768 131072) (rotI x 8192 524288)) (x / 1024)
def schN (ws : List Int) (n : Nat) : Int := w32 (ws.getD (n - 16) 0 + sig0 (ws.getD (n - 15) 0) + ws.getD (n - 7) 0 + sig1 (ws.getD (n - 2) 0))
/-- The first n numbers of a block. -/
def sch (l : List UInt8) : Nat → List Int
  | 0 => []
  | n + 1 => sch l n ++ [if n < 16 then wd l n else schN (sch l n) n]
theorem sch_len (l : List UInt8) : ∀ n, (sch l n).length = n
  | 0 => rfl
  | n + 1 => by simp [sch, sch_len l n]
/-- A row of 64 numbers, the first of which are these. -/
def pad (ws : List Int) : Array Value := (ws.map (Value.int .u32) ++ List.replicate (64 - ws.length) (Value.int .u32 0)).toArray
theorem pad_get {ws : List Int} {i : Nat} (h : i < ws.length) : (pad ws)[i]? = some (Value.int .u32 (ws.getD i 0)) := by
  unfold pad
  rw [List.getElem?_toArray, List.getElem?_append_left (by simpa using h)]
  simp [List.getD, h]
theorem pad_set {ws : List Int} (h : ws.length < 64) (x : Int) : (pad ws).setIfInBounds ws.length (Value.int .u32 x) = pad (ws ++ [x]) := by
  unfold pad
  obtain ⟨n, hn⟩ : ∃ n, 64 - ws.length = n + 1 := ⟨64 - ws.length - 1, by omega⟩
  have e : 64 - (ws ++ [x]).length = n := by simp; omega
  rw [e, hn, List.replicate_succ]
  apply Array.ext'
  simp
theorem pad_full {ws : List Int} (h : ws.length = 64) : pad ws = (ws.map (Value.int .u32)).toArray := by
  unfold pad
  rw [h]
  simp
end Go.Proofs.YtnlhhjokaekdhaaDoor
