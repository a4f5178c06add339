/- Plain functions on lists of bytes for layer 2, and what is true of them. No program. -/
import Derived.Test.YteeplfbaflldaaaDoorBytes
namespace Go.Proofs.YteeplfbaflldaaaDoor

def isUp (x : UInt8) : Bool := upI (x.toNat : Int)
def isSp (x : UInt8) : Bool := spI (x.toNat : Int)
def isAl (x : UInt8) : Bool := alI (x.toNat : Int)
def lowB (x : UInt8) : UInt8 := if isUp x then x + 32 else x
def lowL (l : List UInt8) : List UInt8 := l.map lowB
def sameL (a b : List UInt8) : Bool := lowL a == lowL b
def stripFront (l : List UInt8) : List UInt8 := l.dropWhile isSp
def stripL (l : List UInt8) : List UInt8 := ((l.dropWhile isSp).reverse.dropWhile isSp).reverse

theorem isUp_iff (x : UInt8) : isUp x = true ↔ 65 ≤ x.toNat ∧ x.toNat ≤ 90 := by
  unfold isUp upI; simp; omega
theorem lowB_up {x : UInt8} (h : isUp x = true) : ((lowB x).toNat : Int) = x.toNat + 32 := by
  unfold lowB
  rw [if_pos h]
  have := (isUp_iff x).1 h
  rw [UInt8.toNat_add]
  simp
  omega
theorem lowB_not {x : UInt8} (h : isUp x = false) : lowB x = x := by
  unfold lowB; rw [h]; rfl
theorem lowL_id {l : List UInt8} (h : ∀ x ∈ l, isUp x = false) : lowL l = l := by
  induction l with
  | nil => rfl
  | cons x r ih =>
    simp only [lowL, List.map_cons]
    rw [lowB_not (h x (by simp))]
    congr 1
    exact ih fun y hy => h y (by simp [hy])
theorem take_snoc (s : ByteArray) (k : Nat) (h : k < s.size) : s.data.toList.take (k + 1) = s.data.toList.take k ++ [s[k]] := by
  rw [List.take_succ_eq_append_getElem (by simpa using h)]; rfl

/-! Strings and what is cut out of them -/
def dropEnd (l : List UInt8) : List UInt8 := (l.reverse.dropWhile isSp).reverse
theorem stripL_eq (l : List UInt8) : stripL l = dropEnd (stripFront l) := rfl
theorem ext_toList (s : ByteArray) (a b : Nat) : (s.extract a b).data.toList = (s.data.toList.drop a).take (b - a) := by
  simp [ByteArray.data_extract, Array.toList_extract, List.extract_eq_take_drop]
theorem ext_tail (s : ByteArray) (a : Nat) : (s.extract a s.size).data.toList = s.data.toList.drop a := by
  rw [ext_toList]
  apply List.take_of_length_le
  simp
theorem ext_init (s : ByteArray) (b : Nat) : (s.extract 0 b).data.toList = s.data.toList.take b := by
  rw [ext_toList]; simp
theorem toList_cons (s : ByteArray) (h : 0 < s.size) : s.data.toList = s[0] :: s.data.toList.drop 1 := by
  have : 0 < s.data.toList.length := by simpa using h
  rw [← List.drop_zero (l := s.data.toList), List.drop_eq_getElem_cons this]
  rfl
theorem toList_snoc (s : ByteArray) (h : 0 < s.size) : s.data.toList = s.data.toList.take (s.size - 1) ++ [s[s.size - 1]'(by omega)] := by
  rw [← take_snoc s (s.size - 1) (by omega), show s.size - 1 + 1 = s.size by omega]
  exact (List.take_of_length_le (by simp)).symm
theorem stripFront_sp {s : ByteArray} (h : 0 < s.size) (hs : isSp s[0] = true) : stripFront s.data.toList = stripFront (s.data.toList.drop 1) := by
  conv => lhs; rw [toList_cons s h]
  simp [stripFront, hs]
theorem stripFront_not {s : ByteArray} (h : 0 < s.size) (hs : isSp s[0] = false) : stripFront s.data.toList = s.data.toList := by
  rw [toList_cons s h]
  simp [stripFront, hs]
theorem dropEnd_sp {s : ByteArray} (h : 0 < s.size) (hs : isSp (s[s.size - 1]'(by omega)) = true) : dropEnd s.data.toList = dropEnd (s.data.toList.take (s.size - 1)) := by
  conv => lhs; rw [toList_snoc s h]
  simp [dropEnd, hs]
theorem dropEnd_not {s : ByteArray} (h : 0 < s.size) (hs : isSp (s[s.size - 1]'(by omega)) = false) : dropEnd s.data.toList = s.data.toList := by
  rw [toList_snoc s h]
  simp [dropEnd, hs]
theorem toList_nil {s : ByteArray} (h : s.size = 0) : s.data.toList = [] := by
  apply List.eq_nil_of_length_eq_zero; simpa using h

def strSize : Go.Value → Nat
  | .string t => t.size
  | _ => 0
end Go.Proofs.YteeplfbaflldaaaDoor
