/- What Parse tells of a directive's values: pure. -/
import Derived.Test.YtgaeecphohlmpabDoorNam29
set_option linter.unusedVariables false
namespace Go.Proofs.YtgaeecphohlmpabDoor
open Go.RowKit

def tttN : List UInt8 := [116, 114, 117, 115, 116, 101, 100, 45, 116, 121, 112, 101, 115]
def dupN : List UInt8 := [39, 97, 108, 108, 111, 119, 45, 100, 117, 112, 108, 105, 99, 97, 116, 101, 115, 39]
def isDup (x : List UInt8) : Bool := lowL x == dupN
def isStar (x : List UInt8) : Bool := x == [42]
theorem take_more {l : List (List UInt8)} {k : Nat} {x : List UInt8} (h : l[k]? = some x) : l.take (k + 1) = l.take k ++ [x] := by
  rw [List.take_add_one, h]; rfl
theorem filter_yes {l : List (List UInt8)} {k : Nat} {x : List UInt8} (h : l[k]? = some x) (hx : namL x = true) : (l.take (k + 1)).filter namL = (l.take k).filter namL ++ [x] := by
  rw [take_more h, List.filter_append]; simp [hx]
theorem filter_no {l : List (List UInt8)} {k : Nat} {x : List UInt8} (h : l[k]? = some x) (hx : namL x = false) : (l.take (k + 1)).filter namL = (l.take k).filter namL := by
  rw [take_more h, List.filter_append]; simp [hx]
theorem any_more {p : List UInt8 → Bool} {l : List (List UInt8)} {k : Nat} {x : List UInt8} (h : l[k]? = some x) : (l.take (k + 1)).any p = ((l.take k).any p || p x) := by
  rw [take_more h, List.any_append]; simp
theorem star_name {x : List UInt8} (h : isStar x = true) : namL x = false := by
  unfold isStar at h
  rw [beq_iff_eq.1 h]
  decide +kernel
theorem star_dup {x : List UInt8} (h : isStar x = true) : isDup x = false := by
  unfold isStar at h
  rw [beq_iff_eq.1 h]
  decide +kernel
theorem low39 : ∀ b : UInt8, lowB b = 39 → okI b.toNat = false := by
  intro b h
  by_cases hu : isUp b = true
  · have := lowB_up hu
    rw [h, isUp_iff] at *
    have e : (39 : UInt8).toNat = 39 := rfl
    rw [e] at this
    omega
  · rw [Bool.not_eq_true] at hu
    rw [lowB_not hu] at h
    subst h
    decide +kernel
theorem dup_name {x : List UInt8} (h : isDup x = true) : namL x = false := by
  unfold isDup at h
  have h1 := beq_iff_eq.1 h
  cases x with
  | nil => simp [lowL, dupN] at h1
  | cons b t =>
    have h2 : lowB b = 39 := by
      simp only [lowL, List.map_cons, dupN] at h1
      injection h1
    exact namL_bad (k := 0) (by simp) (by simpa using low39 b h2)
end Go.Proofs.YtgaeecphohlmpabDoor
