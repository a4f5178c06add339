/- Letters whose cases are turned: of no program. -/
import Derived.Test.YthgecembedjnaaaDoorLists2
import Derived.Test.YthgecembedjnaaaDoorBytes
set_option linter.unusedVariables false
namespace Go.Proofs.YthgecembedjnaaaDoor

def alB (x : UInt8) : Bool := alI (x.toNat : Int)
theorem all_bytes {p : UInt8 → Prop} [DecidablePred p] (h : (List.range 256).all (fun k => decide (p (UInt8.ofNat k))) = true) (x : UInt8) : p x := by
  have := List.all_eq_true.1 h x.toNat (List.mem_range.2 x.toNat_lt)
  simpa using this
theorem turn_low (x : UInt8) (h : alB x = true) : lowB (x ^^^ 32) = lowB x := by
  revert h
  exact all_bytes (p := fun x => alB x = true → lowB (x ^^^ 32) = lowB x) (by decide +kernel) x
theorem up_turn (x : UInt8) (h : isUp x = true) : x + 32 = x ^^^ 32 ∧ alB x = true ∧ isUp (x ^^^ 32) = false := by
  revert h
  exact all_bytes (p := fun x => isUp x = true → x + 32 = x ^^^ 32 ∧ alB x = true ∧ isUp (x ^^^ 32) = false) (by decide +kernel) x
theorem al_turn (x : UInt8) : alB (x ^^^ 32) = alB x := all_bytes (p := fun x => alB (x ^^^ 32) = alB x) (by decide +kernel) x
theorem xor_back (x y : UInt8) : (x ^^^ y) ^^^ y = x := by rw [UInt8.xor_assoc, UInt8.xor_self, UInt8.xor_zero]
theorem low_eq {x y : UInt8} (h : lowB y = lowB x) : y = x ∨ (alB x = true ∧ y = x ^^^ 32) := by
  unfold lowB at h
  by_cases hy : isUp y = true <;> by_cases hx : isUp x = true
  · rw [if_pos hy, if_pos hx] at h
    exact .inl (by have := congrArg (· - 32) h; simpa using this)
  · rw [if_pos hy, if_neg hx] at h
    have := up_turn y hy
    refine .inr ⟨?_, ?_⟩
    · rw [← h, this.1, al_turn]; exact this.2.1
    · rw [← h, this.1, xor_back]
  · rw [if_neg hy, if_pos hx] at h
    have := up_turn x hx
    exact .inr ⟨this.2.1, by rw [h, this.1]⟩
  · rw [if_neg hy, if_neg hx] at h
    exact .inl h
/-- Whether a byte that is struck with another one is the same but for its case. -/
theorem low_xor (x y : UInt8) : (lowB (x ^^^ y) == lowB x) = (y == 0 || (y == 32 && alB x)) := by
  rw [Bool.eq_iff_iff]
  simp only [beq_iff_eq, Bool.or_eq_true, Bool.and_eq_true]
  constructor
  · intro h
    rcases low_eq h with e | ⟨ha, e⟩
    · left
      have : x ^^^ (x ^^^ y) = x ^^^ x := by rw [e]
      rwa [← UInt8.xor_assoc, UInt8.xor_self, UInt8.zero_xor] at this
    · right
      refine ⟨?_, ha⟩
      have : x ^^^ (x ^^^ y) = x ^^^ (x ^^^ 32) := by rw [e]
      rwa [← UInt8.xor_assoc, ← UInt8.xor_assoc, UInt8.xor_self, UInt8.zero_xor, UInt8.zero_xor] at this
  · rintro (rfl | ⟨rfl, ha⟩)
    · rw [UInt8.xor_zero]
    · exact turn_low x ha
theorem lowL_set {l : List UInt8} {k : Nat} {x : UInt8} (hx : l[k]? = some x) {y : UInt8} (h : lowB y = lowB x) : lowL (l.set k y) = lowL l := by
  unfold lowL
  rw [List.map_set]
  apply List.ext_getElem?
  intro j
  rw [List.getElem?_set]
  by_cases hkj : k = j
  · subst hkj
    obtain ⟨hk, he⟩ := List.getElem?_eq_some_iff.1 hx
    simp [hk, h, he]
  · rw [if_neg hkj]
theorem lowL_idem (l : List UInt8) : lowL (lowL l) = lowL l := by
  unfold lowL
  rw [List.map_map]
  apply List.map_congr_left
  intro x _
  exact all_bytes (p := fun x => lowB (lowB x) = lowB x) (by decide +kernel) x
/-- A text one of whose bytes is struck with another one. -/
theorem same_set {s l : List UInt8} (hs : lowL l = lowL s) {k : Nat} {x : UInt8} (hx : l[k]? = some x) (y : UInt8) : sameL s (l.set k (x ^^^ y)) = (y == 0 || (y == 32 && alB x)) := by
  rw [← low_xor]
  unfold sameL
  rw [← hs]
  obtain ⟨hk, he⟩ := List.getElem?_eq_some_iff.1 hx
  cases hb : (lowB (x ^^^ y) == lowB x)
  · rw [beq_eq_false_iff_ne] at hb ⊢
    intro h
    apply hb
    unfold lowL at h
    rw [List.map_set] at h
    have := congrArg (·[k]?) h
    simpa [hk, he] using this.symm
  · rw [beq_iff_eq] at hb ⊢
    exact (lowL_set hx hb).symm
end Go.Proofs.YthgecembedjnaaaDoor
