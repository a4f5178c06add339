/- The document's triples: In. -/
import Derived.Test.YtfbmabbehiicmaaPerc4
set_option linter.unusedVariables false
namespace Go.Proofs.Ytfbmabbehiicmaa
open Go.RowKit

theorem ret_ins {b : Bool} {k : Int} {c : UInt8} (h : inS k c = b) : Ending.returned (.bool b) = .returned (.bool (inS k c)) := by rw [h]
theorem byte_of {c : UInt8} {n : Nat} (h : c.toNat = n) (hn : n < 256) : c = UInt8.ofNat n := by
  rw [← UInt8.toNat_inj, h]
  simp
  omega
/-- Whether a byte is one of those that stand in the sets. -/
def inAll : List UInt8 := [32, 34, 35, 60, 62, 63, 94, 96, 123, 125, 47, 58, 59, 61, 64, 91, 92, 93, 124, 36, 37, 38, 43, 44, 39]
set_option maxRecDepth 100000 in
theorem in_all {k : Int} {c : UInt8} (h : inAll.contains c = false) : (setL k).contains c = false := by
  unfold setL
  simp only [inAll, List.contains_cons, List.contains_nil, Bool.or_false, Bool.or_eq_false_iff] at h
  repeat' split
  all_goals simp only [List.contains_cons, List.contains_nil, Bool.or_false, Bool.or_eq_false_iff]
  all_goals simp only [h, and_self]

def tabS (c : UInt8) (b1 b2 b3 b4 b5 b6 : Bool) : Bool :=
  bif b1 then inS 1 c else bif b2 then inS 2 c else bif b3 then inS 3 c else bif b4 then inS 4 c else bif b5 then inS 5 c else bif b6 then inS 6 c else inS 0 c
theorem ins_tab (k : Int) (c : UInt8) : inS k c = tabS c (k == 1) (k == 2) (k == 3) (k == 4) (k == 5) (k == 6) := by
  unfold tabS
  by_cases h1 : k = 1
  · subst h1; rfl
  by_cases h2 : k = 2
  · subst h2; rfl
  by_cases h3 : k = 3
  · subst h3; rfl
  by_cases h4 : k = 4
  · subst h4; rfl
  by_cases h5 : k = 5
  · subst h5; rfl
  by_cases h6 : k = 6
  · subst h6; rfl
  rw [beq_eq_false_iff_ne.2 h1, beq_eq_false_iff_ne.2 h2, beq_eq_false_iff_ne.2 h3, beq_eq_false_iff_ne.2 h4, beq_eq_false_iff_ne.2 h5, beq_eq_false_iff_ne.2 h6]
  simp only [cond_false]
  unfold inS
  have e : setL k = setL 0 := by
    unfold setL
    simp only [if_neg h1, if_neg h2, if_neg h3, if_neg h4, if_neg h5, if_neg h6]
    decide
  rw [e]

set_option maxHeartbeats 64000000 in
set_option maxRecDepth 100000 in
theorem rin_any (k : Int) (c : UInt8) (w : World) : Calls Try.prog 16 #[.int .i64 k, .int .u8 c.toNat] w fun e w' => e = .returned (.bool (inS k c)) ∧ w = w' := by
  have hb8 := c.toNat_lt
  by_cases hl : c.toNat < 32
  · have hi := Lib.hid (ins_high k (c := c) (.inl (by omega)))
    go_enter Try.func16, Try.ntmps16
    go_wp2_with fail
    go_ret
    exact ⟨ret_ins hi.out, rfl⟩
  · by_cases hh : 126 < c.toNat
    · have hi := Lib.hid (ins_high k (c := c) (.inr (by omega)))
      go_enter Try.func16, Try.ntmps16
      go_wp2_with fail
      go_ret
      exact ⟨ret_ins hi.out, rfl⟩
    · cases ha : inAll.contains c with
      | false =>
        have hi : Hid (inS k c = false) := by
          show inS k c = false
          unfold inS
          rw [in_all ha, decide_eq_false hl, decide_eq_false hh]
          rfl
        have f : ∀ n, n ∈ inAll → ((c.toNat : Int) == (n.toNat : Int)) = false := by
          intro n hn
          rw [beq_eq_false_iff_ne]
          intro e
          have : c = n := UInt8.toNat_inj.1 (by omega)
          subst this
          rw [List.contains_iff_mem.2 hn] at ha
          cases ha
        clear ha
        have f1 : ((c.toNat : Int) == 32) = false := f 32 (by decide)
        have f2 : ((c.toNat : Int) == 34) = false := f 34 (by decide)
        have f3 : ((c.toNat : Int) == 35) = false := f 35 (by decide)
        have f4 : ((c.toNat : Int) == 60) = false := f 60 (by decide)
        have f5 : ((c.toNat : Int) == 62) = false := f 62 (by decide)
        have f6 : ((c.toNat : Int) == 63) = false := f 63 (by decide)
        have f7 : ((c.toNat : Int) == 94) = false := f 94 (by decide)
        have f8 : ((c.toNat : Int) == 96) = false := f 96 (by decide)
        have f9 : ((c.toNat : Int) == 123) = false := f 123 (by decide)
        have f10 : ((c.toNat : Int) == 125) = false := f 125 (by decide)
        have f11 : ((c.toNat : Int) == 47) = false := f 47 (by decide)
        have f12 : ((c.toNat : Int) == 58) = false := f 58 (by decide)
        have f13 : ((c.toNat : Int) == 59) = false := f 59 (by decide)
        have f14 : ((c.toNat : Int) == 61) = false := f 61 (by decide)
        have f15 : ((c.toNat : Int) == 64) = false := f 64 (by decide)
        have f16 : ((c.toNat : Int) == 91) = false := f 91 (by decide)
        have f17 : ((c.toNat : Int) == 92) = false := f 92 (by decide)
        have f18 : ((c.toNat : Int) == 93) = false := f 93 (by decide)
        have f19 : ((c.toNat : Int) == 124) = false := f 124 (by decide)
        have f20 : ((c.toNat : Int) == 36) = false := f 36 (by decide)
        have f21 : ((c.toNat : Int) == 37) = false := f 37 (by decide)
        have f22 : ((c.toNat : Int) == 38) = false := f 38 (by decide)
        have f23 : ((c.toNat : Int) == 43) = false := f 43 (by decide)
        have f24 : ((c.toNat : Int) == 44) = false := f 44 (by decide)
        have f25 : ((c.toNat : Int) == 39) = false := f 39 (by decide)
        clear f
        go_enter Try.func16, Try.ntmps16
        go_wp2_with fail
        all_goals
          go_ret
          exact ⟨ret_ins hi.out, rfl⟩
      | true =>
        have hm : c ∈ inAll := List.contains_iff_mem.1 ha
        clear ha
        simp only [inAll, List.mem_cons, List.not_mem_nil, or_false] at hm
        rcases hm with rfl | rfl | rfl | rfl | rfl | rfl | rfl | rfl | rfl | rfl | rfl | rfl | rfl | rfl | rfl | rfl | rfl | rfl | rfl | rfl | rfl | rfl | rfl | rfl | rfl
        all_goals
          clear hl hh hb8
          go_enter Try.func16, Try.ntmps16
          go_wp2_with fail
          all_goals
            go_ret
            refine ⟨ret_ins ?_, rfl⟩
            rw [ins_tab]
            try rw [‹(k == 1) = false›]
            try rw [‹(k == 2) = false›]
            try rw [‹(k == 3) = false›]
            try rw [‹(k == 4) = false›]
            try rw [‹(k == 5) = false›]
            try rw [‹(k == 6) = false›]
            try rw [‹(k == 1) = true›]
            try rw [‹(k == 2) = true›]
            try rw [‹(k == 3) = true›]
            try rw [‹(k == 4) = true›]
            try rw [‹(k == 5) = true›]
            try rw [‹(k == 6) = true›]
            rfl
end Go.Proofs.Ytfbmabbehiicmaa
