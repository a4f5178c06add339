/- The document's Decode: its small functions. -/
import Derived.Test.YtfbmabbehiicmaaDoorUtf
import Derived.Test.YtfbmabbehiicmaaDoorBytes
set_option linter.unusedVariables false
namespace Go.Proofs.YtfbmabbehiicmaaDoor
open Go.RowKit

theorem ret_i {a b : Int} (h : a = b) : Ending.returned (.int .i64 a) = .returned (.int .i64 b) := by rw [h]
set_option maxHeartbeats 1000000 in
theorem rmore_any (c : Int) (w : World) : Calls Tryd.prog 31 #[.int .u8 c] w fun e w' => e = .returned (.int .i64 (moreI c)) ∧ w = w' := by
  have hc : c < 128 ∨ (128 ≤ c ∧ c < 194) ∨ (194 ≤ c ∧ c ≤ 223) ∨ (224 ≤ c ∧ c ≤ 239) ∨ (240 ≤ c ∧ c ≤ 244) ∨ 244 < c := by omega
  rcases hc with h | h | h | h | h | h
  all_goals
    go_enter Tryd.func31, Tryd.ntmps31
    go_wp2_with fail
    go_ret
    refine ⟨ret_i ?_, rfl⟩
    unfold moreI
    repeat' split
    all_goals omega
set_option maxHeartbeats 1000000 in
theorem rmay_any (f c k : Int) (w : World) : Calls Tryd.prog 30 #[.int .u8 f, .int .u8 c, .int .i64 k] w fun e w' => e = .returned (.bool (mayI f c k)) ∧ w = w' := by
  have hc : c < 128 ∨ (128 ≤ c ∧ 191 < c) ∨ (128 ≤ c ∧ c ≤ 191) := by omega
  rcases hc with h | h | h
  · go_enter Tryd.func30, Tryd.ntmps30
    go_wp2_with fail
    go_ret
    refine ⟨ret_bool ?_, rfl⟩
    unfold mayI; rw [Bool.eq_iff_iff]; simp; omega
  · go_enter Tryd.func30, Tryd.ntmps30
    go_wp2_with fail
    go_ret
    refine ⟨ret_bool ?_, rfl⟩
    unfold mayI; rw [Bool.eq_iff_iff]; simp; omega
  · by_cases hk : 1 < k
    · go_enter Tryd.func30, Tryd.ntmps30
      go_wp2_with fail
      go_ret
      refine ⟨ret_bool ?_, rfl⟩
      unfold mayI; rw [Bool.eq_iff_iff]; simp; omega
    · go_enter Tryd.func30, Tryd.ntmps30
      go_wp2_with fail
      all_goals
        go_ret
        refine ⟨ret_bool ?_, rfl⟩
        unfold mayI lowI highI
        rw [Bool.eq_iff_iff]
        simp_all
        try omega
end Go.Proofs.YtfbmabbehiicmaaDoor
