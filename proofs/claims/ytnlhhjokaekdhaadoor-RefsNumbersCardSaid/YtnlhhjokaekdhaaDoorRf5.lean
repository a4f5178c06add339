/- lazaretlaw09.finds, refers. -/
import Derived.Test.YtnlhhjokaekdhaaDoorRf4
set_option linter.unusedVariables false
set_option linter.unusedSimpArgs false
namespace Go.Proofs.YtnlhhjokaekdhaaDoor.R9
open Go.RowKit

set_option maxHeartbeats 1600000 in
set_option maxRecDepth 100000 in
theorem finds_any (s t : ByteArray) (b : Bool) (n : Nat) (w : World) (hT : RTab w) (h0 : 0 < s.size) (hs : s.size ≤ 5000) (hx : ret3 0 (findS s.data.toList b) = .tuple #[.string t, .int .i64 n, .bool (decide (0 < (n : Int)))]) :
    Calls Tryd.prog 40 #[.string s, .bool b, .string t, .int .i64 n] w fun e w' => e = .returned (.bool true) ∧ w = w' := by
  have H := Lib.hid (find_in s 0 b w hT h0 hs)
  rw [List.drop_zero, hx] at H
  have hq : (t.toList == t.toList) = true := by simp
  clear hx hT h0 hs
  by_cases hn : (0 : Int) < n
  · have hd : decide ((0 : Int) < (n : Int)) = true := decide_eq_true hn
    rw [hd] at H
    go_enter Tryd.func40, Tryd.ntmps40
    go_wp2_with fail
    refine H.out.mono ?_
    rintro e w' ⟨rfl, rfl⟩
    go_wp2_with fail
    go_ret
    exact ⟨ret_bool (decide_eq_true (by omega : 0 < n)), rfl⟩
  · have hd : decide ((0 : Int) < (n : Int)) = false := decide_eq_false hn
    rw [hd] at H
    go_enter Tryd.func40, Tryd.ntmps40
    go_wp2_with fail
    refine H.out.mono ?_
    rintro e w' ⟨rfl, rfl⟩
    go_wp2_with fail
    go_ret
    exact ⟨ret_bool (by rw [decide_eq_false (by omega : ¬ 0 < n)]; rfl), rfl⟩
set_option maxRecDepth 1000000 in
theorem rx0 : ret3 0 (findS [38, 97, 109, 112, 59, 120] true) = .tuple #[.string ⟨#[38]⟩, .int .i64 5, .bool true] := by kernel_rfl
theorem rf0 (w : World) (hT : RTab w) : Calls Tryd.prog 40 #[.string ⟨#[38, 97, 109, 112, 59, 120]⟩, .bool true, .string ⟨#[38]⟩, .int .i64 5] w fun e w' => e = .returned (.bool true) ∧ w = w' :=
  finds_any ⟨#[38, 97, 109, 112, 59, 120]⟩ ⟨#[38]⟩ true 5 w hT (by decide) (by decide) rx0
set_option maxRecDepth 1000000 in
theorem rx1 : ret3 0 (findS [38, 97, 109, 112, 120] false) = .tuple #[.string ⟨#[38]⟩, .int .i64 4, .bool true] := by kernel_rfl
theorem rf1 (w : World) (hT : RTab w) : Calls Tryd.prog 40 #[.string ⟨#[38, 97, 109, 112, 120]⟩, .bool false, .string ⟨#[38]⟩, .int .i64 4] w fun e w' => e = .returned (.bool true) ∧ w = w' :=
  finds_any ⟨#[38, 97, 109, 112, 120]⟩ ⟨#[38]⟩ false 4 w hT (by decide) (by decide) rx1
set_option maxRecDepth 1000000 in
theorem rx2 : ret3 0 (findS [38, 97, 109, 112, 120] true) = .tuple #[.string ⟨#[]⟩, .int .i64 0, .bool false] := by kernel_rfl
theorem rf2 (w : World) (hT : RTab w) : Calls Tryd.prog 40 #[.string ⟨#[38, 97, 109, 112, 120]⟩, .bool true, .string ⟨#[]⟩, .int .i64 0] w fun e w' => e = .returned (.bool true) ∧ w = w' :=
  finds_any ⟨#[38, 97, 109, 112, 120]⟩ ⟨#[]⟩ true 0 w hT (by decide) (by decide) rx2
set_option maxRecDepth 1000000 in
theorem rx3 : ret3 0 (findS [38, 110, 111, 116, 105, 110, 59] false) = .tuple #[.string ⟨#[226, 136, 137]⟩, .int .i64 7, .bool true] := by kernel_rfl
theorem rf3 (w : World) (hT : RTab w) : Calls Tryd.prog 40 #[.string ⟨#[38, 110, 111, 116, 105, 110, 59]⟩, .bool false, .string ⟨#[226, 136, 137]⟩, .int .i64 7] w fun e w' => e = .returned (.bool true) ∧ w = w' :=
  finds_any ⟨#[38, 110, 111, 116, 105, 110, 59]⟩ ⟨#[226, 136, 137]⟩ false 7 w hT (by decide) (by decide) rx3
set_option maxRecDepth 1000000 in
theorem rx4 : ret3 0 (findS [38, 110, 111, 116, 105, 116, 59] false) = .tuple #[.string ⟨#[194, 172]⟩, .int .i64 4, .bool true] := by kernel_rfl
theorem rf4 (w : World) (hT : RTab w) : Calls Tryd.prog 40 #[.string ⟨#[38, 110, 111, 116, 105, 116, 59]⟩, .bool false, .string ⟨#[194, 172]⟩, .int .i64 4] w fun e w' => e = .returned (.bool true) ∧ w = w' :=
  finds_any ⟨#[38, 110, 111, 116, 105, 116, 59]⟩ ⟨#[194, 172]⟩ false 4 w hT (by decide) (by decide) rx4
set_option maxRecDepth 1000000 in
theorem rx5 : ret3 0 (findS [38, 110, 111, 116, 105, 110] false) = .tuple #[.string ⟨#[194, 172]⟩, .int .i64 4, .bool true] := by kernel_rfl
theorem rf5 (w : World) (hT : RTab w) : Calls Tryd.prog 40 #[.string ⟨#[38, 110, 111, 116, 105, 110]⟩, .bool false, .string ⟨#[194, 172]⟩, .int .i64 4] w fun e w' => e = .returned (.bool true) ∧ w = w' :=
  finds_any ⟨#[38, 110, 111, 116, 105, 110]⟩ ⟨#[194, 172]⟩ false 4 w hT (by decide) (by decide) rx5
set_option maxRecDepth 1000000 in
theorem rx6 : ret3 0 (findS [38, 104, 101, 108, 108, 105, 112] false) = .tuple #[.string ⟨#[]⟩, .int .i64 0, .bool false] := by kernel_rfl
theorem rf6 (w : World) (hT : RTab w) : Calls Tryd.prog 40 #[.string ⟨#[38, 104, 101, 108, 108, 105, 112]⟩, .bool false, .string ⟨#[]⟩, .int .i64 0] w fun e w' => e = .returned (.bool true) ∧ w = w' :=
  finds_any ⟨#[38, 104, 101, 108, 108, 105, 112]⟩ ⟨#[]⟩ false 0 w hT (by decide) (by decide) rx6
set_option maxRecDepth 1000000 in
theorem rx7 : ret3 0 (findS [38, 35, 54, 53, 59, 98] false) = .tuple #[.string ⟨#[65]⟩, .int .i64 5, .bool true] := by kernel_rfl
theorem rf7 (w : World) (hT : RTab w) : Calls Tryd.prog 40 #[.string ⟨#[38, 35, 54, 53, 59, 98]⟩, .bool false, .string ⟨#[65]⟩, .int .i64 5] w fun e w' => e = .returned (.bool true) ∧ w = w' :=
  finds_any ⟨#[38, 35, 54, 53, 59, 98]⟩ ⟨#[65]⟩ false 5 w hT (by decide) (by decide) rx7
set_option maxRecDepth 1000000 in
theorem rx8 : ret3 0 (findS [38, 35, 120, 52, 49, 103] true) = .tuple #[.string ⟨#[65]⟩, .int .i64 5, .bool true] := by kernel_rfl
theorem rf8 (w : World) (hT : RTab w) : Calls Tryd.prog 40 #[.string ⟨#[38, 35, 120, 52, 49, 103]⟩, .bool true, .string ⟨#[65]⟩, .int .i64 5] w fun e w' => e = .returned (.bool true) ∧ w = w' :=
  finds_any ⟨#[38, 35, 120, 52, 49, 103]⟩ ⟨#[65]⟩ true 5 w hT (by decide) (by decide) rx8
set_option maxRecDepth 1000000 in
theorem rx9 : ret3 0 (findS [38, 35, 48] false) = .tuple #[.string ⟨#[239, 191, 189]⟩, .int .i64 3, .bool true] := by kernel_rfl
theorem rf9 (w : World) (hT : RTab w) : Calls Tryd.prog 40 #[.string ⟨#[38, 35, 48]⟩, .bool false, .string ⟨#[239, 191, 189]⟩, .int .i64 3] w fun e w' => e = .returned (.bool true) ∧ w = w' :=
  finds_any ⟨#[38, 35, 48]⟩ ⟨#[239, 191, 189]⟩ false 3 w hT (by decide) (by decide) rx9
set_option maxRecDepth 1000000 in
theorem rx10 : ret3 0 (findS [38, 35, 120, 56, 48] false) = .tuple #[.string ⟨#[226, 130, 172]⟩, .int .i64 5, .bool true] := by kernel_rfl
theorem rf10 (w : World) (hT : RTab w) : Calls Tryd.prog 40 #[.string ⟨#[38, 35, 120, 56, 48]⟩, .bool false, .string ⟨#[226, 130, 172]⟩, .int .i64 5] w fun e w' => e = .returned (.bool true) ∧ w = w' :=
  finds_any ⟨#[38, 35, 120, 56, 48]⟩ ⟨#[226, 130, 172]⟩ false 5 w hT (by decide) (by decide) rx10
set_option maxRecDepth 1000000 in
theorem rx11 : ret3 0 (findS [38, 35, 120, 68, 56, 48, 48, 59] false) = .tuple #[.string ⟨#[239, 191, 189]⟩, .int .i64 8, .bool true] := by kernel_rfl
theorem rf11 (w : World) (hT : RTab w) : Calls Tryd.prog 40 #[.string ⟨#[38, 35, 120, 68, 56, 48, 48, 59]⟩, .bool false, .string ⟨#[239, 191, 189]⟩, .int .i64 8] w fun e w' => e = .returned (.bool true) ∧ w = w' :=
  finds_any ⟨#[38, 35, 120, 68, 56, 48, 48, 59]⟩ ⟨#[239, 191, 189]⟩ false 8 w hT (by decide) (by decide) rx11
set_option maxRecDepth 1000000 in
theorem rx12 : ret3 0 (findS [38, 35] false) = .tuple #[.string ⟨#[]⟩, .int .i64 0, .bool false] := by kernel_rfl
theorem rf12 (w : World) (hT : RTab w) : Calls Tryd.prog 40 #[.string ⟨#[38, 35]⟩, .bool false, .string ⟨#[]⟩, .int .i64 0] w fun e w' => e = .returned (.bool true) ∧ w = w' :=
  finds_any ⟨#[38, 35]⟩ ⟨#[]⟩ false 0 w hT (by decide) (by decide) rx12
set_option maxRecDepth 1000000 in
theorem rx13 : ret3 0 (findS [38, 35, 120] false) = .tuple #[.string ⟨#[]⟩, .int .i64 0, .bool false] := by kernel_rfl
theorem rf13 (w : World) (hT : RTab w) : Calls Tryd.prog 40 #[.string ⟨#[38, 35, 120]⟩, .bool false, .string ⟨#[]⟩, .int .i64 0] w fun e w' => e = .returned (.bool true) ∧ w = w' :=
  finds_any ⟨#[38, 35, 120]⟩ ⟨#[]⟩ false 0 w hT (by decide) (by decide) rx13
set_option maxRecDepth 1000000 in
theorem rx14 : ret3 0 (findS [97] false) = .tuple #[.string ⟨#[]⟩, .int .i64 0, .bool false] := by kernel_rfl
theorem rf14 (w : World) (hT : RTab w) : Calls Tryd.prog 40 #[.string ⟨#[97]⟩, .bool false, .string ⟨#[]⟩, .int .i64 0] w fun e w' => e = .returned (.bool true) ∧ w = w' :=
  finds_any ⟨#[97]⟩ ⟨#[]⟩ false 0 w hT (by decide) (by decide) rx14
set_option maxHeartbeats 3200000 in
set_option maxRecDepth 100000 in
theorem refers_any (w : World) (hT : RTab w) : Calls Tryd.prog 21 #[] w fun e w' => e = .returned (.bool true) ∧ w = w' := by
  have HT := Lib.hid hT
  clear hT
  go_enter Tryd.func21, Tryd.ntmps21
  go_wp2_with fail
  refine (rf0 _ HT.out).mono ?_
  rintro e w' ⟨rfl, rfl⟩
  go_wp2_with fail
  refine (rf1 _ HT.out).mono ?_
  rintro e w' ⟨rfl, rfl⟩
  go_wp2_with fail
  refine (rf2 _ HT.out).mono ?_
  rintro e w' ⟨rfl, rfl⟩
  go_wp2_with fail
  refine (rf3 _ HT.out).mono ?_
  rintro e w' ⟨rfl, rfl⟩
  go_wp2_with fail
  refine (rf4 _ HT.out).mono ?_
  rintro e w' ⟨rfl, rfl⟩
  go_wp2_with fail
  refine (rf5 _ HT.out).mono ?_
  rintro e w' ⟨rfl, rfl⟩
  go_wp2_with fail
  refine (rf6 _ HT.out).mono ?_
  rintro e w' ⟨rfl, rfl⟩
  go_wp2_with fail
  refine (rf7 _ HT.out).mono ?_
  rintro e w' ⟨rfl, rfl⟩
  go_wp2_with fail
  refine (rf8 _ HT.out).mono ?_
  rintro e w' ⟨rfl, rfl⟩
  go_wp2_with fail
  refine (rf9 _ HT.out).mono ?_
  rintro e w' ⟨rfl, rfl⟩
  go_wp2_with fail
  refine (rf10 _ HT.out).mono ?_
  rintro e w' ⟨rfl, rfl⟩
  go_wp2_with fail
  refine (rf11 _ HT.out).mono ?_
  rintro e w' ⟨rfl, rfl⟩
  go_wp2_with fail
  refine (rf12 _ HT.out).mono ?_
  rintro e w' ⟨rfl, rfl⟩
  go_wp2_with fail
  refine (rf13 _ HT.out).mono ?_
  rintro e w' ⟨rfl, rfl⟩
  go_wp2_with fail
  refine (rf14 _ HT.out).mono ?_
  rintro e w' ⟨rfl, rfl⟩
  go_wp2_with fail
  go_ret
  exact ⟨by exact rfl, rfl⟩
end Go.Proofs.YtnlhhjokaekdhaaDoor.R9
