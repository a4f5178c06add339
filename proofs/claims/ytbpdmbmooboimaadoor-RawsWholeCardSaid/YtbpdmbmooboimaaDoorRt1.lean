/- lazaretref09.begins, Char. -/
import Derived.Test.YtbpdmbmooboimaaDoorRt0
set_option linter.unusedVariables false
set_option linter.unusedSimpArgs false
namespace Go.Proofs.YtbpdmbmooboimaaDoor.R9
open Go.RowKit

theorem begins_any (s t : ByteArray) (a : Nat) (w : World) (ha : a ≤ s.size) (hs : s.size ≤ 5000) (ht : t.size ≤ 5000) :
    Calls Tryd.prog 75 #[.string s, .int .i64 a, .string t] w fun e w' => e = .returned (.bool (pref (s.data.toList.drop a) t.data.toList)) ∧ w = w' := by
  obtain ⟨b, hb⟩ : ∃ b, pref (s.data.toList.drop a) t.data.toList = b := ⟨_, rfl⟩
  rw [hb]
  have htl : t.data.toList.length = t.size := by simp
  by_cases h : t.size ≤ s.size - a
  · obtain ⟨J, hJ⟩ : ∃ J, a + t.size = J := ⟨_, rfl⟩
    have hq : ((s.extract a J).toList == t.toList) = b := by
      rw [← hb, pref, ByteArray.toList_eq, ByteArray.toList_eq, ByteArray.data_extract, Array.toList_extract, List.extract_eq_take_drop, htl]
      rw [show J - a = t.size by omega]
    have h1 : (t.size : Int) ≤ (s.size : Int) - a := by omega
    have h2 : (a : Int) + t.size = (J : Int) := by omega
    have h3 : (J : Int) ≤ s.size := by omega
    have h4 : (a : Int) ≤ J := by omega
    have h5 : (0 : Int) ≤ a := by omega
    clear hb hJ
    go_enter Tryd.func75, Tryd.ntmps75
    go_wp2
    go_ret
    exact ⟨rfl, rfl⟩
  · have h1 : ¬ (t.size : Int) ≤ (s.size : Int) - a := by omega
    have hbf : b = false := by
      rw [← hb]
      unfold pref
      rw [beq_eq_false_iff_ne]
      intro e
      have := congrArg List.length e
      rw [List.length_take, List.length_drop, htl] at this
      have h2 : s.data.toList.length = s.size := by simp
      omega
    subst hbf
    clear hb
    go_enter Tryd.func75, Tryd.ntmps75
    go_wp2
    go_ret
    exact ⟨rfl, rfl⟩
theorem ret_str {a b : ByteArray} (h : a = b) : Ending.returned (.string a) = .returned (.string b) := by rw [h]
theorem charN_win {n : Int} (h1 : n = 129 ∨ n = 141 ∨ n = 143 ∨ n = 144 ∨ n = 157) : charN n = n := by
  rcases h1 with rfl | rfl | rfl | rfl | rfl <;> rfl
theorem charN_out {n : Int} (h0 : 0 < n) (h1 : n ≤ 1114111) (h2 : ¬ (55296 ≤ n ∧ n ≤ 57343)) (h3 : ¬ (128 ≤ n ∧ n ≤ 159)) : charN n = n := by
  unfold charN
  rw [if_neg (by omega), if_neg h3]
set_option maxHeartbeats 6400000 in
set_option maxRecDepth 100000 in
theorem rchar_any (n : Int) (w : World) (h0 : 0 ≤ n) (h1 : n ≤ 1114112) : Calls Tryd.prog 77 #[.int .i64 n] w fun e w' => e = .returned (.string (Utf8.encode (charN n))) ∧ w = w' := by
  by_cases hbad : n = 0 ∨ 1114111 < n ∨ (55296 ≤ n ∧ n ≤ 57343)
  · have hc : charN n = 65533 := by unfold charN; rw [if_pos hbad]
    have he : Utf8.encode 65533 = ⟨#[239, 191, 189]⟩ := by kernel_rfl
    rw [hc, he]
    clear hc he
    rcases hbad with rfl | hb | ⟨hb1, hb2⟩
    · go_enter Tryd.func77, Tryd.ntmps77
      go_wp2
      go_ret
      exact ⟨rfl, rfl⟩
    · have hz : (n == 0) = false := by rw [beq_eq_false_iff_ne]; omega
      go_enter Tryd.func77, Tryd.ntmps77
      go_wp2
      go_ret
      exact ⟨rfl, rfl⟩
    · have hz : (n == 0) = false := by rw [beq_eq_false_iff_ne]; omega
      have hz2 : ¬ (1114111 : Int) < n := by omega
      go_enter Tryd.func77, Tryd.ntmps77
      go_wp2
      go_ret
      exact ⟨rfl, rfl⟩
  · by_cases hw : 128 ≤ n ∧ n ≤ 159
    · clear hbad h0 h1
      obtain ⟨m, hm⟩ : ∃ m : Nat, n = 128 + (m : Int) := ⟨(n - 128).toNat, by omega⟩
      have hm32 : m < 32 := by omega
      clear hw
      subst hm
      have key : ∀ k : Fin 32, Calls Tryd.prog 77 #[.int .i64 (128 + (k.val : Int))] w fun e w' => e = .returned (.string (Utf8.encode (charN (128 + (k.val : Int))))) ∧ w = w' := by
        intro k
        match k with
        | ⟨0, _⟩ =>
          show Calls Tryd.prog 77 #[.int .i64 128] w fun e w' => e = .returned (.string (Utf8.encode (charN 128))) ∧ w = w'
          go_enter Tryd.func77, Tryd.ntmps77
          go_wp2
          go_ret
          exact ⟨ret_str (by kernel_rfl), rfl⟩
        | ⟨1, _⟩ =>
          show Calls Tryd.prog 77 #[.int .i64 129] w fun e w' => e = .returned (.string (Utf8.encode (charN 129))) ∧ w = w'
          go_enter Tryd.func77, Tryd.ntmps77
          go_wp2
          go_ret
          exact ⟨ret_str (by kernel_rfl), rfl⟩
        | ⟨2, _⟩ =>
          show Calls Tryd.prog 77 #[.int .i64 130] w fun e w' => e = .returned (.string (Utf8.encode (charN 130))) ∧ w = w'
          go_enter Tryd.func77, Tryd.ntmps77
          go_wp2
          go_ret
          exact ⟨ret_str (by kernel_rfl), rfl⟩
        | ⟨3, _⟩ =>
          show Calls Tryd.prog 77 #[.int .i64 131] w fun e w' => e = .returned (.string (Utf8.encode (charN 131))) ∧ w = w'
          go_enter Tryd.func77, Tryd.ntmps77
          go_wp2
          go_ret
          exact ⟨ret_str (by kernel_rfl), rfl⟩
        | ⟨4, _⟩ =>
          show Calls Tryd.prog 77 #[.int .i64 132] w fun e w' => e = .returned (.string (Utf8.encode (charN 132))) ∧ w = w'
          go_enter Tryd.func77, Tryd.ntmps77
          go_wp2
          go_ret
          exact ⟨ret_str (by kernel_rfl), rfl⟩
        | ⟨5, _⟩ =>
          show Calls Tryd.prog 77 #[.int .i64 133] w fun e w' => e = .returned (.string (Utf8.encode (charN 133))) ∧ w = w'
          go_enter Tryd.func77, Tryd.ntmps77
          go_wp2
          go_ret
          exact ⟨ret_str (by kernel_rfl), rfl⟩
        | ⟨6, _⟩ =>
          show Calls Tryd.prog 77 #[.int .i64 134] w fun e w' => e = .returned (.string (Utf8.encode (charN 134))) ∧ w = w'
          go_enter Tryd.func77, Tryd.ntmps77
          go_wp2
          go_ret
          exact ⟨ret_str (by kernel_rfl), rfl⟩
        | ⟨7, _⟩ =>
          show Calls Tryd.prog 77 #[.int .i64 135] w fun e w' => e = .returned (.string (Utf8.encode (charN 135))) ∧ w = w'
          go_enter Tryd.func77, Tryd.ntmps77
          go_wp2
          go_ret
          exact ⟨ret_str (by kernel_rfl), rfl⟩
        | ⟨8, _⟩ =>
          show Calls Tryd.prog 77 #[.int .i64 136] w fun e w' => e = .returned (.string (Utf8.encode (charN 136))) ∧ w = w'
          go_enter Tryd.func77, Tryd.ntmps77
          go_wp2
          go_ret
          exact ⟨ret_str (by kernel_rfl), rfl⟩
        | ⟨9, _⟩ =>
          show Calls Tryd.prog 77 #[.int .i64 137] w fun e w' => e = .returned (.string (Utf8.encode (charN 137))) ∧ w = w'
          go_enter Tryd.func77, Tryd.ntmps77
          go_wp2
          go_ret
          exact ⟨ret_str (by kernel_rfl), rfl⟩
        | ⟨10, _⟩ =>
          show Calls Tryd.prog 77 #[.int .i64 138] w fun e w' => e = .returned (.string (Utf8.encode (charN 138))) ∧ w = w'
          go_enter Tryd.func77, Tryd.ntmps77
          go_wp2
          go_ret
          exact ⟨ret_str (by kernel_rfl), rfl⟩
        | ⟨11, _⟩ =>
          show Calls Tryd.prog 77 #[.int .i64 139] w fun e w' => e = .returned (.string (Utf8.encode (charN 139))) ∧ w = w'
          go_enter Tryd.func77, Tryd.ntmps77
          go_wp2
          go_ret
          exact ⟨ret_str (by kernel_rfl), rfl⟩
        | ⟨12, _⟩ =>
          show Calls Tryd.prog 77 #[.int .i64 140] w fun e w' => e = .returned (.string (Utf8.encode (charN 140))) ∧ w = w'
          go_enter Tryd.func77, Tryd.ntmps77
          go_wp2
          go_ret
          exact ⟨ret_str (by kernel_rfl), rfl⟩
        | ⟨13, _⟩ =>
          show Calls Tryd.prog 77 #[.int .i64 141] w fun e w' => e = .returned (.string (Utf8.encode (charN 141))) ∧ w = w'
          go_enter Tryd.func77, Tryd.ntmps77
          go_wp2
          go_ret
          exact ⟨ret_str (by kernel_rfl), rfl⟩
        | ⟨14, _⟩ =>
          show Calls Tryd.prog 77 #[.int .i64 142] w fun e w' => e = .returned (.string (Utf8.encode (charN 142))) ∧ w = w'
          go_enter Tryd.func77, Tryd.ntmps77
          go_wp2
          go_ret
          exact ⟨ret_str (by kernel_rfl), rfl⟩
        | ⟨15, _⟩ =>
          show Calls Tryd.prog 77 #[.int .i64 143] w fun e w' => e = .returned (.string (Utf8.encode (charN 143))) ∧ w = w'
          go_enter Tryd.func77, Tryd.ntmps77
          go_wp2
          go_ret
          exact ⟨ret_str (by kernel_rfl), rfl⟩
        | ⟨16, _⟩ =>
          show Calls Tryd.prog 77 #[.int .i64 144] w fun e w' => e = .returned (.string (Utf8.encode (charN 144))) ∧ w = w'
          go_enter Tryd.func77, Tryd.ntmps77
          go_wp2
          go_ret
          exact ⟨ret_str (by kernel_rfl), rfl⟩
        | ⟨17, _⟩ =>
          show Calls Tryd.prog 77 #[.int .i64 145] w fun e w' => e = .returned (.string (Utf8.encode (charN 145))) ∧ w = w'
          go_enter Tryd.func77, Tryd.ntmps77
          go_wp2
          go_ret
          exact ⟨ret_str (by kernel_rfl), rfl⟩
        | ⟨18, _⟩ =>
          show Calls Tryd.prog 77 #[.int .i64 146] w fun e w' => e = .returned (.string (Utf8.encode (charN 146))) ∧ w = w'
          go_enter Tryd.func77, Tryd.ntmps77
          go_wp2
          go_ret
          exact ⟨ret_str (by kernel_rfl), rfl⟩
        | ⟨19, _⟩ =>
          show Calls Tryd.prog 77 #[.int .i64 147] w fun e w' => e = .returned (.string (Utf8.encode (charN 147))) ∧ w = w'
          go_enter Tryd.func77, Tryd.ntmps77
          go_wp2
          go_ret
          exact ⟨ret_str (by kernel_rfl), rfl⟩
        | ⟨20, _⟩ =>
          show Calls Tryd.prog 77 #[.int .i64 148] w fun e w' => e = .returned (.string (Utf8.encode (charN 148))) ∧ w = w'
          go_enter Tryd.func77, Tryd.ntmps77
          go_wp2
          go_ret
          exact ⟨ret_str (by kernel_rfl), rfl⟩
        | ⟨21, _⟩ =>
          show Calls Tryd.prog 77 #[.int .i64 149] w fun e w' => e = .returned (.string (Utf8.encode (charN 149))) ∧ w = w'
          go_enter Tryd.func77, Tryd.ntmps77
          go_wp2
          go_ret
          exact ⟨ret_str (by kernel_rfl), rfl⟩
        | ⟨22, _⟩ =>
          show Calls Tryd.prog 77 #[.int .i64 150] w fun e w' => e = .returned (.string (Utf8.encode (charN 150))) ∧ w = w'
          go_enter Tryd.func77, Tryd.ntmps77
          go_wp2
          go_ret
          exact ⟨ret_str (by kernel_rfl), rfl⟩
        | ⟨23, _⟩ =>
          show Calls Tryd.prog 77 #[.int .i64 151] w fun e w' => e = .returned (.string (Utf8.encode (charN 151))) ∧ w = w'
          go_enter Tryd.func77, Tryd.ntmps77
          go_wp2
          go_ret
          exact ⟨ret_str (by kernel_rfl), rfl⟩
        | ⟨24, _⟩ =>
          show Calls Tryd.prog 77 #[.int .i64 152] w fun e w' => e = .returned (.string (Utf8.encode (charN 152))) ∧ w = w'
          go_enter Tryd.func77, Tryd.ntmps77
          go_wp2
          go_ret
          exact ⟨ret_str (by kernel_rfl), rfl⟩
        | ⟨25, _⟩ =>
          show Calls Tryd.prog 77 #[.int .i64 153] w fun e w' => e = .returned (.string (Utf8.encode (charN 153))) ∧ w = w'
          go_enter Tryd.func77, Tryd.ntmps77
          go_wp2
          go_ret
          exact ⟨ret_str (by kernel_rfl), rfl⟩
        | ⟨26, _⟩ =>
          show Calls Tryd.prog 77 #[.int .i64 154] w fun e w' => e = .returned (.string (Utf8.encode (charN 154))) ∧ w = w'
          go_enter Tryd.func77, Tryd.ntmps77
          go_wp2
          go_ret
          exact ⟨ret_str (by kernel_rfl), rfl⟩
        | ⟨27, _⟩ =>
          show Calls Tryd.prog 77 #[.int .i64 155] w fun e w' => e = .returned (.string (Utf8.encode (charN 155))) ∧ w = w'
          go_enter Tryd.func77, Tryd.ntmps77
          go_wp2
          go_ret
          exact ⟨ret_str (by kernel_rfl), rfl⟩
        | ⟨28, _⟩ =>
          show Calls Tryd.prog 77 #[.int .i64 156] w fun e w' => e = .returned (.string (Utf8.encode (charN 156))) ∧ w = w'
          go_enter Tryd.func77, Tryd.ntmps77
          go_wp2
          go_ret
          exact ⟨ret_str (by kernel_rfl), rfl⟩
        | ⟨29, _⟩ =>
          show Calls Tryd.prog 77 #[.int .i64 157] w fun e w' => e = .returned (.string (Utf8.encode (charN 157))) ∧ w = w'
          go_enter Tryd.func77, Tryd.ntmps77
          go_wp2
          go_ret
          exact ⟨ret_str (by kernel_rfl), rfl⟩
        | ⟨30, _⟩ =>
          show Calls Tryd.prog 77 #[.int .i64 158] w fun e w' => e = .returned (.string (Utf8.encode (charN 158))) ∧ w = w'
          go_enter Tryd.func77, Tryd.ntmps77
          go_wp2
          go_ret
          exact ⟨ret_str (by kernel_rfl), rfl⟩
        | ⟨31, _⟩ =>
          show Calls Tryd.prog 77 #[.int .i64 159] w fun e w' => e = .returned (.string (Utf8.encode (charN 159))) ∧ w = w'
          go_enter Tryd.func77, Tryd.ntmps77
          go_wp2
          go_ret
          exact ⟨ret_str (by kernel_rfl), rfl⟩
        | ⟨k + 32, h⟩ => exact absurd h (by omega)
      exact key ⟨m, hm32⟩
    · have hz : (n == 0) = false := by rw [beq_eq_false_iff_ne]; omega
      have hz2 : ¬ (1114111 : Int) < n := by omega
      have hc : charN n = n := charN_out (by omega) (by omega) (by omega) hw
      rw [hc]
      have hsur : ¬ ((55296 : Int) ≤ n ∧ n ≤ 57343) := by omega
      have n128 : (n == 128) = false := by rw [beq_eq_false_iff_ne]; omega
      have n130 : (n == 130) = false := by rw [beq_eq_false_iff_ne]; omega
      have n131 : (n == 131) = false := by rw [beq_eq_false_iff_ne]; omega
      have n132 : (n == 132) = false := by rw [beq_eq_false_iff_ne]; omega
      have n133 : (n == 133) = false := by rw [beq_eq_false_iff_ne]; omega
      have n134 : (n == 134) = false := by rw [beq_eq_false_iff_ne]; omega
      have n135 : (n == 135) = false := by rw [beq_eq_false_iff_ne]; omega
      have n136 : (n == 136) = false := by rw [beq_eq_false_iff_ne]; omega
      have n137 : (n == 137) = false := by rw [beq_eq_false_iff_ne]; omega
      have n138 : (n == 138) = false := by rw [beq_eq_false_iff_ne]; omega
      have n139 : (n == 139) = false := by rw [beq_eq_false_iff_ne]; omega
      have n140 : (n == 140) = false := by rw [beq_eq_false_iff_ne]; omega
      have n142 : (n == 142) = false := by rw [beq_eq_false_iff_ne]; omega
      have n145 : (n == 145) = false := by rw [beq_eq_false_iff_ne]; omega
      have n146 : (n == 146) = false := by rw [beq_eq_false_iff_ne]; omega
      have n147 : (n == 147) = false := by rw [beq_eq_false_iff_ne]; omega
      have n148 : (n == 148) = false := by rw [beq_eq_false_iff_ne]; omega
      have n149 : (n == 149) = false := by rw [beq_eq_false_iff_ne]; omega
      have n150 : (n == 150) = false := by rw [beq_eq_false_iff_ne]; omega
      have n151 : (n == 151) = false := by rw [beq_eq_false_iff_ne]; omega
      have n152 : (n == 152) = false := by rw [beq_eq_false_iff_ne]; omega
      have n153 : (n == 153) = false := by rw [beq_eq_false_iff_ne]; omega
      have n154 : (n == 154) = false := by rw [beq_eq_false_iff_ne]; omega
      have n155 : (n == 155) = false := by rw [beq_eq_false_iff_ne]; omega
      have n156 : (n == 156) = false := by rw [beq_eq_false_iff_ne]; omega
      have n158 : (n == 158) = false := by rw [beq_eq_false_iff_ne]; omega
      have n159 : (n == 159) = false := by rw [beq_eq_false_iff_ne]; omega
      clear hbad hw hc
      by_cases hs : (55296 : Int) ≤ n
      · have hs2 : ¬ n ≤ 57343 := by omega
        go_enter Tryd.func77, Tryd.ntmps77
        go_wp2
        go_ret
        exact ⟨rfl, rfl⟩
      · go_enter Tryd.func77, Tryd.ntmps77
        go_wp2
        go_ret
        exact ⟨rfl, rfl⟩
end Go.Proofs.YtbpdmbmooboimaaDoor.R9
