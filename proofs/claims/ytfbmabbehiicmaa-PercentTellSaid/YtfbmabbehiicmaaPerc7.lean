/- The document's triples: Encode. -/
import Derived.Test.YtfbmabbehiicmaaPerc5
set_option linter.unusedVariables false
namespace Go.Proofs.Ytfbmabbehiicmaa
open Go.RowKit

theorem below_drewN {B : Nat} {a w : World} (h : Below B a w) (n : Nat) : Below B a (w.drewN n) := ⟨h.os, h.tape, h.output, h.size, h.block⟩
theorem add_at (t s : ByteArray) (k : Nat) (h : k < s.size) : (t ++ s.extract k (k + 1)).data.toList = t.data.toList ++ [s[k]] := by
  rw [ByteArray.data_append, Array.toList_append, ext_toList]
  congr 1
  have hk : k < s.data.toList.length := by simpa using h
  rw [List.drop_eq_getElem_cons hk]
  simp
  rfl
theorem add_dig {t : ByteArray} (q r : Nat) (hq : q < 16) (hr : r < 16) :
    (((t ++ ⟨#[37]⟩) ++ digsA.extract q (q + 1)) ++ digsA.extract r (r + 1)).data.toList = t.data.toList ++ [37] ++ [dg q] ++ [dg r] := by
  rw [add_at _ _ r (show r < digsA.size from hr), add_at _ _ q (show q < digsA.size from hq), dig_at, dig_at, ByteArray.data_append, Array.toList_append]

set_option maxHeartbeats 4000000 in
set_option maxRecDepth 100000 in
theorem rpencode_any (s : ByteArray) (k : Int) (w : World) (hs : s.size ≤ 1073741824) :
    Calls Try.prog 9 #[.string s, .int .i64 k] w fun e w' => e = .returned (.string ⟨(if 0 ≤ k ∧ k ≤ 6 then encP (inS k) s.data.toList else []).toArray⟩) ∧ Below w.heap.size w w' := by
  by_cases hk : 0 ≤ k ∧ k ≤ 6
  · rw [if_pos hk]
    obtain ⟨hk0, hk6⟩ := hk
    go_enter Try.func9, Try.ntmps9
    go_wp2_with fail
    go_loopw [5, 7] (fun o i wr => ∃ (j n : Nat) (t : ByteArray), j ≤ s.size ∧ i = .int .i64 j ∧ o = .string t ∧ t.size ≤ 3 * j ∧ Hid (t.data.toList = encP (inS k) (s.data.toList.take j)) ∧ wr = w.drewN n) (fun _ i _ => s.size - (intOf i).toNat)
    case atStart => exact ⟨0, 0, ⟨#[]⟩, Nat.zero_le _, rfl, rfl, Nat.le_refl _, rfl, rfl⟩
    case round =>
      obtain ⟨j, n, t, hj, rfl, rfl, hts, HT, rfl⟩ := hrel
      by_cases hlt : j < s.size
      · have HS := Lib.hid (take_snoc s j hlt)
        have hb8 := s[j].toNat_lt
        cases hin : inS k s[j] with
        | false =>
          have hlo : Hid (encP (inS k) (s.data.toList.take (j + 1)) = encP (inS k) (s.data.toList.take j) ++ [s[j]]) := by
            show encP (inS k) (s.data.toList.take (j + 1)) = _
            rw [HS.out, enc_snoc]
            unfold encB
            rw [if_neg (by rw [hin]; simp)]
          have HIN := Lib.hid hin
          clear hin
          go_wp2_with fail
          refine (rin_any k s[j] _).mono ?_
          rintro e w' ⟨rfl, rfl⟩
          rw [HIN.out]
          go_wp2_with fail
          go_roundw
          case rel =>
            refine ⟨j + 1, _, t ++ s.extract j (j + 1), by omega, by go_num, rfl, ?_, ?_, rfl⟩
            · rw [ByteArray.size_append, ByteArray.size_extract]; omega
            · show (t ++ s.extract j (j + 1)).data.toList = _
              rw [add_at t s j hlt, HT.out, hlo.out]
          case measure => simp [intOf]; omega
        | true =>
          have hhi : Hid (encP (inS k) (s.data.toList.take (j + 1)) = encP (inS k) (s.data.toList.take j) ++ [37] ++ [dg (s[j].toNat / 16)] ++ [dg (s[j].toNat % 16)]) := by
            show encP (inS k) (s.data.toList.take (j + 1)) = _
            rw [HS.out, enc_snoc]
            unfold encB
            rw [if_pos hin]
            simp
          have HIN := Lib.hid hin
          clear hin
          have q0 : (0 : Int) ≤ (s[j].toNat : Int) / 16 := by omega
          have q1 : (s[j].toNat : Int) / 16 < 16 := by omega
          have q2 : (s[j].toNat : Int) / 16 + 1 ≤ 16 := by omega
          have q3 : (s[j].toNat : Int) / 16 ≤ (s[j].toNat : Int) / 16 + 1 := by omega
          have r0 : (0 : Int) ≤ (s[j].toNat : Int) % 16 := by omega
          have r1 : (s[j].toNat : Int) % 16 < 16 := by omega
          have r2 : (s[j].toNat : Int) % 16 + 1 ≤ 16 := by omega
          have r3 : (s[j].toNat : Int) % 16 ≤ (s[j].toNat : Int) % 16 + 1 := by omega
          have j0 : (0 : Int) ≤ (j : Int) := by omega
          have j1 : (j : Int) < (s.size : Int) := by omega
          go_wp2_with fail
          refine (rin_any k s[j] _).mono ?_
          rintro e w' ⟨rfl, rfl⟩
          rw [HIN.out]
          go_wp2_with fail
          go_quiet (fail)
          go_wp2_with fail
          go_roundw
          case rel =>
            refine ⟨j + 1, _, ((t ++ ⟨#[37]⟩) ++ digsA.extract (s[j].toNat / 16) (s[j].toNat / 16 + 1)) ++ digsA.extract (s[j].toNat % 16) (s[j].toNat % 16 + 1), by omega, by go_num, rfl, ?_, ?_, rfl⟩
            · rw [ByteArray.size_append, ByteArray.size_append, ByteArray.size_append, ByteArray.size_extract, ByteArray.size_extract]
              have h1 : (⟨#[37]⟩ : ByteArray).size = 1 := rfl
              have h2 : digsA.size = 16 := rfl
              omega
            · show (((t ++ ⟨#[37]⟩) ++ digsA.extract (s[j].toNat / 16) (s[j].toNat / 16 + 1)) ++ digsA.extract (s[j].toNat % 16) (s[j].toNat % 16 + 1)).data.toList = _
              rw [add_dig _ _ (by omega) (by omega), HT.out, hhi.out]
          case measure => simp [intOf]; omega
      · go_wp2_with fail
        go_ret
        have h := HT.out
        rw [List.take_of_length_le (by simp; omega)] at h
        have e : Value.string t = .string ⟨(encP (inS k) s.data.toList).toArray⟩ := by rw [← h]
        exact ⟨congrArg Ending.returned e, below_drewN (Below.refl _ _) n⟩
  · rw [if_neg hk]
    have hk' : k < 0 ∨ (0 ≤ k ∧ ¬ k ≤ 6) := by omega
    by_cases h0 : 0 < s.size
    · rcases hk' with h | ⟨h, h'⟩
      all_goals
        go_enter Try.func9, Try.ntmps9
        go_wp2_with fail
        go_loop [5, 7] (fun o i => o = .string ⟨#[]⟩ ∧ i = .int .i64 0) (fun _ i => 0)
        case atStart => exact ⟨rfl, rfl⟩
        case round =>
          obtain ⟨rfl, rfl⟩ := hrel
          go_wp2_with fail
          go_ret
          exact ⟨rfl, Below.refl _ _⟩
    · go_enter Try.func9, Try.ntmps9
      go_wp2_with fail
      go_loop [5, 7] (fun o i => o = .string ⟨#[]⟩ ∧ i = .int .i64 0) (fun _ i => 0)
      case atStart => exact ⟨rfl, rfl⟩
      case round =>
        obtain ⟨rfl, rfl⟩ := hrel
        go_wp2_with fail
        go_ret
        exact ⟨rfl, Below.refl _ _⟩
end Go.Proofs.Ytfbmabbehiicmaa
