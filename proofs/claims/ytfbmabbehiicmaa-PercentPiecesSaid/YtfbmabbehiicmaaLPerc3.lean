/- The law PercentPieces. -/
import Derived.Test.YtfbmabbehiicmaaLPerc
set_option linter.unusedVariables false
namespace Go.Proofs.Ytfbmabbehiicmaa
open Go.RowKit

theorem decS_len : ∀ (k : Nat) (l : List UInt8), (decS k l).length ≤ l.length
  | _, [] => by simp [decS]
  | k + 1, _ :: r => by
    have := decS_len k r
    simp [decS]
    omega
  | 0, x :: r => by
    rw [decS]
    cases trip (x :: r) with
    | some v =>
      have := decS_len 2 r
      simp
      omega
    | none =>
      have := decS_len 0 r
      simp
      exact this
theorem decT_size (s : ByteArray) : (⟨(decP s.data.toList).toArray⟩ : ByteArray).size ≤ s.size := by
  show (decP s.data.toList).toArray.size ≤ _
  rw [List.size_toArray]
  have := decS_len 0 s.data.toList
  simpa [decP] using this

set_option maxHeartbeats 4000000 in
set_option maxRecDepth 100000 in
theorem percentPieces_law (a b : ByteArray) (x : Int) (w : World) (ha : a.size ≤ maxLen) (hb : b.size ≤ maxLen) (hx : 0 ≤ x ∧ x ≤ 255) :
    Calls Try.prog 6 #[.string a, .string b, .int .u8 x] w fun e w' => e = .returned (.bool true) ∧ Below w.heap.size w w' := by
  unfold maxLen at ha hb
  by_cases h1 : 1000 < a.size ∨ (¬ 1000 < a.size ∧ 1000 < b.size)
  · rcases h1 with h1 | ⟨h1, h2⟩
    all_goals
      go_enter Try.func6, Try.ntmps6
      go_wp2_with fail
      refine (signs_any _).mono ?_
      rintro e w1 ⟨rfl, b1⟩
      go_wp2_with fail
      go_ret
      exact ⟨rfl, b1⟩
  · have h2 : ¬ 1000 < a.size := by omega
    have h3 : ¬ 1000 < b.size := by omega
    clear h1
    obtain ⟨k, hk⟩ : ∃ k : Int, x % 7 = k := ⟨_, rfl⟩
    have hk0 : 0 ≤ k := by omega
    have hk6 : k ≤ 6 := by omega
    have HK := Lib.hid hk
    have hd : Hid (0 ≤ k ∧ k ≤ 6) := ⟨hk0, hk6⟩
    clear hk
    have hab : (a ++ b).size = a.size + b.size := ByteArray.size_append
    have hE : Hid ((⟨(encP (inS k) (a ++ b).data.toList).toArray⟩ : ByteArray) = ⟨(encP (inS k) a.data.toList).toArray⟩ ++ ⟨(encP (inS k) b.data.toList).toArray⟩) := by
      show _ = _
      apply ByteArray.ext
      rw [ByteArray.data_append, ByteArray.data_append, Array.toList_append, encP_append]
      simp
    have HAB := Lib.hid hab
    have sa := encT_size (s := a) (p := inS k)
    have sb := encT_size (s := b) (p := inS k)
    have da := decT_size a
    have db := decT_size b
    have hD : Hid ((∀ j, a.data.toList.length - 2 ≤ j → a.data.toList[j]? ≠ some 37) → (⟨(decP (a ++ b).data.toList).toArray⟩ : ByteArray) = ⟨(decP a.data.toList).toArray⟩ ++ ⟨(decP b.data.toList).toArray⟩) := by
      intro h
      apply ByteArray.ext
      rw [ByteArray.data_append, ByteArray.data_append, Array.toList_append, dec_append _ (Nat.le_refl _) h]
      simp
    obtain ⟨EA, hEA⟩ : ∃ T : ByteArray, (⟨(encP (inS k) a.data.toList).toArray⟩ : ByteArray) = T := ⟨_, rfl⟩
    obtain ⟨EB, hEB⟩ : ∃ T : ByteArray, (⟨(encP (inS k) b.data.toList).toArray⟩ : ByteArray) = T := ⟨_, rfl⟩
    obtain ⟨DA, hDA⟩ : ∃ T : ByteArray, (⟨(decP a.data.toList).toArray⟩ : ByteArray) = T := ⟨_, rfl⟩
    obtain ⟨DB, hDB⟩ : ∃ T : ByteArray, (⟨(decP b.data.toList).toArray⟩ : ByteArray) = T := ⟨_, rfl⟩
    rw [hEA, hEB] at hE
    rw [hDA, hDB] at hD
    rw [hEA] at sa
    rw [hEB] at sb
    rw [hDA] at da
    rw [hDB] at db
    have HEA := Lib.hid hEA
    have HEB := Lib.hid hEB
    have HDA := Lib.hid hDA
    have HDB := Lib.hid hDB
    clear hEA hEB hDA hDB hab
    have ea : Value.int .i64 (max ((a.size : Int) - 2) 0) = .int .i64 ((a.size - 2 : Nat) : Int) := by
      congr 1
      omega
    have EM := Lib.hid ea
    clear ea
    go_enter Try.func6, Try.ntmps6
    go_wp2_with fail
    rw [HK.out]
    refine (pencode_any (a ++ b) k _ (by rw [HAB.out]; omega)).mono ?_
    rintro e w1 ⟨rfl, b1⟩
    rw [if_pos hd.out, hE.out]
    go_wp2_with fail
    refine (pencode_any a k _ (by omega)).mono ?_
    rintro e w2 ⟨rfl, b2⟩
    rw [if_pos hd.out, HEA.out]
    go_wp2_with fail
    refine (pencode_any b k _ (by omega)).mono ?_
    rintro e w3 ⟨rfl, b3⟩
    rw [if_pos hd.out, HEB.out]
    have c2 := b1.trans (b2.mono b1.size)
    have c3 := c2.trans (b3.mono c2.size)
    go_wp2_with fail
    go_loop [8] (fun i => ∃ j : Nat, a.size - 2 ≤ j ∧ j ≤ a.size ∧ i = .int .i64 j ∧ Hid (∀ q, a.size - 2 ≤ q → q < j → a.data.toList[q]? ≠ some 37)) (fun i => a.size - (intOf i).toNat)
    case atStart => exact ⟨a.size - 2, Nat.le_refl _, Nat.sub_le _ _, by first | exact EM.out | go_num, fun q h1 h2 => by omega⟩
    case round =>
      obtain ⟨j, hj0, hj1, rfl, HN⟩ := hrel
      by_cases hlt : j < a.size
      · have hge : a.data.toList[j]? = some a[j] := getE a j hlt
        by_cases hc : a[j] = 37
        · have hc' : ((a[j].toNat : Int) == 37) = true := by rw [beq_iff_eq, hc]; rfl
          clear hc hge
          go_wp2_with fail
          refine (signs_any _).mono ?_
          rintro e w4 ⟨rfl, b4⟩
          go_wp2_with fail
          go_ret
          exact ⟨rfl, c3.trans (b4.mono c3.size)⟩
        · have hc' : ((a[j].toNat : Int) == 37) = false := by
            rw [beq_eq_false_iff_ne]
            intro e
            exact hc (UInt8.toNat_inj.1 (by show a[j].toNat = 37; omega))
          have HN2 : Hid (∀ q, a.size - 2 ≤ q → q < j + 1 → a.data.toList[q]? ≠ some 37) := by
            intro q h1 h2
            by_cases hq : q = j
            · subst hq
              rw [hge]
              intro e
              exact hc (Option.some.inj e)
            · exact HN.out q h1 (by omega)
          clear hc hge
          go_wp2_with fail
          go_round
          case rel => exact ⟨j + 1, by omega, by omega, by go_num, HN2⟩
          case measure => simp [intOf]; omega
      · have hD2 : Hid ((⟨(decP (a ++ b).data.toList).toArray⟩ : ByteArray) = DA ++ DB) := hD.out (by
          intro q hq e
          have hl : a.data.toList.length = a.size := by simp
          have hq2 := (List.getElem?_eq_some_iff.1 e).1
          exact HN.out q (by omega) (by omega) e)
        go_wp2_with fail
        refine (pdecode_any (a ++ b) _ (by rw [HAB.out]; omega)).mono ?_
        rintro e w4 ⟨rfl, b4⟩
        rw [hD2.out]
        go_wp2_with fail
        refine (pdecode_any a _ (by omega)).mono ?_
        rintro e w5 ⟨rfl, b5⟩
        rw [HDA.out]
        go_wp2_with fail
        refine (pdecode_any b _ (by omega)).mono ?_
        rintro e w6 ⟨rfl, b6⟩
        rw [HDB.out]
        go_wp2_with fail
        refine (signs_any _).mono ?_
        rintro e w7 ⟨rfl, b7⟩
        go_wp2_with fail
        go_ret
        have c4 := c3.trans (b4.mono c3.size)
        have c5 := c4.trans (b5.mono c4.size)
        have c6 := c5.trans (b6.mono c5.size)
        exact ⟨rfl, c6.trans (b7.mono c6.size)⟩
end Go.Proofs.Ytfbmabbehiicmaa
