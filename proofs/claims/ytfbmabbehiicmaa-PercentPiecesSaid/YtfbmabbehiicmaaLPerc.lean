/- The chapter's examples of layer 6, and the law PercentTwice. -/
import Derived.Test.YtfbmabbehiicmaaPerc4
set_option linter.unusedVariables false
namespace Go.Proofs.Ytfbmabbehiicmaa
open Go.RowKit

set_option maxHeartbeats 2000000 in
set_option maxRecDepth 100000 in
theorem signs_any (w : World) :
    Calls Try.prog 7 #[] w fun e w' => e = .returned (.bool true) ∧ Below w.heap.size w w' := by
  go_enter Try.func7, Try.ntmps7
  go_wp2_with fail
  refine (pdecode_any ⟨#[37, 52, 49, 37, 52]⟩ _ (by decide)).mono ?_
  rintro e w1 ⟨rfl, b1⟩
  rw [show (⟨(decP (⟨#[37, 52, 49, 37, 52]⟩ : ByteArray).data.toList).toArray⟩ : ByteArray) = ⟨#[65, 37, 52]⟩ from by decide +kernel]
  go_wp2_with fail
  refine (pdecode_any ⟨#[37, 122, 122, 37, 50, 37, 54, 50]⟩ _ (by decide)).mono ?_
  rintro e w2 ⟨rfl, b2⟩
  rw [show (⟨(decP (⟨#[37, 122, 122, 37, 50, 37, 54, 50]⟩ : ByteArray).data.toList).toArray⟩ : ByteArray) = ⟨#[37, 122, 122, 37, 50, 98]⟩ from by decide +kernel]
  go_wp2_with fail
  refine (pencode_any ⟨#[97, 32, 98, 47, 37, 195, 169]⟩ 4 _ (by decide)).mono ?_
  rintro e w3 ⟨rfl, b3⟩
  rw [show (⟨(if (0 : Int) ≤ 4 ∧ (4 : Int) ≤ 6 then encP (inS 4) (⟨#[97, 32, 98, 47, 37, 195, 169]⟩ : ByteArray).data.toList else []).toArray⟩ : ByteArray) = ⟨#[97, 37, 50, 48, 98, 47, 37, 37, 67, 51, 37, 65, 57]⟩ from by decide +kernel]
  go_wp2_with fail
  refine (pencode_any ⟨#[97, 32, 98, 47, 37, 195, 169]⟩ 6 _ (by decide)).mono ?_
  rintro e w4 ⟨rfl, b4⟩
  rw [show (⟨(if (0 : Int) ≤ 6 ∧ (6 : Int) ≤ 6 then encP (inS 6) (⟨#[97, 32, 98, 47, 37, 195, 169]⟩ : ByteArray).data.toList else []).toArray⟩ : ByteArray) = ⟨#[97, 37, 50, 48, 98, 37, 50, 70, 37, 50, 53, 37, 67, 51, 37, 65, 57]⟩ from by decide +kernel]
  go_wp2_with fail
  refine (pencode_any ⟨#[97]⟩ 7 _ (by decide)).mono ?_
  rintro e w5 ⟨rfl, b5⟩
  rw [show (⟨(if (0 : Int) ≤ 7 ∧ (7 : Int) ≤ 6 then encP (inS 7) (⟨#[97]⟩ : ByteArray).data.toList else []).toArray⟩ : ByteArray) = ⟨#[]⟩ from by decide +kernel]
  go_wp2_with fail
  go_ret
  refine ⟨rfl, ?_⟩
  have c2 := b1.trans (b2.mono b1.size)
  have c3 := c2.trans (b3.mono c2.size)
  have c4 := c3.trans (b4.mono c3.size)
  exact c4.trans (b5.mono c4.size)

theorem six_sets {k : Int} (h : 0 ≤ k ∧ k ≤ 5) : k = 0 ∨ k = 1 ∨ k = 2 ∨ k = 3 ∨ k = 4 ∨ k = 5 := by omega
theorem ins_sign {k : Int} (h : 0 ≤ k ∧ k ≤ 5) : inS k 37 = false := by
  rcases six_sets h with rfl | rfl | rfl | rfl | rfl | rfl <;> decide
theorem ins_dig {k : Int} (h : 0 ≤ k ∧ k ≤ 6) {j : Nat} (hj : j < 16) : inS k (dg j) = false := by
  have hc : k = 0 ∨ k = 1 ∨ k = 2 ∨ k = 3 ∨ k = 4 ∨ k = 5 ∨ k = 6 := by omega
  have key : ∀ q : Fin 16, inS 0 (dg q.val) = false ∧ inS 1 (dg q.val) = false ∧ inS 2 (dg q.val) = false ∧ inS 3 (dg q.val) = false ∧ inS 4 (dg q.val) = false ∧ inS 5 (dg q.val) = false ∧ inS 6 (dg q.val) = false := by decide +kernel
  have := key ⟨j, hj⟩
  rcases hc with rfl | rfl | rfl | rfl | rfl | rfl | rfl
  · exact this.1
  · exact this.2.1
  · exact this.2.2.1
  · exact this.2.2.2.1
  · exact this.2.2.2.2.1
  · exact this.2.2.2.2.2.1
  · exact this.2.2.2.2.2.2
theorem encT_size {s : ByteArray} {p : UInt8 → Bool} : (⟨(encP p s.data.toList).toArray⟩ : ByteArray).size ≤ 3 * s.size := by
  show (encP p s.data.toList).toArray.size ≤ _
  rw [List.size_toArray]
  refine Nat.le_trans (enc_len _ _) ?_
  simp

set_option maxHeartbeats 4000000 in
set_option maxRecDepth 100000 in
theorem percentTwice_law (s : ByteArray) (x : Int) (w : World) (hs : s.size ≤ maxLen) (hx : 0 ≤ x ∧ x ≤ 255) :
    Calls Try.prog 4 #[.string s, .int .u8 x] w fun e w' => e = .returned (.bool true) ∧ Below w.heap.size w w' := by
  unfold maxLen at hs
  by_cases h1 : 1500 < s.size
  · go_enter Try.func4, Try.ntmps4
    go_wp2_with fail
    refine (signs_any _).mono ?_
    rintro e w1 ⟨rfl, b1⟩
    go_wp2_with fail
    go_ret
    exact ⟨rfl, b1⟩
  · obtain ⟨k, hk⟩ : ∃ k : Int, x % 7 = k := ⟨_, rfl⟩
    have hk0 : 0 ≤ k := by omega
    have hk6 : k ≤ 6 := by omega
    have HK := Lib.hid hk
    clear hk
    have hd : Hid (0 ≤ k ∧ k ≤ 6) := ⟨hk0, hk6⟩
    obtain ⟨T, hT⟩ : ∃ T : ByteArray, (⟨(encP (inS k) s.data.toList).toArray⟩ : ByteArray) = T := ⟨_, rfl⟩
    have hTl : Hid (T.data.toList = encP (inS k) s.data.toList) := by show T.data.toList = _; rw [← hT]
    have hTs : T.size ≤ 4500 := by rw [← hT]; refine Nat.le_trans encT_size ?_; omega
    have hTw : Hid (k ≤ 5 → (⟨(encP (inS k) T.data.toList).toArray⟩ : ByteArray) = T) := by
      intro h5
      rw [hTl.out, enc_twice (ins_sign ⟨hk0, h5⟩) fun j hj => ins_dig ⟨hk0, hk6⟩ hj, hT]
    have hDe : Hid ((∀ c ∈ s.data.toList, c = 37 → inS k c = true) → (⟨(decP T.data.toList).toArray⟩ : ByteArray) = s) := by
      intro h
      rw [hTl.out, dec_enc h]
    have HT := Lib.hid hT
    clear hT
    go_enter Try.func4, Try.ntmps4
    go_wp2_with fail
    rw [HK.out]
    refine (pencode_any s k _ (by omega)).mono ?_
    rintro e w1 ⟨rfl, b1⟩
    rw [if_pos hd.out, HT.out]
    go_wp2_with fail
    go_loop [7, 8] (fun b i => ∃ (j : Nat) (q : Bool), j ≤ s.size ∧ i = .int .i64 j ∧ b = .bool q ∧ Hid (q = (s.data.toList.take j).contains 37)) (fun _ i => s.size - (intOf i).toNat)
    case atStart => exact ⟨0, false, Nat.zero_le _, rfl, rfl, rfl⟩
    case round =>
      obtain ⟨j, q, hj, rfl, rfl, HQ⟩ := hrel
      by_cases hlt : j < s.size
      · have HS := Lib.hid (take_snoc s j hlt)
        have FIN : Hid (∀ q' : Bool, q' = (q || s[j] == 37) → q' = (s.data.toList.take (j + 1)).contains 37) := by
          intro q' e
          have e2 : q = (s.data.toList.take j).contains 37 := HQ.out
          rw [e, e2, HS.out, Bool.eq_iff_iff]
          simp
          exact or_congr Iff.rfl eq_comm
        cases q
        · cases hc : (s[j] == 37)
          · have hc' : ((s[j].toNat : Int) == 37) = false := by
              rw [beq_eq_false_iff_ne] at hc ⊢
              intro e
              exact hc (UInt8.toNat_inj.1 (by show s[j].toNat = 37; omega))
            rw [hc] at FIN
            clear hc
            go_wp2_with fail
            go_round
            case rel => exact ⟨j + 1, false, by omega, by go_num, rfl, FIN.out false rfl⟩
            case measure => simp [intOf]; omega
          · have hc' : ((s[j].toNat : Int) == 37) = true := by
              rw [beq_iff_eq] at hc ⊢
              rw [hc]; rfl
            rw [hc] at FIN
            clear hc
            go_wp2_with fail
            go_round
            case rel => exact ⟨j + 1, true, by omega, by go_num, rfl, FIN.out true rfl⟩
            case measure => simp [intOf]; omega
        · go_wp2_with fail
          go_round
          case rel => exact ⟨j + 1, true, by omega, by go_num, rfl, FIN.out true rfl⟩
          case measure => simp [intOf]; omega
      · have HQ2 : Hid (q = s.data.toList.contains 37) := by
          have := HQ.out
          rwa [List.take_of_length_le (by simp; omega)] at this
        clear HQ
        by_cases h6 : k = 6
        · have hD : Hid ((⟨(decP T.data.toList).toArray⟩ : ByteArray) = s) := hDe.out (by rintro c _ rfl; rw [h6]; decide)
          go_wp2_with fail
          refine (pdecode_any T _ (by omega)).mono ?_
          rintro e w2 ⟨rfl, b2⟩
          rw [hD.out]
          go_wp2_with fail
          refine (signs_any _).mono ?_
          rintro e w3 ⟨rfl, b3⟩
          go_wp2_with fail
          go_ret
          have c2 := b1.trans (b2.mono b1.size)
          exact ⟨rfl, c2.trans (b3.mono c2.size)⟩
        · have hne : (k != 6) = true := by simpa using h6
          have heq : (k == 6) = false := by simpa using h6
          have hT2 := Lib.hid (hTw.out (by omega))
          clear h6
          cases q
          · have hD : Hid ((⟨(decP T.data.toList).toArray⟩ : ByteArray) = s) := hDe.out (by
              rintro c hc rfl
              have h2 := HQ2.out
              rw [List.contains_iff_mem.2 hc] at h2
              cases h2)
            go_wp2_with fail
            refine (pencode_any T k _ (by omega)).mono ?_
            rintro e w2 ⟨rfl, b2⟩
            rw [if_pos hd.out, hT2.out]
            go_wp2_with fail
            refine (pdecode_any T _ (by omega)).mono ?_
            rintro e w3 ⟨rfl, b3⟩
            rw [hD.out]
            go_wp2_with fail
            refine (signs_any _).mono ?_
            rintro e w4 ⟨rfl, b4⟩
            go_wp2_with fail
            go_ret
            have c2 := b1.trans (b2.mono b1.size)
            have c3 := c2.trans (b3.mono c2.size)
            exact ⟨rfl, c3.trans (b4.mono c3.size)⟩
          · go_wp2_with fail
            refine (pencode_any T k _ (by omega)).mono ?_
            rintro e w2 ⟨rfl, b2⟩
            rw [if_pos hd.out, hT2.out]
            go_wp2_with fail
            refine (signs_any _).mono ?_
            rintro e w4 ⟨rfl, b4⟩
            go_wp2_with fail
            go_ret
            have c2 := b1.trans (b2.mono b1.size)
            exact ⟨rfl, c2.trans (b4.mono c2.size)⟩
end Go.Proofs.Ytfbmabbehiicmaa
