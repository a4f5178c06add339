/- percent.Encode. -/
import Derived.Test.YtfbmabbehiicmaaPerc3
import Derived.Lib.IndexAny
set_option linter.unusedVariables false
namespace Go.Proofs.Ytfbmabbehiicmaa
open Go.RowKit

theorem ret_sb {a b : ByteArray} {x y : Bool} (h : a = b) (k : x = y) : Ending.returned (.tuple #[.string a, .bool x]) = .returned (.tuple #[.string b, .bool y]) := by rw [h, k]
set_option maxHeartbeats 1000000 in
theorem members_any (k : Int) (w : World) :
    Calls Try.prog 12 #[.int .i64 k] w fun e w' => e = .returned (.tuple #[.string ⟨(setL k).toArray⟩, .bool (decide (0 ≤ k ∧ k ≤ 6))]) ∧ w = w' := by
  by_cases h : 0 ≤ k ∧ k ≤ 6
  · have hc : k = 0 ∨ k = 1 ∨ k = 2 ∨ k = 3 ∨ k = 4 ∨ k = 5 ∨ k = 6 := by omega
    rcases hc with rfl | rfl | rfl | rfl | rfl | rfl | rfl
    all_goals
      go_enter Try.func12, Try.ntmps12
      go_wp2
      go_ret2
      exact ⟨rfl, rfl⟩
  · have h0 : ¬ k = 0 := by omega
    have h1 : ¬ k = 1 := by omega
    have h2 : ¬ k = 2 := by omega
    have h3 : ¬ k = 3 := by omega
    have h4 : ¬ k = 4 := by omega
    have h5 : ¬ k = 5 := by omega
    have h6 : ¬ k = 6 := by omega
    have hs : Hid (setL k = []) := by
      show setL k = []
      unfold setL
      simp only [if_neg h1, if_neg h2, if_neg h3, if_neg h4, if_neg h5, if_neg h6]
    have hd : Hid (decide (0 ≤ k ∧ k ≤ 6) = false) := decide_eq_false h
    clear h
    go_enter Try.func12, Try.ntmps12
    go_wp2
    go_ret2
    exact ⟨ret_sb (by rw [hs.out]) hd.out.symm, rfl⟩

theorem ins_plain (k : Int) {c : UInt8} (h1 : 31 < c.toNat) (h2 : c.toNat < 127) : inS k c = decide (0 ≤ Lib.indexByte (setL k) c) := by
  unfold inS
  rw [decide_eq_false (by omega), decide_eq_false (by omega), Lib.contains_iff_indexByte]
  rfl
theorem ins_high (k : Int) {c : UInt8} (h : ¬ 31 < c.toNat ∨ ¬ c.toNat < 127) : inS k c = true := by
  unfold inS
  rcases h with h | h
  · rw [decide_eq_true (by omega)]; rfl
  · rw [decide_eq_true (p := 126 < c.toNat) (by omega)]; simp
theorem enc_snoc (p : UInt8 → Bool) (l : List UInt8) (c : UInt8) : encP p (l ++ [c]) = encP p l ++ encB p c := by simp [encP]
theorem encB_len (p : UInt8 → Bool) (c : UInt8) : (encB p c).length ≤ 3 := by
  unfold encB
  split <;> simp
theorem enc_len (p : UInt8 → Bool) : ∀ l, (encP p l).length ≤ 3 * l.length
  | [] => by simp [encP]
  | c :: l => by
    rw [encP_cons, List.length_append]
    have := enc_len p l
    have := encB_len p c
    simp
    omega

def digsA : ByteArray := ⟨#[48, 49, 50, 51, 52, 53, 54, 55, 56, 57, 65, 66, 67, 68, 69, 70]⟩
theorem dig_at {q : Nat} (h : q < digsA.size) : digsA[q] = dg q := by
  have h16 : q < 16 := h
  have : ∀ q : Fin 16, digsA[q.val]'(q.isLt) = dg q.val := by decide
  exact this ⟨q, h16⟩

set_option maxHeartbeats 4000000 in
set_option maxRecDepth 100000 in
theorem pencode_any (s : ByteArray) (k : Int) (w : World) (hs : s.size ≤ 1073741824) :
    Calls Try.prog 8 #[.string s, .int .i64 k] w fun e w' => e = .returned (.string ⟨(if 0 ≤ k ∧ k ≤ 6 then encP (inS k) s.data.toList else []).toArray⟩) ∧ Below w.heap.size w w' := by
  by_cases hk : 0 ≤ k ∧ k ≤ 6
  · rw [if_pos hk]
    have hd : Hid (decide (0 ≤ k ∧ k ≤ 6) = true) := decide_eq_true hk
    clear hk
    go_enter Try.func8, Try.ntmps8
    go_wp2_with fail
    refine (members_any k _).mono ?_
    rintro e w' ⟨rfl, rfl⟩
    rw [hd.out]
    go_wp2_with fail
    go_loopw [19] (fun i wr => ∃ j : Nat, j ≤ s.size ∧ i = .int .i64 j ∧ IsB w.heap.size w.heap.size (Lib.byteCells (encP (inS k) (s.data.toList.take j))) wr ∧ Below w.heap.size w wr) (fun i _ => s.size - (intOf i).toNat)
    case atStart =>
      exact ⟨0, Nat.zero_le _, rfl, Lib.IsBuilderF.of (Lib.fresh_isBuilder 33 5 w), (Below.refl _ w).alloc (Nat.le_refl _) _⟩
    case round =>
      obtain ⟨j, hj, rfl, hI, hb⟩ := hrel
      have hsz := hb.size
      have hlen : (Lib.byteCells (encP (inS k) (s.data.toList.take j))).length ≤ 3 * j := by
        rw [Lib.byteCells_length]
        refine Nat.le_trans (enc_len _ _) ?_
        rw [List.length_take]
        omega
      by_cases hlt : j < s.size
      · have HS := Lib.hid (take_snoc s j hlt)
        have hcase : (31 < s[j].toNat ∧ s[j].toNat < 127 ∧ Lib.indexByte (setL k) s[j] < 0 ∧ Hid (inS k s[j] = false)) ∨ (¬ 31 < s[j].toNat ∧ Hid (inS k s[j] = true)) ∨ (31 < s[j].toNat ∧ ¬ s[j].toNat < 127 ∧ Hid (inS k s[j] = true)) ∨ (31 < s[j].toNat ∧ s[j].toNat < 127 ∧ ¬ Lib.indexByte (setL k) s[j] < 0 ∧ Hid (inS k s[j] = true)) := by
          by_cases ha : 31 < s[j].toNat
          · by_cases hz : s[j].toNat < 127
            · by_cases hi : 0 ≤ Lib.indexByte (setL k) s[j]
              · exact .inr (.inr (.inr ⟨ha, hz, by omega, (ins_plain k ha hz).trans (decide_eq_true hi)⟩))
              · exact .inl ⟨ha, hz, by omega, (ins_plain k ha hz).trans (decide_eq_false hi)⟩
            · exact .inr (.inr (.inl ⟨ha, hz, ins_high k (.inr hz)⟩))
          · exact .inr (.inl ⟨ha, ins_high k (.inl ha)⟩)
        have hidx : Hid (Lib.indexByte (⟨(setL k).toArray⟩ : ByteArray).data.toList (s[j].toNat : Int).toNat.toUInt8 = Lib.indexByte (setL k) s[j]) := by
          show Lib.indexByte (setL k) _ = _
          congr 1
          simp
        have hlo : Hid (inS k s[j] = false → encP (inS k) (s.data.toList.take (j + 1)) = encP (inS k) (s.data.toList.take j) ++ [s[j]]) := by
          intro h
          rw [HS.out, enc_snoc]
          unfold encB
          rw [if_neg (by rw [h]; simp)]
        have hhi : Hid (inS k s[j] = true → encP (inS k) (s.data.toList.take (j + 1)) = encP (inS k) (s.data.toList.take j) ++ [37] ++ [dg (s[j].toNat / 16)] ++ [dg (s[j].toNat % 16)]) := by
          intro h
          rw [HS.out, enc_snoc]
          unfold encB
          rw [if_pos h]
          simp
        have hb8 := s[j].toNat_lt
        rcases hcase with ⟨ha, hz, hi, hin⟩ | hrest
        · go_wp2_with fail
          refine (Try.strings_IndexByte _ _ _).mono ?_
          rintro e w' ⟨rfl, rfl⟩
          rw [hidx.out]
          go_wp2_with fail
          refine (writeByte_k w.heap.size w.heap.size _ _ _ hI (by omega) hsz).mono ?_
          rintro e W1 ⟨rfl, h1, b1, k1⟩
          go_wp2_with fail
          go_roundw
          case rel =>
            refine ⟨j + 1, by omega, by go_num, ?_, hb.trans b1⟩
            rw [hlo.out hin.out, Lib.byteCells_append]
            exact h1
          case measure => simp [intOf]; omega
        · obtain ⟨d1, hd1⟩ : ∃ d, d = dg (s[j].toNat / 16) := ⟨_, rfl⟩
          obtain ⟨d2, hd2⟩ : ∃ d, d = dg (s[j].toNat % 16) := ⟨_, rfl⟩
          rw [← hd1, ← hd2] at hhi
          have HD1 := Lib.hid hd1
          have HD2 := Lib.hid hd2
          clear hd1 hd2
          rcases hrest with ⟨ha, hin⟩ | ⟨ha, hz, hin⟩ | ⟨ha, hz, hi, hin⟩
          case' inr.inr =>
            go_wp2_with fail
            refine (Try.strings_IndexByte _ _ _).mono ?_
            rintro e w' ⟨rfl, rfl⟩
            rw [hidx.out]
          all_goals
            go_wp2_with fail
            refine (writeByte_k w.heap.size w.heap.size _ _ _ hI (by omega) hsz).mono ?_
            rintro e W1 ⟨rfl, h1, b1, k1⟩
            have hsz1 := Nat.le_trans hsz b1.size
            go_wp2_with fail
            rw [show (⟨#[48, 49, 50, 51, 52, 53, 54, 55, 56, 57, 65, 66, 67, 68, 69, 70]⟩ : ByteArray)[s[j].toNat / 16]'(by show _ < 16; omega) = d1 from (dig_at _).trans HD1.out.symm]
            refine (writeByte_k w.heap.size w.heap.size _ _ _ h1 (by simp; omega) hsz1).mono ?_
            rintro e W2 ⟨rfl, h2, b2, k2⟩
            have hsz2 := Nat.le_trans hsz1 b2.size
            go_wp2_with fail
            rw [show (⟨#[48, 49, 50, 51, 52, 53, 54, 55, 56, 57, 65, 66, 67, 68, 69, 70]⟩ : ByteArray)[s[j].toNat % 16]'(by show _ < 16; omega) = d2 from (dig_at _).trans HD2.out.symm]
            refine (writeByte_k w.heap.size w.heap.size _ _ _ h2 (by simp; omega) hsz2).mono ?_
            rintro e W3 ⟨rfl, h3, b3, k3⟩
            go_wp2_with fail
            go_roundw
            case rel =>
              refine ⟨j + 1, by omega, by go_num, ?_, ((hb.trans b1).trans b2).trans b3⟩
              rw [hhi.out hin.out, Lib.byteCells_append, Lib.byteCells_append, Lib.byteCells_append]
              exact h3
            case measure => simp [intOf]; omega
      · go_wp2_with fail
        refine (Try.Builder_String_any_k w.heap.size w.heap.size _ _ hI (by omega)).mono ?_
        rintro e W1 ⟨rfl, _, b1, _⟩
        go_wp2
        go_ret
        rw [List.take_of_length_le (by simp; omega)]
        exact ⟨rfl, hb.trans b1⟩
  · rw [if_neg hk]
    have hd : Hid (decide (0 ≤ k ∧ k ≤ 6) = false) := decide_eq_false hk
    clear hk
    go_enter Try.func8, Try.ntmps8
    go_wp2_with fail
    refine (members_any k _).mono ?_
    rintro e w' ⟨rfl, rfl⟩
    rw [hd.out]
    go_wp2_with fail
    go_ret
    exact ⟨rfl, Below.refl _ _⟩
end Go.Proofs.Ytfbmabbehiicmaa
