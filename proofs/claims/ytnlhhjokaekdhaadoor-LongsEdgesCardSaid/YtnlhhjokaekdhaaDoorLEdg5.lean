/- The law LongsEdges. -/
import Derived.Test.YtnlhhjokaekdhaaDoorLSum5
import Derived.Test.YtnlhhjokaekdhaaDoorRow
set_option linter.unusedVariables false
set_option linter.unusedSimpArgs false
namespace Go.Proofs.YtnlhhjokaekdhaaDoor.L5
open Go.RowKit

def byteRow (n k : Nat) (x : Int) : List Value := List.replicate k (Value.int .u8 x) ++ List.replicate (n - k) (Value.int .u8 0)
theorem byteRow_set {n k : Nat} (h : k < n) (x : Int) : (byteRow n k x).set k (.int .u8 x) = byteRow n (k + 1) x := by
  unfold byteRow
  obtain ⟨m, hm⟩ : ∃ m, n - k = m + 1 := ⟨n - k - 1, by omega⟩
  have e : n - (k + 1) = m := by omega
  rw [hm, e, List.set_append_right _ _ (by simp)]
  simp only [List.length_replicate, Nat.sub_self, List.replicate_succ (n := m), List.set_cons_zero]
  rw [List.replicate_succ']
  simp
theorem byteRow_len {n k : Nat} (h : k ≤ n) (x : Int) : (byteRow n k x).length = n := by unfold byteRow; simp; omega
theorem byteRow_at {n k : Nat} (h : k < n) (x : Int) : (byteRow n k x)[k]? = some (.int .u8 0) := by
  unfold byteRow
  rw [List.getElem?_append_right (by simp), List.getElem?_replicate]
  simp
  omega
theorem made_u8 (n : Nat) (x : Int) : (madeCells (Value.int .u8 0).cells (n * 1)).toList = byteRow n 0 x := by
  have hc : (Value.int .u8 0).cells = #[Value.int .u8 0] := rfl
  unfold madeCells byteRow
  rw [hc]
  apply List.ext_getElem?
  intro j
  simp [List.getElem?_replicate]
  by_cases hj : j < n
  · rw [if_pos hj]; simp [hj, Nat.mod_one]
  · rw [if_neg hj]; simp [hj]
/-- The text of a row of one byte over and over, wherever its cells are. -/
theorem conv_row (W : World) (b n : Nat) (x : Int) (hx : 0 ≤ x ∧ x ≤ 255) (h : ∀ i, i < n → W.cell? ⟨b, i, none⟩ = some (.int .u8 x)) :
    (convert 26 9 (.slice (some ⟨b, 0, none⟩) n n)).run Tryd.prog W = .ok (.string ⟨(List.replicate n (UInt8.ofNat x.toNat)).toArray⟩) W := by
  have := run_convert_bytes_back (P := Tryd.prog) W 26 9 5 ⟨b, 0, none⟩ n (List.replicate n (UInt8.ofNat x.toNat)) Tryd.underlying26 Tryd.underlying5 Tryd.underlying9 (fun j hj => by
    have hj' : j < n := by simpa using hj
    have hadd : (⟨b, 0, none⟩ : Addr).add j = ⟨b, j, none⟩ := by unfold Addr.add; split <;> simp_all
    rw [hadd, h j hj']
    simp
    omega)
  rw [List.length_replicate] at this
  exact this

theorem edge5_n (x0 x1 : Int) (a0 : 0 ≤ x0) (b0 : -128 ≤ x1) (b1 : x1 ≤ 127) : ∃ n : Nat, wrap64 (128 * (1 + x0 % 4) + x1.tmod 24) = (n : Int) ∧ n ≤ 600 := by
  have ht : -23 ≤ x1.tmod 24 ∧ x1.tmod 24 ≤ 23 := by
    by_cases h : 0 ≤ x1
    · rw [Int.tmod_eq_emod_of_nonneg h]; omega
    · have e : x1 = -(-x1) := by omega
      rw [e, Int.neg_tmod, Int.tmod_eq_emod_of_nonneg (by omega)]; omega
  generalize x1.tmod 24 = t at ht ⊢
  refine ⟨(128 * (1 + x0 % 4) + t).toNat, ?_, by omega⟩
  unfold wrap64
  omega
set_option maxHeartbeats 3200000 in
set_option maxRecDepth 100000 in
theorem longsEdges_law (x0 x1 x2 : Int) (w : World) (hT : LTab5 w) (h0 : 0 ≤ x0 ∧ x0 ≤ 255) (h1 : -128 ≤ x1 ∧ x1 ≤ 127) (h2 : 0 ≤ x2 ∧ x2 ≤ 255) :
    Calls Tryd.prog 7 #[.int .u8 x0, .int .i8 x1, .int .u8 x2] w fun e w' => e = .returned (.bool true) ∧ Below w.heap.size w w' := by
  have HT := Lib.hid hT
  clear hT
  obtain ⟨a0, a1⟩ := h0
  obtain ⟨b0, b1⟩ := h1
  obtain ⟨n, hn, hn6⟩ := edge5_n x0 x1 a0 b0 b1
  obtain ⟨i0, hi, hz0, hz1, hz2⟩ := info_parts infoByte
  go_enter Tryd.func7, Tryd.ntmps7
  go_wp2_with (refine wpList_make_full _ rfl _ _ 26 rfl w.heap.size 5 i0 (.int .u8 0) 1 Tryd.underlying26 hi hz0 hz1 _ _ _ _ n rfl rfl (by omega) (by omega) (by rw [hz2]; omega) (by unfold maxLen; omega) (Nat.le_refl _) ?_; intro w1 o1 g1)
  have O1 : Hid (w1.ownsRow w.heap.size 5 1 (.slice (some ⟨w.heap.size, 0, none⟩) n n) n (byteRow n 0 x2)) := by rw [made_u8 n x2] at o1; exact o1
  have B1 : Hid (Below w.heap.size w w1) := ⟨g1.os, g1.tape, g1.output, g1.size, fun k hk => g1.block k hk (by simp)⟩
  clear o1 g1 hi hz0 hz1 hz2
  try rw [hn]
  clear hn
  go_loopw [9] (fun s wr => ∃ k : Nat, k ≤ n ∧ s = .int .i64 k ∧ Hid (wr.ownsRow w.heap.size 5 1 (.slice (some ⟨w.heap.size, 0, none⟩) n n) n (byteRow n k x2)) ∧ Hid (Below w.heap.size w wr)) (fun s _ => n - (intOf s).toNat)
  case atStart => exact ⟨0, Nat.zero_le _, rfl, O1, B1⟩
  case round =>
    clear O1 B1
    obtain ⟨k, hk, rfl, O, B⟩ := hrel
    by_cases hlt : k < n
    · have hki : (k : Int) < n := by omega
      have hk0 : (0 : Int) ≤ k := by omega
      obtain ⟨g', cq, he, _, _, _, hg2, rr⟩ := owns_cell O.out (j := 0) (by omega)
      injection he with e1 e2 e3
      injection e1 with e1
      injection e1 with e1 e4
      subst e1
      have c0 := rr k _ (byteRow_at hlt x2)
      have f0 := R4.owns_free O.out rfl k
      have O2 : Hid (World.ownsRow (wr.setCell ⟨w.heap.size, k, none⟩ (.int .u8 x2)) w.heap.size 5 1 (.slice (some ⟨w.heap.size, 0, none⟩) n n) n (byteRow n (k + 1) x2)) := by
        have := R4.owns_set (k := k) O.out rfl (.int .u8 x2)
        rw [byteRow_set hlt] at this
        exact this
      clear rr hlt
      go_wp2_with fail
      go_roundw
      case rel => exact ⟨k + 1, by omega, by go_num, O2, B.out.setCell (Nat.le_refl _) _⟩
      case measure => simp [intOf]; omega
    · obtain ⟨T, hT⟩ : ∃ T : ByteArray, (⟨(List.replicate n (UInt8.ofNat x2.toNat)).toArray⟩ : ByteArray) = T := ⟨_, rfl⟩
      have hTs : T.size = n := by rw [← hT]; simp [ByteArray.size]
      have hkn : k = n := by omega
      rw [hkn] at O
      have HCV : Hid (∀ W, Below wr.heap.size wr W → (convert 26 9 (.slice (some ⟨w.heap.size, 0, none⟩) n n)).run Tryd.prog W = .ok (.string T) W) := by
        intro W hW
        rw [← hT]
        refine conv_row W w.heap.size n x2 h2 fun i hi => ?_
        have O2 := owns_below O.out hW
        obtain ⟨g', cq, he, _, _, _, hg2, rr⟩ := owns_cell O2 (j := 0) (by omega)
        injection he with e1 e2 e3
        injection e1 with e1
        injection e1 with e1 e4
        subst e1
        refine rr i _ ?_
        unfold byteRow
        rw [List.getElem?_append_left (by simpa using hi), List.getElem?_replicate, if_pos hi]
      obtain ⟨S, hS⟩ : ∃ S : ByteArray, (⟨(sum512L T.data.toList).toArray⟩ : ByteArray) = S := ⟨_, rfl⟩
      obtain ⟨R, hR⟩ : ∃ S : ByteArray, (⟨(sum384L T.data.toList).toArray⟩ : ByteArray) = S := ⟨_, rfl⟩
      have HC : Hid (∀ W, LTab5 W → Calls Tryd.prog 17 #[.string T] W fun e w' => e = .returned (.string S) ∧ Below W.heap.size W w') := fun W hW => by
        rw [← hS]; exact sum512_any T W (by omega) hW
      have HD : Hid (∀ W, LTab5 W → Calls Tryd.prog 19 #[.string T] W fun e w' => e = .returned (.string R) ∧ Below W.heap.size W w') := fun W hW => by
        rw [← hR]; exact sum384_any T W (by omega) hW
      have HR : Hid (∀ W, Calls Tryd.prog 18 #[.string T] W fun e w' => e = .returned (.string S) ∧ Below W.heap.size W w') := fun W => by
        rw [← hS]; exact rsum512_any T W (by omega)
      have HE : Hid (∀ W, Calls Tryd.prog 20 #[.string T] W fun e w' => e = .returned (.string R) ∧ Below W.heap.size W w') := fun W => by
        rw [← hR]; exact rsum384_any T W (by omega)
      have hq : (S.toList == S.toList) = true := by simp
      have hq2 : (R.toList == R.toList) = true := by simp
      have hnk : ¬ (k : Int) < n := by omega
      have hcv0 := HCV.out wr (Below.refl _ wr)
      have BR := B
      clear hS hR hT hTs hlt hkn
      go_wp2_with fail
      refine (HC.out wr (HT.out.below BR.out)).mono ?_
      rintro e w1 ⟨rfl, b1⟩
      have B1 : Hid (Below w.heap.size w w1) := BR.out.trans (b1.mono BR.out.size)
      clear b1
      clear hcv0
      go_wp2_with fail
      refine (HR.out w1).mono ?_
      rintro e w2 ⟨rfl, b2⟩
      have B2 : Hid (Below w.heap.size w w2) := B1.out.trans (b2.mono B1.out.size)
      clear b2
      go_wp2_with fail
      refine (HD.out w2 (HT.out.below B2.out)).mono ?_
      rintro e w3 ⟨rfl, b3⟩
      have B3 : Hid (Below w.heap.size w w3) := B2.out.trans (b3.mono B2.out.size)
      clear b3
      go_wp2_with fail
      refine (HE.out w3).mono ?_
      rintro e w4 ⟨rfl, b4⟩
      have B4 : Hid (Below w.heap.size w w4) := B3.out.trans (b4.mono B3.out.size)
      clear b4
      go_wp2_with fail
      refine (published_any w4 (HT.out.below B4.out)).mono ?_
      rintro e w5 ⟨rfl, b5⟩
      have B5 : Hid (Below w.heap.size w w5) := B4.out.trans (b5.mono B4.out.size)
      clear b5
      go_wp2_with fail
      go_ret
      exact ⟨by exact rfl, B5.out⟩
end Go.Proofs.YtnlhhjokaekdhaaDoor.L5
