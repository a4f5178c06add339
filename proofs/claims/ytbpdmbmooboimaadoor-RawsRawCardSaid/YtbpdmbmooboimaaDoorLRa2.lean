/- Law RawsRaw. -/
import Derived.Test.YtbpdmbmooboimaaDoorRwu
set_option linter.unusedVariables false
set_option linter.unusedSimpArgs false
namespace Go.Proofs.YtbpdmbmooboimaaDoor.R11
open Go.RowKit R9 T10

theorem Raw_both (s nm : ByteArray) (z st m : Int) (hs : s.size ≤ 5000) (hn : nm.size ≤ 1000) : ∃ (x : ByteArray) (N : Int), (∀ W, RTab W → MaxOk m W → Calls Tryd.prog 20 #[.string s, .int .i64 z, .int .i64 st, .string nm] W fun e w' => e = .returned (.tuple #[.string x, .int .i64 N]) ∧ Below W.heap.size W w') ∧
    (∀ W, Calls Tryd.prog 21 #[.string s, .int .i64 z, .int .i64 st, .string nm] W fun e w' => e = .returned (.tuple #[.string x, .int .i64 N]) ∧ Below W.heap.size W w') := by
  by_cases h : z < 0 ∨ (s.size : Int) < z ∨ (st ≠ 1 ∧ st ≠ 2 ∧ st ≠ 3 ∧ st ≠ 4)
  · exact ⟨_, _, fun W _ _ => Raw_no s nm z st W (by omega) h, fun W => rRaw_no s nm z st W (by omega) h⟩
  · obtain ⟨a, rfl⟩ : ∃ a : Nat, z = (a : Int) := ⟨z.toNat, by omega⟩
    obtain ⟨q, rfl⟩ : ∃ a : Nat, st = (a : Int) := ⟨st.toNat, by omega⟩
    exact ⟨_, _, fun W hT hm => Raw_any s nm a q m W hs hn hT hm (by omega) (by omega), fun W => rRaw_any s nm a q W hs hn (by omega) (by omega)⟩
theorem str_self' (s : ByteArray) : (s.toList != s.toList) = false := by simp
theorem int_self' (n : Int) : (n != n) = false := by simp
def stK (st : Int) : Nat → Int
  | 0 => st
  | k + 1 => (k : Int)
set_option maxHeartbeats 3200000 in
set_option maxRecDepth 100000 in
theorem rawsRaw_law (s nm : ByteArray) (z st m : Int) (w : World) (hs : s.size ≤ maxLen) (hn : nm.size ≤ maxLen) (hT : RTab w) (hm : MaxOk m w) :
    Calls Tryd.prog 4 #[.string s, .int .i64 z, .agg #[.int .i64 st, .string nm]] w fun e w' => e = .returned (.bool true) ∧ Below w.heap.size w w' := by
  unfold maxLen at hs hn
  obtain ⟨W1, hW1⟩ : ∃ W1, W1 = w.alloc (.cells #[.int .i64 st, .string nm] 33) := ⟨_, rfl⟩
  have hb1 : Below w.heap.size w W1 := by rw [hW1]; exact (Below.refl _ w).alloc (Nat.le_refl _) _
  have hlt1 : Hid (w.heap.size < W1.heap.size) := by show _ < _; rw [hW1]; simp
  have q0 : W1.cell? ⟨w.heap.size, 0, none⟩ = some (.int .i64 st) := by rw [hW1, Lib.cell_of_heap (heap_alloc_new w _)]; rfl
  have q1 : W1.cell? ⟨w.heap.size, 1, none⟩ = some (.string nm) := by rw [hW1, Lib.cell_of_heap (heap_alloc_new w _)]; rfl
  have CP : Hid (∀ W, Below W1.heap.size W1 W → W.cell? ⟨w.heap.size, 1, none⟩ = some (.string nm)) := fun W hW =>
    (hW.cell (p := ⟨w.heap.size, 1, none⟩) hlt1.out).trans q1
  have HB1 := Lib.hid hb1
  have HT : Hid (∀ W, Below W1.heap.size W1 W → RTab W) := fun W hW => (hT.below hb1).below hW
  have HM : Hid (∀ W, Below W1.heap.size W1 W → MaxOk m W) := fun W hW => (hm.below hb1).below hW
  have HW1 := Lib.hid hW1
  have HB0 : Hid (Below W1.heap.size W1 W1) := Below.refl _ _
  clear hW1 hb1 hT hm
  by_cases hl : 2000 < s.size
  · have hl2 : (2000 : Int) < s.size := by omega
    clear hl
    go_enter Tryd.func4, Tryd.ntmps4
    go_upto_region 1 with fail
    rw [← HW1.out]
    go_wp2_with fail
    refine (raw_any m _ (HT.out _ HB0.out) (HM.out _ HB0.out)).mono ?_
    rintro e w2 ⟨rfl, b2⟩
    have B2 : Hid (Below W1.heap.size W1 w2) := HB0.out.trans (b2.mono HB0.out.size)
    clear b2
    go_wp2_with fail
    go_ret
    exact ⟨by exact rfl, HB1.out.trans (B2.out.mono HB1.out.size)⟩
  · have hl2 : ¬ (2000 : Int) < s.size := by omega
    by_cases hk : 100 < nm.size
    · have hk2 : (100 : Int) < nm.size := by omega
      clear hl hk
      go_enter Tryd.func4, Tryd.ntmps4
      go_upto_region 1 with fail
      rw [← HW1.out]
      go_wp2_with fail
      refine (raw_any m _ (HT.out _ HB0.out) (HM.out _ HB0.out)).mono ?_
      rintro e w2 ⟨rfl, b2⟩
      have B2 : Hid (Below W1.heap.size W1 w2) := HB0.out.trans (b2.mono HB0.out.size)
      clear b2
      go_wp2_with fail
      go_ret
      exact ⟨by exact rfl, HB1.out.trans (B2.out.mono HB1.out.size)⟩
    · have hk2 : ¬ (100 : Int) < nm.size := by omega
      have hs5 : s.size ≤ 5000 := by omega
      have hn5 : nm.size ≤ 1000 := by omega
      clear hl hk
      go_enter Tryd.func4, Tryd.ntmps4
      go_upto_region 1 with fail
      rw [← HW1.out]
      go_wp2_with fail
      clear q0 q1
      go_loopw [26] (fun i wr => ∃ k : Nat, k ≤ 6 ∧ i = .int .i64 k ∧ Hid (Below W1.heap.size W1 wr)) (fun i _ => 6 - (intOf i).toNat)
      case atStart => exact ⟨0, by omega, rfl, HB0.out⟩
      case round =>
        obtain ⟨k, hk, rfl, HB⟩ := hrel
        by_cases hlt : k < 6
        · have hki : (k : Int) < 6 := by omega
          have hx : ∀ W, (Instr.index 34 (.agg #[.int .i64 st, .int .i64 0, .int .i64 1, .int .i64 2, .int .i64 3, .int .i64 4]) (.int .i64 (k : Int))).run Tryd.prog W = .ok (.int .i64 (stK st k)) W := by
            have hc : k = 0 ∨ k = 1 ∨ k = 2 ∨ k = 3 ∨ k = 4 ∨ k = 5 := by omega
            rcases hc with rfl | rfl | rfl | rfl | rfl | rfl <;> exact fun _ => by kernel_rfl
          obtain ⟨sk, hsk⟩ : ∃ sk, stK st k = sk := ⟨_, rfl⟩
          rw [hsk] at hx
          obtain ⟨x, N, fR, gR⟩ := Raw_both s nm z sk m hs5 hn5
          have FR := Lib.hid fR
          have GR := Lib.hid gR
          have e1 := str_self' x
          have e2 := int_self' N
          have c1 := CP.out wr HB.out
          clear fR gR hsk
          go_wp2_with fail
          refine (FR.out _ (HT.out _ HB.out) (HM.out _ HB.out)).mono ?_
          rintro e w1 ⟨rfl, b1⟩
          have HB2 : Hid (Below W1.heap.size W1 w1) := HB.out.trans (b1.mono HB.out.size)
          have c2 := CP.out w1 HB2.out
          clear b1
          go_wp2_with fail
          refine (GR.out _).mono ?_
          rintro e w2 ⟨rfl, b2⟩
          have HB3 : Hid (Below W1.heap.size W1 w2) := HB2.out.trans (b2.mono HB2.out.size)
          clear b2
          go_wp2_with fail
          go_roundw
          case rel => exact ⟨k + 1, by omega, by go_num, HB3.out⟩
          case measure => simp [intOf]; omega
        · have hki : ¬ (k : Int) < 6 := by omega
          clear hlt
          go_wp2_with fail
          refine (raw_any m _ (HT.out _ HB.out) (HM.out _ HB.out)).mono ?_
          rintro e w1 ⟨rfl, b1⟩
          go_wp2_with fail
          go_ret
          exact ⟨by exact rfl, (HB1.out.trans (HB.out.mono HB1.out.size)).trans (b1.mono (HB1.out.trans (HB.out.mono HB1.out.size)).size)⟩
end Go.Proofs.YtbpdmbmooboimaaDoor.R11
