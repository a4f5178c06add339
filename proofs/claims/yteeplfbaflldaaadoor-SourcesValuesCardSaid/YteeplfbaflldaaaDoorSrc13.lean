/- sources: parseQuoted, at what is no keyword. sources: parseQuoted, at what is no keyword and has a dash. sources: parseQuoted, at what is no keyword and has a dash and base64 behind it. sources: parseQuoted, at what is no keyword and has a known front before its dash and base64 behind it. sources: what strings.Cut hands back. sources: parseQuoted, whole. -/
import Derived.Test.YteeplfbaflldaaaDoorSrc6
set_option linter.unusedVariables false
set_option linter.unusedSimpArgs false
namespace Go.Proofs.YteeplfbaflldaaaDoor.S25
open Go.RowKit Go.Extern.Stop Go.Stop Go.Extern T10

theorem not_kw {low : ByteArray} (h : low ∉ kws) : ∀ k ∈ kws, (low.toList == k.data.toList) = false := by
  intro k hk
  rw [beq_eq_false_iff_ne]
  intro e
  rw [ByteArray.toList_eq] at e
  have : low = k := by
    cases low; cases k
    simp at e
    rw [e]
  exact h (this ▸ hk)
def zSrc : Value := srcV 0 ⟨#[]⟩ 0 ⟨#[]⟩ ⟨#[]⟩ false 0 ⟨#[]⟩
def quoV (s : ByteArray) : Value := .tuple #[zSrc, faultV ⟨#[113, 117, 111, 116, 101, 100]⟩ s]
set_option maxHeartbeats 3200000 in
set_option maxRecDepth 100000 in
theorem quoted_nodash (s low front back : ByteArray) (m : Int) (w : World) (hs : s.size ≤ 1000000) (hk : low ∉ kws) (hl : (⟨(lowL s.data.toList).toArray⟩ : ByteArray) = low) (hls : low.size ≤ 1000000) (hm : w.cell? ⟨2, 0, none⟩ = some (.int .i64 m))
    (hcut : ∀ w, w.cell? ⟨2, 0, none⟩ = some (.int .i64 m) → Calls Tryd.prog 66 #[.string low, .string ⟨#[45]⟩] w fun e w' => e = .returned (.tuple #[.string front, .string back, .bool false]) ∧ ∃ n, w' = w.drewN n) :
    Calls Tryd.prog 50 #[.string s] w fun e w' => e = .returned (quoV s) ∧ Below w.heap.size w w' := by
  obtain ⟨W1, hW1⟩ : ∃ W1, W1 = w.alloc (.cells #[.int .i64 0, .string ⟨#[]⟩, .int .i64 0, .string ⟨#[]⟩, .string ⟨#[]⟩, .bool false, .int .i64 0, .string ⟨#[]⟩] 41) := ⟨_, rfl⟩
  have B1 : Below w.heap.size w W1 := by rw [hW1]; exact (Below.refl _ w).alloc (Nat.le_refl _) _
  have k0 : W1.heap[w.heap.size]? = some (.cells #[.int .i64 0, .string ⟨#[]⟩, .int .i64 0, .string ⟨#[]⟩, .string ⟨#[]⟩, .bool false, .int .i64 0, .string ⟨#[]⟩] 41 (0, 0)) := by rw [hW1]; exact heap_alloc_new w _
  have hlt1 : w.heap.size < W1.heap.size := by rw [hW1]; simp
  have hlo := lower_any s W1 (by omega)
  rw [hl] at hlo
  have HLO := Lib.hid hlo
  have HB1 := Lib.hid B1
  have HW := Lib.hid hW1
  have HK0 := Lib.hid k0
  clear hW1 k0 hlo hl B1
  have hno := not_kw hk
  have t1 : (low.toList == [115, 101, 108, 102]) = false := hno ⟨#[115, 101, 108, 102]⟩ (by simp [kws])
  have t2 : (low.toList == [117, 110, 115, 97, 102, 101, 45, 105, 110, 108, 105, 110, 101]) = false := hno ⟨#[117, 110, 115, 97, 102, 101, 45, 105, 110, 108, 105, 110, 101]⟩ (by simp [kws])
  have t3 : (low.toList == [117, 110, 115, 97, 102, 101, 45, 101, 118, 97, 108]) = false := hno ⟨#[117, 110, 115, 97, 102, 101, 45, 101, 118, 97, 108]⟩ (by simp [kws])
  have t4 : (low.toList == [115, 116, 114, 105, 99, 116, 45, 100, 121, 110, 97, 109, 105, 99]) = false := hno ⟨#[115, 116, 114, 105, 99, 116, 45, 100, 121, 110, 97, 109, 105, 99]⟩ (by simp [kws])
  have t5 : (low.toList == [117, 110, 115, 97, 102, 101, 45, 104, 97, 115, 104, 101, 115]) = false := hno ⟨#[117, 110, 115, 97, 102, 101, 45, 104, 97, 115, 104, 101, 115]⟩ (by simp [kws])
  have t6 : (low.toList == [114, 101, 112, 111, 114, 116, 45, 115, 97, 109, 112, 108, 101]) = false := hno ⟨#[114, 101, 112, 111, 114, 116, 45, 115, 97, 109, 112, 108, 101]⟩ (by simp [kws])
  have t7 : (low.toList == [119, 97, 115, 109, 45, 117, 110, 115, 97, 102, 101, 45, 101, 118, 97, 108]) = false := hno ⟨#[119, 97, 115, 109, 45, 117, 110, 115, 97, 102, 101, 45, 101, 118, 97, 108]⟩ (by simp [kws])
  have t8 : (low.toList == [117, 110, 115, 97, 102, 101, 45, 97, 108, 108, 111, 119, 45, 114, 101, 100, 105, 114, 101, 99, 116, 115]) = false := hno ⟨#[117, 110, 115, 97, 102, 101, 45, 97, 108, 108, 111, 119, 45, 114, 101, 100, 105, 114, 101, 99, 116, 115]⟩ (by simp [kws])
  have h2l := World.block_lt_of_cell? w _ hm
  simp only [] at h2l
  have HM := Lib.hid hm
  clear hno hk hm
  go_enter Tryd.func50, Tryd.ntmps50
  go_upto_region 1 with fail
  rw [← HW.out]
  go_wp2_with fail
  refine HLO.out.mono ?_
  rintro e w2 ⟨rfl, b2⟩
  have k2 := (b2.block _ hlt1).trans HK0.out
  have hm2 : w2.cell? ⟨2, 0, none⟩ = some (.int .i64 m) := ((HB1.out.trans (b2.mono HB1.out.size)).cell (p := ⟨2, 0, none⟩) h2l).trans HM.out
  have hc := hcut w2 hm2
  obtain ⟨⟨c0, c1, c2, c3, c4, c5, c6, c7⟩, f0, f1, f2, f3, f4, f5, f6, f7⟩ := eight k2
  have HB2 := Lib.hid (HB1.out.trans (b2.mono HB1.out.size))
  have HC := Lib.hid hc
  clear b2 k2 hc hcut hm2
  go_wp2_with fail
  refine HC.out.mono ?_
  rintro e w3 ⟨rfl, n, rfl⟩
  go_wp2_with fail
  refine bodyPost_ret (v := quoV s) ?_ rfl ?_
  · rw [results_cell_tmp rfl]
    go_simp
    rfl
  · exact ⟨rfl, below_set8 (below_drewN HB2.out _) _ _ _ _ _ _ _ _⟩
end Go.Proofs.YteeplfbaflldaaaDoor.S25
set_option linter.unusedVariables false
set_option linter.unusedSimpArgs false
namespace Go.Proofs.YteeplfbaflldaaaDoor.S25
open Go.RowKit Go.Extern.Stop Go.Stop Go.Extern T10

set_option maxHeartbeats 3200000 in
set_option maxRecDepth 100000 in
theorem quoted_bad (s low front back : ByteArray) (m : Int) (w : World) (hs : s.size ≤ 1000000) (hk : low ∉ kws) (hl : (⟨(lowL s.data.toList).toArray⟩ : ByteArray) = low) (hls : low.size ≤ 1000000) (hfs : front.size + 1 ≤ s.size) (hbb : b64B (s.extract (front.size + 1) s.size).data.toList = false) (hm : w.cell? ⟨2, 0, none⟩ = some (.int .i64 m))
    (hcut : ∀ w, w.cell? ⟨2, 0, none⟩ = some (.int .i64 m) → Calls Tryd.prog 66 #[.string low, .string ⟨#[45]⟩] w fun e w' => e = .returned (.tuple #[.string front, .string back, .bool true]) ∧ ∃ n, w' = w.drewN n) :
    Calls Tryd.prog 50 #[.string s] w fun e w' => e = .returned (quoV s) ∧ Below w.heap.size w w' := by
  have HIB : Hid (∀ w, Calls Tryd.prog 67 #[.string (s.extract (front.size + 1) s.size)] w fun e w' => e = .returned (.bool false) ∧ w = w') := by
    intro w
    have := isBase64_any (s.extract (front.size + 1) s.size) w (by simp; omega)
    rwa [hbb] at this
  clear hbb
  obtain ⟨W1, hW1⟩ : ∃ W1, W1 = w.alloc (.cells #[.int .i64 0, .string ⟨#[]⟩, .int .i64 0, .string ⟨#[]⟩, .string ⟨#[]⟩, .bool false, .int .i64 0, .string ⟨#[]⟩] 41) := ⟨_, rfl⟩
  have B1 : Below w.heap.size w W1 := by rw [hW1]; exact (Below.refl _ w).alloc (Nat.le_refl _) _
  have k0 : W1.heap[w.heap.size]? = some (.cells #[.int .i64 0, .string ⟨#[]⟩, .int .i64 0, .string ⟨#[]⟩, .string ⟨#[]⟩, .bool false, .int .i64 0, .string ⟨#[]⟩] 41 (0, 0)) := by rw [hW1]; exact heap_alloc_new w _
  have hlt1 : w.heap.size < W1.heap.size := by rw [hW1]; simp
  have hlo := lower_any s W1 (by omega)
  rw [hl] at hlo
  have HLO := Lib.hid hlo
  have HB1 := Lib.hid B1
  have HW := Lib.hid hW1
  have HK0 := Lib.hid k0
  clear hW1 k0 hlo hl B1
  have hno := not_kw hk
  have t1 : (low.toList == [115, 101, 108, 102]) = false := hno ⟨#[115, 101, 108, 102]⟩ (by simp [kws])
  have t2 : (low.toList == [117, 110, 115, 97, 102, 101, 45, 105, 110, 108, 105, 110, 101]) = false := hno ⟨#[117, 110, 115, 97, 102, 101, 45, 105, 110, 108, 105, 110, 101]⟩ (by simp [kws])
  have t3 : (low.toList == [117, 110, 115, 97, 102, 101, 45, 101, 118, 97, 108]) = false := hno ⟨#[117, 110, 115, 97, 102, 101, 45, 101, 118, 97, 108]⟩ (by simp [kws])
  have t4 : (low.toList == [115, 116, 114, 105, 99, 116, 45, 100, 121, 110, 97, 109, 105, 99]) = false := hno ⟨#[115, 116, 114, 105, 99, 116, 45, 100, 121, 110, 97, 109, 105, 99]⟩ (by simp [kws])
  have t5 : (low.toList == [117, 110, 115, 97, 102, 101, 45, 104, 97, 115, 104, 101, 115]) = false := hno ⟨#[117, 110, 115, 97, 102, 101, 45, 104, 97, 115, 104, 101, 115]⟩ (by simp [kws])
  have t6 : (low.toList == [114, 101, 112, 111, 114, 116, 45, 115, 97, 109, 112, 108, 101]) = false := hno ⟨#[114, 101, 112, 111, 114, 116, 45, 115, 97, 109, 112, 108, 101]⟩ (by simp [kws])
  have t7 : (low.toList == [119, 97, 115, 109, 45, 117, 110, 115, 97, 102, 101, 45, 101, 118, 97, 108]) = false := hno ⟨#[119, 97, 115, 109, 45, 117, 110, 115, 97, 102, 101, 45, 101, 118, 97, 108]⟩ (by simp [kws])
  have t8 : (low.toList == [117, 110, 115, 97, 102, 101, 45, 97, 108, 108, 111, 119, 45, 114, 101, 100, 105, 114, 101, 99, 116, 115]) = false := hno ⟨#[117, 110, 115, 97, 102, 101, 45, 97, 108, 108, 111, 119, 45, 114, 101, 100, 105, 114, 101, 99, 116, 115]⟩ (by simp [kws])
  have h2l := World.block_lt_of_cell? w _ hm
  simp only [] at h2l
  have HM := Lib.hid hm
  clear hno hk hm
  go_enter Tryd.func50, Tryd.ntmps50
  go_upto_region 1 with fail
  rw [← HW.out]
  go_wp2_with fail
  refine HLO.out.mono ?_
  rintro e w2 ⟨rfl, b2⟩
  have k2 := (b2.block _ hlt1).trans HK0.out
  have hm2 : w2.cell? ⟨2, 0, none⟩ = some (.int .i64 m) := ((HB1.out.trans (b2.mono HB1.out.size)).cell (p := ⟨2, 0, none⟩) h2l).trans HM.out
  have hc := hcut w2 hm2
  obtain ⟨⟨c0, c1, c2, c3, c4, c5, c6, c7⟩, f0, f1, f2, f3, f4, f5, f6, f7⟩ := eight k2
  have HB2 := Lib.hid (HB1.out.trans (b2.mono HB1.out.size))
  have HC := Lib.hid hc
  clear b2 k2 hc hcut hm2
  go_wp2_with fail
  refine HC.out.mono ?_
  rintro e w3 ⟨rfl, n, rfl⟩
  go_wp2_with fail
  refine (HIB.out _).mono ?_
  rintro e w4 ⟨rfl, rfl⟩
  go_wp2_with fail
  refine bodyPost_ret (v := quoV s) ?_ rfl ?_
  · rw [results_cell_tmp rfl]
    go_simp
    rfl
  · exact ⟨rfl, below_set8 (below_drewN HB2.out _) _ _ _ _ _ _ _ _⟩
end Go.Proofs.YteeplfbaflldaaaDoor.S25
set_option linter.unusedVariables false
set_option linter.unusedSimpArgs false
namespace Go.Proofs.YteeplfbaflldaaaDoor.S25
open Go.RowKit Go.Extern.Stop Go.Stop Go.Extern T10

set_option maxHeartbeats 800000 in
set_option maxRecDepth 100000 in
theorem quoted_else (s low front back : ByteArray) (m : Int) (w : World) (hs : s.size ≤ 1000000) (hk : low ∉ kws) (hl : (⟨(lowL s.data.toList).toArray⟩ : ByteArray) = low) (hls : low.size ≤ 1000000) (hfs : front.size + 1 ≤ s.size) (hbb : b64B (s.extract (front.size + 1) s.size).data.toList = true) (hn1 : front.data.toList ≠ [110, 111, 110, 99, 101]) (hn2 : front.data.toList ≠ [115, 104, 97, 50, 53, 54]) (hn3 : front.data.toList ≠ [115, 104, 97, 51, 56, 52]) (hn4 : front.data.toList ≠ [115, 104, 97, 53, 49, 50]) (hm : w.cell? ⟨2, 0, none⟩ = some (.int .i64 m))
    (hcut : ∀ w, w.cell? ⟨2, 0, none⟩ = some (.int .i64 m) → Calls Tryd.prog 66 #[.string low, .string ⟨#[45]⟩] w fun e w' => e = .returned (.tuple #[.string front, .string back, .bool true]) ∧ ∃ n, w' = w.drewN n) :
    Calls Tryd.prog 50 #[.string s] w fun e w' => e = .returned (quoV s) ∧ Below w.heap.size w w' := by
  have HIB : Hid (∀ w, Calls Tryd.prog 67 #[.string (s.extract (front.size + 1) s.size)] w fun e w' => e = .returned (.bool true) ∧ w = w') := by
    intro w
    have := isBase64_any (s.extract (front.size + 1) s.size) w (by simp; omega)
    rwa [hbb] at this
  have q1 : (front.toList == [110, 111, 110, 99, 101]) = false := by rw [ByteArray.toList_eq, beq_eq_false_iff_ne]; exact hn1
  have q2 : (front.toList == [115, 104, 97, 50, 53, 54]) = false := by rw [ByteArray.toList_eq, beq_eq_false_iff_ne]; exact hn2
  have q3 : (front.toList == [115, 104, 97, 51, 56, 52]) = false := by rw [ByteArray.toList_eq, beq_eq_false_iff_ne]; exact hn3
  have q4 : (front.toList == [115, 104, 97, 53, 49, 50]) = false := by rw [ByteArray.toList_eq, beq_eq_false_iff_ne]; exact hn4
  clear hbb hn1 hn2 hn3 hn4
  obtain ⟨W1, hW1⟩ : ∃ W1, W1 = w.alloc (.cells #[.int .i64 0, .string ⟨#[]⟩, .int .i64 0, .string ⟨#[]⟩, .string ⟨#[]⟩, .bool false, .int .i64 0, .string ⟨#[]⟩] 41) := ⟨_, rfl⟩
  have B1 : Below w.heap.size w W1 := by rw [hW1]; exact (Below.refl _ w).alloc (Nat.le_refl _) _
  have k0 : W1.heap[w.heap.size]? = some (.cells #[.int .i64 0, .string ⟨#[]⟩, .int .i64 0, .string ⟨#[]⟩, .string ⟨#[]⟩, .bool false, .int .i64 0, .string ⟨#[]⟩] 41 (0, 0)) := by rw [hW1]; exact heap_alloc_new w _
  have hlt1 : w.heap.size < W1.heap.size := by rw [hW1]; simp
  have hlo := lower_any s W1 (by omega)
  rw [hl] at hlo
  have HLO := Lib.hid hlo
  have HB1 := Lib.hid B1
  have HW := Lib.hid hW1
  have HK0 := Lib.hid k0
  clear hW1 k0 hlo hl B1
  have hno := not_kw hk
  have t1 : (low.toList == [115, 101, 108, 102]) = false := hno ⟨#[115, 101, 108, 102]⟩ (by simp [kws])
  have t2 : (low.toList == [117, 110, 115, 97, 102, 101, 45, 105, 110, 108, 105, 110, 101]) = false := hno ⟨#[117, 110, 115, 97, 102, 101, 45, 105, 110, 108, 105, 110, 101]⟩ (by simp [kws])
  have t3 : (low.toList == [117, 110, 115, 97, 102, 101, 45, 101, 118, 97, 108]) = false := hno ⟨#[117, 110, 115, 97, 102, 101, 45, 101, 118, 97, 108]⟩ (by simp [kws])
  have t4 : (low.toList == [115, 116, 114, 105, 99, 116, 45, 100, 121, 110, 97, 109, 105, 99]) = false := hno ⟨#[115, 116, 114, 105, 99, 116, 45, 100, 121, 110, 97, 109, 105, 99]⟩ (by simp [kws])
  have t5 : (low.toList == [117, 110, 115, 97, 102, 101, 45, 104, 97, 115, 104, 101, 115]) = false := hno ⟨#[117, 110, 115, 97, 102, 101, 45, 104, 97, 115, 104, 101, 115]⟩ (by simp [kws])
  have t6 : (low.toList == [114, 101, 112, 111, 114, 116, 45, 115, 97, 109, 112, 108, 101]) = false := hno ⟨#[114, 101, 112, 111, 114, 116, 45, 115, 97, 109, 112, 108, 101]⟩ (by simp [kws])
  have t7 : (low.toList == [119, 97, 115, 109, 45, 117, 110, 115, 97, 102, 101, 45, 101, 118, 97, 108]) = false := hno ⟨#[119, 97, 115, 109, 45, 117, 110, 115, 97, 102, 101, 45, 101, 118, 97, 108]⟩ (by simp [kws])
  have t8 : (low.toList == [117, 110, 115, 97, 102, 101, 45, 97, 108, 108, 111, 119, 45, 114, 101, 100, 105, 114, 101, 99, 116, 115]) = false := hno ⟨#[117, 110, 115, 97, 102, 101, 45, 97, 108, 108, 111, 119, 45, 114, 101, 100, 105, 114, 101, 99, 116, 115]⟩ (by simp [kws])
  have h2l := World.block_lt_of_cell? w _ hm
  simp only [] at h2l
  have HM := Lib.hid hm
  clear hno hk hm
  go_enter Tryd.func50, Tryd.ntmps50
  go_upto_region 1 with fail
  rw [← HW.out]
  go_wp2_with fail
  refine HLO.out.mono ?_
  rintro e w2 ⟨rfl, b2⟩
  have k2 := (b2.block _ hlt1).trans HK0.out
  have hm2 : w2.cell? ⟨2, 0, none⟩ = some (.int .i64 m) := ((HB1.out.trans (b2.mono HB1.out.size)).cell (p := ⟨2, 0, none⟩) h2l).trans HM.out
  have hc := hcut w2 hm2
  have HK2 := Lib.hid k2
  have hz2 : w.heap.size < w2.heap.size := Nat.lt_of_lt_of_le hlt1 b2.size
  have HB2 := Lib.hid (HB1.out.trans (b2.mono HB1.out.size))
  have HC := Lib.hid hc
  clear b2 k2 hc hcut hm2 hlt1
  go_wp2_with fail
  refine HC.out.mono ?_
  rintro e w3 ⟨rfl, n, hw3⟩
  have k3 : w3.heap[w.heap.size]? = some (.cells #[.int .i64 0, .string ⟨#[]⟩, .int .i64 0, .string ⟨#[]⟩, .string ⟨#[]⟩, .bool false, .int .i64 0, .string ⟨#[]⟩] 41 (0, 0)) := by rw [hw3]; exact HK2.out
  have hz3 : w.heap.size < w3.heap.size := by rw [hw3]; exact hz2
  have HB3 : Hid (Below w.heap.size w w3) := by show Below _ _ _; rw [hw3]; exact below_drewN HB2.out _
  clear hw3 HK2 HB2 hz2
  obtain ⟨⟨c0, c1, c2, c3, c4, c5, c6, c7⟩, f0, f1, f2, f3, f4, f5, f6, f7⟩ := eight k3
  clear k3
  go_wp2_with fail
  refine (HIB.out _).mono ?_
  rintro e w4 ⟨rfl, rfl⟩
  go_wp2_with fail
  refine bodyPost_ret (v := quoV s) ?_ rfl ?_
  · rw [results_cell_tmp rfl]
    go_simp
    rfl
  · exact ⟨rfl, (below_set8 HB3.out _ _ _ _ _ _ _ _).alloc (by simp only [World.size_setCell]; exact Nat.le_of_lt hz3) _⟩
end Go.Proofs.YteeplfbaflldaaaDoor.S25
set_option linter.unusedVariables false
set_option linter.unusedSimpArgs false
namespace Go.Proofs.YteeplfbaflldaaaDoor.S25
open Go.RowKit Go.Extern.Stop Go.Stop Go.Extern T10

set_option maxHeartbeats 800000 in
set_option maxRecDepth 100000 in
theorem quoted_nonce (s low back : ByteArray) (m : Int) (w : World) (hs : s.size ≤ 1000000) (hk : low ∉ kws) (hl : (⟨(lowL s.data.toList).toArray⟩ : ByteArray) = low) (hls : low.size ≤ 1000000) (hfs : 6 ≤ s.size) (hbb : b64B (s.extract (6) s.size).data.toList = true) (hm : w.cell? ⟨2, 0, none⟩ = some (.int .i64 m))
    (hcut : ∀ w, w.cell? ⟨2, 0, none⟩ = some (.int .i64 m) → Calls Tryd.prog 66 #[.string low, .string ⟨#[45]⟩] w fun e w' => e = .returned (.tuple #[.string ⟨#[110, 111, 110, 99, 101]⟩, .string back, .bool true]) ∧ ∃ n, w' = w.drewN n) :
    Calls Tryd.prog 50 #[.string s] w fun e w' => e = .returned (.tuple #[srcV 4 (s.extract 6 s.size) 0 ⟨#[]⟩ ⟨#[]⟩ false (-1) ⟨#[]⟩, .nilIface]) ∧ Below w.heap.size w w' := by
  have HIB : Hid (∀ w, Calls Tryd.prog 67 #[.string (s.extract (6) s.size)] w fun e w' => e = .returned (.bool true) ∧ w = w') := by
    intro w
    have := isBase64_any (s.extract (6) s.size) w (by simp; omega)
    rwa [hbb] at this
  clear hbb
  obtain ⟨W1, hW1⟩ : ∃ W1, W1 = w.alloc (.cells #[.int .i64 0, .string ⟨#[]⟩, .int .i64 0, .string ⟨#[]⟩, .string ⟨#[]⟩, .bool false, .int .i64 0, .string ⟨#[]⟩] 41) := ⟨_, rfl⟩
  have B1 : Below w.heap.size w W1 := by rw [hW1]; exact (Below.refl _ w).alloc (Nat.le_refl _) _
  have k0 : W1.heap[w.heap.size]? = some (.cells #[.int .i64 0, .string ⟨#[]⟩, .int .i64 0, .string ⟨#[]⟩, .string ⟨#[]⟩, .bool false, .int .i64 0, .string ⟨#[]⟩] 41 (0, 0)) := by rw [hW1]; exact heap_alloc_new w _
  have hlt1 : w.heap.size < W1.heap.size := by rw [hW1]; simp
  have hlo := lower_any s W1 (by omega)
  rw [hl] at hlo
  have HLO := Lib.hid hlo
  have HB1 := Lib.hid B1
  have HW := Lib.hid hW1
  have HK0 := Lib.hid k0
  clear hW1 k0 hlo hl B1
  have hno := not_kw hk
  have t1 : (low.toList == [115, 101, 108, 102]) = false := hno ⟨#[115, 101, 108, 102]⟩ (by simp [kws])
  have t2 : (low.toList == [117, 110, 115, 97, 102, 101, 45, 105, 110, 108, 105, 110, 101]) = false := hno ⟨#[117, 110, 115, 97, 102, 101, 45, 105, 110, 108, 105, 110, 101]⟩ (by simp [kws])
  have t3 : (low.toList == [117, 110, 115, 97, 102, 101, 45, 101, 118, 97, 108]) = false := hno ⟨#[117, 110, 115, 97, 102, 101, 45, 101, 118, 97, 108]⟩ (by simp [kws])
  have t4 : (low.toList == [115, 116, 114, 105, 99, 116, 45, 100, 121, 110, 97, 109, 105, 99]) = false := hno ⟨#[115, 116, 114, 105, 99, 116, 45, 100, 121, 110, 97, 109, 105, 99]⟩ (by simp [kws])
  have t5 : (low.toList == [117, 110, 115, 97, 102, 101, 45, 104, 97, 115, 104, 101, 115]) = false := hno ⟨#[117, 110, 115, 97, 102, 101, 45, 104, 97, 115, 104, 101, 115]⟩ (by simp [kws])
  have t6 : (low.toList == [114, 101, 112, 111, 114, 116, 45, 115, 97, 109, 112, 108, 101]) = false := hno ⟨#[114, 101, 112, 111, 114, 116, 45, 115, 97, 109, 112, 108, 101]⟩ (by simp [kws])
  have t7 : (low.toList == [119, 97, 115, 109, 45, 117, 110, 115, 97, 102, 101, 45, 101, 118, 97, 108]) = false := hno ⟨#[119, 97, 115, 109, 45, 117, 110, 115, 97, 102, 101, 45, 101, 118, 97, 108]⟩ (by simp [kws])
  have t8 : (low.toList == [117, 110, 115, 97, 102, 101, 45, 97, 108, 108, 111, 119, 45, 114, 101, 100, 105, 114, 101, 99, 116, 115]) = false := hno ⟨#[117, 110, 115, 97, 102, 101, 45, 97, 108, 108, 111, 119, 45, 114, 101, 100, 105, 114, 101, 99, 116, 115]⟩ (by simp [kws])
  have h2l := World.block_lt_of_cell? w _ hm
  simp only [] at h2l
  have HM := Lib.hid hm
  clear hno hk hm
  go_enter Tryd.func50, Tryd.ntmps50
  go_upto_region 1 with fail
  rw [← HW.out]
  go_wp2_with fail
  refine HLO.out.mono ?_
  rintro e w2 ⟨rfl, b2⟩
  have k2 := (b2.block _ hlt1).trans HK0.out
  have hm2 : w2.cell? ⟨2, 0, none⟩ = some (.int .i64 m) := ((HB1.out.trans (b2.mono HB1.out.size)).cell (p := ⟨2, 0, none⟩) h2l).trans HM.out
  have hc := hcut w2 hm2
  have HK2 := Lib.hid k2
  have hz2 : w.heap.size < w2.heap.size := Nat.lt_of_lt_of_le hlt1 b2.size
  have HB2 := Lib.hid (HB1.out.trans (b2.mono HB1.out.size))
  have HC := Lib.hid hc
  clear b2 k2 hc hcut hm2 hlt1
  go_wp2_with fail
  refine HC.out.mono ?_
  rintro e w3 ⟨rfl, n, hw3⟩
  have k3 : w3.heap[w.heap.size]? = some (.cells #[.int .i64 0, .string ⟨#[]⟩, .int .i64 0, .string ⟨#[]⟩, .string ⟨#[]⟩, .bool false, .int .i64 0, .string ⟨#[]⟩] 41 (0, 0)) := by rw [hw3]; exact HK2.out
  have hz3 : w.heap.size < w3.heap.size := by rw [hw3]; exact hz2
  have HB3 : Hid (Below w.heap.size w w3) := by show Below _ _ _; rw [hw3]; exact below_drewN HB2.out _
  clear hw3 HK2 HB2 hz2
  obtain ⟨⟨c0, c1, c2, c3, c4, c5, c6, c7⟩, f0, f1, f2, f3, f4, f5, f6, f7⟩ := eight k3
  clear k3
  go_wp2_with fail
  refine (HIB.out _).mono ?_
  rintro e w4 ⟨rfl, rfl⟩
  go_wp2_with fail
  refine bodyPost_ret (v := .tuple #[srcV 4 (s.extract 6 s.size) 0 ⟨#[]⟩ ⟨#[]⟩ false (-1) ⟨#[]⟩, .nilIface]) ?_ rfl ?_
  · rw [results_cell_tmp rfl]
    go_simp
    rfl
  · exact ⟨rfl, (below_set8 HB3.out _ _ _ _ _ _ _ _).alloc (by simp only [World.size_setCell]; exact Nat.le_of_lt hz3) _⟩
set_option maxHeartbeats 800000 in
set_option maxRecDepth 100000 in
theorem quoted_sha256 (s low back : ByteArray) (m : Int) (w : World) (hs : s.size ≤ 1000000) (hk : low ∉ kws) (hl : (⟨(lowL s.data.toList).toArray⟩ : ByteArray) = low) (hls : low.size ≤ 1000000) (hfs : 7 ≤ s.size) (hbb : b64B (s.extract (7) s.size).data.toList = true) (hm : w.cell? ⟨2, 0, none⟩ = some (.int .i64 m))
    (hcut : ∀ w, w.cell? ⟨2, 0, none⟩ = some (.int .i64 m) → Calls Tryd.prog 66 #[.string low, .string ⟨#[45]⟩] w fun e w' => e = .returned (.tuple #[.string ⟨#[115, 104, 97, 50, 53, 54]⟩, .string back, .bool true]) ∧ ∃ n, w' = w.drewN n) :
    Calls Tryd.prog 50 #[.string s] w fun e w' => e = .returned (.tuple #[srcV 5 (s.extract 7 s.size) 256 ⟨#[]⟩ ⟨#[]⟩ false (-1) ⟨#[]⟩, .nilIface]) ∧ Below w.heap.size w w' := by
  have HIB : Hid (∀ w, Calls Tryd.prog 67 #[.string (s.extract (7) s.size)] w fun e w' => e = .returned (.bool true) ∧ w = w') := by
    intro w
    have := isBase64_any (s.extract (7) s.size) w (by simp; omega)
    rwa [hbb] at this
  clear hbb
  obtain ⟨W1, hW1⟩ : ∃ W1, W1 = w.alloc (.cells #[.int .i64 0, .string ⟨#[]⟩, .int .i64 0, .string ⟨#[]⟩, .string ⟨#[]⟩, .bool false, .int .i64 0, .string ⟨#[]⟩] 41) := ⟨_, rfl⟩
  have B1 : Below w.heap.size w W1 := by rw [hW1]; exact (Below.refl _ w).alloc (Nat.le_refl _) _
  have k0 : W1.heap[w.heap.size]? = some (.cells #[.int .i64 0, .string ⟨#[]⟩, .int .i64 0, .string ⟨#[]⟩, .string ⟨#[]⟩, .bool false, .int .i64 0, .string ⟨#[]⟩] 41 (0, 0)) := by rw [hW1]; exact heap_alloc_new w _
  have hlt1 : w.heap.size < W1.heap.size := by rw [hW1]; simp
  have hlo := lower_any s W1 (by omega)
  rw [hl] at hlo
  have HLO := Lib.hid hlo
  have HB1 := Lib.hid B1
  have HW := Lib.hid hW1
  have HK0 := Lib.hid k0
  clear hW1 k0 hlo hl B1
  have hno := not_kw hk
  have t1 : (low.toList == [115, 101, 108, 102]) = false := hno ⟨#[115, 101, 108, 102]⟩ (by simp [kws])
  have t2 : (low.toList == [117, 110, 115, 97, 102, 101, 45, 105, 110, 108, 105, 110, 101]) = false := hno ⟨#[117, 110, 115, 97, 102, 101, 45, 105, 110, 108, 105, 110, 101]⟩ (by simp [kws])
  have t3 : (low.toList == [117, 110, 115, 97, 102, 101, 45, 101, 118, 97, 108]) = false := hno ⟨#[117, 110, 115, 97, 102, 101, 45, 101, 118, 97, 108]⟩ (by simp [kws])
  have t4 : (low.toList == [115, 116, 114, 105, 99, 116, 45, 100, 121, 110, 97, 109, 105, 99]) = false := hno ⟨#[115, 116, 114, 105, 99, 116, 45, 100, 121, 110, 97, 109, 105, 99]⟩ (by simp [kws])
  have t5 : (low.toList == [117, 110, 115, 97, 102, 101, 45, 104, 97, 115, 104, 101, 115]) = false := hno ⟨#[117, 110, 115, 97, 102, 101, 45, 104, 97, 115, 104, 101, 115]⟩ (by simp [kws])
  have t6 : (low.toList == [114, 101, 112, 111, 114, 116, 45, 115, 97, 109, 112, 108, 101]) = false := hno ⟨#[114, 101, 112, 111, 114, 116, 45, 115, 97, 109, 112, 108, 101]⟩ (by simp [kws])
  have t7 : (low.toList == [119, 97, 115, 109, 45, 117, 110, 115, 97, 102, 101, 45, 101, 118, 97, 108]) = false := hno ⟨#[119, 97, 115, 109, 45, 117, 110, 115, 97, 102, 101, 45, 101, 118, 97, 108]⟩ (by simp [kws])
  have t8 : (low.toList == [117, 110, 115, 97, 102, 101, 45, 97, 108, 108, 111, 119, 45, 114, 101, 100, 105, 114, 101, 99, 116, 115]) = false := hno ⟨#[117, 110, 115, 97, 102, 101, 45, 97, 108, 108, 111, 119, 45, 114, 101, 100, 105, 114, 101, 99, 116, 115]⟩ (by simp [kws])
  have h2l := World.block_lt_of_cell? w _ hm
  simp only [] at h2l
  have HM := Lib.hid hm
  clear hno hk hm
  go_enter Tryd.func50, Tryd.ntmps50
  go_upto_region 1 with fail
  rw [← HW.out]
  go_wp2_with fail
  refine HLO.out.mono ?_
  rintro e w2 ⟨rfl, b2⟩
  have k2 := (b2.block _ hlt1).trans HK0.out
  have hm2 : w2.cell? ⟨2, 0, none⟩ = some (.int .i64 m) := ((HB1.out.trans (b2.mono HB1.out.size)).cell (p := ⟨2, 0, none⟩) h2l).trans HM.out
  have hc := hcut w2 hm2
  have HK2 := Lib.hid k2
  have hz2 : w.heap.size < w2.heap.size := Nat.lt_of_lt_of_le hlt1 b2.size
  have HB2 := Lib.hid (HB1.out.trans (b2.mono HB1.out.size))
  have HC := Lib.hid hc
  clear b2 k2 hc hcut hm2 hlt1
  go_wp2_with fail
  refine HC.out.mono ?_
  rintro e w3 ⟨rfl, n, hw3⟩
  have k3 : w3.heap[w.heap.size]? = some (.cells #[.int .i64 0, .string ⟨#[]⟩, .int .i64 0, .string ⟨#[]⟩, .string ⟨#[]⟩, .bool false, .int .i64 0, .string ⟨#[]⟩] 41 (0, 0)) := by rw [hw3]; exact HK2.out
  have hz3 : w.heap.size < w3.heap.size := by rw [hw3]; exact hz2
  have HB3 : Hid (Below w.heap.size w w3) := by show Below _ _ _; rw [hw3]; exact below_drewN HB2.out _
  clear hw3 HK2 HB2 hz2
  obtain ⟨⟨c0, c1, c2, c3, c4, c5, c6, c7⟩, f0, f1, f2, f3, f4, f5, f6, f7⟩ := eight k3
  clear k3
  go_wp2_with fail
  refine (HIB.out _).mono ?_
  rintro e w4 ⟨rfl, rfl⟩
  go_wp2_with fail
  refine bodyPost_ret (v := .tuple #[srcV 5 (s.extract 7 s.size) 256 ⟨#[]⟩ ⟨#[]⟩ false (-1) ⟨#[]⟩, .nilIface]) ?_ rfl ?_
  · rw [results_cell_tmp rfl]
    go_simp
    rfl
  · exact ⟨rfl, (below_set8 HB3.out _ _ _ _ _ _ _ _).alloc (by simp only [World.size_setCell]; exact Nat.le_of_lt hz3) _⟩
set_option maxHeartbeats 800000 in
set_option maxRecDepth 100000 in
theorem quoted_sha384 (s low back : ByteArray) (m : Int) (w : World) (hs : s.size ≤ 1000000) (hk : low ∉ kws) (hl : (⟨(lowL s.data.toList).toArray⟩ : ByteArray) = low) (hls : low.size ≤ 1000000) (hfs : 7 ≤ s.size) (hbb : b64B (s.extract (7) s.size).data.toList = true) (hm : w.cell? ⟨2, 0, none⟩ = some (.int .i64 m))
    (hcut : ∀ w, w.cell? ⟨2, 0, none⟩ = some (.int .i64 m) → Calls Tryd.prog 66 #[.string low, .string ⟨#[45]⟩] w fun e w' => e = .returned (.tuple #[.string ⟨#[115, 104, 97, 51, 56, 52]⟩, .string back, .bool true]) ∧ ∃ n, w' = w.drewN n) :
    Calls Tryd.prog 50 #[.string s] w fun e w' => e = .returned (.tuple #[srcV 5 (s.extract 7 s.size) 384 ⟨#[]⟩ ⟨#[]⟩ false (-1) ⟨#[]⟩, .nilIface]) ∧ Below w.heap.size w w' := by
  have HIB : Hid (∀ w, Calls Tryd.prog 67 #[.string (s.extract (7) s.size)] w fun e w' => e = .returned (.bool true) ∧ w = w') := by
    intro w
    have := isBase64_any (s.extract (7) s.size) w (by simp; omega)
    rwa [hbb] at this
  clear hbb
  obtain ⟨W1, hW1⟩ : ∃ W1, W1 = w.alloc (.cells #[.int .i64 0, .string ⟨#[]⟩, .int .i64 0, .string ⟨#[]⟩, .string ⟨#[]⟩, .bool false, .int .i64 0, .string ⟨#[]⟩] 41) := ⟨_, rfl⟩
  have B1 : Below w.heap.size w W1 := by rw [hW1]; exact (Below.refl _ w).alloc (Nat.le_refl _) _
  have k0 : W1.heap[w.heap.size]? = some (.cells #[.int .i64 0, .string ⟨#[]⟩, .int .i64 0, .string ⟨#[]⟩, .string ⟨#[]⟩, .bool false, .int .i64 0, .string ⟨#[]⟩] 41 (0, 0)) := by rw [hW1]; exact heap_alloc_new w _
  have hlt1 : w.heap.size < W1.heap.size := by rw [hW1]; simp
  have hlo := lower_any s W1 (by omega)
  rw [hl] at hlo
  have HLO := Lib.hid hlo
  have HB1 := Lib.hid B1
  have HW := Lib.hid hW1
  have HK0 := Lib.hid k0
  clear hW1 k0 hlo hl B1
  have hno := not_kw hk
  have t1 : (low.toList == [115, 101, 108, 102]) = false := hno ⟨#[115, 101, 108, 102]⟩ (by simp [kws])
  have t2 : (low.toList == [117, 110, 115, 97, 102, 101, 45, 105, 110, 108, 105, 110, 101]) = false := hno ⟨#[117, 110, 115, 97, 102, 101, 45, 105, 110, 108, 105, 110, 101]⟩ (by simp [kws])
  have t3 : (low.toList == [117, 110, 115, 97, 102, 101, 45, 101, 118, 97, 108]) = false := hno ⟨#[117, 110, 115, 97, 102, 101, 45, 101, 118, 97, 108]⟩ (by simp [kws])
  have t4 : (low.toList == [115, 116, 114, 105, 99, 116, 45, 100, 121, 110, 97, 109, 105, 99]) = false := hno ⟨#[115, 116, 114, 105, 99, 116, 45, 100, 121, 110, 97, 109, 105, 99]⟩ (by simp [kws])
  have t5 : (low.toList == [117, 110, 115, 97, 102, 101, 45, 104, 97, 115, 104, 101, 115]) = false := hno ⟨#[117, 110, 115, 97, 102, 101, 45, 104, 97, 115, 104, 101, 115]⟩ (by simp [kws])
  have t6 : (low.toList == [114, 101, 112, 111, 114, 116, 45, 115, 97, 109, 112, 108, 101]) = false := hno ⟨#[114, 101, 112, 111, 114, 116, 45, 115, 97, 109, 112, 108, 101]⟩ (by simp [kws])
  have t7 : (low.toList == [119, 97, 115, 109, 45, 117, 110, 115, 97, 102, 101, 45, 101, 118, 97, 108]) = false := hno ⟨#[119, 97, 115, 109, 45, 117, 110, 115, 97, 102, 101, 45, 101, 118, 97, 108]⟩ (by simp [kws])
  have t8 : (low.toList == [117, 110, 115, 97, 102, 101, 45, 97, 108, 108, 111, 119, 45, 114, 101, 100, 105, 114, 101, 99, 116, 115]) = false := hno ⟨#[117, 110, 115, 97, 102, 101, 45, 97, 108, 108, 111, 119, 45, 114, 101, 100, 105, 114, 101, 99, 116, 115]⟩ (by simp [kws])
  have h2l := World.block_lt_of_cell? w _ hm
  simp only [] at h2l
  have HM := Lib.hid hm
  clear hno hk hm
  go_enter Tryd.func50, Tryd.ntmps50
  go_upto_region 1 with fail
  rw [← HW.out]
  go_wp2_with fail
  refine HLO.out.mono ?_
  rintro e w2 ⟨rfl, b2⟩
  have k2 := (b2.block _ hlt1).trans HK0.out
  have hm2 : w2.cell? ⟨2, 0, none⟩ = some (.int .i64 m) := ((HB1.out.trans (b2.mono HB1.out.size)).cell (p := ⟨2, 0, none⟩) h2l).trans HM.out
  have hc := hcut w2 hm2
  have HK2 := Lib.hid k2
  have hz2 : w.heap.size < w2.heap.size := Nat.lt_of_lt_of_le hlt1 b2.size
  have HB2 := Lib.hid (HB1.out.trans (b2.mono HB1.out.size))
  have HC := Lib.hid hc
  clear b2 k2 hc hcut hm2 hlt1
  go_wp2_with fail
  refine HC.out.mono ?_
  rintro e w3 ⟨rfl, n, hw3⟩
  have k3 : w3.heap[w.heap.size]? = some (.cells #[.int .i64 0, .string ⟨#[]⟩, .int .i64 0, .string ⟨#[]⟩, .string ⟨#[]⟩, .bool false, .int .i64 0, .string ⟨#[]⟩] 41 (0, 0)) := by rw [hw3]; exact HK2.out
  have hz3 : w.heap.size < w3.heap.size := by rw [hw3]; exact hz2
  have HB3 : Hid (Below w.heap.size w w3) := by show Below _ _ _; rw [hw3]; exact below_drewN HB2.out _
  clear hw3 HK2 HB2 hz2
  obtain ⟨⟨c0, c1, c2, c3, c4, c5, c6, c7⟩, f0, f1, f2, f3, f4, f5, f6, f7⟩ := eight k3
  clear k3
  go_wp2_with fail
  refine (HIB.out _).mono ?_
  rintro e w4 ⟨rfl, rfl⟩
  go_wp2_with fail
  refine bodyPost_ret (v := .tuple #[srcV 5 (s.extract 7 s.size) 384 ⟨#[]⟩ ⟨#[]⟩ false (-1) ⟨#[]⟩, .nilIface]) ?_ rfl ?_
  · rw [results_cell_tmp rfl]
    go_simp
    rfl
  · exact ⟨rfl, (below_set8 HB3.out _ _ _ _ _ _ _ _).alloc (by simp only [World.size_setCell]; exact Nat.le_of_lt hz3) _⟩
set_option maxHeartbeats 800000 in
set_option maxRecDepth 100000 in
theorem quoted_sha512 (s low back : ByteArray) (m : Int) (w : World) (hs : s.size ≤ 1000000) (hk : low ∉ kws) (hl : (⟨(lowL s.data.toList).toArray⟩ : ByteArray) = low) (hls : low.size ≤ 1000000) (hfs : 7 ≤ s.size) (hbb : b64B (s.extract (7) s.size).data.toList = true) (hm : w.cell? ⟨2, 0, none⟩ = some (.int .i64 m))
    (hcut : ∀ w, w.cell? ⟨2, 0, none⟩ = some (.int .i64 m) → Calls Tryd.prog 66 #[.string low, .string ⟨#[45]⟩] w fun e w' => e = .returned (.tuple #[.string ⟨#[115, 104, 97, 53, 49, 50]⟩, .string back, .bool true]) ∧ ∃ n, w' = w.drewN n) :
    Calls Tryd.prog 50 #[.string s] w fun e w' => e = .returned (.tuple #[srcV 5 (s.extract 7 s.size) 512 ⟨#[]⟩ ⟨#[]⟩ false (-1) ⟨#[]⟩, .nilIface]) ∧ Below w.heap.size w w' := by
  have HIB : Hid (∀ w, Calls Tryd.prog 67 #[.string (s.extract (7) s.size)] w fun e w' => e = .returned (.bool true) ∧ w = w') := by
    intro w
    have := isBase64_any (s.extract (7) s.size) w (by simp; omega)
    rwa [hbb] at this
  clear hbb
  obtain ⟨W1, hW1⟩ : ∃ W1, W1 = w.alloc (.cells #[.int .i64 0, .string ⟨#[]⟩, .int .i64 0, .string ⟨#[]⟩, .string ⟨#[]⟩, .bool false, .int .i64 0, .string ⟨#[]⟩] 41) := ⟨_, rfl⟩
  have B1 : Below w.heap.size w W1 := by rw [hW1]; exact (Below.refl _ w).alloc (Nat.le_refl _) _
  have k0 : W1.heap[w.heap.size]? = some (.cells #[.int .i64 0, .string ⟨#[]⟩, .int .i64 0, .string ⟨#[]⟩, .string ⟨#[]⟩, .bool false, .int .i64 0, .string ⟨#[]⟩] 41 (0, 0)) := by rw [hW1]; exact heap_alloc_new w _
  have hlt1 : w.heap.size < W1.heap.size := by rw [hW1]; simp
  have hlo := lower_any s W1 (by omega)
  rw [hl] at hlo
  have HLO := Lib.hid hlo
  have HB1 := Lib.hid B1
  have HW := Lib.hid hW1
  have HK0 := Lib.hid k0
  clear hW1 k0 hlo hl B1
  have hno := not_kw hk
  have t1 : (low.toList == [115, 101, 108, 102]) = false := hno ⟨#[115, 101, 108, 102]⟩ (by simp [kws])
  have t2 : (low.toList == [117, 110, 115, 97, 102, 101, 45, 105, 110, 108, 105, 110, 101]) = false := hno ⟨#[117, 110, 115, 97, 102, 101, 45, 105, 110, 108, 105, 110, 101]⟩ (by simp [kws])
  have t3 : (low.toList == [117, 110, 115, 97, 102, 101, 45, 101, 118, 97, 108]) = false := hno ⟨#[117, 110, 115, 97, 102, 101, 45, 101, 118, 97, 108]⟩ (by simp [kws])
  have t4 : (low.toList == [115, 116, 114, 105, 99, 116, 45, 100, 121, 110, 97, 109, 105, 99]) = false := hno ⟨#[115, 116, 114, 105, 99, 116, 45, 100, 121, 110, 97, 109, 105, 99]⟩ (by simp [kws])
  have t5 : (low.toList == [117, 110, 115, 97, 102, 101, 45, 104, 97, 115, 104, 101, 115]) = false := hno ⟨#[117, 110, 115, 97, 102, 101, 45, 104, 97, 115, 104, 101, 115]⟩ (by simp [kws])
  have t6 : (low.toList == [114, 101, 112, 111, 114, 116, 45, 115, 97, 109, 112, 108, 101]) = false := hno ⟨#[114, 101, 112, 111, 114, 116, 45, 115, 97, 109, 112, 108, 101]⟩ (by simp [kws])
  have t7 : (low.toList == [119, 97, 115, 109, 45, 117, 110, 115, 97, 102, 101, 45, 101, 118, 97, 108]) = false := hno ⟨#[119, 97, 115, 109, 45, 117, 110, 115, 97, 102, 101, 45, 101, 118, 97, 108]⟩ (by simp [kws])
  have t8 : (low.toList == [117, 110, 115, 97, 102, 101, 45, 97, 108, 108, 111, 119, 45, 114, 101, 100, 105, 114, 101, 99, 116, 115]) = false := hno ⟨#[117, 110, 115, 97, 102, 101, 45, 97, 108, 108, 111, 119, 45, 114, 101, 100, 105, 114, 101, 99, 116, 115]⟩ (by simp [kws])
  have h2l := World.block_lt_of_cell? w _ hm
  simp only [] at h2l
  have HM := Lib.hid hm
  clear hno hk hm
  go_enter Tryd.func50, Tryd.ntmps50
  go_upto_region 1 with fail
  rw [← HW.out]
  go_wp2_with fail
  refine HLO.out.mono ?_
  rintro e w2 ⟨rfl, b2⟩
  have k2 := (b2.block _ hlt1).trans HK0.out
  have hm2 : w2.cell? ⟨2, 0, none⟩ = some (.int .i64 m) := ((HB1.out.trans (b2.mono HB1.out.size)).cell (p := ⟨2, 0, none⟩) h2l).trans HM.out
  have hc := hcut w2 hm2
  have HK2 := Lib.hid k2
  have hz2 : w.heap.size < w2.heap.size := Nat.lt_of_lt_of_le hlt1 b2.size
  have HB2 := Lib.hid (HB1.out.trans (b2.mono HB1.out.size))
  have HC := Lib.hid hc
  clear b2 k2 hc hcut hm2 hlt1
  go_wp2_with fail
  refine HC.out.mono ?_
  rintro e w3 ⟨rfl, n, hw3⟩
  have k3 : w3.heap[w.heap.size]? = some (.cells #[.int .i64 0, .string ⟨#[]⟩, .int .i64 0, .string ⟨#[]⟩, .string ⟨#[]⟩, .bool false, .int .i64 0, .string ⟨#[]⟩] 41 (0, 0)) := by rw [hw3]; exact HK2.out
  have hz3 : w.heap.size < w3.heap.size := by rw [hw3]; exact hz2
  have HB3 : Hid (Below w.heap.size w w3) := by show Below _ _ _; rw [hw3]; exact below_drewN HB2.out _
  clear hw3 HK2 HB2 hz2
  obtain ⟨⟨c0, c1, c2, c3, c4, c5, c6, c7⟩, f0, f1, f2, f3, f4, f5, f6, f7⟩ := eight k3
  clear k3
  go_wp2_with fail
  refine (HIB.out _).mono ?_
  rintro e w4 ⟨rfl, rfl⟩
  go_wp2_with fail
  refine bodyPost_ret (v := .tuple #[srcV 5 (s.extract 7 s.size) 512 ⟨#[]⟩ ⟨#[]⟩ false (-1) ⟨#[]⟩, .nilIface]) ?_ rfl ?_
  · rw [results_cell_tmp rfl]
    go_simp
    rfl
  · exact ⟨rfl, (below_set8 HB3.out _ _ _ _ _ _ _ _).alloc (by simp only [World.size_setCell]; exact Nat.le_of_lt hz3) _⟩
end Go.Proofs.YteeplfbaflldaaaDoor.S25
set_option linter.unusedVariables false
set_option linter.unusedSimpArgs false
namespace Go.Proofs.YteeplfbaflldaaaDoor.S25
open Go.RowKit Go.Extern.Stop Go.Stop Go.Extern T10

theorem index_room : ∀ (l d : List UInt8), 0 ≤ Lib.index l d → Lib.index l d + d.length ≤ l.length := by
  intro l d
  induction l with
  | nil =>
    intro h
    unfold Lib.index at h ⊢
    split
    · rename_i he
      rw [List.isEmpty_iff.1 he]; simp
    · rename_i he
      rw [if_neg he] at h
      omega
  | cons b l ih =>
    intro h
    unfold Lib.index at h ⊢
    split
    · rename_i hp
      have := (List.isPrefixOf_iff_prefix.1 hp).length_le
      simp at this ⊢
      omega
    · rename_i hp
      rw [if_neg hp] at h
      split
      · rename_i he
        rw [if_pos he] at h
        omega
      · rename_i he
        rw [if_neg he] at h
        have h0 : 0 ≤ Lib.index l d := by
          have h2 := Lib.index_ge l d
          have h3 : Lib.index l d ≠ -1 := by simpa using he
          omega
        have := ih h0
        simp
        omega
theorem cut_yes {l d f b : List UInt8} (h : Lib.cut l d = (f, b, true)) : f.length + d.length ≤ l.length ∧ l.take f.length = f := by
  unfold Lib.cut at h
  split at h
  case isTrue h0 =>
    injection h with h1 h2
    have h3 := index_room l d h0
    have h4 : (Lib.index l d).toNat + d.length ≤ l.length := by omega
    have h5 : f.length = (Lib.index l d).toNat := by rw [← h1, List.length_take]; omega
    exact ⟨by omega, by rw [h5]; exact h1⟩
  case isFalse => simp at h
theorem lowL_len (l : List UInt8) : (lowL l).length = l.length := by simp [lowL]
end Go.Proofs.YteeplfbaflldaaaDoor.S25
set_option linter.unusedVariables false
set_option linter.unusedSimpArgs false
namespace Go.Proofs.YteeplfbaflldaaaDoor.S25
open Go.RowKit Go.Extern.Stop Go.Stop Go.Extern T10

def lowBA (s : ByteArray) : ByteArray := ⟨(lowL s.data.toList).toArray⟩
/-- What is read between single quotes. -/
def quotedV (s : ByteArray) : Value :=
  if lowL s.data.toList ∈ kws.map (·.data.toList) then .tuple #[srcV 1 (lowBA s) 0 ⟨#[]⟩ ⟨#[]⟩ false (-1) ⟨#[]⟩, .nilIface]
  else if (Lib.cut (lowL s.data.toList) [45]).2.2 = false then quoV s
  else
    let n := (Lib.cut (lowL s.data.toList) [45]).1.length + 1
    let f := (Lib.cut (lowL s.data.toList) [45]).1
    let rest := s.extract n s.size
    if b64B rest.data.toList = false then quoV s
    else if f = [110, 111, 110, 99, 101] then .tuple #[srcV 4 rest 0 ⟨#[]⟩ ⟨#[]⟩ false (-1) ⟨#[]⟩, .nilIface]
    else if f = [115, 104, 97, 50, 53, 54] then .tuple #[srcV 5 rest 256 ⟨#[]⟩ ⟨#[]⟩ false (-1) ⟨#[]⟩, .nilIface]
    else if f = [115, 104, 97, 51, 56, 52] then .tuple #[srcV 5 rest 384 ⟨#[]⟩ ⟨#[]⟩ false (-1) ⟨#[]⟩, .nilIface]
    else if f = [115, 104, 97, 53, 49, 50] then .tuple #[srcV 5 rest 512 ⟨#[]⟩ ⟨#[]⟩ false (-1) ⟨#[]⟩, .nilIface]
    else quoV s
theorem quoted_any (s : ByteArray) (m : Int) (w : World) (hs : s.size ≤ 1000000) (hm : w.cell? ⟨2, 0, none⟩ = some (.int .i64 m)) :
    Calls Tryd.prog 50 #[.string s] w fun e w' => e = .returned (quotedV s) ∧ Below w.heap.size w w' := by
  have hlow : (lowBA s).data.toList = lowL s.data.toList := rfl
  have hlsz : (lowBA s).size = s.size := by
    have h := lowL_len s.data.toList
    rw [← hlow] at h
    simpa using h
  unfold quotedV
  by_cases hk : lowL s.data.toList ∈ kws.map (·.data.toList)
  · rw [if_pos hk]
    obtain ⟨kw, h1, h2⟩ := List.mem_map.1 hk
    have e : lowBA s = kw := by
      unfold lowBA
      rw [← h2]
    rw [e]
    exact quoted_word s kw w hs h1 h2.symm
  · rw [if_neg hk]
    have hk2 : lowBA s ∉ kws := fun h => hk (List.mem_map.2 ⟨_, h, rfl⟩)
    obtain ⟨f, b, ok, hc⟩ : ∃ f b ok, Lib.cut (lowL s.data.toList) [45] = (f, b, ok) := ⟨_, _, _, rfl⟩
    have hcut : ∀ w, w.cell? ⟨2, 0, none⟩ = some (.int .i64 m) → Calls Tryd.prog 66 #[.string (lowBA s), .string ⟨#[45]⟩] w fun e w' => e = .returned (.tuple #[.string ⟨f.toArray⟩, .string ⟨b.toArray⟩, .bool ok]) ∧ ∃ n, w' = w.drewN n := by
      intro w hm
      have := Tryd.strings_Cut (lowBA s) ⟨#[45]⟩ m w (by omega) hm
      rw [hlow, show (⟨#[45]⟩ : ByteArray).data.toList = [45] from rfl, hc] at this
      exact this
    rw [hc]
    cases ok with
    | false =>
      rw [if_pos rfl]
      exact quoted_nodash s (lowBA s) _ _ m w hs hk2 rfl (by omega) hm hcut
    | true =>
      rw [if_neg (by simp)]
      simp only []
      have hr := (cut_yes hc).1
      rw [lowL_len] at hr
      have hfs : (⟨f.toArray⟩ : ByteArray).size + 1 ≤ s.size := by
        have e1 : (⟨f.toArray⟩ : ByteArray).size = f.length := List.size_toArray ..
        have e2 : s.data.toList.length = s.size := by simp
        simp only [List.length_cons, List.length_nil] at hr
        omega
      have e1 : f.length = (⟨f.toArray⟩ : ByteArray).size := (List.size_toArray ..).symm
      rw [e1]
      cases hbb : b64B (s.extract ((⟨f.toArray⟩ : ByteArray).size + 1) s.size).data.toList with
      | false =>
        rw [if_pos rfl]
        exact quoted_bad s (lowBA s) _ _ m w hs hk2 rfl (by omega) hfs hbb hm hcut
      | true =>
        rw [if_neg (by simp)]
        by_cases h1 : f = [110, 111, 110, 99, 101]
        · rw [if_pos h1]
          subst h1
          exact quoted_nonce s (lowBA s) _ m w hs hk2 rfl (by omega) hfs hbb hm hcut
        rw [if_neg h1]
        by_cases h2 : f = [115, 104, 97, 50, 53, 54]
        · rw [if_pos h2]
          subst h2
          exact quoted_sha256 s (lowBA s) _ m w hs hk2 rfl (by omega) hfs hbb hm hcut
        rw [if_neg h2]
        by_cases h3 : f = [115, 104, 97, 51, 56, 52]
        · rw [if_pos h3]
          subst h3
          exact quoted_sha384 s (lowBA s) _ m w hs hk2 rfl (by omega) hfs hbb hm hcut
        rw [if_neg h3]
        by_cases h4 : f = [115, 104, 97, 53, 49, 50]
        · rw [if_pos h4]
          subst h4
          exact quoted_sha512 s (lowBA s) _ m w hs hk2 rfl (by omega) hfs hbb hm hcut
        rw [if_neg h4]
        exact quoted_else s (lowBA s) _ _ m w hs hk2 rfl (by omega) hfs hbb h1 h2 h3 h4 hm hcut
end Go.Proofs.YteeplfbaflldaaaDoor.S25
