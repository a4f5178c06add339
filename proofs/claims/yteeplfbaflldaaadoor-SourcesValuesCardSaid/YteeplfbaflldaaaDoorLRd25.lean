/- lazaretlaw25.reads: the chapter's expressions. Made by tools/gen/reads25.py. -/
import Derived.Test.YteeplfbaflldaaaDoorSrcX
set_option linter.unusedVariables false
set_option linter.unusedSimpArgs false
namespace Go.Proofs.YteeplfbaflldaaaDoor.S25
open Go.RowKit Go.Extern.Stop Go.Stop Go.Extern T10

/-- The world in which errors are told: the cell of the type error, and the count of a string's bounds. -/
def EOk (m : Int) (w : World) : Prop := w.cell? ⟨2, 0, none⟩ = some (.int .i64 m) ∧ w.cell? ⟨0, 0, none⟩ = some (.iface 118 (.agg #[.pointer (some ⟨8, 68, none⟩)]))
theorem EOk.far {m : Int} {w w' : World} (h : EOk m w) {B : Nat} (b : Below B w w') (hB : w.heap.size ≤ B) : EOk m w' := by
  obtain ⟨h1, h2⟩ := h
  have l1 := World.block_lt_of_cell? w _ h1
  have l2 := World.block_lt_of_cell? w _ h2
  simp only [] at l1 l2
  exact ⟨(b.cell (p := ⟨2, 0, none⟩) (by show 2 < B; omega)).trans h1, (b.cell (p := ⟨0, 0, none⟩) (by show 0 < B; omega)).trans h2⟩
theorem Parse_ok {l : List UInt8} {x : SrcL} (h : parseL l = some x) (hl : l.length ≤ 1000000) {m : Int} {W : World} (hE : EOk m W) :
    Calls Tryd.prog 18 #[.string (ba l)] W fun e w' => e = .returned (.tuple #[srcW x, .int .i64 0]) ∧ Below W.heap.size W w' := by
  have := Parse_any (ba l) m W (by rw [ba_size]; exact hl) hE.1 hE.2
  rw [ba_data, h] at this
  exact this
theorem Parse_no {l : List UInt8} (h : parseL l = none) (hl : l.length ≤ 1000000) {m : Int} {W : World} (hE : EOk m W) :
    Calls Tryd.prog 18 #[.string (ba l)] W fun e w' => e = .returned (.tuple #[srcW zL, .int .i64 250]) ∧ Below W.heap.size W w' := by
  have := Parse_any (ba l) m W (by rw [ba_size]; exact hl) hE.1 hE.2
  rw [ba_data, h] at this
  exact this
theorem rd1 : parseL [39, 83, 69, 76, 70, 39] = some ⟨1, [115, 101, 108, 102], 0, [], [], false, (-1), []⟩ := by kernel_rfl
theorem rd2 : parseL [39, 110, 111, 110, 99, 101, 45, 97, 66, 61, 61, 39] = some ⟨4, [97, 66, 61, 61], 0, [], [], false, (-1), []⟩ := by kernel_rfl
theorem rd3 : parseL [39, 115, 104, 97, 50, 53, 54, 45, 120, 39] = some ⟨5, [120], 256, [], [], false, (-1), []⟩ := by kernel_rfl
theorem rd4 : parseL [42, 46, 97, 46, 98, 58, 42] = some ⟨3, [], 0, [], [97, 46, 98], true, (-2), []⟩ := by kernel_rfl
theorem rd5 : parseL [72, 84, 84, 80, 58, 47, 47, 120, 58, 48, 56, 48, 47, 112, 47] = some ⟨3, [], 0, [104, 116, 116, 112], [120], false, 80, [47, 112, 47]⟩ := by kernel_rfl
theorem rd6 : parseL [104, 116, 116, 112, 115, 58] = some ⟨2, [], 0, [104, 116, 116, 112, 115], [], false, (-1), []⟩ := by kernel_rfl
theorem rd7 : parseL [42] = some ⟨3, [], 0, [], [], true, (-1), []⟩ := by kernel_rfl
def noneT : List (List UInt8) := [[39, 110, 111, 110, 101, 39], [97, 46, 46, 98], [120, 58, 121], [39, 110, 111, 110, 99, 101, 45, 39], [97, 47, 98, 63, 99], [39]]
theorem rn1 : parseL [39, 110, 111, 110, 101, 39] = none := by kernel_rfl
theorem rn2 : parseL [97, 46, 46, 98] = none := by kernel_rfl
theorem rn3 : parseL [120, 58, 121] = none := by kernel_rfl
theorem rn4 : parseL [39, 110, 111, 110, 99, 101, 45, 39] = none := by kernel_rfl
theorem rn5 : parseL [97, 47, 98, 63, 99] = none := by kernel_rfl
theorem rn6 : parseL [39] = none := by kernel_rfl
theorem rn_all : ∀ l ∈ noneT, parseL l = none ∧ l.length ≤ 1000000 := by
  intro l hl
  simp only [noneT, List.mem_cons, List.not_mem_nil, or_false] at hl
  rcases hl with rfl | rfl | rfl | rfl | rfl | rfl
  · exact ⟨rn1, by decide⟩
  · exact ⟨rn2, by decide⟩
  · exact ⟨rn3, by decide⟩
  · exact ⟨rn4, by decide⟩
  · exact ⟨rn5, by decide⟩
  · exact ⟨rn6, by decide⟩
set_option maxHeartbeats 3200000 in
set_option maxRecDepth 100000 in
theorem reads_any (m : Int) (w : World) (hE : EOk m w) :
    Calls Tryd.prog 17 #[] w fun e w' => e = .returned (.bool true) ∧ Below w.heap.size w w' := by
  have P1 : Hid (∀ W, Below w.heap.size w W → Calls Tryd.prog 18 #[.string ⟨#[39, 83, 69, 76, 70, 39]⟩] W fun e w' => e = .returned (.tuple #[.agg #[.int .i64 1, .string ⟨#[115, 101, 108, 102]⟩, .int .i64 0, .string ⟨#[]⟩, .string ⟨#[]⟩, .bool false, .int .i64 (-1), .string ⟨#[]⟩], .int .i64 0]) ∧ Below W.heap.size W w') := fun W hB => Parse_ok rd1 (by decide) (hE.far hB (Nat.le_refl _))
  have P2 : Hid (∀ W, Below w.heap.size w W → Calls Tryd.prog 18 #[.string ⟨#[39, 110, 111, 110, 99, 101, 45, 97, 66, 61, 61, 39]⟩] W fun e w' => e = .returned (.tuple #[.agg #[.int .i64 4, .string ⟨#[97, 66, 61, 61]⟩, .int .i64 0, .string ⟨#[]⟩, .string ⟨#[]⟩, .bool false, .int .i64 (-1), .string ⟨#[]⟩], .int .i64 0]) ∧ Below W.heap.size W w') := fun W hB => Parse_ok rd2 (by decide) (hE.far hB (Nat.le_refl _))
  have P3 : Hid (∀ W, Below w.heap.size w W → Calls Tryd.prog 18 #[.string ⟨#[39, 115, 104, 97, 50, 53, 54, 45, 120, 39]⟩] W fun e w' => e = .returned (.tuple #[.agg #[.int .i64 5, .string ⟨#[120]⟩, .int .i64 256, .string ⟨#[]⟩, .string ⟨#[]⟩, .bool false, .int .i64 (-1), .string ⟨#[]⟩], .int .i64 0]) ∧ Below W.heap.size W w') := fun W hB => Parse_ok rd3 (by decide) (hE.far hB (Nat.le_refl _))
  have P4 : Hid (∀ W, Below w.heap.size w W → Calls Tryd.prog 18 #[.string ⟨#[42, 46, 97, 46, 98, 58, 42]⟩] W fun e w' => e = .returned (.tuple #[.agg #[.int .i64 3, .string ⟨#[]⟩, .int .i64 0, .string ⟨#[]⟩, .string ⟨#[97, 46, 98]⟩, .bool true, .int .i64 (-2), .string ⟨#[]⟩], .int .i64 0]) ∧ Below W.heap.size W w') := fun W hB => Parse_ok rd4 (by decide) (hE.far hB (Nat.le_refl _))
  have P5 : Hid (∀ W, Below w.heap.size w W → Calls Tryd.prog 18 #[.string ⟨#[72, 84, 84, 80, 58, 47, 47, 120, 58, 48, 56, 48, 47, 112, 47]⟩] W fun e w' => e = .returned (.tuple #[.agg #[.int .i64 3, .string ⟨#[]⟩, .int .i64 0, .string ⟨#[104, 116, 116, 112]⟩, .string ⟨#[120]⟩, .bool false, .int .i64 80, .string ⟨#[47, 112, 47]⟩], .int .i64 0]) ∧ Below W.heap.size W w') := fun W hB => Parse_ok rd5 (by decide) (hE.far hB (Nat.le_refl _))
  have P6 : Hid (∀ W, Below w.heap.size w W → Calls Tryd.prog 18 #[.string ⟨#[104, 116, 116, 112, 115, 58]⟩] W fun e w' => e = .returned (.tuple #[.agg #[.int .i64 2, .string ⟨#[]⟩, .int .i64 0, .string ⟨#[104, 116, 116, 112, 115]⟩, .string ⟨#[]⟩, .bool false, .int .i64 (-1), .string ⟨#[]⟩], .int .i64 0]) ∧ Below W.heap.size W w') := fun W hB => Parse_ok rd6 (by decide) (hE.far hB (Nat.le_refl _))
  have P7 : Hid (∀ W, Below w.heap.size w W → Calls Tryd.prog 18 #[.string ⟨#[42]⟩] W fun e w' => e = .returned (.tuple #[.agg #[.int .i64 3, .string ⟨#[]⟩, .int .i64 0, .string ⟨#[]⟩, .string ⟨#[]⟩, .bool true, .int .i64 (-1), .string ⟨#[]⟩], .int .i64 0]) ∧ Below W.heap.size W w') := fun W hB => Parse_ok rd7 (by decide) (hE.far hB (Nat.le_refl _))
  have PN : Hid (∀ t, ∀ W, (∃ k : Nat, noneT[k]? = some t) → Below w.heap.size w W → Calls Tryd.prog 18 #[.string (ba t)] W fun e w' => e = .returned (.tuple #[.agg #[.int .i64 0, .string ⟨#[]⟩, .int .i64 0, .string ⟨#[]⟩, .string ⟨#[]⟩, .bool false, .int .i64 0, .string ⟨#[]⟩], .int .i64 250]) ∧ Below W.heap.size W w') := fun t W ht hB => Parse_no (rn_all t (List.mem_of_getElem? ht.choose_spec)).1 (rn_all t (List.mem_of_getElem? ht.choose_spec)).2 (hE.far hB (Nat.le_refl _))
  have HB0 := Lib.hid (Below.refl w.heap.size w)
  clear hE
  go_enter Tryd.func17, Tryd.ntmps17
  go_upto_region 2 with (go_at_call 18; refine (P1.out _ HB0.out).mono ?_; rintro e v1 ⟨rfl, b1⟩; have HV1 := Lib.hid b1; clear b1)
  obtain ⟨W1, hW1⟩ : ∃ W, W = v1.alloc (.cells #[.int .i64 1, .string ⟨#[115, 101, 108, 102]⟩, .int .i64 0, .string ⟨#[]⟩, .string ⟨#[]⟩, .bool false, .int .i64 (-1), .string ⟨#[]⟩] 41) := ⟨_, rfl⟩
  have hs1 := HB0.out.size
  have hv1 := HV1.out.size
  have HC1 : Hid (Below w.heap.size w W1) := by
    show Below _ _ _
    rw [hW1]; exact HV1.out.alloc hv1 _
  have HB1 : Hid (Below w.heap.size w W1) := HB0.out.trans (HC1.out.mono hs1)
  have K1 : Hid (W1.heap[v1.heap.size]? = some (.cells #[.int .i64 1, .string ⟨#[115, 101, 108, 102]⟩, .int .i64 0, .string ⟨#[]⟩, .string ⟨#[]⟩, .bool false, .int .i64 (-1), .string ⟨#[]⟩] 41 (0, 0))) := by
    show _ = _
    rw [hW1]; exact heap_alloc_new v1 _
  rw [← hW1]
  clear hW1 hs1 hv1 P1 HV1
  go_upto_region 3 with (go_at_call 18; refine (P2.out _ HB1.out).mono ?_; rintro e v2 ⟨rfl, b2⟩; have HV2 := Lib.hid b2; clear b2)
  obtain ⟨W2, hW2⟩ : ∃ W, W = v2.alloc (.cells #[.int .i64 4, .string ⟨#[97, 66, 61, 61]⟩, .int .i64 0, .string ⟨#[]⟩, .string ⟨#[]⟩, .bool false, .int .i64 (-1), .string ⟨#[]⟩] 41) := ⟨_, rfl⟩
  have hs2 := HB1.out.size
  have hv2 := HV2.out.size
  have HC2 : Hid (Below W1.heap.size W1 W2) := by
    show Below _ _ _
    rw [hW2]; exact HV2.out.alloc hv2 _
  have HB2 : Hid (Below w.heap.size w W2) := HB1.out.trans (HC2.out.mono hs2)
  have K2 : Hid (W2.heap[v2.heap.size]? = some (.cells #[.int .i64 4, .string ⟨#[97, 66, 61, 61]⟩, .int .i64 0, .string ⟨#[]⟩, .string ⟨#[]⟩, .bool false, .int .i64 (-1), .string ⟨#[]⟩] 41 (0, 0))) := by
    show _ = _
    rw [hW2]; exact heap_alloc_new v2 _
  rw [← hW2]
  clear hW2 hs2 hv2 P2 HV2
  go_upto_region 4 with (go_at_call 18; refine (P3.out _ HB2.out).mono ?_; rintro e v3 ⟨rfl, b3⟩; have HV3 := Lib.hid b3; clear b3)
  obtain ⟨W3, hW3⟩ : ∃ W, W = v3.alloc (.cells #[.int .i64 5, .string ⟨#[120]⟩, .int .i64 256, .string ⟨#[]⟩, .string ⟨#[]⟩, .bool false, .int .i64 (-1), .string ⟨#[]⟩] 41) := ⟨_, rfl⟩
  have hs3 := HB2.out.size
  have hv3 := HV3.out.size
  have HC3 : Hid (Below W2.heap.size W2 W3) := by
    show Below _ _ _
    rw [hW3]; exact HV3.out.alloc hv3 _
  have HB3 : Hid (Below w.heap.size w W3) := HB2.out.trans (HC3.out.mono hs3)
  have K3 : Hid (W3.heap[v3.heap.size]? = some (.cells #[.int .i64 5, .string ⟨#[120]⟩, .int .i64 256, .string ⟨#[]⟩, .string ⟨#[]⟩, .bool false, .int .i64 (-1), .string ⟨#[]⟩] 41 (0, 0))) := by
    show _ = _
    rw [hW3]; exact heap_alloc_new v3 _
  rw [← hW3]
  clear hW3 hs3 hv3 P3 HV3
  go_upto_region 5 with (go_at_call 18; refine (P4.out _ HB3.out).mono ?_; rintro e v4 ⟨rfl, b4⟩; have HV4 := Lib.hid b4; clear b4)
  obtain ⟨W4, hW4⟩ : ∃ W, W = v4.alloc (.cells #[.int .i64 3, .string ⟨#[]⟩, .int .i64 0, .string ⟨#[]⟩, .string ⟨#[97, 46, 98]⟩, .bool true, .int .i64 (-2), .string ⟨#[]⟩] 41) := ⟨_, rfl⟩
  have hs4 := HB3.out.size
  have hv4 := HV4.out.size
  have HC4 : Hid (Below W3.heap.size W3 W4) := by
    show Below _ _ _
    rw [hW4]; exact HV4.out.alloc hv4 _
  have HB4 : Hid (Below w.heap.size w W4) := HB3.out.trans (HC4.out.mono hs4)
  have K4 : Hid (W4.heap[v4.heap.size]? = some (.cells #[.int .i64 3, .string ⟨#[]⟩, .int .i64 0, .string ⟨#[]⟩, .string ⟨#[97, 46, 98]⟩, .bool true, .int .i64 (-2), .string ⟨#[]⟩] 41 (0, 0))) := by
    show _ = _
    rw [hW4]; exact heap_alloc_new v4 _
  rw [← hW4]
  clear hW4 hs4 hv4 P4 HV4
  go_upto_region 6 with (go_at_call 18; refine (P5.out _ HB4.out).mono ?_; rintro e v5 ⟨rfl, b5⟩; have HV5 := Lib.hid b5; clear b5)
  obtain ⟨W5, hW5⟩ : ∃ W, W = v5.alloc (.cells #[.int .i64 3, .string ⟨#[]⟩, .int .i64 0, .string ⟨#[104, 116, 116, 112]⟩, .string ⟨#[120]⟩, .bool false, .int .i64 80, .string ⟨#[47, 112, 47]⟩] 41) := ⟨_, rfl⟩
  have hs5 := HB4.out.size
  have hv5 := HV5.out.size
  have HC5 : Hid (Below W4.heap.size W4 W5) := by
    show Below _ _ _
    rw [hW5]; exact HV5.out.alloc hv5 _
  have HB5 : Hid (Below w.heap.size w W5) := HB4.out.trans (HC5.out.mono hs5)
  have K5 : Hid (W5.heap[v5.heap.size]? = some (.cells #[.int .i64 3, .string ⟨#[]⟩, .int .i64 0, .string ⟨#[104, 116, 116, 112]⟩, .string ⟨#[120]⟩, .bool false, .int .i64 80, .string ⟨#[47, 112, 47]⟩] 41 (0, 0))) := by
    show _ = _
    rw [hW5]; exact heap_alloc_new v5 _
  rw [← hW5]
  clear hW5 hs5 hv5 P5 HV5
  go_upto_region 7 with (go_at_call 18; refine (P6.out _ HB5.out).mono ?_; rintro e v6 ⟨rfl, b6⟩; have HV6 := Lib.hid b6; clear b6)
  obtain ⟨W6, hW6⟩ : ∃ W, W = v6.alloc (.cells #[.int .i64 2, .string ⟨#[]⟩, .int .i64 0, .string ⟨#[104, 116, 116, 112, 115]⟩, .string ⟨#[]⟩, .bool false, .int .i64 (-1), .string ⟨#[]⟩] 41) := ⟨_, rfl⟩
  have hs6 := HB5.out.size
  have hv6 := HV6.out.size
  have HC6 : Hid (Below W5.heap.size W5 W6) := by
    show Below _ _ _
    rw [hW6]; exact HV6.out.alloc hv6 _
  have HB6 : Hid (Below w.heap.size w W6) := HB5.out.trans (HC6.out.mono hs6)
  have K6 : Hid (W6.heap[v6.heap.size]? = some (.cells #[.int .i64 2, .string ⟨#[]⟩, .int .i64 0, .string ⟨#[104, 116, 116, 112, 115]⟩, .string ⟨#[]⟩, .bool false, .int .i64 (-1), .string ⟨#[]⟩] 41 (0, 0))) := by
    show _ = _
    rw [hW6]; exact heap_alloc_new v6 _
  rw [← hW6]
  clear hW6 hs6 hv6 P6 HV6
  go_upto_region 8 with (go_at_call 18; refine (P7.out _ HB6.out).mono ?_; rintro e v7 ⟨rfl, b7⟩; have HV7 := Lib.hid b7; clear b7)
  obtain ⟨W7, hW7⟩ : ∃ W, W = v7.alloc (.cells #[.int .i64 3, .string ⟨#[]⟩, .int .i64 0, .string ⟨#[]⟩, .string ⟨#[]⟩, .bool true, .int .i64 (-1), .string ⟨#[]⟩] 41) := ⟨_, rfl⟩
  have hs7 := HB6.out.size
  have hv7 := HV7.out.size
  have HC7 : Hid (Below W6.heap.size W6 W7) := by
    show Below _ _ _
    rw [hW7]; exact HV7.out.alloc hv7 _
  have HB7 : Hid (Below w.heap.size w W7) := HB6.out.trans (HC7.out.mono hs7)
  have K7 : Hid (W7.heap[v7.heap.size]? = some (.cells #[.int .i64 3, .string ⟨#[]⟩, .int .i64 0, .string ⟨#[]⟩, .string ⟨#[]⟩, .bool true, .int .i64 (-1), .string ⟨#[]⟩] 41 (0, 0))) := by
    show _ = _
    rw [hW7]; exact heap_alloc_new v7 _
  rw [← hW7]
  clear hW7 hs7 hv7 P7 HV7
  obtain ⟨W8, hW8⟩ : ∃ W, W = W7.alloc (.cells #[.string ⟨#[39, 110, 111, 110, 101, 39]⟩, .string ⟨#[97, 46, 46, 98]⟩, .string ⟨#[120, 58, 121]⟩, .string ⟨#[39, 110, 111, 110, 99, 101, 45, 39]⟩, .string ⟨#[97, 47, 98, 63, 99]⟩, .string ⟨#[39]⟩] 9) := ⟨_, rfl⟩
  have HC8 : Hid (Below W7.heap.size W7 W8) := by
    show Below _ _ _
    rw [hW8]; exact (Below.refl _ _).alloc (Nat.le_refl _) _
  have CP : Hid (∀ k t, noneT[k]? = some t → W8.cell? ⟨W7.heap.size, k, none⟩ = some (.string (ba t))) := by
    intro k t ht
    have kb : W8.heap[W7.heap.size]? = some (.cells #[.string ⟨#[39, 110, 111, 110, 101, 39]⟩, .string ⟨#[97, 46, 46, 98]⟩, .string ⟨#[120, 58, 121]⟩, .string ⟨#[39, 110, 111, 110, 99, 101, 45, 39]⟩, .string ⟨#[97, 47, 98, 63, 99]⟩, .string ⟨#[39]⟩] 9 (0, 0)) := by rw [hW8]; exact heap_alloc_new _ _
    rw [Lib.cell_of_heap kb]
    match k with
    | 0 => simp [noneT] at ht; subst ht; rfl
    | 1 => simp [noneT] at ht; subst ht; rfl
    | 2 => simp [noneT] at ht; subst ht; rfl
    | 3 => simp [noneT] at ht; subst ht; rfl
    | 4 => simp [noneT] at ht; subst ht; rfl
    | 5 => simp [noneT] at ht; subst ht; rfl
    | k + 6 => simp [noneT] at ht
  have hl8 : W7.heap.size < W8.heap.size := by rw [hW8]; simp
  have HW8 := Lib.hid hW8
  clear hW8
  go_wp2_with fail
  rw [← HW8.out]
  go_loopw [0, 49] (fun r i wr => ∃ k : Nat, k ≤ 6 ∧ r = .bool false ∧ i = .int .i64 k ∧ Hid (Below W8.heap.size W8 wr)) (fun _ i _ => 6 - (intOf i).toNat)
  case atStart => exact ⟨0, by omega, rfl, rfl, Below.refl _ _⟩
  case round =>
    obtain ⟨k, hk, rfl, rfl, HB⟩ := hrel
    have H7 : Hid (Below W7.heap.size W7 wr) := HC8.out.trans (HB.out.mono (Nat.le_of_lt hl8))
    by_cases hlt : k < 6
    · have hki : (k : Int) < 6 := by omega
      obtain ⟨t, ht⟩ : ∃ t, noneT[k]? = some t := ⟨_, List.getElem?_eq_getElem (l := noneT) (by simpa [noneT] using hlt)⟩
      have q0 := (HB.out.cell (p := ⟨W7.heap.size, k, none⟩) hl8).trans (CP.out k t ht)
      have HT := Lib.hid ht
      have hbw : Hid (Below w.heap.size w wr) := HB7.out.trans (H7.out.mono HB7.out.size)
      clear ht
      go_wp2_with (go_at_call 18; refine (PN.out t _ ⟨k, HT.out⟩ hbw.out).mono ?_; rintro e v ⟨rfl, b⟩; have HV := Lib.hid b; clear b)
      go_roundw
      case rel => exact ⟨k + 1, by omega, rfl, by go_num, (HB.out.trans (HV.out.mono HB.out.size)).alloc (Nat.le_trans HB.out.size HV.out.size) _⟩
      case measure => simp [intOf]; omega
    · have hki : ¬ (k : Int) < 6 := by omega
      have D7 := H7
      have D6 : Hid (Below W6.heap.size W6 wr) := HC7.out.trans (D7.out.mono HC7.out.size)
      have D5 : Hid (Below W5.heap.size W5 wr) := HC6.out.trans (D6.out.mono HC6.out.size)
      have D4 : Hid (Below W4.heap.size W4 wr) := HC5.out.trans (D5.out.mono HC5.out.size)
      have D3 : Hid (Below W3.heap.size W3 wr) := HC4.out.trans (D4.out.mono HC4.out.size)
      have D2 : Hid (Below W2.heap.size W2 wr) := HC3.out.trans (D3.out.mono HC3.out.size)
      have D1 : Hid (Below W1.heap.size W1 wr) := HC2.out.trans (D2.out.mono HC2.out.size)
      obtain ⟨⟨c10, c11, c12, c13, c14, c15, c16, c17⟩, f10, f11, f12, f13, f14, f15, f16, f17⟩ := eight ((D1.out.block _ (lt_of_heap K1.out)).trans K1.out)
      obtain ⟨⟨c20, c21, c22, c23, c24, c25, c26, c27⟩, f20, f21, f22, f23, f24, f25, f26, f27⟩ := eight ((D2.out.block _ (lt_of_heap K2.out)).trans K2.out)
      obtain ⟨⟨c30, c31, c32, c33, c34, c35, c36, c37⟩, f30, f31, f32, f33, f34, f35, f36, f37⟩ := eight ((D3.out.block _ (lt_of_heap K3.out)).trans K3.out)
      obtain ⟨⟨c40, c41, c42, c43, c44, c45, c46, c47⟩, f40, f41, f42, f43, f44, f45, f46, f47⟩ := eight ((D4.out.block _ (lt_of_heap K4.out)).trans K4.out)
      obtain ⟨⟨c50, c51, c52, c53, c54, c55, c56, c57⟩, f50, f51, f52, f53, f54, f55, f56, f57⟩ := eight ((D5.out.block _ (lt_of_heap K5.out)).trans K5.out)
      obtain ⟨⟨c60, c61, c62, c63, c64, c65, c66, c67⟩, f60, f61, f62, f63, f64, f65, f66, f67⟩ := eight ((D6.out.block _ (lt_of_heap K6.out)).trans K6.out)
      obtain ⟨⟨c70, c71, c72, c73, c74, c75, c76, c77⟩, f70, f71, f72, f73, f74, f75, f76, f77⟩ := eight ((D7.out.block _ (lt_of_heap K7.out)).trans K7.out)
      clear CP PN K1 K2 K3 K4 K5 K6 K7 HC1 HC2 HC3 HC4 HC5 HC6 HC7 HC8 D1 D2 D3 D4 D5 D6 D7 HB1 HB2 HB3 HB4 HB5 HB6 HW8
      have HBF : Hid (Below w.heap.size w wr) := HB7.out.trans (H7.out.mono HB7.out.size)
      go_wp2_with fail
      go_ret
      exact ⟨by exact rfl, HBF.out⟩
end Go.Proofs.YteeplfbaflldaaaDoor.S25
