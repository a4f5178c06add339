/- longs.whole. -/
import Derived.Test.YtnlhhjokaekdhaaDoorEnd5
set_option linter.unusedVariables false
set_option linter.unusedSimpArgs false
namespace Go.Proofs.YtnlhhjokaekdhaaDoor.L5
open Go.RowKit

def blk (l : List UInt8) (k : Nat) : List UInt8 := (l.drop (k * 128)).take 128
def blocks (v : St) (l : List UInt8) : Nat → St
  | 0 => v
  | k + 1 => mixS (blocks v l k) (blk l k)
def endOf (l : List UInt8) : List UInt8 := endL (l.drop (l.length / 128 * 128)) l.length
def wholeS (v : St) (l : List UInt8) : St := blocks (blocks v l (l.length / 128)) (endOf l) ((endOf l).length / 128)
theorem endL_len (r : List UInt8) (n : Nat) (h : r.length < 128) : (endL r n).length % 128 = 0 ∧ (endL r n).length ≤ 256 := by
  unfold endL zeros
  simp only [List.length_append, List.length_cons, List.length_replicate, bytesBy_len]
  have : divs8.length = 8 := rfl
  omega
theorem blk_ext (s : ByteArray) (k : Nat) : (s.extract (k * 128) ((k + 1) * 128)).data.toList = blk s.data.toList k := by
  unfold blk
  rw [ByteArray.data_extract, Array.toList_extract, List.extract_eq_take_drop]
  congr 1
  omega
/-- The memory: the eight numbers, the result. -/
structure HAt (B : Nat) (v : St) (w wr : World) : Prop where
  box : wr.heap[B]? = some (.cells v.cells 62 (0, 0))
  res : wr.heap[B + 1]? = some (.cells zero8 62 (0, 0))
  below : Below B w wr
theorem HAt.step {B : Nat} {v : St} {w wr w1 : World} (h : HAt B v w wr) (b : Below wr.heap.size wr w1) : HAt B v w w1 := by
  have hlt := (Array.getElem?_eq_some_iff.1 h.box).1
  have hlt2 := (Array.getElem?_eq_some_iff.1 h.res).1
  exact ⟨(b.block _ hlt).trans h.box, (b.block _ hlt2).trans h.res, h.below.trans (b.mono (by omega))⟩
theorem HAt.drew {B : Nat} {v : St} {w wr : World} (h : HAt B v w wr) : HAt B v w wr.drew := ⟨h.box, h.res, h.below.drew⟩
theorem HAt.set {B : Nat} {v : St} {w wr : World} (h : HAt B v w wr) (s' : St) : HAt B s' w ((((((((wr.setCell ⟨B, 0, none⟩ (.int .u64 s'.a)).setCell ⟨B, 1, none⟩ (.int .u64 s'.b)).setCell ⟨B, 2, none⟩ (.int .u64 s'.c)).setCell ⟨B, 3, none⟩ (.int .u64 s'.d)).setCell ⟨B, 4, none⟩ (.int .u64 s'.e)).setCell ⟨B, 5, none⟩ (.int .u64 s'.f)).setCell ⟨B, 6, none⟩ (.int .u64 s'.g)).setCell ⟨B, 7, none⟩ (.int .u64 s'.h)) := by
  have hB : B ≤ B := Nat.le_refl _
  exact ⟨set8 h.box s', by rw [set8_ne (by omega)]; exact h.res, (((((((h.below.setCell (by exact hB) _).setCell (by exact hB) _).setCell (by exact hB) _).setCell (by exact hB) _).setCell (by exact hB) _).setCell (by exact hB) _).setCell (by exact hB) _).setCell (by exact hB) _⟩
theorem mix_call (v : St) (p : ByteArray) (w : World) (hp : p.size = 128) (hT : LTab5 w) (l : List UInt8) (hl : p.data.toList = l) (u : St) (hu : mixS v l = u) :
    Calls Tryd.prog 59 #[.agg #[.int .u64 v.a, .int .u64 v.b, .int .u64 v.c, .int .u64 v.d, .int .u64 v.e, .int .u64 v.f, .int .u64 v.g, .int .u64 v.h], .string p] w fun e w' =>
      e = .returned (.agg #[.int .u64 u.a, .int .u64 u.b, .int .u64 u.c, .int .u64 u.d, .int .u64 u.e, .int .u64 u.f, .int .u64 u.g, .int .u64 u.h]) ∧ Below w.heap.size w w' := by
  subst hl hu
  exact mix_any v p w hp hT

set_option maxHeartbeats 6400000 in
set_option maxRecDepth 100000 in
theorem whole_any (v : St) (s : ByteArray) (w : World) (hs : s.size ≤ 1099511627776) (hT : LTab5 w) :
    Calls Tryd.prog 37 #[.agg v.cells, .string s] w fun e w' => e = .returned (.agg (wholeS v s.data.toList).cells) ∧ Below w.heap.size w w' := by
  have hsl : s.data.toList.length = s.size := by simp
  obtain ⟨q, hq⟩ : ∃ q, s.size / 128 = q := ⟨_, rfl⟩
  have hq1 : q * 128 ≤ s.size := by omega
  have hq2 : s.size < q * 128 + 128 := by omega
  have hqi : (s.size : Int) / 128 = (q : Int) := by omega
  obtain ⟨W1, hW1⟩ : ∃ W1, W1 = (w.alloc (.cells v.cells 62)).alloc (.cells zero8 62) := ⟨_, rfl⟩
  have H0 : Hid (HAt w.heap.size v w W1) := by
    refine ⟨?_, ?_, by rw [hW1]; exact ((Below.refl _ w).alloc (Nat.le_refl _) _).alloc (by simp) _⟩
    · rw [hW1, Below.heap_alloc _ _ _ (by simp)]; exact heap_alloc_new w _
    · rw [hW1]
      have := heap_alloc_new (w.alloc (.cells v.cells 62)) (.cells zero8 62)
      simpa using this
  have HT := Lib.hid hT
  have HQ := Lib.hid hq
  have HSL := Lib.hid hsl
  clear hT hq hsl
  unfold zero8 St.cells at hW1
  unfold St.cells
  go_enter Tryd.func37, Tryd.ntmps37
  go_wp2_with fail
  rw [← hW1]
  clear hW1 hqi
  go_loopw [13] (fun i wr => ∃ k : Nat, k ≤ q ∧ i = .int .i64 k ∧ Hid (HAt w.heap.size (blocks v s.data.toList k) w wr)) (fun i _ => q - (intOf i).toNat)
  case atStart => exact ⟨0, Nat.zero_le _, rfl, H0⟩
  case round =>
    obtain ⟨k, hk, rfl, H⟩ := hrel
    by_cases hlt : k < q
    · have hki : (k : Int) < (q : Int) := by omega
      obtain ⟨σ, hσ⟩ : ∃ σ, blocks v s.data.toList k = σ := ⟨_, rfl⟩
      obtain ⟨τ, hτ⟩ : ∃ τ, mixS σ (blk s.data.toList k) = τ := ⟨_, rfl⟩
      have HN : Hid (blocks v s.data.toList (k + 1) = τ) := by show _ = _; rw [blocks, hσ, hτ]
      rw [hσ] at H
      obtain ⟨p, hp⟩ : ∃ p, s.extract (k * 128) ((k + 1) * 128) = p := ⟨_, rfl⟩
      have hp64 : p.size = 128 := by rw [← hp]; simp; omega
      have hpl : p.data.toList = blk s.data.toList k := by rw [← hp]; exact blk_ext s k
      have HMX : Hid (∀ W, LTab5 W → Calls Tryd.prog 59 #[.agg #[.int .u64 σ.a, .int .u64 σ.b, .int .u64 σ.c, .int .u64 σ.d, .int .u64 σ.e, .int .u64 σ.f, .int .u64 σ.g, .int .u64 σ.h], .string (s.extract (k * 128) ((k + 1) * 128))] W fun e w' =>
          e = .returned (.agg #[.int .u64 τ.a, .int .u64 τ.b, .int .u64 τ.c, .int .u64 τ.d, .int .u64 τ.e, .int .u64 τ.f, .int .u64 τ.g, .int .u64 τ.h]) ∧ Below W.heap.size W w') := fun W hW => by
        rw [hp]; exact mix_call σ p W hp64 hW _ hpl τ hτ
      obtain ⟨x0, x1, x2, x3, x4, x5, x6, x7⟩ := cells8 H.out.box
      have hd : Hid (LTab5 wr.drew) := (HT.out.below H.out.below).below ((Below.refl _ wr).drew)
      clear hσ hτ hp hp64 hpl
      have hk1 : ((k : Int) + 1) * 128 ≤ s.size := by omega
      have hk0 : (0 : Int) ≤ (k : Int) * 128 := by omega
      have hk01 : (k : Int) * 128 ≤ ((k : Int) + 1) * 128 := by omega
      have hk2 : (0 : Int) ≤ ((k : Int) + 1) * 128 := by omega
      have hw1 : IntKind.i64.wrap ((k : Int) * 128) = (k : Int) * 128 := IntWalk.i64_in _ (by omega)
      have hw2 : IntKind.i64.wrap ((k : Int) + 1) = (k : Int) + 1 := IntWalk.i64_in _ (by omega)
      have hw3 : IntKind.i64.wrap (((k : Int) + 1) * 128) = ((k : Int) + 1) * 128 := IntWalk.i64_in _ (by omega)
      have ht1 : ((k : Int) * 128).toNat = k * 128 := by omega
      have ht2 : (((k : Int) + 1) * 128).toNat = (k + 1) * 128 := by omega
      go_wp2_with fail
      go_region_with (go_at_call 59; refine (HMX.out _ ?hA).mono ?_; (case hA => exact hd.out); rintro e w1 ⟨rfl, b1⟩; have H1 : Hid (HAt w.heap.size σ w w1) := H.out.drew.step b1; obtain ⟨z0, z1, z2, z3, z4, z5, z6, z7⟩ := cells8 H1.out.box; have f0 := Lib.frozen_of_heap H1.out.box 0; have f1 := Lib.frozen_of_heap H1.out.box 1; have f2 := Lib.frozen_of_heap H1.out.box 2; have f3 := Lib.frozen_of_heap H1.out.box 3; have f4 := Lib.frozen_of_heap H1.out.box 4; have f5 := Lib.frozen_of_heap H1.out.box 5; have f6 := Lib.frozen_of_heap H1.out.box 6; have f7 := Lib.frozen_of_heap H1.out.box 7; clear b1)
      all_goals
        clear hw1 hw2 hw3 ht1 ht2
        go_wp2_with fail
        go_roundw
      all_goals first
        | (simp [intOf]; omega)
        | (refine ⟨k + 1, by omega, by go_num, ?_⟩; rw [HN.out]; exact H1.out.set τ)
    · have hkq : k = q := by omega
      obtain ⟨v1, hv1⟩ : ∃ u, blocks v s.data.toList q = u := ⟨_, rfl⟩
      rw [hkq, hv1] at H
      have hnq : ¬ (k : Int) < (q : Int) := by omega
      have HV1 := Lib.hid hv1
      obtain ⟨r, hr⟩ : ∃ r, s.extract (q * 128) s.size = r := ⟨_, rfl⟩
      have hr64 : r.size < 128 := by rw [← hr]; simp; omega
      have hrl : r.data.toList = s.data.toList.drop (q * 128) := by
        rw [← hr, ByteArray.data_extract, Array.toList_extract, List.extract_eq_take_drop, List.take_of_length_le (by rw [List.length_drop, HSL.out]; omega)]
      obtain ⟨EL, hEL⟩ : ∃ E, endOf s.data.toList = E := ⟨_, rfl⟩
      obtain ⟨EE, hEE⟩ : ∃ E : ByteArray, (⟨EL.toArray⟩ : ByteArray) = E := ⟨_, rfl⟩
      have HEL : Hid (EE.data.toList = EL) := by show _ = _; rw [← hEE]
      have heq : endL r.data.toList s.size = EL := by rw [← hEL, endOf, hrl, HSL.out, HQ.out]
      have hlen := endL_len r.data.toList s.size (by simpa using hr64)
      rw [heq] at hlen
      have hEs : EE.size = EL.length := by
        have : EE.data.toList.length = EE.size := by simp
        rw [← this, HEL.out]
      have HEN : Hid (∀ W, Calls Tryd.prog 60 #[.string (s.extract (q * 128) s.size), .int .i64 s.size] W fun e w' => e = .returned (.string EE) ∧ Below W.heap.size W w') := fun W => by
        rw [hr, ← hEE, ← heq]
        exact ending_any r s.size W hr64 hs
      obtain ⟨r2, hr2⟩ : ∃ r2, EE.size / 128 = r2 := ⟨_, rfl⟩
      have hE64 : EE.size = r2 * 128 := by omega
      have HR2 : Hid (EL.length / 128 = r2) := by show _ = _; rw [← hEs, hr2]
      have HELS := Lib.hid hEL
      have hr2b : r2 ≤ 2 := by omega
      have hE1 : (EE.size : Int) ≤ (r2 : Int) * 128 := by omega
      have hE2 : (r2 : Int) * 128 ≤ (EE.size : Int) := by omega
      have hEd : (EE.size : Int) / 128 = (r2 : Int) := by omega
      have HE64 := Lib.hid hE64
      have hq0 : (0 : Int) ≤ (q : Int) * 128 := by omega
      have hq3 : (q : Int) * 128 ≤ s.size := by omega
      clear hlt hk hkq hv1 hr hr64 hrl hEL hEE heq hlen hEs hr2 hE64
      go_wp2_with fail
      refine (HEN.out _).mono ?_
      rintro e w2 ⟨rfl, b2⟩
      have H2 : Hid (HAt w.heap.size v1 w w2) := H.out.step b2
      clear b2 H
      go_wp2_with fail
      clear hEd
      go_loopw [36] (fun i wr => ∃ k : Nat, k ≤ r2 ∧ i = .int .i64 k ∧ Hid (HAt w.heap.size (blocks v1 EL k) w wr)) (fun i _ => r2 - (intOf i).toNat)
      case atStart => exact ⟨0, Nat.zero_le _, rfl, H2⟩
      case round =>
        obtain ⟨k, hk, rfl, H⟩ := hrel
        by_cases hlt : k < r2
        · have hki : (k : Int) < (r2 : Int) := by omega
          obtain ⟨σ, hσ⟩ : ∃ σ, blocks v1 EL k = σ := ⟨_, rfl⟩
          obtain ⟨τ, hτ⟩ : ∃ τ, mixS σ (blk EL k) = τ := ⟨_, rfl⟩
          have HN : Hid (blocks v1 EL (k + 1) = τ) := by show _ = _; rw [blocks, hσ, hτ]
          rw [hσ] at H
          obtain ⟨p, hp⟩ : ∃ p, EE.extract (k * 128) ((k + 1) * 128) = p := ⟨_, rfl⟩
          have hp64 : p.size = 128 := by rw [← hp]; simp; omega
          have hpl : p.data.toList = blk EL k := by rw [← hp, ← HEL.out]; exact blk_ext EE k
          have HMX : Hid (∀ W, LTab5 W → Calls Tryd.prog 59 #[.agg #[.int .u64 σ.a, .int .u64 σ.b, .int .u64 σ.c, .int .u64 σ.d, .int .u64 σ.e, .int .u64 σ.f, .int .u64 σ.g, .int .u64 σ.h], .string (EE.extract (k * 128) ((k + 1) * 128))] W fun e w' =>
              e = .returned (.agg #[.int .u64 τ.a, .int .u64 τ.b, .int .u64 τ.c, .int .u64 τ.d, .int .u64 τ.e, .int .u64 τ.f, .int .u64 τ.g, .int .u64 τ.h]) ∧ Below W.heap.size W w') := fun W hW => by
            rw [hp]; exact mix_call σ p W hp64 hW _ hpl τ hτ
          obtain ⟨x0, x1, x2, x3, x4, x5, x6, x7⟩ := cells8 H.out.box
          have hd : Hid (LTab5 wr.drew) := (HT.out.below H.out.below).below ((Below.refl _ wr).drew)
          clear hσ hτ hp hp64 hpl
          have hk1 : ((k : Int) + 1) * 128 ≤ EE.size := by omega
          have hk0 : (0 : Int) ≤ (k : Int) * 128 := by omega
          have hk01 : (k : Int) * 128 ≤ ((k : Int) + 1) * 128 := by omega
          have hk2 : (0 : Int) ≤ ((k : Int) + 1) * 128 := by omega
          have hw1 : IntKind.i64.wrap ((k : Int) * 128) = (k : Int) * 128 := IntWalk.i64_in _ (by omega)
          have hw2 : IntKind.i64.wrap ((k : Int) + 1) = (k : Int) + 1 := IntWalk.i64_in _ (by omega)
          have hw3 : IntKind.i64.wrap (((k : Int) + 1) * 128) = ((k : Int) + 1) * 128 := IntWalk.i64_in _ (by omega)
          have ht1 : ((k : Int) * 128).toNat = k * 128 := by omega
          have ht2 : (((k : Int) + 1) * 128).toNat = (k + 1) * 128 := by omega
          go_wp2_with fail
          go_region_with (go_at_call 59; refine (HMX.out _ ?hA).mono ?_; (case hA => exact hd.out); rintro e w1 ⟨rfl, b1⟩; have H1 : Hid (HAt w.heap.size σ w w1) := H.out.drew.step b1; obtain ⟨z0, z1, z2, z3, z4, z5, z6, z7⟩ := cells8 H1.out.box; have f0 := Lib.frozen_of_heap H1.out.box 0; have f1 := Lib.frozen_of_heap H1.out.box 1; have f2 := Lib.frozen_of_heap H1.out.box 2; have f3 := Lib.frozen_of_heap H1.out.box 3; have f4 := Lib.frozen_of_heap H1.out.box 4; have f5 := Lib.frozen_of_heap H1.out.box 5; have f6 := Lib.frozen_of_heap H1.out.box 6; have f7 := Lib.frozen_of_heap H1.out.box 7; clear b1)
          all_goals
            clear hw1 hw2 hw3 ht1 ht2
            go_wp2_with fail
            go_roundw
          all_goals first
            | (simp [intOf]; omega)
            | (refine ⟨k + 1, by omega, by go_num, ?_⟩; rw [HN.out]; exact H1.out.set τ)
        · have hkr : k = r2 := by omega
          obtain ⟨v2, hv2⟩ : ∃ u, blocks v1 EL r2 = u := ⟨_, rfl⟩
          rw [hkr, hv2] at H
          have hnr : ¬ (k : Int) < (r2 : Int) := by omega
          have HV2 := Lib.hid hv2
          obtain ⟨y0, y1, y2, y3, y4, y5, y6, y7⟩ := cells8 H.out.box
          have kr := H.out.res
          have r0 : wr.cell? ⟨w.heap.size + 1, 0, none⟩ = some (.int .u64 0) := by rw [Lib.cell_of_heap kr]; rfl
          have r1 : wr.cell? ⟨w.heap.size + 1, 1, none⟩ = some (.int .u64 0) := by rw [Lib.cell_of_heap kr]; rfl
          have r2' : wr.cell? ⟨w.heap.size + 1, 2, none⟩ = some (.int .u64 0) := by rw [Lib.cell_of_heap kr]; rfl
          have r3 : wr.cell? ⟨w.heap.size + 1, 3, none⟩ = some (.int .u64 0) := by rw [Lib.cell_of_heap kr]; rfl
          have r4 : wr.cell? ⟨w.heap.size + 1, 4, none⟩ = some (.int .u64 0) := by rw [Lib.cell_of_heap kr]; rfl
          have r5 : wr.cell? ⟨w.heap.size + 1, 5, none⟩ = some (.int .u64 0) := by rw [Lib.cell_of_heap kr]; rfl
          have r6 : wr.cell? ⟨w.heap.size + 1, 6, none⟩ = some (.int .u64 0) := by rw [Lib.cell_of_heap kr]; rfl
          have r7 : wr.cell? ⟨w.heap.size + 1, 7, none⟩ = some (.int .u64 0) := by rw [Lib.cell_of_heap kr]; rfl
          have f0 := Lib.frozen_of_heap kr 0
          have f1 := Lib.frozen_of_heap kr 1
          have f2 := Lib.frozen_of_heap kr 2
          have f3 := Lib.frozen_of_heap kr 3
          have f4 := Lib.frozen_of_heap kr 4
          have f5 := Lib.frozen_of_heap kr 5
          have f6 := Lib.frozen_of_heap kr 6
          have f7 := Lib.frozen_of_heap kr 7
          have HKR2 := Lib.hid kr
          have HSUM : Hid (wholeS v s.data.toList = v2) := by
            show _ = _
            unfold wholeS
            rw [HELS.out, HR2.out, HSL.out, HQ.out, HV1.out, HV2.out]
          clear hlt hk hkr hv2 kr
          go_wp2_with fail
          refine bodyPost_ret (v := .agg v2.cells) ?_ rfl ?_
          · refine results_cell_row rfl _ _ (w.heap.size + 1) 62 v2.cells (0, 0) _ rfl ?_ Tryd.underlying62 rfl (by rfl)
            exact set8 (s := ⟨0, 0, 0, 0, 0, 0, 0, 0⟩) HKR2.out v2
          · refine ⟨by rw [HSUM.out]; rfl, ?_⟩
            have hB : w.heap.size ≤ w.heap.size + 1 := by omega
            exact (((((((H.out.below.setCell (by exact hB) _).setCell (by exact hB) _).setCell (by exact hB) _).setCell (by exact hB) _).setCell (by exact hB) _).setCell (by exact hB) _).setCell (by exact hB) _).setCell (by exact hB) _
end Go.Proofs.YtnlhhjokaekdhaaDoor.L5
