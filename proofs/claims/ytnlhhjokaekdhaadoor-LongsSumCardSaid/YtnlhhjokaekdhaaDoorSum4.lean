/- digest.Sum. -/
import Derived.Test.YtnlhhjokaekdhaaDoorMix4
import Derived.Test.YtnlhhjokaekdhaaDoorEnd4
import Derived.Deep.Cut
set_option linter.unusedVariables false
set_option linter.unusedSimpArgs false
namespace Go.Proofs.YtnlhhjokaekdhaaDoor
open Go.RowKit

def f0S : St := ⟨1779033703, 3144134277, 1013904242, 2773480762, 1359893119, 2600822924, 528734635, 1541459225⟩
theorem f0_cells : u32A fL = f0S.cells := by rfl
def blk (l : List UInt8) (k : Nat) : List UInt8 := (l.drop (64 * k)).take 64
def blocks (v : St) (l : List UInt8) : Nat → St
  | 0 => v
  | k + 1 => mixS (blocks v l k) (blk l k)
def St.list (s : St) : List Int := [s.a, s.b, s.c, s.d, s.e, s.f, s.g, s.h]
def outL (v : St) (k : Nat) : List UInt8 := (v.list.take k).flatMap fun x => bytesBy x divs4
def endOf (l : List UInt8) : List UInt8 := endL (l.drop (64 * (l.length / 64))) l.length
def sumL (l : List UInt8) : List UInt8 := outL (blocks (blocks f0S l (l.length / 64)) (endOf l) ((endOf l).length / 64)) 8
theorem bytesBy_len (x : Int) (ds : List Int) : (bytesBy x ds).length = ds.length := by unfold bytesBy; simp
theorem endL_len (r : List UInt8) (n : Nat) (h : r.length < 64) : (endL r n).length % 64 = 0 ∧ (endL r n).length ≤ 128 := by
  unfold endL zeros
  simp only [List.length_append, List.length_cons, List.length_replicate, bytesBy_len]
  have : divs8.length = 8 := rfl
  omega
theorem blk_ext (s : ByteArray) (k : Nat) : (s.extract (64 * k) (64 * k + 64)).data.toList = blk s.data.toList k := by
  unfold blk
  rw [ByteArray.data_extract, Array.toList_extract, List.extract_eq_take_drop]
  congr 1
  omega
theorem flat_len : ∀ l : List Int, (l.flatMap fun x => bytesBy x divs4).length = 4 * l.length
  | [] => rfl
  | x :: l => by rw [List.flatMap_cons, List.length_append, flat_len l, bytesBy_len]; simp [divs4]; omega
theorem outL_len (v : St) (j : Nat) : (outL v j).length ≤ 32 := by
  unfold outL
  rw [flat_len]
  have h1 := List.length_take_le' j v.list
  have h2 : v.list.length = 8 := rfl
  omega
theorem sumL_len (l : List UInt8) : (sumL l).length = 32 := by
  unfold sumL outL
  rw [flat_len]
  rfl
/-- The sum's memory: the eight numbers. -/
structure HAt (B : Nat) (v : St) (w wr : World) : Prop where
  box : wr.heap[B]? = some (.cells v.cells 44 (0, 0))
  below : Below B w wr
theorem HAt.step {B : Nat} {v : St} {w wr w1 : World} (h : HAt B v w wr) (b : Below wr.heap.size wr w1) (hB : B = w.heap.size) : HAt B v w w1 := by
  have hlt := (Array.getElem?_eq_some_iff.1 h.box).1
  exact ⟨(b.block _ hlt).trans h.box, h.below.trans (b.mono (by omega))⟩
theorem HAt.drew {B : Nat} {v : St} {w wr : World} (h : HAt B v w wr) : HAt B v w wr.drew := ⟨h.box, h.below.drew⟩
theorem HAt.set {B : Nat} {v : St} {w wr : World} (h : HAt B v w wr) (s' : St) : HAt B s' w ((((((((wr.setCell ⟨B, 0, none⟩ (.int .u32 s'.a)).setCell ⟨B, 1, none⟩ (.int .u32 s'.b)).setCell ⟨B, 2, none⟩ (.int .u32 s'.c)).setCell ⟨B, 3, none⟩ (.int .u32 s'.d)).setCell ⟨B, 4, none⟩ (.int .u32 s'.e)).setCell ⟨B, 5, none⟩ (.int .u32 s'.f)).setCell ⟨B, 6, none⟩ (.int .u32 s'.g)).setCell ⟨B, 7, none⟩ (.int .u32 s'.h)) := by
  have hB : B ≤ B := Nat.le_refl _
  exact ⟨set8 h.box s', (((((((h.below.setCell (by exact hB) _).setCell (by exact hB) _).setCell (by exact hB) _).setCell (by exact hB) _).setCell (by exact hB) _).setCell (by exact hB) _).setCell (by exact hB) _).setCell (by exact hB) _⟩
theorem mix_call (v : St) (p : ByteArray) (w : World) (hp : p.size = 64) (hT : DTab w) (l : List UInt8) (hl : p.data.toList = l) (u : St) (hu : mixS v l = u) :
    Calls Tryd.prog 28 #[.agg #[.int .u32 v.a, .int .u32 v.b, .int .u32 v.c, .int .u32 v.d, .int .u32 v.e, .int .u32 v.f, .int .u32 v.g, .int .u32 v.h], .string p] w fun e w' =>
      e = .returned (.agg #[.int .u32 u.a, .int .u32 u.b, .int .u32 u.c, .int .u32 u.d, .int .u32 u.e, .int .u32 u.f, .int .u32 u.g, .int .u32 u.h]) ∧ Below w.heap.size w w' := by
  subst hl hu
  exact mix_any v p w hp hT

set_option maxHeartbeats 6400000 in
set_option maxRecDepth 100000 in
theorem sum_any (s : ByteArray) (w : World) (hs : s.size ≤ 1099511627776) (hT : DTab w) :
    Calls Tryd.prog 14 #[.string s] w fun e w' => e = .returned (.string ⟨(sumL s.data.toList).toArray⟩) ∧ Below w.heap.size w w' := by
  have hsl : s.data.toList.length = s.size := by simp
  obtain ⟨q, hq⟩ : ∃ q, s.size / 64 = q := ⟨_, rfl⟩
  have hq1 : 64 * q ≤ s.size := by omega
  have hq2 : s.size < 64 * q + 64 := by omega
  have hmd : ((s.size : Int) % 64) = s.size - 64 * (q : Int) := by omega
  obtain ⟨tf, frf, hff⟩ := hT.f
  rw [f0_cells] at hff
  obtain ⟨y0, y1, y2, y3, y4, y5, y6, y7⟩ := cells8 hff
  have H0 : Hid (HAt w.heap.size f0S w (w.alloc (.cells f0S.cells 44))) := ⟨heap_alloc_new w _, (Below.refl _ w).alloc (Nat.le_refl _) _⟩
  have HT := Lib.hid hT
  have HQ := Lib.hid hq
  have HSL := Lib.hid hsl
  clear hff hT hq hsl
  unfold f0S at y0 y1 y2 y3 y4 y5 y6 y7
  go_enter Tryd.func14, Tryd.ntmps14
  go_wp2_with fail
  rw [show (s.size : Int) - (s.size - 64 * (q : Int)) = 64 * (q : Int) by omega]
  clear hmd y0 y1 y2 y3 y4 y5 y6 y7
  go_loopw [5] (fun i wr => ∃ k : Nat, k ≤ q ∧ i = .int .i64 (64 * (k : Int)) ∧ Hid (HAt w.heap.size (blocks f0S s.data.toList k) w wr)) (fun i _ => (64 * (q : Int) - intOf i).toNat)
  case atStart => exact ⟨0, Nat.zero_le _, rfl, H0⟩
  case round =>
    obtain ⟨k, hk, rfl, H⟩ := hrel
    by_cases hlt : k < q
    · have hki : 64 * (k : Int) < 64 * (q : Int) := by omega
      obtain ⟨σ, hσ⟩ : ∃ σ, blocks f0S s.data.toList k = σ := ⟨_, rfl⟩
      obtain ⟨τ, hτ⟩ : ∃ τ, mixS σ (blk s.data.toList k) = τ := ⟨_, rfl⟩
      have HN : Hid (blocks f0S s.data.toList (k + 1) = τ) := by show _ = _; rw [blocks, hσ, hτ]
      rw [hσ] at H
      obtain ⟨p, hp⟩ : ∃ p, s.extract (64 * k) (64 * k + 64) = p := ⟨_, rfl⟩
      have hp64 : p.size = 64 := by rw [← hp]; simp; omega
      have hpl : p.data.toList = blk s.data.toList k := by rw [← hp]; exact blk_ext s k
      have HMX : Hid (∀ W, DTab W → Calls Tryd.prog 28 #[.agg #[.int .u32 σ.a, .int .u32 σ.b, .int .u32 σ.c, .int .u32 σ.d, .int .u32 σ.e, .int .u32 σ.f, .int .u32 σ.g, .int .u32 σ.h], .string (s.extract (64 * k) (64 * k + 64))] W fun e w' =>
          e = .returned (.agg #[.int .u32 τ.a, .int .u32 τ.b, .int .u32 τ.c, .int .u32 τ.d, .int .u32 τ.e, .int .u32 τ.f, .int .u32 τ.g, .int .u32 τ.h]) ∧ Below W.heap.size W w') := fun W hW => by
        rw [hp]; exact mix_call σ p W hp64 hW _ hpl τ hτ
      obtain ⟨x0, x1, x2, x3, x4, x5, x6, x7⟩ := cells8 H.out.box
      have hd : Hid (DTab wr.drew) := (HT.out.below H.out.below).below ((Below.refl _ wr).drew)
      clear hσ hτ hp hp64 hpl
      have hk1 : 64 * (k : Int) + 64 ≤ s.size := by omega
      have hk0 : (0 : Int) ≤ 64 * (k : Int) := by omega
      have hk01 : 64 * (k : Int) ≤ 64 * (k : Int) + 64 := by omega
      have hk2 : (0 : Int) ≤ 64 * (k : Int) + 64 := by omega
      have hwr : IntKind.i64.wrap (64 * (k : Int) + 64) = 64 * (k : Int) + 64 := IntWalk.i64_in _ (by omega)
      have ht1 : (64 * (k : Int)).toNat = 64 * k := by omega
      have ht2 : (64 * (k : Int) + 64).toNat = 64 * k + 64 := by omega
      go_wp2_with fail
      go_region_with (go_at_call 28; refine (HMX.out _ ?hA).mono ?_; (case hA => exact hd.out); rintro e w1 ⟨rfl, b1⟩; have H1 : Hid (HAt w.heap.size σ w w1) := H.out.drew.step b1 rfl; obtain ⟨z0, z1, z2, z3, z4, z5, z6, z7⟩ := cells8 H1.out.box; have f0 := Lib.frozen_of_heap H1.out.box 0; have f1 := Lib.frozen_of_heap H1.out.box 1; have f2 := Lib.frozen_of_heap H1.out.box 2; have f3 := Lib.frozen_of_heap H1.out.box 3; have f4 := Lib.frozen_of_heap H1.out.box 4; have f5 := Lib.frozen_of_heap H1.out.box 5; have f6 := Lib.frozen_of_heap H1.out.box 6; have f7 := Lib.frozen_of_heap H1.out.box 7; clear b1)
      all_goals
        clear hwr ht1 ht2
        go_wp2_with fail
        go_roundw
      all_goals first
        | (simp [intOf]; omega)
        | (refine ⟨k + 1, by omega, by go_num, ?_⟩; rw [HN.out]; exact H1.out.set τ)
    · have hkq : k = q := by omega
      obtain ⟨v1, hv1⟩ : ∃ v, blocks f0S s.data.toList q = v := ⟨_, rfl⟩
      rw [hkq, hv1] at H
      have hnq : ¬ 64 * (k : Int) < 64 * (q : Int) := by omega
      have HV1 := Lib.hid hv1
      obtain ⟨r, hr⟩ : ∃ r, s.extract (64 * q) s.size = r := ⟨_, rfl⟩
      have hr64 : r.size < 64 := by rw [← hr]; simp; omega
      have hrl : r.data.toList = s.data.toList.drop (64 * q) := by
        rw [← hr, ByteArray.data_extract, Array.toList_extract, List.extract_eq_take_drop, List.take_of_length_le (by rw [List.length_drop, HSL.out]; omega)]
      obtain ⟨EL, hEL⟩ : ∃ E, endOf s.data.toList = E := ⟨_, rfl⟩
      obtain ⟨EE, hEE⟩ : ∃ E : ByteArray, (⟨EL.toArray⟩ : ByteArray) = E := ⟨_, rfl⟩
      have HEL : Hid (EE.data.toList = EL) := by show _ = _; rw [← hEE]
      have heq : endL r.data.toList s.size = EL := by rw [← hEL, endOf, hrl, HSL.out, HQ.out]
      have hlen := endL_len r.data.toList s.size (by simpa using hr64)
      rw [heq] at hlen
      have hEs : EE.size = EL.length := by
        have : EE.data.toList.length = EE.size := by simp
        rw [← this, HEL.out]
      have HEN : Hid (∀ W, Calls Tryd.prog 29 #[.string (s.extract (64 * q) s.size), .int .i64 s.size] W fun e w' => e = .returned (.string EE) ∧ Below W.heap.size W w') := fun W => by
        rw [hr, ← hEE, ← heq]
        exact ending_any r s.size W hr64 hs
      obtain ⟨r2, hr2⟩ : ∃ r2, EE.size / 64 = r2 := ⟨_, rfl⟩
      have hE64 : EE.size = 64 * r2 := by omega
      have HR2 : Hid (EL.length / 64 = r2) := by show _ = _; rw [← hEs, hr2]
      have HELS := Lib.hid hEL
      have hr2b : r2 ≤ 2 := by omega
      have hE1 : (EE.size : Int) ≤ 64 * (r2 : Int) := by omega
      have hE2 : 64 * (r2 : Int) ≤ (EE.size : Int) := by omega
      have HE64 := Lib.hid hE64
      have hq0 : (0 : Int) ≤ 64 * (q : Int) := by omega
      have hq3 : 64 * (q : Int) ≤ s.size := by omega
      clear hlt hk hkq hv1 hr hr64 hrl hEL hEE heq hlen hEs hr2 hE64
      go_wp2_with fail
      refine (HEN.out _).mono ?_
      rintro e w2 ⟨rfl, b2⟩
      have H2 : Hid (HAt w.heap.size v1 w w2) := H.out.step b2 rfl
      clear b2 H
      go_wp2_with fail
      go_loopw [7] (fun i wr => ∃ k : Nat, k ≤ r2 ∧ i = .int .i64 (64 * (k : Int)) ∧ Hid (HAt w.heap.size (blocks v1 EL k) w wr)) (fun i _ => (64 * (r2 : Int) - intOf i).toNat)
      case atStart => exact ⟨0, Nat.zero_le _, rfl, H2⟩
      case round =>
        obtain ⟨k, hk, rfl, H⟩ := hrel
        by_cases hlt : k < r2
        · have hki : 64 * (k : Int) < 64 * (r2 : Int) := by omega
          obtain ⟨σ, hσ⟩ : ∃ σ, blocks v1 EL k = σ := ⟨_, rfl⟩
          obtain ⟨τ, hτ⟩ : ∃ τ, mixS σ (blk EL k) = τ := ⟨_, rfl⟩
          have HN : Hid (blocks v1 EL (k + 1) = τ) := by show _ = _; rw [blocks, hσ, hτ]
          rw [hσ] at H
          obtain ⟨p, hp⟩ : ∃ p, EE.extract (64 * k) (64 * k + 64) = p := ⟨_, rfl⟩
          have hp64 : p.size = 64 := by rw [← hp]; simp; omega
          have hpl : p.data.toList = blk EL k := by rw [← hp, ← HEL.out]; exact blk_ext EE k
          have HMX : Hid (∀ W, DTab W → Calls Tryd.prog 28 #[.agg #[.int .u32 σ.a, .int .u32 σ.b, .int .u32 σ.c, .int .u32 σ.d, .int .u32 σ.e, .int .u32 σ.f, .int .u32 σ.g, .int .u32 σ.h], .string (EE.extract (64 * k) (64 * k + 64))] W fun e w' =>
              e = .returned (.agg #[.int .u32 τ.a, .int .u32 τ.b, .int .u32 τ.c, .int .u32 τ.d, .int .u32 τ.e, .int .u32 τ.f, .int .u32 τ.g, .int .u32 τ.h]) ∧ Below W.heap.size W w') := fun W hW => by
            rw [hp]; exact mix_call σ p W hp64 hW _ hpl τ hτ
          obtain ⟨x0, x1, x2, x3, x4, x5, x6, x7⟩ := cells8 H.out.box
          have hd : Hid (DTab wr.drew) := (HT.out.below H.out.below).below ((Below.refl _ wr).drew)
          clear hσ hτ hp hp64 hpl
          have hk1 : 64 * (k : Int) + 64 ≤ EE.size := by omega
          have hk0 : (0 : Int) ≤ 64 * (k : Int) := by omega
          have hk01 : 64 * (k : Int) ≤ 64 * (k : Int) + 64 := by omega
          have hk2 : (0 : Int) ≤ 64 * (k : Int) + 64 := by omega
          have hwr : IntKind.i64.wrap (64 * (k : Int) + 64) = 64 * (k : Int) + 64 := IntWalk.i64_in _ (by omega)
          have ht1 : (64 * (k : Int)).toNat = 64 * k := by omega
          have ht2 : (64 * (k : Int) + 64).toNat = 64 * k + 64 := by omega
          go_wp2_with fail
          go_region_with (go_at_call 28; refine (HMX.out _ ?hA).mono ?_; (case hA => exact hd.out); rintro e w1 ⟨rfl, b1⟩; have H1 : Hid (HAt w.heap.size σ w w1) := H.out.drew.step b1 rfl; obtain ⟨z0, z1, z2, z3, z4, z5, z6, z7⟩ := cells8 H1.out.box; have f0 := Lib.frozen_of_heap H1.out.box 0; have f1 := Lib.frozen_of_heap H1.out.box 1; have f2 := Lib.frozen_of_heap H1.out.box 2; have f3 := Lib.frozen_of_heap H1.out.box 3; have f4 := Lib.frozen_of_heap H1.out.box 4; have f5 := Lib.frozen_of_heap H1.out.box 5; have f6 := Lib.frozen_of_heap H1.out.box 6; have f7 := Lib.frozen_of_heap H1.out.box 7; clear b1)
          all_goals
            clear hwr ht1 ht2
            go_wp2_with fail
            go_roundw
          all_goals first
            | (simp [intOf]; omega)
            | (refine ⟨k + 1, by omega, by go_num, ?_⟩; rw [HN.out]; exact H1.out.set τ)
        · have hkr : k = r2 := by omega
          obtain ⟨v2, hv2⟩ : ∃ v, blocks v1 EL r2 = v := ⟨_, rfl⟩
          rw [hkr, hv2] at H
          have hnr : ¬ 64 * (k : Int) < (EE.size : Int) := by omega
          have HV2 := Lib.hid hv2
          obtain ⟨x0, x1, x2, x3, x4, x5, x6, x7⟩ := cells8 H.out.box
          have hlb : w.heap.size < wr.heap.size := (Array.getElem?_eq_some_iff.1 H.out.box).1
          clear hlt hk hkr hv2
          go_wp2_with fail
          have HW := Lib.hid H.out.below
          obtain ⟨wq, hwq⟩ : ∃ wq, wq = wr := ⟨_, rfl⟩
          rw [← hwq]
          rw [← hwq] at HW hlb
          have hI0 : Hid (IsB wq.heap.size wq.heap.size (Lib.byteCells (outL v2 0)) (wq.alloc (.cells #[.pointer none, .slice none 0 0] 49))) := Lib.IsBuilderF.of (Lib.fresh_isBuilder 49 5 wq)
          have hb0 : Hid (Below wq.heap.size wq (wq.alloc (.cells #[.pointer none, .slice none 0 0] 49))) := (Below.refl _ wq).alloc (Nat.le_refl _) _
          clear hwq x0 x1 x2 x3 x4 x5 x6 x7 H
          go_loopw [51] (fun t wx => ∃ j : Nat, j ≤ 8 ∧ t = .int .i64 j ∧ IsB wq.heap.size wq.heap.size (Lib.byteCells (outL v2 j)) wx ∧ Below wq.heap.size wq wx) (fun t _ => 8 - (intOf t).toNat)
          case atStart => exact ⟨0, Nat.zero_le _, rfl, hI0.out, hb0.out⟩
          case round =>
            obtain ⟨j, hj, rfl, hI, hb⟩ := hrel
            by_cases hlt : j < 8
            · have hji : (j : Int) < 8 := by omega
              obtain ⟨X, hX⟩ : ∃ X, v2.list.getD j 0 = X := ⟨_, rfl⟩
              have HIX : ∀ W : World, (Instr.index 44 (.agg #[.int .u32 v2.a, .int .u32 v2.b, .int .u32 v2.c, .int .u32 v2.d, .int .u32 v2.e, .int .u32 v2.f, .int .u32 v2.g, .int .u32 v2.h]) (.int .i64 j)).run Tryd.prog W = .ok (.int .u32 X) W := by
                intro W
                rw [← hX]
                rcases (by omega : j = 0 ∨ j = 1 ∨ j = 2 ∨ j = 3 ∨ j = 4 ∨ j = 5 ∨ j = 6 ∨ j = 7) with rfl | rfl | rfl | rfl | rfl | rfl | rfl | rfl <;> rfl
              have HO : Hid (outL v2 (j + 1) = outL v2 j ++ bytesBy X divs4) := by
                show _ = _
                unfold outL
                have hl : j < v2.list.length := hlt
                rw [List.take_add_one, List.getElem?_eq_getElem hl, List.flatMap_append]
                have : v2.list[j] = X := by rw [← hX]; simp [List.getD, hl]
                rw [this]
                simp
              have hol : (outL v2 j).length ≤ 32 := outL_len v2 j
              clear hX hlt
              obtain ⟨O, hO⟩ : ∃ O, outL v2 j = O := ⟨_, rfl⟩
              rw [hO] at hI HO hol
              clear hO
              go_wp2_with fail
              go_loopw [11] (fun sh wx => ∃ i : Nat, i ≤ 4 ∧ sh = .int .i64 (24 - 8 * (i : Int)) ∧ IsB wq.heap.size wq.heap.size (Lib.byteCells (O ++ (bytesBy X divs4).take i)) wx ∧ Below wq.heap.size wq wx) (fun sh _ => (intOf sh + 8).toNat)
              case atStart => exact ⟨0, Nat.zero_le _, rfl, by rw [List.take_zero, List.append_nil]; exact hI, hb⟩
              case round =>
                obtain ⟨i, hi, rfl, hI, hb⟩ := hrel
                have hsz := hb.size
                by_cases hlt : i < 4
                · have hlen : (Lib.byteCells (O ++ (bytesBy X divs4).take i)).length + 1 ≤ 140737488355328 := by
                    rw [Lib.byteCells_length, List.length_append]
                    have := List.length_take_le i (bytesBy X divs4)
                    omega
                  rcases (by omega : i = 0 ∨ i = 1 ∨ i = 2 ∨ i = 3) with rfl | rfl | rfl | rfl
                  all_goals
                    go_wp2_with fail
                    refine (writeByte_k wq.heap.size wq.heap.size _ _ _ hI hlen hsz).mono ?_
                    rintro e w4 ⟨rfl, h4, b4, _⟩
                    go_wp2_with fail
                    go_roundw
                  all_goals first
                    | (simp [intOf]; done)
                    | (simp [intOf]; omega)
                    | (refine ⟨1, by omega, by go_num, ?_, hb.trans b4⟩; have e := cells_bI (O ++ (bytesBy X divs4).take 0) (X / 16777216); rw [List.append_assoc] at e; exact e.symm ▸ h4)
                    | (refine ⟨2, by omega, by go_num, ?_, hb.trans b4⟩; have e := cells_bI (O ++ (bytesBy X divs4).take 1) (X / 65536); rw [List.append_assoc] at e; exact e.symm ▸ h4)
                    | (refine ⟨3, by omega, by go_num, ?_, hb.trans b4⟩; have e := cells_bI (O ++ (bytesBy X divs4).take 2) (X / 256); rw [List.append_assoc] at e; exact e.symm ▸ h4)
                    | (refine ⟨4, by omega, by first | go_num | rfl, ?_, hb.trans b4⟩; have e := cells_bI (O ++ (bytesBy X divs4).take 3) (X / 1); rw [List.append_assoc] at e; have h4' : IsB wq.heap.size wq.heap.size (Lib.byteCells (O ++ (bytesBy X divs4).take 3) ++ [.int .u8 (X / 1 % 256)]) w4 := (by rw [Int.ediv_one]; exact h4); exact e.symm ▸ h4')
                · have hi4 : i = 4 := by omega
                  rw [hi4] at hI
                  have hni : ¬ (0 : Int) ≤ 24 - 8 * (i : Int) := by omega
                  have htk : (bytesBy X divs4).take 4 = bytesBy X divs4 := rfl
                  rw [htk, ← HO.out] at hI
                  clear hlt hi hi4 htk
                  go_wp2_with fail
                  go_roundw
                  case rel => exact ⟨j + 1, by omega, by go_num, hI, hb⟩
                  case measure => simp [intOf]; omega
            · have hj8 : j = 8 := by omega
              rw [hj8] at hI
              have hnj : ¬ (j : Int) < 8 := by omega
              have hsz := hb.size
              have HSUM : Hid (sumL s.data.toList = outL v2 8) := by
                show _ = _
                unfold sumL
                rw [HELS.out, HR2.out, HSL.out, HQ.out, HV1.out, HV2.out]
              clear hlt hj hj8
              go_wp2_with fail
              refine (Tryd.Builder_String_any_k wq.heap.size wq.heap.size _ _ hI hsz).mono ?_
              rintro e w4 ⟨rfl, _, b4, _⟩
              go_wp2_with fail
              go_ret
              exact ⟨by rw [HSUM.out]; rfl, HW.out.trans ((hb.trans b4).mono (by omega))⟩
end Go.Proofs.YtnlhhjokaekdhaaDoor
