/- digest.schedule. -/
import Derived.Test.YtnlhhjokaekdhaaDoorSha
import Derived.Test.YtnlhhjokaekdhaaDoorArr
import Derived.Below
import Derived.ChangeAlike
import Derived.RegionTactic
import Derived.IntWalk
import Derived.Deep.Cut
set_option linter.unusedVariables false
set_option linter.unusedSimpArgs false
namespace Go.Proofs.YtnlhhjokaekdhaaDoor
open Go.RowKit

def z64 : Array Value := #[Value.int .u32 0, Value.int .u32 0, Value.int .u32 0, Value.int .u32 0, Value.int .u32 0, Value.int .u32 0, Value.int .u32 0, Value.int .u32 0, Value.int .u32 0, Value.int .u32 0, Value.int .u32 0, Value.int .u32 0, Value.int .u32 0, Value.int .u32 0, Value.int .u32 0, Value.int .u32 0, Value.int .u32 0, Value.int .u32 0, Value.int .u32 0, Value.int .u32 0, Value.int .u32 0, Value.int .u32 0, Value.int .u32 0, Value.int .u32 0, Value.int .u32 0, Value.int .u32 0, Value.int .u32 0, Value.int .u32 0, Value.int .u32 0, Value.int .u32 0, Value.int .u32 0, Value.int .u32 0, Value.int .u32 0, Value.int .u32 0, Value.int .u32 0, Value.int .u32 0, Value.int .u32 0, Value.int .u32 0, Value.int .u32 0, Value.int .u32 0, Value.int .u32 0, Value.int .u32 0, Value.int .u32 0, Value.int .u32 0, Value.int .u32 0, Value.int .u32 0, Value.int .u32 0, Value.int .u32 0, Value.int .u32 0, Value.int .u32 0, Value.int .u32 0, Value.int .u32 0, Value.int .u32 0, Value.int .u32 0, Value.int .u32 0, Value.int .u32 0, Value.int .u32 0, Value.int .u32 0, Value.int .u32 0, Value.int .u32 0, Value.int .u32 0, Value.int .u32 0, Value.int .u32 0, Value.int .u32 0]
theorem pad_nil : pad [] = z64 := by rfl
theorem pad_zero {ws : List Int} {i : Nat} (h : ws.length ≤ i) (h2 : i < 64) : (pad ws)[i]? = some (Value.int .u32 0) := by
  unfold pad
  rw [List.getElem?_toArray, List.getElem?_append_right (by simpa using h), List.getElem?_replicate, if_pos (by simp; omega)]
theorem ext_byte {s p : ByteArray} {a b j : Nat} (hp : s.extract a b = p) (hj : j < p.size) : ((p[j].toNat : Nat) : Int) = byteI s.data.toList (a + j) := by
  subst hp
  unfold byteI
  rw [ByteArray.getElem_extract]
  have hlt : a + j < s.size := by simp at hj; omega
  rw [List.getD_eq_getElem?_getD, List.getElem?_eq_getElem (by simpa using hlt)]
  rfl
/-- The loops' memory: the row's cells, the result's. -/
structure SchAt (B : Nat) (ws : List Int) (w wr : World) : Prop where
  blk : wr.heap[B + 1]? = some (.cells (pad ws) 74 (0, 0))
  res : wr.heap[B]? = some (.cells z64 74 (0, 0))
  size : B + 2 ≤ wr.heap.size
  below : Below B w wr
theorem SchAt.step {B : Nat} {ws : List Int} {w wr : World} (h : SchAt B ws w wr) (hl : ws.length < 64) (x : Int) : SchAt B (ws ++ [x]) w (wr.setCell ⟨B + 1, ws.length, none⟩ (.int .u32 x)).drew := by
  refine ⟨?_, ?_, by show B + 2 ≤ (wr.setCell _ _).heap.size; simp [World.setCell]; exact h.size, (h.below.setCell (by show B ≤ B + 1; omega) _).drew⟩
  · show (wr.setCell _ _).heap[B + 1]? = _
    rw [heap_setA h.blk, pad_set hl]
  · show (wr.setCell _ _).heap[B]? = _
    rw [Below.heap_setCell wr _ _ B (by show B ≠ B + 1; omega)]
    exact h.res
theorem SchAt.drew {B : Nat} {ws : List Int} {w wr : World} (h : SchAt B ws w wr) : SchAt B ws w wr.drew := ⟨h.blk, h.res, h.size, h.below.drew⟩
theorem info64 : (Tryd.prog.info? 74).map (·.size) = some 64 := by kernel_rfl

set_option maxHeartbeats 3200000 in
set_option maxRecDepth 100000 in
theorem schedule_any (s : ByteArray) (w : World) (hs : s.size = 64) :
    Calls Tryd.prog 51 #[.string s] w fun e w' => e = .returned (.agg ((sch s.data.toList 64).map (Value.int .u32)).toArray) ∧ Below w.heap.size w w' := by
  have hs1 : (64 : Int) ≤ s.size := by omega
  have hs2 : (s.size : Int) ≤ 64 := by omega
  have HS := Lib.hid hs
  clear hs
  obtain ⟨W0, hW0⟩ : ∃ W0, W0 = (w.alloc (.cells z64 74)).alloc (.cells z64 74) := ⟨_, rfl⟩
  have H0 : Hid (SchAt w.heap.size [] w W0) := by
    refine ⟨?_, ?_, by rw [hW0]; simp, by rw [hW0]; exact ((Below.refl _ w).alloc (Nat.le_refl _) _).alloc (by simp) _⟩
    · rw [hW0, pad_nil]
      have := heap_alloc_new (w.alloc (.cells z64 74)) (.cells z64 74)
      simpa using this
    · rw [hW0, Below.heap_alloc _ _ _ (by simp)]
      exact heap_alloc_new w _
  unfold z64 at hW0
  go_enter Tryd.func51, Tryd.ntmps51
  go_wp2_with fail
  rw [← hW0]
  clear hW0
  go_loopw [11] (fun i wr => ∃ k : Nat, k ≤ 16 ∧ i = .int .i64 k ∧ Hid (SchAt w.heap.size (sch s.data.toList k) w wr)) (fun i _ => 16 - (intOf i).toNat)
  case atStart => exact ⟨0, Nat.zero_le _, rfl, H0⟩
  case round =>
    obtain ⟨k, hk, rfl, H⟩ := hrel
    by_cases hlt : k < 16
    · have hki : (k : Int) < 16 := by omega
      go_wp2_with fail
      obtain ⟨p, hp⟩ : ∃ p, s.extract (4 * k) (4 * k + 4) = p := ⟨_, rfl⟩
      have hp4 : p.size = 4 := by rw [← hp]; simp; omega
      have p0 : 0 < p.size := by omega
      have p1 : 1 < p.size := by omega
      have p2 : 2 < p.size := by omega
      have p3 : 3 < p.size := by omega
      have i1 : (1 : Int) < p.size := by omega
      have i2 : (2 : Int) < p.size := by omega
      have i3 : (3 : Int) < p.size := by omega
      have HX : Hid (sch s.data.toList (k + 1) = sch s.data.toList k ++ [word4 p[0].toNat p[1].toNat p[2].toNat p[3].toNat]) := by
        show _ = _
        rw [sch, if_pos hlt, wd, ext_byte hp p0, ext_byte hp p1, ext_byte hp p2, ext_byte hp p3]
        rfl
      have hlen := sch_len s.data.toList k
      have c0 : wr.cell? ⟨w.heap.size + 1, k, none⟩ = some (.int .u32 0) := by rw [Lib.cell_of_heap H.out.blk, pad_zero (by omega) (by omega)]
      have f0 := Lib.frozen_of_heap H.out.blk k
      have HST := fun x => Lib.hid (H.out.step (by rw [hlen]; omega) x)
      rw [hlen] at HST
      have HST2 := Lib.hid HST
      rw [hp]
      clear hp hp4 hlen HST
      go_region
      all_goals
        go_wp2_with fail
        go_roundw
        case rel => exact ⟨k + 1, by omega, by go_num, by rw [HX.out]; exact (HST2.out _).out⟩
        case measure => simp [intOf]; omega
    · have hk16 : k = 16 := by omega
      rw [hk16] at H
      have hn16 : ¬ (k : Int) < 16 := by omega
      clear hlt hk hk16
      go_wp2_with fail
      go_loopw [6] (fun i wr => ∃ k : Nat, 16 ≤ k ∧ k ≤ 64 ∧ i = .int .i64 k ∧ Hid (SchAt w.heap.size (sch s.data.toList k) w wr)) (fun i _ => 64 - (intOf i).toNat)
      case atStart => exact ⟨16, Nat.le_refl _, by omega, rfl, H⟩
      case round =>
        obtain ⟨k, hk0, hk, rfl, H⟩ := hrel
        by_cases hlt : k < 64
        · have hki : (k : Int) < 64 := by omega
          have hk0i : (16 : Int) ≤ k := by omega
          obtain ⟨L, hL⟩ : ∃ L, sch s.data.toList k = L := ⟨_, rfl⟩
          have hlen : L.length = k := by rw [← hL]; exact sch_len _ _
          rw [hL] at H
          obtain ⟨a16, h16⟩ : ∃ a, L.getD (k - 16) 0 = a := ⟨_, rfl⟩
          obtain ⟨a15, h15⟩ : ∃ a, L.getD (k - 15) 0 = a := ⟨_, rfl⟩
          obtain ⟨a7, h7⟩ : ∃ a, L.getD (k - 7) 0 = a := ⟨_, rfl⟩
          obtain ⟨a2, h2⟩ : ∃ a, L.getD (k - 2) 0 = a := ⟨_, rfl⟩
          have HX : Hid (sch s.data.toList (k + 1) = L ++ [w32 (a16 + sig0 a15 + a7 + sig1 a2)]) := by
            show _ = _
            rw [sch, if_neg (by omega), schN, hL, h16, h15, h7, h2]
          have c16 : wr.cell? ⟨w.heap.size + 1, k - 16, none⟩ = some (.int .u32 a16) := by rw [Lib.cell_of_heap H.out.blk, pad_get (by omega), h16]
          have c15 : wr.cell? ⟨w.heap.size + 1, k - 15, none⟩ = some (.int .u32 a15) := by rw [Lib.cell_of_heap H.out.blk, pad_get (by omega), h15]
          have c7 : wr.cell? ⟨w.heap.size + 1, k - 7, none⟩ = some (.int .u32 a7) := by rw [Lib.cell_of_heap H.out.blk, pad_get (by omega), h7]
          have c2 : wr.cell? ⟨w.heap.size + 1, k - 2, none⟩ = some (.int .u32 a2) := by rw [Lib.cell_of_heap H.out.blk, pad_get (by omega), h2]
          have c0 : wr.cell? ⟨w.heap.size + 1, k, none⟩ = some (.int .u32 0) := by rw [Lib.cell_of_heap H.out.blk, pad_zero (by omega) (by omega)]
          have f0 := Lib.frozen_of_heap H.out.blk k
          have HST := fun x => Lib.hid (H.out.step (by rw [hlen]; omega) x)
          rw [hlen] at HST
          have HST2 := Lib.hid HST
          have b16 : (16 : Int) ≤ k := hk0i
          have b15 : (15 : Int) ≤ k := by omega
          have b7 : (7 : Int) ≤ k := by omega
          have b2 : (2 : Int) ≤ k := by omega
          have e16 : (k : Int) - 16 < 64 := by omega
          have e15 : (k : Int) - 15 < 64 := by omega
          have e7 : (k : Int) - 7 < 64 := by omega
          have e2 : (k : Int) - 2 < 64 := by omega
          clear hL hlen h16 h15 h7 h2 HST
          go_wp2_with fail
          go_region
          go_wp2_with fail
          refine (right7 _ _).mono ?_
          rintro e w1 ⟨rfl, rfl⟩
          go_wp2_with fail
          refine (right18 _ _).mono ?_
          rintro e w1 ⟨rfl, rfl⟩
          go_wp2_with fail
          refine (right17 _ _).mono ?_
          rintro e w1 ⟨rfl, rfl⟩
          go_wp2_with fail
          refine (right19 _ _).mono ?_
          rintro e w1 ⟨rfl, rfl⟩
          go_wp2_with fail
          go_region
          all_goals
            go_wp2_with fail
            go_roundw
            case rel => exact ⟨k + 1, by omega, by omega, by go_num, by rw [HX.out]; exact (HST2.out _).out.drew⟩
            case measure => simp [intOf]; omega
        · have hk64 : k = 64 := by omega
          subst hk64
          clear hlt hk hk0
          have HB := H.out.blk
          have hl64 := sch_len s.data.toList 64
          rw [pad_full hl64] at HB
          obtain ⟨L, hL⟩ : ∃ L, (sch s.data.toList 64).map (Value.int .u32) = L := ⟨_, rfl⟩
          rw [hL] at HB
          have hLl : L.length = 64 := by rw [← hL, List.length_map, hl64]
          have HBH := Lib.hid HB
          have HL1 : Hid (∀ v ∈ L, v.oneCell' = true) := by
            intro v hv
            rw [← hL] at hv
            obtain ⟨x, _, rfl⟩ := List.mem_map.1 hv
            rfl
          have HLL := Lib.hid hLl
          have HLE := Lib.hid hL
          clear HB hl64 hL hLl
          have HI : Hid ((Tryd.prog.info? 74).map (·.size) = some L.toArray.size) := by show _ = _; rw [List.size_toArray, HLL.out]; exact info64
          have HTH : Hid (wr.there w.heap.size 0 L.toArray.size) := by
            show World.there _ _ _ _
            have e : L.toArray.size = 64 := by rw [List.size_toArray]; exact HLL.out
            rw [e]
            exact there_of H.out.res
          have HONE : Hid (L.toArray.all (·.oneCell') = true) := all_oneCell_toArray HL1.out
          go_wp2_with (first
            | (with_reducible refine wpList_load_row rfl 74 (.tmp 3) rfl (w.heap.size + 1) rfl 74 L.toArray (0, 0) _ HBH.out Tryd.underlying74 rfl HI.out ?_)
            | (with_reducible refine wpList_store_mid rfl 74 (.tmp 2) (.tmp 85) rfl w.heap.size 0 L.toArray rfl rfl HTH.out HI.out HONE.out ?_))
          refine bodyPost_ret (v := .agg L.toArray) ?_ rfl ?_
          · refine results_cell_row rfl _ _ w.heap.size 74 L.toArray (0, 0) _ rfl ?_ Tryd.underlying74 rfl HI.out
            exact heap_setAll H.out.res L (by rw [HLL.out]; rfl)
          · exact ⟨by rw [HLE.out], below_setCells _ _ _ H.out.below (Nat.le_refl _)⟩
end Go.Proofs.YtnlhhjokaekdhaaDoor
