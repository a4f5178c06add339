/- longs.schedule. -/
import Derived.Test.YtnlhhjokaekdhaaDoorSha5
import Derived.Test.YtnlhhjokaekdhaaDoorArr
import Derived.Below
import Derived.ChangeAlike
import Derived.RegionTactic
import Derived.IntWalk
import Derived.Deep.Cut
set_option linter.unusedVariables false
set_option linter.unusedSimpArgs false
namespace Go.Proofs.YtnlhhjokaekdhaaDoor.L5
open Go.RowKit

/-- The loops' memory: the row's cells, the result's. -/
structure SchAt (B : Nat) (f : Nat → Int) (w wr : World) : Prop where
  blk : wr.heap[B + 1]? = some (.cells (rowF f) 95 (0, 0))
  res : wr.heap[B]? = some (.cells Tryd.zeroCells95 95 (0, 0))
  size : B + 2 ≤ wr.heap.size
  below : Below B w wr
theorem SchAt.step {B : Nat} {f : Nat → Int} {w wr : World} (h : SchAt B f w wr) (t : Nat) (x : Int) : SchAt B (fun u => if u = t then x else f u) w (wr.setCell ⟨B + 1, t, none⟩ (.int .u64 x)).drew := by
  refine ⟨?_, ?_, by show B + 2 ≤ (wr.setCell _ _).heap.size; simp [World.setCell]; exact h.size, (h.below.setCell (by show B ≤ B + 1; omega) _).drew⟩
  · show (wr.setCell _ _).heap[B + 1]? = _
    rw [heap_setA h.blk, rowF_set]
  · show (wr.setCell _ _).heap[B]? = _
    rw [Below.heap_setCell wr _ _ B (by show B ≠ B + 1; omega)]
    exact h.res
theorem SchAt.drew {B : Nat} {f : Nat → Int} {w wr : World} (h : SchAt B f w wr) : SchAt B f w wr.drew := ⟨h.blk, h.res, h.size, h.below.drew⟩
theorem SchAt.congr {B : Nat} {f g : Nat → Int} {w wr : World} (h : SchAt B f w wr) (e : ∀ t, t < 80 → f t = g t) : SchAt B g w wr := ⟨by rw [← rowF_congr e]; exact h.blk, h.res, h.size, h.below⟩
theorem SchAt.cell {B : Nat} {f : Nat → Int} {w wr : World} (h : SchAt B f w wr) {t : Nat} (ht : t < 80) : wr.cell? ⟨B + 1, t, none⟩ = some (.int .u64 (f t)) := by rw [Lib.cell_of_heap h.blk, rowF_get f ht]
theorem info80 : (Tryd.prog.info? 95).map (·.size) = some 80 := by kernel_rfl
/-- The row behind i bytes. -/
def atF (l : List UInt8) (i t : Nat) : Int := part l t (min 8 (i - 8 * t))
theorem atF_next (l : List UInt8) (i : Nat) (t : Nat) : atF l (i + 1) t = if t = i / 8 then or64 (w64 (atF l i (i / 8) * 256)) (w64 (byteI l i)) else atF l i t := by
  unfold atF
  by_cases e : t = i / 8
  · rw [if_pos e, e]
    have h1 : min 8 (i + 1 - 8 * (i / 8)) = i % 8 + 1 := by omega
    have h2 : min 8 (i - 8 * (i / 8)) = i % 8 := by omega
    rw [h1, h2, part]
    have h3 : 8 * (i / 8) + i % 8 = i := by omega
    rw [h3]
  · rw [if_neg e]
    congr 1
    omega
theorem atF_end (l : List UInt8) (t : Nat) : atF l 128 t = (sch l 16).getD t 0 := by
  unfold atF
  by_cases h : t < 16
  · rw [sch_get l 16 t (by omega) h]
    congr 1
    omega
  · rw [sch_past l 16 t (by omega)]
    have : min 8 (128 - 8 * t) = 0 := by omega
    rw [this, part]
theorem sch_next (l : List UInt8) (k : Nat) (x : Int) (h : sch l (k + 1) = sch l k ++ [x]) (t : Nat) : (sch l (k + 1)).getD t 0 = if t = k then x else (sch l k).getD t 0 := by
  rw [h, getD_snoc, sch_len]

set_option maxHeartbeats 3200000 in
set_option maxRecDepth 100000 in
theorem schedule_any (s : ByteArray) (w : World) (hs : s.size = 128) :
    Calls Tryd.prog 76 #[.string s] w fun e w' => e = .returned (.agg ((sch s.data.toList 80).map (Value.int .u64)).toArray) ∧ Below w.heap.size w w' := by
  have hs1 : (128 : Int) ≤ s.size := by omega
  have hs2 : (s.size : Int) ≤ 128 := by omega
  have HS := Lib.hid hs
  clear hs
  obtain ⟨W0, hW0⟩ : ∃ W0, W0 = (w.alloc (.cells Tryd.zeroCells95 95)).alloc (.cells Tryd.zeroCells95 95) := ⟨_, rfl⟩
  have H0 : Hid (SchAt w.heap.size (atF s.data.toList 0) w W0) := by
    refine SchAt.congr (f := fun _ => 0) ⟨?_, ?_, by rw [hW0]; simp, by rw [hW0]; exact ((Below.refl _ w).alloc (Nat.le_refl _) _).alloc (by simp) _⟩ (fun t _ => by unfold atF; rw [Nat.zero_sub]; rfl)
    · rw [hW0, row_zero]
      have := heap_alloc_new (w.alloc (.cells Tryd.zeroCells95 95)) (.cells Tryd.zeroCells95 95)
      simpa using this
    · rw [hW0, Below.heap_alloc _ _ _ (by simp)]
      exact heap_alloc_new w _
  go_enter Tryd.func76, Tryd.ntmps76
  go_wp2_with fail
  rw [← hW0]
  clear hW0
  go_loopw [10] (fun i wr => ∃ k : Nat, k ≤ 128 ∧ i = .int .i64 k ∧ Hid (SchAt w.heap.size (atF s.data.toList k) w wr)) (fun i _ => 128 - (intOf i).toNat)
  case atStart => exact ⟨0, Nat.zero_le _, rfl, H0⟩
  case round =>
    obtain ⟨k, hk, rfl, H⟩ := hrel
    by_cases hlt : k < 128
    · have hki : (k : Int) < 128 := by omega
      have hkl : k < s.size := by omega
      have hkl' : (k : Int) < s.size := by omega
      obtain ⟨c, hc⟩ : ∃ c, s[k] = c := ⟨_, rfl⟩
      have hcb : byteI s.data.toList k = (c.toNat : Int) := by
        unfold byteI
        rw [List.getD_eq_getElem?_getD, List.getElem?_eq_getElem (by simpa using hkl), ← hc]
        rfl
      obtain ⟨d, hd⟩ : ∃ d, k / 8 = d := ⟨_, rfl⟩
      have hd16 : d < 16 := by omega
      obtain ⟨X, hX⟩ : ∃ X, atF s.data.toList k d = X := ⟨_, rfl⟩
      have HX : Hid (∀ wq, SchAt w.heap.size (fun u => if u = d then or64 (w64 (X * 256)) (w64 c.toNat) else atF s.data.toList k u) w wq → SchAt w.heap.size (atF s.data.toList (k + 1)) w wq) := fun wq hq => hq.congr fun t _ => by
        rw [atF_next, hd, hX, hcb]
      have cd : wr.cell? ⟨w.heap.size + 1, d, none⟩ = some (.int .u64 X) := by rw [H.out.cell (by omega), hX]
      have fd := Lib.frozen_of_heap H.out.blk d
      have HST := fun x => Lib.hid (H.out.step d x)
      have HST2 := Lib.hid HST
      have hdi : (k : Int) / 8 = (d : Int) := by omega
      have hdi2 : (d : Int) < 80 := by omega
      have hdn : ((k : Int) / 8).toNat = d := by omega
      clear hX hcb HST hd
      go_wp2_with fail
      go_region
      all_goals
        go_wp2_with fail
        go_roundw
        case rel => exact ⟨k + 1, by omega, by go_num, HX.out _ (HST2.out _).out⟩
        case measure => simp [intOf]; omega
    · have hk128 : k = 128 := by omega
      rw [hk128] at H
      have H16 : Hid (SchAt w.heap.size (fun t => (sch s.data.toList 16).getD t 0) w wr) := H.out.congr fun t _ => atF_end _ t
      have hn128 : ¬ (k : Int) < 128 := by omega
      clear hlt hk hk128 H
      go_wp2_with fail
      go_loopw [5] (fun i wr => ∃ k : Nat, 16 ≤ k ∧ k ≤ 80 ∧ i = .int .i64 k ∧ Hid (SchAt w.heap.size (fun t => (sch s.data.toList k).getD t 0) w wr)) (fun i _ => 80 - (intOf i).toNat)
      case atStart => exact ⟨16, Nat.le_refl _, by omega, rfl, H16⟩
      case round =>
        obtain ⟨k, hk0, hk, rfl, H⟩ := hrel
        by_cases hlt : k < 80
        · have hki : (k : Int) < 80 := by omega
          have hk0i : (16 : Int) ≤ k := by omega
          obtain ⟨L, hL⟩ : ∃ L, sch s.data.toList k = L := ⟨_, rfl⟩
          have hlen : L.length = k := by rw [← hL]; exact sch_len _ _
          rw [hL] at H
          obtain ⟨a16, h16⟩ : ∃ a, L.getD (k - 16) 0 = a := ⟨_, rfl⟩
          obtain ⟨a15, h15⟩ : ∃ a, L.getD (k - 15) 0 = a := ⟨_, rfl⟩
          obtain ⟨a7, h7⟩ : ∃ a, L.getD (k - 7) 0 = a := ⟨_, rfl⟩
          obtain ⟨a2, h2⟩ : ∃ a, L.getD (k - 2) 0 = a := ⟨_, rfl⟩
          have HX0 : sch s.data.toList (k + 1) = L ++ [w64 (w64 (w64 (a16 + sig0 a15) + a7) + sig1 a2)] := by
            rw [sch, if_neg (by omega), schN, hL, h16, h15, h7, h2]
          have HX : Hid (∀ wq, SchAt w.heap.size (fun u => if u = k then w64 (w64 (w64 (a16 + sig0 a15) + a7) + sig1 a2) else L.getD u 0) w wq → SchAt w.heap.size (fun t => (sch s.data.toList (k + 1)).getD t 0) w wq) := fun wq hq => hq.congr fun t _ => by
            rw [HX0, getD_snoc, hlen]
          have c16 : wr.cell? ⟨w.heap.size + 1, k - 16, none⟩ = some (.int .u64 a16) := by rw [H.out.cell (by omega), h16]
          have c15 : wr.cell? ⟨w.heap.size + 1, k - 15, none⟩ = some (.int .u64 a15) := by rw [H.out.cell (by omega), h15]
          have c7 : wr.cell? ⟨w.heap.size + 1, k - 7, none⟩ = some (.int .u64 a7) := by rw [H.out.cell (by omega), h7]
          have c2 : wr.cell? ⟨w.heap.size + 1, k - 2, none⟩ = some (.int .u64 a2) := by rw [H.out.cell (by omega), h2]
          have c0 : wr.cell? ⟨w.heap.size + 1, k, none⟩ = some (.int .u64 (L.getD k 0)) := H.out.cell (by omega)
          have f0 := Lib.frozen_of_heap H.out.blk k
          have HST := fun x => Lib.hid (H.out.step k x)
          have HST2 := Lib.hid HST
          have b16 : (16 : Int) ≤ k := hk0i
          have b15 : (15 : Int) ≤ k := by omega
          have b7 : (7 : Int) ≤ k := by omega
          have b2 : (2 : Int) ≤ k := by omega
          have e16 : (k : Int) - 16 < 80 := by omega
          have e15 : (k : Int) - 15 < 80 := by omega
          have e7 : (k : Int) - 7 < 80 := by omega
          have e2 : (k : Int) - 2 < 80 := by omega
          clear hL hlen h16 h15 h7 h2 HST HX0
          go_wp2_with fail
          go_region
          go_wp2_with (go_at_call 77; refine (right_k _ _ _ (by decide)).mono ?_; rintro e w1 ⟨rfl, rfl⟩)
          go_region
          all_goals
            go_wp2_with fail
            go_roundw
            case rel => exact ⟨k + 1, by omega, by omega, by go_num, HX.out _ (HST2.out _).out.drew⟩
            case measure => simp [intOf]; omega
        · have hk80 : k = 80 := by omega
          rw [hk80] at H
          have hn80 : ¬ (k : Int) < 80 := by omega
          clear hlt hk hk0 hk80
          have HB := H.out.blk
          have hl80 := sch_len s.data.toList 80
          rw [rowF_list hl80] at HB
          obtain ⟨L, hL⟩ : ∃ L, (sch s.data.toList 80).map (Value.int .u64) = L := ⟨_, rfl⟩
          rw [hL] at HB
          have hLl : L.length = 80 := by rw [← hL, List.length_map, hl80]
          have HBH := Lib.hid HB
          have HL1 : Hid (∀ v ∈ L, v.oneCell' = true) := by
            intro v hv
            rw [← hL] at hv
            obtain ⟨x, _, rfl⟩ := List.mem_map.1 hv
            rfl
          have HLL := Lib.hid hLl
          have HLE := Lib.hid hL
          clear HB hl80 hL hLl
          have HI : Hid ((Tryd.prog.info? 95).map (·.size) = some L.toArray.size) := by show _ = _; rw [List.size_toArray, HLL.out]; exact info80
          have HTH : Hid (wr.there w.heap.size 0 L.toArray.size) := by
            show World.there _ _ _ _
            have e : L.toArray.size = 80 := by rw [List.size_toArray]; exact HLL.out
            rw [e]
            have := there_of H.out.res
            rw [← row_zero, rowF_size] at this
            exact this
          have HONE : Hid (L.toArray.all (·.oneCell') = true) := all_oneCell_toArray HL1.out
          go_wp2_with (first
            | (with_reducible refine wpList_load_row rfl 95 (.tmp 3) rfl (w.heap.size + 1) rfl 95 L.toArray (0, 0) _ HBH.out Tryd.underlying95 rfl HI.out ?_)
            | (with_reducible refine wpList_store_mid rfl 95 (.tmp 2) (.tmp 70) rfl w.heap.size 0 L.toArray rfl rfl HTH.out HI.out HONE.out ?_))
          refine bodyPost_ret (v := .agg L.toArray) ?_ rfl ?_
          · refine results_cell_row rfl _ _ w.heap.size 95 L.toArray (0, 0) _ rfl ?_ Tryd.underlying95 rfl HI.out
            exact heap_setAll H.out.res L (by rw [HLL.out, ← row_zero, rowF_size])
          · exact ⟨by rw [HLE.out], below_setCells _ _ _ H.out.below (Nat.le_refl _)⟩
end Go.Proofs.YtnlhhjokaekdhaaDoor.L5
