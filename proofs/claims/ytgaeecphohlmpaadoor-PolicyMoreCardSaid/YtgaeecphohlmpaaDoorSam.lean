/- lazaretlaw24.Same: two policies that are the same. -/
import Derived.Test.YtgaeecphohlmpaaDoorLNam
import Derived.Test.YtgaeecphohlmpaaDoorAsk1
import Derived.Deep.Cut
set_option linter.unusedVariables false
namespace Go.Proofs.YtgaeecphohlmpaaDoor
open Go.RowKit

set_option maxHeartbeats 3200000 in
set_option maxRecDepth 100000 in
theorem same_is (lva lvb : Value) (rep : Bool) (ds : List Dir) (w : World) (ha : DirsIn w lva ds) (hb : DirsIn w lvb ds) :
    Calls Tryd.prog 29 #[.agg #[lva, .bool rep], .agg #[lvb, .bool rep]] w fun e w' => e = .returned (.bool true) ∧ Below w.heap.size w w' := by
  obtain ⟨W2, hW2⟩ : ∃ W2, W2 = (w.alloc (.cells #[lva, .bool rep] 30)).alloc (.cells #[lvb, .bool rep] 30) := ⟨_, rfl⟩
  have hs2 : W2.heap.size = w.heap.size + 2 := by rw [hW2]; simp
  have hb2 : Below w.heap.size w W2 := by
    rw [hW2]
    exact ((Below.refl _ w).alloc (Nat.le_refl _) _).alloc (by simp) _
  have k1 : W2.heap[w.heap.size + 1]? = some (.cells #[lvb, .bool rep] 30 (0, 0)) := by
    rw [hW2]
    have := heap_alloc_new (w.alloc (.cells #[lva, .bool rep] 30)) (.cells #[lvb, .bool rep] 30)
    simpa using this
  have k0 : W2.heap[w.heap.size]? = some (.cells #[lva, .bool rep] 30 (0, 0)) := by
    rw [hW2, Below.heap_alloc _ _ _ (by simp)]
    exact heap_alloc_new w (.cells #[lva, .bool rep] 30)
  have K0 := Lib.hid k0
  have K1 := Lib.hid k1
  have HB2 := Lib.hid hb2
  have HS2 := Lib.hid hs2
  have q0 : W2.cell? ⟨w.heap.size, 0, none⟩ = some lva := by rw [Lib.cell_of_heap k0]; rfl
  have q1 : W2.cell? ⟨w.heap.size, 1, none⟩ = some (.bool rep) := by rw [Lib.cell_of_heap k0]; rfl
  have q2 : W2.cell? ⟨w.heap.size + 1, 0, none⟩ = some lvb := by rw [Lib.cell_of_heap k1]; rfl
  have q3 : W2.cell? ⟨w.heap.size + 1, 1, none⟩ = some (.bool rep) := by rw [Lib.cell_of_heap k1]; rfl
  have hrr : (rep != rep) = false := by simp
  have hll : ((ds.length : Int) != (ds.length : Int)) = false := by simp
  have hlm : ds.length ≤ maxLen := by obtain ⟨_, _, _, h1, h2, _⟩ := ha; omega
  unfold maxLen at hlm
  obtain ⟨aoa, capa, rfl⟩ := ha.shape
  obtain ⟨aob, capb, rfl⟩ := hb.shape
  have HW2 := Lib.hid hW2
  rw [hW2] at q0 q1 q2 q3
  clear hW2 k0 k1 hb2 hs2
  go_enter Tryd.func29, Tryd.ntmps29
  go_upto_region 4 with fail
  rw [← HW2.out]
  clear q0 q1 q2 q3 HW2
  go_loopw [5] (fun i wr => ∃ k : Nat, k ≤ ds.length ∧ i = .int .i64 k ∧ Below W2.heap.size W2 wr) (fun i _ => ds.length - (intOf i).toNat)
  case atStart => exact ⟨0, Nat.zero_le _, rfl, Below.refl _ _⟩
  case round =>
    obtain ⟨k, hk, rfl, hbw⟩ := hrel
    have HBW := Lib.hid hbw
    have hsw := Nat.le_trans (Nat.le_of_eq HS2.out.symm) hbw.size
    have HX : Hid (Below w.heap.size w wr) := HB2.out.trans (hbw.mono (by have := HS2.out; omega))
    have r0 : wr.cell? ⟨w.heap.size, 0, none⟩ = some (.slice aoa ds.length capa) := by rw [Lib.cell_of_heap ((hbw.block _ (by have := HS2.out; omega)).trans K0.out)]; rfl
    have r2 : wr.cell? ⟨w.heap.size + 1, 0, none⟩ = some (.slice aob ds.length capb) := by rw [Lib.cell_of_heap ((hbw.block _ (by have := HS2.out; omega)).trans K1.out)]; rfl
    clear hbw
    by_cases hlt : k < ds.length
    · obtain ⟨b1, o1, c1, sva, e1, hb1, x0, x1, hsa⟩ := ha.at hlt
      obtain ⟨b2, o2, c2, svb, e2, hb2, y0, y1, hsb⟩ := hb.at hlt
      injection e1 with f1 f2 f3
      injection e2 with g1 g2 g3
      subst f1 f3 g1 g3
      obtain ⟨d, hd⟩ : ∃ d, ds[k] = d := ⟨_, rfl⟩
      rw [hd] at x0 y0 hsa hsb
      clear hd
      have X0 := (HX.out.cell (p := ⟨b1, o1 + k * 2, none⟩) hb1).trans x0
      have X1 := (HX.out.cell (p := ⟨b1, o1 + k * 2 + 1, none⟩) hb1).trans x1
      have Y0 := (HX.out.cell (p := ⟨b2, o2 + k * 2, none⟩) hb2).trans y0
      have Y1 := (HX.out.cell (p := ⟨b2, o2 + k * 2 + 1, none⟩) hb2).trans y1
      have HDI : Hid (∀ W, Below w.heap.size w W → Calls Tryd.prog 24 #[.agg #[.string ⟨d.1.toArray⟩, sva], .agg #[.string ⟨d.1.toArray⟩, svb]] W fun e w' => e = .returned (.bool true) ∧ Below W.heap.size W w') := by
        intro W hW
        refine (directive_any sva svb d d W (hsa.below hW) (hsb.below hW)).mono ?_
        rintro e w' ⟨rfl, b⟩
        exact ⟨by rw [beq_self_eq_true], b⟩
      have hki : (k : Int) < ds.length := by omega
      clear x0 x1 y0 y1 hsa hsb
      go_wp2_with fail
      go_region_with (go_at_call 24; refine (HDI.out _ ?hA).mono ?_; (case hA => first | exact below_drewN HX.out _ | exact HX.out.drew | exact HX.out); rintro e w4 ⟨rfl, b4⟩; have B4 := Lib.hid b4; clear b4)
      all_goals go_wp2_with fail
      all_goals go_roundw
      all_goals first
        | (simp [intOf]; omega)
        | exact ⟨k + 1, by omega, by go_num, HBW.out.drew.trans (B4.out.mono (by exact HBW.out.size))⟩
    · go_wp2_with fail
      go_ret
      exact ⟨by exact rfl, HX.out⟩
end Go.Proofs.YtgaeecphohlmpaaDoor
