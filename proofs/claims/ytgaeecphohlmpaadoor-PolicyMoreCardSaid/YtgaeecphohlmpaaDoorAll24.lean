/- lazaretlaw24.All: two lists of policies that are the same. -/
import Derived.Test.YtgaeecphohlmpaaDoorSam
import Derived.Test.YtgaeecphohlmpaaDoorLst
import Derived.Deep.Cut
set_option linter.unusedVariables false
namespace Go.Proofs.YtgaeecphohlmpaaDoor
open Go.RowKit

set_option maxHeartbeats 3200000 in
set_option maxRecDepth 100000 in
theorem all_is (va vb : Value) (ps : List Pol) (w : World) (ha : PolsIn w va ps) (hb : PolsIn w vb ps) :
    Calls Tryd.prog 32 #[va, vb] w fun e w' => e = .returned (.bool true) ∧ Below w.heap.size w w' := by
  have hlm : ps.length ≤ maxLen := by obtain ⟨_, _, _, h1, h2, _⟩ := ha; omega
  unfold maxLen at hlm
  have hll : ((ps.length : Int) != (ps.length : Int)) = false := by simp
  obtain ⟨aoa, capa, rfl⟩ := ha.shape
  obtain ⟨aob, capb, rfl⟩ := hb.shape
  go_enter Tryd.func32, Tryd.ntmps32
  go_wp2_with fail
  go_loopw [5] (fun i wr => ∃ k : Nat, k ≤ ps.length ∧ i = .int .i64 k ∧ Below w.heap.size w wr) (fun i _ => ps.length - (intOf i).toNat)
  case atStart => exact ⟨0, Nat.zero_le _, rfl, Below.refl _ _⟩
  case round =>
    obtain ⟨k, hk, rfl, hbw⟩ := hrel
    have HX := Lib.hid hbw
    by_cases hlt : k < ps.length
    · obtain ⟨b1, o1, c1, lva, e1, hb1, x0, x1, hsa⟩ := ha.at hlt
      obtain ⟨b2, o2, c2, lvb, e2, hb2, y0, y1, hsb⟩ := hb.at hlt
      injection e1 with f1 f2 f3
      injection e2 with g1 g2 g3
      subst f1 f3 g1 g3
      obtain ⟨d, hd⟩ : ∃ d, ps[k] = d := ⟨_, rfl⟩
      rw [hd] at x1 y1 hsa hsb
      clear hd
      have X0 := (HX.out.cell (p := ⟨b1, o1 + k * 2, none⟩) hb1).trans x0
      have X1 := (HX.out.cell (p := ⟨b1, o1 + k * 2 + 1, none⟩) hb1).trans x1
      have Y0 := (HX.out.cell (p := ⟨b2, o2 + k * 2, none⟩) hb2).trans y0
      have Y1 := (HX.out.cell (p := ⟨b2, o2 + k * 2 + 1, none⟩) hb2).trans y1
      have HDI : Hid (∀ W, Below w.heap.size w W → Calls Tryd.prog 29 #[.agg #[lva, .bool d.2], .agg #[lvb, .bool d.2]] W fun e w' => e = .returned (.bool true) ∧ Below W.heap.size W w') := fun W hW => same_is lva lvb d.2 d.1 W (hsa.below hW) (hsb.below hW)
      have hki : (k : Int) < ps.length := by omega
      clear x0 x1 y0 y1 hsa hsb hbw
      go_wp2_with fail
      go_region_with (go_at_call 29; refine (HDI.out _ ?hA).mono ?_; (case hA => first | exact below_drewN HX.out _ | exact HX.out.drew | exact HX.out); rintro e w4 ⟨rfl, b4⟩; have B4 := Lib.hid b4; clear b4)
      all_goals go_wp2_with fail
      all_goals go_roundw
      all_goals first
        | (simp [intOf]; omega)
        | exact ⟨k + 1, by omega, by go_num, HX.out.drew.trans (B4.out.mono (by exact HX.out.size))⟩
    · go_wp2_with fail
      go_ret
      exact ⟨by exact rfl, HX.out⟩
end Go.Proofs.YtgaeecphohlmpaaDoor
