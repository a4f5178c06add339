/- lazaretref04: digit, above, times. -/
import Derived.Test.YtnlhhjokaekdhaaDoorDgt4
import Derived.Deep.Cut
import Derived.RegionTactic
set_option linter.unusedVariables false
set_option linter.unusedSimpArgs false
namespace Go.Proofs.YtnlhhjokaekdhaaDoor.R4
open Go.RowKit

theorem int_shape {w : World} {sv : Value} {l : List Int} (h : SliceIn w sv (intV l)) : ∃ ao cap, sv = .slice ao l.length cap ∧ l.length ≤ maxLen := by
  obtain ⟨ao, cap, h1, h2, h3, _⟩ := h
  rw [intV_len] at h1 h2
  exact ⟨ao, cap, h1, by omega⟩
theorem int_at {w : World} {sv : Value} {l : List Int} (h : SliceIn w sv (intV l)) {i : Nat} (hi : i < l.length) : ∃ b off cap, sv = .slice (some ⟨b, off, none⟩) l.length cap ∧ b < w.heap.size ∧ w.cell? ⟨b, off + i, none⟩ = some (.int .i64 (l.getD i 0)) := by
  obtain ⟨b, off, cap, e, k, r⟩ := h.at (i := i) (by rw [intV_len]; exact hi)
  rw [intV_len] at e
  have x1 : (intV l)[i]'(by rw [intV_len]; exact hi) = .int .i64 (l.getD i 0) := by simp [intV, List.getD, hi]
  rw [x1] at r
  exact ⟨b, off, cap, e, k, r⟩

set_option maxRecDepth 100000 in
theorem digit_any (v : Value) (l : List Int) (i : Nat) (w : World) (h : SliceIn w v (intV l)) (hi : i ≤ 1000) :
    Calls Tryd.prog 75 #[v, .int .i64 i] w fun e w' => e = .returned (.int .i64 (l.getD i 0)) ∧ w = w' := by
  obtain ⟨ao, cap, hv, hlm⟩ := int_shape h
  unfold maxLen at hlm
  by_cases hlt : i < l.length
  · obtain ⟨b, off, cap2, e1, hbl, hc⟩ := int_at h hlt
    rw [hv] at e1
    injection e1 with f1 _ f3
    subst f1 f3 hv
    have hi0 : (i : Int) < l.length := by omega
    obtain ⟨x, hx⟩ : ∃ x, l.getD i 0 = x := ⟨_, rfl⟩
    rw [hx] at hc
    rw [hx]
    clear hx
    go_enter Tryd.func75, Tryd.ntmps75
    go_wp2
    go_ret
    exact ⟨rfl, rfl⟩
  · subst hv
    have hi0 : ¬ (i : Int) < l.length := by omega
    have hx : l.getD i 0 = 0 := by rw [List.getD_eq_getElem?_getD, List.getElem?_eq_none (by omega)]; rfl
    rw [hx]
    clear hx
    go_enter Tryd.func75, Tryd.ntmps75
    go_wp2
    go_ret
    exact ⟨rfl, rfl⟩

theorem above_step {a b : List Int} {k : Nat} (h : a.getD k 0 = b.getD k 0) : aboveL a b (k + 1) = aboveL a b k := by
  rw [aboveL, if_pos h]
theorem above_hit {a b : List Int} {k : Nat} (h : ¬ a.getD k 0 = b.getD k 0) : aboveL a b (k + 1) = decide (b.getD k 0 < a.getD k 0) := by
  rw [aboveL, if_neg h]

set_option maxHeartbeats 1600000 in
set_option maxRecDepth 100000 in
theorem above_any (va vb : Value) (a b : List Int) (w : World) (ha : SliceIn w va (intV a)) (hb : SliceIn w vb (intV b)) (hla : a.length ≤ 1000) (hlb : b.length ≤ 1000) :
    Calls Tryd.prog 57 #[va, vb] w fun e w' => e = .returned (.bool (aboveL a b (max a.length b.length))) ∧ w = w' := by
  obtain ⟨ao, ca, hva, _⟩ := int_shape ha
  obtain ⟨bo, cb, hvb, _⟩ := int_shape hb
  have HA := Lib.hid (fun i hi => digit_any va a i w ha hi)
  have HB := Lib.hid (fun i hi => digit_any vb b i w hb hi)
  rw [hva] at HA
  rw [hvb] at HB
  subst hva hvb
  obtain ⟨M, hM⟩ : ∃ M, max a.length b.length = M := ⟨_, rfl⟩
  have hM1 : M ≤ 1000 := by omega
  rw [hM]
  have HMM : Hid ((M : Int) = a.length ∧ ¬ a.length < b.length ∨ (M : Int) = b.length ∧ a.length < b.length) := by show _ ∨ _; omega
  clear hM ha hb
  rcases Nat.lt_or_ge a.length b.length with hlt | hge
  case' inr =>
    have hlt : ¬ a.length < b.length := by omega
    clear hge
  all_goals
    have HLT := Lib.hid hlt
    go_enter Tryd.func57, Tryd.ntmps57
    go_wp2_with fail
    clear hlt
    go_loopw [5] (fun i wr => ∃ (j : Nat) (z : Int), j ≤ 1000 ∧ i = .int .i64 z ∧ z = (j : Int) - 1 ∧ Hid (aboveL a b M = aboveL a b j) ∧ wr = w) (fun i _ => (intOf i + 1).toNat)
    case' atStart =>
      have := HMM.out
      have := HLT.out
      have := HMM.out
      have := HLT.out
      exact ⟨M, _, hM1, rfl, by omega, rfl, by first | rfl | trivial⟩
  all_goals
    obtain ⟨j, z, hj, rfl, hz, hrel, rfl⟩ := hrel
    rcases j with _ | k
    · have hz0 : ¬ (0 : Int) ≤ z := by omega
      clear hz
      go_wp2_with fail
      go_ret
      exact ⟨by rw [hrel.out]; rfl, rfl⟩
    · obtain rfl : z = (k : Int) := by omega
      have hk0 : (0 : Int) ≤ k := by omega
      have hk1 : k ≤ 1000 := by omega
      clear hz
      go_wp2_with fail
      refine (HA.out k hk1).mono ?_
      rintro e w1 ⟨rfl, rfl⟩
      obtain ⟨x, hx⟩ : ∃ x, a.getD k 0 = x := ⟨_, rfl⟩
      rw [hx]
      have HX := Lib.hid hx
      clear hx
      go_wp2_with fail
      refine (HB.out k hk1).mono ?_
      rintro e w2 ⟨rfl, rfl⟩
      obtain ⟨y, hy⟩ : ∃ y, b.getD k 0 = y := ⟨_, rfl⟩
      rw [hy]
      have HY := Lib.hid hy
      clear hy
      by_cases hxy : x = y
      · have hq : (x != y) = false := by simp [hxy]
        go_wp2_with fail
        go_roundw
        all_goals first
          | (simp [intOf]; done)
          | (simp [intOf]; omega)
          | skip
        exact ⟨k, (k : Int) - 1, by omega, rfl, rfl, by show _ = _; rw [hrel.out, above_step (by rw [HX.out, HY.out]; exact hxy)], by first | rfl | trivial⟩
      · have hq : (x != y) = true := by simp [hxy]
        have HN := Lib.hid hxy
        clear hxy
        go_wp2_with fail
        refine (HA.out k hk1).mono ?_
        rintro e w3 ⟨rfl, rfl⟩
        rw [HX.out]
        go_wp2_with fail
        refine (HB.out k hk1).mono ?_
        rintro e w4 ⟨rfl, rfl⟩
        rw [HY.out]
        go_wp2_with fail
        go_ret
        refine ⟨?_, rfl⟩
        rw [hrel.out, above_hit (by rw [HX.out, HY.out]; exact HN.out), HX.out, HY.out]
        first
          | rfl
          | trivial
          | exact congrArg (fun q => Ending.returned (.bool q)) (by simp)

theorem infoInt : (Tryd.prog.info? 3).map (fun i => (i.zero, i.size, i.bytes)) = some (some (.int .i64 0), 1, 8) := by kernel_rfl
theorem made_int (n : Nat) : (madeCells (Value.int .i64 0).cells (n * 1)).toList = intV (List.replicate n 0) := by
  have hc : (Value.int .i64 0).cells = #[Value.int .i64 0] := rfl
  unfold madeCells intV
  rw [hc]
  apply List.ext_getElem?
  intro j
  by_cases h : j < n
  · simp [h, Nat.mod_one]
  · simp [h]

set_option maxHeartbeats 3200000 in
set_option maxRecDepth 100000 in
theorem times_any (va vb : Value) (a b : List Int) (w : World) (ha : SliceIn w va (intV a)) (hb : SliceIn w vb (intV b)) (hla : a.length ≤ 100) (hlb : b.length ≤ 100) (hda : Dig a) (hdb : Dig b) :
    Calls Tryd.prog 56 #[va, vb] w fun e w' => ∃ v, e = .returned v ∧ w'.ownsRow w.heap.size 3 1 v (timesL a b).length (intV (timesL a b)) ∧ Below w.heap.size w w' := by
  obtain ⟨ao, ca, hva, _⟩ := int_shape ha
  obtain ⟨bo, cb, hvb, _⟩ := int_shape hb
  have HA := Lib.hid ha
  have HB := Lib.hid hb
  have HDA := Lib.hid hda
  have HDB := Lib.hid hdb
  rw [hva] at HA
  rw [hvb] at HB
  subst hva hvb
  clear ha hb hda hdb
  obtain ⟨i0, hi, hz0, hz1, hz2⟩ := info_parts infoInt
  obtain ⟨n, hn⟩ : ∃ n, n = a.length + b.length := ⟨_, rfl⟩
  have HNN := Lib.hid hn
  have hn2 : n ≤ 200 := by omega
  clear hn
  go_enter Tryd.func56, Tryd.ntmps56
  go_wp2_with (refine wpList_make_full _ rfl _ _ 54 rfl w.heap.size 3 i0 (.int .i64 0) 1 Tryd.underlying54 hi hz0 hz1 _ _ _ _ n rfl rfl (by have := HNN.out; omega) (by have := HNN.out; omega) (by rw [hz2]; omega) (by unfold maxLen; omega) (Nat.le_refl _) ?_; intro w1 o1 g1)
  have O1 : Hid (w1.ownsRow w.heap.size 3 1 (.slice (some ⟨w.heap.size, 0, none⟩) n n) n (intV (outr a b 0))) := by rw [made_int n, HNN.out] at o1; rw [HNN.out]; exact o1
  have B1 : Hid (Below w.heap.size w w1) := ⟨g1.os, g1.tape, g1.output, g1.size, fun k hk => g1.block k hk (by simp)⟩
  clear o1 g1 hi hz0 hz1 hz2
  go_loopw [6] (fun s wr => ∃ i : Nat, i ≤ a.length ∧ s = .int .i64 i ∧ Hid (wr.ownsRow w.heap.size 3 1 (.slice (some ⟨w.heap.size, 0, none⟩) n n) n (intV (outr a b i))) ∧ Hid (Below w.heap.size w wr)) (fun s _ => a.length - (intOf s).toNat)
  case atStart => exact ⟨0, Nat.zero_le _, rfl, O1, B1⟩
  case round =>
    clear O1 B1
    obtain ⟨i, hil, rfl, O, B⟩ := hrel
    by_cases hlt : i < a.length
    · have hii : (i : Int) < a.length := by omega
      have hi0 : (0 : Int) ≤ i := by omega
      obtain ⟨x, hx⟩ : ∃ x, a.getD i 0 = x := ⟨_, rfl⟩
      have HX := Lib.hid hx
      clear hx
      go_wp2_with fail
      go_loopw [7, 8] (fun c s wy => ∃ k : Nat, k ≤ b.length ∧ s = .int .i64 k ∧ c = .int .i64 (innL x b i (outr a b i) k).2 ∧ Hid (wy.ownsRow w.heap.size 3 1 (.slice (some ⟨w.heap.size, 0, none⟩) n n) n (intV (innL x b i (outr a b i) k).1)) ∧ Hid (Below w.heap.size w wy)) (fun _ s _ => b.length - (intOf s).toNat)
      case atStart => exact ⟨0, Nat.zero_le _, rfl, rfl, O, B⟩
      case round =>
        clear O B
        obtain ⟨k, hkl, rfl, rfl, O, B⟩ := hrel
        by_cases hlk : k < b.length
        · have hki : (k : Int) < b.length := by omega
          have hk0 : (0 : Int) ≤ k := by omega
          have hpos : 0 < n := by have := HNN.out; omega
          have hxd : 0 ≤ x ∧ x ≤ 65535 := by rw [← HX.out]; exact HDA.out.get i
          have hout := outr_dig HDA.out HDB.out i
          obtain ⟨hd1, hc0, hc1, hlen⟩ := innL_dig (i := i) hxd HDB.out hout.1 k
          have hst := innL_step x b (outr a b i) i k
          rw [hout.2, ← HNN.out] at hlen
          obtain ⟨y, hy⟩ : ∃ y, b.getD k 0 = y := ⟨_, rfl⟩
          have hyd : 0 ≤ y ∧ y ≤ 65535 := by rw [← hy]; exact HDB.out.get k
          obtain ⟨T, C, hT⟩ : ∃ T C, innL x b i (outr a b i) k = (T, C) := ⟨_, _, rfl⟩
          rw [hT] at O hd1 hc0 hc1 hlen hst
          rw [hT]
          simp only at O hd1 hc0 hc1 hlen hst
          rw [hy] at hst
          have hik : i + k < T.length := by have := HNN.out; omega
          have hDd := hd1.get (i + k)
          obtain ⟨g, cq, he, _, _, _, hg2, rr⟩ := owns_cell O.out (j := 0) hpos
          injection he with e1 e2 e3
          injection e1 with e1
          injection e1 with e1 e4
          subst e1
          clear e2 e3 e4
          have y0 := rr (i + k) _ (intV_get hik)
          obtain ⟨D, hD⟩ : ∃ D, T.getD (i + k) 0 = D := ⟨_, rfl⟩
          rw [hD] at hst y0 hDd
          obtain ⟨ba, fa, cap1, ea, ka, ya⟩ := int_at (HA.out.below B.out) hlt
          injection ea with f1 _ f3
          subst f1 f3
          obtain ⟨bb, fb, cap2, eb, kb, yb⟩ := int_at (HB.out.below B.out) hlk
          injection eb with f1 _ f3
          subst f1 f3
          rw [HX.out] at ya
          rw [hy] at yb
          have hm := mul_dig hxd hyd
          have f0 := owns_free O.out rfl (i + k)
          have HS := Lib.hid hst
          have HT := Lib.hid hT
          have hin : (i : Int) + k < n := by have := HNN.out; omega
          have hin0 : (0 : Int) ≤ (i : Int) + k := by omega
          have htn : ((i : Int) + k).toNat = i + k := by omega
          have hw1 : IntKind.i64.wrap ((i : Int) + k) = (i : Int) + k := IntWalk.i64_in _ (by omega)
          have hw2 : IntKind.i64.wrap (x * y) = x * y := IntWalk.i64_in _ (by omega)
          have hw3 : IntKind.i64.wrap (D + x * y) = D + x * y := IntWalk.i64_in _ (by omega)
          have hw4 : IntKind.i64.wrap (D + x * y + C) = D + x * y + C := IntWalk.i64_in _ (by omega)
          have HDD := Lib.hid hDd
          have HMM := Lib.hid hm
          have HHK := Lib.hid hik
          have HG2 := Lib.hid hg2
          have HC := Lib.hid (And.intro hc0 hc1)
          clear hst hT rr hd1 hlen hout hy hD hm hxd hyd hDd hpos hik hg2 hc0 hc1
          go_wp2_with fail
          go_region
          have hS0 : 0 ≤ D + x * y + C ∧ D + x * y + C ≤ 4294967295 := by have := HDD.out; have := HMM.out; have := HC.out; omega
          obtain ⟨S, hS⟩ : ∃ S, D + x * y + C = S := ⟨_, rfl⟩
          rw [hS] at hS0
          rw [hS]
          have HS2 := Lib.hid hS
          have hS1 := hS0.1
          have hS2 := hS0.2
          clear hw2 hw3 hw4 hS hS0 ya yb
          go_wp2_with fail
          refine ⟨⟨k + 1, by omega, by go_num, ?_, ?_, ?_⟩, by simp [intOf]; omega⟩
          · rw [HS.out, HS2.out]
          · show World.ownsRow _ _ _ _ _ _ _
            rw [HS.out, HS2.out, ← intV_set]
            exact (owns_set O.out rfl _).drew
          · exact (B.out.setCell (Nat.le_refl _) _).drew
        · have hke : k = b.length := by omega
          have hlkn : ¬ (k : Int) < b.length := by omega
          have hpos : 0 < n := by have := HNN.out; omega
          have hxd : 0 ≤ x ∧ x ≤ 65535 := by rw [← HX.out]; exact HDA.out.get i
          have hout := outr_dig HDA.out HDB.out i
          obtain ⟨hd1, hc0, hc1, hlen⟩ := innL_dig (i := i) hxd HDB.out hout.1 k
          have hst := outr_step a b i
          rw [HX.out, ← hke] at hst
          rw [hout.2, ← HNN.out] at hlen
          obtain ⟨T, C, hT⟩ : ∃ T C, innL x b i (outr a b i) k = (T, C) := ⟨_, _, rfl⟩
          rw [hT] at O hst hlen
          rw [hT]
          simp only at O hst hlen
          have hik : i + k < T.length := by have := HNN.out; omega
          obtain ⟨g, cq, he, _, _, _, hg2, rr⟩ := owns_cell O.out (j := 0) hpos
          injection he with e1 e2 e3
          injection e1 with e1
          injection e1 with e1 e4
          subst e1
          clear e2 e3 e4
          have y0 := rr (i + k) _ (intV_get hik)
          have f0 := owns_free O.out rfl (i + k)
          have hin : (i : Int) + k < n := by have := HNN.out; omega
          have hin0 : (0 : Int) ≤ (i : Int) + k := by omega
          have htn : ((i : Int) + k).toNat = i + k := by omega
          have hw1 : IntKind.i64.wrap ((i : Int) + k) = (i : Int) + k := IntWalk.i64_in _ (by omega)
          have HS := Lib.hid hst
          have hkb : (b.length : Int) = k := by omega
          have HHK := Lib.hid hke
          clear hst hT rr hd1 hlen hout hxd hpos hik hg2 hc0 hc1 hlk hke
          go_wp2_with fail
          refine ⟨⟨i + 1, by omega, by go_num, ?_, ?_⟩, by simp [intOf]; omega⟩
          · show World.ownsRow _ _ _ _ _ _ _
            rw [HS.out, ← intV_set]
            exact owns_set O.out rfl _
          · exact B.out.setCell (Nat.le_refl _) _
    · have hie : i = a.length := by omega
      have hin : ¬ (i : Int) < a.length := by omega
      subst hie
      go_wp2_with fail
      go_ret
      refine ⟨_, rfl, ?_, B.out⟩
      have hl := (outr_dig HDA.out HDB.out a.length).2
      have hl2 : (timesL a b).length = n := by unfold timesL; rw [hl, HNN.out]
      rw [hl2]
      exact O.out
end Go.Proofs.YtnlhhjokaekdhaaDoor.R4
