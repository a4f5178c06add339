/- sources: parseHost, by what it calls. -/
import Derived.Test.YteeplfbaflldaaaDoorSrcH
import Derived.Deep.CutBlock
import Derived.Deep.DeepCutAuto
set_option linter.unusedVariables false
set_option linter.unusedSimpArgs false
namespace Go.Proofs.YteeplfbaflldaaaDoor.S25
open Go.RowKit Go.Extern.Stop Go.Stop Go.Extern T10

set_option maxHeartbeats 1600000 in
set_option maxRecDepth 100000 in
theorem host_walk (s f b r h pt name port sc pa ho : ByteArray) (ok hasP wi : Bool) (I po m : Int) (e0 e1 e2 e3 : Option (TypeId × Value)) (w : World) (hm : w.cell? ⟨2, 0, none⟩ = some (.int .i64 m))
    (hcut1 : ∀ W, W.cell? ⟨2, 0, none⟩ = some (.int .i64 m) → Calls Tryd.prog 66 #[.string s, .string ⟨#[58, 47, 47]⟩] W fun e w' => e = .returned (.tuple #[.string f, .string b, .bool ok]) ∧ ∃ n, w' = W.drewN n)
    (hsc : ok = true → ∀ W, Calls Tryd.prog 70 #[.string f] W fun e w' => e = .returned (.tuple #[.string sc, encE e0]) ∧ Below W.heap.size W w')
    (hns : ok = false → sc = ⟨#[]⟩ ∧ e0 = none)
    (hr : r = if ok = true then b else s)
    (hib : ∀ W, Calls Tryd.prog 40 #[.string r, .int .u8 47] W fun e w' => e = .returned (.int .i64 I) ∧ W = w')
    (hI : 0 ≤ I → I.toNat ≤ r.size) (hrs : r.size ≤ 1000000)
    (hpa : 0 ≤ I → ∀ W, Calls Tryd.prog 71 #[.string (r.extract I.toNat r.size)] W fun e w' => e = .returned (.tuple #[.string pa, encE e1]) ∧ W = w')
    (hnp : ¬ 0 ≤ I → pa = ⟨#[]⟩ ∧ e1 = none)
    (hh : h = if 0 ≤ I then r.extract 0 I.toNat else r)
    (hcut2 : ∀ W, W.cell? ⟨2, 0, none⟩ = some (.int .i64 m) → Calls Tryd.prog 66 #[.string h, .string ⟨#[58]⟩] W fun e w' => e = .returned (.tuple #[.string name, .string port, .bool hasP]) ∧ ∃ n, w' = W.drewN n)
    (hna : ∀ W, W.cell? ⟨2, 0, none⟩ = some (.int .i64 m) → Calls Tryd.prog 72 #[.string name] W fun e w' => e = .returned (.tuple #[.string ho, .bool wi, encE e2]) ∧ Below W.heap.size W w')
    (hpo : hasP = true → ∀ W, Calls Tryd.prog 73 #[.string port] W fun e w' => e = .returned (.tuple #[.int .i64 po, encE e3]) ∧ W = w')
    (hnpo : hasP = false → po = -1 ∧ e3 = none) :
    Calls Tryd.prog 53 #[.string s] w fun e w' => HostEnd sc ho wi po pa [e0, e1, e2, e3] e w' ∧ Below w.heap.size w w' := by
  have h2l := World.block_lt_of_cell? w _ hm
  simp only [] at h2l
  obtain ⟨W1, hW1⟩ : ∃ W1, W1 = ((w.alloc (.cells #[.int .i64 0, .string ⟨#[]⟩, .int .i64 0, .string ⟨#[]⟩, .string ⟨#[]⟩, .bool false, .int .i64 0, .string ⟨#[]⟩] 41)).alloc (.cells #[.int .i64 3, .string ⟨#[]⟩, .int .i64 0, .string ⟨#[]⟩, .string ⟨#[]⟩, .bool false, .int .i64 (-1), .string ⟨#[]⟩] 41)).alloc (.cells #[.nilIface, .nilIface, .nilIface, .nilIface] 108) := ⟨_, rfl⟩
  have A1 : HAt w.heap.size w W1 ⟨#[]⟩ ⟨#[]⟩ false (-1) ⟨#[]⟩ .nilIface .nilIface .nilIface .nilIface := by
    rw [hW1]; exact hat_start w
  have HM : Hid (∀ W, Below w.heap.size w W → W.cell? ⟨2, 0, none⟩ = some (.int .i64 m)) := fun W hB => (hB.cell (p := ⟨2, 0, none⟩) h2l).trans hm
  have C1 := Lib.hid hcut1
  have C2 := Lib.hid hcut2
  have SC := Lib.hid hsc
  have NS := Lib.hid hns
  have HR := Lib.hid hr
  have IB := Lib.hid hib
  have PA := Lib.hid hpa
  have NP := Lib.hid hnp
  have HH := Lib.hid hh
  have NA := Lib.hid hna
  have PO := Lib.hid hpo
  have NPO := Lib.hid hnpo
  have HI := Lib.hid hI
  have HW := Lib.hid hW1
  have HA := Lib.hid A1
  clear hcut1 hcut2 hsc hns hr hib hpa hnp hh hna hpo hnpo hI hW1 A1 hm
  go_enter Tryd.func53, Tryd.ntmps53
  go_upto_region 3 with fail
  rw [← HW.out]
  go_upto_block 2 with (go_at_call 66; refine (C1.out _ (HM.out _ HA.out.2.2.2)).mono ?_; rintro e w2 ⟨rfl, k, hw2⟩; have HA2 := Lib.hid (HA.out.drewN k hw2); clear hw2)
  go_cut [0] (fun v wc => v = .string r ∧ Hid (HAt w.heap.size w wc sc ⟨#[]⟩ false (-1) ⟨#[]⟩ (encE e0) .nilIface .nilIface .nilIface))
  case first =>
    cases ok with
    | true =>
      have er : r = b := HR.out
      have SC1 := SC.out rfl
      rcases e0 with _ | ⟨t0, v0⟩
      all_goals
        simp only [encE] at SC1
        have SC2 := Lib.hid SC1
        clear SC1
        go_wp2_with (go_at_call 70; refine (SC2.out _).mono ?_; rintro e w3 ⟨rfl, b3⟩; have HA3 := Lib.hid (HA2.out.far b3); clear b3; obtain ⟨⟨c0, c1, c2, c3, c4, c5, c6, c7⟩, f0, f1, f2, f3, f4, f5, f6, f7⟩ := eight HA3.out.2.1; obtain ⟨⟨d0, d1, d2, d3⟩, g0, g1, g2, g3⟩ := four HA3.out.2.2.1)
        go_meet
        exact ⟨by rw [er], HA3.out.setSc sc _⟩
    | false =>
      have er : r = s := HR.out
      obtain ⟨n1, n2⟩ := NS.out rfl
      subst n1 n2
      go_wp2_with fail
      go_meet
      exact ⟨by rw [er], HA2.out⟩
  case rest =>
    obtain ⟨rfl, hA4⟩ := hcut
    clear HA2 HA HW SC NS HR C1
    go_upto_if 33 with (go_at_call 40; refine (IB.out _).mono ?_; rintro e w5 ⟨rfl, rfl⟩)
    go_cut [0] (fun v wc => v = .string h ∧ Hid (HAt w.heap.size w wc sc ⟨#[]⟩ false (-1) pa (encE e0) (encE e1) .nilIface .nilIface))
    case first =>
      by_cases hI0 : 0 ≤ I
      · obtain ⟨i, rfl⟩ : ∃ i : Nat, I = i := ⟨I.toNat, by omega⟩
        have hir := HI.out hI0
        rw [Int.toNat_natCast] at hir
        have hir2 : (i : Int) ≤ r.size := by omega
        have eh : h = r.extract 0 i := HH.out.trans (if_pos hI0)
        have PA1 := PA.out hI0
        rw [Int.toNat_natCast] at PA1
        rcases e1 with _ | ⟨t1, v1⟩
        all_goals
          simp only [encE] at PA1
          have PA2 := Lib.hid PA1
          clear PA1
          obtain ⟨⟨c0, c1, c2, c3, c4, c5, c6, c7⟩, f0, f1, f2, f3, f4, f5, f6, f7⟩ := eight hA4.out.2.1
          obtain ⟨⟨d0, d1, d2, d3⟩, g0, g1, g2, g3⟩ := four hA4.out.2.2.1
          go_wp2_with (go_at_call 71; refine (PA2.out _).mono ?_; rintro e w3 ⟨rfl, rfl⟩)
          go_meet
          exact ⟨by rw [eh], hA4.out.setPa pa _⟩
      · have eh : h = r := HH.out.trans (if_neg hI0)
        obtain ⟨n1, n2⟩ := NP.out (by omega)
        subst n1 n2
        go_wp2_with fail
        go_meet
        exact ⟨by rw [eh], hA4.out⟩
    case rest =>
      obtain ⟨rfl, hA5⟩ := hcut
      clear hA4 IB PA NP HH HI
      rcases e2 with _ | ⟨t2, v2⟩
      · simp only [encE] at NA
        go_upto_if 61 with (first
          | (go_at_call 72; refine (NA.out _ (HM.out _ HA6.out.2.2.2)).mono ?_; rintro e w7 ⟨rfl, b7⟩; have HA7 := Lib.hid (HA6.out.far b7); clear b7; obtain ⟨⟨c0, c1, c2, c3, c4, c5, c6, c7⟩, f0, f1, f2, f3, f4, f5, f6, f7⟩ := eight HA7.out.2.1; obtain ⟨⟨d0, d1, d2, d3⟩, g0, g1, g2, g3⟩ := four HA7.out.2.2.1)
          | (go_at_call 66; refine (C2.out _ (HM.out _ hA5.out.2.2.2)).mono ?_; rintro e w6 ⟨rfl, k, hw6⟩; have HA6 := Lib.hid (hA5.out.drewN k hw6); clear hw6))
        have HA8 := Lib.hid (HA7.out.setNa ho wi .nilIface)
        clear HA7 HA6 hA5 c0 c1 c2 c3 c4 c5 c6 c7 f0 f1 f2 f3 f4 f5 f6 f7 d0 d1 d2 d3 g0 g1 g2 g3 C2 NA
        generalize hw8 : (((World.setCell _ { block := w.heap.size + 1, off := 4 } (Value.string ho)).setCell { block := w.heap.size + 1, off := 5 } (Value.bool wi)).setCell { block := w.heap.size + 1 + 1, off := 2 } .nilIface) = w8 at HA8 ⊢
        clear hw8
        go_cut [] (fun wc => Hid (HAt w.heap.size w wc sc ho wi po pa (encE e0) (encE e1) .nilIface (encE e3)))
        case first =>
          cases hasP with
          | true =>
            have PO1 := PO.out rfl
            rcases e3 with _ | ⟨t3, v3⟩
            all_goals
              simp only [encE] at PO1
              have PO2 := Lib.hid PO1
              clear PO1
              obtain ⟨⟨c0, c1, c2, c3, c4, c5, c6, c7⟩, f0, f1, f2, f3, f4, f5, f6, f7⟩ := eight HA8.out.2.1
              obtain ⟨⟨d0, d1, d2, d3⟩, g0, g1, g2, g3⟩ := four HA8.out.2.2.1
              go_wp2_with (go_at_call 73; refine (PO2.out _).mono ?_; rintro e w3 ⟨rfl, rfl⟩)
              go_meet
              exact HA8.out.setPo po _
          | false =>
            obtain ⟨n1, n2⟩ := NPO.out rfl
            subst n1 n2
            go_wp2_with fail
            go_meet
            exact HA8.out
        case rest =>
          have hA9 : Hid (HAt w.heap.size w wc sc ho wi po pa (encE e0) (encE e1) (encE none) (encE e3)) := hcut
          clear HA8 PO NPO hcut HM
          go_upto_region 15 with fail
          by_cases h0 : okE [e0, e1, none, e3] = []
          · have JN : Hid (∀ W, HAt w.heap.size w W sc ho wi po pa (encE e0) (encE e1) (encE none) (encE e3) → Calls Tryd.prog 74 #[.slice (some ⟨w.heap.size + 1 + 1, 0, none⟩) 4 4] W fun e w' => e = .returned .nilIface ∧ w' = W) := fun W h => join_none h0 (by simp) _ 4 W h.row h.lt
            have H0 := Lib.hid h0
            clear h0
            have hA0 := Lib.hid hA9.out.drew
            have HB9 := Lib.hid hA9.out.2.2.2
            obtain ⟨⟨c0, c1, c2, c3, c4, c5, c6, c7⟩, f0, f1, f2, f3, f4, f5, f6, f7⟩ := eight hA9.out.2.1
            obtain ⟨⟨a0, a1, a2, a3, a4, a5, a6, a7⟩, b0, b1, b2, b3, b4, b5, b6, b7⟩ := eight hA9.out.1
            go_region_with (go_at_call 74; refine (JN.out _ ?hA).mono ?_; (case hA => first | exact hA9.out | exact hA0.out); rintro e w' ⟨rfl, rfl⟩)
            all_goals
              go_wp2_with fail
              refine bodyPost_ret (v := .tuple #[srcV 3 ⟨#[]⟩ 0 sc ho wi po pa, .nilIface]) ?_ rfl ?_
              · rw [results_cell_tmp rfl]
                go_simp
                rfl
              · refine ⟨.inl ⟨H0.out, rfl⟩, ?_⟩
                repeat' first
                  | with_reducible exact HB9.out
                  | with_reducible refine Below.drew ?_
                  | with_reducible refine Below.setCell ?_ (by exact Nat.le_refl _) _
          · have JS : Hid (∀ W, HAt w.heap.size w W sc ho wi po pa (encE e0) (encE e1) (encE none) (encE e3) → Calls Tryd.prog 74 #[.slice (some ⟨w.heap.size + 1 + 1, 0, none⟩) 4 4] W fun e w' => ∃ jj, e = .returned (.iface 147 (.pointer (some ⟨jj, 0, none⟩))) ∧ Hid (JoinAt W jj (okE [e0, e1, none, e3]).length 4 [e0, e1, none, e3] w')) := fun W h => join_some h0 (by simp) _ 4 W h.row h.lt
            have H0 := Lib.hid h0
            clear h0
            have hA0 := Lib.hid hA9.out.drew
            have HB9 := Lib.hid hA9.out.2.2.2
            obtain ⟨⟨c0, c1, c2, c3, c4, c5, c6, c7⟩, f0, f1, f2, f3, f4, f5, f6, f7⟩ := eight hA9.out.2.1
            obtain ⟨⟨a0, a1, a2, a3, a4, a5, a6, a7⟩, b0, b1, b2, b3, b4, b5, b6, b7⟩ := eight hA9.out.1
            go_region_with (go_at_call 74; refine (JS.out _ ?hA).mono ?_; (case hA => first | exact hA9.out | exact hA0.out); rintro e wr ⟨jj, rfl, hj⟩; have hAr := Lib.hid (show HAt w.heap.size w wr sc ho wi po pa (encE e0) (encE e1) (encE none) (encE e3) from (by first | exact hA9.out.far hj.out.2.2.2.2.2 | exact hA0.out.far hj.out.2.2.2.2.2)); obtain ⟨⟨x0, x1, x2, x3, x4, x5, x6, x7⟩, y0, y1, y2, y3, y4, y5, y6, y7⟩ := eight hAr.out.2.1; obtain ⟨⟨z0, z1, z2, z3, z4, z5, z6, z7⟩, q0, q1, q2, q3, q4, q5, q6, q7⟩ := eight hAr.out.1)
            all_goals
              go_wp2_with fail
              refine bodyPost_ret (v := .tuple #[srcV 3 ⟨#[]⟩ 0 sc ho wi po pa, .iface 147 (.pointer (some ⟨jj, 0, none⟩))]) ?_ rfl ?_
              · rw [results_cell_tmp rfl]
                go_simp
                rfl
              · have hl := hA9.out.lt
                have hlr := Nat.lt_trans (Nat.lt_trans (Nat.lt_succ_self _) (Nat.lt_succ_self _)) hl
                refine ⟨.inr ⟨jj, H0.out, rfl, ?_⟩, ?_⟩
                · repeat' first
                    | with_reducible refine JOk.drew ?_
                    | exact joinAt_ok (by simp) hj.out H0.out (p := w.heap.size) (by simpa using hlr) _ _ _ _ _ _ _ _
                · have HBr := Lib.hid hAr.out.2.2.2
                  repeat' first
                    | with_reducible exact HBr.out
                    | with_reducible refine Below.drew ?_
                    | with_reducible refine Below.setCell ?_ (by exact Nat.le_refl _) _
      · simp only [encE] at NA
        go_upto_if 61 with (first
          | (go_at_call 72; refine (NA.out _ (HM.out _ HA6.out.2.2.2)).mono ?_; rintro e w7 ⟨rfl, b7⟩; have HA7 := Lib.hid (HA6.out.far b7); clear b7; obtain ⟨⟨c0, c1, c2, c3, c4, c5, c6, c7⟩, f0, f1, f2, f3, f4, f5, f6, f7⟩ := eight HA7.out.2.1; obtain ⟨⟨d0, d1, d2, d3⟩, g0, g1, g2, g3⟩ := four HA7.out.2.2.1)
          | (go_at_call 66; refine (C2.out _ (HM.out _ hA5.out.2.2.2)).mono ?_; rintro e w6 ⟨rfl, k, hw6⟩; have HA6 := Lib.hid (hA5.out.drewN k hw6); clear hw6))
        have HA8 := Lib.hid (HA7.out.setNa ho wi (.iface t2 v2))
        clear HA7 HA6 hA5 c0 c1 c2 c3 c4 c5 c6 c7 f0 f1 f2 f3 f4 f5 f6 f7 d0 d1 d2 d3 g0 g1 g2 g3 C2 NA
        generalize hw8 : (((World.setCell _ { block := w.heap.size + 1, off := 4 } (Value.string ho)).setCell { block := w.heap.size + 1, off := 5 } (Value.bool wi)).setCell { block := w.heap.size + 1 + 1, off := 2 } (.iface t2 v2)) = w8 at HA8 ⊢
        clear hw8
        go_cut [] (fun wc => Hid (HAt w.heap.size w wc sc ho wi po pa (encE e0) (encE e1) (.iface t2 v2) (encE e3)))
        case first =>
          cases hasP with
          | true =>
            have PO1 := PO.out rfl
            rcases e3 with _ | ⟨t3, v3⟩
            all_goals
              simp only [encE] at PO1
              have PO2 := Lib.hid PO1
              clear PO1
              obtain ⟨⟨c0, c1, c2, c3, c4, c5, c6, c7⟩, f0, f1, f2, f3, f4, f5, f6, f7⟩ := eight HA8.out.2.1
              obtain ⟨⟨d0, d1, d2, d3⟩, g0, g1, g2, g3⟩ := four HA8.out.2.2.1
              go_wp2_with (go_at_call 73; refine (PO2.out _).mono ?_; rintro e w3 ⟨rfl, rfl⟩)
              go_meet
              exact HA8.out.setPo po _
          | false =>
            obtain ⟨n1, n2⟩ := NPO.out rfl
            subst n1 n2
            go_wp2_with fail
            go_meet
            exact HA8.out
        case rest =>
          have hA9 : Hid (HAt w.heap.size w wc sc ho wi po pa (encE e0) (encE e1) (encE (some (t2, v2))) (encE e3)) := hcut
          clear HA8 PO NPO hcut HM
          go_upto_region 15 with fail
          by_cases h0 : okE [e0, e1, (some (t2, v2)), e3] = []
          · have JN : Hid (∀ W, HAt w.heap.size w W sc ho wi po pa (encE e0) (encE e1) (encE (some (t2, v2))) (encE e3) → Calls Tryd.prog 74 #[.slice (some ⟨w.heap.size + 1 + 1, 0, none⟩) 4 4] W fun e w' => e = .returned .nilIface ∧ w' = W) := fun W h => join_none h0 (by simp) _ 4 W h.row h.lt
            have H0 := Lib.hid h0
            clear h0
            have hA0 := Lib.hid hA9.out.drew
            have HB9 := Lib.hid hA9.out.2.2.2
            obtain ⟨⟨c0, c1, c2, c3, c4, c5, c6, c7⟩, f0, f1, f2, f3, f4, f5, f6, f7⟩ := eight hA9.out.2.1
            obtain ⟨⟨a0, a1, a2, a3, a4, a5, a6, a7⟩, b0, b1, b2, b3, b4, b5, b6, b7⟩ := eight hA9.out.1
            go_region_with (go_at_call 74; refine (JN.out _ ?hA).mono ?_; (case hA => first | exact hA9.out | exact hA0.out); rintro e w' ⟨rfl, rfl⟩)
            all_goals
              go_wp2_with fail
              refine bodyPost_ret (v := .tuple #[srcV 3 ⟨#[]⟩ 0 sc ho wi po pa, .nilIface]) ?_ rfl ?_
              · rw [results_cell_tmp rfl]
                go_simp
                rfl
              · refine ⟨.inl ⟨H0.out, rfl⟩, ?_⟩
                repeat' first
                  | with_reducible exact HB9.out
                  | with_reducible refine Below.drew ?_
                  | with_reducible refine Below.setCell ?_ (by exact Nat.le_refl _) _
          · have JS : Hid (∀ W, HAt w.heap.size w W sc ho wi po pa (encE e0) (encE e1) (encE (some (t2, v2))) (encE e3) → Calls Tryd.prog 74 #[.slice (some ⟨w.heap.size + 1 + 1, 0, none⟩) 4 4] W fun e w' => ∃ jj, e = .returned (.iface 147 (.pointer (some ⟨jj, 0, none⟩))) ∧ Hid (JoinAt W jj (okE [e0, e1, (some (t2, v2)), e3]).length 4 [e0, e1, (some (t2, v2)), e3] w')) := fun W h => join_some h0 (by simp) _ 4 W h.row h.lt
            have H0 := Lib.hid h0
            clear h0
            have hA0 := Lib.hid hA9.out.drew
            have HB9 := Lib.hid hA9.out.2.2.2
            obtain ⟨⟨c0, c1, c2, c3, c4, c5, c6, c7⟩, f0, f1, f2, f3, f4, f5, f6, f7⟩ := eight hA9.out.2.1
            obtain ⟨⟨a0, a1, a2, a3, a4, a5, a6, a7⟩, b0, b1, b2, b3, b4, b5, b6, b7⟩ := eight hA9.out.1
            go_region_with (go_at_call 74; refine (JS.out _ ?hA).mono ?_; (case hA => first | exact hA9.out | exact hA0.out); rintro e wr ⟨jj, rfl, hj⟩; have hAr := Lib.hid (show HAt w.heap.size w wr sc ho wi po pa (encE e0) (encE e1) (encE (some (t2, v2))) (encE e3) from (by first | exact hA9.out.far hj.out.2.2.2.2.2 | exact hA0.out.far hj.out.2.2.2.2.2)); obtain ⟨⟨x0, x1, x2, x3, x4, x5, x6, x7⟩, y0, y1, y2, y3, y4, y5, y6, y7⟩ := eight hAr.out.2.1; obtain ⟨⟨z0, z1, z2, z3, z4, z5, z6, z7⟩, q0, q1, q2, q3, q4, q5, q6, q7⟩ := eight hAr.out.1)
            all_goals
              go_wp2_with fail
              refine bodyPost_ret (v := .tuple #[srcV 3 ⟨#[]⟩ 0 sc ho wi po pa, .iface 147 (.pointer (some ⟨jj, 0, none⟩))]) ?_ rfl ?_
              · rw [results_cell_tmp rfl]
                go_simp
                rfl
              · have hl := hA9.out.lt
                have hlr := Nat.lt_trans (Nat.lt_trans (Nat.lt_succ_self _) (Nat.lt_succ_self _)) hl
                refine ⟨.inr ⟨jj, H0.out, rfl, ?_⟩, ?_⟩
                · repeat' first
                    | with_reducible refine JOk.drew ?_
                    | exact joinAt_ok (by simp) hj.out H0.out (p := w.heap.size) (by simpa using hlr) _ _ _ _ _ _ _ _
                · have HBr := Lib.hid hAr.out.2.2.2
                  repeat' first
                    | with_reducible exact HBr.out
                    | with_reducible refine Below.drew ?_
                    | with_reducible refine Below.setCell ?_ (by exact Nat.le_refl _) _
end Go.Proofs.YteeplfbaflldaaaDoor.S25
