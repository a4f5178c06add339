/- lazaretref25: Text. -/
import Derived.Test.YteeplfbaflldaaaGreatDoorRs11
set_option linter.unusedVariables false
set_option linter.unusedSimpArgs false
namespace Go.Proofs.YteeplfbaflldaaaGreatDoor.S25
open Go.RowKit Go.Extern.Stop Go.Stop Go.Extern T10

theorem app_empty (A : ByteArray) : A ++ (⟨#[]⟩ : ByteArray) = A := by
  apply ByteArray.ext
  rw [ByteArray.data_append]
  simp
set_option maxHeartbeats 3200000 in
set_option maxRecDepth 100000 in
theorem rtext_any (x : SrcL) (w : World) (hT : PTab w) (hx : SrcOk x) :
    Calls Tryz.prog 8 #[srcW x] w fun e w' => e = .returned (.string (ba (textS x))) ∧ Below w.heap.size w w' := by
  obtain ⟨W1, hW1⟩ : ∃ W1, W1 = w.alloc (.cells #[.int .i64 x.kind, .string (ba x.text), .int .i64 x.bits, .string (ba x.scheme), .string (ba x.host), .bool x.wild, .int .i64 x.port, .string (ba x.path)] 24) := ⟨_, rfl⟩
  have B1 : Below w.heap.size w W1 := by rw [hW1]; exact (Below.refl _ w).alloc (Nat.le_refl _) _
  have k0 : W1.heap[w.heap.size]? = some (.cells #[.int .i64 x.kind, .string (ba x.text), .int .i64 x.bits, .string (ba x.scheme), .string (ba x.host), .bool x.wild, .int .i64 x.port, .string (ba x.path)] 24 (0, 0)) := by rw [hW1]; exact heap_alloc_new w _
  have hlt1 : w.heap.size < W1.heap.size := by rw [hW1]; simp
  have T1 := hT.far B1 (Nat.le_refl _)
  obtain ⟨q1, q2, q3, q4, q5, q6, q7, q8⟩ := hx
  have hit : Hid (∀ W, Below W1.heap.size W1 W → Calls Tryz.prog 15 #[.int .i64 x.bits] W fun e w' => e = .returned (.string (ba (Lib.itoa x.bits))) ∧ Below W.heap.size W w') := fun W hB => itoa_any x.bits q7 q8 W (T1.far hB (Nat.le_refl _))
  have HI : Hid (ba (Lib.itoa x.bits) = ba (Lib.itoa x.bits)) := rfl
  have HB1 := Lib.hid B1
  have HK0 := Lib.hid k0
  have HW := Lib.hid hW1
  obtain ⟨⟨c0, c1, c2, c3, c4, c5, c6, c7⟩, f0, f1, f2, f3, f4, f5, f6, f7⟩ := eight k0
  have hil : (ba (Lib.itoa x.bits)).size ≤ 21 := by rw [ba_size]; exact Lib.itoa_length_le x.bits q7 q8
  obtain ⟨IT, hIT⟩ : ∃ IT, ba (Lib.itoa x.bits) = IT := ⟨_, rfl⟩
  rw [hIT] at hit hil
  have HIT := Lib.hid hIT
  have z1 : (ba x.text).size ≤ 1000000 := by rw [ba_size]; exact q1
  have z2 : (ba x.scheme).size ≤ 1000000 := by rw [ba_size]; exact q2
  have z3 : (ba x.host).size ≤ 1000000 := by rw [ba_size]; exact q3
  have z4 : (ba x.path).size ≤ 1000000 := by rw [ba_size]; exact q4
  have hip : Hid (∀ W, Below W1.heap.size W1 W → Calls Tryz.prog 15 #[.int .i64 x.port] W fun e w' => e = .returned (.string (ba (Lib.itoa x.port))) ∧ Below W.heap.size W w') := fun W hB => itoa_any x.port q5 q6 W (T1.far hB (Nat.le_refl _))
  have hilp : (ba (Lib.itoa x.port)).size ≤ 21 := by rw [ba_size]; exact Lib.itoa_length_le x.port q5 q6
  clear hIT B1 k0 hW1 hT T1 HI q1 q2 q3 q4 q7 q8
  by_cases k1 : x.kind = 1
  · have t1 : (x.kind == 1) = true := by rw [beq_iff_eq]; exact k1
    have HE : Hid (ba (textS x) = ⟨#[39]⟩ ++ ba x.text ++ ⟨#[39]⟩) := by
      show _ = ba [39] ++ ba x.text ++ ba [39]
      rw [ba_app, ba_app]; unfold textS; rw [if_pos k1]
    rw [HE.out]
    clear k1
    unfold srcW srcV
    go_enter Tryz.func8, Tryz.ntmps8
    go_upto_region 1 with fail
    rw [← HW.out]
    go_wp2_with fail
    go_ret
    exact ⟨rfl, HB1.out⟩
  · have t1 : (x.kind == 1) = false := by rw [beq_eq_false_iff_ne]; exact k1
    by_cases k4 : x.kind = 4
    · have t4 : (x.kind == 4) = true := by rw [beq_iff_eq]; exact k4
      have HE : Hid (ba (textS x) = ⟨#[39, 110, 111, 110, 99, 101, 45]⟩ ++ ba x.text ++ ⟨#[39]⟩) := by
        show _ = ba [39, 110, 111, 110, 99, 101, 45] ++ ba x.text ++ ba [39]
        rw [ba_app, ba_app]; unfold textS; rw [if_neg k1, if_pos k4]
      rw [HE.out]
      clear k1 k4
      unfold srcW srcV
      go_enter Tryz.func8, Tryz.ntmps8
      go_upto_region 1 with fail
      rw [← HW.out]
      go_wp2_with fail
      go_ret
      exact ⟨rfl, HB1.out⟩
    · have t4 : (x.kind == 4) = false := by rw [beq_eq_false_iff_ne]; exact k4
      by_cases k5 : x.kind = 5
      · have t5 : (x.kind == 5) = true := by rw [beq_iff_eq]; exact k5
        have HE : Hid (ba (textS x) = ⟨#[39, 115, 104, 97]⟩ ++ IT ++ ⟨#[45]⟩ ++ ba x.text ++ ⟨#[39]⟩) := by
          show _ = ba [39, 115, 104, 97] ++ IT ++ ba [45] ++ ba x.text ++ ba [39]
          rw [← HIT.out, ba_app, ba_app, ba_app, ba_app]; unfold textS; rw [if_neg k1, if_neg k4, if_pos k5]
        rw [HE.out]
        clear k1 k4 k5
        unfold srcW srcV
        go_enter Tryz.func8, Tryz.ntmps8
        go_upto_region 1 with fail
        rw [← HW.out]
        go_upto_region 6 with fail
        have HD : Hid (Below W1.heap.size W1 W1.drew) := (Below.refl _ W1).drew
        go_region_with (go_at_call 15; refine (hit.out _ ?hA).mono ?_; (case hA => first | exact Below.refl _ _ | exact HD.out | exact HD.out.drew); rintro e w2 ⟨rfl, b2⟩; have HB2 := Lib.hid (show Below W1.heap.size W1 w2 from (by first | exact b2 | exact HD.out.trans b2 | exact HD.out.drew.trans b2)); clear b2; obtain ⟨⟨d0, d1, d2, d3, d4, d5, d6, d7⟩, g0, g1, g2, g3, g4, g5, g6, g7⟩ := eight ((HB2.out.block _ hlt1).trans HK0.out))
        all_goals
          go_wp2_with fail
          go_ret
          exact ⟨rfl, HB1.out.trans (HB2.out.mono (Nat.le_of_lt hlt1))⟩
      · have t5 : (x.kind == 5) = false := by rw [beq_eq_false_iff_ne]; exact k5
        by_cases k2 : x.kind = 2
        · have t2 : (x.kind == 2) = true := by rw [beq_iff_eq]; exact k2
          have HE : Hid (ba (textS x) = ba x.scheme ++ ⟨#[58]⟩) := by
            show _ = ba x.scheme ++ ba [58]
            rw [ba_app]; unfold textS; rw [if_neg k1, if_neg k4, if_neg k5, if_pos k2]
          rw [HE.out]
          clear k1 k4 k5 k2
          unfold srcW srcV
          go_enter Tryz.func8, Tryz.ntmps8
          go_upto_region 1 with fail
          rw [← HW.out]
          go_wp2_with fail
          go_ret
          exact ⟨rfl, HB1.out⟩
        · have t2 : (x.kind == 2) = false := by rw [beq_eq_false_iff_ne]; exact k2
          by_cases k3 : x.kind = 3
          · have t3 : (x.kind == 3) = true := by rw [beq_iff_eq]; exact k3
            have HE : Hid (ba (textS x) = schemeB (ba x.scheme) (hostB (ba x.host) x.wild) ++ ba (portT x.port) ++ ba x.path) := by
              show _ = _
              rw [hostB_ba, schemeB_ba, ba_app, ba_app]
              unfold textS; rw [if_neg k1, if_neg k4, if_neg k5, if_neg k2, if_pos k3, hostT_eq]
            rw [HE.out]
            clear k1 k4 k5 k2 k3
            obtain ⟨IP, hIP⟩ : ∃ I, ba (Lib.itoa x.port) = I := ⟨_, rfl⟩
            rw [hIP] at hip hilp
            have HPT : Hid ((x.port = -2 ∧ ba (portT x.port) = ⟨#[58, 42]⟩) ∨ (x.port < 0 ∧ x.port ≠ -2 ∧ ba (portT x.port) = ⟨#[]⟩) ∨ (0 ≤ x.port ∧ ba (portT x.port) = ⟨#[58]⟩ ++ IP)) := by
              by_cases h1 : x.port = -2
              · exact .inl ⟨h1, by unfold portT; rw [if_pos h1]; rfl⟩
              · by_cases h2 : 0 ≤ x.port
                · refine .inr (.inr ⟨h2, ?_⟩)
                  unfold portT
                  rw [if_neg h1, if_pos h2, ← hIP]
                  exact (ba_app [58] _).symm
                · refine .inr (.inl ⟨by omega, h1, ?_⟩)
                  unfold portT
                  rw [if_neg h1, if_neg h2]; rfl
            clear hIP
            unfold srcW srcV schemeB hostB
            rcases HPT.out with ⟨h1, h2⟩ | ⟨h1, h3, h2⟩ | ⟨h1, h2⟩
            · have t6 : (x.port == -2) = true := by rw [beq_iff_eq]; exact h1
              have t7 : ¬ 0 ≤ x.port := by omega
              rw [h2]
              clear h1 h2
              cases hs : (ba x.scheme).data.toList.isEmpty <;> cases hwq : x.wild <;> cases hh : (ba x.host).data.toList.isEmpty
              all_goals
                have e1 := empty_eq hs
                have e2 := empty_eq hh
                clear hs hh
                rw [hwq] at HW HK0 c5
                go_enter Tryz.func8, Tryz.ntmps8
                go_upto_region 1 with fail
                rw [← HW.out]
                go_wp2_with fail
                go_ret
                exact ⟨by exact rfl, HB1.out⟩
            · have t6 : (x.port == -2) = false := by rw [beq_eq_false_iff_ne]; exact h3
              have t7 : ¬ 0 ≤ x.port := by omega
              rw [h2, app_empty]
              clear h1 h3 h2
              cases hs : (ba x.scheme).data.toList.isEmpty <;> cases hwq : x.wild <;> cases hh : (ba x.host).data.toList.isEmpty
              all_goals
                have e1 := empty_eq hs
                have e2 := empty_eq hh
                clear hs hh
                rw [hwq] at HW HK0 c5
                go_enter Tryz.func8, Tryz.ntmps8
                go_upto_region 1 with fail
                rw [← HW.out]
                go_wp2_with fail
                go_ret
                exact ⟨by exact rfl, HB1.out⟩
            · have t6 : (x.port == -2) = false := by rw [beq_eq_false_iff_ne]; omega
              have t7 : 0 ≤ x.port := by omega
              rw [h2, ← ByteArray.append_assoc]
              clear h1 h2
              cases hs : (ba x.scheme).data.toList.isEmpty <;> cases hwq : x.wild <;> cases hh : (ba x.host).data.toList.isEmpty
              all_goals
                have e1 := empty_eq hs
                have e2 := empty_eq hh
                clear hs hh
                rw [hwq] at HW HK0 c5
                go_enter Tryz.func8, Tryz.ntmps8
                go_upto_region 1 with fail
                rw [← HW.out]
                go_wp2_with (go_at_call 15; refine (hip.out _ (Below.refl _ _)).mono ?_; rintro e w2 ⟨rfl, b2⟩; have HB2 := Lib.hid b2; clear b2; obtain ⟨⟨d0, d1, d2, d3, d4, d5, d6, d7⟩, g0, g1, g2, g3, g4, g5, g6, g7⟩ := eight ((HB2.out.block _ hlt1).trans HK0.out))
                go_ret
                exact ⟨by exact rfl, HB1.out.trans (HB2.out.mono (Nat.le_of_lt hlt1))⟩
          · have t3 : (x.kind == 3) = false := by rw [beq_eq_false_iff_ne]; exact k3
            have HE : Hid (ba (textS x) = ⟨#[]⟩) := by
              show _ = _
              unfold textS; rw [if_neg k1, if_neg k4, if_neg k5, if_neg k2, if_neg k3]; rfl
            rw [HE.out]
            clear k1 k4 k5 k2 k3
            unfold srcW srcV
            go_enter Tryz.func8, Tryz.ntmps8
            go_upto_region 1 with fail
            rw [← HW.out]
            go_wp2_with fail
            go_ret
            exact ⟨rfl, HB1.out⟩
end Go.Proofs.YteeplfbaflldaaaGreatDoor.S25
