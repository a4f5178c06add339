/- The law SourcesValues. Made by tools/gen/lva25.py. -/
import Derived.Test.YteeplfbaflldaaaDoorLRd25
import Derived.Test.YteeplfbaflldaaaDoorSrcZ
import Derived.Test.YteeplfbaflldaaaDoorLVa0
import Derived.Test.YteeplfbaflldaaaDoorLVaR
import Derived.Deep.DeepCutAuto
import Derived.StillTailTactics
set_option linter.unusedVariables false
set_option linter.unusedSimpArgs false
namespace Go.Proofs.YteeplfbaflldaaaDoor.S25
open Go.RowKit Go.Extern.Stop Go.Stop Go.Extern T10

set_option maxHeartbeats 20000000 in
set_option maxRecDepth 100000 in
theorem sourcesValues_false (a0 : Option Addr) (c0 : Nat) (z : List UInt8) (which c : Int) (m : Int) (w : World) (h0 : SliceIn w (.slice a0 z.length c0) (byteV z)) (hn0 : 0 ≤ which) (hn1 : which ≤ 255) (hc0 : 0 ≤ c) (hc1 : c ≤ 255) (hE : EOk m w) (hpre : oddB c = false) :
    Calls Tryd.prog 10 #[.slice a0 z.length c0, .int .u8 which, .int .u8 c] w fun e w' => e = .returned (.bool true) ∧ Below w.heap.size w w' := by
  have HPRE := Lib.hid hpre
  clear hpre
  obtain ⟨VL, hVL⟩ : ∃ l, letG [43, 47, 45, 95] z = l := ⟨_, rfl⟩
  have hlt := letters_any _ z ⟨#[43, 47, 45, 95]⟩ w h0 (by decide)
  have hll := letG_len [43, 47, 45, 95] z
  have hval := b64_val z
  obtain ⟨k, hk⟩ : ∃ k, which.toNat % 5 = k := ⟨_, rfl⟩
  have hk5 : k < 5 := by rw [← hk]; exact Nat.mod_lt _ (by omega)
  have hwk : which % 5 = (k : Int) := by omega
  obtain ⟨h, hh⟩ : ∃ h, headsL[k]? = some h := ⟨_, List.getElem?_eq_getElem (l := headsL) (by simpa [headsL] using hk5)⟩
  obtain ⟨bt, hb⟩ : ∃ b, bitsL[k]? = some b := ⟨_, List.getElem?_eq_getElem (l := bitsL) (by simpa [bitsL] using hk5)⟩
  obtain ⟨cb, hcb⟩ : ∃ cb : UInt8, (cb.toNat : Int) = c := ⟨UInt8.ofNat c.toNat, by rw [UInt8.toNat_ofNat']; omega⟩
  have hp1 := val_parse hh hb hval
  have hodd := fun (ho : oddB c = true) (j : Nat) hj => val_odd hh z (c := cb) (by rw [hcb]; exact ho) (j := j) hj
  rw [hVL] at hll hval hp1 hodd
  have hlt2 : Calls Tryd.prog 20 #[.slice a0 z.length c0, .string ⟨#[43, 47, 45, 95]⟩] w fun e w' => e = .returned (.string (ba VL)) ∧ Below w.heap.size w w' := by rw [← hVL]; exact hlt
  obtain ⟨V, hV⟩ : ∃ V, ba VL = V := ⟨_, rfl⟩
  have hVs : V.size = VL.length := by rw [← hV, ba_size]
  have hhl := heads_len h (List.mem_of_getElem? hh)
  obtain ⟨Hd, hHd⟩ : ∃ H, ba h = H := ⟨_, rfl⟩
  have sH : Hd.size ≤ 7 := by rw [← hHd, ba_size]; exact hhl
  have sV : V.size ≤ 40 := by omega
  have sV1 : 1 ≤ V.size := by omega
  obtain ⟨q, hq⟩ : ∃ q, V.size / 2 = q := ⟨_, rfl⟩
  have hqv : q < V.size := by omega
  have hqi : (V.size : Int) / 2 = (q : Int) := by omega
  have hqt : (V.size : Int).tdiv 2 = (q : Int) := by rw [Int.tdiv_eq_ediv_of_nonneg (by omega)]; exact hqi
  have hq1 : (q : Int) ≤ V.size := by omega
  have hq0 : (0 : Int) ≤ q := by omega
  -- the first call
  have e1 : (⟨#[39]⟩ : ByteArray) ++ Hd ++ V ++ ⟨#[61, 39]⟩ = ba ([39] ++ h ++ (VL ++ [61]) ++ [39]) := by
    rw [← hHd, ← hV]
    show ba [39] ++ ba h ++ ba VL ++ ba [61, 39] = _
    rw [ba_app, ba_app, ba_app]; simp
  obtain ⟨kd, hkd⟩ : ∃ kd : Int, (if nonceK k = true then (4 : Int) else 5) = kd := ⟨_, rfl⟩
  rw [hkd] at hp1
  obtain ⟨VE, hVE⟩ : ∃ V, ba (VL ++ [61]) = V := ⟨_, rfl⟩
  have hVE2 : V ++ ⟨#[61]⟩ = VE := by
    rw [← hVE, ← hV]
    exact ba_app VL [61]
  have HP1 : Hid (∀ W, Below w.heap.size w W → Calls Tryd.prog 18 #[.string ((⟨#[39]⟩ : ByteArray) ++ Hd ++ V ++ ⟨#[61, 39]⟩)] W fun e w' => e = .returned (.tuple #[.agg #[.int .i64 kd, .string VE, .int .i64 bt, .string ⟨#[]⟩, .string ⟨#[]⟩, .bool false, .int .i64 (-1), .string ⟨#[]⟩], .int .i64 0]) ∧ Below W.heap.size W w') := fun W hB => by
    have := Parse_ok hp1 (by simp only [List.length_append, List.length_cons, List.length_nil]; omega) (hE.far hB (Nat.le_refl _))
    rw [e1, ← hVE]; exact this
  -- the second call
  have e2 : (⟨#[39]⟩ : ByteArray) ++ Hd ++ V.extract 0 q ++ ⟨#[cb]⟩ ++ V.extract q V.size ++ ⟨#[39]⟩ = ba ([39] ++ h ++ (VL.take q ++ [cb] ++ VL.drop q) ++ [39]) := by
    rw [ext_ba_take, ext_ba_drop, ← hHd, ← hV, ba_data]
    show ba [39] ++ ba h ++ ba (VL.take q) ++ ba [cb] ++ ba (VL.drop q) ++ ba [39] = _
    rw [ba_app, ba_app, ba_app, ba_app, ba_app]; simp
  obtain ⟨x2, f2, hx2, hf2⟩ := parse_parts_of ([39] ++ h ++ (VL.take q ++ [cb] ++ VL.drop q) ++ [39])
  have HF2 : Hid (oddB c = true → f2 = 250) := fun ho => hf2 (hodd ho q (by omega))
  have HP2 : Hid (∀ W, Below w.heap.size w W → Calls Tryd.prog 18 #[.string ((⟨#[39]⟩ : ByteArray) ++ Hd ++ V.extract 0 q ++ ⟨#[cb]⟩ ++ V.extract q V.size ++ ⟨#[39]⟩)] W fun e w' => e = .returned (.tuple #[.agg #[.int .i64 x2.kind, .string (ba x2.text), .int .i64 x2.bits, .string (ba x2.scheme), .string (ba x2.host), .bool x2.wild, .int .i64 x2.port, .string (ba x2.path)], .int .i64 f2]) ∧ Below W.heap.size W w') := fun W hB => by
    have hEW := hE.far hB (Nat.le_refl _)
    have := Parse_any (ba ([39] ++ h ++ (VL.take q ++ [cb] ++ VL.drop q) ++ [39])) m W (by rw [ba_size]; simp only [List.length_append, List.length_cons, List.length_nil, List.length_take, List.length_drop]; omega) hEW.1 hEW.2
    rw [ba_data, hx2] at this
    rw [e2]; exact this
  have HR : Hid (∀ W, Below w.heap.size w W → Calls Tryd.prog 17 #[] W fun e w' => e = .returned (.bool true) ∧ Below W.heap.size W w') := fun W hB => reads_any m W (hE.far hB (Nat.le_refl _))
  rw [hV] at hlt2
  have HLT := Lib.hid hlt2
  have HVE2 := Lib.hid hVE2
  have HKD := Lib.hid hkd
  have HHD : Hid (∀ (W : World) (g : Nat), W.heap[g]? = some (.cells #[.string ⟨#[110, 111, 110, 99, 101, 45]⟩, .string ⟨#[115, 104, 97, 50, 53, 54, 45]⟩, .string ⟨#[115, 104, 97, 51, 56, 52, 45]⟩, .string ⟨#[83, 72, 65, 53, 49, 50, 45]⟩, .string ⟨#[78, 79, 78, 67, 69, 45]⟩] 9 (0, 0)) → W.cell? ⟨g, k, none⟩ = some (.string Hd)) := by
    intro W g hg
    rw [Lib.cell_of_heap hg, ← hHd]
    match k, hh with
    | 0, hh => obtain rfl := Option.some.inj hh; rfl
    | 1, hh => obtain rfl := Option.some.inj hh; rfl
    | 2, hh => obtain rfl := Option.some.inj hh; rfl
    | 3, hh => obtain rfl := Option.some.inj hh; rfl
    | 4, hh => obtain rfl := Option.some.inj hh; rfl
    | k + 5, hh => cases hh
  have HBT : Hid (∀ (W : World) (g : Nat), W.heap[g]? = some (.cells #[.int .i64 0, .int .i64 256, .int .i64 384, .int .i64 512, .int .i64 0] 3 (0, 0)) → W.cell? ⟨g, k, none⟩ = some (.int .i64 bt)) := by
    intro W g hg
    rw [Lib.cell_of_heap hg]
    match k, hb with
    | 0, hb => obtain rfl := Option.some.inj hb; rfl
    | 1, hb => obtain rfl := Option.some.inj hb; rfl
    | 2, hb => obtain rfl := Option.some.inj hb; rfl
    | 3, hb => obtain rfl := Option.some.inj hb; rfl
    | 4, hb => obtain rfl := Option.some.inj hb; rfl
    | k + 5, hb => cases hb
  have hki : (k : Int) < 5 := by omega
  have hki0 : (0 : Int) ≤ k := by omega
  clear hVL hlt hll hval hk hh hb hp1 hodd hlt2 hV hVs hhl hHd hq hqv e1 hkd hVE hVE2 e2 hx2 hf2 hE h0 hk5 sV1
  go_enter Tryd.func10, Tryd.ntmps10
  go_upto_region 2 with (go_at_call 20; refine HLT.out.mono ?_; rintro e w1 ⟨rfl, b1⟩; have HB1 := Lib.hid b1; clear b1)
  go_upto_region 3 with fail
  obtain ⟨W2, hW2⟩ : ∃ W, W = w1.alloc (.cells #[.string ⟨#[110, 111, 110, 99, 101, 45]⟩, .string ⟨#[115, 104, 97, 50, 53, 54, 45]⟩, .string ⟨#[115, 104, 97, 51, 56, 52, 45]⟩, .string ⟨#[83, 72, 65, 53, 49, 50, 45]⟩, .string ⟨#[78, 79, 78, 67, 69, 45]⟩] 9) := ⟨_, rfl⟩
  have k2 : W2.heap[w1.heap.size]? = some (.cells #[.string ⟨#[110, 111, 110, 99, 101, 45]⟩, .string ⟨#[115, 104, 97, 50, 53, 54, 45]⟩, .string ⟨#[115, 104, 97, 51, 56, 52, 45]⟩, .string ⟨#[83, 72, 65, 53, 49, 50, 45]⟩, .string ⟨#[78, 79, 78, 67, 69, 45]⟩] 9 (0, 0)) := by rw [hW2]; exact heap_alloc_new w1 _
  have HB2 : Hid (Below w.heap.size w W2) := by
    show Below _ _ _
    rw [hW2]; exact HB1.out.alloc HB1.out.size _
  have K2 := Lib.hid k2
  rw [← hW2]
  clear hW2 k2
  have hcell := HHD.out W2 _ K2.out
  go_upto_region 5 with (go_at_call 18; refine (HP1.out _ HB2.out).mono ?_; rintro e v3 ⟨rfl, b3⟩; have HV3 := Lib.hid b3; clear b3)
  obtain ⟨W3, hW3⟩ : ∃ W, W = v3.alloc (.cells #[.int .i64 kd, .string VE, .int .i64 bt, .string ⟨#[]⟩, .string ⟨#[]⟩, .bool false, .int .i64 (-1), .string ⟨#[]⟩] 41) := ⟨_, rfl⟩
  have HB23 : Hid (Below W2.heap.size W2 W3) := by
    show Below _ _ _
    rw [hW3]; exact HV3.out.alloc HV3.out.size _
  have HB3 : Hid (Below w.heap.size w W3) := HB2.out.trans (HB23.out.mono HB2.out.size)
  have K3 : Hid (W3.heap[v3.heap.size]? = some (.cells #[.int .i64 kd, .string VE, .int .i64 bt, .string ⟨#[]⟩, .string ⟨#[]⟩, .bool false, .int .i64 (-1), .string ⟨#[]⟩] 41 (0, 0))) := by
    show _ = _
    rw [hW3]; exact heap_alloc_new v3 _
  rw [← hW3]
  clear hW3 hcell
  have hcell3 := HHD.out W3 _ ((HB23.out.block _ (lt_of_heap K2.out)).trans K2.out)
  subst hcb
  obtain ⟨c, hcc⟩ : ∃ c : Int, (cb.toNat : Int) = c := ⟨_, rfl⟩
  have HCC := Lib.hid hcc
  rw [hcc] at HF2 HPRE hc0 hc1 ⊢
  clear hcc
  obtain ⟨od, hod⟩ : ∃ b, oddB c = b := ⟨_, rfl⟩
  have HOD := Lib.hid hod
  clear hod
  go_cut [12] (fun v wc => v = .bool od ∧ W3 = wc)
  case first =>
    have HC3 := Lib.hid hcell3
    clear hcell3 hqi hqt hq1 hq0 hki hki0 hwk hn0 hn1
    rcases (by omega : (0 ≤ c ∧ c ≤ 42) ∨ (43 ≤ c ∧ c ≤ 43) ∨ (44 ≤ c ∧ c ≤ 44) ∨ (45 ≤ c ∧ c ≤ 45) ∨ (46 ≤ c ∧ c ≤ 46) ∨ (47 ≤ c ∧ c ≤ 57) ∨ (58 ≤ c ∧ c ≤ 60) ∨ (61 ≤ c ∧ c ≤ 61) ∨ (62 ≤ c ∧ c ≤ 64) ∨ (65 ≤ c ∧ c ≤ 90) ∨ (91 ≤ c ∧ c ≤ 94) ∨ (95 ≤ c ∧ c ≤ 95) ∨ (96 ≤ c ∧ c ≤ 96) ∨ (97 ≤ c ∧ c ≤ 122) ∨ (123 ≤ c ∧ c ≤ 255)) with ⟨u1, u2⟩ | ⟨u1, u2⟩ | ⟨u1, u2⟩ | ⟨u1, u2⟩ | ⟨u1, u2⟩ | ⟨u1, u2⟩ | ⟨u1, u2⟩ | ⟨u1, u2⟩ | ⟨u1, u2⟩ | ⟨u1, u2⟩ | ⟨u1, u2⟩ | ⟨u1, u2⟩ | ⟨u1, u2⟩ | ⟨u1, u2⟩ | ⟨u1, u2⟩
    · have t1 : c < 43 := by omega
      have t2 : ¬ 122 < c := by omega
      have t3 : (c == 44) = false := by rw [beq_eq_false_iff_ne]; omega
      have t4 : (c == 46) = false := by rw [beq_eq_false_iff_ne]; omega
      have t5 : ¬ 57 < c := by omega
      have t6 : c < 65 := by omega
      have t7 : (c == 61) = false := by rw [beq_eq_false_iff_ne]; omega
      have t8 : ¬ 90 < c := by omega
      have t9 : c < 97 := by omega
      have t10 : (c == 95) = false := by rw [beq_eq_false_iff_ne]; omega
      have hO : oddB c = true := by
        unfold oddB; simp [t1, t2, t3, t4, t5, t6, t7, t8, t9, t10]
      have HO := Lib.hid hO
      clear hO
      exact absurd (HO.out.symm.trans HPRE.out) (by decide)
    · obtain rfl : c = 43 := by omega
      have HO := Lib.hid (show oddB 43 = false by decide)
      go_wp2_with fail
      go_meet
      exact ⟨by rw [← HOD.out, HO.out], rfl⟩
    · obtain rfl : c = 44 := by omega
      have HO := Lib.hid (show oddB 44 = true by decide)
      exact absurd (HO.out.symm.trans HPRE.out) (by decide)
    · obtain rfl : c = 45 := by omega
      have HO := Lib.hid (show oddB 45 = false by decide)
      go_wp2_with fail
      go_meet
      exact ⟨by rw [← HOD.out, HO.out], rfl⟩
    · obtain rfl : c = 46 := by omega
      have HO := Lib.hid (show oddB 46 = true by decide)
      exact absurd (HO.out.symm.trans HPRE.out) (by decide)
    · have t1 : ¬ c < 43 := by omega
      have t2 : ¬ 122 < c := by omega
      have t3 : (c == 44) = false := by rw [beq_eq_false_iff_ne]; omega
      have t4 : (c == 46) = false := by rw [beq_eq_false_iff_ne]; omega
      have t5 : ¬ 57 < c := by omega
      have t6 : c < 65 := by omega
      have t7 : (c == 61) = false := by rw [beq_eq_false_iff_ne]; omega
      have t8 : ¬ 90 < c := by omega
      have t9 : c < 97 := by omega
      have t10 : (c == 95) = false := by rw [beq_eq_false_iff_ne]; omega
      have hO : oddB c = false := by
        unfold oddB; simp [t1, t2, t3, t4, t5, t6, t7, t8, t9, t10]
      have HO := Lib.hid hO
      clear hO
      go_wp2_with fail
      go_meet
      refine ⟨?_, rfl⟩
      rw [← HOD.out, HO.out]
      all_goals simp [bne, t7, t10]
    · have t1 : ¬ c < 43 := by omega
      have t2 : ¬ 122 < c := by omega
      have t3 : (c == 44) = false := by rw [beq_eq_false_iff_ne]; omega
      have t4 : (c == 46) = false := by rw [beq_eq_false_iff_ne]; omega
      have t5 : 57 < c := by omega
      have t6 : c < 65 := by omega
      have t7 : (c == 61) = false := by rw [beq_eq_false_iff_ne]; omega
      have t8 : ¬ 90 < c := by omega
      have t9 : c < 97 := by omega
      have t10 : (c == 95) = false := by rw [beq_eq_false_iff_ne]; omega
      have hO : oddB c = true := by
        unfold oddB; simp [t1, t2, t3, t4, t5, t6, t7, t8, t9, t10]
      have HO := Lib.hid hO
      clear hO
      exact absurd (HO.out.symm.trans HPRE.out) (by decide)
    · obtain rfl : c = 61 := by omega
      have HO := Lib.hid (show oddB 61 = false by decide)
      go_wp2_with fail
      go_meet
      exact ⟨by rw [← HOD.out, HO.out], rfl⟩
    · have t1 : ¬ c < 43 := by omega
      have t2 : ¬ 122 < c := by omega
      have t3 : (c == 44) = false := by rw [beq_eq_false_iff_ne]; omega
      have t4 : (c == 46) = false := by rw [beq_eq_false_iff_ne]; omega
      have t5 : 57 < c := by omega
      have t6 : c < 65 := by omega
      have t7 : (c == 61) = false := by rw [beq_eq_false_iff_ne]; omega
      have t8 : ¬ 90 < c := by omega
      have t9 : c < 97 := by omega
      have t10 : (c == 95) = false := by rw [beq_eq_false_iff_ne]; omega
      have hO : oddB c = true := by
        unfold oddB; simp [t1, t2, t3, t4, t5, t6, t7, t8, t9, t10]
      have HO := Lib.hid hO
      clear hO
      exact absurd (HO.out.symm.trans HPRE.out) (by decide)
    · have t1 : ¬ c < 43 := by omega
      have t2 : ¬ 122 < c := by omega
      have t3 : (c == 44) = false := by rw [beq_eq_false_iff_ne]; omega
      have t4 : (c == 46) = false := by rw [beq_eq_false_iff_ne]; omega
      have t5 : 57 < c := by omega
      have t6 : ¬ c < 65 := by omega
      have t7 : (c == 61) = false := by rw [beq_eq_false_iff_ne]; omega
      have t8 : ¬ 90 < c := by omega
      have t9 : c < 97 := by omega
      have t10 : (c == 95) = false := by rw [beq_eq_false_iff_ne]; omega
      have hO : oddB c = false := by
        unfold oddB; simp [t1, t2, t3, t4, t5, t6, t7, t8, t9, t10]
      have HO := Lib.hid hO
      clear hO
      go_wp2_with fail
      go_meet
      refine ⟨?_, rfl⟩
      rw [← HOD.out, HO.out]
      all_goals simp [bne, t7, t10]
    · have t1 : ¬ c < 43 := by omega
      have t2 : ¬ 122 < c := by omega
      have t3 : (c == 44) = false := by rw [beq_eq_false_iff_ne]; omega
      have t4 : (c == 46) = false := by rw [beq_eq_false_iff_ne]; omega
      have t5 : 57 < c := by omega
      have t6 : ¬ c < 65 := by omega
      have t7 : (c == 61) = false := by rw [beq_eq_false_iff_ne]; omega
      have t8 : 90 < c := by omega
      have t9 : c < 97 := by omega
      have t10 : (c == 95) = false := by rw [beq_eq_false_iff_ne]; omega
      have hO : oddB c = true := by
        unfold oddB; simp [t1, t2, t3, t4, t5, t6, t7, t8, t9, t10]
      have HO := Lib.hid hO
      clear hO
      exact absurd (HO.out.symm.trans HPRE.out) (by decide)
    · obtain rfl : c = 95 := by omega
      have HO := Lib.hid (show oddB 95 = false by decide)
      go_wp2_with fail
      go_meet
      exact ⟨by rw [← HOD.out, HO.out], rfl⟩
    · obtain rfl : c = 96 := by omega
      have HO := Lib.hid (show oddB 96 = true by decide)
      exact absurd (HO.out.symm.trans HPRE.out) (by decide)
    · have t1 : ¬ c < 43 := by omega
      have t2 : ¬ 122 < c := by omega
      have t3 : (c == 44) = false := by rw [beq_eq_false_iff_ne]; omega
      have t4 : (c == 46) = false := by rw [beq_eq_false_iff_ne]; omega
      have t5 : 57 < c := by omega
      have t6 : ¬ c < 65 := by omega
      have t7 : (c == 61) = false := by rw [beq_eq_false_iff_ne]; omega
      have t8 : 90 < c := by omega
      have t9 : ¬ c < 97 := by omega
      have t10 : (c == 95) = false := by rw [beq_eq_false_iff_ne]; omega
      have hO : oddB c = false := by
        unfold oddB; simp [t1, t2, t3, t4, t5, t6, t7, t8, t9, t10]
      have HO := Lib.hid hO
      clear hO
      go_wp2_with fail
      go_meet
      refine ⟨?_, rfl⟩
      rw [← HOD.out, HO.out]
      all_goals simp [bne, t7, t10]
    · have t1 : ¬ c < 43 := by omega
      have t2 : 122 < c := by omega
      have t3 : (c == 44) = false := by rw [beq_eq_false_iff_ne]; omega
      have t4 : (c == 46) = false := by rw [beq_eq_false_iff_ne]; omega
      have t5 : 57 < c := by omega
      have t6 : ¬ c < 65 := by omega
      have t7 : (c == 61) = false := by rw [beq_eq_false_iff_ne]; omega
      have t8 : 90 < c := by omega
      have t9 : ¬ c < 97 := by omega
      have t10 : (c == 95) = false := by rw [beq_eq_false_iff_ne]; omega
      have hO : oddB c = true := by
        unfold oddB; simp [t1, t2, t3, t4, t5, t6, t7, t8, t9, t10]
      have HO := Lib.hid hO
      clear hO
      exact absurd (HO.out.symm.trans HPRE.out) (by decide)

  case rest =>
    obtain ⟨rfl, rfl⟩ := hcut
    have hlt3 := lt_of_heap K3.out
    go_upto_region 6 with fail
    go_cut [14] (fun e wc => e = .int .i64 f2 ∧ Hid (Below W3.heap.size W3 wc))
    case first =>
      have hcc := HCC.out
      subst hcc
      refine reg_out (r6_any _ rfl _ cb V Hd w1.heap.size k q w W3 x2 f2 sH sV hqi hqt hq1 hq0 hki hki0 HB3 hcell3 HP2 ?_)
      intro u13 u73 u74 u75 u76 u77 u78 u79 u80 u81 u82 u83 u84 u85 u86 u87 u88 u89 u90 u91 u92 u93 u94 u95 u96 u97 u98 W' hb
      first
        | (go_step; go_meet)
        | (refine Met.intro ?_; go_step; go_meet)
      exact ⟨rfl, hb⟩
    case rest =>
      obtain ⟨rfl, HBc⟩ := hcut
      obtain ⟨nn, hnn⟩ : ∃ b, nonceK k = b := ⟨_, rfl⟩
      have HNN := Lib.hid hnn
      clear hnn
      go_upto_region 7 with fail
      go_cut [15] (fun v wd => v = .bool nn ∧ wc = wd)
      case first =>
        have hkn : k = 0 ∨ k = 4 ∨ (k ≠ 0 ∧ k ≠ 4) := by omega
        rcases hkn with hk0 | hk4 | ⟨hk0, hk4⟩
        · have t1 : ((k : Int) == 0) = true := by rw [beq_iff_eq]; omega
          have hv : nn = true := by rw [← HNN.out, hk0]; rfl
          subst hv
          clear hk0
          go_wp2_with fail
          go_meet
          exact ⟨rfl, rfl⟩
        · have t1 : ((k : Int) == 0) = false := by rw [beq_eq_false_iff_ne]; omega
          have t2 : ((k : Int) == 4) = true := by rw [beq_iff_eq]; omega
          have hv : nn = true := by rw [← HNN.out, hk4]; rfl
          subst hv
          clear hk4
          go_wp2_with fail
          go_meet
          exact ⟨rfl, rfl⟩
        · have t1 : ((k : Int) == 0) = false := by rw [beq_eq_false_iff_ne]; omega
          have t2 : ((k : Int) == 4) = false := by rw [beq_eq_false_iff_ne]; omega
          have hv : nn = false := by rw [← HNN.out]; unfold nonceK; rw [beq_eq_false_iff_ne.2 hk0, beq_eq_false_iff_ne.2 hk4]; rfl
          subst hv
          clear hk0 hk4
          go_wp2_with fail
          go_meet
          exact ⟨rfl, rfl⟩
      case rest =>
        obtain ⟨rfl, rfl⟩ := hcut
        go_upto_region 9 with fail
        obtain ⟨W5, hW5⟩ : ∃ W, W = wc.alloc (.cells #[.int .i64 0, .int .i64 256, .int .i64 384, .int .i64 512, .int .i64 0] 3) := ⟨_, rfl⟩
        have k5 : W5.heap[wc.heap.size]? = some (.cells #[.int .i64 0, .int .i64 256, .int .i64 384, .int .i64 512, .int .i64 0] 3 (0, 0)) := by rw [hW5]; exact heap_alloc_new wc _
        have B35 : Below W3.heap.size W3 W5 := by rw [hW5]; exact HBc.out.alloc HBc.out.size _
        have HB5 : Hid (Below w.heap.size w W5) := HB3.out.trans (B35.mono HB3.out.size)
        have hbit := HBT.out W5 _ k5
        have kx := (B35.block _ hlt3).trans K3.out
        obtain ⟨⟨d0, d1, d2, d3, d4, d5, d6, d7⟩, g0, g1, g2, g3, g4, g5, g6, g7⟩ := eight kx
        rw [← hW5]
        have HD5 : Hid (Below w.heap.size w W5.drew) := HB5.out.drew
        have hve := HVE2.out
        have hkd := HKD.out
        rw [HNN.out] at hkd
        have hsz : ¬ 9223372036854775807 < V.size + 1 := by omega
        have sVE : VE.size ≤ 41 := by rw [← hve]; simp; show V.size + 1 ≤ 41; omega
        clear hW5 k5 B35 kx HBT HHD HB23 K3 HKD HVE2 HLT HP1 HP2 HCC HB1 HB2 K2 HV3 HBc hcell3 hqi hqt hq1 hq0 HNN g0 g1 g2 g3 g4 g5 g6 g7 d3 d4 d5 d6 d7
        have hk4 : (kd == 4) = nn := by rw [← hkd]; cases nn <;> rfl
        have hk5 : (kd == 5) = !nn := by rw [← hkd]; cases nn <;> rfl
        clear hkd
        obtain rfl : od = false := HOD.out.symm.trans HPRE.out
        clear HF2
        go_still_tail 42, (by kernel_rfl)
        change wpList _ _ _ _ _ W5.drew
        generalize W5.drew = w6 at HD5 ⊢
        go_wp2_with (go_at_call 17; refine (HR.out _ HD5.out).mono ?_; rintro e w7 ⟨rfl, b7⟩; have HB7 := Lib.hid (HD5.out.trans (b7.mono HD5.out.size)); clear b7)
        go_ret
        exact ⟨by exact rfl, HB7.out⟩
end Go.Proofs.YteeplfbaflldaaaDoor.S25
