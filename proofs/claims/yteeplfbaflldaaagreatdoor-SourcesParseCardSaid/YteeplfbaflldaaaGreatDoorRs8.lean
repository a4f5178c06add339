/- lazaretref25: host, by what it calls. -/
import Derived.Test.YteeplfbaflldaaaGreatDoorRs7
import Derived.Test.YteeplfbaflldaaaGreatDoorSrcH
import Derived.StillTailTactics
set_option linter.unusedVariables false
set_option linter.unusedSimpArgs false
namespace Go.Proofs.YteeplfbaflldaaaGreatDoor.S25
open Go.RowKit Go.Extern.Stop Go.Stop Go.Extern T10

/-- What stands in host's two blocks. -/
def XHt (n : Nat) (w W : World) (sc ho : ByteArray) (wi : Bool) (po : Int) (pa : ByteArray) : Prop :=
  W.heap[n]? = some (.cells #[.int .i64 0, .string ⟨#[]⟩, .int .i64 0, .string ⟨#[]⟩, .string ⟨#[]⟩, .bool false, .int .i64 0, .string ⟨#[]⟩] 24 (0, 0)) ∧
  W.heap[n + 1]? = some (.cells #[.int .i64 3, .string ⟨#[]⟩, .int .i64 0, .string sc, .string ho, .bool wi, .int .i64 po, .string pa] 24 (0, 0)) ∧ Below n w W
theorem XHt.far {n : Nat} {w W W' : World} {sc ho pa : ByteArray} {wi : Bool} {po : Int} (h : XHt n w W sc ho wi po pa) (b : Below W.heap.size W W') : XHt n w W' sc ho wi po pa := by
  obtain ⟨h1, h2, h3⟩ := h
  have l2 := lt_of_heap h2
  exact ⟨(b.block n (by omega)).trans h1, (b.block (n + 1) l2).trans h2, h3.trans (b.mono (by omega))⟩
theorem XHt.set {n : Nat} {w W : World} {sc ho pa : ByteArray} {wi : Bool} {po : Int} (h : XHt n w W sc ho wi po pa) (k : Nat) (u : Value) {sc' ho' pa' : ByteArray} {wi' : Bool} {po' : Int}
    (he : (#[.int .i64 3, .string ⟨#[]⟩, .int .i64 0, .string sc, .string ho, .bool wi, .int .i64 po, .string pa] : Array Value).setIfInBounds k u = #[.int .i64 3, .string ⟨#[]⟩, .int .i64 0, .string sc', .string ho', .bool wi', .int .i64 po', .string pa']) :
    XHt n w (W.setCell ⟨n + 1, k, none⟩ u) sc' ho' wi' po' pa' := by
  obtain ⟨h1, h2, h3⟩ := h
  refine ⟨?_, ?_, h3.setCell (by simp) _⟩
  · rw [heap_setCell_other _ _ _ _ (by simp)]; exact h1
  · rw [heap_setA h2 k u, he]
theorem xht_start (w : World) : XHt w.heap.size w ((w.alloc (.cells #[.int .i64 0, .string ⟨#[]⟩, .int .i64 0, .string ⟨#[]⟩, .string ⟨#[]⟩, .bool false, .int .i64 0, .string ⟨#[]⟩] 24)).alloc (.cells #[.int .i64 3, .string ⟨#[]⟩, .int .i64 0, .string ⟨#[]⟩, .string ⟨#[]⟩, .bool false, .int .i64 (-1), .string ⟨#[]⟩] 24)) ⟨#[]⟩ ⟨#[]⟩ false (-1) ⟨#[]⟩ := by
  refine ⟨?_, ?_, ((Below.refl _ w).alloc (Nat.le_refl _) _).alloc (by rw [World.size_alloc]; omega) _⟩
  · rw [heap_alloc_old _ _ (by rw [World.size_alloc]; omega)]; exact heap_alloc_new w _
  · have := heap_alloc_new (w.alloc (.cells #[.int .i64 0, .string ⟨#[]⟩, .int .i64 0, .string ⟨#[]⟩, .string ⟨#[]⟩, .bool false, .int .i64 0, .string ⟨#[]⟩] 24)) (.cells #[.int .i64 3, .string ⟨#[]⟩, .int .i64 0, .string ⟨#[]⟩, .string ⟨#[]⟩, .bool false, .int .i64 (-1), .string ⟨#[]⟩] 24)
    rw [World.size_alloc] at this
    exact this
theorem starred (l : List UInt8) : Lib.hasPrefix l [42, 46] = (l.take 2 == [42, 46]) := by
  unfold Lib.hasPrefix
  rw [Bool.eq_iff_iff, List.isPrefixOf_iff_prefix, List.prefix_iff_eq_take, beq_iff_eq]
  exact eq_comm
/-- What host hands back. -/
def rhostV (sch ok star lab wi : Bool) (sc ho : ByteArray) (po : Int) (pa : ByteArray) : Value :=
  match sch, star with
  | false, _ => .tuple #[srcV 3 ⟨#[]⟩ 0 ⟨#[]⟩ ⟨#[]⟩ false (-1) ⟨#[]⟩, .bool false]
  | true, true => .tuple #[srcV 3 ⟨#[]⟩ 0 sc ⟨#[]⟩ true po pa, .bool ok]
  | true, false => .tuple #[srcV 3 ⟨#[]⟩ 0 sc ho wi po pa, .bool (ok && lab)]
set_option maxHeartbeats 3200000 in
set_option maxRecDepth 100000 in
theorem rhost_walk (s r h nm nm2 pa sc ho : ByteArray) (I1 I2 I3 po : Int) (sch okp is wi lab star : Bool) (w : World) (hs : s.size ≤ 1000000)
    (hf1 : ∀ W, Calls Tryz.prog 30 #[.string s, .string ⟨#[58, 47, 47]⟩] W fun e w' => e = .returned (.int .i64 I1) ∧ W = w')
    (hI1 : 0 ≤ I1 → I1.toNat + 3 ≤ s.size)
    (hsch : 0 ≤ I1 → ∀ W, Calls Tryz.prog 12 #[.string (s.extract 0 I1.toNat)] W fun e w' => e = .returned (.bool sch) ∧ W = w')
    (hlow : 0 ≤ I1 → ∀ W, Calls Tryz.prog 13 #[.string (s.extract 0 I1.toNat)] W fun e w' => e = .returned (.string sc) ∧ Below W.heap.size W w')
    (hnsc : ¬ 0 ≤ I1 → sc = ⟨#[]⟩ ∧ sch = true)
    (hr : r = if 0 ≤ I1 then s.extract (I1.toNat + 3) s.size else s) (hrs : r.size ≤ 1000000)
    (hf2 : ∀ W, Calls Tryz.prog 30 #[.string r, .string ⟨#[47]⟩] W fun e w' => e = .returned (.int .i64 I2) ∧ W = w')
    (hI2 : 0 ≤ I2 → I2.toNat ≤ r.size)
    (hpa : pa = if 0 ≤ I2 then r.extract I2.toNat r.size else ⟨#[]⟩)
    (hh : h = if 0 ≤ I2 then r.extract 0 I2.toNat else r) (hhs : h.size ≤ 1000000)
    (hpath : ∀ W, Calls Tryz.prog 31 #[.string pa] W fun e w' => e = .returned (.bool okp) ∧ W = w')
    (hf3 : ∀ W, Calls Tryz.prog 30 #[.string h, .string ⟨#[58]⟩] W fun e w' => e = .returned (.int .i64 I3) ∧ W = w')
    (hI3 : 0 ≤ I3 → I3.toNat + 1 ≤ h.size)
    (hport : 0 ≤ I3 → ∀ W, Calls Tryz.prog 32 #[.string (h.extract (I3.toNat + 1) h.size)] W fun e w' => e = .returned (.tuple #[.int .i64 po, .bool is]) ∧ W = w')
    (hnpo : ¬ 0 ≤ I3 → po = -1 ∧ is = true)
    (hnm : nm = if 0 ≤ I3 then h.extract 0 I3.toNat else h) (hnms : nm.size ≤ 1000000)
    (hstar : (nm.toList == [42]) = star) (hwi : wi = Lib.hasPrefix nm.data.toList [42, 46])
    (hnm2 : nm2 = if wi = true then nm.extract 2 nm.size else nm)
    (hho : ∀ W, Calls Tryz.prog 13 #[.string nm2] W fun e w' => e = .returned (.string ho) ∧ Below W.heap.size W w')
    (hlab : ∀ W, Calls Tryz.prog 33 #[.string nm2] W fun e w' => e = .returned (.bool lab) ∧ W = w') :
    Calls Tryz.prog 14 #[.string s] w fun e w' => e = .returned (rhostV sch (okp && is) star lab wi sc ho po pa) ∧ Below w.heap.size w w' := by
  obtain ⟨W1, hW1⟩ : ∃ W1, W1 = (w.alloc (.cells #[.int .i64 0, .string ⟨#[]⟩, .int .i64 0, .string ⟨#[]⟩, .string ⟨#[]⟩, .bool false, .int .i64 0, .string ⟨#[]⟩] 24)).alloc (.cells #[.int .i64 3, .string ⟨#[]⟩, .int .i64 0, .string ⟨#[]⟩, .string ⟨#[]⟩, .bool false, .int .i64 (-1), .string ⟨#[]⟩] 24) := ⟨_, rfl⟩
  have X0 : Hid (XHt w.heap.size w W1 ⟨#[]⟩ ⟨#[]⟩ false (-1) ⟨#[]⟩) := by
    show XHt _ _ _ _ _ _ _ _
    rw [hW1]; exact xht_start w
  have F1 := Lib.hid hf1
  have J1 := Lib.hid hI1
  have SC := Lib.hid hsch
  have LO := Lib.hid hlow
  have NS := Lib.hid hnsc
  have HR := Lib.hid hr
  have F2 := Lib.hid hf2
  have J2 := Lib.hid hI2
  have PA := Lib.hid hpa
  have HH := Lib.hid hh
  have PT := Lib.hid hpath
  have F3 := Lib.hid hf3
  have J3 := Lib.hid hI3
  have PO := Lib.hid hport
  have NPO := Lib.hid hnpo
  have NM := Lib.hid hnm
  have ST := Lib.hid hstar
  have WI := Lib.hid hwi
  have NM2 := Lib.hid hnm2
  have HHO := Lib.hid hho
  have LAB := Lib.hid hlab
  have HW := Lib.hid hW1
  clear hf1 hI1 hsch hlow hnsc hr hf2 hI2 hpa hh hpath hf3 hI3 hport hnpo hnm hstar hwi hnm2 hho hlab hW1
  go_enter Tryz.func14, Tryz.ntmps14
  go_upto_region 2 with fail
  rw [← HW.out]
  go_upto_if 12 with (go_at_call 30; refine (F1.out _).mono ?_; rintro e w2 ⟨rfl, rfl⟩)
  go_cut [0] (fun v wc => v = .string r ∧ sch = true ∧ Hid (XHt w.heap.size w wc sc ⟨#[]⟩ false (-1) ⟨#[]⟩))
  case first =>
    by_cases hI0 : 0 ≤ I1
    · obtain ⟨i, rfl⟩ : ∃ i : Nat, I1 = i := ⟨I1.toNat, by omega⟩
      have hir := J1.out hI0
      rw [Int.toNat_natCast] at hir
      have hi1 : (i : Int) ≤ s.size := by omega
      obtain ⟨p, hp⟩ : ∃ p, i + 3 = p := ⟨_, rfl⟩
      have hi3 : (i : Int) + 3 = (p : Int) := by omega
      have hi4 : (p : Int) ≤ s.size := by omega
      have hwp : IntKind.i64.wrap (p : Int) = p := IntWalk.i64_in _ (by omega)
      have er : r = s.extract p s.size := by rw [← hp]; exact HR.out.trans (if_pos hI0)
      have SC1 := SC.out hI0
      have LO1 := LO.out hI0
      rw [Int.toNat_natCast] at SC1 LO1
      have SC2 := Lib.hid SC1
      have LO2 := Lib.hid LO1
      clear SC1 LO1
      obtain ⟨⟨c0, c1, c2, c3, c4, c5, c6, c7⟩, f0, f1, f2, f3, f4, f5, f6, f7⟩ := eight X0.out.2.1
      obtain ⟨⟨d0, d1, d2, d3, d4, d5, d6, d7⟩, g0, g1, g2, g3, g4, g5, g6, g7⟩ := eight X0.out.1
      cases sch with
      | false =>
        go_wp2_with (go_at_call 12; refine (SC2.out _).mono ?_; rintro e w3 ⟨rfl, rfl⟩)
        refine bodyPost_ret (v := .tuple #[srcV 3 ⟨#[]⟩ 0 ⟨#[]⟩ ⟨#[]⟩ false (-1) ⟨#[]⟩, .bool false]) ?_ rfl ?_
        · rw [results_cell_tmp rfl]
          go_simp
          rfl
        · exact ⟨rfl, below_set8 X0.out.2.2 _ _ _ _ _ _ _ _⟩
      | true =>
        go_wp2_with (first
          | (go_at_call 13; refine (LO2.out _).mono ?_; rintro e w4 ⟨rfl, b4⟩; have X4 := Lib.hid (X0.out.far b4); clear b4; obtain ⟨⟨h0, h1, h2, h3, h4, h5, h6, h7⟩, k0, k1, k2, k3, k4, k5, k6, k7⟩ := eight X4.out.2.1)
          | (go_at_call 12; refine (SC2.out _).mono ?_; rintro e w3 ⟨rfl, rfl⟩))
        go_meet
        exact ⟨by rw [er], by trivial, X4.out.set 3 (.string sc) rfl⟩
    · have er : r = s := HR.out.trans (if_neg hI0)
      obtain ⟨n1, n2⟩ := NS.out (by omega)
      subst n1 n2
      go_wp2_with fail
      go_meet
      exact ⟨by rw [er], by trivial, X0.out⟩
  case rest =>
    obtain ⟨rfl, rfl, X1⟩ := hcut
    clear X0 F1 J1 SC LO NS HR HW
    go_upto_if 31 with (go_at_call 30; refine (F2.out _).mono ?_; rintro e w2 ⟨rfl, rfl⟩)
    go_cut [0] (fun v wc => v = .string h ∧ Hid (XHt w.heap.size w wc sc ⟨#[]⟩ false (-1) pa))
    case first =>
      obtain ⟨⟨c0, c1, c2, c3, c4, c5, c6, c7⟩, f0, f1, f2, f3, f4, f5, f6, f7⟩ := eight X1.out.2.1
      by_cases hI0 : 0 ≤ I2
      · obtain ⟨i, rfl⟩ : ∃ i : Nat, I2 = i := ⟨I2.toNat, by omega⟩
        have hir := J2.out hI0
        rw [Int.toNat_natCast] at hir
        have hi1 : (i : Int) ≤ r.size := by omega
        have eh : h = r.extract 0 i := HH.out.trans (if_pos hI0)
        have ep : pa = r.extract i r.size := PA.out.trans (if_pos hI0)
        have EP := Lib.hid ep
        have EH := Lib.hid eh
        clear eh ep
        go_wp2_with fail
        go_meet
        exact ⟨by rw [EH.out], by rw [EP.out]; exact X1.out.set 7 (.string (r.extract i r.size)) rfl⟩
      · have eh : h = r := HH.out.trans (if_neg hI0)
        have ep : pa = ⟨#[]⟩ := PA.out.trans (if_neg hI0)
        have EP := Lib.hid ep
        have EH := Lib.hid eh
        clear eh ep
        go_wp2_with fail
        go_meet
        exact ⟨by rw [EH.out], by rw [EP.out]; exact X1.out⟩
    case rest =>
      obtain ⟨rfl, X2⟩ := hcut
      clear X1 F2 J2 PA HH
      obtain ⟨⟨c0, c1, c2, c3, c4, c5, c6, c7⟩, f0, f1, f2, f3, f4, f5, f6, f7⟩ := eight X2.out.2.1
      go_upto_if 45 with (first
        | (go_at_call 30; refine (F3.out _).mono ?_; rintro e w3 ⟨rfl, rfl⟩)
        | (go_at_call 31; refine (PT.out _).mono ?_; rintro e w2 ⟨rfl, rfl⟩))
      clear c0 c1 c2 c3 c4 c5 c6 c7 f0 f1 f2 f3 f4 f5 f6 f7
      go_cut [0, 6] (fun v o wc => v = .string nm ∧ o = .bool (okp && is) ∧ Hid (XHt w.heap.size w wc sc ⟨#[]⟩ false po pa))
      case first =>
        obtain ⟨⟨c0, c1, c2, c3, c4, c5, c6, c7⟩, f0, f1, f2, f3, f4, f5, f6, f7⟩ := eight X2.out.2.1
        by_cases hI0 : 0 ≤ I3
        · obtain ⟨i, rfl⟩ : ∃ i : Nat, I3 = i := ⟨I3.toNat, by omega⟩
          have hir := J3.out hI0
          rw [Int.toNat_natCast] at hir
          have hi1 : (i : Int) ≤ h.size := by omega
          obtain ⟨p, hp⟩ : ∃ p, i + 1 = p := ⟨_, rfl⟩
          have hi3 : (i : Int) + 1 = (p : Int) := by omega
          have hi4 : (p : Int) ≤ h.size := by omega
          have hwp : IntKind.i64.wrap (p : Int) = p := IntWalk.i64_in _ (by omega)
          have hwp2 : wrap64 (p : Int) = p := IntWalk.wrap64_in _ (by omega)
          have en : nm = h.extract 0 i := NM.out.trans (if_pos hI0)
          have EN := Lib.hid en
          have PO1 := PO.out hI0
          rw [Int.toNat_natCast, hp] at PO1
          have PO2 := Lib.hid PO1
          clear en PO1 hp
          cases okp with
          | true =>
            go_wp2_with (go_at_call 32; refine (PO2.out _).mono ?_; rintro e w4 ⟨rfl, rfl⟩)
            go_meet
            exact ⟨by rw [EN.out], by cases is <;> rfl, X2.out.set 6 (.int .i64 po) rfl⟩
          | false =>
            go_wp2_with (go_at_call 32; refine (PO2.out _).mono ?_; rintro e w4 ⟨rfl, rfl⟩)
            go_meet
            exact ⟨by rw [EN.out], rfl, X2.out.set 6 (.int .i64 po) rfl⟩
        · have en : nm = h := NM.out.trans (if_neg hI0)
          obtain ⟨n1, n2⟩ := NPO.out (by omega)
          subst n1 n2
          have EN := Lib.hid en
          clear en
          go_wp2_with fail
          go_meet
          exact ⟨by rw [EN.out], by rw [Bool.and_true], X2.out⟩
      case rest =>
        obtain ⟨rfl, rfl, X3⟩ := hcut
        clear X2 F3 J3 PO NPO NM PT
        obtain ⟨ok, hok⟩ : ∃ b, (okp && is) = b := ⟨_, rfl⟩
        rw [hok]
        have HOK := Lib.hid hok
        clear hok
        have hst := ST.out
        clear ST
        cases star with
        | true =>
          obtain ⟨⟨c0, c1, c2, c3, c4, c5, c6, c7⟩, f0, f1, f2, f3, f4, f5, f6, f7⟩ := eight X3.out.2.1
          obtain ⟨⟨d0, d1, d2, d3, d4, d5, d6, d7⟩, g0, g1, g2, g3, g4, g5, g6, g7⟩ := eight X3.out.1
          go_upto_region 21 with fail
          have X4 := Lib.hid (X3.out.set (ho' := ⟨#[]⟩) (wi' := true) 5 (.bool true) rfl)
          clear c0 c1 c2 c3 c4 c5 c6 c7 f0 f1 f2 f3 f4 f5 f6 f7 d0 d1 d2 d3 d4 d5 d6 d7 g0 g1 g2 g3 g4 g5 g6 g7
          generalize hw4 : World.setCell wc { block := w.heap.size + 1, off := 5 } (Value.bool true) = w4 at X4 ⊢
          clear hw4
          obtain ⟨⟨c0, c1, c2, c3, c4, c5, c6, c7⟩, f0, f1, f2, f3, f4, f5, f6, f7⟩ := eight X4.out.2.1
          obtain ⟨⟨d0, d1, d2, d3, d4, d5, d6, d7⟩, g0, g1, g2, g3, g4, g5, g6, g7⟩ := eight X4.out.1
          go_wp2_with fail
          refine bodyPost_ret (v := .tuple #[srcV 3 ⟨#[]⟩ 0 sc ⟨#[]⟩ true po pa, .bool ok]) ?_ rfl ?_
          · rw [results_cell_tmp rfl]
            go_simp
            rfl
          · exact ⟨by rw [HOK.out]; rfl, below_set8 X4.out.2.2 _ _ _ _ _ _ _ _⟩
        | false =>
          go_upto_region 22 with fail
          go_cut [74] (fun v wd => v = .bool wi ∧ wc = wd)
          case first =>
            have hw2 := WI.out
            rw [starred] at hw2
            have HXT : Hid ((nm.extract 0 2).toList = nm.data.toList.take 2) := by show _ = _; rw [ByteArray.toList_eq, ext_take]
            by_cases h1 : 1 < nm.size
            · have h1i : (1 : Int) < nm.size := by omega
              have h2i : (2 : Int) ≤ nm.size := by omega
              have h3 : ((nm.extract 0 2).toList == [42, 46]) = wi := by rw [HXT.out, hw2]
              clear hw2 h1
              go_wp2_with fail
              go_meet
              exact ⟨rfl, rfl⟩
            · have h1i : ¬ (1 : Int) < nm.size := by omega
              have hwf : wi = false := by
                rw [hw2, beq_eq_false_iff_ne]
                intro e
                have := congrArg List.length e
                have hl : nm.data.toList.length = nm.size := by simp
                rw [List.length_take, hl] at this
                simp only [List.length_cons, List.length_nil] at this
                omega
              subst hwf
              clear hw2 h1
              go_wp2_with fail
              go_meet
              exact ⟨rfl, rfl⟩
          case rest =>
            obtain ⟨rfl, rfl⟩ := hcut
            go_upto_if 74 with fail
            go_cut [0] (fun v wd => v = .string nm2 ∧ Hid (XHt w.heap.size w wd sc ⟨#[]⟩ wi po pa))
            case first =>
              obtain ⟨⟨c0, c1, c2, c3, c4, c5, c6, c7⟩, f0, f1, f2, f3, f4, f5, f6, f7⟩ := eight X3.out.2.1
              cases wi with
              | true =>
                have en : nm2 = nm.extract 2 nm.size := NM2.out
                have EN := Lib.hid en
                have h2i : (2 : Int) ≤ nm.size := by
                  have h5 := WI.out.symm
                  have h6 := hasPrefix_len h5
                  have hl : nm.data.toList.length = nm.size := by simp
                  simp only [List.length_cons, List.length_nil] at h6
                  omega
                clear en
                go_wp2_with fail
                go_meet
                exact ⟨by rw [EN.out], X3.out.set 5 (.bool true) rfl⟩
              | false =>
                have en : nm2 = nm := NM2.out
                have EN := Lib.hid en
                clear en
                go_wp2_with fail
                go_meet
                exact ⟨by rw [EN.out], X3.out⟩
            case rest =>
              obtain ⟨rfl, X4⟩ := hcut
              clear X3 NM2 WI
              go_upto_region 26 with (go_at_call 13; refine (HHO.out _).mono ?_; rintro e w5 ⟨rfl, b5⟩; have X5 := Lib.hid (X4.out.far b5); clear b5; obtain ⟨⟨c0, c1, c2, c3, c4, c5, c6, c7⟩, f0, f1, f2, f3, f4, f5, f6, f7⟩ := eight X5.out.2.1)
              have X6 := Lib.hid (X5.out.set (ho' := ho) 4 (.string ho) rfl)
              clear c0 c1 c2 c3 c4 c5 c6 c7 f0 f1 f2 f3 f4 f5 f6 f7
              generalize hw6 : World.setCell w5 { block := w.heap.size + 1, off := 4 } (Value.string ho) = w6 at X6 ⊢
              clear hw6
              obtain ⟨⟨c0, c1, c2, c3, c4, c5, c6, c7⟩, f0, f1, f2, f3, f4, f5, f6, f7⟩ := eight X6.out.2.1
              obtain ⟨⟨d0, d1, d2, d3, d4, d5, d6, d7⟩, g0, g1, g2, g3, g4, g5, g6, g7⟩ := eight X6.out.1
              have HB6 := Lib.hid X6.out.2.2
              cases ok with
              | true =>
                go_region_with (go_at_call 33; refine (LAB.out _).mono ?_; rintro e w7 ⟨rfl, rfl⟩)
                all_goals
                  go_wp2_with fail
                  refine bodyPost_ret (v := .tuple #[srcV 3 ⟨#[]⟩ 0 sc ho wi po pa, .bool lab]) ?_ rfl ?_
                  · rw [results_cell_tmp rfl]
                    go_simp
                    rfl
                  · refine ⟨by rw [HOK.out]; rfl, ?_⟩
                    repeat' first
                      | with_reducible exact HB6.out
                      | with_reducible refine Below.drew ?_
                      | with_reducible refine Below.setCell ?_ (by exact Nat.le_refl _) _
              | false =>
                go_region
                all_goals
                  go_wp2_with fail
                  refine bodyPost_ret (v := .tuple #[srcV 3 ⟨#[]⟩ 0 sc ho wi po pa, .bool false]) ?_ rfl ?_
                  · rw [results_cell_tmp rfl]
                    go_simp
                    rfl
                  · refine ⟨by rw [HOK.out]; rfl, ?_⟩
                    repeat' first
                      | with_reducible exact HB6.out
                      | with_reducible refine Below.drew ?_
                      | with_reducible refine Below.setCell ?_ (by exact Nat.le_refl _) _
end Go.Proofs.YteeplfbaflldaaaGreatDoor.S25
