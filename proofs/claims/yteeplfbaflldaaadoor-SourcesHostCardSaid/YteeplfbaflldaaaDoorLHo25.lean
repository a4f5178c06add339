/- The law SourcesHost. Made by tools/gen/lho25.py. -/
import Derived.Test.YteeplfbaflldaaaDoorLRd25
import Derived.Test.YteeplfbaflldaaaDoorSrcY
import Derived.Test.YteeplfbaflldaaaDoorLow25
import Derived.Deep.DeepCutAuto
set_option linter.unusedVariables false
set_option linter.unusedSimpArgs false
namespace Go.Proofs.YteeplfbaflldaaaDoor.S25
open Go.RowKit Go.Extern.Stop Go.Stop Go.Extern T10

/-- What stands in the law's own source. -/
def XAt (g : Nat) (W1 W : World) (ho sc : ByteArray) (wi : Bool) (po : Int) (pa : ByteArray) : Prop :=
  W.heap[g]? = some (.cells #[.int .i64 3, .string ⟨#[]⟩, .int .i64 0, .string sc, .string ho, .bool wi, .int .i64 po, .string pa] 41 (0, 0)) ∧ Below W1.heap.size W1 W ∧ W1.heap.size ≤ g
theorem XAt.far {g : Nat} {W1 W W' : World} {ho sc pa : ByteArray} {wi : Bool} {po : Int} (h : XAt g W1 W ho sc wi po pa) (b : Below W.heap.size W W') : XAt g W1 W' ho sc wi po pa :=
  ⟨(b.block g (lt_of_heap h.1)).trans h.1, h.2.1.trans (b.mono h.2.1.size), h.2.2⟩
theorem XAt.setWi {g : Nat} {W1 W : World} {ho sc pa : ByteArray} {wi : Bool} {po : Int} (h : XAt g W1 W ho sc wi po pa) (wi' : Bool) : XAt g W1 (W.setCell ⟨g, 5, none⟩ (.bool wi')) ho sc wi' po pa := ⟨heap_setA h.1 5 _, h.2.1.setCell h.2.2 _, h.2.2⟩
theorem XAt.setSc {g : Nat} {W1 W : World} {ho sc pa : ByteArray} {wi : Bool} {po : Int} (h : XAt g W1 W ho sc wi po pa) (sc' : ByteArray) : XAt g W1 (W.setCell ⟨g, 3, none⟩ (.string sc')) ho sc' wi po pa := ⟨heap_setA h.1 3 _, h.2.1.setCell h.2.2 _, h.2.2⟩
theorem XAt.setPo {g : Nat} {W1 W : World} {ho sc pa : ByteArray} {wi : Bool} {po : Int} (h : XAt g W1 W ho sc wi po pa) (po' : Int) : XAt g W1 (W.setCell ⟨g, 6, none⟩ (.int .i64 po')) ho sc wi po' pa := ⟨heap_setA h.1 6 _, h.2.1.setCell h.2.2 _, h.2.2⟩
theorem XAt.setPa {g : Nat} {W1 W : World} {ho sc pa : ByteArray} {wi : Bool} {po : Int} (h : XAt g W1 W ho sc wi po pa) (pa' : ByteArray) : XAt g W1 (W.setCell ⟨g, 7, none⟩ (.string pa')) ho sc wi po pa' := ⟨heap_setA h.1 7 _, h.2.1.setCell h.2.2 _, h.2.2⟩
set_option maxHeartbeats 1600000 in
set_option maxRecDepth 100000 in
theorem sourcesHost_law (a0 a1 a2 : Option Addr) (c0 c1 c2 : Nat) (z0 z1 z2 : List UInt8) (port n : Int) (m : Int) (w : World) (h0 : SliceIn w (.slice a0 z0.length c0) (byteV z0)) (h1 : SliceIn w (.slice a1 z1.length c1) (byteV z1)) (h2 : SliceIn w (.slice a2 z2.length c2) (byteV z2)) (hp0 : 0 ≤ port) (hp1 : port ≤ 65535) (hn0 : 0 ≤ n) (hn1 : n ≤ 255) (hE : EOk m w) (hT : PTab w) :
    Calls Tryd.prog 9 #[.agg #[.slice a0 z0.length c0, .slice a1 z1.length c1, .slice a2 z2.length c2], .int .u16 port, .int .u8 n] w fun e w' => e = .returned (.bool true) ∧ Below w.heap.size w w' := by
  obtain ⟨W1, hW1⟩ : ∃ W1, W1 = w.alloc (.cells #[.slice a0 z0.length c0, .slice a1 z1.length c1, .slice a2 z2.length c2] 48) := ⟨_, rfl⟩
  have hb1 : Below w.heap.size w W1 := by rw [hW1]; exact (Below.refl _ w).alloc (Nat.le_refl _) _
  have hs1 : w.heap.size < W1.heap.size := by rw [hW1]; simp
  have k1 : W1.heap[w.heap.size]? = some (.cells #[.slice a0 z0.length c0, .slice a1 z1.length c1, .slice a2 z2.length c2] 48 (0, 0)) := by rw [hW1]; exact heap_alloc_new w _
  have CP : Hid (∀ W, Below W1.heap.size W1 W → W.cell? ⟨w.heap.size, 0, none⟩ = some (.slice a0 z0.length c0) ∧ W.cell? ⟨w.heap.size, 1, none⟩ = some (.slice a1 z1.length c1) ∧ W.cell? ⟨w.heap.size, 2, none⟩ = some (.slice a2 z2.length c2)) := fun W hW => by
    have := (hW.block _ hs1).trans k1
    exact ⟨by rw [Lib.cell_of_heap this]; rfl, by rw [Lib.cell_of_heap this]; rfl, by rw [Lib.cell_of_heap this]; rfl⟩
  have B1 := Lib.hid hb1
  obtain ⟨p0, p1, p2⟩ := CP.out W1 (Below.refl _ _)
  obtain ⟨A, hA⟩ : ∃ A : ByteArray, ba (letG [45] z0) = A := ⟨_, rfl⟩
  obtain ⟨Bb, hBb⟩ : ∃ A : ByteArray, ba (letG [45] z1) = A := ⟨_, rfl⟩
  obtain ⟨C, hC⟩ : ∃ A : ByteArray, ba (letG [43, 46] z2) = A := ⟨_, rfl⟩
  obtain ⟨D, hD⟩ : ∃ A : ByteArray, ba (letG [37, 47, 46, 126] z2) = A := ⟨_, rfl⟩
  have HL0 : Hid (∀ W, Below W1.heap.size W1 W → Calls Tryd.prog 20 #[.slice a0 z0.length c0, .string ⟨#[45]⟩] W fun e w' => e = .returned (.string A) ∧ Below W.heap.size W w') := fun W hW => by
    rw [← hA]; exact letters_any _ z0 ⟨#[45]⟩ W ((h0.below B1.out).below (hW.mono (Nat.le_refl _))) (by decide)
  have HL1 : Hid (∀ W, Below W1.heap.size W1 W → Calls Tryd.prog 20 #[.slice a1 z1.length c1, .string ⟨#[45]⟩] W fun e w' => e = .returned (.string Bb) ∧ Below W.heap.size W w') := fun W hW => by
    rw [← hBb]; exact letters_any _ z1 ⟨#[45]⟩ W ((h1.below B1.out).below (hW.mono (Nat.le_refl _))) (by decide)
  have HL2 : Hid (∀ W, Below W1.heap.size W1 W → Calls Tryd.prog 20 #[.slice a2 z2.length c2, .string ⟨#[43, 46]⟩] W fun e w' => e = .returned (.string C) ∧ Below W.heap.size W w') := fun W hW => by
    rw [← hC]; exact letters_any _ z2 ⟨#[43, 46]⟩ W ((h2.below B1.out).below (hW.mono (Nat.le_refl _))) (by decide)
  have HL3 : Hid (∀ W, Below W1.heap.size W1 W → Calls Tryd.prog 20 #[.slice a2 z2.length c2, .string ⟨#[37, 47, 46, 126]⟩] W fun e w' => e = .returned (.string D) ∧ Below W.heap.size W w') := fun W hW => by
    rw [← hD]; exact letters_any _ z2 ⟨#[37, 47, 46, 126]⟩ W ((h2.below B1.out).below (hW.mono (Nat.le_refl _))) (by decide)
  have sA : A.size ≤ 40 := by rw [← hA, ba_size]; exact (letG_len _ _).2
  have sB : Bb.size ≤ 40 := by rw [← hBb, ba_size]; exact (letG_len _ _).2
  have sC : C.size ≤ 40 := by rw [← hC, ba_size]; exact (letG_len _ _).2
  have sD : D.size ≤ 40 := by rw [← hD, ba_size]; exact (letG_len _ _).2
  obtain ⟨nm, hnm⟩ : ∃ nm, ba (letG [45] z0 ++ 46 :: letG [45] z1) = nm := ⟨_, rfl⟩
  have hnm2 : A ++ ⟨#[46]⟩ ++ Bb = nm := by
    rw [← hnm, ← hA, ← hBb]
    show ba _ ++ ba [46] ++ ba _ = _
    rw [ba_app, ba_app]; simp
  have sN : nm.size ≤ 81 := by
    rw [← hnm, ba_size, List.length_append, List.length_cons]
    have := (letG_len [45] z0).2
    have := (letG_len [45] z1).2
    omega
  obtain ⟨lw, hlw⟩ : ∃ lw, ba (lowL (letG [45] z0 ++ 46 :: letG [45] z1)) = lw := ⟨_, rfl⟩
  have HLW : Hid (∀ W, Calls Tryd.prog 21 #[.string nm] W fun e w' => e = .returned (.string lw) ∧ Below W.heap.size W w') := fun W => by
    have := llow_any nm W (by omega)
    rw [← hnm, ba_data] at this
    rw [← hlw, ← hnm]; exact this
  obtain ⟨sx, hsx⟩ : ∃ sx, ba (120 :: letG [43, 46] z2) = sx := ⟨_, rfl⟩
  have hsx2 : ⟨#[120]⟩ ++ C = sx := by
    rw [← hsx, ← hC]
    exact ba_app [120] _
  have sX : sx.size ≤ 41 := by
    rw [← hsx, ba_size, List.length_cons]
    have := (letG_len [43, 46] z2).2
    omega
  obtain ⟨lx, hlx⟩ : ∃ lx, ba (lowL (120 :: letG [43, 46] z2)) = lx := ⟨_, rfl⟩
  have HLX : Hid (∀ W, Calls Tryd.prog 21 #[.string (⟨#[120]⟩ ++ C)] W fun e w' => e = .returned (.string lx) ∧ Below W.heap.size W w') := fun W => by
    have := llow_any sx W (by omega)
    rw [← hsx, ba_data] at this
    rw [hsx2, ← hlx, ← hsx]; exact this
  have HIT : Hid (∀ W, Below w.heap.size w W → Calls Tryd.prog 22 #[.int .i64 port] W fun e w' => e = .returned (.string (ba (Lib.itoa port))) ∧ Below W.heap.size W w') := fun W hB => itoa_any port (by omega) (by omega) W (hT.far hB (Nat.le_refl _))
  have HR : Hid (∀ W, Below w.heap.size w W → Calls Tryd.prog 17 #[] W fun e w' => e = .returned (.bool true) ∧ Below W.heap.size W w') := fun W hB => reads_any m W (hE.far hB (Nat.le_refl _))
  have HP : Hid (∀ (t : List UInt8) (x : SrcL), parseL t = some x → t.length ≤ 1000000 → ∀ W, Below w.heap.size w W → Calls Tryd.prog 18 #[.string (ba t)] W fun e w' => e = .returned (.tuple #[srcW x, .int .i64 0]) ∧ Below W.heap.size W w') := fun t x h1 h2 W hB => Parse_ok h1 h2 (hE.far hB (Nat.le_refl _))
  have HNM := Lib.hid hnm
  have HNM2 := Lib.hid hnm2
  have HSX := Lib.hid hsx
  have HSX2 := Lib.hid hsx2
  have HD := Lib.hid hD
  have HLWE := Lib.hid hlw
  have HLXE := Lib.hid hlx
  clear hA hBb hC hD hnm hnm2 hlw hsx hsx2 hlx hE hT h0 h1 h2 k1 hb1
  go_enter Tryd.func9, Tryd.ntmps9
  go_upto_region 1 with fail
  rw [← hW1]
  clear hW1
  go_cut [7] (fun v wc => v = .string nm ∧ Hid (Below W1.heap.size W1 wc))
  case first =>
    go_region_with (go_at_call 20; first
        | ((with_reducible refine (HL1.out _ ?hA).mono ?_); (case hA => exact BA.out); rintro e wb ⟨rfl, bb⟩; have BB : Hid (Below W1.heap.size W1 wb) := BA.out.trans (bb.mono BA.out.size); obtain ⟨x0, x1, x2⟩ := CP.out wb BB.out; clear bb BA)
        | ((with_reducible refine (HL0.out _ ?hA).mono ?_); (case hA => exact BB.out); rintro e wa ⟨rfl, ba⟩; have BA : Hid (Below W1.heap.size W1 wa) := BB.out.trans (ba.mono BB.out.size); obtain ⟨x0, x1, x2⟩ := CP.out wa BA.out; clear ba BB)
        | ((with_reducible refine (HL1.out _ ?hA).mono ?_); (case hA => exact (Below.refl _ W1).drew); rintro e wb ⟨rfl, bb⟩; have BB : Hid (Below W1.heap.size W1 wb) := ((Below.refl _ W1).drew).trans (bb.mono (by exact Nat.le_refl _)); obtain ⟨y0, y1, y2⟩ := CP.out wb BB.out; clear bb)
        | ((with_reducible refine (HL0.out _ ?hA).mono ?_); (case hA => exact (Below.refl _ W1).drew); rintro e wa ⟨rfl, ba⟩; have BA : Hid (Below W1.heap.size W1 wa) := ((Below.refl _ W1).drew).trans (ba.mono (by exact Nat.le_refl _)); obtain ⟨y0, y1, y2⟩ := CP.out wa BA.out; clear ba))
    all_goals
      go_wp2_with fail
      go_meet
    all_goals first
      | exact ⟨by rw [HNM2.out], BB⟩
      | exact ⟨by rw [HNM2.out], BA⟩
  case rest =>
    obtain ⟨rfl, HBc⟩ := hcut
    clear HL0 HL1 p0 p1 p2
    go_upto_if 26 with (go_at_call 21; refine (HLW.out _).mono ?_; rintro e v2 ⟨rfl, b2⟩; have HV2 := Lib.hid b2; clear b2)
    obtain ⟨W2, hW2⟩ : ∃ W, W = v2.alloc (.cells #[.int .i64 3, .string ⟨#[]⟩, .int .i64 0, .string ⟨#[]⟩, .string lw, .bool false, .int .i64 (-1), .string ⟨#[]⟩] 41) := ⟨_, rfl⟩
    have X0 : Hid (XAt v2.heap.size W1 W2 lw ⟨#[]⟩ false (-1) ⟨#[]⟩) := by
      show XAt _ _ _ _ _ _ _ _
      have hsz := HBc.out.size
      have hsz2 := HV2.out.size
      rw [hW2]
      exact ⟨heap_alloc_new v2 _, (HBc.out.trans (HV2.out.mono hsz)).alloc (by omega) _, by omega⟩
    rw [← hW2]
    clear hW2 HLW HV2 HBc
    obtain ⟨g, hg⟩ : ∃ g, v2.heap.size = g := ⟨_, rfl⟩
    rw [hg] at X0 ⊢
    clear hg
    obtain ⟨NML, hNML⟩ : ∃ l, letG [45] z0 ++ 46 :: letG [45] z1 = l := ⟨_, rfl⟩
    rw [hNML] at HNM
    obtain ⟨wi, hwi⟩ : ∃ b, decide (0 < bits BinOp.and IntKind.u8 n 1) = b := ⟨_, rfl⟩
    have HNML := Lib.hid hNML
    have HWI := Lib.hid hwi
    clear hNML hwi
    go_cut [9] (fun v wc => v = .string (ba (starL wi NML)) ∧ Hid (XAt g W1 wc lw ⟨#[]⟩ wi (-1) ⟨#[]⟩))
    case first =>
      obtain ⟨⟨d0, d1, d2, d3, d4, d5, d6, d7⟩, g0, g1, g2, g3, g4, g5, g6, g7⟩ := eight X0.out.1
      cases wi with
      | true =>
        have hb : 0 < bits BinOp.and IntKind.u8 n 1 := of_decide_eq_true HWI.out
        go_wp2_with fail
        go_meet
        exact ⟨by rw [← HNM.out]; exact congrArg Value.string (ba_app [42, 46] _), X0.out.setWi true⟩
      | false =>
        have hb : ¬ 0 < bits BinOp.and IntKind.u8 n 1 := of_decide_eq_false HWI.out
        go_wp2_with fail
        go_meet
        exact ⟨by rw [← HNM.out]; rfl, X0.out⟩
    case rest =>
      obtain ⟨rfl, X1⟩ := hcut
      clear X0
      obtain ⟨V1, hV1⟩ : ∃ V, ba (starL wi NML) = V := ⟨_, rfl⟩
      have sV1 : V1.size ≤ 83 := by rw [← hV1, ba_size, ← HNML.out]; exact (parts_len z0 z1 z2 wi true true).1
      have HV1 := Lib.hid hV1
      rw [hV1]
      clear hV1
      obtain ⟨sch, hsch⟩ : ∃ b, decide (0 < bits BinOp.and IntKind.u8 n 2) = b := ⟨_, rfl⟩
      have HSCH := Lib.hid hsch
      clear hsch
      go_upto_if 32 with fail
      go_cut [9] (fun v wc => v = .string (ba (schP sch (120 :: letG [43, 46] z2) ++ starL wi NML)) ∧ Hid (XAt g W1 wc lw (ba (optL sch (lowL (120 :: letG [43, 46] z2)))) wi (-1) ⟨#[]⟩))
      case first =>
        cases sch with
        | true =>
          have hb : 0 < bits BinOp.and IntKind.u8 n 2 := of_decide_eq_true HSCH.out
          obtain ⟨q0, q1, q2⟩ := CP.out _ X1.out.2.1
          obtain ⟨⟨d0, d1, d2, d3, d4, d5, d6, d7⟩, g0, g1, g2, g3, g4, g5, g6, g7⟩ := eight X1.out.1
          go_upto_region 9 with (go_at_call 20; refine (HL2.out _ X1.out.2.1).mono ?_; rintro e v3 ⟨rfl, b3⟩; have X2 := Lib.hid (X1.out.far b3); clear b3)
          obtain ⟨r0, r1, r2⟩ := CP.out _ X2.out.2.1
          go_wp2_with (first
            | (go_at_call 21; refine (HLX.out _).mono ?_; rintro e v5 ⟨rfl, b5⟩; have X4 := Lib.hid (X3.out.far b5); clear b5; obtain ⟨⟨e0, e1, e2, e3, e4, e5, e6, e7⟩, k0, k1, k2, k3, k4, k5, k6, k7⟩ := eight X4.out.1)
            | (go_at_call 20; refine (HL2.out _ X2.out.2.1).mono ?_; rintro e v4 ⟨rfl, b4⟩; have X3 := Lib.hid (X2.out.far b4); clear b4))
          go_meet
          refine ⟨?_, by show Hid (XAt _ _ _ _ (ba (lowL (120 :: letG [43, 46] z2))) _ _ _); rw [HLXE.out]; exact X4.out.setSc lx⟩
          rw [HSX2.out, ← HSX.out, ← HV1.out]
          show Value.string (ba _ ++ ba [58, 47, 47] ++ ba _) = _
          rw [ba_app, ba_app]; rfl
        | false =>
          have hb : ¬ 0 < bits BinOp.and IntKind.u8 n 2 := of_decide_eq_false HSCH.out
          go_wp2_with fail
          go_meet
          exact ⟨by rw [← HV1.out]; rfl, X1.out⟩
      case rest =>
        obtain ⟨rfl, X2⟩ := hcut
        clear X1 HL2 HLX sV1 HV1
        obtain ⟨T2, hT2⟩ : ∃ T, schP sch (120 :: letG [43, 46] z2) ++ starL wi NML = T := ⟨_, rfl⟩
        have sT2 : T2.length ≤ 127 := by
          rw [← hT2, ← HNML.out, List.length_append]
          have := parts_len z0 z1 z2 wi sch true
          omega
        obtain ⟨SCb, hSC⟩ : ∃ S, ba (optL sch (lowL (120 :: letG [43, 46] z2))) = S := ⟨_, rfl⟩
        rw [hT2]
        rw [hSC] at X2
        obtain ⟨V2, hV2⟩ : ∃ V, ba T2 = V := ⟨_, rfl⟩
        have sV2 : V2.size ≤ 127 := by rw [← hV2, ba_size]; exact sT2
        rw [hV2]
        have HV2 := Lib.hid hV2
        have HT2 := Lib.hid hT2
        have HSC := Lib.hid hSC
        clear hV2 hT2 hSC
        obtain ⟨b4, hb4⟩ : ∃ b, decide (0 < bits BinOp.and IntKind.u8 n 4) = b := ⟨_, rfl⟩
        obtain ⟨b8, hb8⟩ : ∃ b, decide (0 < bits BinOp.and IntKind.u8 n 8) = b := ⟨_, rfl⟩
        have HB4 := Lib.hid hb4
        have HB8 := Lib.hid hb8
        clear hb4 hb8
        go_upto_if 48 with fail
        go_cut [9] (fun v wc => v = .string (ba (T2 ++ portT (poP b4 b8 port))) ∧ Hid (XAt g W1 wc lw SCb wi (poP b4 b8 port) ⟨#[]⟩))
        case first =>
          obtain ⟨⟨d0, d1, d2, d3, d4, d5, d6, d7⟩, g0, g1, g2, g3, g4, g5, g6, g7⟩ := eight X2.out.1
          cases b4 with
          | true =>
            have hb : 0 < bits BinOp.and IntKind.u8 n 4 := of_decide_eq_true HB4.out
            have hil : (ba (Lib.itoa port)).size ≤ 21 := by rw [ba_size]; exact Lib.itoa_length_le port (by omega) (by omega)
            obtain ⟨IT, hIT⟩ : ∃ IT, ba (Lib.itoa port) = IT := ⟨_, rfl⟩
            rw [hIT] at hil HIT
            have HIE := Lib.hid hIT
            clear hIT d0 d1 d2 d3 d4 d5 d6 d7 g0 g1 g2 g3 g4 g5 g6 g7
            go_wp2_with (go_at_call 22; refine (HIT.out _ (B1.out.trans (X2.out.2.1.mono B1.out.size))).mono ?_; rintro e v3 ⟨rfl, b3⟩; have X3 := Lib.hid (X2.out.far b3); clear b3; obtain ⟨⟨d0, d1, d2, d3, d4, d5, d6, d7⟩, g0, g1, g2, g3, g4, g5, g6, g7⟩ := eight X3.out.1)
            go_meet
            refine ⟨?_, X3.out.setPo port⟩
            have e : portT (poP true b8 port) = [58] ++ Lib.itoa port := by
              show portT port = _
              unfold portT
              rw [if_neg (by omega), if_pos hp0]
              rfl
            rw [e, ← HIE.out, ← HV2.out]
            show Value.string (ba _ ++ ba [58] ++ ba _) = _
            rw [ba_app, ba_app, List.append_assoc]
          | false =>
            have hb : ¬ 0 < bits BinOp.and IntKind.u8 n 4 := of_decide_eq_false HB4.out
            cases b8 with
            | true =>
              have hc : 0 < bits BinOp.and IntKind.u8 n 8 := of_decide_eq_true HB8.out
              go_wp2_with fail
              go_meet
              refine ⟨?_, X2.out.setPo (-2)⟩
              rw [← HV2.out]
              exact congrArg Value.string (ba_app T2 [58, 42])
            | false =>
              have hc : ¬ 0 < bits BinOp.and IntKind.u8 n 8 := of_decide_eq_false HB8.out
              go_wp2_with fail
              go_meet
              refine ⟨?_, X2.out⟩
              rw [← HV2.out]
              show Value.string (ba T2) = .string (ba (T2 ++ []))
              rw [List.append_nil]
        case rest =>
          obtain ⟨rfl, X3⟩ := hcut
          clear X2 sV2 HV2 HIT
          have hpin := poP_in b4 b8 hp0 hp1
          obtain ⟨po, hpo⟩ : ∃ po, poP b4 b8 port = po := ⟨_, rfl⟩
          rw [hpo] at hpin X3 ⊢
          have hpl := portT_len (p := po) (by rcases hpin with h | h | ⟨u, h, h2⟩ <;> omega) (by rcases hpin with h | h | ⟨u, h, h2⟩ <;> omega)
          obtain ⟨V3, hV3⟩ : ∃ V, ba (T2 ++ portT po) = V := ⟨_, rfl⟩
          have sV3 : V3.size ≤ 150 := by rw [← hV3, ba_size, List.length_append]; omega
          rw [hV3]
          have HV3 := Lib.hid hV3
          have HPIN := Lib.hid hpin
          clear hV3 hpo hpin
          obtain ⟨pt, hpt⟩ : ∃ b, decide (0 < bits BinOp.and IntKind.u8 n 16) = b := ⟨_, rfl⟩
          have HPT := Lib.hid hpt
          clear hpt
          go_upto_if 66 with fail
          go_cut [9] (fun v wc => v = .string (ba (T2 ++ portT po ++ optL pt (47 :: letG [37, 47, 46, 126] z2 ++ [47]))) ∧ Hid (XAt g W1 wc lw SCb wi po (ba (optL pt (47 :: letG [37, 47, 46, 126] z2 ++ [47])))))
          case first =>
            obtain ⟨q0, q1, q2⟩ := CP.out _ X3.out.2.1
            cases pt with
            | true =>
              have hb : 0 < bits BinOp.and IntKind.u8 n 16 := of_decide_eq_true HPT.out
              go_upto_region 18 with (go_at_call 20; refine (HL3.out _ X3.out.2.1).mono ?_; rintro e v4 ⟨rfl, b4⟩; have X4 := Lib.hid (X3.out.far b4); clear b4; obtain ⟨⟨d0, d1, d2, d3, d4, d5, d6, d7⟩, g0, g1, g2, g3, g4, g5, g6, g7⟩ := eight X4.out.1)
              have hPP : (⟨#[47]⟩ : ByteArray) ++ D ++ ⟨#[47]⟩ = ba (47 :: letG [37, 47, 46, 126] z2 ++ [47]) := by
                rw [← HD.out]
                show ba [47] ++ ba _ ++ ba [47] = _
                rw [ba_app, ba_app]; rfl
              obtain ⟨PP, hPQ⟩ : ∃ P, ba (47 :: letG [37, 47, 46, 126] z2 ++ [47]) = P := ⟨_, rfl⟩
              rw [hPQ] at hPP
              have sPP : PP.size ≤ 42 := by rw [← hPQ, ba_size]; exact (parts_len z0 z1 z2 true true true).2.2
              have HPQ := Lib.hid hPQ
              have X5 := Lib.hid (X4.out.setPa PP)
              rw [hPP]
              clear hPP hPQ d0 d1 d2 d3 d4 d5 d6 d7 g0 g1 g2 g3 g4 g5 g6 g7
              generalize hv5 : v4.setCell { block := g, off := 7 } (Value.string PP) = v5 at X5 ⊢
              clear hv5
              obtain ⟨⟨d0, d1, d2, d3, d4, d5, d6, d7⟩, g0, g1, g2, g3, g4, g5, g6, g7⟩ := eight X5.out.1
              go_wp2_with fail
              go_meet
              refine ⟨?_, ?_⟩
              · show _ = Value.string (ba (T2 ++ portT po ++ (47 :: letG [37, 47, 46, 126] z2 ++ [47])))
                rw [← ba_app, HPQ.out, HV3.out]
              · show Hid (XAt _ _ _ _ _ _ _ (ba (47 :: letG [37, 47, 46, 126] z2 ++ [47])))
                rw [HPQ.out]; exact X5.out
            | false =>
              have hb : ¬ 0 < bits BinOp.and IntKind.u8 n 16 := of_decide_eq_false HPT.out
              go_wp2_with fail
              go_meet
              refine ⟨?_, X3.out⟩
              rw [← HV3.out]
              show Value.string (ba (T2 ++ portT po)) = .string (ba (T2 ++ portT po ++ []))
              rw [List.append_nil]
          case rest =>
            obtain ⟨rfl, X4⟩ := hcut
            clear X3 sV3 HV3 HL3 CP
            have hpp := parse_host_opts z0 z1 z2 wi sch pt HPIN.out
            have hlen : (T2 ++ portT po ++ optL pt (47 :: letG [37, 47, 46, 126] z2 ++ [47])).length ≤ 1000000 := by
              have := (parts_len z0 z1 z2 wi sch pt).2.2
              rw [List.length_append, List.length_append]; omega
            have hT4 : schP sch (120 :: letG [43, 46] z2) ++ (starL wi (letG [45] z0 ++ 46 :: letG [45] z1) ++ portT po ++ optL pt (47 :: letG [37, 47, 46, 126] z2 ++ [47])) = T2 ++ portT po ++ optL pt (47 :: letG [37, 47, 46, 126] z2 ++ [47]) := by
              rw [← HT2.out, ← HNML.out]; simp only [List.append_assoc]
            rw [hT4] at hpp
            obtain ⟨PAb, hPA⟩ : ∃ P, ba (optL pt (47 :: letG [37, 47, 46, 126] z2 ++ [47])) = P := ⟨_, rfl⟩
            have HPC : Hid (∀ W, Below w.heap.size w W → Calls Tryd.prog 18 #[.string (ba (T2 ++ portT po ++ optL pt (47 :: letG [37, 47, 46, 126] z2 ++ [47])))] W fun e w' => e = .returned (.tuple #[.agg #[.int .i64 3, .string ⟨#[]⟩, .int .i64 0, .string SCb, .string lw, .bool wi, .int .i64 po, .string PAb], .int .i64 0]) ∧ Below W.heap.size W w') := fun W hB => by
              have := HP.out _ _ hpp hlen W hB
              rw [← HSC.out, ← HLWE.out, ← hPA]
              exact this
            obtain ⟨V4, hV4⟩ : ∃ V, ba (T2 ++ portT po ++ optL pt (47 :: letG [37, 47, 46, 126] z2 ++ [47])) = V := ⟨_, rfl⟩
            rw [hV4] at HPC ⊢
            rw [hPA] at X4
            have HB4 : Hid (Below w.heap.size w wc) := B1.out.trans (X4.out.2.1.mono B1.out.size)
            clear hV4 hPA hpp hT4 hlen HP HSC HLWE hpl sT2
            go_upto_region 20 with (go_at_call 18; refine (HPC.out _ HB4.out).mono ?_; rintro e v5 ⟨rfl, b5⟩; have X5 := Lib.hid (X4.out.far b5); have HB5 := Lib.hid (HB4.out.trans (b5.mono HB4.out.size)); clear b5)
            obtain ⟨W6, hW6⟩ : ∃ W, W = v5.alloc (.cells #[.int .i64 3, .string ⟨#[]⟩, .int .i64 0, .string SCb, .string lw, .bool wi, .int .i64 po, .string PAb] 41) := ⟨_, rfl⟩
            have k6 : W6.heap[v5.heap.size]? = some (.cells #[.int .i64 3, .string ⟨#[]⟩, .int .i64 0, .string SCb, .string lw, .bool wi, .int .i64 po, .string PAb] 41 (0, 0)) := by rw [hW6]; exact heap_alloc_new v5 _
            have B56 : Below v5.heap.size v5 W6 := by rw [hW6]; exact (Below.refl _ v5).alloc (Nat.le_refl _) _
            have HB6 : Hid (Below w.heap.size w W6) := HB5.out.trans (B56.mono HB5.out.size)
            have X6 := Lib.hid (X5.out.far B56)
            rw [← hW6]
            obtain ⟨⟨d0, d1, d2, d3, d4, d5, d6, d7⟩, g0, g1, g2, g3, g4, g5, g6, g7⟩ := eight k6
            obtain ⟨⟨e0, e1, e2, e3, e4, e5, e6, e7⟩, k0, k1, k2, k3, k4, k5, k6', k7⟩ := eight X6.out.1
            clear hW6 k6 B56
            go_wp2_with (go_at_call 17; refine (HR.out _ HB6.out).mono ?_; rintro e w7 ⟨rfl, b7⟩; have HB7 := Lib.hid (HB6.out.trans (b7.mono HB6.out.size)); clear b7)
            go_ret
            exact ⟨by exact rfl, HB7.out⟩
end Go.Proofs.YteeplfbaflldaaaDoor.S25
