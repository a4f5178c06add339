/- The law SourcesParse. -/
import Derived.Test.YteeplfbaflldaaaGreatDoorLRd25
import Derived.Test.YteeplfbaflldaaaGreatDoorRs12
import Derived.Deep.DeepCutAuto
set_option linter.unusedVariables false
set_option linter.unusedSimpArgs false
namespace Go.Proofs.YteeplfbaflldaaaGreatDoor.S25
open Go.RowKit Go.Extern.Stop Go.Stop Go.Extern T10

set_option maxHeartbeats 3200000 in
set_option maxRecDepth 100000 in
theorem sourcesParse_law (s : ByteArray) (m : Int) (w : World) (hE : EOk m w) (hT : PTab w) :
    Calls Tryz.prog 3 #[.string s] w fun e w' => e = .returned (.bool true) ∧ Below w.heap.size w w' := by
  have HR : Hid (∀ W, Below w.heap.size w W → Calls Tryz.prog 4 #[] W fun e w' => e = .returned (.bool true) ∧ Below W.heap.size W w') := fun W hB => reads_any m W (hE.far hB (Nat.le_refl _))
  have HB0 := Lib.hid (Below.refl w.heap.size w)
  by_cases hlen : 300 < s.size
  · have hl : (300 : Int) < s.size := by omega
    clear hlen
    go_enter Tryz.func3, Tryz.ntmps3
    go_wp2_with (go_at_call 4; refine (HR.out _ HB0.out).mono ?_; rintro e w1 ⟨rfl, b1⟩)
    go_ret
    exact ⟨by exact rfl, b1⟩
  · have hl : ¬ (300 : Int) < s.size := by omega
    have hsl : s.data.toList.length = s.size := by simp
    obtain ⟨x, n, hx, hok⟩ : ∃ (x : SrcL) (n : Int), parseV (parseL s.data.toList) = .tuple #[srcW x, .int .i64 n] ∧ SrcOk x := by
      cases h : parseL s.data.toList with
      | none => exact ⟨zL, 250, rfl, by unfold SrcOk zL; simp⟩
      | some x => exact ⟨x, 0, rfl, (parse_ok (by omega) h).1⟩
    have HPA : Hid (∀ W, Below w.heap.size w W → Calls Tryz.prog 5 #[.string s] W fun e w' => e = .returned (.tuple #[.agg #[.int .i64 x.kind, .string (ba x.text), .int .i64 x.bits, .string (ba x.scheme), .string (ba x.host), .bool x.wild, .int .i64 x.port, .string (ba x.path)], .int .i64 n]) ∧ Below W.heap.size W w') := fun W hB => by
      have hEW := hE.far hB (Nat.le_refl _)
      have := Parse_any s m W (by omega) hEW.1 hEW.2
      rw [hx] at this
      exact this
    have HRA : Hid (∀ W, Below w.heap.size w W → Calls Tryz.prog 6 #[.string s] W fun e w' => e = .returned (.tuple #[.agg #[.int .i64 x.kind, .string (ba x.text), .int .i64 x.bits, .string (ba x.scheme), .string (ba x.host), .bool x.wild, .int .i64 x.port, .string (ba x.path)], .int .i64 n]) ∧ Below W.heap.size W w') := fun W hB => by
      have := rparse_any s W (by omega) (hT.far hB (Nat.le_refl _))
      rw [hx] at this
      exact this
    have HTX : Hid (∀ W, Below w.heap.size w W → Calls Tryz.prog 7 #[.agg #[.int .i64 x.kind, .string (ba x.text), .int .i64 x.bits, .string (ba x.scheme), .string (ba x.host), .bool x.wild, .int .i64 x.port, .string (ba x.path)]] W fun e w' => e = .returned (.string (ba (textS x))) ∧ Below W.heap.size W w') := fun W hB => Text_any x W (hT.far hB (Nat.le_refl _)) hok
    have HRX : Hid (∀ W, Below w.heap.size w W → Calls Tryz.prog 8 #[.agg #[.int .i64 x.kind, .string (ba x.text), .int .i64 x.bits, .string (ba x.scheme), .string (ba x.host), .bool x.wild, .int .i64 x.port, .string (ba x.path)]] W fun e w' => e = .returned (.string (ba (textS x))) ∧ Below W.heap.size W w') := fun W hB => rtext_any x W (hT.far hB (Nat.le_refl _)) hok
    obtain ⟨t, ht⟩ : ∃ t, ba (textS x) = t := ⟨_, rfl⟩
    rw [ht] at HTX HRX
    clear ht hx hok hE hT hsl hlen
    go_enter Tryz.func3, Tryz.ntmps3
    go_upto_region 4 with (go_at_call 5; refine (HPA.out _ HB0.out).mono ?_; rintro e v1 ⟨rfl, b1⟩; have HV1 := Lib.hid b1; clear b1)
    obtain ⟨W1, hW1⟩ : ∃ W, W = v1.alloc (.cells #[.int .i64 x.kind, .string (ba x.text), .int .i64 x.bits, .string (ba x.scheme), .string (ba x.host), .bool x.wild, .int .i64 x.port, .string (ba x.path)] 24) := ⟨_, rfl⟩
    have HB1 : Hid (Below w.heap.size w W1) := by
      show Below _ _ _
      rw [hW1]; exact HV1.out.alloc HV1.out.size _
    have K1 : Hid (W1.heap[v1.heap.size]? = some (.cells #[.int .i64 x.kind, .string (ba x.text), .int .i64 x.bits, .string (ba x.scheme), .string (ba x.host), .bool x.wild, .int .i64 x.port, .string (ba x.path)] 24 (0, 0))) := by
      show _ = _
      rw [hW1]; exact heap_alloc_new v1 _
    rw [← hW1]
    clear hW1
    go_upto_region 5 with (go_at_call 6; refine (HRA.out _ HB1.out).mono ?_; rintro e v3 ⟨rfl, b3⟩; have HV3 := Lib.hid b3; clear b3)
    obtain ⟨W3, hW3⟩ : ∃ W, W = v3.alloc (.cells #[.int .i64 x.kind, .string (ba x.text), .int .i64 x.bits, .string (ba x.scheme), .string (ba x.host), .bool x.wild, .int .i64 x.port, .string (ba x.path)] 24) := ⟨_, rfl⟩
    have HB2 : Hid (Below w.heap.size w v3) := HB1.out.trans (HV3.out.mono HB1.out.size)
    have HB3 : Hid (Below w.heap.size w W3) := by
      show Below _ _ _
      rw [hW3]; exact HB2.out.alloc HB2.out.size _
    have K3 : Hid (W3.heap[v3.heap.size]? = some (.cells #[.int .i64 x.kind, .string (ba x.text), .int .i64 x.bits, .string (ba x.scheme), .string (ba x.host), .bool x.wild, .int .i64 x.port, .string (ba x.path)] 24 (0, 0))) := by
      show _ = _
      rw [hW3]; exact heap_alloc_new v3 _
    have D1 : Below W1.heap.size W1 W3 := by
      rw [hW3]
      exact HV3.out.alloc HV3.out.size _
    have K13 : Hid (W3.heap[v1.heap.size]? = some (.cells #[.int .i64 x.kind, .string (ba x.text), .int .i64 x.bits, .string (ba x.scheme), .string (ba x.host), .bool x.wild, .int .i64 x.port, .string (ba x.path)] 24 (0, 0))) := (D1.block _ (lt_of_heap K1.out)).trans K1.out
    obtain ⟨⟨p0, p1, p2, p3, p4, p5, p6, p7⟩, q0, q1, q2, q3, q4, q5, q6, q7⟩ := eight K13.out
    obtain ⟨⟨d0, d1, d2, d3, d4, d5, d6, d7⟩, g0, g1, g2, g3, g4, g5, g6, g7⟩ := eight K3.out
    rw [← hW3]
    clear hW3 D1
    have HL1 := Lib.hid (lt_of_heap K13.out)
    have HL3 := Lib.hid (lt_of_heap K3.out)
    have HD3 : Hid (Below w.heap.size w W3.drew) := HB3.out.drew
    have HD0 : Hid (Below W3.heap.size W3 W3.drew) := (Below.refl _ W3).drew
    clear q0 q1 q2 q3 q4 q5 q6 q7 g0 g1 g2 g3 g4 g5 g6 g7
    have HD5 : Hid (∀ v, Below W3.drew.heap.size W3.drew v → Below w.heap.size w v ∧ Below W3.heap.size W3 v) := fun v h => ⟨HD3.out.trans (h.mono HD3.out.size), HD0.out.trans (h.mono HD0.out.size)⟩
    have HD6 : Hid (∀ u v, Below w.heap.size w u → Below W3.heap.size W3 u → Below u.heap.size u v → Below w.heap.size w v ∧ Below W3.heap.size W3 v) := fun u v h1 h2 h => ⟨h1.trans (h.mono h1.size), h2.trans (h.mono h2.size)⟩
    have HC : Hid (∀ v, Below W3.heap.size W3 v → v.heap[v1.heap.size]? = W3.heap[v1.heap.size]? ∧ v.heap[v3.heap.size]? = W3.heap[v3.heap.size]?) := fun v h => ⟨h.block _ HL1.out, h.block _ HL3.out⟩
    go_region_with (first
      | (go_at_call 4; refine (HR.out _ ?hA).mono ?_; (case hA => first | exact HBr.out | exact HBt.out); rintro e w7 ⟨rfl, b7⟩; have HBe := Lib.hid (show Below w.heap.size w w7 from (by first | exact HBr.out.trans (b7.mono HBr.out.size) | exact HBt.out.trans (b7.mono HBt.out.size))); clear b7)
      | (go_at_call 8; refine (HRX.out _ ?hA).mono ?_; (case hA => first | exact HBt.out | exact HD3.out); rintro e w6 ⟨rfl, b6⟩; have HBr := Lib.hid (show Below w.heap.size w w6 from (by first | exact (HD6.out _ _ HBt.out HDt.out b6).1 | exact (HD5.out _ b6).1)); have HDr := Lib.hid (show Below W3.heap.size W3 w6 from (by first | exact (HD6.out _ _ HBt.out HDt.out b6).2 | exact (HD5.out _ b6).2)); clear b6; obtain ⟨⟨m0, m1, m2, m3, m4, m5, m6, m7⟩, j0, j1, j2, j3, j4, j5, j6, j7⟩ := eight ((HC.out _ HDr.out).1.trans K13.out); clear j0 j1 j2 j3 j4 j5 j6 j7)
      | (go_at_call 7; refine (HTX.out _ ?hA).mono ?_; (case hA => first | exact HBr.out | exact HD3.out); rintro e w5 ⟨rfl, b5⟩; have HBt := Lib.hid (show Below w.heap.size w w5 from (by first | exact (HD6.out _ _ HBr.out HDr.out b5).1 | exact (HD5.out _ b5).1)); have HDt := Lib.hid (show Below W3.heap.size W3 w5 from (by first | exact (HD6.out _ _ HBr.out HDr.out b5).2 | exact (HD5.out _ b5).2)); clear b5; obtain ⟨⟨n0, n1, n2, n3, n4, n5, n6, n7⟩, i0, i1, i2, i3, i4, i5, i6, i7⟩ := eight ((HC.out _ HDt.out).2.trans K3.out); clear i0 i1 i2 i3 i4 i5 i6 i7))
    all_goals (go_wp2_with fail; go_ret; exact ⟨by exact rfl, HBe.out⟩)
end Go.Proofs.YteeplfbaflldaaaGreatDoor.S25
