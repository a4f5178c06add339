/- The law SourcesBack. -/
import Derived.Test.YteeplfbaflldaaaDoorLRd25
import Derived.Test.YteeplfbaflldaaaDoorSrcX
set_option linter.unusedVariables false
set_option linter.unusedSimpArgs false
namespace Go.Proofs.YteeplfbaflldaaaDoor.S25
open Go.RowKit Go.Extern.Stop Go.Stop Go.Extern T10

set_option maxHeartbeats 1600000 in
set_option maxRecDepth 100000 in
theorem sourcesBack_law (s : ByteArray) (m : Int) (w : World) (hE : EOk m w) (hT : PTab w) :
    Calls Tryd.prog 8 #[.string s] w fun e w' => e = .returned (.bool true) ∧ Below w.heap.size w w' := by
  have HR : Hid (∀ W, Below w.heap.size w W → Calls Tryd.prog 17 #[] W fun e w' => e = .returned (.bool true) ∧ Below W.heap.size W w') := fun W hB => reads_any m W (hE.far hB (Nat.le_refl _))
  have HB0 := Lib.hid (Below.refl w.heap.size w)
  by_cases hlen : 300 < s.size
  · have hl : (300 : Int) < s.size := by omega
    clear hlen
    go_enter Tryd.func8, Tryd.ntmps8
    go_wp2_with (go_at_call 17; refine (HR.out _ HB0.out).mono ?_; rintro e w1 ⟨rfl, b1⟩)
    go_ret
    exact ⟨by exact rfl, b1⟩
  · have hl : ¬ (300 : Int) < s.size := by omega
    have hsl : s.data.toList.length = s.size := by simp
    have hPA := Parse_any s m w (by omega) hE.1 hE.2
    cases hR : parseL s.data.toList with
    | none =>
      rw [hR] at hPA
      have HPA : Hid (Calls Tryd.prog 18 #[.string s] w fun e w' => e = .returned (.tuple #[.agg #[.int .i64 0, .string ⟨#[]⟩, .int .i64 0, .string ⟨#[]⟩, .string ⟨#[]⟩, .bool false, .int .i64 0, .string ⟨#[]⟩], .int .i64 250]) ∧ Below w.heap.size w w') := hPA
      clear hPA hR hlen hsl hE hT
      go_enter Tryd.func8, Tryd.ntmps8
      go_upto_region 4 with (go_at_call 18; refine HPA.out.mono ?_; rintro e v1 ⟨rfl, b1⟩; have HV1 := Lib.hid b1; clear b1)
      obtain ⟨W1, hW1⟩ : ∃ W, W = v1.alloc (.cells #[.int .i64 0, .string ⟨#[]⟩, .int .i64 0, .string ⟨#[]⟩, .string ⟨#[]⟩, .bool false, .int .i64 0, .string ⟨#[]⟩] 41) := ⟨_, rfl⟩
      have HB1 : Hid (Below w.heap.size w W1) := by
        show Below _ _ _
        rw [hW1]; exact HV1.out.alloc HV1.out.size _
      have k1 : W1.heap[v1.heap.size]? = some (.cells #[.int .i64 0, .string ⟨#[]⟩, .int .i64 0, .string ⟨#[]⟩, .string ⟨#[]⟩, .bool false, .int .i64 0, .string ⟨#[]⟩] 41 (0, 0)) := by rw [hW1]; exact heap_alloc_new v1 _
      rw [← hW1]
      obtain ⟨⟨c0, c1, c2, c3, c4, c5, c6, c7⟩, f0, f1, f2, f3, f4, f5, f6, f7⟩ := eight k1
      clear hW1 k1
      go_wp2_with (go_at_call 17; refine (HR.out _ HB1.out).mono ?_; rintro e w1 ⟨rfl, b1⟩; have HB2 := Lib.hid (HB1.out.trans (b1.mono HB1.out.size)); clear b1)
      go_ret
      exact ⟨by exact rfl, HB2.out⟩
    | some x =>
      obtain ⟨hok, l1, l2, l3, l4⟩ := parse_ok (by omega) hR
      have htl := textS_len hok
      have hback := parse_text_back hR
      have hPB : Hid (∀ W, Below w.heap.size w W → Calls Tryd.prog 18 #[.string (ba (textS x))] W fun e w' => e = .returned (.tuple #[.agg #[.int .i64 x.kind, .string (ba x.text), .int .i64 x.bits, .string (ba x.scheme), .string (ba x.host), .bool x.wild, .int .i64 x.port, .string (ba x.path)], .int .i64 0]) ∧ Below W.heap.size W w') := fun W hB => Parse_ok hback (by omega) (hE.far hB (Nat.le_refl _))
      have hTX : Hid (∀ W, Below w.heap.size w W → Calls Tryd.prog 19 #[.agg #[.int .i64 x.kind, .string (ba x.text), .int .i64 x.bits, .string (ba x.scheme), .string (ba x.host), .bool x.wild, .int .i64 x.port, .string (ba x.path)]] W fun e w' => e = .returned (.string (ba (textS x))) ∧ Below W.heap.size W w') := fun W hB => Text_any x W (hT.far hB (Nat.le_refl _)) hok
      rw [hR] at hPA
      have HPA : Hid (Calls Tryd.prog 18 #[.string s] w fun e w' => e = .returned (.tuple #[.agg #[.int .i64 x.kind, .string (ba x.text), .int .i64 x.bits, .string (ba x.scheme), .string (ba x.host), .bool x.wild, .int .i64 x.port, .string (ba x.path)], .int .i64 0]) ∧ Below w.heap.size w w') := hPA
      clear hPA hR hlen hsl hE hT hok l1 l2 l3 l4 hback
      obtain ⟨t, ht⟩ : ∃ t, ba (textS x) = t := ⟨_, rfl⟩
      rw [ht] at hPB hTX
      clear ht htl
      go_enter Tryd.func8, Tryd.ntmps8
      go_upto_region 4 with (go_at_call 18; refine HPA.out.mono ?_; rintro e v1 ⟨rfl, b1⟩; have HV1 := Lib.hid b1; clear b1)
      obtain ⟨W1, hW1⟩ : ∃ W, W = v1.alloc (.cells #[.int .i64 x.kind, .string (ba x.text), .int .i64 x.bits, .string (ba x.scheme), .string (ba x.host), .bool x.wild, .int .i64 x.port, .string (ba x.path)] 41) := ⟨_, rfl⟩
      have HB1 : Hid (Below w.heap.size w W1) := by
        show Below _ _ _
        rw [hW1]; exact HV1.out.alloc HV1.out.size _
      have K1 : Hid (W1.heap[v1.heap.size]? = some (.cells #[.int .i64 x.kind, .string (ba x.text), .int .i64 x.bits, .string (ba x.scheme), .string (ba x.host), .bool x.wild, .int .i64 x.port, .string (ba x.path)] 41 (0, 0))) := by
        show _ = _
        rw [hW1]; exact heap_alloc_new v1 _
      have hlt1 := lt_of_heap K1.out
      rw [← hW1]
      obtain ⟨⟨c0, c1, c2, c3, c4, c5, c6, c7⟩, f0, f1, f2, f3, f4, f5, f6, f7⟩ := eight K1.out
      clear hW1
      go_upto_region 7 with (go_at_call 19; refine (hTX.out _ HB1.out).mono ?_; rintro e v2 ⟨rfl, b2⟩; have HV2 := Lib.hid b2; clear b2)
      have HB2 : Hid (Below w.heap.size w v2) := HB1.out.trans (HV2.out.mono HB1.out.size)
      go_upto_region 8 with (go_at_call 18; refine (hPB.out _ HB2.out).mono ?_; rintro e v3 ⟨rfl, b3⟩; have HV3 := Lib.hid b3; clear b3)
      obtain ⟨W3, hW3⟩ : ∃ W, W = v3.alloc (.cells #[.int .i64 x.kind, .string (ba x.text), .int .i64 x.bits, .string (ba x.scheme), .string (ba x.host), .bool x.wild, .int .i64 x.port, .string (ba x.path)] 41) := ⟨_, rfl⟩
      have HB3 : Hid (Below w.heap.size w v3) := HB2.out.trans (HV3.out.mono HB2.out.size)
      have HB4 : Hid (Below w.heap.size w W3) := by
        show Below _ _ _
        rw [hW3]; exact HB3.out.alloc HB3.out.size _
      have K3 : Hid (W3.heap[v3.heap.size]? = some (.cells #[.int .i64 x.kind, .string (ba x.text), .int .i64 x.bits, .string (ba x.scheme), .string (ba x.host), .bool x.wild, .int .i64 x.port, .string (ba x.path)] 41 (0, 0))) := by
        show _ = _
        rw [hW3]; exact heap_alloc_new v3 _
      have D1 : Below W1.heap.size W1 W3 := by
        rw [hW3]
        exact (HV2.out.trans (HV3.out.mono HV2.out.size)).alloc (Nat.le_trans HV2.out.size HV3.out.size) _
      obtain ⟨⟨p0, p1, p2, p3, p4, p5, p6, p7⟩, q0, q1, q2, q3, q4, q5, q6, q7⟩ := eight ((D1.block _ hlt1).trans K1.out)
      obtain ⟨⟨d0, d1, d2, d3, d4, d5, d6, d7⟩, g0, g1, g2, g3, g4, g5, g6, g7⟩ := eight K3.out
      rw [← hW3]
      clear hW3 D1 K1 K3 c0 c1 c2 c3 c4 c5 c6 c7 f0 f1 f2 f3 f4 f5 f6 f7
      go_wp2_with (first
        | (go_at_call 17; refine (HR.out _ HB5.out).mono ?_; rintro e w6 ⟨rfl, b6⟩; have HB6 := Lib.hid (HB5.out.trans (b6.mono HB5.out.size)); clear b6)
        | (go_at_call 19; refine (hTX.out _ HB4.out).mono ?_; rintro e w5 ⟨rfl, b5⟩; have HB5 := Lib.hid (HB4.out.trans (b5.mono HB4.out.size)); clear b5))
      go_ret
      exact ⟨by exact rfl, HB6.out⟩
end Go.Proofs.YteeplfbaflldaaaDoor.S25
