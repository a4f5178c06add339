/- lazaretlaw10.TagsTell. -/
import Derived.Test.YteeplfbaflldaaaDoorRdT10
set_option linter.unusedVariables false
set_option linter.unusedSimpArgs false
namespace Go.Proofs.YteeplfbaflldaaaDoor.T10
open Go.RowKit R9

set_option maxHeartbeats 6400000 in
set_option maxRecDepth 100000 in
theorem tell_none (s : ByteArray) (z : Int) (m : Int) (w : World) (hT : RTab w) (hm : MaxOk m w) (hs : ¬ (2000 : Int) < s.size)
    (h1 : ∀ W, Below w.heap.size w W → Calls Tryd.prog 12 #[.string s, .int .i64 z] W fun e w' => e = .returned (.tuple #[zTok, .int .i64 0, .bool false]) ∧ Below W.heap.size W w')
    (h2 : ∀ W, Below w.heap.size w W → Calls Tryd.prog 13 #[.string s, .int .i64 z] W fun e w' => e = .returned (.tuple #[zTok, .int .i64 0, .bool false]) ∧ Below W.heap.size W w') :
    Calls Tryd.prog 3 #[.string s, .int .i64 z] w fun e w' => e = .returned (.bool true) ∧ Below w.heap.size w w' := by
  have HT := Lib.hid hT
  have HM := Lib.hid hm
  have H1 := Lib.hid h1
  have H2 := Lib.hid h2
  have HTG := Lib.hid (fun W (hb : Below w.heap.size w W) => tagged_any m W (HT.out.below hb) (HM.out.below hb))
  have HZ := Lib.hid (fun w => zsame w)
  unfold zTok at HZ
  clear hT hm h1 h2
  go_enter Tryd.func3, Tryd.ntmps3
  go_wp2_with fail
  refine (H1.out _ (Below.refl _ _)).mono ?_
  rintro e w1 ⟨r1, b1⟩
  obtain rfl : e = .returned (.tuple #[zTok, .int .i64 0, .bool false]) := r1
  unfold zTok
  obtain ⟨W1, hW1⟩ : ∃ W1, W1 = w1.alloc (.cells #[.int .i64 0, .string ⟨#[]⟩, .string ⟨#[]⟩, .slice none 0 0, .bool false, .bool false, .bool false, .int .i64 0, .int .i64 0] 25) := ⟨_, rfl⟩
  have k1 : W1.heap[w1.heap.size]? = some (.cells #[.int .i64 0, .string ⟨#[]⟩, .string ⟨#[]⟩, .slice none 0 0, .bool false, .bool false, .bool false, .int .i64 0, .int .i64 0] 25 (0, 0)) := by
    rw [hW1]; exact heap_alloc_new w1 _
  have BW1 : Hid (Below w.heap.size w W1) := by show Below _ _ _; rw [hW1]; exact b1.alloc b1.size _
  have hs1 : w1.heap.size < W1.heap.size := by rw [hW1]; simp
  have K1 := Lib.hid k1
  have HW1 := Lib.hid hW1
  clear hW1 k1 b1
  go_upto_region 4 with fail
  rw [← HW1.out]
  go_wp2_with fail
  refine (H2.out _ BW1.out).mono ?_
  rintro e w2 ⟨r2, b2⟩
  obtain rfl : e = .returned (.tuple #[zTok, .int .i64 0, .bool false]) := r2
  unfold zTok
  obtain ⟨W2, hW2⟩ : ∃ W2, W2 = w2.alloc (.cells #[.int .i64 0, .string ⟨#[]⟩, .string ⟨#[]⟩, .slice none 0 0, .bool false, .bool false, .bool false, .int .i64 0, .int .i64 0] 25) := ⟨_, rfl⟩
  have k2 : W2.heap[w2.heap.size]? = some (.cells #[.int .i64 0, .string ⟨#[]⟩, .string ⟨#[]⟩, .slice none 0 0, .bool false, .bool false, .bool false, .int .i64 0, .int .i64 0] 25 (0, 0)) := by
    rw [hW2]; exact heap_alloc_new w2 _
  have B12 : Below W1.heap.size W1 W2 := by rw [hW2]; exact b2.alloc b2.size _
  have BW2 : Hid (Below w.heap.size w W2) := BW1.out.trans (B12.mono BW1.out.size)
  have k1 : W2.heap[w1.heap.size]? = _ := (B12.block _ hs1).trans K1.out
  have HW2 := Lib.hid hW2
  clear hW2 b2 B12
  go_upto_region 5 with fail
  rw [← HW2.out]
  obtain ⟨⟨c0, c1, c2, c3, c4, c5, c6, c7, c8⟩, _⟩ := nine k1
  obtain ⟨⟨d0, d1, d2, d3, d4, d5, d6, d7, d8⟩, _⟩ := nine k2
  clear k1 k2
  go_wp2_with fail
  refine (HZ.out _).mono ?_
  rintro e w3 ⟨rfl, b3⟩
  have BW3 : Hid (Below w.heap.size w w3) := BW2.out.trans (b3.mono BW2.out.size)
  clear b3
  go_wp2_with fail
  refine (HTG.out _ BW3.out).mono ?_
  rintro e w4 ⟨rfl, b4⟩
  go_wp2_with fail
  go_ret
  exact ⟨by exact rfl, BW3.out.trans (b4.mono BW3.out.size)⟩
set_option maxHeartbeats 6400000 in
set_option maxRecDepth 100000 in
theorem tagsTell_law (s : ByteArray) (z : Int) (m : Int) (w : World) (hT : RTab w) (hm : MaxOk m w) :
    Calls Tryd.prog 3 #[.string s, .int .i64 z] w fun e w' => e = .returned (.bool true) ∧ Below w.heap.size w w' := by
  by_cases hl : (2000 : Int) < s.size
  · have HTG := Lib.hid (tagged_any m w hT hm)
    clear hT hm
    go_enter Tryd.func3, Tryd.ntmps3
    go_wp2_with fail
    refine HTG.out.mono ?_
    rintro e w' ⟨rfl, b⟩
    go_wp2_with fail
    go_ret
    exact ⟨by exact rfl, b⟩
  · by_cases hz : z < 0 ∨ (s.size : Int) ≤ z
    · exact tell_none s z m w hT hm hl (fun W _ => read_far s z W hz) (fun W _ => rread_far s z W hz)
    · obtain ⟨a, rfl⟩ : ∃ a : Nat, z = (a : Int) := ⟨z.toNat, by omega⟩
      have ha : a < s.size := by omega
      cases hr : readL s.data.toList a with
      | none =>
        refine tell_none s a m w hT hm hl (fun W hb => ?_) (fun W hb => ?_)
        · have h := read_any s a m W (hT.below hb) (hm.below hb) (by omega) (by omega)
          rw [hr] at h
          exact h
        · have h := rread_any s a W ha (by omega)
          rw [hr] at h
          exact h
      | some t =>
        have HT := Lib.hid hT
        have HM := Lib.hid hm
        have HTG := Lib.hid (fun W (hb : Below w.heap.size w W) => tagged_any m W (HT.out.below hb) (HM.out.below hb))
        have HR := Lib.hid (read_any s a m w hT hm (by omega) (by omega))
        have HR2 := Lib.hid (fun W => rread_any s a W ha (by omega))
        rw [hr] at HR HR2
        obtain ⟨N, hN⟩ : ∃ N, t.next = N := ⟨_, rfl⟩
        obtain ⟨LA, hLA⟩ : ∃ L, t.attrs.length = L := ⟨_, rfl⟩
        obtain ⟨ki, hki⟩ : ∃ k, kindI t = k := ⟨_, rfl⟩
        obtain ⟨nm, hnm⟩ : ∃ nm : ByteArray, (⟨t.name.toArray⟩ : ByteArray) = nm := ⟨_, rfl⟩
        obtain ⟨du, hdu⟩ : ∃ d, t.dup = d := ⟨_, rfl⟩
        obtain ⟨se, hse⟩ : ∃ d, t.self = d := ⟨_, rfl⟩
        have HN := Lib.hid hN
        have HLA := Lib.hid hLA
        have HV : Hid (∀ oa oc, tokV t a (.slice oa t.attrs.length oc) = .agg #[.int .i64 ki, .string nm, .string ⟨#[]⟩, .slice oa LA oc, .bool du, .bool se, .bool false, .int .i64 (a : Int), .int .i64 (N : Int)]) := by
          intro oa oc
          rw [tokV_eq, hLA]
          unfold tokA
          rw [hki, hnm, hdu, hse, hN]
        have hqq : ((N : Int) == (N : Int)) = true := by simp
        clear hT hm hr hN hLA hki hnm hdu hse hz
        go_enter Tryd.func3, Tryd.ntmps3
        go_wp2_with fail
        refine HR.out.mono ?_
        rintro e w1 ⟨⟨oa, oc, rfl, own1⟩, b1⟩
        rw [HV.out, HN.out]
        have A1 := Lib.hid (att_in own1)
        have HB1 := Lib.hid b1
        clear own1 b1
        obtain ⟨W1, hW1⟩ : ∃ W1, W1 = w1.alloc (.cells #[.int .i64 ki, .string nm, .string ⟨#[]⟩, .slice oa LA oc, .bool du, .bool se, .bool false, .int .i64 (a : Int), .int .i64 (N : Int)] 25) := ⟨_, rfl⟩
        have k1 : W1.heap[w1.heap.size]? = some (.cells #[.int .i64 ki, .string nm, .string ⟨#[]⟩, .slice oa LA oc, .bool du, .bool se, .bool false, .int .i64 (a : Int), .int .i64 (N : Int)] 25 (0, 0)) := by
          rw [hW1]; exact heap_alloc_new w1 _
        have BW1 : Hid (Below w.heap.size w W1) := by show Below _ _ _; rw [hW1]; exact HB1.out.alloc HB1.out.size _
        have hs1 : w1.heap.size < W1.heap.size := by rw [hW1]; simp
        have A1' : Hid (AttIn W1 (.slice oa t.attrs.length oc) t.attrs) := by rw [hW1]; exact A1.out.below ((Below.refl _ w1).alloc (Nat.le_refl _) _) (Nat.le_refl _)
        have K1 := Lib.hid k1
        have HW1 := Lib.hid hW1
        clear hW1 k1
        go_upto_region 4 with fail
        rw [← HW1.out]
        go_wp2_with fail
        refine (HR2.out _).mono ?_
        rintro e w3 ⟨⟨ob, od, rfl, own3⟩, b3⟩
        rw [HV.out, HN.out]
        have A3 := Lib.hid (att_in own3)
        have B13 := Lib.hid b3
        clear own3 b3
        obtain ⟨W3, hW3⟩ : ∃ W3, W3 = w3.alloc (.cells #[.int .i64 ki, .string nm, .string ⟨#[]⟩, .slice ob LA od, .bool du, .bool se, .bool false, .int .i64 (a : Int), .int .i64 (N : Int)] 25) := ⟨_, rfl⟩
        have k3 : W3.heap[w3.heap.size]? = some (.cells #[.int .i64 ki, .string nm, .string ⟨#[]⟩, .slice ob LA od, .bool du, .bool se, .bool false, .int .i64 (a : Int), .int .i64 (N : Int)] 25 (0, 0)) := by
          rw [hW3]; exact heap_alloc_new w3 _
        have B3 : Below W1.heap.size W1 W3 := by rw [hW3]; exact B13.out.alloc B13.out.size _
        have k1 : W3.heap[w1.heap.size]? = _ := (B3.block _ hs1).trans K1.out
        have BW3 : Hid (Below w.heap.size w W3) := BW1.out.trans (B3.mono BW1.out.size)
        have HC := Lib.hid (tsame_is (.slice oa t.attrs.length oc) (.slice ob t.attrs.length od) t.attrs ki (a : Int) (N : Int) nm ⟨#[]⟩ du se false W3 (A1'.out.below B3 (Nat.le_refl _)) (by rw [hW3]; exact A3.out.below ((Below.refl _ w3).alloc (Nat.le_refl _) _) (Nat.le_refl _)))
        rw [HLA.out] at HC
        unfold tokA at HC
        have HW3 := Lib.hid hW3
        clear hW3 B3
        go_upto_region 5 with fail
        rw [← HW3.out]
        obtain ⟨⟨c0, c1, c2, c3, c4, c5, c6, c7, c8⟩, _⟩ := nine k1
        obtain ⟨⟨d0, d1, d2, d3, d4, d5, d6, d7, d8⟩, _⟩ := nine k3
        clear k1 k3
        go_wp2_with fail
        refine HC.out.mono ?_
        rintro e w4 ⟨rfl, b4⟩
        have BW4 : Hid (Below w.heap.size w w4) := BW3.out.trans (b4.mono BW3.out.size)
        clear b4
        go_wp2_with fail
        refine (HTG.out _ BW4.out).mono ?_
        rintro e w5 ⟨rfl, b5⟩
        go_wp2_with fail
        go_ret
        exact ⟨by exact rfl, BW4.out.trans (b5.mono BW4.out.size)⟩
end Go.Proofs.YteeplfbaflldaaaDoor.T10
