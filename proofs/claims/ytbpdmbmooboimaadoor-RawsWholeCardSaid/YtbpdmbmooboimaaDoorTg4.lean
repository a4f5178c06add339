/- tags: readAttr. -/
import Derived.Test.YtbpdmbmooboimaaDoorTg3
import Derived.Laws.Rows
set_option linter.unusedVariables false
set_option linter.unusedSimpArgs false
namespace Go.Proofs.YtbpdmbmooboimaaDoor.T10
open Go.RowKit R9

def retA (a : Nat) (x : At × Nat) : Value := .tuple #[.agg #[.string ⟨x.1.1.toArray⟩, .string ⟨x.1.2.toArray⟩], .int .i64 ((a + x.2 : Nat) : Int)]
set_option maxHeartbeats 3200000 in
set_option maxRecDepth 100000 in
theorem attr_any (s : ByteArray) (a : Nat) (m : Int) (w : World) (hT : RTab w) (hm : MaxOk m w) (ha : a < s.size) (hs : s.size ≤ 5000) :
    Calls Tryd.prog 118 #[.string s, .int .i64 a] w fun e w' => e = .returned (retA a (attrL (s.data.toList.drop a))) ∧ Below w.heap.size w w' := by
  obtain ⟨r, hr⟩ : ∃ r, s.data.toList.drop a = r := ⟨_, rfl⟩
  obtain ⟨Z, hZ⟩ : ∃ Z, attrL r = Z := ⟨_, rfl⟩
  rw [hr, hZ]
  unfold attrL at hZ
  have hsl : s.data.toList.length = s.size := by simp
  have hrl : r.length = s.size - a := by rw [← hr, List.length_drop, hsl]
  obtain ⟨e, he⟩ : ∃ e, 1 + upN stopB (r.drop 1) = e := ⟨_, rfl⟩
  have hue := upN_le stopB (r.drop 1)
  rw [List.length_drop, hrl] at hue
  obtain ⟨E, hE⟩ : ∃ E, a + e = E := ⟨_, rfl⟩
  have hEs : E ≤ s.size := by omega
  obtain ⟨b, hb⟩ : ∃ b, e + skipN (r.drop e) = b := ⟨_, rfl⟩
  have hub := skipN_le (r.drop e)
  rw [List.length_drop, hrl] at hub
  obtain ⟨B, hB⟩ : ∃ B, a + b = B := ⟨_, rfl⟩
  have hBs : B ≤ s.size := by omega
  simp only [he, hb] at hZ
  obtain ⟨A1, hA1⟩ : ∃ A1, a + 1 = A1 := ⟨_, rfl⟩
  have HU := Lib.hid (fun W => up_any ⟨#[47, 62, 61]⟩ stopB stops_b s A1 W (by omega) (by omega))
  have eU : A1 + upN stopB (s.data.toList.drop A1) = E := by
    rw [← hA1, ← List.drop_drop, hr]; omega
  rw [eU] at HU
  have HS1 := Lib.hid (fun W => skip_any s E W hEs (by omega))
  have eS : E + skipN (s.data.toList.drop E) = B := by
    rw [← hE, ← List.drop_drop, hr]; omega
  rw [eS] at HS1
  obtain ⟨T, hTe⟩ : ∃ T, s.extract a E = T := ⟨_, rfl⟩
  have hTl : T.data.toList = r.take e := by rw [← hTe, ext_toList, hr]; congr 1; omega
  have hTs : T.size ≤ 5000 := by rw [← hTe]; simp; omega
  have hz0 : RTab (w.alloc (.cells #[.string ⟨#[]⟩, .string ⟨#[]⟩] 83)) := hT.below ((Below.refl _ w).alloc (Nat.le_refl _) _)
  have hm0 : MaxOk m (w.alloc (.cells #[.string ⟨#[]⟩, .string ⟨#[]⟩] 83)) := hm.below ((Below.refl _ w).alloc (Nat.le_refl _) _)
  have HC := Lib.hid (clean_any T m _ (by omega) hm0)
  obtain ⟨nm, hnm⟩ : ∃ nm, cleanL (r.take e) = nm := ⟨_, rfl⟩
  rw [hTl, hnm] at HC
  have HZ := Lib.hid hZ
  have HT0 := Lib.hid hz0
  have i1 : (a : Int) + 1 = (A1 : Int) := by omega
  have i2 : (a : Int) ≤ E := by omega
  have i3 : (E : Int) ≤ s.size := by omega
  have i4 : a ≤ E := by omega
  clear hZ hue hub eU eS hz0 hm0 hTl hm hT hA1
  go_enter Tryd.func118, Tryd.ntmps118
  go_wp2_with fail
  refine (HU.out _).mono ?_
  rintro e w' ⟨rfl, rfl⟩
  go_wp2_with fail
  refine HC.out.mono ?_
  rintro e w1 ⟨rfl, b1⟩
  have hp1 : w.heap.size < w1.heap.size := by have := b1.size; simp at this; omega
  obtain ⟨W3, hW3⟩ : ∃ W3, W3 = w1.alloc (.cells #[.string ⟨nm.toArray⟩, .string ⟨#[]⟩] 83) := ⟨_, rfl⟩
  have k4 : W3.heap[w.heap.size]? = some (.cells #[.string ⟨#[]⟩, .string ⟨#[]⟩] 83 (0, 0)) := by
    rw [hW3, Below.heap_alloc _ _ _ hp1, b1.block _ (by simp)]
    exact heap_alloc_new w _
  have k7 : W3.heap[w1.heap.size]? = some (.cells #[.string ⟨nm.toArray⟩, .string ⟨#[]⟩] 83 (0, 0)) := by
    rw [hW3]
    exact heap_alloc_new w1 _
  have HB3 : Hid (Below w.heap.size w W3) := by
    show Below _ _ _
    rw [hW3]
    exact (((Below.refl _ w).alloc (Nat.le_refl _) _).trans (b1.mono (by simp))).alloc (by omega) _
  have HT3 : Hid (RTab W3) := HT0.out.below (by
    rw [hW3]
    exact b1.alloc b1.size _)
  obtain ⟨q, hq⟩ : ∃ q, w1.heap.size = q := ⟨_, rfl⟩
  rw [hq] at k7 hp1
  have hq3 : q < W3.heap.size := by rw [hW3, ← hq]; simp
  have c40 : W3.cell? ⟨w.heap.size, 0, none⟩ = some (.string ⟨#[]⟩) := by rw [Lib.cell_of_heap k4]; rfl
  have c41 : W3.cell? ⟨w.heap.size, 1, none⟩ = some (.string ⟨#[]⟩) := by rw [Lib.cell_of_heap k4]; rfl
  have f40 := Lib.frozen_of_heap k4 0
  have f41 := Lib.frozen_of_heap k4 1
  have c70 : W3.cell? ⟨q, 0, none⟩ = some (.string ⟨nm.toArray⟩) := by rw [Lib.cell_of_heap k7]; rfl
  have c71 : W3.cell? ⟨q, 1, none⟩ = some (.string ⟨#[]⟩) := by rw [Lib.cell_of_heap k7]; rfl
  have f71 := Lib.frozen_of_heap k7 1
  have K4 := Lib.hid k4
  have K7 := Lib.hid k7
  clear k4 k7 b1 HC
  go_upto_region 3 with fail
  rw [← hW3]
  have HQ := Lib.hid hq
  clear hW3 hq
  by_cases h61 : r[b]? = some 61
  · have hbl := (List.getElem?_eq_some_iff.1 h61).1
    have hBl : B < s.size := by omega
    have iB : (B : Int) < s.size := by omega
    have iB' : ¬ (s.size : Int) ≤ B := by omega
    have hs61 : s[B] = 61 := by
      have := at_get hBl
      rw [← hr, List.getElem?_drop, hB, this] at h61
      simpa using h61
    have t1 := byte_is' (z := 61) hs61 rfl
    obtain ⟨B1, hB1⟩ : ∃ B1, B + 1 = B1 := ⟨_, rfl⟩
    have iB1 : (B : Int) + 1 = B1 := by omega
    obtain ⟨v, hv⟩ : ∃ v, b + 1 + skipN (r.drop (b + 1)) = v := ⟨_, rfl⟩
    have huv := skipN_le (r.drop (b + 1))
    rw [List.length_drop, hrl] at huv
    obtain ⟨V, hV⟩ : ∃ V, a + v = V := ⟨_, rfl⟩
    have hVs : V ≤ s.size := by omega
    have HS2 := Lib.hid (fun W => skip_any s B1 W (by omega) (by omega))
    have eS2 : B1 + skipN (s.data.toList.drop B1) = V := by
      rw [← hB1, show B + 1 = a + (b + 1) by omega, ← List.drop_drop, hr]; omega
    rw [eS2] at HS2
    have hZ := HZ.out
    rw [if_pos h61] at hZ
    simp only [hv] at hZ
    clear h61 hs61 eS2 huv HZ
    by_cases hVl : V < s.size
    · have iV : (V : Int) < s.size := by omega
      have iV' : ¬ (s.size : Int) ≤ V := by omega
      have hrv : r[v]? = some s[V] := by rw [← hr, List.getElem?_drop, hV]; exact at_get hVl
      have hdv : r.drop v = s.data.toList.drop V := by rw [← hr, List.drop_drop, hV]
      have hdv1 : r.drop (v + 1) = s.data.toList.drop (V + 1) := by rw [← hr, List.drop_drop, ← Nat.add_assoc, hV]
      rw [hrv, hdv, hdv1, hrl] at hZ
      simp only [] at hZ
      by_cases h62 : s[V] = 62
      · have t2 := byte_is (z := 62) h62 rfl
        rw [if_pos h62] at hZ
        have HRES : Hid (retA a Z = .tuple #[.agg #[.string ⟨nm.toArray⟩, .string ⟨#[]⟩], .int .i64 V]) := by
          show _ = _
          rw [← hZ]
          unfold retA
          simp only []
          rw [hV, hnm]
        clear hrv hdv hdv1 h62 hZ hV hv hnm
        go_wp2_with fail
        refine (HS1.out _).mono ?_
        rintro e w' ⟨rfl, rfl⟩
        go_wp2_with fail
        refine (HS2.out _).mono ?_
        rintro e w' ⟨rfl, rfl⟩
        go_wp2_with fail
        refine bodyPost_ret (v := .tuple #[.agg #[.string ⟨nm.toArray⟩, .string ⟨#[]⟩], .int .i64 V]) ?_ rfl ?_
        · rw [results_cell_tmp rfl]
          go_simp
        · exact ⟨by rw [HRES.out], (HB3.out.setCell (by exact Nat.le_refl _) _).setCell (by exact Nat.le_refl _) _⟩
      · have t2 := byte_not (z := 62) h62 rfl
        rw [if_neg h62] at hZ
        by_cases hqq : s[V] = 34 ∨ s[V] = 39
        · obtain ⟨A, hA⟩ : ∃ A, V + 1 = A := ⟨_, rfl⟩
          have iA : (V : Int) + 1 = A := by omega
          have hAs : A ≤ s.size := by omega
          have hq0 : ¬ s[V] = 0 := by rcases hqq with h | h <;> (rw [h]; decide)
          have HCQ := Lib.hid (fun W => cut_quote s A s[V] W hAs (by omega) hq0)
          rw [if_pos hqq, hA] at hZ
          obtain ⟨X, hX⟩ : ∃ X, (if A + toN s[V] (s.data.toList.drop A) < s.size then ((s.data.toList.drop A).take (toN s[V] (s.data.toList.drop A)), A + toN s[V] (s.data.toList.drop A) + 1) else ([], s.size)) = X := ⟨_, rfl⟩
          rw [hX] at HCQ
          obtain ⟨raw, j⟩ := X
          have hraw : raw.length ≤ 5000 ∧ Z = ((nm, valL raw), j - a) ∧ a ≤ j := by
            by_cases hi : A + toN s[V] (s.data.toList.drop A) < s.size
            · rw [if_pos hi] at hX
              injection hX with h1 h2
              rw [if_pos (by omega)] at hZ
              rw [← h1, ← h2, ← hZ, hnm]
              refine ⟨?_, ?_, by omega⟩
              · rw [List.length_take, List.length_drop, hsl]; omega
              · congr 1; omega
            · rw [if_neg hi] at hX
              injection hX with h1 h2
              rw [if_neg (by omega)] at hZ
              rw [← h1, ← h2, ← hZ, hnm]
              exact ⟨by simp, rfl, by omega⟩
          obtain ⟨VL, hVL⟩ : ∃ VL, valL raw = VL := ⟨_, rfl⟩
          have HRES : Hid (retA a Z = .tuple #[.agg #[.string ⟨nm.toArray⟩, .string ⟨VL.toArray⟩], .int .i64 j]) := by
            show _ = _
            rw [hraw.2.1, hVL]
            unfold retA
            simp only []
            rw [show a + (j - a) = j by have := hraw.2.2; omega]
          have HVAL := Lib.hid (fun W hT => value_any ⟨raw.toArray⟩ W hT (by show raw.toArray.size ≤ _; rw [List.size_toArray]; exact hraw.1))
          rw [show (⟨raw.toArray⟩ : ByteArray).data.toList = raw from rfl, hVL] at HVAL
          have ec : retC (raw, j) = .tuple #[.string ⟨raw.toArray⟩, .int .i64 (j : Int)] := rfl
          rw [ec] at HCQ
          have hqc := hqq
          clear hrv hdv hdv1 h62 hZ hV hv hnm hX hraw hVL ec hq0 hA hqq
          rcases hqc with h34 | h39
          · have t3 := byte_is (z := 34) h34 rfl
            clear h34
            go_wp2_with fail
            refine (HS1.out _).mono ?_
            rintro e w' ⟨rfl, rfl⟩
            go_wp2_with fail
            refine (HS2.out _).mono ?_
            rintro e w' ⟨rfl, rfl⟩
            go_wp2_with fail
            refine (HCQ.out _).mono ?_
            rintro e w' ⟨rfl, rfl⟩
            go_wp2_with fail
            refine (HVAL.out _ HT3.out).mono ?_
            rintro e w5 ⟨rfl, b5⟩
            have k4 : w5.heap[w.heap.size]? = _ := (b5.block _ (by omega)).trans K4.out
            have k7 : w5.heap[q]? = _ := (b5.block _ (by omega)).trans K7.out
            have d40 : w5.cell? ⟨w.heap.size, 0, none⟩ = some (.string ⟨#[]⟩) := by rw [Lib.cell_of_heap k4]; rfl
            have d41 : w5.cell? ⟨w.heap.size, 1, none⟩ = some (.string ⟨#[]⟩) := by rw [Lib.cell_of_heap k4]; rfl
            have g40 := Lib.frozen_of_heap k4 0
            have g41 := Lib.frozen_of_heap k4 1
            have d70 : w5.cell? ⟨q, 0, none⟩ = some (.string ⟨nm.toArray⟩) := by rw [Lib.cell_of_heap k7]; rfl
            have d71 : w5.cell? ⟨q, 1, none⟩ = some (.string ⟨#[]⟩) := by rw [Lib.cell_of_heap k7]; rfl
            have g71 := Lib.frozen_of_heap k7 1
            have hqb : w.heap.size ≤ q := by omega
            have hne : ¬ w.heap.size = q := by omega
            have hne' : ¬ q = w.heap.size := by omega
            have HB5 : Hid (Below w.heap.size w w5) := HB3.out.trans (b5.mono (by omega))
            clear k4 k7 b5 HVAL
            go_wp2_with fail
            refine bodyPost_ret (v := .tuple #[.agg #[.string ⟨nm.toArray⟩, .string ⟨VL.toArray⟩], .int .i64 j]) ?_ rfl ?_
            · rw [results_cell_tmp rfl]
              go_simp
            · exact ⟨by rw [HRES.out], ((HB5.out.setCell (by exact hqb) _).setCell (by exact Nat.le_refl _) _).setCell (by exact Nat.le_refl _) _⟩
          · have t3 : ((s[V].toNat : Int) == 34) = false := byte_not (d := 34) (z := 34) (by rw [h39]; decide) rfl
            have t4 := byte_is (z := 39) h39 rfl
            clear h39
            go_wp2_with fail
            refine (HS1.out _).mono ?_
            rintro e w' ⟨rfl, rfl⟩
            go_wp2_with fail
            refine (HS2.out _).mono ?_
            rintro e w' ⟨rfl, rfl⟩
            go_wp2_with fail
            refine (HCQ.out _).mono ?_
            rintro e w' ⟨rfl, rfl⟩
            go_wp2_with fail
            refine (HVAL.out _ HT3.out).mono ?_
            rintro e w5 ⟨rfl, b5⟩
            have k4 : w5.heap[w.heap.size]? = _ := (b5.block _ (by omega)).trans K4.out
            have k7 : w5.heap[q]? = _ := (b5.block _ (by omega)).trans K7.out
            have d40 : w5.cell? ⟨w.heap.size, 0, none⟩ = some (.string ⟨#[]⟩) := by rw [Lib.cell_of_heap k4]; rfl
            have d41 : w5.cell? ⟨w.heap.size, 1, none⟩ = some (.string ⟨#[]⟩) := by rw [Lib.cell_of_heap k4]; rfl
            have g40 := Lib.frozen_of_heap k4 0
            have g41 := Lib.frozen_of_heap k4 1
            have d70 : w5.cell? ⟨q, 0, none⟩ = some (.string ⟨nm.toArray⟩) := by rw [Lib.cell_of_heap k7]; rfl
            have d71 : w5.cell? ⟨q, 1, none⟩ = some (.string ⟨#[]⟩) := by rw [Lib.cell_of_heap k7]; rfl
            have g71 := Lib.frozen_of_heap k7 1
            have hqb : w.heap.size ≤ q := by omega
            have hne : ¬ w.heap.size = q := by omega
            have hne' : ¬ q = w.heap.size := by omega
            have HB5 : Hid (Below w.heap.size w w5) := HB3.out.trans (b5.mono (by omega))
            clear k4 k7 b5 HVAL
            go_wp2_with fail
            refine bodyPost_ret (v := .tuple #[.agg #[.string ⟨nm.toArray⟩, .string ⟨VL.toArray⟩], .int .i64 j]) ?_ rfl ?_
            · rw [results_cell_tmp rfl]
              go_simp
            · exact ⟨by rw [HRES.out], ((HB5.out.setCell (by exact hqb) _).setCell (by exact Nat.le_refl _) _).setCell (by exact Nat.le_refl _) _⟩
        · have hq34 : ¬ s[V] = 34 := fun h => hqq (.inl h)
          have hq39 : ¬ s[V] = 39 := fun h => hqq (.inr h)
          have t3 := byte_not (z := 34) hq34 rfl
          have t4 := byte_not (z := 39) hq39 rfl
          rw [if_neg hqq] at hZ
          have HCB := Lib.hid (fun W => cut_bare s V W (by omega) (by omega))
          obtain ⟨raw, hrw⟩ : ∃ raw, (s.data.toList.drop V).take (upN stopC (s.data.toList.drop V)) = raw := ⟨_, rfl⟩
          obtain ⟨j, hj⟩ : ∃ j, V + upN stopC (s.data.toList.drop V) = j := ⟨_, rfl⟩
          have hraw : raw.length ≤ 5000 := by rw [← hrw, List.length_take, List.length_drop, hsl]; omega
          rw [hrw, hj] at HCB
          obtain ⟨VL, hVL⟩ : ∃ VL, valL raw = VL := ⟨_, rfl⟩
          have HRES : Hid (retA a Z = .tuple #[.agg #[.string ⟨nm.toArray⟩, .string ⟨VL.toArray⟩], .int .i64 j]) := by
            show _ = _
            rw [← hZ, hrw, hVL, hnm]
            unfold retA
            simp only []
            rw [show a + (v + upN stopC (s.data.toList.drop V)) = j by omega]
          have HVAL := Lib.hid (fun W hT => value_any ⟨raw.toArray⟩ W hT (by show raw.toArray.size ≤ _; rw [List.size_toArray]; exact hraw))
          rw [show (⟨raw.toArray⟩ : ByteArray).data.toList = raw from rfl, hVL] at HVAL
          have ec : retC (raw, j) = .tuple #[.string ⟨raw.toArray⟩, .int .i64 (j : Int)] := rfl
          rw [ec] at HCB
          clear hrv hdv hdv1 h62 hZ hV hv hnm hrw hraw hVL ec hj hqq hq34 hq39
          go_wp2_with fail
          refine (HS1.out _).mono ?_
          rintro e w' ⟨rfl, rfl⟩
          go_wp2_with fail
          refine (HS2.out _).mono ?_
          rintro e w' ⟨rfl, rfl⟩
          go_wp2_with fail
          refine (HCB.out _).mono ?_
          rintro e w' ⟨rfl, rfl⟩
          go_wp2_with fail
          refine (HVAL.out _ HT3.out).mono ?_
          rintro e w5 ⟨rfl, b5⟩
          have k4 : w5.heap[w.heap.size]? = _ := (b5.block _ (by omega)).trans K4.out
          have k7 : w5.heap[q]? = _ := (b5.block _ (by omega)).trans K7.out
          have d40 : w5.cell? ⟨w.heap.size, 0, none⟩ = some (.string ⟨#[]⟩) := by rw [Lib.cell_of_heap k4]; rfl
          have d41 : w5.cell? ⟨w.heap.size, 1, none⟩ = some (.string ⟨#[]⟩) := by rw [Lib.cell_of_heap k4]; rfl
          have g40 := Lib.frozen_of_heap k4 0
          have g41 := Lib.frozen_of_heap k4 1
          have d70 : w5.cell? ⟨q, 0, none⟩ = some (.string ⟨nm.toArray⟩) := by rw [Lib.cell_of_heap k7]; rfl
          have d71 : w5.cell? ⟨q, 1, none⟩ = some (.string ⟨#[]⟩) := by rw [Lib.cell_of_heap k7]; rfl
          have g71 := Lib.frozen_of_heap k7 1
          have hqb : w.heap.size ≤ q := by omega
          have hne : ¬ w.heap.size = q := by omega
          have hne' : ¬ q = w.heap.size := by omega
          have HB5 : Hid (Below w.heap.size w w5) := HB3.out.trans (b5.mono (by omega))
          clear k4 k7 b5 HVAL
          go_wp2_with fail
          refine bodyPost_ret (v := .tuple #[.agg #[.string ⟨nm.toArray⟩, .string ⟨VL.toArray⟩], .int .i64 j]) ?_ rfl ?_
          · rw [results_cell_tmp rfl]
            go_simp
          · exact ⟨by rw [HRES.out], ((HB5.out.setCell (by exact hqb) _).setCell (by exact Nat.le_refl _) _).setCell (by exact Nat.le_refl _) _⟩
    · have iV' : (s.size : Int) ≤ V := by omega
      have hrv : r[v]? = none := by rw [← hr, List.getElem?_drop, hV]; exact at_none hVl
      rw [hrv] at hZ
      simp only [] at hZ
      have HRES : Hid (retA a Z = .tuple #[.agg #[.string ⟨nm.toArray⟩, .string ⟨#[]⟩], .int .i64 V]) := by
        show _ = _
        rw [← hZ]
        unfold retA
        simp only []
        rw [hV, hnm]
      clear hrv hZ hV hv hnm
      go_wp2_with fail
      refine (HS1.out _).mono ?_
      rintro e w' ⟨rfl, rfl⟩
      go_wp2_with fail
      refine (HS2.out _).mono ?_
      rintro e w' ⟨rfl, rfl⟩
      go_wp2_with fail
      refine bodyPost_ret (v := .tuple #[.agg #[.string ⟨nm.toArray⟩, .string ⟨#[]⟩], .int .i64 V]) ?_ rfl ?_
      · rw [results_cell_tmp rfl]
        go_simp
      · exact ⟨by rw [HRES.out], (HB3.out.setCell (by exact Nat.le_refl _) _).setCell (by exact Nat.le_refl _) _⟩
  · have HRES : Hid (retA a Z = .tuple #[.agg #[.string ⟨nm.toArray⟩, .string ⟨#[]⟩], .int .i64 E]) := by
      show _ = _
      have hZ := HZ.out
      rw [if_neg h61] at hZ
      rw [← hZ]
      unfold retA
      simp only []
      rw [hE, hnm]
    by_cases hBl : B < s.size
    · have iB : (B : Int) < s.size := by omega
      have iB' : ¬ (s.size : Int) ≤ B := by omega
      have hs61 : ¬ s[B] = 61 := by
        intro h
        apply h61
        rw [← hr, List.getElem?_drop, hB, at_get hBl, h]
      have t1 := byte_not' (z := 61) hs61 rfl
      clear h61 hs61 HZ
      go_wp2_with fail
      refine (HS1.out _).mono ?_
      rintro e w' ⟨rfl, rfl⟩
      go_wp2_with fail
      refine bodyPost_ret (v := .tuple #[.agg #[.string ⟨nm.toArray⟩, .string ⟨#[]⟩], .int .i64 E]) ?_ rfl ?_
      · rw [results_cell_tmp rfl]
        go_simp
      · exact ⟨by rw [HRES.out], (HB3.out.setCell (by exact Nat.le_refl _) _).setCell (by exact Nat.le_refl _) _⟩
    · have iB' : (s.size : Int) ≤ B := by omega
      clear h61 HZ
      go_wp2_with fail
      refine (HS1.out _).mono ?_
      rintro e w' ⟨rfl, rfl⟩
      go_wp2_with fail
      refine bodyPost_ret (v := .tuple #[.agg #[.string ⟨nm.toArray⟩, .string ⟨#[]⟩], .int .i64 E]) ?_ rfl ?_
      · rw [results_cell_tmp rfl]
        go_simp
      · exact ⟨by rw [HRES.out], (HB3.out.setCell (by exact Nat.le_refl _) _).setCell (by exact Nat.le_refl _) _⟩
end Go.Proofs.YtbpdmbmooboimaaDoor.T10
