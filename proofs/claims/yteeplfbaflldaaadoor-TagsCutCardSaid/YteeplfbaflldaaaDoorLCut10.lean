/- lazaretlaw10.TagsCut. -/
import Derived.Test.YteeplfbaflldaaaDoorTg8
import Derived.Test.YteeplfbaflldaaaDoorTgP
set_option linter.unusedVariables false
set_option linter.unusedSimpArgs false
namespace Go.Proofs.YteeplfbaflldaaaDoor.T10
open Go.RowKit R9

theorem cut_none {l : List UInt8} {t : Tok} (h : readL l 0 = some t) {M : Nat} (hM : M < t.next) : readL (l.take M) 0 = none := by
  cases h' : readL (l.take M) 0 with
  | none => rfl
  | some u =>
    have he := read_end h'
    have hl : u.next ≤ M := by
      have := he.2.1
      rw [List.length_take] at this
      omega
    have h2 := read_local (l' := l) h' (fun j hj => by rw [List.getElem?_take, if_pos (by omega)])
    rw [h] at h2
    injection h2 with h2
    rw [h2] at hM
    omega
theorem cut_more {l b : List UInt8} {t : Tok} (h : readL l 0 = some t) : readL (l.take t.next ++ b) 0 = some t := by
  have he := read_end h
  refine read_local h fun j hj => ?_
  rw [List.getElem?_append_left (by rw [List.length_take]; omega), List.getElem?_take, if_pos hj]
def tokD (t : Tok) (sv : Value) : Array Value := tokA (kindI t) ⟨t.name.toArray⟩ ⟨#[]⟩ sv t.dup t.self false 0 (t.next : Int)
theorem tokV_D (t : Tok) (sv : Value) : tokV t 0 sv = .agg (tokD t sv) := rfl

set_option maxHeartbeats 6400000 in
set_option maxRecDepth 100000 in
theorem tagsCut_law (s behind : ByteArray) (c : Nat) (m : Int) (w : World) (hc : c ≤ 65535) (hT : RTab w) (hm : MaxOk m w) :
    Calls Tryd.prog 6 #[.string s, .string behind, .int .u16 (c : Int)] w fun e w' => e = .returned (.bool true) ∧ Below w.heap.size w w' := by
  have HT := Lib.hid hT
  have HM := Lib.hid hm
  have HTG := Lib.hid (fun W (hb : Below w.heap.size w W) => tagged_any m W (HT.out.below hb) (HM.out.below hb))
  clear hT hm
  by_cases hl1 : (1000 : Int) < s.size
  · go_enter Tryd.func6, Tryd.ntmps6
    go_wp2_with fail
    refine (HTG.out _ (Below.refl _ _)).mono ?_
    rintro e w' ⟨rfl, b⟩
    go_wp2_with fail
    go_ret
    exact ⟨by exact rfl, b⟩
  · by_cases hl2 : (300 : Int) < behind.size
    · go_enter Tryd.func6, Tryd.ntmps6
      go_wp2_with fail
      refine (HTG.out _ (Below.refl _ _)).mono ?_
      rintro e w' ⟨rfl, b⟩
      go_wp2_with fail
      go_ret
      exact ⟨by exact rfl, b⟩
    · obtain ⟨S, hS⟩ : ∃ S, (⟨#[60]⟩ : ByteArray) ++ s = S := ⟨_, rfl⟩
      have hSs : S.size ≤ 1001 := by rw [← hS, ByteArray.size_append, show (⟨#[60]⟩ : ByteArray).size = 1 from rfl]; omega
      have HR := Lib.hid (read_any S 0 m w HT.out HM.out (by omega) (by omega))
      have hSl : S.data.toList.length = S.size := by simp
      cases hr : readL S.data.toList 0 with
      | none =>
        rw [hr] at HR
        have HZ := Lib.hid (fun w => zsame w)
        unfold zTok at HZ
        clear hr hSl
        go_enter Tryd.func6, Tryd.ntmps6
        go_wp2_with fail
        refine HR.out.mono ?_
        rintro e w1 ⟨r1, b1⟩
        obtain rfl : e = .returned (.tuple #[zTok, .int .i64 0, .bool false]) := r1
        unfold zTok
        have HB1 := Lib.hid b1
        clear b1
        go_wp2_with fail
        refine (HZ.out _).mono ?_
        rintro e w2 ⟨rfl, b2⟩
        have HB2 : Hid (Below w.heap.size w w2) := HB1.out.trans ((((Below.refl _ w1).alloc (Nat.le_refl _) _).trans (b2.mono (by simp))).mono HB1.out.size)
        clear b2
        go_wp2_with fail
        refine (HTG.out _ HB2.out).mono ?_
        rintro e w3 ⟨rfl, b3⟩
        go_wp2_with fail
        go_ret
        exact ⟨by exact rfl, HB2.out.trans (b3.mono HB2.out.size)⟩
      | some t =>
        rw [hr] at HR
        have he := read_end hr
        rw [hSl] at he
        obtain ⟨N, hN⟩ : ∃ N, t.next = N := ⟨_, rfl⟩
        rw [hN] at he
        have hN3 : 3 ≤ N := by omega
        have hNS : N ≤ S.size := he.2.1
        obtain ⟨J, hJ⟩ : ∃ J, N - 1 = J := ⟨_, rfl⟩
        have hJS : J < S.size := by omega
        have hJi : (N : Int) - 1 = (J : Int) := by omega
        have h62 : S[J] = 62 := by
          have h1 := he.2.2
          rw [hJ, at_get hJS] at h1
          simpa using h1
        have t0 := byte_is' (z := 62) h62 rfl
        obtain ⟨M, hM⟩ : ∃ M, c % N = M := ⟨_, rfl⟩
        have hMN : M < N := by rw [← hM]; exact Nat.mod_lt _ (by omega)
        have hMi : (c : Int) % (N : Int) = (M : Int) := by rw [← hM]; exact (Int.natCast_emod c N).symm
        obtain ⟨P, hP⟩ : ∃ P, S.extract 0 M = P := ⟨_, rfl⟩
        obtain ⟨Q, hQ⟩ : ∃ Q, S.extract 0 N = Q := ⟨_, rfl⟩
        obtain ⟨QB, hQB⟩ : ∃ QB, Q ++ behind = QB := ⟨_, rfl⟩
        have hPr : readL P.data.toList 0 = none := by
          rw [← hP, ext_init]
          exact cut_none hr (by rw [hN]; exact hMN)
        have hQr : readL QB.data.toList 0 = some t := by
          rw [← hQB, ByteArray.data_append, Array.toList_append, ← hQ, ext_init, ← hN]
          exact cut_more hr
        have hPs : P.size ≤ 5000 := by rw [← hP]; simp; omega
        have hQs : QB.size ≤ 5000 := by rw [← hQB, ← hQ]; simp; omega
        have hQz : Q.size ≤ 5000 := by rw [← hQ]; simp; omega
        have HR2 := Lib.hid (fun W (hb : Below w.heap.size w W) => read_any P 0 m W (HT.out.below hb) (HM.out.below hb) (by omega) hPs)
        have HR3 := Lib.hid (fun W (hb : Below w.heap.size w W) => read_any QB 0 m W (HT.out.below hb) (HM.out.below hb) (by omega) hQs)
        rw [hPr] at HR2
        rw [hQr] at HR3
        have i1 : ¬ (N : Int) < 3 := by omega
        have i2 : ¬ (S.size : Int) < N := by omega
        have i3 : (M : Int) ≤ S.size := by omega
        have i4 : (N : Int) ≤ S.size := by omega
        have i5 : ((N : Int) == 0) = false := by rw [beq_eq_false_iff_ne]; omega
        have hqq : ((N : Int) == (N : Int)) = true := by simp
        have HN := Lib.hid hN
        obtain ⟨LA, hLA⟩ : ∃ L, t.attrs.length = L := ⟨_, rfl⟩
        have HLA := Lib.hid hLA
        obtain ⟨ki, hki⟩ : ∃ k, kindI t = k := ⟨_, rfl⟩
        obtain ⟨nm, hnm⟩ : ∃ nm : ByteArray, (⟨t.name.toArray⟩ : ByteArray) = nm := ⟨_, rfl⟩
        obtain ⟨du, hdu⟩ : ∃ d, t.dup = d := ⟨_, rfl⟩
        obtain ⟨se, hse⟩ : ∃ d, t.self = d := ⟨_, rfl⟩
        have HV : Hid (∀ oa oc, tokV t 0 (.slice oa t.attrs.length oc) = .agg #[.int .i64 ki, .string nm, .string ⟨#[]⟩, .slice oa LA oc, .bool du, .bool se, .bool false, .int .i64 0, .int .i64 (N : Int)]) := by
          intro oa oc
          rw [tokV_D, hLA]
          unfold tokD tokA
          rw [hki, hnm, hdu, hse, hN]
        clear hr he hSl h62 hM hPr hQr hN hLA hki hnm hdu hse hJ hMN
        go_enter Tryd.func6, Tryd.ntmps6
        go_wp2_with fail
        refine HR.out.mono ?_
        rintro e w1 ⟨⟨oa, oc, rfl, own1⟩, b1⟩
        rw [HV.out, HN.out]
        have A1 := Lib.hid (att_in own1)
        have HB1 := Lib.hid b1
        clear own1 b1
        obtain ⟨W1, hW1⟩ : ∃ W1, W1 = w1.alloc (.cells #[.int .i64 ki, .string nm, .string ⟨#[]⟩, .slice oa LA oc, .bool du, .bool se, .bool false, .int .i64 0, .int .i64 (N : Int)] 25) := ⟨_, rfl⟩
        have k1 : W1.heap[w1.heap.size]? = some (.cells #[.int .i64 ki, .string nm, .string ⟨#[]⟩, .slice oa LA oc, .bool du, .bool se, .bool false, .int .i64 0, .int .i64 (N : Int)] 25 (0, 0)) := by
          rw [hW1]; exact heap_alloc_new w1 _
        have BW1 : Hid (Below w.heap.size w W1) := by show Below _ _ _; rw [hW1]; exact HB1.out.alloc HB1.out.size _
        have hs1 : w1.heap.size < W1.heap.size := by rw [hW1]; simp
        have A1' : Hid (AttIn W1 (.slice oa t.attrs.length oc) t.attrs) := by rw [hW1]; exact A1.out.below ((Below.refl _ w1).alloc (Nat.le_refl _) _) (Nat.le_refl _)
        have K1 := Lib.hid k1
        have HW1 := Lib.hid hW1
        clear hW1
        go_upto_region 5 with fail
        simp only [Int.natCast_zero] at *
        rw [← HW1.out]
        obtain ⟨⟨c0, c1, c2, c3, c4, c5, c6, c7, c8⟩, _⟩ := nine k1
        clear k1
        go_wp2_with fail
        refine (HR2.out _ BW1.out).mono ?_
        rintro e w2 ⟨r2, b2⟩
        obtain rfl : e = .returned (.tuple #[zTok, .int .i64 0, .bool false]) := r2
        unfold zTok
        have BW2 : Hid (Below w.heap.size w (w2.alloc (.cells #[.int .i64 0, .string ⟨#[]⟩, .string ⟨#[]⟩, .slice none 0 0, .bool false, .bool false, .bool false, .int .i64 0, .int .i64 0] 25))) := (BW1.out.trans (b2.mono BW1.out.size)).alloc (Nat.le_trans BW1.out.size b2.size) _
        have HB2 := Lib.hid b2
        clear b2 c0 c1 c2 c3 c4 c5 c6 c7 c8
        go_wp2_with fail
        refine (HR3.out _ BW2.out).mono ?_
        rintro e w3 ⟨⟨ob, od, rfl, own3⟩, b3⟩
        rw [HV.out, HN.out]
        have A3 := Lib.hid (att_in own3)
        have B13 : Hid (Below W1.heap.size W1 w3) := (HB2.out.alloc HB2.out.size _).trans (b3.mono (by have := HB2.out.size; simp; omega))
        clear own3 b3
        obtain ⟨W3, hW3⟩ : ∃ W3, W3 = w3.alloc (.cells #[.int .i64 ki, .string nm, .string ⟨#[]⟩, .slice ob LA od, .bool du, .bool se, .bool false, .int .i64 0, .int .i64 (N : Int)] 25) := ⟨_, rfl⟩
        have k3 : W3.heap[w3.heap.size]? = some (.cells #[.int .i64 ki, .string nm, .string ⟨#[]⟩, .slice ob LA od, .bool du, .bool se, .bool false, .int .i64 0, .int .i64 (N : Int)] 25 (0, 0)) := by
          rw [hW3]; exact heap_alloc_new w3 _
        have B3 : Below W1.heap.size W1 W3 := by rw [hW3]; exact B13.out.alloc B13.out.size _
        have k1 : W3.heap[w1.heap.size]? = _ := (B3.block _ hs1).trans K1.out
        have BW3 : Hid (Below w.heap.size w W3) := BW1.out.trans (B3.mono BW1.out.size)
        have HC := Lib.hid (tsame_is (.slice ob t.attrs.length od) (.slice oa t.attrs.length oc) t.attrs ki 0 (N : Int) nm ⟨#[]⟩ du se false W3 (by rw [hW3]; exact A3.out.below ((Below.refl _ w3).alloc (Nat.le_refl _) _) (Nat.le_refl _)) (A1'.out.below B3 (Nat.le_refl _)))
        rw [HLA.out] at HC
        unfold tokA at HC
        have HW3 := Lib.hid hW3
        clear hW3 B3
        go_upto_region 11 with fail
        rw [← HW3.out]
        obtain ⟨⟨c0, c1, c2, c3, c4, c5, c6, c7, c8⟩, _⟩ := nine k1
        obtain ⟨⟨d0, d1, d2, d3, d4, d5, d6, d7, d8⟩, _⟩ := nine k3
        clear k1 k3
        go_wp2_with fail
        refine HC.out.mono ?_
        rintro e w4 ⟨rfl, b4⟩
        have BW4 : Hid (Below w.heap.size w w4) := BW3.out.trans (b4.mono BW3.out.size)
        clear b4
        go_wp2_with fail
        refine (HTG.out _ BW4.out).mono ?_
        rintro e w5 ⟨rfl, b5⟩
        go_wp2_with fail
        go_ret
        exact ⟨by exact rfl, BW4.out.trans (b5.mono BW4.out.size)⟩
end Go.Proofs.YteeplfbaflldaaaDoor.T10
