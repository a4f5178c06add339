/- The law AsciiCommas, by the contracts. -/
import Derived.Test.YthgecembedjnaaaDoorLAscii2
import Derived.Test.YthgecembedjnaaaDoorLists5
set_option linter.unusedVariables false
namespace Go.Proofs.YthgecembedjnaaaDoor
open Go.RowKit

/-- A quiet call at whatever draws. -/
theorem quiet_one {P : Program} {f : FuncId} {args : Array Value} {w : World} {n : Nat} {v : Value} (h : Calls P f args (w.drewN n) fun e w' => e = .returned v ∧ w.drewN n = w') : Calls P f args (w.drewN n) fun e w' => e = .returned v ∧ ∃ k, w' = w.drewN k :=
  h.mono fun _ _ ⟨he, hw⟩ => ⟨he, n, hw.symm⟩
theorem quiet_add {P : Program} {f : FuncId} {args : Array Value} {w : World} {a n : Nat} {v : Value} (h : Calls P f args (w.drewN (a + n)) fun e w' => e = .returned v ∧ w.drewN (a + n) = w') : Calls P f args (w.drewN (a + n)) fun e w' => e = .returned v ∧ ∃ k, w' = w.drewN (a + k) :=
  h.mono fun _ _ ⟨he, hw⟩ => ⟨he, n, hw.symm⟩

theorem sp44 (g : Nat) (h : g < 5) : ((⟨#[9, 10, 12, 13, 32]⟩ : ByteArray)[g]'(by exact h)) ≠ 44 := by
  have : ∀ k : Fin 5, ((⟨#[9, 10, 12, 13, 32]⟩ : ByteArray)[k.val]'(k.isLt)) ≠ 44 := by decide
  exact this ⟨g, h⟩
theorem grp2 {t : ByteArray} {f : List UInt8} {k : Nat} {F : List (List UInt8)} (ht : ∃ P, sRun 44 t.data.toList = (P, []) ∧ full P = F.take k) (hT : F.take (k + 1) = F.take k ++ [f]) (h1 : f ≠ []) (h2 : stripL f = f) (h3 : (44 : UInt8) ∉ f) (g : Nat) (hg : g < 5) :
    ∃ P, sRun 44 (t ++ sps.extract g (g + 1) ++ ⟨f.toArray⟩ ++ sps.extract (4 - g) (5 - g) ++ ⟨#[44]⟩ ++ sps.extract g (g + 1) ++ ⟨#[44]⟩).data.toList = (P, []) ∧ full P = F.take (k + 1) := by
  obtain ⟨P, hP, hF⟩ := ht
  have e : 5 - g = (4 - g) + 1 := by omega
  refine ⟨P ++ [sps[g]'(by show g < 5; omega) :: f ++ [sps[4 - g]'(by show 4 - g < 5; omega)]] ++ [[sps[g]'(by show g < 5; omega)]], ?_, ?_⟩
  · rw [e, ByteArray.data_append, Array.toList_append, add_one _ sps g (by show g < 5; omega), ByteArray.data_append, Array.toList_append, add_one _ sps (4 - g) (by show 4 - g < 5; omega), ByteArray.data_append, Array.toList_append, add_one _ sps g (by show g < 5; omega)]
    exact sRun_group hP (sp44 g hg) (sp44 (4 - g) (by omega)) h3
  · exact (full_group (P := P) (x := sps[g]'(by show g < 5; omega)) (y := sps[4 - g]'(by show 4 - g < 5; omega)) (sp5 g hg) (sp5 (4 - g) (by omega)) h1 h2).trans (by rw [hF, hT])
theorem grp2_size {t : ByteArray} {f : List UInt8} (g : Nat) (hg : g < 5) : (t ++ sps.extract g (g + 1) ++ ⟨f.toArray⟩ ++ sps.extract (4 - g) (5 - g) ++ ⟨#[44]⟩ ++ sps.extract g (g + 1) ++ ⟨#[44]⟩).size = t.size + f.length + 5 := by
  have e : 5 - g = (4 - g) + 1 := by omega
  have h1 : sps.size = 5 := rfl
  have h2 : (⟨f.toArray⟩ : ByteArray).size = f.length := rfl
  have h3 : (⟨#[44]⟩ : ByteArray).size = 1 := rfl
  rw [e]
  simp only [ByteArray.size_append, ByteArray.size_extract, h1, h2, h3]
  omega

set_option maxHeartbeats 4000000 in
set_option maxRecDepth 100000 in
theorem asciiCommas_law (s : ByteArray) (gv : Value) (gs : List Int) (m : Int) (w : World) (hs : s.size ≤ maxLen) (hg : SliceIn w gv (gs.map (Value.int .u8))) (hgw : ∀ z ∈ gs, 0 ≤ z ∧ z ≤ 255) (hm : MaxOk m w) :
    Calls Tryd.prog 7 #[.string s, gv] w fun e w' => e = .returned (.bool true) ∧ Below w.heap.size w w' := by
  have HM := Lib.hid hm
  clear hm
  unfold maxLen at hs
  obtain ⟨ga, gc, hgv⟩ : ∃ ga gc, gv = .slice ga gs.length gc := by
    obtain ⟨ao, cap, hv, _⟩ := hg
    exact ⟨ao, cap, by simpa using hv⟩
  subst hgv
  by_cases h1 : 1000 < s.size
  · go_enter Tryd.func7, Tryd.ntmps7
    go_wp2_with (go_at_call 23; refine (spelt_any m _ HM.out).mono ?_; rintro e w' ⟨rfl, hb⟩)
    go_ret
    exact ⟨rfl, hb⟩
  · go_enter Tryd.func7, Tryd.ntmps7
    go_wp2_with fail
    refine (commas_any s m _ (by omega) HM.out).mono ?_
    rintro e w1 ⟨⟨v1, rfl, o1⟩, b1⟩
    have HW := Lib.hid (commas_words s.data.toList)
    have hcount : (commasL s.data.toList).length ≤ s.data.toList.length + 1 := by
      have h3 := full_len (spl 44 s.data.toList)
      have h4 := spl_len 44 s.data.toList
      unfold commasL
      omega
    have hsl : s.data.toList.length ≤ s.size := by simp
    generalize hF : commasL s.data.toList = F at *
    have HF := Lib.hid hF
    clear hF
    obtain ⟨fa, fc, hfv⟩ := owns_shape o1
    subst hfv
    have hg1 := hg.below b1
    clear hg
    go_wp2_with fail
    go_loopw [7, 8] (fun tv i wr => ∃ (k n : Nat) (t : ByteArray), k ≤ F.length ∧ i = .int .i64 k ∧ tv = .string t ∧ t.size ≤ k * 1005 ∧ Hid (∃ P, sRun 44 t.data.toList = (P, []) ∧ full P = F.take k) ∧ wr = w1.drewN n) (fun _ i _ => F.length - (intOf i).toNat)
    case atStart => exact ⟨0, 0, ⟨#[]⟩, Nat.zero_le _, rfl, rfl, Nat.zero_le _, ⟨[], rfl, rfl⟩, rfl⟩
    case round =>
      obtain ⟨k, n, t, hk, rfl, rfl, hts, ht, rfl⟩ := hrel
      by_cases hlt : k < F.length
      · obtain ⟨g1, c1, e1, _, _, _, _, r1⟩ := owns_cell o1 hlt
        obtain ⟨rfl, rfl⟩ : fa = some ⟨g1, 0, none⟩ ∧ fc = c1 := by injection e1 with a b c; exact ⟨a, c⟩
        have q1 := r1 k (.string ⟨F[k].toArray⟩) (by simp [strCells, hlt])
        have hw := HW.out F[k] (List.getElem_mem hlt)
        have hfl := hw.2.2.2
        have HT : Hid (F.take (k + 1) = F.take k ++ [F[k]]) := by
          rw [List.take_succ_eq_append_getElem hlt]; rfl
        generalize hf : F[k] = f at *
        clear hf r1 e1
        have hE : f.isEmpty = false := by simpa using hw.1
        have hE2 : (f != f) = false := by simp
        have HWD := Lib.hid hw
        have k0' : (0 : Int) ≤ (k : Int) := by omega
        have k1' : (k : Int) < (F.length : Int) := by omega
        have hst : ∀ W : World, Calls Tryd.prog 26 #[.string ⟨f.toArray⟩] W fun e w' => e = .returned (.string ⟨f.toArray⟩) ∧ W = w' := by
          intro W
          refine (strip_any ⟨f.toArray⟩ W (by show f.length ≤ _; omega)).mono ?_
          rintro e w' ⟨rfl, rfl⟩
          have e : stripL (⟨f.toArray⟩ : ByteArray).data.toList = f := hw.2.1
          rw [e]
          exact ⟨rfl, rfl⟩
        have HSTR := Lib.hid hst
        clear hw hst
        go_wp2_with fail
        go_quiet ((go_at_call 26; first | exact quiet_add (HSTR.out _) | exact quiet_one (HSTR.out _)))
        go_wp2_with fail
        go_loop [9] (fun j => ∃ q : Nat, q ≤ f.length ∧ j = .int .i64 q) (fun j => f.length - (intOf j).toNat)
        case atStart => exact ⟨0, Nat.zero_le _, rfl⟩
        case round =>
          obtain ⟨q, hq, rfl⟩ := hrel
          by_cases hql : q < f.length
          · have hns : ((((⟨f.toArray⟩ : ByteArray)[q]'(by exact hql)).toNat : Int) == 44) = false := by
              have hne : f[q] ≠ 44 := fun e => HWD.out.2.2.1 (by rw [← e]; exact List.getElem_mem hql)
              rw [beq_eq_false_iff_ne]
              intro e
              exact hne (UInt8.toNat_inj.1 (by simpa using (show f[q].toNat = 44 from by exact Int.ofNat.inj e)))
            go_wp2_with fail
            go_round
            case rel => exact ⟨q + 1, by omega, by go_num⟩
            case measure => simp [intOf]; omega
          · by_cases hkg : k < gs.length
            · obtain ⟨gb, go, gcc, ge, _, gcell⟩ := hg1.at (i := k) (by simpa using hkg)
              have ge2 : ga = some ⟨gb, go, none⟩ ∧ gc = gcc := by injection ge with a b c; exact ⟨a, c⟩
              obtain ⟨rfl, rfl⟩ := ge2
              have hz := hgw gs[k] (List.getElem_mem hkg)
              have gcell' : w1.cell? ⟨gb, go + k, none⟩ = some (.int .u8 gs[k]) := by simpa using gcell
              clear gcell ge
              generalize hzz : gs[k] = z at *
              clear hzz
              obtain ⟨g, hgz⟩ : ∃ g : Nat, z % 5 = (g : Int) := ⟨(z % 5).toNat, by omega⟩
              have hg5 : (g : Int) < 5 := by omega
              have hg0 : (0 : Int) ≤ (g : Int) := by omega
              have HGZ := Lib.hid hgz
              clear hgz
              go_wp2_with fail
              rw [HGZ.out]
              have w1' : (g : Int) ≤ (g : Int) + 1 := by omega
              have w2' : (g : Int) + 1 ≤ 5 := by omega
              have w3' : (0 : Int) ≤ 4 - (g : Int) := by omega
              have w4' : 4 - (g : Int) ≤ 5 - (g : Int) := by omega
              have w5' : 5 - (g : Int) ≤ 5 := by omega
              go_quiet (fail)
              go_wp2_with fail
              go_roundw
              case rel =>
                have hgn : g < 5 := by omega
                refine ⟨k + 1, _, _, by omega, by go_num, rfl, ?_, grp2 ht.out HT.out HWD.out.1 HWD.out.2.1 HWD.out.2.2.1 g hgn, rfl⟩
                have e := grp2_size (t := t) (f := f) g hgn
                show (t ++ sps.extract g (g + 1) ++ ⟨f.toArray⟩ ++ sps.extract (4 - g) (5 - g) ++ ⟨#[44]⟩ ++ sps.extract g (g + 1) ++ ⟨#[44]⟩).size ≤ _
                rw [e]
                omega
              case measure => simp [intOf]; omega
            · go_wp2_with fail
              go_quiet (fail)
              go_wp2_with fail
              go_roundw
              case rel =>
                refine ⟨k + 1, _, _, by omega, by go_num, rfl, ?_, grp2 ht.out HT.out HWD.out.1 HWD.out.2.1 HWD.out.2.2.1 0 (by decide), rfl⟩
                have e := grp2_size (t := t) (f := f) 0 (by decide)
                show (t ++ sps.extract 0 (0 + 1) ++ ⟨f.toArray⟩ ++ sps.extract (4 - 0) (5 - 0) ++ ⟨#[44]⟩ ++ sps.extract 0 (0 + 1) ++ ⟨#[44]⟩).size ≤ _
                rw [e]
                omega
              case measure => simp [intOf]; omega
      · have e : F.take k = F := List.take_of_length_le (by omega)
        rw [e] at ht
        clear e
        have hts2 : t.size ≤ 1006005 := by
          have : k * 1005 ≤ 1001 * 1005 := Nat.mul_le_mul_right _ (by omega)
          omega
        have HFT : Hid (commasL t.data.toList = F) := by
          obtain ⟨P, hP, hPF⟩ := ht.out
          show commasL t.data.toList = F
          rw [commasL_of hP, hPF]
        clear ht
        have c1 := below_drewN b1 n
        go_wp2_with fail
        refine (commas_any t m _ (by omega) (HM.out.below c1)).mono ?_
        rintro e w2 ⟨⟨v2, rfl, o2⟩, b2⟩
        rw [HFT.out] at o2
        go_wp2_with fail
        refine (texts_any _ _ _ _ F F _ o2 (owns_below (owns_drewN o1 n) b2) (by omega) (by omega)).mono ?_
        rintro e w3 ⟨rfl, b3⟩
        rw [show (F == F) = true from by simp]
        have c2 := c1.trans (b2.mono c1.size)
        have c3 := c2.trans (b3.mono c2.size)
        clear c1 c2 o1 o2 b1 b2 b3
        go_wp2_with fail
        refine (spelt_any m _ (HM.out.below c3)).mono ?_
        rintro e w6 ⟨rfl, b6⟩
        go_wp2
        go_ret
        exact ⟨rfl, c3.trans (b6.mono c3.size)⟩
end Go.Proofs.YthgecembedjnaaaDoor
