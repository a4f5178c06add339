/- The law AsciiFields, by the contracts. -/
import Derived.Test.YthgecembedjnaaaDoorLAscii
import Derived.Test.YthgecembedjnaaaDoorLists4
import Derived.Test.YthgecembedjnaaaDoorArgs
set_option linter.unusedVariables false
namespace Go.Proofs.YthgecembedjnaaaDoor
open Go.RowKit

theorem add_two (t s : ByteArray) (k : Nat) (h : k < s.size) : (t ++ s.extract k (k + 1)).data.toList = t.data.toList ++ [s[k]] := add_one t s k h
theorem sp5 (g : Nat) (h : g < 5) : isSp ((⟨#[9, 10, 12, 13, 32]⟩ : ByteArray)[g]'(by exact h)) = true := by
  have : ∀ k : Fin 5, isSp ((⟨#[9, 10, 12, 13, 32]⟩ : ByteArray)[k.val]'(k.isLt)) = true := by decide
  exact this ⟨g, h⟩

def sps : ByteArray := ⟨#[9, 10, 12, 13, 32]⟩
theorem grp {t : ByteArray} {f : List UInt8} {out : List (List UInt8)} {k : Nat} {F : List (List UInt8)} (ht : fRun t.data.toList = (F.take k, [])) (hT : F.take (k + 1) = F.take k ++ [f]) (hf : f ≠ [] ∧ noSp f) (g : Nat) (hg : g < 5) :
    fRun (t ++ sps.extract g (g + 1) ++ ⟨f.toArray⟩ ++ sps.extract (4 - g) (5 - g)).data.toList = (F.take (k + 1), []) := by
  have e : 5 - g = (4 - g) + 1 := by omega
  rw [e, add_one _ sps (4 - g) (by show 4 - g < 5; omega), ByteArray.data_append, Array.toList_append, add_one _ sps g (by show g < 5; omega), hT]
  exact fRun_group ht (sp5 g hg) (sp5 (4 - g) (by omega)) hf.2 hf.1
theorem grp_size {t : ByteArray} {f : List UInt8} (g : Nat) (hg : g < 5) : (t ++ sps.extract g (g + 1) ++ ⟨f.toArray⟩ ++ sps.extract (4 - g) (5 - g)).size = t.size + f.length + 2 := by
  have e : 5 - g = (4 - g) + 1 := by omega
  have h1 : sps.size = 5 := rfl
  have h2 : (⟨f.toArray⟩ : ByteArray).size = f.length := rfl
  rw [e]
  simp only [ByteArray.size_append, ByteArray.size_extract, h1, h2]
  omega

set_option maxHeartbeats 4000000 in
set_option maxRecDepth 100000 in
theorem asciiFields_law (s : ByteArray) (gv : Value) (gs : List Int) (m : Int) (w : World) (hs : s.size ≤ maxLen) (hg : SliceIn w gv (gs.map (Value.int .u8))) (hgw : ∀ z ∈ gs, 0 ≤ z ∧ z ≤ 255) (hm : MaxOk m w) :
    Calls Tryd.prog 6 #[.string s, gv] w fun e w' => e = .returned (.bool true) ∧ Below w.heap.size w w' := by
  have HM := Lib.hid hm
  clear hm
  unfold maxLen at hs
  obtain ⟨ga, gc, hgv⟩ : ∃ ga gc, gv = .slice ga gs.length gc := by
    obtain ⟨ao, cap, hv, _⟩ := hg
    exact ⟨ao, cap, by simpa using hv⟩
  subst hgv
  by_cases h1 : 1000 < s.size
  · go_enter Tryd.func6, Tryd.ntmps6
    go_wp2_with (go_at_call 23; refine (spelt_any m _ HM.out).mono ?_; rintro e w' ⟨rfl, hb⟩)
    go_ret
    exact ⟨rfl, hb⟩
  · go_enter Tryd.func6, Tryd.ntmps6
    go_wp2_with fail
    refine (fields_any s _ (by omega)).mono ?_
    rintro e w1 ⟨⟨v1, rfl, o1⟩, b1⟩
    have HW := Lib.hid (fields_words s.data.toList)
    have HL := Lib.hid (fun f (h : f ∈ fieldsL s.data.toList) => field_len h)
    have hcount := fields_len s.data.toList
    have hsl : s.data.toList.length ≤ s.size := by simp
    have HST := Lib.hid (fields_strip s.data.toList)
    generalize hF : fieldsL s.data.toList = F at *
    have HF := Lib.hid hF
    clear hF
    obtain ⟨fa, fc, hfv⟩ := owns_shape o1
    subst hfv
    have hg1 := hg.below b1
    clear hg
    go_wp2_with fail
    go_loopw [7, 8] (fun tv i wr => ∃ (k n : Nat) (t : ByteArray), k ≤ F.length ∧ i = .int .i64 k ∧ tv = .string t ∧ t.size ≤ k * 1002 ∧ Hid (fRun t.data.toList = (F.take k, [])) ∧ wr = w1.drewN n) (fun _ i _ => F.length - (intOf i).toNat)
    case atStart => exact ⟨0, 0, ⟨#[]⟩, Nat.zero_le _, rfl, rfl, Nat.zero_le _, rfl, rfl⟩
    case round =>
      obtain ⟨k, n, t, hk, rfl, rfl, hts, ht, rfl⟩ := hrel
      by_cases hlt : k < F.length
      · obtain ⟨g1, c1, e1, _, _, _, _, r1⟩ := owns_cell o1 hlt
        obtain ⟨rfl, rfl⟩ : fa = some ⟨g1, 0, none⟩ ∧ fc = c1 := by injection e1 with a b c; exact ⟨a, c⟩
        have q1 := r1 k (.string ⟨F[k].toArray⟩) (by simp [strCells, hlt])
        have hw := HW.out F[k] (List.getElem_mem hlt)
        have hfl := HL.out F[k] (List.getElem_mem hlt)
        have HT : Hid (F.take (k + 1) = F.take k ++ [F[k]]) := by
          rw [List.take_succ_eq_append_getElem hlt]; rfl
        generalize hf : F[k] = f at *
        clear hf r1 e1
        have hE : f.isEmpty = false := by simpa using hw.1
        have HWD := Lib.hid hw
        clear hw
        go_wp2_with fail
        go_loop [9] (fun j => ∃ q : Nat, q ≤ f.length ∧ j = .int .i64 q) (fun j => f.length - (intOf j).toNat)
        case atStart => exact ⟨0, Nat.zero_le _, rfl⟩
        case round =>
          obtain ⟨q, hq, rfl⟩ := hrel
          by_cases hql : q < f.length
          · have hns : spI (((⟨f.toArray⟩ : ByteArray)[q]'(by exact hql)).toNat : Int) = false := HWD.out.2 f[q] (List.getElem_mem hql)
            go_wp2_with (go_at_call 17; refine (space_any _ _).mono ?_; rintro e w' ⟨rfl, rfl⟩)
            go_round
            case rel => exact ⟨q + 1, by omega, by go_num⟩
            case measure => simp [intOf]; omega
          · by_cases hkg : k < gs.length
            · obtain ⟨gb, go, gcc, ge, _, gcell⟩ := hg1.at (i := k) (by simpa using hkg)
              have ge2 : ga = some ⟨gb, go, none⟩ ∧ gc = gcc := by injection ge with a b c; exact ⟨a, c⟩
              obtain ⟨rfl, rfl⟩ := ge2
              have hz := hgw gs[k] (List.getElem_mem hkg)
              have gcell' : w1.cell? ⟨gb, go + k, none⟩ = some (.int .u8 gs[k]) := by simpa using gcell
              clear gcell ge
              generalize hzz : gs[k] = z at *
              clear hzz
              obtain ⟨g, hgz⟩ : ∃ g : Nat, z % 5 = (g : Int) := ⟨(z % 5).toNat, by omega⟩
              have hg5 : (g : Int) < 5 := by omega
              have hg0 : (0 : Int) ≤ (g : Int) := by omega
              have HGZ := Lib.hid hgz
              clear hgz
              go_wp2_with fail
              rw [HGZ.out]
              have w1' : (g : Int) ≤ (g : Int) + 1 := by omega
              have w2' : (g : Int) + 1 ≤ 5 := by omega
              have w3' : (0 : Int) ≤ 4 - (g : Int) := by omega
              have w4' : 4 - (g : Int) ≤ 5 - (g : Int) := by omega
              have w5' : 5 - (g : Int) ≤ 5 := by omega
              have k0' : (0 : Int) ≤ (k : Int) := by omega
              have k1' : (k : Int) < (F.length : Int) := by omega
              go_quiet (fail)
              go_wp2_with fail
              go_roundw
              case rel =>
                have hgn : g < 5 := by omega
                refine ⟨k + 1, _, _, by omega, by go_num, rfl, ?_, grp (out := []) ht.out HT.out HWD.out g hgn, rfl⟩
                have e := grp_size (t := t) (f := f) g hgn
                show (t ++ sps.extract g (g + 1) ++ ⟨f.toArray⟩ ++ sps.extract (4 - g) (5 - g)).size ≤ _
                rw [e]
                omega
              case measure => simp [intOf]; omega
            · have k0' : (0 : Int) ≤ (k : Int) := by omega
              have k1' : (k : Int) < (F.length : Int) := by omega
              go_wp2_with fail
              go_quiet (fail)
              go_wp2_with fail
              go_roundw
              case rel =>
                refine ⟨k + 1, _, _, by omega, by go_num, rfl, ?_, grp (out := []) ht.out HT.out HWD.out 0 (by decide), rfl⟩
                have e := grp_size (t := t) (f := f) 0 (by decide)
                show (t ++ sps.extract 0 (0 + 1) ++ ⟨f.toArray⟩ ++ sps.extract (4 - 0) (5 - 0)).size ≤ _
                rw [e]
                omega
              case measure => simp [intOf]; omega
      · have e : F.take k = F := List.take_of_length_le (by omega)
        rw [e] at ht
        clear e
        have hts2 : t.size ≤ 1003002 := by
          have : k * 1002 ≤ 1001 * 1002 := Nat.mul_le_mul_right _ (by omega)
          omega
        have HFT := Lib.hid (fieldsL_of ht.out)
        go_wp2_with fail
        refine (fields_any t _ (by omega)).mono ?_
        rintro e w2 ⟨⟨v2, rfl, o2⟩, b2⟩
        rw [HFT.out] at o2
        go_wp2_with fail
        refine (texts_any _ _ _ _ F F _ o2 (owns_below (owns_drewN o1 n) b2) (by omega) (by omega)).mono ?_
        rintro e w3 ⟨rfl, b3⟩
        rw [show (F == F) = true from by simp]
        go_wp2_with fail
        refine (strip_any s _ (by omega)).mono ?_
        rintro e w' ⟨rfl, rfl⟩
        go_wp2_with fail
        have hst : (stripL s.data.toList).length ≤ s.size := by
          unfold stripL
          have h1 := (List.dropWhile_sublist (l := (s.data.toList.dropWhile isSp).reverse) isSp).length_le
          have h2 := (List.dropWhile_sublist (l := s.data.toList) isSp).length_le
          simp at h1 h2 ⊢
          omega
        refine (fields_any ⟨(stripL s.data.toList).toArray⟩ _ (by show (stripL s.data.toList).length ≤ _; omega)).mono ?_
        rintro e w4 ⟨⟨v4, rfl, o4⟩, b4⟩
        have e4 : fieldsL (⟨(stripL s.data.toList).toArray⟩ : ByteArray).data.toList = F := HST.out
        rw [e4] at o4
        clear e4 hst
        go_wp2_with fail
        refine (texts_any _ _ _ _ F F _ o4 (owns_below (owns_below (owns_below (owns_drewN o1 n) b2) b3) b4) (by omega) (by omega)).mono ?_
        rintro e w5 ⟨rfl, b5⟩
        rw [show (F == F) = true from by simp]
        have c1 := below_drewN b1 n
        have c2 := c1.trans (b2.mono c1.size)
        have c3 := c2.trans (b3.mono c2.size)
        have c4 := c3.trans (b4.mono c3.size)
        have c5 := c4.trans (b5.mono c4.size)
        clear c1 c2 c3 c4 o1 o2 o4 b1 b2 b3 b4 b5
        go_wp2_with fail
        refine (spelt_any m _ (HM.out.below c5)).mono ?_
        rintro e w6 ⟨rfl, b6⟩
        go_wp2
        go_ret
        exact ⟨rfl, c5.trans (b6.mono c5.size)⟩
end Go.Proofs.YthgecembedjnaaaDoor
