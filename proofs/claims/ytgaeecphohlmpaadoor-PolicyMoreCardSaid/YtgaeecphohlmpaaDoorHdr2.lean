/- policy.Headers. -/
import Derived.Test.YtgaeecphohlmpaaDoorHdr
import Derived.Test.YtgaeecphohlmpaaDoorSam
import Derived.Deep.Cut
set_option linter.unusedVariables false
namespace Go.Proofs.YtgaeecphohlmpaaDoor
open Go.RowKit

theorem headP_step {hs : List HdrT} {k : Nat} {h : HdrT} (hk : hs[k]? = some h) : headP (hs.take (k + 1)) = addH (headP (hs.take k)) h := by
  unfold headP
  rw [List.take_add_one, hk, Option.toList_some, List.foldl_append]
  rfl

set_option maxHeartbeats 6400000 in
set_option maxRecDepth 100000 in
theorem phead_any (v : Value) (hs : List HdrT) (m : Int) (w : World) (hh : HdrsIn w v hs) (hl : hs.length ≤ 20) (hbd : ∀ h ∈ hs, h.1.length ≤ 100 ∧ h.2.length ≤ 5000) (hm : MaxOk m w) :
    Calls Tryd.prog 35 #[v] w fun e w' => HdrRes w' (headR hs) e ∧ Below w.heap.size w w' := by
  obtain ⟨ao, cap, rfl⟩ := hh.shape
  by_cases h16 : 16 < hs.length
  · have h16i : (16 : Int) < hs.length := by omega
    go_enter Tryd.func35, Tryd.ntmps35
    go_wp2_with fail
    go_ret2
    exact ⟨HdrRes.bad (.inl h16), Below.refl _ _⟩
  have h16i : ¬ (16 : Int) < hs.length := by omega
  have HBD := Lib.hid hbd
  have HM := Lib.hid hm
  have hro : lowL roN = roN := by decide +kernel
  have hcs : lowL cspN = cspN := by decide +kernel
  have HRO : Hid (∀ (n : ByteArray) (W : World), n.size ≤ 1000 → Calls Tryd.prog 50 #[.string n, .string ⟨#[99, 111, 110, 116, 101, 110, 116, 45, 115, 101, 99, 117, 114, 105, 116, 121, 45, 112, 111, 108, 105, 99, 121, 45, 114, 101, 112, 111, 114, 116, 45, 111, 110, 108, 121]⟩] W fun e w' => e = .returned (.bool (lowL n.data.toList == roN)) ∧ Below W.heap.size W w') := by
    intro n W h
    refine (same_any n _ W (by omega) (by decide)).mono ?_
    rintro e w' ⟨rfl, b⟩
    refine ⟨?_, b⟩
    show Ending.returned (.bool (lowL n.data.toList == lowL roN)) = _
    rw [hro]
  have HCS : Hid (∀ (n : ByteArray) (W : World), n.size ≤ 1000 → Calls Tryd.prog 50 #[.string n, .string ⟨#[99, 111, 110, 116, 101, 110, 116, 45, 115, 101, 99, 117, 114, 105, 116, 121, 45, 112, 111, 108, 105, 99, 121]⟩] W fun e w' => e = .returned (.bool (lowL n.data.toList == cspN)) ∧ Below W.heap.size W w') := by
    intro n W h
    refine (same_any n _ W (by omega) (by decide)).mono ?_
    rintro e w' ⟨rfl, b⟩
    refine ⟨?_, b⟩
    show Ending.returned (.bool (lowL n.data.toList == lowL cspN)) = _
    rw [hcs]
  clear hbd hm hro hcs
  go_enter Tryd.func35, Tryd.ntmps35
  go_wp2_with fail
  go_loopw [4, 13] (fun l i wr => ∃ (k : Nat) (acc : List Pol) (cs : List Value), k ≤ hs.length ∧ i = .int .i64 k ∧ Hid (acc = headP (hs.take k)) ∧ acc.length ≤ k * 5001 ∧ wr.ownsRow w.heap.size 30 2 l acc.length cs ∧ Hid (PolC wr cs acc) ∧ Hid (∀ (c : Nat) (x : HdrT), c < k → hs[c]? = some x → x.2.length ≤ 4000) ∧ Below w.heap.size w wr) (fun _ i _ => hs.length - (intOf i).toNat)
  case atStart => exact ⟨0, [], [], Nat.zero_le _, rfl, rfl, Nat.zero_le _, World.ownsRow_nil _ _ _ _, trivial, (by intro c x h; omega), Below.refl _ _⟩
  case round =>
    obtain ⟨k, acc, cs, hk, rfl, HA, hacc, hown, HPC, HLO, hb⟩ := hrel
    obtain ⟨oa, oc, hol⟩ := owns_shape hown
    subst hol
    have HB := Lib.hid hb
    have hw := hh.below hb
    have hsz := hb.size
    clear hb
    by_cases hlt : k < hs.length
    · have hki : (k : Int) < hs.length := by omega
      obtain ⟨b, off, cap2, e1, hbl, x0, x1⟩ := hw.at hlt
      injection e1 with f1 _ f3
      subst f1 f3
      obtain ⟨hd, hhd⟩ : ∃ hd, hs[k] = hd := ⟨_, rfl⟩
      have HDK : Hid (hs[k]? = some hd) := by show _ = _; rw [← hhd]; exact List.getElem?_eq_getElem hlt
      rw [hhd] at x0 x1
      clear hhd hw
      have hbb := HBD.out hd (List.mem_of_getElem? HDK.out)
      obtain ⟨nn, hnn⟩ : ∃ nn : ByteArray, (⟨hd.1.toArray⟩ : ByteArray) = nn := ⟨_, rfl⟩
      have hnl : nn.data.toList = hd.1 := by rw [← hnn]
      have hnz : nn.size ≤ 1000 := by
        have h2 : nn.data.toList.length = nn.size := by simp
        rw [← h2, hnl]; omega
      rw [hnn] at x0
      obtain ⟨vv, hvv⟩ : ∃ vv : ByteArray, (⟨hd.2.toArray⟩ : ByteArray) = vv := ⟨_, rfl⟩
      have hvl : vv.data.toList = hd.2 := by rw [← hvv]
      have hvz : vv.size = hd.2.length := by
        have h2 : vv.data.toList.length = vv.size := by simp
        rw [← h2, hvl]
      rw [hvv] at x1
      clear hnn hvv
      go_upto_region 7 with fail
      obtain ⟨W2, hW2⟩ : ∃ W2, W2 = wr.alloc (.cells #[.string nn, .string vv] 52) := ⟨_, rfl⟩
      have hb2 : Below wr.heap.size wr W2 := by rw [hW2]; exact (Below.refl _ wr).alloc (Nat.le_refl _) _
      have y0 : W2.cell? ⟨wr.heap.size, 0, none⟩ = some (.string nn) := by rw [hW2, Lib.cell_of_heap (heap_alloc_new wr _)]; rfl
      have y1 : W2.cell? ⟨wr.heap.size, 1, none⟩ = some (.string vv) := by rw [hW2, Lib.cell_of_heap (heap_alloc_new wr _)]; rfl
      have hlt2 : wr.heap.size < W2.heap.size := by rw [hW2]; simp
      rw [← hW2]
      clear hW2
      have HB2 : Hid (Below w.heap.size w W2) := HB.out.trans (hb2.mono hsz)
      have HO2 := Lib.hid (owns_below hown hb2)
      have HPC2 := Lib.hid (HPC.out.imp fun lv ds h => h.below hb2)
      have HLT2 := Lib.hid hlt2
      have Y0 := Lib.hid y0
      have Y1 := Lib.hid y1
      have HST := Lib.hid (headP_step HDK.out)
      by_cases hlv : 4000 < vv.size
      · have hlvi : (4000 : Int) < vv.size := by omega
        have hbad := longV_at HDK.out (by omega)
        go_wp2_with fail
        go_ret2
        exact ⟨HdrRes.bad (.inr (.inl hbad)), HB2.out⟩
      have hlvi : ¬ (4000 : Int) < vv.size := by omega
      have hlo2 : Hid (∀ (c : Nat) (x : HdrT), c < k + 1 → hs[c]? = some x → x.2.length ≤ 4000) := by
        intro c x hc hx
        by_cases e : c = k
        · subst e
          rw [HDK.out] at hx
          injection hx with hx
          rw [← hx]; omega
        · exact HLO.out c x (by omega) hx
      have HR := Lib.hid (HRO.out nn W2 hnz)
      rw [hnl] at HR
      have hacL : ∀ rep, (listL hd.2 rep).length ≤ 4001 := fun rep => by have := listL_len hd.2 rep; omega
      have HM2 := Lib.hid (HM.out.below HB2.out)
      have hs2 := HB2.out.size
      clear hb2 hlt2 HLO HPC hown
      by_cases hr : lowL hd.1 = roN
      · have hq : (lowL hd.1 == roN) = true := by rw [beq_iff_eq]; exact hr
        rw [hq] at HR
        have HN : Hid (headP (hs.take (k + 1)) = acc ++ listL hd.2 true) := by
          show _ = _
          rw [HST.out, ← HA.out]; unfold addH; rw [if_pos hr]
        have HL := Lib.hid (fun W (h : MaxOk m W) => plist_any vv true m W (by omega) h)
        rw [hvl] at HL
        have hll := hacL true
        generalize listL hd.2 true = Q at *
        have hln : acc.length + Q.length ≤ 1099511627776 := by omega
        have HLN := Lib.hid hln
        clear hr hq hacL
        go_wp2_with (first
          | (at_builtin; refine appP rfl _ _ rfl HO5.out rfl rfl HQ5.out HONE.out HLN.out HBS.out ?_; intro v6 w6 hown6 hg6 hb6)
          | (go_at_call 33; refine (HL.out w3 HM3.out).mono ?_; rintro e w5 ⟨⟨v5, cs5, rfl, o5, k5⟩, b5⟩; obtain ⟨a5, c5, hv5⟩ := owns_shape o5; subst hv5; have HQ5 := Lib.hid o5; have HK5 := Lib.hid k5; have HONE := Lib.hid (polC_one k5); have B5 := Lib.hid b5; have HO5 := Lib.hid (owns_below (owns_below HO2.out B3.out) b5); have HBS : Hid (w.heap.size ≤ w5.heap.size) := Nat.le_trans hs2 (Nat.le_trans B3.out.size b5.size); clear o5 k5 b5)
          | (go_at_call 50; refine HR.out.mono ?_; rintro e w3 ⟨rfl, b3⟩; have z0 : w3.cell? ⟨wr.heap.size, 0, none⟩ = some (.string nn) := (b3.cell (p := ⟨wr.heap.size, 0, none⟩) HLT2.out).trans Y0.out; have z1 : w3.cell? ⟨wr.heap.size, 1, none⟩ = some (.string vv) := (b3.cell (p := ⟨wr.heap.size, 1, none⟩) HLT2.out).trans Y1.out; have HM3 := Lib.hid (HM2.out.below b3); have B3 := Lib.hid b3; clear b3))
        go_roundw
        case rel =>
          have hb25 : Below W2.heap.size W2 w5 := B3.out.trans (B5.out.mono B3.out.size)
          refine ⟨k + 1, acc ++ Q, _, by omega, by go_num, HN.out.symm, by simp; omega, by rw [List.length_append]; exact hown6, ?_, hlo2.out, (HB2.out.trans (hb25.mono hs2)).trans hb6⟩
          exact PolC.app (HPC2.out.imp fun lv ds h => (h.below hb25).grownP HO5.out hg6) (HK5.out.imp fun lv ds h => h.grownP HO5.out hg6)
        case measure => simp [intOf]; omega
      · have hq : (lowL hd.1 == roN) = false := by rw [beq_eq_false_iff_ne]; exact hr
        rw [hq] at HR
        have HR2 := Lib.hid (fun W => HCS.out nn W hnz)
        rw [hnl] at HR2
        by_cases hr2 : lowL hd.1 = cspN
        · have hq2 : (lowL hd.1 == cspN) = true := by rw [beq_iff_eq]; exact hr2
          rw [hq2] at HR2
          have HN : Hid (headP (hs.take (k + 1)) = acc ++ listL hd.2 false) := by
            show _ = _
            rw [HST.out, ← HA.out]; unfold addH; rw [if_neg hr, if_pos hr2]
          have HL := Lib.hid (fun W (h : MaxOk m W) => plist_any vv false m W (by omega) h)
          rw [hvl] at HL
          have hll := hacL false
          generalize listL hd.2 false = Q at *
          have hln : acc.length + Q.length ≤ 1099511627776 := by omega
          have HLN := Lib.hid hln
          clear hr hq hacL hr2 hq2
          go_wp2_with (first
            | (at_builtin; refine appP rfl _ _ rfl HO5.out rfl rfl HQ5.out HONE.out HLN.out HBS.out ?_; intro v6 w6 hown6 hg6 hb6)
            | (go_at_call 33; refine (HL.out w4 HM4.out).mono ?_; rintro e w5 ⟨⟨v5, cs5, rfl, o5, k5⟩, b5⟩; obtain ⟨a5, c5, hv5⟩ := owns_shape o5; subst hv5; have HQ5 := Lib.hid o5; have HK5 := Lib.hid k5; have HONE := Lib.hid (polC_one k5); have B5 := Lib.hid b5; have HO5 := Lib.hid (owns_below (owns_below HO2.out B4.out) b5); have HBS : Hid (w.heap.size ≤ w5.heap.size) := Nat.le_trans hs2 (Nat.le_trans B4.out.size b5.size); clear o5 k5 b5)
            | (go_at_call 50; refine (HR2.out w3).mono ?_; rintro e w4 ⟨rfl, b4⟩; have B4 : Hid (Below W2.heap.size W2 w4) := B3.out.trans (b4.mono B3.out.size); have u1 : w4.cell? ⟨wr.heap.size, 1, none⟩ = some (.string vv) := (B4.out.cell (p := ⟨wr.heap.size, 1, none⟩) HLT2.out).trans Y1.out; have HM4 := Lib.hid (HM2.out.below B4.out); clear b4)
            | (go_at_call 50; refine HR.out.mono ?_; rintro e w3 ⟨rfl, b3⟩; have z0 : w3.cell? ⟨wr.heap.size, 0, none⟩ = some (.string nn) := (b3.cell (p := ⟨wr.heap.size, 0, none⟩) HLT2.out).trans Y0.out; have B3 := Lib.hid b3; clear b3))
          go_roundw
          case rel =>
            have hb25 : Below W2.heap.size W2 w5 := B4.out.trans (B5.out.mono B4.out.size)
            refine ⟨k + 1, acc ++ Q, _, by omega, by go_num, HN.out.symm, by simp; omega, by rw [List.length_append]; exact hown6, ?_, hlo2.out, (HB2.out.trans (hb25.mono hs2)).trans hb6⟩
            exact PolC.app (HPC2.out.imp fun lv ds h => (h.below hb25).grownP HO5.out hg6) (HK5.out.imp fun lv ds h => h.grownP HO5.out hg6)
          case measure => simp [intOf]; omega
        · have hq2 : (lowL hd.1 == cspN) = false := by rw [beq_eq_false_iff_ne]; exact hr2
          rw [hq2] at HR2
          have HN : Hid (headP (hs.take (k + 1)) = acc) := by
            show _ = _
            rw [HST.out, ← HA.out]; unfold addH; rw [if_neg hr, if_neg hr2]
          clear hr hq hacL hr2 hq2
          go_wp2_with (first
            | (go_at_call 50; refine (HR2.out w3).mono ?_; rintro e w4 ⟨rfl, b4⟩; have B4 : Hid (Below W2.heap.size W2 w4) := B3.out.trans (b4.mono B3.out.size); clear b4)
            | (go_at_call 50; refine HR.out.mono ?_; rintro e w3 ⟨rfl, b3⟩; have z0 : w3.cell? ⟨wr.heap.size, 0, none⟩ = some (.string nn) := (b3.cell (p := ⟨wr.heap.size, 0, none⟩) HLT2.out).trans Y0.out; have B3 := Lib.hid b3; clear b3))
          go_roundw
          case rel => exact ⟨k + 1, acc, cs, by omega, by go_num, HN.out.symm, by omega, owns_below HO2.out B4.out, HPC2.out.imp (fun lv ds h => h.below B4.out), hlo2.out, HB2.out.trans (B4.out.mono hs2)⟩
          case measure => simp [intOf]; omega
    · have hkk : k = hs.length := by omega
      have hall : Hid (acc = headP hs) := by show acc = _; rw [HA.out, hkk, List.take_length]
      have hnl : longV hs = false := longV_none fun c x hx => HLO.out c x (by have := (List.getElem?_eq_some_iff.1 hx).1; omega) hx
      by_cases h17 : 16 < acc.length
      · have h17i : (16 : Int) < acc.length := by omega
        go_wp2_with fail
        go_ret2
        exact ⟨HdrRes.bad (.inr (.inr (by rw [← hall.out]; exact h17))), HB.out⟩
      · have h17i : ¬ (16 : Int) < acc.length := by omega
        have hok : ¬ (16 < hs.length ∨ longV hs = true ∨ 16 < (headP hs).length) := by
          rw [hnl, ← hall.out]
          simp; omega
        have HP := Lib.hid (pols_in hown HPC.out)
        go_wp2_with fail
        go_ret2
        exact ⟨HdrRes.good hok (by rw [← hall.out]; exact HP.out), HB.out⟩
end Go.Proofs.YtgaeecphohlmpaaDoor
