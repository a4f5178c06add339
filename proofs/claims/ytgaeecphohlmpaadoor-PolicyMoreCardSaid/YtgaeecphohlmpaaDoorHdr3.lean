/- lazaretref24.Headers. -/
import Derived.Test.YtgaeecphohlmpaaDoorHdr2
import Derived.Test.YtgaeecphohlmpaaDoorRLst
import Derived.Deep.Cut
set_option linter.unusedVariables false
namespace Go.Proofs.YtgaeecphohlmpaaDoor
open Go.RowKit

set_option maxHeartbeats 6400000 in
set_option maxRecDepth 100000 in
theorem rhead_any (v : Value) (hs : List HdrT) (w : World) (hh : HdrsIn w v hs) (hl : hs.length ≤ 20) (hbd : ∀ h ∈ hs, h.1.length ≤ 100 ∧ h.2.length ≤ 5000) :
    Calls Tryd.prog 36 #[v] w fun e w' => HdrRes w' (headR hs) e ∧ Below w.heap.size w w' := by
  obtain ⟨ao, cap, rfl⟩ := hh.shape
  have HBD := Lib.hid hbd
  clear hbd
  go_enter Tryd.func36, Tryd.ntmps36
  go_wp2_with fail
  go_loopw [4, 5] (fun l i wr => ∃ (k : Nat) (acc : List Pol) (cs : List Value), k ≤ hs.length ∧ i = .int .i64 k ∧ Hid (acc = headP (hs.take k)) ∧ acc.length ≤ k * 5001 ∧ wr.ownsRow w.heap.size 30 2 l acc.length cs ∧ Hid (PolC wr cs acc) ∧ Hid (∀ (c : Nat) (x : HdrT), c < k → hs[c]? = some x → x.2.length ≤ 4000) ∧ Below w.heap.size w wr) (fun _ i _ => hs.length - (intOf i).toNat)
  case atStart => exact ⟨0, [], [], Nat.zero_le _, rfl, rfl, Nat.zero_le _, World.ownsRow_nil _ _ _ _, trivial, (by intro c x h; omega), Below.refl _ _⟩
  case round =>
    obtain ⟨k, acc, cs, hk, rfl, HA, hacc, hown, HPC, HLO, hb⟩ := hrel
    obtain ⟨oa, oc, hol⟩ := owns_shape hown
    subst hol
    have HB := Lib.hid hb
    have hw := hh.below hb
    have hsz := hb.size
    clear hb
    by_cases hlt : k < hs.length
    · have hki : (k : Int) < hs.length := by omega
      obtain ⟨b, off, cap2, e1, hbl, x0, x1⟩ := hw.at hlt
      injection e1 with f1 _ f3
      subst f1 f3
      obtain ⟨hd, hhd⟩ : ∃ hd, hs[k] = hd := ⟨_, rfl⟩
      have HDK : Hid (hs[k]? = some hd) := by show _ = _; rw [← hhd]; exact List.getElem?_eq_getElem hlt
      rw [hhd] at x0 x1
      clear hhd hw
      have hbb := HBD.out hd (List.mem_of_getElem? HDK.out)
      obtain ⟨nn, hnn⟩ : ∃ nn : ByteArray, (⟨hd.1.toArray⟩ : ByteArray) = nn := ⟨_, rfl⟩
      have hnl : nn.data.toList = hd.1 := by rw [← hnn]
      have hnz : nn.size ≤ 1000 := by
        have h2 : nn.data.toList.length = nn.size := by simp
        rw [← h2, hnl]; omega
      rw [hnn] at x0
      obtain ⟨vv, hvv⟩ : ∃ vv : ByteArray, (⟨hd.2.toArray⟩ : ByteArray) = vv := ⟨_, rfl⟩
      have hvl : vv.data.toList = hd.2 := by rw [← hvv]
      have hvz : vv.size = hd.2.length := by
        have h2 : vv.data.toList.length = vv.size := by simp
        rw [← h2, hvl]
      rw [hvv] at x1
      clear hnn hvv
      have HST := Lib.hid (headP_step HDK.out)
      by_cases hlv : 4000 < vv.size
      · have hlvi : (4000 : Int) < vv.size := by omega
        have hbad := longV_at HDK.out (by omega)
        go_wp2_with fail
        go_ret2
        exact ⟨HdrRes.bad (.inr (.inl hbad)), HB.out⟩
      have hlvi : ¬ (4000 : Int) < vv.size := by omega
      have hlo2 : Hid (∀ (c : Nat) (x : HdrT), c < k + 1 → hs[c]? = some x → x.2.length ≤ 4000) := by
        intro c x hc hx
        by_cases e : c = k
        · subst e
          rw [HDK.out] at hx
          injection hx with hx
          rw [← hx]; omega
        · exact HLO.out c x (by omega) hx
      obtain ⟨ln, hln0⟩ : ∃ ln : ByteArray, (⟨(lowL hd.1).toArray⟩ : ByteArray) = ln := ⟨_, rfl⟩
      have hlnl : ln.data.toList = lowL hd.1 := by rw [← hln0]
      have HLW : Hid (Calls Tryd.prog 49 #[.string nn] wr fun e w' => e = .returned (.string ln) ∧ Below wr.heap.size wr w') := by
        rw [← hln0, ← hnl]
        exact rlower_any nn wr (by omega)
      have hacL : ∀ rep, (listL hd.2 rep).length ≤ 4001 := fun rep => by have := listL_len hd.2 rep; omega
      have HX1 := Lib.hid x1
      have HO1 := Lib.hid hown
      clear HLO hown hln0
      by_cases hr : lowL hd.1 = roN
      · have hq1 : (ln.toList == [99, 111, 110, 116, 101, 110, 116, 45, 115, 101, 99, 117, 114, 105, 116, 121, 45, 112, 111, 108, 105, 99, 121]) = false := ne_bq (by rw [hlnl, hr]; decide)
        have hq2 : (ln.toList == [99, 111, 110, 116, 101, 110, 116, 45, 115, 101, 99, 117, 114, 105, 116, 121, 45, 112, 111, 108, 105, 99, 121, 45, 114, 101, 112, 111, 114, 116, 45, 111, 110, 108, 121]) = true := by rw [ByteArray.toList_eq, beq_iff_eq, hlnl]; exact hr
        have HN : Hid (headP (hs.take (k + 1)) = acc ++ listL hd.2 true) := by
          show _ = _
          rw [HST.out, ← HA.out]; unfold addH; rw [if_pos hr]
        have HL := Lib.hid (fun W => rlist_any vv true W (by omega))
        rw [hvl] at HL
        have hll := hacL true
        generalize listL hd.2 true = Q at *
        have hln : acc.length + Q.length ≤ 1099511627776 := by omega
        have HLN := Lib.hid hln
        clear hr hacL
        go_wp2_with (first
          | (at_builtin; refine appP rfl _ _ rfl HO5.out rfl rfl HQ5.out HONE.out HLN.out HBS.out ?_; intro v6 w6 hown6 hg6 hb6)
          | (go_at_call 34; refine (HL.out w3).mono ?_; rintro e w5 ⟨⟨v5, cs5, rfl, o5, k5⟩, b5⟩; obtain ⟨a5, c5, hv5⟩ := owns_shape o5; subst hv5; have HQ5 := Lib.hid o5; have HK5 := Lib.hid k5; have HONE := Lib.hid (polC_one k5); have B5 := Lib.hid b5; have HO5 := Lib.hid (owns_below (owns_below HO1.out B3.out) b5); have HBS : Hid (w.heap.size ≤ w5.heap.size) := Nat.le_trans hsz (Nat.le_trans B3.out.size b5.size); clear o5 k5 b5)
          | (go_at_call 49; refine HLW.out.mono ?_; rintro e w3 ⟨rfl, b3⟩; have z1 : w3.cell? ⟨b, off + k * 2 + 1, none⟩ = some (.string vv) := (b3.cell (p := ⟨b, off + k * 2 + 1, none⟩) hbl).trans HX1.out; have B3 := Lib.hid b3; clear b3))
        go_roundw
        case rel =>
          have hb25 : Below wr.heap.size wr w5 := B3.out.trans (B5.out.mono B3.out.size)
          refine ⟨k + 1, acc ++ Q, _, by omega, by go_num, HN.out.symm, by simp; omega, by rw [List.length_append]; exact hown6, ?_, hlo2.out, (HB.out.trans (hb25.mono hsz)).trans hb6⟩
          exact PolC.app (HPC.out.imp fun lv ds h => (h.below hb25).grownP HO5.out hg6) (HK5.out.imp fun lv ds h => h.grownP HO5.out hg6)
        case measure => simp [intOf]; omega
      by_cases hr2 : lowL hd.1 = cspN
      · obtain rfl := of_lst (hlnl.trans hr2)
        have HN : Hid (headP (hs.take (k + 1)) = acc ++ listL hd.2 false) := by
          show _ = _
          rw [HST.out, ← HA.out]; unfold addH; rw [if_neg hr, if_pos hr2]
        have HL := Lib.hid (fun W => rlist_any vv false W (by omega))
        rw [hvl] at HL
        have hll := hacL false
        generalize listL hd.2 false = Q at *
        have hln : acc.length + Q.length ≤ 1099511627776 := by omega
        have HLN := Lib.hid hln
        clear hr hacL hr2 hlnl
        unfold cspN at HLW
        go_wp2_with (first
          | (at_builtin; refine appP rfl _ _ rfl HO5.out rfl rfl HQ5.out HONE.out HLN.out HBS.out ?_; intro v6 w6 hown6 hg6 hb6)
          | (go_at_call 34; refine (HL.out w3).mono ?_; rintro e w5 ⟨⟨v5, cs5, rfl, o5, k5⟩, b5⟩; obtain ⟨a5, c5, hv5⟩ := owns_shape o5; subst hv5; have HQ5 := Lib.hid o5; have HK5 := Lib.hid k5; have HONE := Lib.hid (polC_one k5); have B5 := Lib.hid b5; have HO5 := Lib.hid (owns_below (owns_below HO1.out B3.out) b5); have HBS : Hid (w.heap.size ≤ w5.heap.size) := Nat.le_trans hsz (Nat.le_trans B3.out.size b5.size); clear o5 k5 b5)
          | (go_at_call 49; refine HLW.out.mono ?_; rintro e w3 ⟨rfl, b3⟩; have z1 : w3.cell? ⟨b, off + k * 2 + 1, none⟩ = some (.string vv) := (b3.cell (p := ⟨b, off + k * 2 + 1, none⟩) hbl).trans HX1.out; have B3 := Lib.hid b3; clear b3))
        go_roundw
        case rel =>
          have hb25 : Below wr.heap.size wr w5 := B3.out.trans (B5.out.mono B3.out.size)
          refine ⟨k + 1, acc ++ Q, _, by omega, by go_num, HN.out.symm, by simp; omega, by rw [List.length_append]; exact hown6, ?_, hlo2.out, (HB.out.trans (hb25.mono hsz)).trans hb6⟩
          exact PolC.app (HPC.out.imp fun lv ds h => (h.below hb25).grownP HO5.out hg6) (HK5.out.imp fun lv ds h => h.grownP HO5.out hg6)
        case measure => simp [intOf]; omega
      · have hq1 : (ln.toList == [99, 111, 110, 116, 101, 110, 116, 45, 115, 101, 99, 117, 114, 105, 116, 121, 45, 112, 111, 108, 105, 99, 121]) = false := ne_bq (by rw [hlnl]; exact hr2)
        have hq2 : (ln.toList == [99, 111, 110, 116, 101, 110, 116, 45, 115, 101, 99, 117, 114, 105, 116, 121, 45, 112, 111, 108, 105, 99, 121, 45, 114, 101, 112, 111, 114, 116, 45, 111, 110, 108, 121]) = false := ne_bq (by rw [hlnl]; exact hr)
        have HN : Hid (headP (hs.take (k + 1)) = acc) := by
          show _ = _
          rw [HST.out, ← HA.out]; unfold addH; rw [if_neg hr, if_neg hr2]
        clear hr hacL hr2
        go_wp2_with (go_at_call 49; refine HLW.out.mono ?_; rintro e w3 ⟨rfl, b3⟩; have B3 := Lib.hid b3; clear b3)
        go_roundw
        case rel => exact ⟨k + 1, acc, cs, by omega, by go_num, HN.out.symm, by omega, owns_below HO1.out B3.out, HPC.out.imp (fun lv ds h => h.below B3.out), hlo2.out, HB.out.trans (B3.out.mono hsz)⟩
        case measure => simp [intOf]; omega
    · have hkk : k = hs.length := by omega
      have hall : Hid (acc = headP hs) := by show acc = _; rw [HA.out, hkk, List.take_length]
      have hnl : longV hs = false := longV_none fun c x hx => HLO.out c x (by have := (List.getElem?_eq_some_iff.1 hx).1; omega) hx
      by_cases h16 : 16 < hs.length
      · have h16i : (16 : Int) < hs.length := by omega
        go_wp2_with fail
        go_ret2
        exact ⟨HdrRes.bad (.inl h16), HB.out⟩
      have h16i : ¬ (16 : Int) < hs.length := by omega
      by_cases h17 : 16 < acc.length
      · have h17i : (16 : Int) < acc.length := by omega
        go_wp2_with fail
        go_ret2
        exact ⟨HdrRes.bad (.inr (.inr (by rw [← hall.out]; exact h17))), HB.out⟩
      · have h17i : ¬ (16 : Int) < acc.length := by omega
        have hok : ¬ (16 < hs.length ∨ longV hs = true ∨ 16 < (headP hs).length) := by
          rw [hnl, ← hall.out]
          simp; omega
        have HP := Lib.hid (pols_in hown HPC.out)
        go_wp2_with fail
        go_ret2
        exact ⟨HdrRes.good hok (by rw [← hall.out]; exact HP.out), HB.out⟩
end Go.Proofs.YtgaeecphohlmpaaDoor
