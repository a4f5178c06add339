/- trusted.Parse. -/
import Derived.Test.YtgaeecphohlmpabDoorPar29
import Derived.Test.YtgaeecphohlmpabDoorReq29
set_option linter.unusedVariables false
namespace Go.Proofs.YtgaeecphohlmpabDoor
open Go.RowKit

theorem set29 {w : World} {g : Nat} {cur : Array Value} {e : TypeId} {fz : Nat × Nat} (hh : w.heap[g]? = some (.cells cur e fz)) (k : Nat) (u : Value) : (w.setCell ⟨g, k, none⟩ u).heap[g]? = some (.cells (cur.setIfInBounds k u) e fz) := by
  unfold World.setCell; simp [Array.getElem?_modify, hh]
/-- The loop's memory: the cells of the answer, and its list. -/
structure ParAt (bn : Nat) (hs : Bool) (vs : List (List UInt8)) (k : Nat) (w2 wr : World) : Prop where
  ex : ∃ v, wr.heap[bn]? = some (.cells #[v, .bool ((vs.take k).any isStar), .bool ((vs.take k).any isDup), .bool hs] 29 (0, 0)) ∧ wr.ownsRow (bn + 1) 9 1 v ((vs.take k).filter namL).length (strCells ((vs.take k).filter namL))
  size : bn + 1 ≤ wr.heap.size
  below : Below bn w2 wr
/-- What a policy says of names. -/
def ParRes (B : Nat) (w : World) (ds : List Dir) (e : Ending) : Prop :=
  ∃ sv, e = .returned (.agg #[sv, .bool (((fndL ds tttN).getD ([], [])).2.any isStar), .bool (((fndL ds tttN).getD ([], [])).2.any isDup), .bool (fndL ds tttN).isSome]) ∧
    w.ownsRow B 9 1 sv (((fndL ds tttN).getD ([], [])).2.filter namL).length (strCells (((fndL ds tttN).getD ([], [])).2.filter namL))

set_option maxHeartbeats 3200000 in
set_option maxRecDepth 100000 in
theorem parse_any (lv : Value) (rep : Bool) (ds : List Dir) (w : World) (hd : DirsIn w lv ds) (hl : ds.length ≤ 1099511627776) (hv : ∀ d ∈ ds, d.2.length ≤ 1099511627776 ∧ ∀ x ∈ d.2, x.length ≤ 1099511627776) :
    Calls Tryd.prog 8 #[.agg #[lv, .bool rep]] w fun e w' => ParRes w.heap.size w' ds e ∧ Below w.heap.size w w' := by
  obtain ⟨W1, hW1⟩ : ∃ W1, W1 = (w.alloc (.cells #[lv, .bool rep] 24)).alloc (.cells #[.slice none 0 0, .bool false, .bool false, .bool false] 29) := ⟨_, rfl⟩
  have hb1 : Below w.heap.size w W1 := by rw [hW1]; exact ((Below.refl _ w).alloc (Nat.le_refl _) _).alloc (by simp) _
  have hs1 : W1.heap.size = w.heap.size + 2 := by rw [hW1]; simp
  have k0 : W1.heap[w.heap.size]? = some (.cells #[lv, .bool rep] 24 (0, 0)) := by
    rw [hW1, Below.heap_alloc _ _ _ (by simp)]
    exact heap_alloc_new w (.cells #[lv, .bool rep] 24)
  have k1 : W1.heap[w.heap.size + 1]? = some (.cells #[.slice none 0 0, .bool false, .bool false, .bool false] 29 (0, 0)) := by
    rw [hW1]
    have := heap_alloc_new (w.alloc (.cells #[lv, .bool rep] 24)) (.cells #[.slice none 0 0, .bool false, .bool false, .bool false] 29)
    simpa using this
  have q0 : W1.cell? ⟨w.heap.size, 0, none⟩ = some lv := by rw [Lib.cell_of_heap k0]; rfl
  have q1 : W1.cell? ⟨w.heap.size, 1, none⟩ = some (.bool rep) := by rw [Lib.cell_of_heap k0]; rfl
  have HF := Lib.hid (pfind_any lv rep ds ⟨tttN.toArray⟩ W1 (hd.below hb1) hl fun d h => (hv d h).1)
  have er : (⟨tttN.toArray⟩ : ByteArray).data.toList = tttN := by simp
  rw [er] at HF
  have HDL : ((fndL ds tttN).getD ([], [])).2.length ≤ 1099511627776 := by
    cases hf : fndL ds tttN with
    | none => simp
    | some d => exact (hv d (List.mem_of_find?_eq_some (show ds.find? (fun d => d.1 == tttN) = some d from hf))).1
  have HVL : Hid (∀ x ∈ ((fndL ds tttN).getD ([], [])).2, x.length ≤ 1099511627776) := by
    intro x hx
    cases hf : fndL ds tttN with
    | none => rw [hf] at hx; simp at hx
    | some d =>
      rw [hf] at hx
      exact (hv d (List.mem_of_find?_eq_some (show ds.find? (fun d => d.1 == tttN) = some d from hf))).2 x hx
  have HW1 := Lib.hid hW1
  have HB1 := Lib.hid hb1
  unfold FindRes at HF
  unfold ParRes
  obtain ⟨D, hD⟩ : ∃ D, (fndL ds tttN).getD ([], []) = D := ⟨_, rfl⟩
  obtain ⟨HS, hHS⟩ : ∃ h, (fndL ds tttN).isSome = h := ⟨_, rfl⟩
  rw [hD, hHS] at HF
  rw [hD] at HVL HDL
  rw [hD, hHS]
  unfold tttN at HF
  rw [hW1] at q0 q1
  clear hW1 hb1 er hD hHS
  go_enter Tryd.func8, Tryd.ntmps8
  go_upto_region 3 with (go_at_call 17; rw [← HW1.out]; refine HF.out.mono ?_; rintro e w2 ⟨⟨sv, rfl, o2⟩, b2⟩; obtain ⟨sa, sc, hsv⟩ := owns_shape o2; subst hsv)
  obtain ⟨bn, hbn⟩ : ∃ bn, w2.heap.size + 1 = bn := ⟨_, rfl⟩
  obtain ⟨W3, hW3⟩ : ∃ W3, W3 = (w2.alloc (.cells #[.string ⟨D.1.toArray⟩, .slice sa D.2.length sc] 42)).alloc (.cells #[.slice none 0 0, .bool false, .bool false, .bool HS] 29) := ⟨_, rfl⟩
  have hb3 : Below w2.heap.size w2 W3 := by rw [hW3]; exact ((Below.refl _ w2).alloc (Nat.le_refl _) _).alloc (by simp) _
  have hs3 : W3.heap.size = bn + 1 := by rw [hW3]; simp; omega
  have kd : W3.heap[w2.heap.size]? = some (.cells #[.string ⟨D.1.toArray⟩, .slice sa D.2.length sc] 42 (0, 0)) := by
    rw [hW3, Below.heap_alloc _ _ _ (by simp)]
    exact heap_alloc_new w2 _
  have kn : W3.heap[bn]? = some (.cells #[.slice none 0 0, .bool false, .bool false, .bool HS] 29 (0, 0)) := by
    rw [hW3, ← hbn]
    have := heap_alloc_new (w2.alloc (.cells #[.string ⟨D.1.toArray⟩, .slice sa D.2.length sc] 42)) (.cells #[.slice none 0 0, .bool false, .bool false, .bool HS] 29)
    simpa using this
  have c1 : W3.cell? ⟨w2.heap.size, 1, none⟩ = some (.slice sa D.2.length sc) := by rw [Lib.cell_of_heap kd]; rfl
  have HW3 : Hid (Below w.heap.size w W3) := HB1.out.trans ((b2.trans (hb3.mono b2.size)).mono HB1.out.size)
  have hsl := owns_slice o2 (strCells_len _)
  have ho2 := Lib.hid hsl
  have HB3 := Lib.hid hb3
  have hlm : D.2.length ≤ maxLen := by obtain ⟨_, _, _, h1, h2, _⟩ := hsl; rw [strCells_len] at h1; omega
  unfold maxLen at hlm
  have HP0 : Hid (ParAt bn HS D.2 0 W3 W3) := ⟨⟨_, kn, World.ownsRow_nil _ _ _ _⟩, by omega, Below.refl _ _⟩
  have HK1 : Hid (W3.heap[w.heap.size + 1]? = some (.cells #[.slice none 0 0, .bool false, .bool false, .bool false] 29 (0, 0))) := (hb3.block _ (by have := b2.size; omega)).trans ((b2.block _ (by omega)).trans k1)
  have hz1 := HB1.out.size
  have hz2 := b2.size
  rw [← hW3, hbn]
  clear hW3 hb3 b2 o2 HF q0 q1 kn kd hsl
  go_wp2_with fail
  go_loopw [18] (fun i wr => ∃ k : Nat, k ≤ D.2.length ∧ i = .int .i64 k ∧ Hid (ParAt bn HS D.2 k W3 wr)) (fun i _ => D.2.length - (intOf i).toNat)
  case atStart => exact ⟨0, Nat.zero_le _, rfl, HP0⟩
  case round =>
    obtain ⟨k, hk, rfl, HP⟩ := hrel
    obtain ⟨⟨v, kn, hown⟩, hsz, hbw⟩ := HP.out
    obtain ⟨n, hn⟩ : ∃ n, ((D.2.take k).filter namL).length = n := ⟨_, rfl⟩
    rw [hn] at hown
    have HhN := Lib.hid hn
    have hnk : n ≤ k := by rw [← hn]; exact Nat.le_trans (List.length_filter_le _ _) (List.length_take_le _ _)
    clear hn
    obtain ⟨va, vc, hvs⟩ := owns_shape hown
    subst hvs
    obtain ⟨A, hA⟩ : ∃ A, (D.2.take k).any isStar = A := ⟨_, rfl⟩
    obtain ⟨T, hT⟩ : ∃ T, (D.2.take k).any isDup = T := ⟨_, rfl⟩
    rw [hA, hT] at kn
    have HhA := Lib.hid hA
    have HhT := Lib.hid hT
    clear hA hT
    have z0 := Lib.frozen_of_heap kn 0
    have z1 := Lib.frozen_of_heap kn 1
    have z2 := Lib.frozen_of_heap kn 2
    have HK0 := Lib.hid kn
    have HO0 := Lib.hid hown
    have HBW := Lib.hid hbw
    have n0 : wr.cell? ⟨bn, 0, none⟩ = some (.slice va n vc) := by rw [Lib.cell_of_heap kn]; rfl
    have n1 : wr.cell? ⟨bn, 1, none⟩ = some (.bool A) := by rw [Lib.cell_of_heap kn]; rfl
    have n2 : wr.cell? ⟨bn, 2, none⟩ = some (.bool T) := by rw [Lib.cell_of_heap kn]; rfl
    have n3 : wr.cell? ⟨bn, 3, none⟩ = some (.bool HS) := by rw [Lib.cell_of_heap kn]; rfl
    by_cases hlt : k < D.2.length
    · have hki : (k : Int) < D.2.length := by omega
      obtain ⟨b, off, cap2, e1, hbl, hc⟩ := text_at (ho2.out.below (HB3.out.trans (hbw.mono (by omega)))) hlt
      injection e1 with f1 _ f3
      subst f1 f3
      obtain ⟨x, hx⟩ : ∃ x, D.2[k] = x := ⟨_, rfl⟩
      have HK : Hid (D.2[k]? = some x) := by show _ = _; rw [← hx]; exact List.getElem?_eq_getElem hlt
      rw [hx] at hc
      have hxl := HVL.out x (List.mem_of_getElem? HK.out)
      obtain ⟨xb, hxb⟩ : ∃ xb : ByteArray, (⟨x.toArray⟩ : ByteArray) = xb := ⟨_, rfl⟩
      have HXL : xb.data.toList = x := by rw [← hxb]
      have hxs : xb.size ≤ 1099511627776 := by rw [← hxb]; show x.toArray.size ≤ _; rw [List.size_toArray]; exact hxl
      have HXB := Lib.hid hxb
      have HA : Hid ((D.2.take (k + 1)).any isStar = ((D.2.take k).any isStar || isStar x)) := any_more HK.out
      have HT : Hid ((D.2.take (k + 1)).any isDup = ((D.2.take k).any isDup || isDup x)) := any_more HK.out
      rw [HhA.out] at HA
      rw [HhT.out] at HT
      rw [hxb] at hc
      clear hx hbw hxb kn hown
      cases hst : isStar x with
      | true =>
        have hq : (xb.toList == [42]) = true := by rw [ByteArray.toList_eq, HXL]; exact hst
        have HF1 : Hid ((D.2.take (k + 1)).filter namL = (D.2.take k).filter namL) := filter_no HK.out (star_name hst)
        have hd0 := star_dup hst
        rw [hst] at HA
        rw [hd0] at HT
        clear hst hd0
        go_wp2_with fail
        go_roundw
        case rel =>
          refine ⟨k + 1, by omega, by go_num, ⟨.slice va n vc, ?_, ?_⟩, by simp [World.setCell]; exact hsz, HBW.out.setCell (by exact Nat.le_refl _) _⟩
          · rw [HA.out, HT.out, set29 HK0.out, Bool.or_true, Bool.or_false]; rfl
          · rw [HF1.out, HhN.out]; exact ownsRow_setCell_below HO0.out (by show bn < _; omega) _
        case measure => simp [intOf]; omega
      | false =>
        have hq : (xb.toList == [42]) = false := by rw [ByteArray.toList_eq, HXL]; exact hst
        rw [hst, Bool.or_false] at HA
        clear hst
        have HS1 := Lib.hid (same_any xb ⟨dupN.toArray⟩ wr hxs (by decide))
        have hsame : sameL xb.data.toList (⟨dupN.toArray⟩ : ByteArray).data.toList = isDup x := by
          rw [HXL]
          show (lowL x == lowL dupN) = _
          rw [show lowL dupN = dupN from by decide +kernel]
          rfl
        rw [hsame] at HS1
        unfold dupN at HS1
        clear hsame
        cases hdp : isDup x with
        | true =>
          have HF1 : Hid ((D.2.take (k + 1)).filter namL = (D.2.take k).filter namL) := filter_no HK.out (dup_name hdp)
          rw [hdp] at HS1 HT
          clear hdp
          go_wp2_with fail
          refine HS1.out.mono ?_
          rintro e w4 ⟨rfl, b4⟩
          have kn4 : w4.heap[bn]? = _ := (b4.block bn (by omega)).trans HK0.out
          have y2 := Lib.frozen_of_heap kn4 2
          have m2 : w4.cell? ⟨bn, 2, none⟩ = some (.bool T) := by rw [Lib.cell_of_heap kn4]; rfl
          have HK4 := Lib.hid kn4
          have HB4 := Lib.hid b4
          clear kn4 b4
          go_wp2_with fail
          go_roundw
          case rel =>
            refine ⟨k + 1, by omega, by go_num, ⟨.slice va n vc, ?_, ?_⟩, by simp [World.setCell]; exact Nat.le_trans hsz HB4.out.size, (HBW.out.trans (HB4.out.mono (by omega))).setCell (by exact Nat.le_refl _) _⟩
            · rw [HA.out, HT.out, set29 HK4.out, Bool.or_true]; rfl
            · rw [HF1.out, HhN.out]; exact ownsRow_setCell_below (owns_below HO0.out HB4.out) (by show bn < _; omega) _
          case measure => simp [intOf]; omega
        | false =>
          rw [hdp, Bool.or_false] at HT
          rw [hdp] at HS1
          clear hdp
          have HN := Lib.hid (fun W => name_any xb W hxs)
          rw [HXL] at HN
          cases hnm : namL x with
          | true =>
            have HF1 : Hid ((D.2.take (k + 1)).filter namL = (D.2.take k).filter namL ++ [x]) := filter_yes HK.out hnm
            rw [hnm] at HN
            clear hnm
            go_wp2_with fail
            refine HS1.out.mono ?_
            rintro e w4 ⟨rfl, b4⟩
            go_wp2_with fail
            refine (HN.out w4).mono ?_
            rintro e w5 ⟨rfl, b5⟩
            have HB5 : Hid (Below wr.heap.size wr w5) := b4.trans (b5.mono b4.size)
            have kn5 : w5.heap[bn]? = _ := (HB5.out.block bn (by omega)).trans HK0.out
            have y0 := Lib.frozen_of_heap kn5 0
            have m0 : w5.cell? ⟨bn, 0, none⟩ = some (.slice va n vc) := by rw [Lib.cell_of_heap kn5]; rfl
            have HK5 := Lib.hid kn5
            have hown5 := owns_below HO0.out HB5.out
            have hsz5 : bn + 1 ≤ w5.heap.size := Nat.le_trans hsz HB5.out.size
            clear kn5 b4 b5
            go_wp2_with (at_builtin; refine app1 rfl _ _ 25 rfl infoStr Tryd.underlying25 rfl (by decide) hown5 rfl rfl rfl (by omega) hsz5 ?_; intro v6 w6 hown6 hg6 hbw6; obtain ⟨va6, vc6, hvs6⟩ := owns_shape hown6; subst hvs6; have m6 : w6.cell? ⟨bn, 0, none⟩ = some (.slice va n vc) := (hbw6.cell (p := ⟨bn, 0, none⟩) (by show bn < _; omega)).trans m0; have kn6 := (hbw6.block bn (by omega)).trans HK5.out; have y6 := Lib.frozen_of_heap kn6 0; have HK6 := Lib.hid kn6; have HB6 := Lib.hid hbw6; have HO6 := Lib.hid hown6; clear hbw6 hown6 kn6 hg6)
            go_roundw
            case rel =>
              refine ⟨k + 1, by omega, by go_num, ⟨.slice va6 (n + 1) vc6, ?_, ?_⟩, by simp [World.setCell]; exact Nat.le_trans hsz5 HB6.out.size, ((HBW.out.trans (HB5.out.mono (by omega))).trans (HB6.out.mono (by omega))).setCell (by exact Nat.le_refl _) _⟩
              · rw [HA.out, HT.out, set29 HK6.out]; rfl
              · rw [HF1.out, List.length_append, HhN.out]
                have e : strCells ((D.2.take k).filter namL ++ [x]) = strCells ((D.2.take k).filter namL) ++ [.string xb] := by simp [strCells, HXB.out]
                rw [e]
                exact ownsRow_setCell_below HO6.out (by show bn < _; omega) _
            case measure => simp [intOf]; omega
          | false =>
            have HF1 : Hid ((D.2.take (k + 1)).filter namL = (D.2.take k).filter namL) := filter_no HK.out hnm
            rw [hnm] at HN
            clear hnm
            go_wp2_with fail
            refine HS1.out.mono ?_
            rintro e w4 ⟨rfl, b4⟩
            go_wp2_with fail
            refine (HN.out w4).mono ?_
            rintro e w5 ⟨rfl, b5⟩
            have HB5 : Hid (Below wr.heap.size wr w5) := b4.trans (b5.mono b4.size)
            clear b4 b5
            go_wp2_with fail
            go_roundw
            case rel =>
              refine ⟨k + 1, by omega, by go_num, ⟨.slice va n vc, ?_, ?_⟩, Nat.le_trans hsz HB5.out.size, HBW.out.trans (HB5.out.mono (by omega))⟩
              · rw [HA.out, HT.out]; exact (HB5.out.block bn (by omega)).trans HK0.out
              · rw [HF1.out, HhN.out]; exact owns_below HO0.out HB5.out
            case measure => simp [intOf]; omega
    · have hkk : k = D.2.length := by omega
      have kr : wr.heap[w.heap.size + 1]? = _ := (hbw.block _ (by omega)).trans HK1.out
      have r0 : wr.cell? ⟨w.heap.size + 1, 0, none⟩ = some (.slice none 0 0) := by rw [Lib.cell_of_heap kr]; rfl
      have r1 : wr.cell? ⟨w.heap.size + 1, 1, none⟩ = some (.bool false) := by rw [Lib.cell_of_heap kr]; rfl
      have r2 : wr.cell? ⟨w.heap.size + 1, 2, none⟩ = some (.bool false) := by rw [Lib.cell_of_heap kr]; rfl
      have r3 : wr.cell? ⟨w.heap.size + 1, 3, none⟩ = some (.bool false) := by rw [Lib.cell_of_heap kr]; rfl
      have x0 := Lib.frozen_of_heap kr 0
      have x1 := Lib.frozen_of_heap kr 1
      have x2 := Lib.frozen_of_heap kr 2
      have x3 := Lib.frozen_of_heap kr 3
      have HKR := Lib.hid kr
      clear kr kn hown hbw
      have hte : D.2.take k = D.2 := by rw [hkk, List.take_length]
      rw [hte] at HhA HhT HO0 HhN
      clear hte
      go_wp2_with fail
      refine bodyPost_ret (v := .agg #[.slice va n vc, .bool A, .bool T, .bool HS]) ?_ rfl ?_
      · exact results_cell_row rfl _ _ (w.heap.size + 1) 29 #[.slice va n vc, .bool A, .bool T, .bool HS] (0, 0) _ rfl (by have := set29 (set29 (set29 (set29 HKR.out 0 (.slice va n vc)) 1 (.bool A)) 2 (.bool T)) 3 (.bool HS); exact this) Tryd.underlying29 rfl (by rfl)
      · refine ⟨⟨.slice va n vc, by rw [HhA.out, HhT.out], ?_⟩, ?_⟩
        · rw [HhN.out]
          exact owns_mono (ownsRow_setCell_below (ownsRow_setCell_below (ownsRow_setCell_below (ownsRow_setCell_below HO0.out (by show w.heap.size + 1 < _; omega) _) (by show w.heap.size + 1 < _; omega) _) (by show w.heap.size + 1 < _; omega) _) (by show w.heap.size + 1 < _; omega) _) (by omega)
        · exact ((((HW3.out.trans (HBW.out.mono (by omega))).setCell (by show _ ≤ w.heap.size + 1; omega) _).setCell (by show _ ≤ w.heap.size + 1; omega) _).setCell (by show _ ≤ w.heap.size + 1; omega) _).setCell (by show _ ≤ w.heap.size + 1; omega) _
end Go.Proofs.YtgaeecphohlmpabDoor
