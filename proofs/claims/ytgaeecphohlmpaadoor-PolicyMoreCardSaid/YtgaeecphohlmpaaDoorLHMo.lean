/- The law PolicyMore. -/
import Derived.Test.YtgaeecphohlmpaaDoorHdr4
import Derived.Deep.Cut
set_option linter.unusedVariables false
namespace Go.Proofs.YtgaeecphohlmpaaDoor
open Go.RowKit

theorem PolsIn.cut {w : World} {ao : Option Addr} {cap : Nat} {ps : List Pol} (h : PolsIn w (.slice ao ps.length cap) ps) {n : Nat} (hn : n ≤ ps.length) : PolsIn w (.slice ao n cap) (ps.take n) := by
  obtain ⟨ao', cap', h1, h2, h3, h4⟩ := h
  injection h1 with e1 _ e3
  subst e1 e3
  have hl : (ps.take n).length = n := by rw [List.length_take]; omega
  refine ⟨ao, cap, by rw [hl], by omega, h3, fun hne => ?_⟩
  obtain ⟨b', off', ha, hlt, hc⟩ := h4 (by intro e; apply hne; rw [e]; simp)
  refine ⟨b', off', ha, hlt, fun i hi => ?_⟩
  obtain ⟨c1, lv, c2, c3⟩ := hc i (by omega)
  have e : (ps.take n)[i] = ps[i] := by simp
  rw [e]
  exact ⟨c1, lv, c2, c3⟩

set_option maxHeartbeats 12800000 in
set_option maxRecDepth 100000 in
theorem policyMore_law (v : Value) (hs : List HdrT) (mn mv : ByteArray) (m : Int) (w : World) (hh : HdrsIn w v hs) (hm : MaxOk m w) :
    Calls Tryd.prog 13 #[v, .agg #[.string mn, .string mv]] w fun e w' => e = .returned (.bool true) ∧ Below w.heap.size w w' := by
  obtain ⟨ao, cap, rfl⟩ := hh.shape
  obtain ⟨W1, hW1⟩ : ∃ W1, W1 = w.alloc (.cells #[.string mn, .string mv] 52) := ⟨_, rfl⟩
  have hb1 : Below w.heap.size w W1 := by rw [hW1]; exact (Below.refl _ w).alloc (Nat.le_refl _) _
  have q0 : W1.cell? ⟨w.heap.size, 0, none⟩ = some (.string mn) := by rw [hW1, Lib.cell_of_heap (heap_alloc_new w _)]; rfl
  have q1 : W1.cell? ⟨w.heap.size, 1, none⟩ = some (.string mv) := by rw [hW1, Lib.cell_of_heap (heap_alloc_new w _)]; rfl
  have hlt1 : w.heap.size < W1.heap.size := by rw [hW1]; simp
  have Q0 := Lib.hid q0
  have Q1 := Lib.hid q1
  have LT1 := Lib.hid hlt1
  have HW1 := Lib.hid hW1
  have HB1 := Lib.hid hb1
  have HM1 := Lib.hid (hm.below hb1)
  have HH1 := hh.below hb1
  rw [hW1] at q0 q1
  clear hW1 hb1 hm hh hlt1
  by_cases h8 : 8 < hs.length
  · have h8i : (8 : Int) < hs.length := by omega
    go_enter Tryd.func13, Tryd.ntmps13
    go_wp2_with (go_at_call 26; rw [← HW1.out]; refine (says_any m W1 HM1.out).mono ?_; rintro e w2 ⟨rfl, b2⟩; have B2 := Lib.hid b2; clear b2)
    go_ret
    exact ⟨by exact rfl, HB1.out.trans (B2.out.mono HB1.out.size)⟩
  have h8i : ¬ (8 : Int) < hs.length := by omega
  by_cases h60 : 60 < mn.size
  · have h60i : (60 : Int) < mn.size := by omega
    go_enter Tryd.func13, Tryd.ntmps13
    go_wp2_with (go_at_call 26; rw [← HW1.out]; refine (says_any m W1 HM1.out).mono ?_; rintro e w2 ⟨rfl, b2⟩; have B2 := Lib.hid b2; clear b2)
    go_ret
    exact ⟨by exact rfl, HB1.out.trans (B2.out.mono HB1.out.size)⟩
  have h60i : ¬ (60 : Int) < mn.size := by omega
  by_cases h30 : 300 < mv.size
  · have h30i : (300 : Int) < mv.size := by omega
    go_enter Tryd.func13, Tryd.ntmps13
    go_wp2_with (go_at_call 26; rw [← HW1.out]; refine (says_any m W1 HM1.out).mono ?_; rintro e w2 ⟨rfl, b2⟩; have B2 := Lib.hid b2; clear b2)
    go_ret
    exact ⟨by exact rfl, HB1.out.trans (B2.out.mono HB1.out.size)⟩
  have h30i : ¬ (300 : Int) < mv.size := by omega
  go_enter Tryd.func13, Tryd.ntmps13
  go_wp2_with fail
  rw [← HW1.out]
  clear q0 q1
  go_loopw [5] (fun i wr => ∃ k : Nat, k ≤ hs.length ∧ i = .int .i64 k ∧ Hid (∀ (c : Nat) (x : HdrT), c < k → hs[c]? = some x → x.1.length ≤ 60 ∧ x.2.length ≤ 300) ∧ wr = W1) (fun i _ => hs.length - (intOf i).toNat)
  case atStart => exact ⟨0, Nat.zero_le _, rfl, (by intro c x h; omega), rfl⟩
  case round =>
    obtain ⟨k, hk, rfl, hno, rfl⟩ := hrel
    by_cases hlt : k < hs.length
    · have hki : (k : Int) < hs.length := by omega
      obtain ⟨b, off, cap2, e1, hbl, x0, x1⟩ := HH1.at hlt
      injection e1 with f1 _ f3
      subst f1 f3
      obtain ⟨hd, hhd⟩ : ∃ hd, hs[k] = hd := ⟨_, rfl⟩
      have HDK : Hid (hs[k]? = some hd) := by show _ = _; rw [← hhd]; exact List.getElem?_eq_getElem hlt
      rw [hhd] at x0 x1
      clear hhd
      obtain ⟨nn, hnn⟩ : ∃ nn : ByteArray, (⟨hd.1.toArray⟩ : ByteArray) = nn := ⟨_, rfl⟩
      have HNZ : Hid (nn.size = hd.1.length) := by show nn.size = _; rw [← hnn]; show hd.1.toArray.size = _; simp
      rw [hnn] at x0
      obtain ⟨vv, hvv⟩ : ∃ vv : ByteArray, (⟨hd.2.toArray⟩ : ByteArray) = vv := ⟨_, rfl⟩
      have HVZ : Hid (vv.size = hd.2.length) := by show vv.size = _; rw [← hvv]; show hd.2.toArray.size = _; simp
      rw [hvv] at x1
      clear hnn hvv
      by_cases g60 : 60 < nn.size
      · have g60i : (60 : Int) < nn.size := by omega
        go_wp2_with (go_at_call 26; refine (says_any m _ HM1.out).mono ?_; rintro e w2 ⟨rfl, b2⟩; have B2 := Lib.hid b2; clear b2)
        go_ret
        exact ⟨by exact rfl, HB1.out.trans (B2.out.mono HB1.out.size)⟩
      have g60i : ¬ (60 : Int) < nn.size := by omega
      by_cases g50 : 300 < vv.size
      · have g50i : (300 : Int) < vv.size := by omega
        go_wp2_with (go_at_call 26; refine (says_any m _ HM1.out).mono ?_; rintro e w2 ⟨rfl, b2⟩; have B2 := Lib.hid b2; clear b2)
        go_ret
        exact ⟨by exact rfl, HB1.out.trans (B2.out.mono HB1.out.size)⟩
      have g50i : ¬ (300 : Int) < vv.size := by omega
      have hno2 : Hid (∀ (c : Nat) (x : HdrT), c < k + 1 → hs[c]? = some x → x.1.length ≤ 60 ∧ x.2.length ≤ 300) := by
        intro c x hc hx
        by_cases e : c = k
        · subst e
          rw [HDK.out] at hx
          injection hx with hx
          rw [← hx, ← HNZ.out, ← HVZ.out]
          exact ⟨by omega, by omega⟩
        · exact hno.out c x (by omega) hx
      go_wp2_with fail
      go_roundw
      case rel => exact ⟨k + 1, by omega, by go_num, hno2.out, by first | rfl | trivial⟩
      case measure => simp [intOf]; omega
    · have hbd : ∀ h ∈ hs, h.1.length ≤ 100 ∧ h.2.length ≤ 300 := fun h hx => by
        obtain ⟨c, hc⟩ := List.getElem?_of_mem hx
        have := hno.out c h (by have := (List.getElem?_eq_some_iff.1 hc).1; omega) hc
        exact ⟨by omega, this.2⟩
      have hnl : mn.data.toList.length = mn.size := by simp
      have hvl : mv.data.toList.length = mv.size := by simp
      have hbd2 : ∀ h ∈ hs ++ [(mn.data.toList, mv.data.toList)], h.1.length ≤ 100 ∧ h.2.length ≤ 300 := fun h hx => by
        rcases List.mem_append.1 hx with hx | hx
        · exact hbd h hx
        · simp at hx; subst hx; exact ⟨by show mn.data.toList.length ≤ 100; omega, by show mv.data.toList.length ≤ 300; omega⟩
      have hr1 := headR_few (hs := hs) (by omega) fun h hx => by have := (hbd h hx).2; omega
      have hr2 := headR_few (hs := hs ++ [(mn.data.toList, mv.data.toList)]) (by simp; omega) fun h hx => by have := (hbd2 h hx).2; omega
      have hpre := headP_pre hs (mn.data.toList, mv.data.toList)
      have C1 : Hid (∀ W, Below wr.heap.size wr W → Calls Tryd.prog 35 #[.slice ao hs.length cap] W fun e w' => HdrRes w' (headR hs) e ∧ Below W.heap.size W w') := fun W hW => phead_any _ hs m W (HH1.below hW) (by omega) (fun h hx => ⟨(hbd h hx).1, by have := (hbd h hx).2; omega⟩) (HM1.out.below hW)
      have C2 : Hid (∀ W v', Below wr.heap.size wr W → HdrsIn W v' (hs ++ [(mn.data.toList, mv.data.toList)]) → Calls Tryd.prog 35 #[v'] W fun e w' => HdrRes w' (headR (hs ++ [(mn.data.toList, mv.data.toList)])) e ∧ Below W.heap.size W w') := fun W v' hW h => phead_any _ _ m W h (by simp; omega) (fun h hx => ⟨(hbd2 h hx).1, by have := (hbd2 h hx).2; omega⟩) (HM1.out.below hW)
      have hxl : ((⟨#[120, 45]⟩ : ByteArray) ++ mn).data.toList = 120 :: 45 :: mn.data.toList := by simp
      have C3 : Hid (∀ W v', Below wr.heap.size wr W → HdrsIn W v' [(((⟨#[120, 45]⟩ : ByteArray) ++ mn).data.toList, mv.data.toList)] → Calls Tryd.prog 35 #[v'] W fun e w' => (∃ a c, e = .returned (.tuple #[.slice a 0 c, .int .i64 0])) ∧ Below W.heap.size W w') := by
        intro W v' hW h
        refine (phead_any _ _ m W h (by simp) (fun h hx => by simp at hx; subst hx; exact ⟨by simp; omega, by show mv.data.toList.length ≤ 5000; omega⟩) (HM1.out.below hW)).mono ?_
        rintro e w' ⟨⟨v, rfl, P⟩, b⟩
        rw [hxl, headR_x _ _ (by omega)] at P ⊢
        obtain ⟨a, c, rfl⟩ := P.shape
        exact ⟨⟨a, c, rfl⟩, b⟩
      have HLEN : Hid (hs.length ≤ 8) := by show _ ≤ _; omega
      clear hbd hbd2 hno hnl hvl hxl
      generalize headR (hs ++ [(mn.data.toList, mv.data.toList)]) = R2 at *
      generalize headP (hs ++ [(mn.data.toList, mv.data.toList)]) = P2 at *
      generalize headR hs = R1 at *
      generalize headP hs = P1 at *
      have K1 : ∀ (Q : List Pol) (er : Int), R1.getD [] = Q → (if R1.isSome then 0 else 3 : Int) = er → Hid (∀ W, Below wr.heap.size wr W → Calls Tryd.prog 35 #[.slice ao hs.length cap] W fun e w' => (∃ a c, e = .returned (.tuple #[.slice a Q.length c, .int .i64 er]) ∧ PolsIn w' (.slice a Q.length c) Q) ∧ Below W.heap.size W w') := by
        intro Q er h1 h2 W hW
        refine (C1.out W hW).mono ?_
        rintro e w' ⟨⟨v, rfl, P⟩, b⟩
        rw [h1] at P
        obtain ⟨a, c, rfl⟩ := P.shape
        exact ⟨⟨a, c, by rw [h2], P⟩, b⟩
      have K2 : ∀ (Q : List Pol) (er : Int), R2.getD [] = Q → (if R2.isSome then 0 else 3 : Int) = er → Hid (∀ W v', Below wr.heap.size wr W → HdrsIn W v' (hs ++ [(mn.data.toList, mv.data.toList)]) → Calls Tryd.prog 35 #[v'] W fun e w' => (∃ a c, e = .returned (.tuple #[.slice a Q.length c, .int .i64 er]) ∧ PolsIn w' (.slice a Q.length c) Q) ∧ Below W.heap.size W w') := by
        intro Q er h1 h2 W v' hW h
        refine (C2.out W v' hW h).mono ?_
        rintro e w' ⟨⟨v, rfl, P⟩, b⟩
        rw [h1] at P
        obtain ⟨a, c, rfl⟩ := P.shape
        exact ⟨⟨a, c, by rw [h2], P⟩, b⟩
      have hle := hpre.length_le
      have htake := List.prefix_iff_eq_take.1 hpre
      clear C1 C2 hpre
      by_cases h2 : 16 < P2.length
      · have K2 := K2 [] 3 (by rw [hr2, if_pos h2]; rfl) (by rw [hr2, if_pos h2]; rfl)
        by_cases h1 : 16 < P1.length
        · have K1 := K1 [] 3 (by rw [hr1, if_pos h1]; rfl) (by rw [hr1, if_pos h1]; rfl)
          clear hr1 hr2 h1 h2 hle htake
          go_upto_region 9 with (go_at_call 35; refine (K1.out wr ?hB).mono ?_; (case hB => exact Below.refl _ _); rintro e w2 ⟨⟨a2, c2, rfl, p2⟩, b2⟩)
          have B2 := Lib.hid b2
          have PA := Lib.hid p2
          have n0 : w2.cell? ⟨w.heap.size, 0, none⟩ = some (.string mn) := (b2.cell (p := ⟨w.heap.size, 0, none⟩) LT1.out).trans Q0.out
          have n1 : w2.cell? ⟨w.heap.size, 1, none⟩ = some (.string mv) := (b2.cell (p := ⟨w.heap.size, 1, none⟩) LT1.out).trans Q1.out
          have N0 := Lib.hid n0
          have N1 := Lib.hid n1
          have LT2 := Lib.hid (Nat.lt_of_lt_of_le LT1.out b2.size)
          have HH2 := Lib.hid ((HH1.below b2).below ((Below.refl _ w2).drew))
          have HLN1 : Hid (0 + hs.length ≤ 1099511627776) := by show _ ≤ _; have := HLEN.out; omega
          have HLN2 : Hid (0 + hs.length + [(mn.data.toList, mv.data.toList)].length ≤ 1099511627776) := by show _ ≤ _; have := HLEN.out; simp; omega
          have HBS0 : Hid (w2.heap.size ≤ w2.drew.heap.size) := Nat.le_refl _
          have HBS0N : Hid (w2.heap.size ≤ (w2.alloc (.cells #[.string mn, .string mv] 52)).drew.heap.size) := by show w2.heap.size ≤ (w2.alloc _).heap.size; simp
          have BAL : Hid (Below w2.heap.size w2 (w2.alloc (.cells #[.string mn, .string mv] 52))) := (Below.refl _ w2).alloc (Nat.le_refl _) _
          have HH2N : Hid (HdrsIn (w2.alloc (.cells #[.string mn, .string mv] 52)).drew (.slice ao hs.length cap) hs) := (HH1.below b2).below (BAL.out.drew)
          clear b2 p2 HH1
          go_wp2_with fail
          go_region_law (first
            | (refine step_hdrs (by rfl) _ _ (by rfl) (by rfl) (HOA.out.alloc _) (by rfl) (hdr_lit w3 mn mv) HLN2.out HBS3.out ?_; intro v5 w5 hown5 hg5; have B5 : Hid (Below w2.heap.size w2 w5) := (B3.out.alloc HSZ3.out _).grown hg5 HBS3.out (fun j hj => (HOA.out.lt j hj).1); have HH5 : Hid (HdrsIn w5 v5 (hs ++ [(mn.data.toList, mv.data.toList)])) := hdrs_own (by rw [hdrC_app]; exact hown5); clear hown5 hg5)
            | (refine step_hdrs (by rfl) _ _ (by rfl) (by rfl) HOA.out (by rfl) HLIT.out HLN2.out HSZ3.out ?_; intro v5 w5 hown5 hg5; have B5 : Hid (Below w2.heap.size w2 w5) := B3.out.grown hg5 HSZ3.out (fun j hj => (HOA.out.lt j hj).1); have HH5 : Hid (HdrsIn w5 v5 (hs ++ [(mn.data.toList, mv.data.toList)])) := hdrs_own (by rw [hdrC_app]; exact hown5); clear hown5 hg5)
            | (refine step_hdrs (by rfl) _ _ (by rfl) (by rfl) (World.ownsRow_nil w2.drew w2.heap.size _ _) (by rfl) HH2.out HLN1.out HBS0.out ?_; intro v3 w3 hown3 hg3; have B3 : Hid (Below w2.heap.size w2 w3) := ((Below.refl _ w2).drew).grown hg3 HBS0.out (fun j hj => by cases hj); have HSZ3 := Lib.hid B3.out.size; have HOA := Lib.hid hown3; have HBS3 : Hid (w2.heap.size ≤ (w3.alloc (.cells #[.string mn, .string mv] 52)).heap.size) := (by show _ ≤ _; simp; have := HSZ3.out; omega); have o0 : w3.cell? ⟨w.heap.size, 0, none⟩ = some (.string mn) := (B3.out.cell (p := ⟨w.heap.size, 0, none⟩) LT2.out).trans N0.out; have o1 : w3.cell? ⟨w.heap.size, 1, none⟩ = some (.string mv) := (B3.out.cell (p := ⟨w.heap.size, 1, none⟩) LT2.out).trans N1.out; clear hown3 hg3)
            | (refine step_hdrs (by rfl) _ _ (by rfl) (by rfl) (World.ownsRow_nil (w2.alloc (.cells #[.string mn, .string mv] 52)).drew w2.heap.size _ _) (by rfl) HH2N.out HLN1.out HBS0N.out ?_; intro v3 w3 hown3 hg3; have BA3 : Hid (Below (w2.alloc (.cells #[.string mn, .string mv] 52)).heap.size (w2.alloc (.cells #[.string mn, .string mv] 52)) w3) := ((Below.refl _ (w2.alloc (.cells #[.string mn, .string mv] 52))).drew).grown hg3 (by exact Nat.le_refl _) (fun j hj => by cases hj); have B3 : Hid (Below w2.heap.size w2 w3) := BAL.out.trans (BA3.out.mono (by exact HBS0N.out)); have HSZ3 := Lib.hid B3.out.size; have HOA := Lib.hid hown3; have HLIT := Lib.hid ((hdr_lit w2 mn mv).below BA3.out); clear hown3 hg3)
            | (go_simp; go_at_call 35; refine (K2.out _ _ ?hB ?hC).mono ?_; (case hB => exact B2.out.trans (B5.out.mono B2.out.size)); (case hC => exact HH5.out); rintro e w6 ⟨⟨a6, c6, rfl, p6⟩, b6⟩; have B6 : Hid (Below w2.heap.size w2 w6) := B5.out.trans (b6.mono B5.out.size); have P6 := Lib.hid p6; have r0 : w6.cell? ⟨w.heap.size, 0, none⟩ = some (.string mn) := (B6.out.cell (p := ⟨w.heap.size, 0, none⟩) LT2.out).trans N0.out; have r1 : w6.cell? ⟨w.heap.size, 1, none⟩ = some (.string mv) := (B6.out.cell (p := ⟨w.heap.size, 1, none⟩) LT2.out).trans N1.out; clear p6 b6))
          all_goals
            have HM6 := Lib.hid (HM1.out.below (B2.out.trans (B6.out.mono B2.out.size)))
            have BW6 : Hid (Below wr.heap.size wr w6) := B2.out.trans (B6.out.mono B2.out.size)
            have HSXZ : Hid ((((⟨#[120, 45]⟩ : ByteArray) ++ mn).size) ≤ 100) := by show _ ≤ _; simp only [ByteArray.size_append]; show 2 + mn.size ≤ 100; omega
            go_wp2_with (first
              | (go_at_call 26; refine (says_any m w7 HM7.out).mono ?_; rintro e w8 ⟨rfl, b8⟩; have B8 := Lib.hid b8; clear b8)
              | (go_at_call 35; refine (C3.out _ _ ?hB (hdr_lit w6 _ mv)).mono ?_; (case hB => exact BW6.out.trans (((Below.refl _ w6).alloc (Nat.le_refl _) _).mono BW6.out.size)); rintro e w7 ⟨⟨a7, c7, rfl⟩, b7⟩; have B7 : Hid (Below w6.heap.size w6 w7) := ((Below.refl _ w6).alloc (Nat.le_refl _) _).trans (b7.mono (by simp)); have HM7 := Lib.hid (HM6.out.below B7.out); clear b7))
            go_ret
            exact ⟨by exact rfl, HB1.out.trans ((BW6.out.trans ((B7.out.trans (B8.out.mono B7.out.size)).mono BW6.out.size)).mono HB1.out.size)⟩
        · have K1 := K1 P1 0 (by rw [hr1, if_neg h1]; rfl) (by rw [hr1, if_neg h1]; rfl)
          clear hr1 hr2 h2 hle htake
          go_upto_region 9 with (go_at_call 35; refine (K1.out wr ?hB).mono ?_; (case hB => exact Below.refl _ _); rintro e w2 ⟨⟨a2, c2, rfl, p2⟩, b2⟩)
          have B2 := Lib.hid b2
          have PA := Lib.hid p2
          have n0 : w2.cell? ⟨w.heap.size, 0, none⟩ = some (.string mn) := (b2.cell (p := ⟨w.heap.size, 0, none⟩) LT1.out).trans Q0.out
          have n1 : w2.cell? ⟨w.heap.size, 1, none⟩ = some (.string mv) := (b2.cell (p := ⟨w.heap.size, 1, none⟩) LT1.out).trans Q1.out
          have N0 := Lib.hid n0
          have N1 := Lib.hid n1
          have LT2 := Lib.hid (Nat.lt_of_lt_of_le LT1.out b2.size)
          have HH2 := Lib.hid ((HH1.below b2).below ((Below.refl _ w2).drew))
          have HLN1 : Hid (0 + hs.length ≤ 1099511627776) := by show _ ≤ _; have := HLEN.out; omega
          have HLN2 : Hid (0 + hs.length + [(mn.data.toList, mv.data.toList)].length ≤ 1099511627776) := by show _ ≤ _; have := HLEN.out; simp; omega
          have HBS0 : Hid (w2.heap.size ≤ w2.drew.heap.size) := Nat.le_refl _
          have HBS0N : Hid (w2.heap.size ≤ (w2.alloc (.cells #[.string mn, .string mv] 52)).drew.heap.size) := by show w2.heap.size ≤ (w2.alloc _).heap.size; simp
          have BAL : Hid (Below w2.heap.size w2 (w2.alloc (.cells #[.string mn, .string mv] 52))) := (Below.refl _ w2).alloc (Nat.le_refl _) _
          have HH2N : Hid (HdrsIn (w2.alloc (.cells #[.string mn, .string mv] 52)).drew (.slice ao hs.length cap) hs) := (HH1.below b2).below (BAL.out.drew)
          clear b2 p2 HH1
          go_wp2_with fail
          go_region_law (first
            | (refine step_hdrs (by rfl) _ _ (by rfl) (by rfl) (HOA.out.alloc _) (by rfl) (hdr_lit w3 mn mv) HLN2.out HBS3.out ?_; intro v5 w5 hown5 hg5; have B5 : Hid (Below w2.heap.size w2 w5) := (B3.out.alloc HSZ3.out _).grown hg5 HBS3.out (fun j hj => (HOA.out.lt j hj).1); have HH5 : Hid (HdrsIn w5 v5 (hs ++ [(mn.data.toList, mv.data.toList)])) := hdrs_own (by rw [hdrC_app]; exact hown5); clear hown5 hg5)
            | (refine step_hdrs (by rfl) _ _ (by rfl) (by rfl) HOA.out (by rfl) HLIT.out HLN2.out HSZ3.out ?_; intro v5 w5 hown5 hg5; have B5 : Hid (Below w2.heap.size w2 w5) := B3.out.grown hg5 HSZ3.out (fun j hj => (HOA.out.lt j hj).1); have HH5 : Hid (HdrsIn w5 v5 (hs ++ [(mn.data.toList, mv.data.toList)])) := hdrs_own (by rw [hdrC_app]; exact hown5); clear hown5 hg5)
            | (refine step_hdrs (by rfl) _ _ (by rfl) (by rfl) (World.ownsRow_nil w2.drew w2.heap.size _ _) (by rfl) HH2.out HLN1.out HBS0.out ?_; intro v3 w3 hown3 hg3; have B3 : Hid (Below w2.heap.size w2 w3) := ((Below.refl _ w2).drew).grown hg3 HBS0.out (fun j hj => by cases hj); have HSZ3 := Lib.hid B3.out.size; have HOA := Lib.hid hown3; have HBS3 : Hid (w2.heap.size ≤ (w3.alloc (.cells #[.string mn, .string mv] 52)).heap.size) := (by show _ ≤ _; simp; have := HSZ3.out; omega); have o0 : w3.cell? ⟨w.heap.size, 0, none⟩ = some (.string mn) := (B3.out.cell (p := ⟨w.heap.size, 0, none⟩) LT2.out).trans N0.out; have o1 : w3.cell? ⟨w.heap.size, 1, none⟩ = some (.string mv) := (B3.out.cell (p := ⟨w.heap.size, 1, none⟩) LT2.out).trans N1.out; clear hown3 hg3)
            | (refine step_hdrs (by rfl) _ _ (by rfl) (by rfl) (World.ownsRow_nil (w2.alloc (.cells #[.string mn, .string mv] 52)).drew w2.heap.size _ _) (by rfl) HH2N.out HLN1.out HBS0N.out ?_; intro v3 w3 hown3 hg3; have BA3 : Hid (Below (w2.alloc (.cells #[.string mn, .string mv] 52)).heap.size (w2.alloc (.cells #[.string mn, .string mv] 52)) w3) := ((Below.refl _ (w2.alloc (.cells #[.string mn, .string mv] 52))).drew).grown hg3 (by exact Nat.le_refl _) (fun j hj => by cases hj); have B3 : Hid (Below w2.heap.size w2 w3) := BAL.out.trans (BA3.out.mono (by exact HBS0N.out)); have HSZ3 := Lib.hid B3.out.size; have HOA := Lib.hid hown3; have HLIT := Lib.hid ((hdr_lit w2 mn mv).below BA3.out); clear hown3 hg3)
            | (go_simp; go_at_call 35; refine (K2.out _ _ ?hB ?hC).mono ?_; (case hB => exact B2.out.trans (B5.out.mono B2.out.size)); (case hC => exact HH5.out); rintro e w6 ⟨⟨a6, c6, rfl, p6⟩, b6⟩; have B6 : Hid (Below w2.heap.size w2 w6) := B5.out.trans (b6.mono B5.out.size); have P6 := Lib.hid p6; have r0 : w6.cell? ⟨w.heap.size, 0, none⟩ = some (.string mn) := (B6.out.cell (p := ⟨w.heap.size, 0, none⟩) LT2.out).trans N0.out; have r1 : w6.cell? ⟨w.heap.size, 1, none⟩ = some (.string mv) := (B6.out.cell (p := ⟨w.heap.size, 1, none⟩) LT2.out).trans N1.out; clear p6 b6))
          all_goals
            have HM6 := Lib.hid (HM1.out.below (B2.out.trans (B6.out.mono B2.out.size)))
            have BW6 : Hid (Below wr.heap.size wr w6) := B2.out.trans (B6.out.mono B2.out.size)
            have HSXZ : Hid ((((⟨#[120, 45]⟩ : ByteArray) ++ mn).size) ≤ 100) := by show _ ≤ _; simp only [ByteArray.size_append]; show 2 + mn.size ≤ 100; omega
            go_wp2_with (first
              | (go_at_call 26; refine (says_any m w7 HM7.out).mono ?_; rintro e w8 ⟨rfl, b8⟩; have B8 := Lib.hid b8; clear b8)
              | (go_at_call 35; refine (C3.out _ _ ?hB (hdr_lit w6 _ mv)).mono ?_; (case hB => exact BW6.out.trans (((Below.refl _ w6).alloc (Nat.le_refl _) _).mono BW6.out.size)); rintro e w7 ⟨⟨a7, c7, rfl⟩, b7⟩; have B7 : Hid (Below w6.heap.size w6 w7) := ((Below.refl _ w6).alloc (Nat.le_refl _) _).trans (b7.mono (by simp)); have HM7 := Lib.hid (HM6.out.below B7.out); clear b7))
            go_ret
            exact ⟨by exact rfl, HB1.out.trans ((BW6.out.trans ((B7.out.trans (B8.out.mono B7.out.size)).mono BW6.out.size)).mono HB1.out.size)⟩
      · have h1 : ¬ 16 < P1.length := by omega
        have K1 := K1 P1 0 (by rw [hr1, if_neg h1]; rfl) (by rw [hr1, if_neg h1]; rfl)
        have K2 := K2 P2 0 (by rw [hr2, if_neg h2]; rfl) (by rw [hr2, if_neg h2]; rfl)
        have HTK := Lib.hid htake
        have hlei : (P1.length : Int) ≤ P2.length := by omega
        have HLE := Lib.hid hle
        have HAL := Lib.hid (fun W v v' (h : PolsIn W v P1) (h' : PolsIn W v' P1) => all_is v v' P1 W h h')
        clear hr1 hr2 htake h1 h2
        go_upto_region 9 with (go_at_call 35; refine (K1.out wr ?hB).mono ?_; (case hB => exact Below.refl _ _); rintro e w2 ⟨⟨a2, c2, rfl, p2⟩, b2⟩)
        have B2 := Lib.hid b2
        have PA := Lib.hid p2
        have n0 : w2.cell? ⟨w.heap.size, 0, none⟩ = some (.string mn) := (b2.cell (p := ⟨w.heap.size, 0, none⟩) LT1.out).trans Q0.out
        have n1 : w2.cell? ⟨w.heap.size, 1, none⟩ = some (.string mv) := (b2.cell (p := ⟨w.heap.size, 1, none⟩) LT1.out).trans Q1.out
        have N0 := Lib.hid n0
        have N1 := Lib.hid n1
        have LT2 := Lib.hid (Nat.lt_of_lt_of_le LT1.out b2.size)
        have HH2 := Lib.hid ((HH1.below b2).below ((Below.refl _ w2).drew))
        have HLN1 : Hid (0 + hs.length ≤ 1099511627776) := by show _ ≤ _; have := HLEN.out; omega
        have HLN2 : Hid (0 + hs.length + [(mn.data.toList, mv.data.toList)].length ≤ 1099511627776) := by show _ ≤ _; have := HLEN.out; simp; omega
        have HBS0 : Hid (w2.heap.size ≤ w2.drew.heap.size) := Nat.le_refl _
        have HBS0N : Hid (w2.heap.size ≤ (w2.alloc (.cells #[.string mn, .string mv] 52)).drew.heap.size) := by show w2.heap.size ≤ (w2.alloc _).heap.size; simp
        have BAL : Hid (Below w2.heap.size w2 (w2.alloc (.cells #[.string mn, .string mv] 52))) := (Below.refl _ w2).alloc (Nat.le_refl _) _
        have HH2N : Hid (HdrsIn (w2.alloc (.cells #[.string mn, .string mv] 52)).drew (.slice ao hs.length cap) hs) := (HH1.below b2).below (BAL.out.drew)
        clear b2 p2 HH1
        go_wp2_with fail
        go_region_law (first
          | (refine step_hdrs (by rfl) _ _ (by rfl) (by rfl) (HOA.out.alloc _) (by rfl) (hdr_lit w3 mn mv) HLN2.out HBS3.out ?_; intro v5 w5 hown5 hg5; have B5 : Hid (Below w2.heap.size w2 w5) := (B3.out.alloc HSZ3.out _).grown hg5 HBS3.out (fun j hj => (HOA.out.lt j hj).1); have HH5 : Hid (HdrsIn w5 v5 (hs ++ [(mn.data.toList, mv.data.toList)])) := hdrs_own (by rw [hdrC_app]; exact hown5); clear hown5 hg5)
          | (refine step_hdrs (by rfl) _ _ (by rfl) (by rfl) HOA.out (by rfl) HLIT.out HLN2.out HSZ3.out ?_; intro v5 w5 hown5 hg5; have B5 : Hid (Below w2.heap.size w2 w5) := B3.out.grown hg5 HSZ3.out (fun j hj => (HOA.out.lt j hj).1); have HH5 : Hid (HdrsIn w5 v5 (hs ++ [(mn.data.toList, mv.data.toList)])) := hdrs_own (by rw [hdrC_app]; exact hown5); clear hown5 hg5)
          | (refine step_hdrs (by rfl) _ _ (by rfl) (by rfl) (World.ownsRow_nil w2.drew w2.heap.size _ _) (by rfl) HH2.out HLN1.out HBS0.out ?_; intro v3 w3 hown3 hg3; have B3 : Hid (Below w2.heap.size w2 w3) := ((Below.refl _ w2).drew).grown hg3 HBS0.out (fun j hj => by cases hj); have HSZ3 := Lib.hid B3.out.size; have HOA := Lib.hid hown3; have HBS3 : Hid (w2.heap.size ≤ (w3.alloc (.cells #[.string mn, .string mv] 52)).heap.size) := (by show _ ≤ _; simp; have := HSZ3.out; omega); have o0 : w3.cell? ⟨w.heap.size, 0, none⟩ = some (.string mn) := (B3.out.cell (p := ⟨w.heap.size, 0, none⟩) LT2.out).trans N0.out; have o1 : w3.cell? ⟨w.heap.size, 1, none⟩ = some (.string mv) := (B3.out.cell (p := ⟨w.heap.size, 1, none⟩) LT2.out).trans N1.out; clear hown3 hg3)
          | (refine step_hdrs (by rfl) _ _ (by rfl) (by rfl) (World.ownsRow_nil (w2.alloc (.cells #[.string mn, .string mv] 52)).drew w2.heap.size _ _) (by rfl) HH2N.out HLN1.out HBS0N.out ?_; intro v3 w3 hown3 hg3; have BA3 : Hid (Below (w2.alloc (.cells #[.string mn, .string mv] 52)).heap.size (w2.alloc (.cells #[.string mn, .string mv] 52)) w3) := ((Below.refl _ (w2.alloc (.cells #[.string mn, .string mv] 52))).drew).grown hg3 (by exact Nat.le_refl _) (fun j hj => by cases hj); have B3 : Hid (Below w2.heap.size w2 w3) := BAL.out.trans (BA3.out.mono (by exact HBS0N.out)); have HSZ3 := Lib.hid B3.out.size; have HOA := Lib.hid hown3; have HLIT := Lib.hid ((hdr_lit w2 mn mv).below BA3.out); clear hown3 hg3)
          | (go_simp; go_at_call 35; refine (K2.out _ _ ?hB ?hC).mono ?_; (case hB => exact B2.out.trans (B5.out.mono B2.out.size)); (case hC => exact HH5.out); rintro e w6 ⟨⟨a6, c6, rfl, p6⟩, b6⟩; have B6 : Hid (Below w2.heap.size w2 w6) := B5.out.trans (b6.mono B5.out.size); have P6 := Lib.hid p6; have r0 : w6.cell? ⟨w.heap.size, 0, none⟩ = some (.string mn) := (B6.out.cell (p := ⟨w.heap.size, 0, none⟩) LT2.out).trans N0.out; have r1 : w6.cell? ⟨w.heap.size, 1, none⟩ = some (.string mv) := (B6.out.cell (p := ⟨w.heap.size, 1, none⟩) LT2.out).trans N1.out; clear p6 b6))
        all_goals
          have HM6 := Lib.hid (HM1.out.below (B2.out.trans (B6.out.mono B2.out.size)))
          have BW6 : Hid (Below wr.heap.size wr w6) := B2.out.trans (B6.out.mono B2.out.size)
          have HSXZ : Hid ((((⟨#[120, 45]⟩ : ByteArray) ++ mn).size) ≤ 100) := by show _ ≤ _; simp only [ByteArray.size_append]; show 2 + mn.size ≤ 100; omega
          have hc6 : (P2.length : Int) ≤ c6 := by obtain ⟨_, _, e, h1, _, _⟩ := P6.out; injection e with _ _ e3; rw [e3]; omega
          have hc6m : c6 ≤ 9223372036854775807 := by obtain ⟨_, _, e, _, h1, _⟩ := P6.out; injection e with _ _ e3; rw [e3]; unfold maxLen at h1; omega
          have hc6p : (P1.length : Int) ≤ c6 := by omega
          have HCUT : Hid (PolsIn w6 (.slice a6 P1.length c6) P1) := by
            have := P6.out.cut HLE.out
            rw [← HTK.out] at this
            exact this
          have PA6 := Lib.hid (PA.out.below B6.out)
          cases a6
          all_goals
            go_wp2_with (first
              | (go_at_call 26; refine (says_any m w8 HM8.out).mono ?_; rintro e w9 ⟨rfl, b9⟩; have B9 := Lib.hid b9; clear b9)
              | (go_at_call 32; refine (HAL.out w7 _ _ ?hA ?hB).mono ?_; (case hA => exact HCUT.out.below B7.out); (case hB => exact PA6.out.below B7.out); rintro e w8 ⟨rfl, b8⟩; have HM8 := Lib.hid (HM7.out.below b8); have B8 := Lib.hid b8; clear b8)
              | (go_at_call 35; refine (C3.out _ _ ?hB (hdr_lit w6 _ mv)).mono ?_; (case hB => exact BW6.out.trans (((Below.refl _ w6).alloc (Nat.le_refl _) _).mono BW6.out.size)); rintro e w7 ⟨⟨a7, c7, rfl⟩, b7⟩; have B7 : Hid (Below w6.heap.size w6 w7) := ((Below.refl _ w6).alloc (Nat.le_refl _) _).trans (b7.mono (by simp)); have HM7 := Lib.hid (HM6.out.below B7.out); clear b7))
            go_ret
            exact ⟨by exact rfl, HB1.out.trans ((BW6.out.trans ((B7.out.trans (B8.out.mono B7.out.size)).mono BW6.out.size |>.trans (B9.out.mono (Nat.le_trans BW6.out.size (Nat.le_trans B7.out.size B8.out.size))))).mono HB1.out.size)⟩
end Go.Proofs.YtgaeecphohlmpaaDoor
