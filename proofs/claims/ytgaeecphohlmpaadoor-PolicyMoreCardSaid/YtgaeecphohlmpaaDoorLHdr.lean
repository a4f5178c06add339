/- The law PolicyHeaders. -/
import Derived.Test.YtgaeecphohlmpaaDoorHdr3
import Derived.Test.YtgaeecphohlmpaaDoorAll24
import Derived.Test.YtgaeecphohlmpaaDoorSay
import Derived.Test.YtgaeecphohlmpaaDoorArgs3
import Derived.Deep.Cut
set_option linter.unusedVariables false
namespace Go.Proofs.YtgaeecphohlmpaaDoor
open Go.RowKit

section
open Go.ChangeShapes Go.WideShapes Go.ChangeAt Go.Deep
theorem hdrs_of_trod {H : Type} {enc : TypeId × Value → H} {W : World} {v : Value} {fuel : Nat} {x : DataW H × List MemPlace} (h : DataW.trod enc Tryd.prog W 0 (fun _ => true) true fuel 50 [v] = some x) :
    ∃ hs : List HdrT, HdrsIn W v hs := by
  rcases open_slice_pairs Tryd.underlying50 Tryd.underlying52 (by kernel_rfl) rfl rfl (by kernel_rfl) (by kernel_rfl) h with ⟨hcs, hx⟩ | ⟨a, len, cap, m, n, V0, V1, D0, D1, P0, P1, hcs, _, hl, hm, hmm, hx, hcell⟩
  · simp only [List.cons.injEq, and_true] at hcs
    subst hcs
    exact ⟨[], none, 0, rfl, Nat.le_refl _, by unfold maxLen; omega, fun hne => absurd rfl hne⟩
  · simp only [List.cons.injEq, and_true] at hcs
    subst hcs
    have hlm : len ≤ m := by rw [hmm]; split <;> omega
    have each : ∀ i, i < len → ∃ d : HdrT, W.cell? (a.add (i * 2)) = some (.string ⟨d.1.toArray⟩) ∧ W.cell? (a.add (i * 2 + 1)) = some (.string ⟨d.2.toArray⟩) := by
      intro i hi
      obtain ⟨c0, c1, t0, t1⟩ := hcell i (by omega)
      obtain ⟨s, hs, _, _⟩ := DataW.trod_string Tryd.underlying9 t0
      obtain ⟨s2, hs2, _, _⟩ := DataW.trod_string Tryd.underlying9 t1
      simp only [List.cons.injEq, and_true] at hs hs2
      exact ⟨(s.data.toList, s2.data.toList), by rw [c0, hs], by rw [c1, hs2]⟩
    obtain ⟨f, hf⟩ := choose_lt each
    refine ⟨(List.range len).map f, ?_⟩
    have hlen : ((List.range len).map f).length = len := by simp
    refine ⟨some a, cap, by rw [hlen], by rw [hlen]; exact hl, hm, fun hne => ?_⟩
    have hpos : 0 < len := by
      rcases Nat.eq_zero_or_pos len with h0 | h0
      · subst h0; simp at hne
      · exact h0
    have h0 := (hf 0 hpos).1
    rw [Nat.zero_mul] at h0
    obtain ⟨_, hadd⟩ := add_plain h0
    refine ⟨a.block, a.off, ?_, ?_, fun i hi => ?_⟩
    · have := World.cell?_spot h0
      obtain ⟨b, off, spot⟩ := a
      have hspot : spot = none := by simpa [Addr.add] using this
      subst hspot
      rfl
    · have := World.block_lt_of_cell? W _ h0
      rw [hadd 0] at this
      exact this
    · have hi2 : i < len := by rw [hlen] at hi; exact hi
      obtain ⟨c0, c1⟩ := hf i hi2
      rw [hadd] at c0 c1
      have he : ((List.range len).map f)[i] = f i := by simp
      rw [he]
      exact ⟨c0, c1⟩
theorem hdrs_in {H : Type} {enc : TypeId × Value → H} {W : World} {v : Value} {d : DataW H} {p : List MemPlace} {base : Nat}
    (hv : Value.okWide Tryd.prog W .any base 50 v) (h : DataW.Trod enc Tryd.prog W 0 (fun _ => true) true 50 v d p) : ∃ hs : List HdrT, HdrsIn W v hs := by
  obtain ⟨a0, len, cap, rfl⟩ := okWide_slice Tryd.underlying50 hv
  obtain ⟨fuel, hf⟩ := h
  have hf' : DataW.trod enc Tryd.prog W 0 (fun _ => true) true fuel 50 [.slice a0 len cap] = some (d, p) := hf
  exact hdrs_of_trod hf'
end

set_option maxHeartbeats 6400000 in
set_option maxRecDepth 100000 in
theorem policyHeaders_law (v : Value) (hs : List HdrT) (m : Int) (w : World) (hh : HdrsIn w v hs) (hm : MaxOk m w) :
    Calls Tryd.prog 9 #[v] w fun e w' => e = .returned (.bool true) ∧ Below w.heap.size w w' := by
  obtain ⟨ao, cap, rfl⟩ := hh.shape
  by_cases h20 : 20 < hs.length
  · have h20i : (20 : Int) < hs.length := by omega
    go_enter Tryd.func9, Tryd.ntmps9
    go_wp2_with (go_at_call 26; refine (says_any m w hm).mono ?_; rintro e w1 ⟨rfl, b1⟩)
    go_ret
    exact ⟨by exact rfl, b1⟩
  have h20i : ¬ (20 : Int) < hs.length := by omega
  have HM := Lib.hid hm
  have HH := Lib.hid hh
  clear hm
  go_enter Tryd.func9, Tryd.ntmps9
  go_wp2_with fail
  go_loopw [3] (fun i wr => ∃ k : Nat, k ≤ hs.length ∧ i = .int .i64 k ∧ Hid (∀ (c : Nat) (x : HdrT), c < k → hs[c]? = some x → x.1.length ≤ 60 ∧ x.2.length ≤ 5000) ∧ wr = w) (fun i _ => hs.length - (intOf i).toNat)
  case atStart => exact ⟨0, Nat.zero_le _, rfl, (by intro c x h; omega), rfl⟩
  case round =>
    obtain ⟨k, hk, rfl, hno, rfl⟩ := hrel
    by_cases hlt : k < hs.length
    · have hki : (k : Int) < hs.length := by omega
      obtain ⟨b, off, cap2, e1, hbl, x0, x1⟩ := hh.at hlt
      injection e1 with f1 _ f3
      subst f1 f3
      obtain ⟨hd, hhd⟩ : ∃ hd, hs[k] = hd := ⟨_, rfl⟩
      have HDK : Hid (hs[k]? = some hd) := by show _ = _; rw [← hhd]; exact List.getElem?_eq_getElem hlt
      rw [hhd] at x0 x1
      clear hhd
      obtain ⟨nn, hnn⟩ : ∃ nn : ByteArray, (⟨hd.1.toArray⟩ : ByteArray) = nn := ⟨_, rfl⟩
      have HNZ : Hid (nn.size = hd.1.length) := by show nn.size = _; rw [← hnn]; show hd.1.toArray.size = _; simp
      rw [hnn] at x0
      obtain ⟨vv, hvv⟩ : ∃ vv : ByteArray, (⟨hd.2.toArray⟩ : ByteArray) = vv := ⟨_, rfl⟩
      have HVZ : Hid (vv.size = hd.2.length) := by show vv.size = _; rw [← hvv]; show hd.2.toArray.size = _; simp
      rw [hvv] at x1
      clear hnn hvv
      by_cases h60 : 60 < nn.size
      · have h60i : (60 : Int) < nn.size := by omega
        go_wp2_with (go_at_call 26; refine (says_any m _ HM.out).mono ?_; rintro e w1 ⟨rfl, b1⟩)
        go_ret
        exact ⟨by exact rfl, b1⟩
      have h60i : ¬ (60 : Int) < nn.size := by omega
      by_cases h50 : 5000 < vv.size
      · have h50i : (5000 : Int) < vv.size := by omega
        go_wp2_with (go_at_call 26; refine (says_any m _ HM.out).mono ?_; rintro e w1 ⟨rfl, b1⟩)
        go_ret
        exact ⟨by exact rfl, b1⟩
      have h50i : ¬ (5000 : Int) < vv.size := by omega
      have hno2 : Hid (∀ (c : Nat) (x : HdrT), c < k + 1 → hs[c]? = some x → x.1.length ≤ 60 ∧ x.2.length ≤ 5000) := by
        intro c x hc hx
        by_cases e : c = k
        · subst e
          rw [HDK.out] at hx
          injection hx with hx
          rw [← hx, ← HNZ.out, ← HVZ.out]
          exact ⟨by omega, by omega⟩
        · exact hno.out c x (by omega) hx
      go_wp2_with fail
      go_roundw
      case rel => exact ⟨k + 1, by omega, by go_num, hno2.out, by first | rfl | trivial⟩
      case measure => simp [intOf]; omega
    · have hbd : ∀ h ∈ hs, h.1.length ≤ 100 ∧ h.2.length ≤ 5000 := fun h hx => by
        obtain ⟨c, hc⟩ := List.getElem?_of_mem hx
        have := hno.out c h (by have := (List.getElem?_eq_some_iff.1 hc).1; omega) hc
        exact ⟨by omega, this.2⟩
      have H1 := Lib.hid (phead_any _ hs m wr HH.out (by omega) hbd HM.out)
      have H2 := Lib.hid (fun W (h : Below wr.heap.size wr W) => rhead_any _ hs W (HH.out.below h) (by omega) hbd)
      obtain ⟨Q, hQ⟩ : ∃ Q, (headR hs).getD [] = Q := ⟨_, rfl⟩
      obtain ⟨er, her⟩ : ∃ er : Int, (if (headR hs).isSome then 0 else 3 : Int) = er := ⟨_, rfl⟩
      have H1 : Hid (Calls Tryd.prog 35 #[.slice ao hs.length cap] wr fun e w' => (∃ a c, e = .returned (.tuple #[.slice a Q.length c, .int .i64 er]) ∧ PolsIn w' (.slice a Q.length c) Q) ∧ Below wr.heap.size wr w') := by
        refine H1.out.mono ?_
        rintro e w' ⟨⟨v, rfl, P⟩, b⟩
        rw [hQ] at P
        obtain ⟨a, c, rfl⟩ := P.shape
        exact ⟨⟨a, c, by rw [her], P⟩, b⟩
      have H2 : Hid (∀ W, Below wr.heap.size wr W → Calls Tryd.prog 36 #[.slice ao hs.length cap] W fun e w' => (∃ a c, e = .returned (.tuple #[.slice a Q.length c, .int .i64 er]) ∧ PolsIn w' (.slice a Q.length c) Q) ∧ Below W.heap.size W w') := by
        intro W hW
        refine (H2.out W hW).mono ?_
        rintro e w' ⟨⟨v, rfl, P⟩, b⟩
        rw [hQ] at P
        obtain ⟨a, c, rfl⟩ := P.shape
        exact ⟨⟨a, c, by rw [her], P⟩, b⟩
      have HAL := Lib.hid (fun W v v' (h : PolsIn W v Q) (h' : PolsIn W v' Q) => all_is v v' Q W h h')
      have heq : (er == er) = true := by simp
      clear hbd hQ her hno
      go_wp2_with (first
        | (go_at_call 26; refine (says_any m w4 ?hM).mono ?_; (case hM => exact HM.out.below (B3.out.trans (C4.out.mono B3.out.size))); rintro e w5 ⟨rfl, b5⟩; have B5 := Lib.hid b5; clear b5)
        | (go_at_call 32; refine (HAL.out w3 _ _ ?hA ?hB).mono ?_; (case hA => exact P2.out.below C3.out); (case hB => exact P3.out); rintro e w4 ⟨rfl, b4⟩; have C4 := Lib.hid b4; clear b4)
        | (go_at_call 36; refine (H2.out w2 ?hB).mono ?_; (case hB => exact B2.out); rintro e w3 ⟨⟨a3, c3, rfl, p3⟩, b3⟩; have P3 := Lib.hid p3; have C3 := Lib.hid b3; have B3 : Hid (Below wr.heap.size wr w3) := B2.out.trans (b3.mono B2.out.size); clear p3 b3)
        | (go_at_call 35; refine H1.out.mono ?_; rintro e w2 ⟨⟨a2, c2, rfl, p2⟩, b2⟩; have P2 := Lib.hid p2; have B2 := Lib.hid b2; clear p2 b2))
      go_ret
      exact ⟨by exact rfl, B3.out.trans ((C4.out.trans (B5.out.mono C4.out.size)).mono B3.out.size)⟩
end Go.Proofs.YtgaeecphohlmpaaDoor
