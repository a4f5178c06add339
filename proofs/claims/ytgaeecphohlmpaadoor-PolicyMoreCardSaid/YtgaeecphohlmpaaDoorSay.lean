/- lazaretlaw24.says: the chapter's policies. -/
import Derived.Test.YtgaeecphohlmpaaDoorMet
import Derived.Test.YtgaeecphohlmpaaDoorLst
import Derived.Deep.Cut
set_option linter.unusedVariables false
namespace Go.Proofs.YtgaeecphohlmpaaDoor
open Go.RowKit

def sayL1 : List Dir := [([105, 109, 103, 45, 115, 114, 99], [[97], [98]]), ([115, 99, 114, 105, 112, 116, 45, 115, 114, 99], [])]
def sayS1 : ByteArray := ⟨#[73, 109, 103, 45, 83, 114, 99, 32, 97, 32, 32, 98, 59, 32, 59, 115, 99, 114, 105, 112, 116, 45, 115, 114, 99, 59, 105, 109, 103, 45, 115, 114, 99, 32, 99]⟩
def sayS2 : ByteArray := ⟨#[97, 32, 98, 44, 32, 59, 44, 99]⟩
def sayS3 : ByteArray := ⟨#[115, 97, 110, 100, 98, 111, 120, 59, 32, 97, 44, 32, 98]⟩
def sayS4 : ByteArray := ⟨#[114, 101, 112, 111, 114, 116, 45, 117, 114, 105, 32, 120]⟩
theorem say1 : oneL sayS1.data.toList = sayL1 := by decide +kernel
theorem say2 : listL sayS2.data.toList true = [([([97], [[98]])], true), ([([99], [])], true)] := by decide +kernel
theorem say3 : metaL (oneL sayS3.data.toList) = [([97, 44], [[98]])] := by decide +kernel
theorem say4 : metaL (oneL sayS4.data.toList) = [] := by decide +kernel
theorem say5 : textL sayL1 = [105, 109, 103, 45, 115, 114, 99, 32, 97, 32, 98, 59, 32, 115, 99, 114, 105, 112, 116, 45, 115, 114, 99] := by decide +kernel
theorem say6 : Bnd sayL1 := by
  refine ⟨by decide, ?_⟩
  intro d hd
  simp only [sayL1, List.mem_cons, List.not_mem_nil, or_false] at hd
  rcases hd with rfl | rfl
  · exact ⟨by decide, by decide, by intro v hv; simp at hv; rcases hv with rfl | rfl <;> decide⟩
  · exact ⟨by decide, by decide, by intro v hv; simp at hv⟩

/-- A row of two directives of one's own. -/
theorem row_dirs2 {w : World} {B : Nat} {v : Value} {cs : List Value} {d0 d1 : Dir} (h : w.ownsRow B 33 2 v [d0, d1].length cs) (hc : DirC w cs [d0, d1]) :
    ∃ g cap sv0 sv1, v = .slice (some ⟨g, 0, none⟩) 2 cap ∧ g < w.heap.size ∧ w.cell? ⟨g, 0, none⟩ = some (.string ⟨d0.1.toArray⟩) ∧ w.cell? ⟨g, 1, none⟩ = some sv0 ∧ w.cell? ⟨g, 2, none⟩ = some (.string ⟨d1.1.toArray⟩) ∧ w.cell? ⟨g, 3, none⟩ = some sv1 ∧ SliceIn w sv0 (strCells d0.2) ∧ SliceIn w sv1 (strCells d1.2) := by
  match cs, hc with
  | n0 :: s0 :: n1 :: s1 :: cs', hc =>
    rcases h.2 with ⟨_, h0⟩ | ⟨g, cap, cur, rfl, hg, hh, hle, hcm, hcs, htake⟩
    · cases h0
    · have hadd : ∀ j, (⟨g, 0, none⟩ : Addr).add j = ⟨g, 0 + j, none⟩ := by intro j; unfold Addr.add; split <;> simp_all
      have r0 := h.cells (g := g) rfl 0 _ rfl
      have r1 := h.cells (g := g) rfl 1 _ rfl
      have r2 := h.cells (g := g) rfl 2 _ rfl
      have r3 := h.cells (g := g) rfl 3 _ rfl
      rw [hadd] at r0 r1 r2 r3
      obtain ⟨e0, v0, e1, v1, _⟩ := hc
      subst e0 e1
      exact ⟨g, cap, s0, s1, rfl, (Array.getElem?_eq_some_iff.1 hh).1, r0, r1, r2, r3, vals_slice v0, vals_slice v1⟩
theorem row_pols2 {w : World} {B : Nat} {v : Value} {cs : List Value} {p0 p1 : Pol} (h : w.ownsRow B 30 2 v [p0, p1].length cs) (hc : PolC w cs [p0, p1]) :
    ∃ g cap lv1, v = .slice (some ⟨g, 0, none⟩) 2 cap ∧ g < w.heap.size ∧ w.cell? ⟨g, 1, none⟩ = some (.bool p0.2) ∧ w.cell? ⟨g, 2, none⟩ = some lv1 ∧ DirsIn w lv1 p1.1 := by
  match cs, hc with
  | n0 :: s0 :: n1 :: s1 :: cs', hc =>
    rcases h.2 with ⟨_, h0⟩ | ⟨g, cap, cur, rfl, hg, hh, hle, hcm, hcs, htake⟩
    · cases h0
    · have hadd : ∀ j, (⟨g, 0, none⟩ : Addr).add j = ⟨g, 0 + j, none⟩ := by intro j; unfold Addr.add; split <;> simp_all
      have r1 := h.cells (g := g) rfl 1 _ rfl
      have r2 := h.cells (g := g) rfl 2 _ rfl
      rw [hadd] at r1 r2
      obtain ⟨e0, v0, e1, v1, _⟩ := hc
      subst e0
      exact ⟨g, cap, n1, rfl, (Array.getElem?_eq_some_iff.1 hh).1, r1, r2, v1.dirs⟩
theorem DirsIn.one {w : World} {lv : Value} {d : Dir} (h : DirsIn w lv [d]) : ∃ b off cap, lv = .slice (some ⟨b, off, none⟩) 1 cap ∧ b < w.heap.size ∧ w.cell? ⟨b, off, none⟩ = some (.string ⟨d.1.toArray⟩) := by
  obtain ⟨b, off, cap, sv, h1, h2, h3, _⟩ := h.at (i := 0) (by simp)
  exact ⟨b, off, cap, h1, h2, h3⟩

set_option maxHeartbeats 3200000 in
set_option maxRecDepth 100000 in
theorem says_any (m : Int) (w : World) (hm : MaxOk m w) : Calls Tryd.prog 26 #[] w fun e w' => e = .returned (.bool true) ∧ Below w.heap.size w w' := by
  have H1 := Lib.hid (fun W (h : MaxOk m W) => pone_any sayS1 m W (by decide) h)
  have H2 := Lib.hid (fun W (h : MaxOk m W) => plist_any sayS2 true m W (by decide) h)
  have H3 := Lib.hid (fun W (h : MaxOk m W) => pmeta_any sayS3 m W (by decide) h)
  have H4 := Lib.hid (fun W (h : MaxOk m W) => pmeta_any sayS4 m W (by decide) h)
  rw [say1] at H1
  rw [say2] at H2
  rw [say3] at H3
  rw [say4] at H4
  unfold sayS1 at H1
  unfold sayS2 at H2
  unfold sayS3 at H3
  unfold sayS4 at H4
  have HM := Lib.hid hm
  clear hm
  go_enter Tryd.func26, Tryd.ntmps26
  go_upto_region 2 with (go_at_call 30; refine (H1.out w HM.out).mono ?_; rintro e w1 ⟨⟨v1, cs1, rfl, o1, c1⟩, b1⟩)
  have HD1 := Lib.hid (dirs_in o1 c1)
  obtain ⟨g1, cap1, sv0, sv1, rfl, hg1, a0, a1, a2, a3, S0, S1⟩ := row_dirs2 o1 c1
  have B1 := Lib.hid b1
  have HM1 := Lib.hid (HM.out.below b1)
  clear o1 c1 b1
  go_upto_region 3 with (go_at_call 33; refine (H2.out w1 HM1.out).mono ?_; rintro e w2 ⟨⟨v2, cs2, rfl, o2, c2⟩, b2⟩)
  obtain ⟨g2, cap2, lv1, rfl, hg2, p1, p2, PD⟩ := row_pols2 o2 c2
  have B2 := Lib.hid b2
  have HM2 := Lib.hid (HM1.out.below b2)
  clear o2 c2 b2
  go_upto_region 4 with (go_at_call 27; refine (H3.out w2 HM2.out).mono ?_; rintro e w3 ⟨⟨lv3, rfl, D3⟩, b3⟩; obtain ⟨g3, off3, cap3, rfl, hg3, n3⟩ := DirsIn.one D3)
  obtain ⟨W4, hW4⟩ : ∃ W4, W4 = w3.alloc (.cells #[.slice (some ⟨g3, off3, none⟩) 1 cap3, .bool false] 30) := ⟨_, rfl⟩
  have hb4 : Below w3.heap.size w3 W4 := by rw [hW4]; exact (Below.refl _ w3).alloc (Nat.le_refl _) _
  have c0 : W4.cell? ⟨w3.heap.size, 0, none⟩ = some (.slice (some ⟨g3, off3, none⟩) 1 cap3) := by rw [hW4, Lib.cell_of_heap (heap_alloc_new w3 _)]; rfl
  have hlt4 : w3.heap.size < W4.heap.size := by rw [hW4]; simp
  rw [← hW4]
  have HM4 := Lib.hid ((HM2.out.below b3).below hb4)
  have B34 : Hid (Below w2.heap.size w2 W4) := b3.trans (hb4.mono b3.size)
  have N3 := Lib.hid ((hb4.cell (p := ⟨g3, off3, none⟩) hg3).trans n3)
  have HG3 := Lib.hid (Nat.lt_of_lt_of_le hg3 hb4.size)
  have C0 := Lib.hid c0
  have HLT4 := Lib.hid hlt4
  clear hW4 hb4 c0 n3 b3 D3 hlt4 hg3
  go_upto_region 5 with (go_at_call 27; refine (H4.out W4 HM4.out).mono ?_; rintro e w5 ⟨⟨lv5, rfl, D5⟩, b5⟩; obtain ⟨ao5, cap5, rfl⟩ := D5.shape)
  obtain ⟨W6, hW6⟩ : ∃ W6, W6 = w5.alloc (.cells #[.slice ao5 0 cap5, .bool false] 30) := ⟨_, rfl⟩
  have hb6 : Below w5.heap.size w5 W6 := by rw [hW6]; exact (Below.refl _ w5).alloc (Nat.le_refl _) _
  have BX4 : Below W4.heap.size W4 W6 := b5.trans (hb6.mono b5.size)
  have BX2 : Below w2.heap.size w2 W6 := B34.out.trans (BX4.mono B34.out.size)
  have BX1 : Below w1.heap.size w1 W6 := B2.out.trans (BX2.mono B2.out.size)
  have BX0 : Hid (Below w.heap.size w W6) := B1.out.trans (BX1.mono B1.out.size)
  obtain ⟨gp, offp, capp, rfl, hgp, np⟩ := DirsIn.one PD
  rw [← hW6]
  obtain ⟨W7, hW7⟩ : ∃ W7, W7 = W6.alloc (.cells #[.string ⟨#[97]⟩, .string ⟨#[98]⟩] 9) := ⟨_, rfl⟩
  have hb7 : Below W6.heap.size W6 W7 := by rw [hW7]; exact (Below.refl _ W6).alloc (Nat.le_refl _) _
  have BY1 : Below w1.heap.size w1 W7 := BX1.trans (hb7.mono BX1.size)
  have BY2 : Below w2.heap.size w2 W7 := BX2.trans (hb7.mono BX2.size)
  have BY4 : Below W4.heap.size W4 W7 := BX4.trans (hb7.mono BX4.size)
  have x0 : W6.cell? ⟨g1, 0, none⟩ = some (.string ⟨#[105, 109, 103, 45, 115, 114, 99]⟩) := (BX1.cell (p := ⟨g1, 0, none⟩) hg1).trans a0
  have x1 : W6.cell? ⟨g1, 1, none⟩ = some sv0 := (BX1.cell (p := ⟨g1, 1, none⟩) hg1).trans a1
  have LG1 := Lib.hid (Nat.lt_of_lt_of_le hg1 BY1.size)
  have LG2 := Lib.hid (Nat.lt_of_lt_of_le hg2 BY2.size)
  have LGP := Lib.hid (Nat.lt_of_lt_of_le hgp BY2.size)
  have LG3 := Lib.hid (Nat.lt_of_lt_of_le HG3.out BY4.size)
  have LGQ := Lib.hid (Nat.lt_of_lt_of_le HLT4.out BY4.size)
  have X2 : Hid (W7.cell? ⟨g1, 2, none⟩ = some (.string ⟨#[115, 99, 114, 105, 112, 116, 45, 115, 114, 99]⟩)) := (BY1.cell (p := ⟨g1, 2, none⟩) hg1).trans a2
  have X3 : Hid (W7.cell? ⟨g1, 3, none⟩ = some sv1) := (BY1.cell (p := ⟨g1, 3, none⟩) hg1).trans a3
  have M1 : Hid (W7.cell? ⟨g2, 1, none⟩ = some (.bool true)) := (BY2.cell (p := ⟨g2, 1, none⟩) hg2).trans p1
  have M2 : Hid (W7.cell? ⟨g2, 2, none⟩ = some (.slice (some ⟨gp, offp, none⟩) 1 capp)) := (BY2.cell (p := ⟨g2, 2, none⟩) hg2).trans p2
  have M3 : Hid (W7.cell? ⟨gp, offp, none⟩ = some (.string ⟨#[99]⟩)) := (BY2.cell (p := ⟨gp, offp, none⟩) hgp).trans np
  have Q0 : Hid (W7.cell? ⟨w3.heap.size, 0, none⟩ = some (.slice (some ⟨g3, off3, none⟩) 1 cap3)) := (BY4.cell (p := ⟨w3.heap.size, 0, none⟩) HLT4.out).trans C0.out
  have Q1 : Hid (W7.cell? ⟨g3, off3, none⟩ = some (.string ⟨#[97, 44]⟩)) := (BY4.cell (p := ⟨g3, off3, none⟩) HG3.out).trans N3.out
  have HL1 := Lib.hid (HD1.out.below BY1)
  have HS1 := Lib.hid (S1.below BY1)
  have HDA : Hid (Calls Tryd.prog 24 #[.agg #[.string ⟨#[105, 109, 103, 45, 115, 114, 99]⟩, sv0], .agg #[.string ⟨#[105, 109, 103, 45, 115, 114, 99]⟩, .slice (some ⟨W6.heap.size, 0, none⟩) 2 2]] W7 fun e w' => e = .returned (.bool true) ∧ Below W7.heap.size W7 w') := by
    have hl := owns_slice (lit_owns W6 [[97], [98]] (by simp)) (strCells_len _)
    have e1 : (strCells [[97], [98]]).toArray = #[.string ⟨#[97]⟩, .string ⟨#[98]⟩] := rfl
    rw [e1, ← hW7] at hl
    refine (directive_any sv0 _ ([105, 109, 103, 45, 115, 114, 99], [[97], [98]]) ([105, 109, 103, 45, 115, 114, 99], [[97], [98]]) W7 (S0.below BY1) hl).mono ?_
    rintro e w' ⟨rfl, b⟩
    exact ⟨by rw [beq_self_eq_true], b⟩
  have HDB : Hid (∀ W, SliceIn W sv1 (strCells []) → Calls Tryd.prog 24 #[.agg #[.string ⟨#[115, 99, 114, 105, 112, 116, 45, 115, 114, 99]⟩, sv1], .agg #[.string ⟨#[115, 99, 114, 105, 112, 116, 45, 115, 114, 99]⟩, .slice none 0 0]] W fun e w' => e = .returned (.bool true) ∧ Below W.heap.size W w') := by
    intro W h
    refine (directive_any sv1 _ ([115, 99, 114, 105, 112, 116, 45, 115, 114, 99], []) ([115, 99, 114, 105, 112, 116, 45, 115, 114, 99], []) W h (nil_in W)).mono ?_
    rintro e w' ⟨rfl, b⟩
    exact ⟨by rw [beq_self_eq_true], b⟩
  have HTX : Hid (∀ W, DirsIn W (.slice (some ⟨g1, 0, none⟩) 2 cap1) sayL1 → Calls Tryd.prog 39 #[.agg #[.slice (some ⟨g1, 0, none⟩) 2 cap1, .bool false]] W fun e w' => e = .returned (.string ⟨#[105, 109, 103, 45, 115, 114, 99, 32, 97, 32, 98, 59, 32, 115, 99, 114, 105, 112, 116, 45, 115, 114, 99]⟩) ∧ Below W.heap.size W w') := by
    intro W h
    refine (ptext_any _ false sayL1 W h say6).mono ?_
    rintro e w' ⟨rfl, b⟩
    exact ⟨by rw [say5], b⟩
  have HB7 : Hid (Below w.heap.size w W7) := BX0.out.trans (hb7.mono BX0.out.size)
  have HW7 := Lib.hid hW7
  clear hW6 hb6 hW7 hb7 BX4 BX2 BX1 BY1 BY2 BY4 a0 a1 a2 a3 p1 p2 np hg1 hg2 hgp S0 S1 b5 D5 PD
  go_wp2_with (first
    | (go_at_call 39; refine (HTX.out w9 ?hA).mono ?_; (case hA => exact (HL1.out.below B8.out).below B9.out); rintro e w10 ⟨rfl, b10⟩; have B10 := Lib.hid b10; clear b10)
    | (go_at_call 24; refine (HDB.out w8 ?hA).mono ?_; (case hA => exact HS1.out.below B8.out); rintro e w9 ⟨rfl, b9⟩; have bb := B8.out.trans (b9.mono B8.out.size); have m1 : w9.cell? ⟨g2, 1, none⟩ = some (.bool true) := (bb.cell (p := ⟨g2, 1, none⟩) LG2.out).trans M1.out; have m2 : w9.cell? ⟨g2, 2, none⟩ = some (.slice (some ⟨gp, offp, none⟩) 1 capp) := (bb.cell (p := ⟨g2, 2, none⟩) LG2.out).trans M2.out; have m3 : w9.cell? ⟨gp, offp, none⟩ = some (.string ⟨#[99]⟩) := (bb.cell (p := ⟨gp, offp, none⟩) LGP.out).trans M3.out; have q0 : w9.cell? ⟨w3.heap.size, 0, none⟩ = some (.slice (some ⟨g3, off3, none⟩) 1 cap3) := (bb.cell (p := ⟨w3.heap.size, 0, none⟩) LGQ.out).trans Q0.out; have q1 : w9.cell? ⟨g3, off3, none⟩ = some (.string ⟨#[97, 44]⟩) := (bb.cell (p := ⟨g3, off3, none⟩) LG3.out).trans Q1.out; have B9 := Lib.hid b9; clear b9 bb)
    | (go_at_call 24; rw [← HW7.out]; refine HDA.out.mono ?_; rintro e w8 ⟨rfl, b8⟩; have x2 : w8.cell? ⟨g1, 2, none⟩ = some (.string ⟨#[115, 99, 114, 105, 112, 116, 45, 115, 114, 99]⟩) := (b8.cell (p := ⟨g1, 2, none⟩) LG1.out).trans X2.out; have x3 : w8.cell? ⟨g1, 3, none⟩ = some sv1 := (b8.cell (p := ⟨g1, 3, none⟩) LG1.out).trans X3.out; have B8 := Lib.hid b8; clear b8))
  go_ret
  exact ⟨by exact rfl, HB7.out.trans ((B8.out.trans ((B9.out.trans (B10.out.mono B9.out.size)).mono B8.out.size)).mono HB7.out.size)⟩
end Go.Proofs.YtgaeecphohlmpaaDoor
