/- lazaretlaw28.named and falls. -/
import Derived.Test.YtgaeecphohlmpaaDoorChf
set_option linter.unusedVariables false
namespace Go.Proofs.YtgaeecphohlmpaaDoor
open Go.RowKit

theorem vals_slice {w : World} {sv : Value} {vs : List (List UInt8)} (h : ValsIn w sv vs) : SliceIn w sv (strCells vs) := by
  obtain ⟨b, off, cap, cs, fr, h1, h2, h3, h4, h5⟩ := h
  refine ⟨_, cap, by rw [strCells_len]; exact h1, by rw [strCells_len]; exact h2, h3, fun _ => ⟨b, off, rfl, (Array.getElem?_eq_some_iff.1 h4).1, fun i hi => ?_⟩⟩
  rw [Lib.cell_of_heap h4]
  exact h5 i _ (List.getElem?_eq_getElem hi)
theorem dirC_at {w : World} : ∀ {cs : List Value} {ds : List Dir}, DirC w cs ds → ∀ i (h : i < ds.length), cs[i * 2]? = some (.string ⟨ds[i].1.toArray⟩) ∧ ∃ sv, cs[i * 2 + 1]? = some sv ∧ SliceIn w sv (strCells ds[i].2)
  | [], [], _, i, h => by simp at h
  | [], _ :: _, h, _, _ => by cases h
  | [_], [], h, _, _ => by cases h
  | [_], _ :: _, h, _, _ => by cases h
  | _ :: _ :: _, [], h, _, _ => by cases h
  | a :: b :: cs, d :: ds, h, 0, _ => ⟨by simp [h.1], b, by simp, vals_slice h.2.1⟩
  | a :: b :: cs, d :: ds, h, i + 1, hi => by
    have := dirC_at h.2.2 i (by simpa using hi)
    have e1 : (i + 1) * 2 = i * 2 + 2 := by omega
    rw [e1]
    simpa using this
theorem dirC_len {w : World} : ∀ {cs : List Value} {ds : List Dir}, DirC w cs ds → cs.length = ds.length * 2
  | [], [], _ => rfl
  | [], _ :: _, h => by cases h
  | [_], [], h => by cases h
  | [_], _ :: _, h => by cases h
  | _ :: _ :: _, [], h => by cases h
  | a :: b :: cs, d :: ds, h => by
    have := dirC_len h.2.2
    simp only [List.length_cons, this]
    omega
theorem dirs_in {w : World} {B : Nat} {v : Value} {ds : List Dir} {cs : List Value} (h : w.ownsRow B 33 2 v ds.length cs) (hc : DirC w cs ds) : DirsIn w v ds := by
  rcases h.2 with ⟨rfl, h0⟩ | ⟨g, cap, cur, rfl, hg, hh, hle, hcm, hcs, htake⟩
  · exact ⟨none, 0, by rw [h0], by omega, by unfold maxLen; omega, fun hne => absurd (List.length_eq_zero_iff.1 h0) hne⟩
  · refine ⟨_, cap, rfl, hle, hcm, fun hne => ⟨g, 0, rfl, (Array.getElem?_eq_some_iff.1 hh).1, fun i hi => ?_⟩⟩
    obtain ⟨c1, sv, c2, c3⟩ := dirC_at hc i hi
    have hadd : ∀ j, (⟨g, 0, none⟩ : Addr).add j = ⟨g, 0 + j, none⟩ := by intro j; unfold Addr.add; split <;> simp_all
    have r1 := h.cells (g := g) rfl _ _ c1
    have r2 := h.cells (g := g) rfl _ _ c2
    rw [hadd] at r1 r2
    exact ⟨r1, sv, r2, c3⟩

theorem addD_vals {acc : List Dir} {p : List UInt8} {N : Nat} (h : ∀ d ∈ acc, d.2.length ≤ N) (hp : p.length + 1 ≤ N) : ∀ d ∈ addD acc p, d.2.length ≤ N := by
  have := fieldsL_len p
  unfold addD
  split
  · exact h
  · rename_i x ws e
    rw [e] at this
    simp at this
    split
    · exact h
    · intro d hd
      simp only [List.mem_append, List.mem_cons, List.not_mem_nil, or_false] at hd
      rcases hd with hd | rfl
      · exact h d hd
      · show ws.length ≤ N; omega
theorem foldD_vals {N : Nat} : ∀ (ps : List (List UInt8)) (acc : List Dir), (∀ d ∈ acc, d.2.length ≤ N) → (∀ p ∈ ps, p.length + 1 ≤ N) → ∀ d ∈ ps.foldl addD acc, d.2.length ≤ N
  | [], acc, h, _ => h
  | p :: ps, acc, h, hp => foldD_vals ps (addD acc p) (addD_vals h (hp p (by simp))) fun q hq => hp q (by simp [hq])
theorem foldD_len : ∀ (ps : List (List UInt8)) (acc : List Dir), (ps.foldl addD acc).length ≤ acc.length + ps.length
  | [], acc => by simp
  | p :: ps, acc => by
    have h1 := foldD_len ps (addD acc p)
    have h2 := addD_len acc p
    simp only [List.foldl_cons, List.length_cons]
    omega
theorem oneL_len (s : List UInt8) : (oneL s).length ≤ s.length + 1 := by
  have h1 := foldD_len (spl 59 s) []
  have h2 := spl_len 59 s
  unfold oneL
  simp at h1
  omega
theorem oneL_vals (s : List UInt8) : ∀ d ∈ oneL s, d.2.length ≤ s.length + 1 :=
  foldD_vals _ _ (by simp) fun p hp => by have := spl_mem hp; omega

/-- The name of the directive that counts. -/
def namedL (s : List UInt8) (k : Int) : List UInt8 := ((cfL (oneL s) k).getD ([], [])).1

set_option maxHeartbeats 3200000 in
theorem named_any (s : ByteArray) (k m : Int) (w : World) (hs : s.size ≤ 1073741824) (hm : MaxOk m w) (hT : ETab w) :
    Calls Tryd.prog 25 #[.string s, .int .i64 k] w fun e w' => e = .returned (.string ⟨(namedL s.data.toList k).toArray⟩) ∧ Below w.heap.size w w' := by
  have hl : Hid ((oneL s.data.toList).length ≤ 1099511627776) := by
    show _ ≤ _
    have := oneL_len s.data.toList
    have h2 : s.data.toList.length = s.size := by simp
    omega
  have hv : Hid (∀ d ∈ oneL s.data.toList, d.2.length ≤ 1099511627776) := by
    show ∀ d ∈ oneL s.data.toList, d.2.length ≤ 1099511627776
    intro d hd
    have := oneL_vals s.data.toList d hd
    have h2 : s.data.toList.length = s.size := by simp
    omega
  go_enter Tryd.func25, Tryd.ntmps25
  go_wp2_with fail
  refine (pone_any s m _ hs hm).mono ?_
  rintro e w1 ⟨⟨v, cs, rfl, o1, c1⟩, b1⟩
  have hd := dirs_in o1 c1
  obtain ⟨va, vc, rfl⟩ := owns_shape o1
  have hT1 := hT.below b1
  go_wp2_with fail
  refine (cfind_any _ false (oneL s.data.toList) k _ hd hT1 hl.out hv.out).mono ?_
  rintro e w2 ⟨⟨sv, rfl, o2⟩, b2⟩
  obtain ⟨sa, sc, rfl⟩ := owns_shape o2
  go_wp2_with fail
  go_ret
  exact ⟨rfl, (b1.trans (b2.mono b1.size)).alloc (Nat.le_trans b1.size b2.size) _⟩

theorem fl0 : Hid (namedL (⟨#[100, 101, 102, 97, 117, 108, 116, 45, 115, 114, 99, 32, 97, 59, 32, 115, 99, 114, 105, 112, 116, 45, 115, 114, 99, 32, 98]⟩ : ByteArray).data.toList 2 = [115, 99, 114, 105, 112, 116, 45, 115, 114, 99]) := by show namedL (⟨#[100, 101, 102, 97, 117, 108, 116, 45, 115, 114, 99, 32, 97, 59, 32, 115, 99, 114, 105, 112, 116, 45, 115, 114, 99, 32, 98]⟩ : ByteArray).data.toList 2 = [115, 99, 114, 105, 112, 116, 45, 115, 114, 99]; decide +kernel
theorem fl1 : Hid (namedL (⟨#[100, 101, 102, 97, 117, 108, 116, 45, 115, 114, 99, 32, 97, 59, 32, 115, 99, 114, 105, 112, 116, 45, 115, 114, 99, 32, 98]⟩ : ByteArray).data.toList 8 = [100, 101, 102, 97, 117, 108, 116, 45, 115, 114, 99]) := by show namedL (⟨#[100, 101, 102, 97, 117, 108, 116, 45, 115, 114, 99, 32, 97, 59, 32, 115, 99, 114, 105, 112, 116, 45, 115, 114, 99, 32, 98]⟩ : ByteArray).data.toList 8 = [100, 101, 102, 97, 117, 108, 116, 45, 115, 114, 99]; decide +kernel
theorem fl2 : Hid (namedL (⟨#[100, 101, 102, 97, 117, 108, 116, 45, 115, 114, 99, 32, 97, 59, 32, 115, 99, 114, 105, 112, 116, 45, 115, 114, 99, 32, 98]⟩ : ByteArray).data.toList 15 = []) := by show namedL (⟨#[100, 101, 102, 97, 117, 108, 116, 45, 115, 114, 99, 32, 97, 59, 32, 115, 99, 114, 105, 112, 116, 45, 115, 114, 99, 32, 98]⟩ : ByteArray).data.toList 15 = []; decide +kernel
theorem fl3 : Hid (namedL (⟨#[99, 104, 105, 108, 100, 45, 115, 114, 99, 32, 99]⟩ : ByteArray).data.toList 11 = [99, 104, 105, 108, 100, 45, 115, 114, 99]) := by show namedL (⟨#[99, 104, 105, 108, 100, 45, 115, 114, 99, 32, 99]⟩ : ByteArray).data.toList 11 = [99, 104, 105, 108, 100, 45, 115, 114, 99]; decide +kernel
theorem fl4 : Hid (namedL (⟨#[99, 104, 105, 108, 100, 45, 115, 114, 99, 32, 99]⟩ : ByteArray).data.toList 1 = []) := by show namedL (⟨#[99, 104, 105, 108, 100, 45, 115, 114, 99, 32, 99]⟩ : ByteArray).data.toList 1 = []; decide +kernel

theorem named_is (s : ByteArray) (k m : Int) (w : World) (hs : s.size ≤ 1073741824) (hm : MaxOk m w) (hT : ETab w) {r : List UInt8} (h : Hid (namedL s.data.toList k = r)) :
    Calls Tryd.prog 25 #[.string s, .int .i64 k] w fun e w' => e = .returned (.string ⟨r.toArray⟩) ∧ Below w.heap.size w w' := by
  rw [← h.out]
  exact named_any s k m w hs hm hT
theorem chain6 (w : World) : Calls Tryd.prog 16 #[.string ⟨#[119, 111, 114, 107, 101, 114, 45, 115, 114, 99]⟩] w fun e w' => ∃ a c, e = .returned (.slice a 4 c) ∧ Below w.heap.size w w' := by
  refine (chain_any _ w).mono ?_
  rintro e w' ⟨v, rfl, o, b⟩
  obtain ⟨a, c, hv⟩ := owns_shape o
  subst hv
  exact ⟨a, c, rfl, b⟩

set_option maxHeartbeats 1600000 in
set_option maxRecDepth 100000 in
theorem falls_any (m : Int) (w : World) (hm : MaxOk m w) (hT : ETab w) : Calls Tryd.prog 15 #[] w fun e w' => e = .returned (.bool true) ∧ Below w.heap.size w w' := by
  have HM0 := hm
  have HT0 := hT
  have B0 := Below.refl w.heap.size w
  clear hm hT
  go_enter Tryd.func15, Tryd.ntmps15
  go_wp2_with (first
    | (go_at_call 16; refine (chain6 _).mono ?_; rintro e w6 ⟨va, vc, rfl, b6⟩; have B6 := B5.trans (b6.mono B5.size))
    | (go_at_call 25; refine (named_is ⟨#[99, 104, 105, 108, 100, 45, 115, 114, 99, 32, 99]⟩ 1 m w4 (by decide) HM4 HT4 fl4).mono ?_; rintro e w5 ⟨rfl, b5⟩; have HM5 := HM4.below b5; have HT5 := HT4.below b5; have B5 := B4.trans (b5.mono B4.size))
    | (go_at_call 25; refine (named_is ⟨#[99, 104, 105, 108, 100, 45, 115, 114, 99, 32, 99]⟩ 11 m w3 (by decide) HM3 HT3 fl3).mono ?_; rintro e w4 ⟨rfl, b4⟩; have HM4 := HM3.below b4; have HT4 := HT3.below b4; have B4 := B3.trans (b4.mono B3.size))
    | (go_at_call 25; refine (named_is ⟨#[100, 101, 102, 97, 117, 108, 116, 45, 115, 114, 99, 32, 97, 59, 32, 115, 99, 114, 105, 112, 116, 45, 115, 114, 99, 32, 98]⟩ 15 m w2 (by decide) HM2 HT2 fl2).mono ?_; rintro e w3 ⟨rfl, b3⟩; have HM3 := HM2.below b3; have HT3 := HT2.below b3; have B3 := B2.trans (b3.mono B2.size))
    | (go_at_call 25; refine (named_is ⟨#[100, 101, 102, 97, 117, 108, 116, 45, 115, 114, 99, 32, 97, 59, 32, 115, 99, 114, 105, 112, 116, 45, 115, 114, 99, 32, 98]⟩ 8 m w1 (by decide) HM1 HT1 fl1).mono ?_; rintro e w2 ⟨rfl, b2⟩; have HM2 := HM1.below b2; have HT2 := HT1.below b2; have B2 := B1.trans (b2.mono B1.size))
    | (go_at_call 25; refine (named_is ⟨#[100, 101, 102, 97, 117, 108, 116, 45, 115, 114, 99, 32, 97, 59, 32, 115, 99, 114, 105, 112, 116, 45, 115, 114, 99, 32, 98]⟩ 2 m w (by decide) HM0 HT0 fl0).mono ?_; rintro e w1 ⟨rfl, b1⟩; have HM1 := HM0.below b1; have HT1 := HT0.below b1; have B1 := B0.trans (b1.mono B0.size)))
  go_ret
  exact ⟨by exact rfl, B6⟩
end Go.Proofs.YtgaeecphohlmpaaDoor
