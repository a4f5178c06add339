/- Headers put behind one another. -/
import Derived.Test.YtgaeecphohlmpaaDoorLHdr
import Derived.Deep.Cut
import Derived.Deep.RegionLaw
import Derived.Deep.AppendLies
set_option linter.unusedVariables false
namespace Go.Proofs.YtgaeecphohlmpaaDoor
open Go.RowKit

def hdrC (hs : List HdrT) : List Value := hs.flatMap fun h => [.string ⟨h.1.toArray⟩, .string ⟨h.2.toArray⟩]
theorem hdrC_len : ∀ hs : List HdrT, (hdrC hs).length = hs.length * 2
  | [] => rfl
  | h :: hs => by
    have := hdrC_len hs
    simp only [hdrC, List.flatMap_cons, List.length_append, List.length_cons, List.length_nil] at this ⊢
    omega
theorem hdrC_at : ∀ (hs : List HdrT) (i : Nat) (hi : i < hs.length), (hdrC hs)[i * 2]? = some (.string ⟨hs[i].1.toArray⟩) ∧ (hdrC hs)[i * 2 + 1]? = some (.string ⟨hs[i].2.toArray⟩)
  | [], i, hi => by simp at hi
  | h :: hs, 0, _ => ⟨rfl, rfl⟩
  | h :: hs, i + 1, hi => by
    have := hdrC_at hs i (by simpa using hi)
    have e1 : (i + 1) * 2 = i * 2 + 2 := by omega
    have e2 : hdrC (h :: hs) = .string ⟨h.1.toArray⟩ :: .string ⟨h.2.toArray⟩ :: hdrC hs := rfl
    rw [e1, e2]
    simpa using this
theorem hdrC_one (hs : List HdrT) : ∀ u ∈ hdrC hs, u.oneCell' = true := by
  intro u hu
  unfold hdrC at hu
  obtain ⟨h, _, hu⟩ := List.mem_flatMap.1 hu
  simp at hu
  rcases hu with rfl | rfl <;> rfl
theorem hdrC_app (a b : List HdrT) : hdrC (a ++ b) = hdrC a ++ hdrC b := by simp [hdrC]
theorem hdrs_own {w : World} {B n : Nat} {v : Value} {hs : List HdrT} (h : w.ownsRow B 52 2 v n (hdrC hs)) : HdrsIn w v hs := by
  have hn : n = hs.length := by have := h.1; rw [hdrC_len] at this; omega
  subst hn
  rcases h.2 with ⟨rfl, h0⟩ | ⟨g, cap, cur, rfl, hg, hh, hle, hcm, hcs, htake⟩
  · exact ⟨none, 0, by rw [h0], by omega, by unfold maxLen; omega, fun hne => absurd (List.length_eq_zero_iff.1 h0) hne⟩
  · refine ⟨_, cap, rfl, hle, hcm, fun hne => ⟨g, 0, rfl, (Array.getElem?_eq_some_iff.1 hh).1, fun i hi => ?_⟩⟩
    obtain ⟨c1, c2⟩ := hdrC_at hs i hi
    have hadd : ∀ j, (⟨g, 0, none⟩ : Addr).add j = ⟨g, 0 + j, none⟩ := by intro j; unfold Addr.add; split <;> simp_all
    have r1 := h.cells (g := g) rfl _ _ c1
    have r2 := h.cells (g := g) rfl _ _ c2
    rw [hadd] at r1 r2
    exact ⟨r1, r2⟩
theorem infoHdr : (Tryd.prog.info? 52).map (fun i => (i.zero, i.size, i.bytes)) = some (some (.agg #[.string ⟨#[]⟩, .string ⟨#[]⟩]), 2, 32) := by kernel_rfl
theorem step_hdrs {w : World} {ops : Array Oper} {o : Oper} {a : Act} {K : Act → World → Prop} {Q : Exit → Act → World → Prop} {E : Prop} (hgd : o.guard = none) (s x : Operand)
    (ho : o.op = .call { callee := .builtin .append, args := #[s, x], argTypes := #[50, 50] })
    {base : Nat} {v v2 : Value} {n : Nat} {xs : List Value} {hs : List HdrT} (hsv : a.eval s = v) (hown : w.ownsRow base 52 2 v n xs) (hx : a.eval x = v2) (h2 : HdrsIn w v2 hs) (hn : n + hs.length ≤ 1099511627776) (hbase : base ≤ w.heap.size)
    (h : ∀ v' w', w'.ownsRow base 52 2 v' (n + hs.length) (xs ++ hdrC hs) → w.grownBy w' v.ownBlock → K (a.put o.dst v') w') :
    if Region.wanted o (yielded ops a.tmps) = true then Oper.wp Tryd.prog o a w K Q else E := by
  have hw : Region.wanted o (yielded ops a.tmps) = true := by simp [Region.wanted, hgd]
  rw [if_pos hw]
  obtain ⟨i0, hi, hz0, hz1, hz2⟩ := info_parts infoHdr
  obtain ⟨ao, cap, rfl, g1, g2, g3⟩ := h2
  have big : ∀ ad : Addr, ao = some ad → (∀ j u, (hdrC hs)[j]? = some u → w.cell? (ad.add j) = some u) → Oper.wp Tryd.prog o a w K Q := by
    intro ad ha hc
    subst ha
    obtain ⟨v', w', hrun, hown', hg, _⟩ := run_append_own (P := Tryd.prog) (w := w) base 50 o.type 52 i0 _ 2 32 Tryd.underlying50 hi hz0 hz1 hz2 rfl (by decide) v n xs hown ad hs.length cap (hdrC hs) (hdrC_len hs) hc (hdrC_one hs) (by unfold maxLen; omega) (by omega) hbase
    unfold Oper.wp
    simp [execOp, ho, resolve, invoke, builtin, hsv, hx, hrun, Result.andThen]
    exact h _ _ hown' hg
  by_cases h0 : hs = []
  · subst h0
    cases ao with
    | none =>
      have hrun := run_append_none' (P := Tryd.prog) (w := w) base 50 o.type 52 i0 2 cap Tryd.underlying50 hi v n xs hown
      unfold Oper.wp
      simp [execOp, ho, resolve, invoke, builtin, hsv, hx, hrun, Result.andThen]
      exact h _ _ (by simpa [hdrC] using hown) ⟨rfl, rfl, rfl, Nat.le_refl _, fun _ _ _ => rfl⟩
    | some ad => exact big ad rfl (by intro j u hj; simp [hdrC] at hj)
  · obtain ⟨b, off, ha, hb, hc⟩ := g3 h0
    refine big _ ha fun j u hj => ?_
    have hjl : j < hs.length * 2 := by
      have := (List.getElem?_eq_some_iff.1 hj).1
      rw [hdrC_len] at this; exact this
    have hadd : (⟨b, off, none⟩ : Addr).add j = ⟨b, off + j, none⟩ := by unfold Addr.add; split <;> simp_all
    rw [hadd]
    obtain ⟨c1, c2⟩ := hc (j / 2) (by omega)
    obtain ⟨d1, d2⟩ := hdrC_at hs (j / 2) (by omega)
    rcases Nat.mod_two_eq_zero_or_one j with e | e
    · have ej : j = j / 2 * 2 := by omega
      rw [ej] at hj ⊢
      rw [d1] at hj
      injection hj with hj
      rw [← hj]
      exact c1
    · have ej : j = j / 2 * 2 + 1 := by omega
      rw [ej] at hj ⊢
      rw [d2] at hj
      injection hj with hj
      rw [← hj, show off + (j / 2 * 2 + 1) = off + j / 2 * 2 + 1 by omega]
      exact c2
/-- One header written out. -/
theorem hdr_lit (w : World) (n v : ByteArray) : HdrsIn (w.alloc (.cells #[.string n, .string v] 52)) (.slice (some ⟨w.heap.size, 0, none⟩) 1 1) [(n.data.toList, v.data.toList)] := by
  refine ⟨_, 1, rfl, Nat.le_refl _, by unfold maxLen; simp, fun _ => ⟨w.heap.size, 0, rfl, by simp, fun i hi => ?_⟩⟩
  have hi0 : i = 0 := by simpa using hi
  subst hi0
  have hh := heap_alloc_new w (.cells #[.string n, .string v] 52)
  exact ⟨by rw [Lib.cell_of_heap hh]; rfl, by rw [Lib.cell_of_heap hh]; rfl⟩

/-! Plain facts. -/
theorem addH_pre (acc : List Pol) (h : HdrT) : acc <+: addH acc h := by
  unfold addH
  split
  · exact List.prefix_append _ _
  · split
    · exact List.prefix_append _ _
    · exact List.prefix_refl _
theorem headP_snoc (l : List HdrT) (h : HdrT) : headP (l ++ [h]) = addH (headP l) h := by simp [headP]
theorem headP_pre (l : List HdrT) (h : HdrT) : headP l <+: headP (l ++ [h]) := by rw [headP_snoc]; exact addH_pre _ _
theorem low_x (n : List UInt8) : lowL (120 :: 45 :: n) ≠ roN ∧ lowL (120 :: 45 :: n) ≠ cspN := by
  have e : lowL (120 :: 45 :: n) = 120 :: 45 :: lowL n := by
    show lowB 120 :: lowB 45 :: lowL n = _
    rw [show lowB 120 = 120 by decide, show lowB 45 = 45 by decide]
  rw [e]
  exact ⟨by unfold roN; simp, by unfold cspN; simp⟩
theorem headR_x (n v : List UInt8) (hv : v.length ≤ 4000) : headR [(120 :: 45 :: n, v)] = some [] := by
  have hp : headP [(120 :: 45 :: n, v)] = [] := by
    unfold headP
    rw [List.foldl_cons, List.foldl_nil]
    unfold addH
    rw [if_neg (low_x n).1, if_neg (low_x n).2]
  have hlv : longV [(120 :: 45 :: n, v)] = false := longV_none fun k x hk => by
    have : k = 0 := by have := (List.getElem?_eq_some_iff.1 hk).1; simpa using this
    subst this
    simp at hk
    rw [← hk]; exact hv
  unfold headR
  rw [hp, hlv, if_neg (by simp)]
theorem headR_few {hs : List HdrT} (hl : hs.length ≤ 16) (hv : ∀ h ∈ hs, h.2.length ≤ 4000) : headR hs = if 16 < (headP hs).length then none else some (headP hs) := by
  have hlv : longV hs = false := longV_none fun k x hk => hv x (List.mem_of_getElem? hk)
  unfold headR
  rw [hlv]
  by_cases h : 16 < (headP hs).length
  · rw [if_pos (.inr (.inr h)), if_pos h]
  · rw [if_neg (by simp; omega), if_neg h]
end Go.Proofs.YtgaeecphohlmpaaDoor
