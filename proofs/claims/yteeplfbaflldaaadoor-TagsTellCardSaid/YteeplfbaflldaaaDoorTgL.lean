/- lazaretref10.Blank, low. -/
import Derived.Test.YteeplfbaflldaaaDoorTgU
import Derived.Test.YteeplfbaflldaaaDoorAscii2
import Derived.Test.YteeplfbaflldaaaDoorTg9
import Derived.Test.YteeplfbaflldaaaDoorRt4
set_option linter.unusedVariables false
set_option linter.unusedSimpArgs false
namespace Go.Proofs.YteeplfbaflldaaaDoor.T10
open Go.RowKit R9

theorem rblank_any (c : Int) (w : World) : Calls Tryd.prog 30 #[.int .u8 c] w fun e w' => e = .returned (.bool (blI c)) ∧ w = w' := by
  go_enter Tryd.func30, Tryd.ntmps30
  go_wp2
  all_goals (go_ret; refine ⟨ret_bool ?_, rfl⟩; rw [Bool.eq_iff_iff]; simp [blI]; try omega)
set_option maxHeartbeats 1600000 in
set_option maxRecDepth 100000 in
theorem rlow_any (c : UInt8) (w : World) : Calls Tryd.prog 31 #[.int .u8 (c.toNat : Int)] w fun e w' => e = .returned (.string ⟨(cleanB c).toArray⟩) ∧ Below w.heap.size w w' := by
  by_cases h : c = 0
  · have t0 := byte_is (z := 0) h rfl
    rw [show cleanB c = fffd by rw [h]; rfl]
    clear h
    go_enter Tryd.func31, Tryd.ntmps31
    go_wp2_with fail
    go_ret
    exact ⟨by exact rfl, Below.refl _ _⟩
  · have t0 := byte_not (z := 0) h rfl
    have HE : Hid ((⟨(lowL (⟨#[c]⟩ : ByteArray).data.toList).toArray⟩ : ByteArray) = ⟨(cleanB c).toArray⟩) := by
      show _ = _
      unfold cleanB
      rw [if_neg h]
      rfl
    have hcv := conv_one w c
    clear h
    go_enter Tryd.func31, Tryd.ntmps31
    go_wp2_with fail
    refine (rlower_any ⟨#[c]⟩ _ (by show 1 ≤ _; decide)).mono ?_
    rintro e w1 ⟨rfl, b1⟩
    rw [HE.out]
    go_wp2_with fail
    go_ret
    exact ⟨by exact rfl, ((Below.refl _ w).alloc (Nat.le_refl _) _).trans (b1.mono (by simp))⟩

def needs : St → Bool
  | .name | .behind | .value | .double | .single | .bare => true
  | _ => false
structure Wf (t : List UInt8) (s : RS) : Prop where
  i : s.i ≤ t.length
  l : s.l.length ≤ s.i
  nm : s.name.length ≤ 3 * s.i
  at' : ∀ a ∈ s.l, a.1.length ≤ 3 * s.i ∧ a.2.length ≤ 4 * s.i
  ne : needs s.st = true → s.l ≠ []
theorem cleanB_len (c : UInt8) : (cleanB c).length ≤ 3 := by unfold cleanB fffd; split <;> simp
theorem split_last {l : List At} (h : l ≠ []) : ∃ p a, l = p ++ [a] := ⟨l.dropLast, l.getLast h, (List.dropLast_concat_getLast h).symm⟩
theorem Wf.more {t : List UInt8} {st st' : St} {nm : List UInt8} {l : List At} {b b' : Bool} {i i' : Nat} (h : Wf t ⟨st, nm, l, b, i⟩) (hi : i ≤ i') (ht : i' ≤ t.length) (hn : needs st' = true → l ≠ []) : Wf t ⟨st', nm, l, b', i'⟩ :=
  ⟨ht, Nat.le_trans h.l hi, by have := h.nm; simp only [] at this ⊢; omega, fun a ha => by have := h.at' a ha; simp only [] at this ⊢; omega, hn⟩
theorem Wf.add {t : List UInt8} {st : St} {nm : List UInt8} {l : List At} {b : Bool} {i : Nat} (h : Wf t ⟨st, nm, l, b, i⟩) (ht : i + 1 ≤ t.length) (c : UInt8) : Wf t ⟨.name, nm, l ++ [(cleanB c, [])], b, i + 1⟩ := by
  have hl := h.l
  have hnm := h.nm
  simp only [] at hl hnm
  have hc := cleanB_len c
  refine ⟨ht, by simp; omega, by simp only []; omega, fun a ha => ?_, fun _ => by simp⟩
  rcases List.mem_append.1 ha with ha | ha
  · have := h.at' a ha; simp only [] at this ⊢; omega
  · simp at ha
    subst ha
    simp only [List.length_nil]
    omega
theorem Wf.addN {t : List UInt8} {st : St} {nm : List UInt8} {l : List At} {b : Bool} {i : Nat} (h : Wf t ⟨st, nm, l, b, i⟩) (ht : i + 1 ≤ t.length) (hne : l ≠ []) (c : UInt8) : Wf t ⟨.name, nm, addN l (cleanB c), b, i + 1⟩ := by
  obtain ⟨p, ⟨an, av⟩, rfl⟩ := split_last hne
  rw [addN_snoc]
  have hl := h.l
  have hnm := h.nm
  simp at hl hnm
  have hc := cleanB_len c
  refine ⟨ht, by simp; omega, by simp only []; omega, fun a ha => ?_, fun _ => by simp⟩
  rcases List.mem_append.1 ha with ha | ha
  · have := h.at' a (List.mem_append_left _ ha); simp only [] at this ⊢; omega
  · simp at ha
    subst ha
    have := h.at' (an, av) (by simp)
    simp only [List.length_append] at this ⊢
    omega
theorem Wf.addV {t : List UInt8} {st : St} {nm : List UInt8} {l : List At} {b : Bool} {i k : Nat} {x : List UInt8} (h : Wf t ⟨st, nm, l, b, i⟩) (ht : i + k ≤ t.length) (hne : l ≠ []) (hx : x.length ≤ 4 * k) : Wf t ⟨st, nm, T10.addV l x, b, i + k⟩ := by
  obtain ⟨p, ⟨an, av⟩, rfl⟩ := split_last hne
  rw [addV_snoc]
  have hl := h.l
  have hnm := h.nm
  simp at hl hnm
  refine ⟨ht, by simp; omega, by simp only []; omega, fun a ha => ?_, fun _ => by simp⟩
  rcases List.mem_append.1 ha with ha | ha
  · have := h.at' a (List.mem_append_left _ ha); simp only [] at this ⊢; omega
  · simp at ha
    subst ha
    have := h.at' (an, av) (by simp)
    simp only [List.length_append] at this ⊢
    omega
theorem attC_last (p : List At) (a : At) : attC (p ++ [a]) = attC p ++ [.string ⟨a.1.toArray⟩, .string ⟨a.2.toArray⟩] := attC_snoc p a
theorem attC_setN (p : List At) (an av x : List UInt8) : (attC (p ++ [(an, av)])).set (p.length * 2) (.string ⟨x.toArray⟩) = attC (p ++ [(x, av)]) := by
  rw [attC_snoc, attC_snoc, List.set_append_right _ _ (by rw [attC_len]; omega), attC_len, Nat.sub_self]
  rfl
theorem attC_setV (p : List At) (an av x : List UInt8) : (attC (p ++ [(an, av)])).set (p.length * 2 + 1) (.string ⟨x.toArray⟩) = attC (p ++ [(an, x)]) := by
  rw [attC_snoc, attC_snoc, List.set_append_right _ _ (by rw [attC_len]; omega), attC_len, show p.length * 2 + 1 - p.length * 2 = 1 by omega]
  rfl
theorem owns_set {w : World} {B n sz cap g k : Nat} {e : TypeId} {v : Value} {xs : List Value} (h : w.ownsRow B e sz v n xs) (hv : v = .slice (some ⟨g, 0, none⟩) n cap) (u : Value) : (w.setCell ⟨g, k, none⟩ u).ownsRow B e sz v n (xs.set k u) := by
  rcases h.2 with ⟨rfl, _⟩ | ⟨g', cap', cur, rfl, hg, hh, hle, hcm, hcs, htake⟩
  · cases hv
  · injection hv with e1 _ e3
    injection e1 with e1
    injection e1 with e1 _
    subst e1
    refine ⟨by simpa using h.1, .inr ⟨g', cap', cur.setIfInBounds k u, rfl, hg, ?_, hle, hcm, by simpa using hcs, ?_⟩⟩
    · unfold World.setCell; simp [Array.getElem?_modify, hh]
    · rw [← htake]; simp [List.take_set]
/-- The last attribute's cells, in a row of one's own. -/
theorem last_at {w : World} {B L : Nat} {oa : Option Addr} {oc : Nat} {p : List At} {an av : List UInt8} (h : w.ownsRow B 32 2 (.slice oa L oc) L (attC (p ++ [(an, av)]))) (hL : L = p.length + 1) :
    ∃ g, oa = some ⟨g, 0, none⟩ ∧ B ≤ g ∧ g < w.heap.size ∧ w.cell? ⟨g, p.length * 2, none⟩ = some (.string ⟨an.toArray⟩) ∧ w.cell? ⟨g, p.length * 2 + 1, none⟩ = some (.string ⟨av.toArray⟩) ∧ (∀ k, w.frozen? ⟨g, k, none⟩ = false) := by
  rcases h.2 with ⟨_, h0⟩ | ⟨g, cap, cur, hv, hg, hh, hle, hcm, hcs, htake⟩
  · omega
  · injection hv with e1 e2 e3
    subst e1
    refine ⟨g, rfl, hg, (Array.getElem?_eq_some_iff.1 hh).1, ?_, ?_, fun k => Lib.frozen_of_heap hh k⟩
    · have hc : (attC (p ++ [(an, av)]))[p.length * 2]? = some (.string ⟨an.toArray⟩) := by
        rw [attC_snoc, List.getElem?_append_right (by rw [attC_len]; omega), attC_len, Nat.sub_self]; rfl
      have := h.cells (g := g) rfl _ _ hc
      have hadd : ∀ j, (⟨g, 0, none⟩ : Addr).add j = ⟨g, j, none⟩ := by intro j; unfold Addr.add; split <;> simp_all
      rwa [hadd] at this
    · have hc : (attC (p ++ [(an, av)]))[p.length * 2 + 1]? = some (.string ⟨av.toArray⟩) := by
        rw [attC_snoc, List.getElem?_append_right (by rw [attC_len]; omega), attC_len, show p.length * 2 + 1 - p.length * 2 = 1 by omega]; rfl
      have := h.cells (g := g) rfl _ _ hc
      have hadd : ∀ j, (⟨g, 0, none⟩ : Addr).add j = ⟨g, j, none⟩ := by intro j; unfold Addr.add; split <;> simp_all
      rwa [hadd] at this
def stB : St → ByteArray
  | .tag => ⟨#[116, 97, 103]⟩
  | .slash => ⟨#[115, 108, 97, 115, 104]⟩
  | .ahead => ⟨#[97, 104, 101, 97, 100]⟩
  | .name => ⟨#[110, 97, 109, 101]⟩
  | .behind => ⟨#[98, 101, 104, 105, 110, 100]⟩
  | .value => ⟨#[118, 97, 108, 117, 101]⟩
  | .double => ⟨#[100, 111, 117, 98, 108, 101]⟩
  | .single => ⟨#[115, 105, 110, 103, 108, 101]⟩
  | .bare => ⟨#[98, 97, 114, 101]⟩
  | .done => ⟨#[100, 111, 110, 101]⟩
def rankV : Value → Nat
  | .string b => if b.data.toList == [115, 108, 97, 115, 104] || b.data.toList == [110, 97, 109, 101] || b.data.toList == [98, 101, 104, 105, 110, 100] || b.data.toList == [118, 97, 108, 117, 101] then 1 else 0
  | _ => 0
theorem rankV_st (st : St) : rankV (.string (stB st)) = rank st := by cases st <;> rfl
/-- The memory of the loop: the token's cells, the list's row. -/
structure RdAt (B p : Nat) (kind from' : Int) (w : World) (nm : List UInt8) (b : Bool) (l : List At) (oa : Option Addr) (L oc : Nat) (wr : World) : Prop where
  tok : wr.heap[p]? = some (.cells #[.int .i64 kind, .string ⟨nm.toArray⟩, .string ⟨#[]⟩, .slice none 0 0, .bool false, .bool b, .bool false, .int .i64 from', .int .i64 0] 25 (0, 0))
  own : wr.ownsRow B 32 2 (.slice oa L oc) L (attC l)
  len : l.length = L
  size : B ≤ wr.heap.size
  below : Below p w wr
theorem RdAt.below' {B p : Nat} {kind from' : Int} {w wr w1 : World} {nm : List UInt8} {b : Bool} {l : List At} {oa : Option Addr} {L oc : Nat} (h : RdAt B p kind from' w nm b l oa L oc wr) (hb : Below wr.heap.size wr w1) : RdAt B p kind from' w nm b l oa L oc w1 :=
  ⟨(hb.block p (Array.getElem?_eq_some_iff.1 h.tok).1).trans h.tok, owns_below h.own hb, h.len, Nat.le_trans h.size hb.size, h.below.trans (hb.mono (by have := (Array.getElem?_eq_some_iff.1 h.tok).1; omega))⟩
end Go.Proofs.YteeplfbaflldaaaDoor.T10
