/- Headers, and policy.Headers. -/
import Derived.Test.YtgaeecphohlmpaaDoorLst
import Derived.Test.YtgaeecphohlmpaaDoorTxt
import Derived.Deep.Cut
set_option linter.unusedVariables false
namespace Go.Proofs.YtgaeecphohlmpaaDoor
open Go.RowKit

abbrev HdrT := List UInt8 × List UInt8
/-- A slice of headers, as it is read. -/
def HdrsIn (w : World) (v : Value) (hs : List HdrT) : Prop :=
  ∃ ao cap, v = .slice ao hs.length cap ∧ hs.length ≤ cap ∧ cap ≤ maxLen ∧ (hs ≠ [] → ∃ b off, ao = some ⟨b, off, none⟩ ∧ b < w.heap.size ∧ ∀ i (h : i < hs.length), w.cell? ⟨b, off + i * 2, none⟩ = some (.string ⟨hs[i].1.toArray⟩) ∧ w.cell? ⟨b, off + i * 2 + 1, none⟩ = some (.string ⟨hs[i].2.toArray⟩))
theorem HdrsIn.below {w w' : World} {v : Value} {hs : List HdrT} (h : HdrsIn w v hs) (hb : Below w.heap.size w w') : HdrsIn w' v hs := by
  obtain ⟨ao, cap, h1, h2, h3, h4⟩ := h
  refine ⟨ao, cap, h1, h2, h3, fun hne => ?_⟩
  obtain ⟨b, off, ha, hlt, hc⟩ := h4 hne
  refine ⟨b, off, ha, Nat.lt_of_lt_of_le hlt hb.size, fun i hi => ?_⟩
  obtain ⟨c1, c2⟩ := hc i hi
  exact ⟨(hb.cell (p := ⟨b, off + i * 2, none⟩) hlt).trans c1, (hb.cell (p := ⟨b, off + i * 2 + 1, none⟩) hlt).trans c2⟩
theorem HdrsIn.at {w : World} {v : Value} {hs : List HdrT} (h : HdrsIn w v hs) {i : Nat} (hi : i < hs.length) : ∃ b off cap, v = .slice (some ⟨b, off, none⟩) hs.length cap ∧ b < w.heap.size ∧ w.cell? ⟨b, off + i * 2, none⟩ = some (.string ⟨hs[i].1.toArray⟩) ∧ w.cell? ⟨b, off + i * 2 + 1, none⟩ = some (.string ⟨hs[i].2.toArray⟩) := by
  obtain ⟨ao, cap, h1, h2, h3, h4⟩ := h
  obtain ⟨b, off, ha, hlt, hc⟩ := h4 (by intro e; rw [e] at hi; simp at hi)
  obtain ⟨c1, c2⟩ := hc i hi
  exact ⟨b, off, cap, by rw [h1, ha], hlt, c1, c2⟩
theorem HdrsIn.shape {w : World} {v : Value} {hs : List HdrT} (h : HdrsIn w v hs) : ∃ ao cap, v = .slice ao hs.length cap := by
  obtain ⟨ao, cap, h1, _⟩ := h
  exact ⟨ao, cap, h1⟩

def cspN : List UInt8 := [99, 111, 110, 116, 101, 110, 116, 45, 115, 101, 99, 117, 114, 105, 116, 121, 45, 112, 111, 108, 105, 99, 121]
def roN : List UInt8 := [99, 111, 110, 116, 101, 110, 116, 45, 115, 101, 99, 117, 114, 105, 116, 121, 45, 112, 111, 108, 105, 99, 121, 45, 114, 101, 112, 111, 114, 116, 45, 111, 110, 108, 121]
def addH (acc : List Pol) (h : HdrT) : List Pol := if lowL h.1 = roN then acc ++ listL h.2 true else if lowL h.1 = cspN then acc ++ listL h.2 false else acc
def headP (hs : List HdrT) : List Pol := hs.foldl addH []
/-- Are they refused for a value? -/
def longV (hs : List HdrT) : Bool := hs.any fun h => decide (4000 < h.2.length)
noncomputable def headR (hs : List HdrT) : Option (List Pol) := if 16 < hs.length ∨ longV hs = true ∨ 16 < (headP hs).length then none else some (headP hs)
def HdrRes (w : World) (r : Option (List Pol)) (e : Ending) : Prop := ∃ v, e = .returned (.tuple #[v, .int .i64 (if r.isSome then 0 else 3)]) ∧ PolsIn w v (r.getD [])
theorem nil_pols (w : World) : PolsIn w (.slice none 0 0) [] := ⟨none, 0, rfl, Nat.le_refl _, by unfold maxLen; omega, fun h => absurd rfl h⟩
theorem HdrRes.bad {w : World} {hs : List HdrT} (h : 16 < hs.length ∨ longV hs = true ∨ 16 < (headP hs).length) : HdrRes w (headR hs) (.returned (.tuple #[.slice none 0 0, .int .i64 3])) := by
  unfold headR
  rw [if_pos h]
  exact ⟨_, rfl, nil_pols w⟩
theorem HdrRes.good {w : World} {hs : List HdrT} {v : Value} (h : ¬ (16 < hs.length ∨ longV hs = true ∨ 16 < (headP hs).length)) (hv : PolsIn w v (headP hs)) : HdrRes w (headR hs) (.returned (.tuple #[v, .int .i64 0])) := by
  unfold headR
  rw [if_neg h]
  exact ⟨v, rfl, hv⟩
theorem foldP_len (rep : Bool) : ∀ (ps : List (List UInt8)) (acc : List Pol), (ps.foldl (addP rep) acc).length ≤ acc.length + ps.length
  | [], acc => by simp
  | p :: ps, acc => by
    have h1 := foldP_len rep ps (addP rep acc p)
    have h2 : (addP rep acc p).length ≤ acc.length + 1 := by unfold addP; split <;> simp
    simp only [List.foldl_cons, List.length_cons]
    omega
theorem listL_len (s : List UInt8) (rep : Bool) : (listL s rep).length ≤ s.length + 1 := by
  have h1 := foldP_len rep (spl 44 s) []
  have h2 := spl_len 44 s
  unfold listL
  simp at h1
  omega
theorem longV_at {hs : List HdrT} {k : Nat} {h : HdrT} (hk : hs[k]? = some h) (hl : 4000 < h.2.length) : longV hs = true := by
  unfold longV
  rw [List.any_eq_true]
  exact ⟨h, List.mem_of_getElem? hk, by simpa using hl⟩
theorem longV_none {hs : List HdrT} (h : ∀ (k : Nat) (x : HdrT), hs[k]? = some x → x.2.length ≤ 4000) : longV hs = false := by
  unfold longV
  rw [List.any_eq_false]
  intro x hx
  obtain ⟨k, hk⟩ := List.getElem?_of_mem hx
  have := h k x hk
  simp; omega
theorem PolC.app {w : World} : ∀ {cs us : List Value} {ps qs : List Pol}, PolC w cs ps → PolC w us qs → PolC w (cs ++ us) (ps ++ qs)
  | [], us, [], qs, _, h => h
  | [], _, _ :: _, _, h, _ => by cases h
  | [_], _, [], _, h, _ => by cases h
  | [_], _, _ :: _, _, h, _ => by cases h
  | _ :: _ :: _, _, [], _, h, _ => by cases h
  | a :: b :: cs, us, p :: ps, qs, h, h2 => ⟨h.1, h.2.1, PolC.app h.2.2 h2⟩
theorem polC_one {w : World} : ∀ {cs : List Value} {ps : List Pol}, PolC w cs ps → ∀ u ∈ cs, u.oneCell' = true
  | [], [], _ => by intro u hu; simp at hu
  | [], _ :: _, h => by cases h
  | [_], [], h => by cases h
  | [_], _ :: _, h => by cases h
  | _ :: _ :: _, [], h => by cases h
  | a :: b :: cs, p :: ps, h => by
    intro u hu
    rcases List.mem_cons.1 hu with rfl | hu
    · rcases h.2.1 with ⟨rfl, _⟩ | ⟨_, _, _, _, _, rfl, _⟩ <;> rfl
    rcases List.mem_cons.1 hu with rfl | hu
    · rw [h.1]; rfl
    · exact polC_one h.2.2 u hu
theorem polC_length {w : World} : ∀ {cs : List Value} {ps : List Pol}, PolC w cs ps → cs.length = ps.length * 2
  | [], [], _ => rfl
  | [], _ :: _, h => by cases h
  | [_], [], h => by cases h
  | [_], _ :: _, h => by cases h
  | _ :: _ :: _, [], h => by cases h
  | a :: b :: cs, d :: ds, h => by
    have := polC_length h.2.2
    simp only [List.length_cons, this]
    omega
/-- 'append(list, more...)' of policies. -/
theorem appP {wr : World} {ops : Array Oper} {rest : List Oper} {o : Oper} {a : Act} {Q : Exit → Act → World → Prop} (hgd : o.guard = none) (s x : Operand)
    (ho : o.op = .call { callee := .builtin .append, args := #[s, x], argTypes := #[47, 47] })
    {base B2 : Nat} {v v2 : Value} {n m : Nat} {xs us : List Value} (hown : wr.ownsRow base 30 2 v n xs) (hs : a.eval s = v) (hx : a.eval x = v2) (h2 : wr.ownsRow B2 30 2 v2 m us) (hone : ∀ u ∈ us, u.oneCell' = true) (hn : n + m ≤ 1099511627776) (hbase : base ≤ wr.heap.size)
    (h : ∀ v' w', w'.ownsRow base 30 2 v' (n + m) (xs ++ us) → wr.grownBy w' v.ownBlock → Below base wr w' → wpList Tryd.prog ops Q rest (a.put o.dst v') w') : wpList Tryd.prog ops Q (o :: rest) a wr := by
  obtain ⟨i0, hi, hz0, hz1, hz2⟩ := info_parts infoPol
  have hlt : ∀ k, v.ownBlock = some k → base ≤ k := fun k hk => (hown.lt k hk).1
  rcases h2.2 with ⟨rfl, h0⟩ | ⟨g, cap, cur, rfl, _, hh, _⟩
  · subst h0
    have hu : us = [] := List.eq_nil_of_length_eq_zero (by simpa using h2.1)
    subst hu
    refine appNone hgd s x 47 ho base 30 i0 2 0 Tryd.underlying47 hi v n xs hs hown hx ?_
    exact h v wr (by simpa using hown) ⟨rfl, rfl, rfl, Nat.le_refl _, fun _ _ _ => rfl⟩ (Below.refl _ _)
  · refine wpList_append_own _ hgd s x 47 ho base 30 i0 _ 2 32 Tryd.underlying47 hi hz0 hz1 hz2 rfl (by decide) v n xs hs hown ⟨g, 0, none⟩ m cap us hx h2.1 ?_ hone (by unfold maxLen; omega) (by omega) hbase ?_
    · exact h2.cells (g := g) rfl
    · intro v' w' hown' hg _
      exact h v' w' hown' hg ((Below.refl base wr).grown hg hbase hlt)
end Go.Proofs.YtgaeecphohlmpaaDoor
