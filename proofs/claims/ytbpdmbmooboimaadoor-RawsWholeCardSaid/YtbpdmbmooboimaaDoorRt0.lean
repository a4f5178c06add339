/- The document's way to look a name up is the program's (plain). -/
import Derived.Test.YtbpdmbmooboimaaDoorNms
set_option linter.unusedVariables false
set_option linter.unusedSimpArgs false
namespace Go.Proofs.YtbpdmbmooboimaaDoor.R9
open Go.RowKit

/-- Does r begin with t? -/
def pref (r t : List UInt8) : Bool := r.take t.length == t
abbrev Nm := List UInt8 × List UInt8 × Bool
/-- How many bytes a name takes at the front of r, if it stands there. -/
def endOf (r : List UInt8) (x : Nm) : Option Nat := if pref r x.1 = true then (if r[x.1.length]? = some 59 then some (x.1.length + 1) else if x.2.2 = true then some x.1.length else none) else none
def upd (o : Option (List UInt8 × Nat)) (tx : List UInt8) (e : Nat) : Option (List UInt8 × Nat) := match o with
  | none => some (tx, e)
  | some q => if q.2 < e then some (tx, e) else some q
def stepN (r : List UInt8) (o : Option (List UInt8 × Nat)) (x : Nm) : Option (List UInt8 × Nat) := match endOf r x with
  | none => o
  | some e => upd o x.2.1 e
def bestL (r : List UInt8) (l : List Nm) : Option (List UInt8 × Nat) := l.foldl (stepN r) none
def refN (r : List UInt8) (attr : Bool) : Option (List UInt8 × Nat) := match bestL r namesT with
  | none => none
  | some (tx, e) => if attr = true ∧ r[e - 1]? ≠ some 59 ∧ goesL r e = true then none else some (tx, e)

theorem upd_some (o : Option (List UInt8 × Nat)) (tx : List UInt8) (e : Nat) : ∃ q, upd o tx e = some q ∧ e ≤ q.2 ∧ (∀ q0, o = some q0 → q0.2 ≤ q.2) ∧ (upd o tx e = o ∨ q = (tx, e)) := by
  cases o with
  | none => exact ⟨(tx, e), rfl, Nat.le_refl _, fun q0 h => (by cases h), .inr rfl⟩
  | some q0 =>
    by_cases h : q0.2 < e
    · refine ⟨(tx, e), (by show (if q0.2 < e then some (tx, e) else some q0) = _; rw [if_pos h]), Nat.le_refl _, fun q1 h1 => ?_, .inr rfl⟩
      injection h1 with h1
      subst h1
      exact Nat.le_of_lt h
    · refine ⟨q0, (by show (if q0.2 < e then some (tx, e) else some q0) = _; rw [if_neg h]), by omega, fun q1 h1 => ?_, .inl (by show (if q0.2 < e then some (tx, e) else some q0) = _; rw [if_neg h])⟩
      injection h1 with h1
      subst h1
      exact Nat.le_refl _
theorem fold_inv (r : List UInt8) : ∀ (l : List Nm) (o : Option (List UInt8 × Nat)),
    (l.foldl (stepN r) o = o ∨ ∃ y ∈ l, ∃ e, endOf r y = some e ∧ l.foldl (stepN r) o = some (y.2.1, e)) ∧
    (∀ y ∈ l, ∀ e, endOf r y = some e → ∃ q, l.foldl (stepN r) o = some q ∧ e ≤ q.2) ∧
    (∀ q0, o = some q0 → ∃ q, l.foldl (stepN r) o = some q ∧ q0.2 ≤ q.2)
  | [], o => ⟨.inl rfl, fun y h => (by cases h), fun q0 h => ⟨q0, h, Nat.le_refl _⟩⟩
  | x :: l, o => by
    obtain ⟨i1, i2, i3⟩ := fold_inv r l (stepN r o x)
    rw [List.foldl_cons]
    cases hx : endOf r x with
    | none =>
      have e : stepN r o x = o := by unfold stepN; rw [hx]
      rw [e] at i1 i2 i3 ⊢
      refine ⟨?_, ?_, i3⟩
      · rcases i1 with h | ⟨y, hy, e, h1, h2⟩
        · exact .inl h
        · exact .inr ⟨y, List.mem_cons_of_mem _ hy, e, h1, h2⟩
      · intro y hy e' he
        rcases List.mem_cons.1 hy with rfl | hy
        · rw [hx] at he; cases he
        · exact i2 y hy e' he
    | some e =>
      have es : stepN r o x = upd o x.2.1 e := by unfold stepN; rw [hx]
      rw [es] at i1 i2 i3 ⊢
      obtain ⟨q, hq, hq1, hq2, hq3⟩ := upd_some o x.2.1 e
      obtain ⟨q', hq', hle⟩ := i3 q hq
      refine ⟨?_, ?_, ?_⟩
      · rcases i1 with h | ⟨y, hy, e', h1, h2⟩
        · rcases hq3 with h3 | h3
          · exact .inl (h.trans h3)
          · exact .inr ⟨x, List.mem_cons_self .., e, hx, by rw [h, hq, h3]⟩
        · exact .inr ⟨y, List.mem_cons_of_mem _ hy, e', h1, h2⟩
      · intro y hy e' he
        rcases List.mem_cons.1 hy with rfl | hy
        · rw [hx] at he
          injection he with he
          exact ⟨q', hq', by omega⟩
        · exact i2 y hy e' he
      · intro q0 h0
        exact ⟨q', hq', Nat.le_trans (hq2 q0 h0) hle⟩
theorem best_none {r : List UInt8} {l : List Nm} (h : ∀ y ∈ l, endOf r y = none) : bestL r l = none := by
  rcases (fold_inv r l none).1 with h1 | ⟨y, hy, e, h1, _⟩
  · exact h1
  · rw [h y hy] at h1; cases h1
theorem best_some {r : List UInt8} {l : List Nm} {x : Nm} {e : Nat} (hx : x ∈ l) (he : endOf r x = some e) (hm : ∀ y ∈ l, ∀ e', endOf r y = some e' → y = x ∨ e' < e) : bestL r l = some (x.2.1, e) := by
  obtain ⟨q, hq, hle⟩ := (fold_inv r l none).2.1 x hx e he
  rcases (fold_inv r l none).1 with h1 | ⟨y, hy, e', h1, h2⟩
  · unfold bestL; rw [h1] at hq; cases hq
  · rcases hm y hy e' h1 with rfl | hlt
    · rw [he] at h1
      injection h1 with h1
      subst h1
      exact h2
    · rw [h2] at hq
      injection hq with hq
      subst hq
      simp only at hle
      omega
theorem names_nodup : ∀ x ∈ namesT, ∀ y ∈ namesT, x.1 = y.1 → x = y := by decide +kernel
theorem tab_names : ∀ x ∈ (looseA ++ looseB) ++ (strictA ++ strictB), ∃ y ∈ namesT, y.1 = x.1 := by decide +kernel
theorem pref_take {r t : List UInt8} (h : pref r t = true) : r.take t.length = t := by unfold pref at h; simpa using h
theorem name_is {l : List UInt8} (h : ¬ looseN l = 0 ∨ ¬ strictN l = 0) : ∃ x ∈ namesT, x.1 = l := by
  rcases h with h | h
  · obtain ⟨x, hx, h1, _⟩ := look_mem _ l h
    obtain ⟨y, hy, e⟩ := tab_names x (List.mem_append_left _ hx)
    exact ⟨y, hy, e.trans h1.symm⟩
  · obtain ⟨x, hx, h1, _⟩ := look_mem _ l h
    obtain ⟨y, hy, e⟩ := tab_names x (List.mem_append_right _ hx)
    exact ⟨y, hy, e.trans h1.symm⟩
def encT (o : Option (Int × Nat)) : Option (List UInt8 × Nat) := o.map fun x => ((Utf8.encode x.1).data.toList, x.2)
theorem end_le {r : List UInt8} {x : Nm} {e : Nat} (h : endOf r x = some e) : pref r x.1 = true ∧ x.1.length ≤ e ∧ e ≤ x.1.length + 1 ∧ (e = x.1.length + 1 → r[x.1.length]? = some 59) := by
  unfold endOf at h
  by_cases hp : pref r x.1 = true
  · rw [if_pos hp] at h
    by_cases h1 : r[x.1.length]? = some 59
    · rw [if_pos h1] at h
      injection h with h
      exact ⟨hp, by omega, by omega, fun _ => h1⟩
    · rw [if_neg h1] at h
      by_cases h2 : x.2.2 = true
      · rw [if_pos h2] at h
        injection h with h
        exact ⟨hp, by omega, by omega, fun h3 => by omega⟩
      · rw [if_neg h2] at h; cases h
  · rw [if_neg hp] at h; cases h
theorem pref_get {r t : List UInt8} (h : pref r t = true) {j : Nat} (hj : j < t.length) : ∃ c ∈ t, r[j]? = some c := by
  have h1 := pref_take h
  refine ⟨t[j], List.getElem_mem hj, ?_⟩
  have h2 : (r.take t.length)[j]? = some t[j] := by rw [h1]; exact List.getElem?_eq_getElem hj
  rw [List.getElem?_take, if_pos hj] at h2
  exact h2
theorem name_same (r : List UInt8) (attr : Bool) : ∀ n, n ≤ r.length → (∀ x ∈ namesT, ∀ e, endOf r x = some e → x.1.length ≤ n) → encT (nameF r attr n) = refN r attr
  | 0, _, hm => by
    have hb : bestL r namesT = none := best_none fun y hy => by
      cases he : endOf r y with
      | none => rfl
      | some e =>
        have h1 := hm y hy e he
        have h2 := (names_all y hy).1.1
        omega
    unfold refN
    rw [hb]
    rfl
  | n + 1, hn, hm => by
    have hlen : (r.take (n + 1)).length = n + 1 := by rw [List.length_take]; omega
    by_cases hex : ∃ x ∈ namesT, x.1 = r.take (n + 1) ∧ ∃ e, endOf r x = some e
    · obtain ⟨x, hx, hxn, e, he⟩ := hex
      obtain ⟨⟨_, _⟩, hcl, hch, htx, hlo⟩ := names_all x hx
      have hxl : x.1.length = n + 1 := by rw [hxn, hlen]
      obtain ⟨hp, hle1, hle2, hle3⟩ := end_le he
      have hcn : r[n]? ≠ some 59 := by
        obtain ⟨c, hc, hrc⟩ := pref_get hp (j := n) (by omega)
        rw [hrc]
        intro h
        exact hcl c hc (Option.some.inj h)
      have hb := best_some hx he (fun y hy e' he' => by
        obtain ⟨hp', h1', h2', h3'⟩ := end_le he'
        have hyn := hm y hy e' he'
        by_cases hyl : y.1.length = n + 1
        · left
          refine names_nodup y hy x hx ?_
          rw [hxn, ← pref_take hp', hyl]
        · right
          rcases Nat.lt_or_ge e' e with h | h
          · exact h
          · exfalso
            have hyl2 : y.1.length = n := by omega
            have := h3' (by omega)
            rw [hyl2] at this
            exact hcn this)
      unfold refN
      rw [hb]
      simp only
      unfold endOf at he
      rw [if_pos hp, hxl] at he
      rw [nameF, ← hxn]
      by_cases hs : r[n + 1]? = some 59
      · rw [if_pos hs] at he
        injection he with he
        subst he
        have hR : (if attr = true ∧ r[n + 1 + 1 - 1]? ≠ some 59 ∧ goesL r (n + 1 + 1) = true then none else some (x.2.1, n + 1 + 1)) = some (x.2.1, n + 1 + 1) := if_neg (fun h => h.2.1 hs)
        rw [hR, if_pos hs]
        unfold chOf at hch htx
        by_cases hL : looseN x.1 = 0
        · rw [if_pos hL] at hch htx
          rw [if_pos hL, if_neg hch, ← htx]
          rfl
        · rw [if_neg hL] at hch htx
          rw [if_neg hL, if_neg hL, ← htx]
          rfl
      · rw [if_neg hs] at he
        by_cases h2 : x.2.2 = true
        · rw [if_pos h2] at he
          injection he with he
          subst he
          have hL := hlo.1 h2
          have hch2 : chOf x.1 = looseN x.1 := by unfold chOf; rw [if_neg hL]
          rw [if_neg hs]
          simp only [Nat.add_sub_cancel]
          by_cases hg : attr = true ∧ goesL r (n + 1) = true
          · have hR : (if attr = true ∧ r[n]? ≠ some 59 ∧ goesL r (n + 1) = true then none else some (x.2.1, n + 1)) = none := if_pos ⟨hg.1, hcn, hg.2⟩
            rw [hR, if_pos ⟨hg.1, hg.2, hL⟩]
            rfl
          · have hR : (if attr = true ∧ r[n]? ≠ some 59 ∧ goesL r (n + 1) = true then none else some (x.2.1, n + 1)) = some (x.2.1, n + 1) := if_neg (fun h => hg ⟨h.1, h.2.2⟩)
            rw [hR, if_neg (fun h => hg ⟨h.1, h.2.1⟩), if_neg hL, ← htx, hch2]
            rfl
        · rw [if_neg h2] at he; cases he
    · have hz : (r[n + 1]? = some 59 → looseN (r.take (n + 1)) = 0 ∧ strictN (r.take (n + 1)) = 0) ∧ looseN (r.take (n + 1)) = 0 := by
        have key : ∀ x ∈ namesT, x.1 = r.take (n + 1) → endOf r x = none := fun x hx hxn => by
          cases he : endOf r x with
          | none => rfl
          | some e => exact absurd ⟨x, hx, hxn, e, he⟩ hex
        have pf : ∀ x ∈ namesT, x.1 = r.take (n + 1) → pref r x.1 = true ∧ x.1.length = n + 1 := fun x hx hxn => by
          have h1 : x.1.length = n + 1 := by rw [hxn, hlen]
          refine ⟨?_, h1⟩
          unfold pref
          rw [h1, ← hxn]
          simp
        refine ⟨fun hs => ⟨?_, ?_⟩, ?_⟩
        · apply Classical.byContradiction
          intro h
          obtain ⟨x, hx, hxn⟩ := name_is (.inl h)
          have h1 := key x hx hxn
          obtain ⟨h2, h3⟩ := pf x hx hxn
          unfold endOf at h1
          rw [if_pos h2, h3, if_pos hs] at h1
          cases h1
        · apply Classical.byContradiction
          intro h
          obtain ⟨x, hx, hxn⟩ := name_is (.inr h)
          have h1 := key x hx hxn
          obtain ⟨h2, h3⟩ := pf x hx hxn
          unfold endOf at h1
          rw [if_pos h2, h3, if_pos hs] at h1
          cases h1
        · apply Classical.byContradiction
          intro h
          obtain ⟨x, hx, hxn⟩ := name_is (.inl h)
          have h1 := key x hx hxn
          obtain ⟨h2, h3⟩ := pf x hx hxn
          have h4 := (names_all x hx).2.2.2.2.2 (by rw [hxn]; exact h)
          unfold endOf at h1
          rw [if_pos h2, h3, h4] at h1
          by_cases hs : r[n + 1]? = some 59
          · rw [if_pos hs] at h1; cases h1
          · rw [if_neg hs, if_pos rfl] at h1; cases h1
      have hF : nameF r attr (n + 1) = nameF r attr n := by
        rw [nameF, hz.2]
        by_cases hs : r[n + 1]? = some 59
        · rw [if_pos hs, (hz.1 hs).2]
          simp
        · rw [if_neg hs]
          simp
      rw [hF]
      refine name_same r attr n (by omega) fun x hx e he => ?_
      have h1 := hm x hx e he
      rcases Nat.lt_or_ge x.1.length (n + 1) with h | h
      · omega
      · exfalso
        have hl : x.1.length = n + 1 := by omega
        exact hex ⟨x, hx, by rw [← hl]; exact (pref_take (end_le he).1).symm, e, he⟩
theorem nameR_same (r : List UInt8) (attr : Bool) : encT (nameR r attr) = refN r attr := by
  unfold nameR
  refine name_same r attr _ (Nat.min_le_right _ _) fun x hx e he => ?_
  have h7 := (names_all x hx).1.2
  have h1 := pref_take (end_le he).1
  have h2 : (r.take x.1.length).length = x.1.length := by rw [h1]
  rw [List.length_take] at h2
  omega
end Go.Proofs.YtbpdmbmooboimaaDoor.R9
