/- tags, as lists of bytes: what is written out is read. -/
import Derived.Test.YteeplfbaflldaaaDoorTgP
set_option linter.unusedVariables false
set_option linter.unusedSimpArgs false
namespace Go.Proofs.YteeplfbaflldaaaDoor.T10
open Go.RowKit R9

/-- A name that is told as it stands. -/
def NameOk (n : List UInt8) : Prop := n ≠ [] ∧ ∀ c ∈ n, blB c = false ∧ stopB c = false ∧ cleanB c = [c]
theorem NameOk.clean {n : List UInt8} (h : NameOk n) : cleanL n = n := by
  have key : ∀ l : List UInt8, (∀ c ∈ l, cleanB c = [c]) → cleanL l = l := by
    intro l
    induction l with
    | nil => intro _; rfl
    | cons c r ih =>
      intro h
      have : cleanL (c :: r) = cleanB c ++ cleanL r := by simp [cleanL]
      rw [this, h c (by simp), ih (fun x hx => h x (by simp [hx]))]
      rfl
  exact key n fun c hc => (h.2 c hc).2.2
theorem NameOk.stopA {n : List UInt8} (h : NameOk n) {c : UInt8} (hc : c ∈ n) : stopA c = false := by
  have := (h.2 c hc).2.1
  unfold stopB at this
  unfold T10.stopA
  simp at this ⊢
  exact ⟨this.1.1, this.1.2⟩
theorem up_name {p : UInt8 → Bool} (n r : List UInt8) (h : ∀ c ∈ n, blB c = false ∧ p c = false) (hr : ∀ c, r.head? = some c → blB c = true ∨ p c = true) : upN p (n ++ r) = n.length := by
  unfold upN
  refine tw_len _ _ _ (fun j hj => ?_) (fun c hc => ?_)
  · refine ⟨n[j], by rw [List.getElem?_append_left hj, List.getElem?_eq_getElem hj], ?_⟩
    have := h n[j] (List.getElem_mem hj)
    simp [this.1, this.2]
  · rw [List.getElem?_append_right (Nat.le_refl _), Nat.sub_self, ← List.head?_eq_getElem?] at hc
    rcases hr c hc with h | h <;> simp [h]
theorem attr_quoted {n v r : List UInt8} {q : UInt8} (hn : NameOk n) (hq : q = 34 ∨ q = 39) (hv : q ∉ v) :
    attrL (n ++ 61 :: q :: (v ++ q :: r)) = ((n, valL v), n.length + v.length + 3) := by
  obtain ⟨n0, nt, rfl⟩ : ∃ a b, n = a :: b := by
    cases n with
    | nil => exact absurd rfl hn.1
    | cons a b => exact ⟨a, b, rfl⟩
  have hup : upN stopB (nt ++ 61 :: q :: (v ++ q :: r)) = nt.length := up_name nt _ (fun c hc => ⟨(hn.2 c (by simp [hc])).1, (hn.2 c (by simp [hc])).2.1⟩) (fun c hc => by simp at hc; subst hc; exact .inr rfl)
  have hqb : blB q = false := by rcases hq with rfl | rfl <;> rfl
  have hq62 : ¬ q = 62 := by rcases hq with rfl | rfl <;> decide
  have hd1 : ((n0 :: nt) ++ 61 :: q :: (v ++ q :: r)).drop 1 = nt ++ 61 :: q :: (v ++ q :: r) := rfl
  have he : 1 + nt.length = (n0 :: nt).length := by simp; omega
  have hde : ((n0 :: nt) ++ 61 :: q :: (v ++ q :: r)).drop (n0 :: nt).length = 61 :: q :: (v ++ q :: r) := List.drop_left
  have hte : ((n0 :: nt) ++ 61 :: q :: (v ++ q :: r)).take (n0 :: nt).length = n0 :: nt := List.take_left
  have hs1 : skipN (61 :: q :: (v ++ q :: r)) = 0 := rfl
  have hg1 : ((n0 :: nt) ++ 61 :: q :: (v ++ q :: r))[(n0 :: nt).length]? = some 61 := by rw [List.getElem?_append_right (Nat.le_refl _), Nat.sub_self]; rfl
  have hd2 : ((n0 :: nt) ++ 61 :: q :: (v ++ q :: r)).drop ((n0 :: nt).length + 1) = q :: (v ++ q :: r) := by rw [← List.drop_drop, hde]; rfl
  have hs2 : skipN (q :: (v ++ q :: r)) = 0 := by unfold skipN; rw [List.takeWhile_cons, hqb]; rfl
  have hg2 : ((n0 :: nt) ++ 61 :: q :: (v ++ q :: r))[(n0 :: nt).length + 1]? = some q := by
    rw [← List.head?_drop, hd2]; rfl
  have hd3 : ((n0 :: nt) ++ 61 :: q :: (v ++ q :: r)).drop ((n0 :: nt).length + 1 + 1) = v ++ q :: r := by rw [← List.drop_drop, hd2]; rfl
  have hto : toN q (v ++ q :: r) = v.length := by
    unfold toN
    refine tw_len _ _ _ (fun j hj => ?_) (fun c hc => ?_)
    · refine ⟨v[j], by rw [List.getElem?_append_left hj, List.getElem?_eq_getElem hj], ?_⟩
      have hm := List.getElem_mem hj
      simp
      intro e
      exact hv (e ▸ hm)
    · rw [List.getElem?_append_right (Nat.le_refl _), Nat.sub_self] at hc
      simp at hc
      simp [hc]
  have hlen : ((n0 :: nt) ++ 61 :: q :: (v ++ q :: r)).length = (n0 :: nt).length + v.length + r.length + 3 := by simp; omega
  unfold attrL
  simp only [hd1, hup, he, hde, hs1, Nat.add_zero, hg1, if_true, hd2, hs2, hg2, if_neg hq62, if_pos hq, hd3, hto, hte, hn.clean]
  rw [if_pos (by rw [hlen]; omega), List.take_left]
  congr 1
  omega
theorem attr_open {n v : List UInt8} {q : UInt8} (hn : NameOk n) (hq : q = 34 ∨ q = 39) (hv : q ∉ v) :
    attrL (n ++ 61 :: q :: v) = ((n, []), (n ++ 61 :: q :: v).length) := by
  obtain ⟨n0, nt, rfl⟩ : ∃ a b, n = a :: b := by
    cases n with
    | nil => exact absurd rfl hn.1
    | cons a b => exact ⟨a, b, rfl⟩
  have hup : upN stopB (nt ++ 61 :: q :: v) = nt.length := up_name nt _ (fun c hc => ⟨(hn.2 c (by simp [hc])).1, (hn.2 c (by simp [hc])).2.1⟩) (fun c hc => by simp at hc; subst hc; exact .inr rfl)
  have hqb : blB q = false := by rcases hq with rfl | rfl <;> rfl
  have hq62 : ¬ q = 62 := by rcases hq with rfl | rfl <;> decide
  have hd1 : ((n0 :: nt) ++ 61 :: q :: v).drop 1 = nt ++ 61 :: q :: v := rfl
  have he : 1 + nt.length = (n0 :: nt).length := by simp; omega
  have hde : ((n0 :: nt) ++ 61 :: q :: v).drop (n0 :: nt).length = 61 :: q :: v := List.drop_left
  have hte : ((n0 :: nt) ++ 61 :: q :: v).take (n0 :: nt).length = n0 :: nt := List.take_left
  have hs1 : skipN (61 :: q :: v) = 0 := rfl
  have hg1 : ((n0 :: nt) ++ 61 :: q :: v)[(n0 :: nt).length]? = some 61 := by rw [List.getElem?_append_right (Nat.le_refl _), Nat.sub_self]; rfl
  have hd2 : ((n0 :: nt) ++ 61 :: q :: v).drop ((n0 :: nt).length + 1) = q :: v := by rw [← List.drop_drop, hde]; rfl
  have hs2 : skipN (q :: v) = 0 := by unfold skipN; rw [List.takeWhile_cons, hqb]; rfl
  have hg2 : ((n0 :: nt) ++ 61 :: q :: v)[(n0 :: nt).length + 1]? = some q := by
    rw [← List.head?_drop, hd2]; rfl
  have hd3 : ((n0 :: nt) ++ 61 :: q :: v).drop ((n0 :: nt).length + 1 + 1) = v := by rw [← List.drop_drop, hd2]; rfl
  have hto : toN q v = v.length := by
    unfold toN
    refine tw_len _ _ _ (fun j hj => ?_) (fun c hc => ?_)
    · refine ⟨v[j], List.getElem?_eq_getElem hj, ?_⟩
      have hm := List.getElem_mem hj
      simp
      intro e
      exact hv (e ▸ hm)
    · rw [List.getElem?_eq_none (Nat.le_refl _)] at hc
      cases hc
  have hlen : ((n0 :: nt) ++ 61 :: q :: v).length = (n0 :: nt).length + v.length + 2 := by simp; omega
  unfold attrL
  simp only [hd1, hup, he, hde, hs1, Nat.add_zero, hg1, if_true, hd2, hs2, hg2, if_neg hq62, if_pos hq, hd3, hto, hte, hn.clean]
  rw [if_neg (by rw [hlen]; omega)]

theorem rest_blank (k : Nat) (t : List UInt8) (acc : List At) (b : Bool) (i : Nat) : restF (k + 1) (32 :: t) acc b i = restF k t acc b (i + 1) := rfl
theorem rest_attr {n v r : List UInt8} {q : UInt8} (hn : NameOk n) (hq : q = 34 ∨ q = 39) (hv : q ∉ v) (k : Nat) (acc : List At) (b : Bool) (i : Nat) :
    restF (k + 1) (n ++ 61 :: q :: (v ++ q :: r)) acc b i = restF k r (acc ++ [(n, valL v)]) b (i + (n.length + v.length + 3)) := by
  have ha := attr_quoted (r := r) hn hq hv
  obtain ⟨n0, nt, rfl⟩ : ∃ a b, n = a :: b := by
    cases n with
    | nil => exact absurd rfl hn.1
    | cons a b => exact ⟨a, b, rfl⟩
  have h0 := hn.2 n0 (by simp)
  have hA := hn.stopA (c := n0) (by simp)
  unfold stopA at hA
  simp at hA
  show restF (k + 1) (n0 :: (nt ++ 61 :: q :: (v ++ q :: r))) acc b i = _
  conv => lhs; unfold restF
  rw [if_neg hA.2, if_neg (by rw [h0.1]; simp), if_neg hA.1]
  rw [show n0 :: (nt ++ 61 :: q :: (v ++ q :: r)) = (n0 :: nt) ++ 61 :: q :: (v ++ q :: r) from rfl, ha]
  simp only []
  congr 1
  have e : (n0 :: nt) ++ 61 :: q :: (v ++ q :: r) = ((n0 :: nt) ++ 61 :: q :: (v ++ [q])) ++ r := by simp
  rw [e, List.drop_left' (by simp; omega)]
theorem rest_open {n v : List UInt8} {q : UInt8} (hn : NameOk n) (hq : q = 34 ∨ q = 39) (hv : q ∉ v) (k : Nat) (acc : List At) (b : Bool) (i : Nat) :
    restF k (n ++ 61 :: q :: v) acc b i = none := by
  cases k with
  | zero => rfl
  | succ k =>
    have ha := attr_open hn hq hv
    obtain ⟨n0, nt, rfl⟩ : ∃ a b, n = a :: b := by
      cases n with
      | nil => exact absurd rfl hn.1
      | cons a b => exact ⟨a, b, rfl⟩
    have h0 := hn.2 n0 (by simp)
    have hA := hn.stopA (c := n0) (by simp)
    unfold stopA at hA
    simp at hA
    show restF (k + 1) (n0 :: (nt ++ 61 :: q :: v)) acc b i = _
    unfold restF
    rw [if_neg hA.2, if_neg (by rw [h0.1]; simp), if_neg hA.1]
    rw [show n0 :: (nt ++ 61 :: q :: v) = (n0 :: nt) ++ 61 :: q :: v from rfl, ha]
    simp only []
    rw [List.drop_of_length_le (Nat.le_refl _)]
    cases k <;> rfl

/-- A tag begins: its name, what stands behind it. -/
theorem begin_start {pre nm r : List UInt8} {c : UInt8} (hc : alI c.toNat = true) : beginL (pre ++ 60 :: c :: r) pre.length = (pre.length + 1, false) := by
  have g0 : (pre ++ 60 :: c :: r)[pre.length]? = some 60 := by rw [List.getElem?_append_right (Nat.le_refl _), Nat.sub_self]; rfl
  have g1 : (pre ++ 60 :: c :: r)[pre.length + 1]? = some c := by rw [List.getElem?_append_right (by omega), Nat.add_sub_cancel_left]; rfl
  have h47 : ¬ c = 47 := by rintro rfl; simp [alI, upI] at hc
  unfold beginL
  rw [if_pos g0, g1, if_neg (by simpa using h47)]
  simp only []
  rw [if_pos hc]
theorem begin_end {pre nm r : List UInt8} {c : UInt8} (hc : alI c.toNat = true) : beginL (pre ++ 60 :: 47 :: c :: r) pre.length = (pre.length + 2, true) := by
  have g0 : (pre ++ 60 :: 47 :: c :: r)[pre.length]? = some 60 := by rw [List.getElem?_append_right (Nat.le_refl _), Nat.sub_self]; rfl
  have g1 : (pre ++ 60 :: 47 :: c :: r)[pre.length + 1]? = some 47 := by rw [List.getElem?_append_right (by omega), Nat.add_sub_cancel_left]; rfl
  have g2 : (pre ++ 60 :: 47 :: c :: r)[pre.length + 2]? = some c := by rw [List.getElem?_append_right (by omega), Nat.add_sub_cancel_left]; rfl
  unfold beginL
  rw [if_pos g0, if_pos g1, g2]
  simp only []
  rw [if_pos hc]
theorem read_start {pre nm r : List UInt8} {acc : List At} {b : Bool} {k j : Nat} (hn : NameOk nm) (hal : ∀ c, nm.head? = some c → alI c.toNat = true) (hr : ∀ c, r.head? = some c → blB c = true ∨ stopA c = true)
    (h : restF k r [] false (pre.length + 1 + nm.length) = some (acc, b, j)) : readL (pre ++ 60 :: (nm ++ r)) pre.length = some ⟨false, nm, (keepL acc).1, (keepL acc).2, b, j⟩ := by
  obtain ⟨n0, nt, rfl⟩ : ∃ a b, nm = a :: b := by
    cases nm with
    | nil => exact absurd rfl hn.1
    | cons a b => exact ⟨a, b, rfl⟩
  have hb : beginL (pre ++ 60 :: ((n0 :: nt) ++ r)) pre.length = (pre.length + 1, false) := begin_start (nm := nt) (hal n0 rfl)
  have hd : (pre ++ 60 :: ((n0 :: nt) ++ r)).drop (pre.length + 1) = (n0 :: nt) ++ r := by rw [← List.drop_drop, List.drop_left]; rfl
  have hu : upN stopA ((n0 :: nt) ++ r) = (n0 :: nt).length := up_name _ _ (fun c hc => ⟨(hn.2 c hc).1, hn.stopA hc⟩) hr
  have hd2 : (pre ++ 60 :: ((n0 :: nt) ++ r)).drop (pre.length + 1 + (n0 :: nt).length) = r := by rw [← List.drop_drop, hd, List.drop_left]
  unfold readL
  rw [hb]
  simp only []
  rw [if_neg (by omega), hd, hu, hd2, rest_fuel k _ _ _ _ _ _ h (by simp; omega), List.take_left, hn.clean]
  rfl
theorem read_fin {pre nm r : List UInt8} {acc : List At} {b : Bool} {k j : Nat} (hn : NameOk nm) (hal : ∀ c, nm.head? = some c → alI c.toNat = true) (hr : ∀ c, r.head? = some c → blB c = true ∨ stopA c = true)
    (h : restF k r [] false (pre.length + 2 + nm.length) = some (acc, b, j)) : readL (pre ++ 60 :: 47 :: (nm ++ r)) pre.length = some ⟨true, nm, [], false, false, j⟩ := by
  obtain ⟨n0, nt, rfl⟩ : ∃ a b, nm = a :: b := by
    cases nm with
    | nil => exact absurd rfl hn.1
    | cons a b => exact ⟨a, b, rfl⟩
  have hb : beginL (pre ++ 60 :: 47 :: ((n0 :: nt) ++ r)) pre.length = (pre.length + 2, true) := begin_end (nm := nt) (hal n0 rfl)
  have hd : (pre ++ 60 :: 47 :: ((n0 :: nt) ++ r)).drop (pre.length + 2) = (n0 :: nt) ++ r := by rw [← List.drop_drop, List.drop_left]; rfl
  have hu : upN stopA ((n0 :: nt) ++ r) = (n0 :: nt).length := up_name _ _ (fun c hc => ⟨(hn.2 c hc).1, hn.stopA hc⟩) hr
  have hd2 : (pre ++ 60 :: 47 :: ((n0 :: nt) ++ r)).drop (pre.length + 2 + (n0 :: nt).length) = r := by rw [← List.drop_drop, hd, List.drop_left]
  unfold readL
  rw [hb]
  simp only []
  rw [if_neg (by omega), hd, hu, hd2, rest_fuel k _ _ _ _ _ _ h (by simp; omega), List.take_left, hn.clean]
  rfl
theorem read_start_none {pre nm r : List UInt8} (hn : NameOk nm) (hal : ∀ c, nm.head? = some c → alI c.toNat = true) (hr : ∀ c, r.head? = some c → blB c = true ∨ stopA c = true)
    (h : ∀ k i, restF k r [] false i = none) : readL (pre ++ 60 :: (nm ++ r)) pre.length = none := by
  obtain ⟨n0, nt, rfl⟩ : ∃ a b, nm = a :: b := by
    cases nm with
    | nil => exact absurd rfl hn.1
    | cons a b => exact ⟨a, b, rfl⟩
  have hb : beginL (pre ++ 60 :: ((n0 :: nt) ++ r)) pre.length = (pre.length + 1, false) := begin_start (nm := nt) (hal n0 rfl)
  have hd : (pre ++ 60 :: ((n0 :: nt) ++ r)).drop (pre.length + 1) = (n0 :: nt) ++ r := by rw [← List.drop_drop, List.drop_left]; rfl
  have hu : upN stopA ((n0 :: nt) ++ r) = (n0 :: nt).length := up_name _ _ (fun c hc => ⟨(hn.2 c hc).1, hn.stopA hc⟩) hr
  have hd2 : (pre ++ 60 :: ((n0 :: nt) ++ r)).drop (pre.length + 1 + (n0 :: nt).length) = r := by rw [← List.drop_drop, hd, List.drop_left]
  unfold readL
  rw [hb]
  simp only []
  rw [if_neg (by omega), hd, hu, hd2, h]
/-- What stands in quotes is in the attribute. -/
theorem swallow {v beh : List UInt8} {q : UInt8} (hq : q = 34 ∨ q = 39) (hv : q ∉ v) : readL (60 :: 112 :: 32 :: 113 :: 61 :: q :: (v ++ q :: 62 :: beh)) 0 = some ⟨false, [112], [([113], valL v)], false, false, v.length + 8⟩ := by
  have h113 : NameOk [113] := ⟨by simp, fun c hc => by simp at hc; subst hc; decide⟩
  have h112 : NameOk [112] := ⟨by simp, fun c hc => by simp at hc; subst hc; decide⟩
  have h1 : restF 3 (32 :: ([113] ++ 61 :: q :: (v ++ q :: 62 :: beh))) [] false (([] : List UInt8).length + 1 + [112].length) = some ([([113], valL v)], false, v.length + 8) := by
    rw [rest_blank, rest_attr h113 hq hv]
    show some _ = some _
    simp
    omega
  exact read_start (pre := []) h112 (fun c hc => by simp at hc; subst hc; decide) (fun c hc => by simp at hc; subst hc; exact .inl rfl) h1
theorem swallow_none {v : List UInt8} {q : UInt8} (hq : q = 34 ∨ q = 39) (hv : q ∉ v) : readL (60 :: 112 :: 32 :: 113 :: 61 :: q :: v) 0 = none := by
  have h113 : NameOk [113] := ⟨by simp, fun c hc => by simp at hc; subst hc; decide⟩
  have h112 : NameOk [112] := ⟨by simp, fun c hc => by simp at hc; subst hc; decide⟩
  have h1 : ∀ (k i : Nat), restF k (32 :: ([113] ++ 61 :: q :: v)) [] false i = none := by
    intro k i
    cases k with
    | zero => rfl
    | succ k => rw [rest_blank]; exact rest_open h113 hq hv k _ _ _
  have h2 := read_start_none (pre := []) (nm := [112]) (r := 32 :: ([113] ++ 61 :: q :: v)) h112 (fun c hc => by simp at hc; subst hc; decide) (fun c hc => by simp at hc; subst hc; exact .inl rfl) h1
  exact h2
end Go.Proofs.YteeplfbaflldaaaDoor.T10
