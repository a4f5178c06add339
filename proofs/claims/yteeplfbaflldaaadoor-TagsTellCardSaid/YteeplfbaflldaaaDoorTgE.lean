/- tags, as lists of bytes: names of letters, values written out; lazaretlaw10.plain, written. -/
import Derived.Test.YteeplfbaflldaaaDoorTgW
import Derived.Test.YteeplfbaflldaaaDoorTg6
set_option linter.unusedVariables false
set_option linter.unusedSimpArgs false
namespace Go.Proofs.YteeplfbaflldaaaDoor.T10
open Go.RowKit R9

theorem all_bytes {p : UInt8 → Prop} [DecidablePred p] (h : (List.range 256).all (fun k => decide (p (UInt8.ofNat k))) = true) (x : UInt8) : p x := by
  have := List.all_eq_true.1 h x.toNat (List.mem_range.2 x.toNat_lt)
  simpa using this
def plB (c : UInt8) : UInt8 := 97 + c % 26
def plainL (l : List UInt8) : List UInt8 := 110 :: l.map plB
theorem plB_ok (c : UInt8) : blB (plB c) = false ∧ stopB (plB c) = false ∧ cleanB (plB c) = [plB c] ∧ alI (plB c).toNat = true ∧ ((plB c).toNat : Int) = 97 + (c.toNat : Int) % 26 :=
  all_bytes (p := fun c => blB (plB c) = false ∧ stopB (plB c) = false ∧ cleanB (plB c) = [plB c] ∧ alI (plB c).toNat = true ∧ ((plB c).toNat : Int) = 97 + (c.toNat : Int) % 26) (by decide +kernel) c
theorem plain_ok (l : List UInt8) : NameOk (plainL l) := by
  refine ⟨by simp [plainL], fun c hc => ?_⟩
  simp only [plainL, List.mem_cons, List.mem_map] at hc
  rcases hc with rfl | ⟨d, _, rfl⟩
  · decide
  · exact ⟨(plB_ok d).1, (plB_ok d).2.1, (plB_ok d).2.2.1⟩
theorem plain_al (l : List UInt8) : ∀ c, (plainL l).head? = some c → alI c.toNat = true := by
  intro c hc
  simp [plainL] at hc
  subst hc
  decide
def escB (c : UInt8) : List UInt8 := if c = 0 then [111] else if c = 38 then [38, 97, 109, 112, 59] else if c = 34 then [38, 113, 117, 111, 116, 59] else [c]
def escL (l : List UInt8) : List UInt8 := l.flatMap escB
def oB (c : UInt8) : UInt8 := if c = 0 then 111 else c
def oL (l : List UInt8) : List UInt8 := l.map oB
theorem esc_len (l : List UInt8) : (escL l).length ≤ 6 * l.length := by
  induction l with
  | nil => simp [escL]
  | cons c r ih =>
    have : (escL (c :: r)).length = (escB c).length + (escL r).length := by simp [escL]
    rw [this]
    have : (escB c).length ≤ 6 := by
      unfold escB
      split
      · simp
      · split
        · simp
        · split <;> simp
    simp
    omega
theorem esc_no (l : List UInt8) : (34 : UInt8) ∉ escL l := by
  intro h
  obtain ⟨c, _, hc⟩ := List.mem_flatMap.1 h
  unfold escB at hc
  split at hc
  · simp at hc
  · split at hc
    · simp at hc
    · split at hc
      · simp at hc
      · simp at hc
        exact absurd hc.symm (by assumption)
theorem look_none (t : List (List UInt8 × Int)) (l : List UInt8) (h : ∀ x ∈ t, x.1 ≠ l) : R9.look t l = 0 := by
  by_cases e : R9.look t l = 0
  · exact e
  · obtain ⟨x, hx, h1, _⟩ := look_mem t l e
    exact absurd h1.symm (h x hx)
theorem no_semi : ∀ x ∈ (looseA ++ looseB) ++ (strictA ++ strictB), (59 : UInt8) ∉ x.1 := by decide
theorem loose_semi {l : List UInt8} (h : (59 : UInt8) ∈ l) : looseN l = 0 := look_none _ _ fun x hx e => no_semi x (List.mem_append_left _ hx) (e ▸ h)
theorem strict_semi {l : List UInt8} (h : (59 : UInt8) ∈ l) : strictN l = 0 := look_none _ _ fun x hx e => no_semi x (List.mem_append_right _ hx) (e ▸ h)
theorem nameF_semi {nm rest : List UInt8} {c : Int} (hne : nm ≠ []) (hc : looseN nm = c) (hc0 : ¬ c = 0) : ∀ n, nm.length ≤ n → nameF (nm ++ 59 :: rest) true n = some (c, nm.length + 1)
  | 0, h => absurd (List.eq_nil_of_length_eq_zero (by omega)) hne
  | n + 1, h => by
    by_cases e : nm.length = n + 1
    · have hg : (nm ++ 59 :: rest)[n + 1]? = some 59 := by rw [← e, List.getElem?_append_right (Nat.le_refl _), Nat.sub_self]; rfl
      have ht : (nm ++ 59 :: rest).take (n + 1) = nm := by rw [← e, List.take_left]
      unfold nameF
      rw [if_pos hg, ht, hc, if_neg hc0, if_neg hc0, e]
    · have hm : (59 : UInt8) ∈ (nm ++ 59 :: rest).take (n + 1) := by
        have e2 : (nm ++ 59 :: rest).take (n + 1) = nm ++ (59 :: rest).take (n + 1 - nm.length) := by
          rw [List.take_append, List.take_of_length_le (by omega)]
        rw [e2, show n + 1 - nm.length = (n - nm.length) + 1 by omega]
        simp
      have ih := nameF_semi (rest := rest) hne hc hc0 n (by omega)
      unfold nameF
      rw [loose_semi hm, strict_semi hm]
      simp [ih]
theorem find_semi {nm rest : List UInt8} {c : Int} (hne : nm ≠ []) (h35 : nm.head? ≠ some 35) (h7 : nm.length ≤ 7) (hc : looseN nm = c) (hc0 : ¬ c = 0) : findS (38 :: (nm ++ 59 :: rest)) true = some (c, nm.length + 2) := by
  have hh : (nm ++ 59 :: rest).head? ≠ some 35 := by
    cases nm with
    | nil => exact absurd rfl hne
    | cons a b => simpa using h35
  unfold findS
  rw [if_pos (show (38 :: (nm ++ 59 :: rest)).head? = some 38 from rfl)]
  rw [show (38 :: (nm ++ 59 :: rest)).drop 1 = nm ++ 59 :: rest from rfl, if_neg hh]
  unfold nameR
  rw [nameF_semi hne hc hc0 _ (by rw [List.length_append]; simp; omega)]
  rfl
theorem val_amp (r : List UInt8) : valL (38 :: 97 :: 109 :: 112 :: 59 :: r) = 38 :: valL r := by
  have h : findS (38 :: ([97, 109, 112] ++ 59 :: r)) true = some (38, 5) := find_semi (by simp) (by simp) (by simp) (by decide) (by decide)
  have h2 := val_hit (l := 38 :: 97 :: 109 :: 112 :: 59 :: r) (k := 0) h
  exact h2
theorem val_quot (r : List UInt8) : valL (38 :: 113 :: 117 :: 111 :: 116 :: 59 :: r) = 34 :: valL r := by
  have h : findS (38 :: ([113, 117, 111, 116] ++ 59 :: r)) true = some (34, 6) := find_semi (by simp) (by simp) (by simp) (by decide) (by decide)
  have h2 := val_hit (l := 38 :: 113 :: 117 :: 111 :: 116 :: 59 :: r) (k := 0) h
  exact h2
theorem val_byte {c : UInt8} (r : List UInt8) (h : ¬ c = 38) (h0 : ¬ c = 0) : valL (c :: r) = c :: valL r := by
  have hf : findS (c :: r) true = none := by unfold findS; rw [if_neg (by simpa using h)]
  have h2 := val_miss (l := c :: r) (k := 0) (c := c) rfl hf
  rw [if_neg h0] at h2
  exact h2
theorem val_esc (l : List UInt8) : valL (escL l) = oL l := by
  induction l with
  | nil => rfl
  | cons c r ih =>
    have e : escL (c :: r) = escB c ++ escL r := by simp [escL]
    rw [e]
    show _ = oB c :: oL r
    unfold escB oB
    by_cases h0 : c = 0
    · rw [if_pos h0, if_pos h0, ← ih]
      exact val_byte _ (by decide) (by decide)
    · rw [if_neg h0, if_neg h0]
      by_cases h38 : c = 38
      · rw [if_pos h38, h38, ← ih]
        exact val_amp _
      · rw [if_neg h38]
        by_cases h34 : c = 34
        · rw [if_pos h34, h34, ← ih]
          exact val_quot _
        · rw [if_neg h34, ← ih]
          exact val_byte _ h38 h0
/-- An attribute written out. -/
def attrT (n v : List UInt8) : List UInt8 := 32 :: (n ++ 61 :: 34 :: (escL v ++ [34]))
theorem rest_written (n v r : List UInt8) (k : Nat) (acc : List At) (b : Bool) (i : Nat) :
    restF (k + 2) (attrT (plainL n) v ++ r) acc b i = restF k r (acc ++ [(plainL n, oL v)]) b (i + (attrT (plainL n) v).length) := by
  have e : attrT (plainL n) v ++ r = 32 :: (plainL n ++ 61 :: 34 :: (escL v ++ 34 :: r)) := by simp [attrT]
  rw [e, rest_blank, rest_attr (plain_ok n) (.inl rfl) (esc_no v), val_esc]
  congr 1
  simp [attrT]
  omega
theorem attrT_len (n v : List UInt8) : (attrT n v).length = n.length + (escL v).length + 4 := by simp [attrT]; omega
end Go.Proofs.YteeplfbaflldaaaDoor.T10
