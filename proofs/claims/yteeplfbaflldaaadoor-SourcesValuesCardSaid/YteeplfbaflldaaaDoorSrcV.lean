/- sources, as lists: what the program reads and writes; cases, cuts, ports. No program. sources, as lists: what is read, written, is read again. No program. sources: what is read, as values. -/
import Derived.Test.YteeplfbaflldaaaDoorSrc16
import Derived.Lib.ItoaNum
import Derived.Lib.IndexLaws
import Derived.Lib.CutLaws
set_option linter.unusedVariables false
set_option linter.unusedSimpArgs false
namespace Go.Proofs.YteeplfbaflldaaaDoor.S25
open T10

/-- A source expression's parts, as lists of bytes. -/
structure SrcL where
  kind : Int
  text : List UInt8
  bits : Int
  scheme : List UInt8
  host : List UInt8
  wild : Bool
  port : Int
  path : List UInt8
def quoL (l : List UInt8) : Option SrcL :=
  if lowL l ∈ kws.map (·.data.toList) then some ⟨1, lowL l, 0, [], [], false, -1, []⟩
  else if (Lib.cut (lowL l) [45]).2.2 = false then none
  else if b64B (l.drop ((Lib.cut (lowL l) [45]).1.length + 1)) = false then none
  else if (Lib.cut (lowL l) [45]).1 = [110, 111, 110, 99, 101] then some ⟨4, l.drop ((Lib.cut (lowL l) [45]).1.length + 1), 0, [], [], false, -1, []⟩
  else if (Lib.cut (lowL l) [45]).1 = [115, 104, 97, 50, 53, 54] then some ⟨5, l.drop ((Lib.cut (lowL l) [45]).1.length + 1), 256, [], [], false, -1, []⟩
  else if (Lib.cut (lowL l) [45]).1 = [115, 104, 97, 51, 56, 52] then some ⟨5, l.drop ((Lib.cut (lowL l) [45]).1.length + 1), 384, [], [], false, -1, []⟩
  else if (Lib.cut (lowL l) [45]).1 = [115, 104, 97, 53, 49, 50] then some ⟨5, l.drop ((Lib.cut (lowL l) [45]).1.length + 1), 512, [], [], false, -1, []⟩
  else none
def restL (l : List UInt8) : List UInt8 := if Lib.hasPrefix l [42, 46] = true then l.drop 2 else l
def nameL (l : List UInt8) : Option (List UInt8 × Bool) :=
  if l = [42] then some ([], true) else if labB (restL l) = true then some (lowL (restL l), Lib.hasPrefix l [42, 46]) else none
def schL (l : List UInt8) : Option (List UInt8) :=
  if (Lib.cut l [58, 47, 47]).2.2 = true then (if schB (Lib.cut l [58, 47, 47]).1 = true then some (lowL (Lib.cut l [58, 47, 47]).1) else none) else some []
def behL (l : List UInt8) : List UInt8 := if (Lib.cut l [58, 47, 47]).2.2 = true then (Lib.cut l [58, 47, 47]).2.1 else l
def pathL (l : List UInt8) : List UInt8 := if 0 ≤ Lib.indexByte l 47 then l.drop (Lib.indexByte l 47).toNat else []
def headL (l : List UInt8) : List UInt8 := if 0 ≤ Lib.indexByte l 47 then l.take (Lib.indexByte l 47).toNat else l
def portS (l : List UInt8) : Option Int := if (Lib.cut l [58]).2.2 = true then portL (Lib.cut l [58]).2.1 else some (-1)
/-- A host, and what may stand around it, behind its scheme. -/
def tailL (sc : List UInt8) (r : List UInt8) : Option SrcL :=
  match nameL (Lib.cut (headL r) [58]).1, portS (headL r) with
  | some (ho, wi), some po => if (pathL r).all pathC = true then some ⟨3, [], 0, sc, ho, wi, po, pathL r⟩ else none
  | _, _ => none
def hostL (l : List UInt8) : Option SrcL := match schL l with
  | some sc => tailL sc (behL l)
  | none => none
def parseL (l : List UInt8) : Option SrcL :=
  if 2 ≤ l.length ∧ l.head? = some 39 ∧ l.getLast? = some 39 then quoL ((l.drop 1).take (l.length - 2))
  else if Lib.hasSuffix l [58] = true ∧ schB (l.take (l.length - 1)) = true then some ⟨2, [], 0, lowL (l.take (l.length - 1)), [], false, -1, []⟩
  else hostL l
def hostT (s : SrcL) : List UInt8 :=
  (if s.scheme = [] then [] else s.scheme ++ [58, 47, 47]) ++ (if s.wild = true then (if s.host = [] then [42] else [42, 46] ++ s.host) else s.host) ++
    (if s.port = -2 then [58, 42] else if 0 ≤ s.port then 58 :: Lib.itoa s.port else []) ++ s.path
def textS (s : SrcL) : List UInt8 :=
  if s.kind = 1 then [39] ++ s.text ++ [39]
  else if s.kind = 4 then [39, 110, 111, 110, 99, 101, 45] ++ s.text ++ [39]
  else if s.kind = 5 then [39, 115, 104, 97] ++ Lib.itoa s.bits ++ [45] ++ s.text ++ [39]
  else if s.kind = 2 then s.scheme ++ [58]
  else if s.kind = 3 then hostT s
  else []
theorem u8_all {P : UInt8 → Bool} (h : (List.range 256).all (fun n => P (UInt8.ofNat n)) = true) (c : UInt8) : P c = true := by
  have h1 := List.all_eq_true.1 h c.toNat (List.mem_range.2 c.toNat_lt)
  simpa using h1
theorem low_low (c : UInt8) : lowB (lowB c) = lowB c := by
  have h := u8_all (P := fun c => lowB (lowB c) == lowB c) (by decide +kernel) c
  simpa using h
theorem low_sch (c : UInt8) : wordC schC (lowB c) = wordC schC c := by
  have h := u8_all (P := fun c => wordC schC (lowB c) == wordC schC c) (by decide +kernel) c
  simpa using h
theorem low_dash (c : UInt8) : wordC dashC (lowB c) = wordC dashC c := by
  have h := u8_all (P := fun c => wordC dashC (lowB c) == wordC dashC c) (by decide +kernel) c
  simpa using h
theorem low_al (c : UInt8) : alI ((lowB c).toNat : Int) = alI (c.toNat : Int) := by
  have h := u8_all (P := fun c => alI ((lowB c).toNat : Int) == alI (c.toNat : Int)) (by decide +kernel) c
  simpa using h
theorem low_46 (c : UInt8) : (lowB c = 46) ↔ (c = 46) := by
  have h := u8_all (P := fun c => (lowB c == 46) == (c == 46)) (by decide +kernel) c
  have h : (lowB c == 46) = (c == 46) := by simpa using h
  rw [← beq_iff_eq, ← beq_iff_eq (a := c), h]
theorem dash_ok (c : UInt8) (h : wordC dashC c = true) : c ≠ 58 ∧ c ≠ 47 ∧ c ≠ 42 ∧ c ≠ 39 ∧ c ≠ 46 := by
  have h2 := u8_all (P := fun c => !(wordC dashC c) || (c != 58 && c != 47 && c != 42 && c != 39 && c != 46)) (by decide +kernel) c
  rw [h] at h2
  simp at h2
  exact ⟨h2.1.1.1.1, h2.1.1.1.2, h2.1.1.2, h2.1.2, h2.2⟩
theorem sch_ok (c : UInt8) (h : wordC schC c = true) : c ≠ 58 ∧ c ≠ 47 ∧ c ≠ 39 := by
  have h2 := u8_all (P := fun c => !(wordC schC c) || (c != 58 && c != 47 && c != 39)) (by decide +kernel) c
  rw [h] at h2
  simp at h2
  exact ⟨h2.1.1, h2.1.2, h2.2⟩
theorem al_ok (c : UInt8) (h : alI (c.toNat : Int) = true) : c ≠ 39 := by
  have h2 := u8_all (P := fun c => !(alI (c.toNat : Int)) || (c != 39)) (by decide +kernel) c
  rw [h] at h2
  simpa using h2
theorem lowL_lowL (l : List UInt8) : lowL (lowL l) = lowL l := by
  unfold lowL
  rw [List.map_map]
  exact List.map_congr_left (fun c _ => low_low c)
theorem wordB_low {p : UInt8 → Bool} (hp : ∀ c, wordC p (lowB c) = wordC p c) (l : List UInt8) : wordB p (lowL l) = wordB p l := by
  unfold wordB lowL
  rw [List.all_map]
  congr 1
  · cases l <;> rfl
  · congr 1
    funext c
    exact hp c
theorem schB_low (l : List UInt8) : schB (lowL l) = schB l := by
  unfold schB
  rw [wordB_low low_sch]
  cases l with
  | nil => rfl
  | cons a r =>
    show (alI ((lowB a).toNat : Int) && _) = _
    rw [low_al]
    rfl
theorem spl_low (l : List UInt8) : spl 46 (lowL l) = (spl 46 l).map lowL := by
  induction l with
  | nil => rfl
  | cons x r ih =>
    show spl 46 (lowB x :: lowL r) = _
    rw [spl_cons, spl_cons]
    by_cases h : x = 46
    · rw [if_pos ((low_46 x).2 h), if_pos h, ih]; rfl
    · rw [if_neg (fun e => h ((low_46 x).1 e)), if_neg h, ih]
      cases hs : spl 46 r with
      | nil => rfl
      | cons a b => rfl
theorem labB_low (l : List UInt8) : labB (lowL l) = labB l := by
  unfold labB
  rw [spl_low, List.all_map]
  congr 1
  funext p
  exact wordB_low low_dash p
theorem labB_chars : ∀ (l : List UInt8), labB l = true → ∀ c ∈ l, c = 46 ∨ wordC dashC c = true := by
  intro l h
  have aux : ∀ (l : List UInt8), (∀ p ∈ spl 46 l, ∀ c ∈ p, wordC dashC c = true) → ∀ c ∈ l, c = 46 ∨ wordC dashC c = true := by
    intro l
    induction l with
    | nil => intro _ c hc; cases hc
    | cons x r ih =>
      intro h c hc
      rw [spl_cons] at h
      by_cases hx : x = 46
      · rw [if_pos hx] at h
        rcases List.mem_cons.1 hc with rfl | hc
        · exact .inl hx
        · exact ih (fun p hp => h p (List.mem_cons_of_mem _ hp)) c hc
      · rw [if_neg hx] at h
        cases hs : spl 46 r with
        | nil => exact absurd hs (spl_ne 46 r)
        | cons q qs =>
          rw [hs] at h ih
          rcases List.mem_cons.1 hc with rfl | hc
          · exact .inr (h (c :: q) List.mem_cons_self c List.mem_cons_self)
          · refine ih ?_ c hc
            intro p hp d hd
            rcases List.mem_cons.1 hp with rfl | hp
            · exact h (x :: p) List.mem_cons_self d (List.mem_cons_of_mem _ hd)
            · exact h p (List.mem_cons_of_mem _ hp) d hd
  refine aux l ?_
  intro p hp c hc
  unfold labB at h
  have h1 := List.all_eq_true.1 h p hp
  unfold wordB at h1
  simp only [Bool.and_eq_true] at h1
  exact List.all_eq_true.1 h1.2 c hc
theorem labB_ok {l : List UInt8} (h : labB l = true) : ∀ c ∈ l, c ≠ 58 ∧ c ≠ 47 ∧ c ≠ 42 ∧ c ≠ 39 := by
  intro c hc
  rcases labB_chars l h c hc with rfl | h2
  · decide
  · have := dash_ok c h2
    exact ⟨this.1, this.2.1, this.2.2.1, this.2.2.2.1⟩
theorem labB_ne {l : List UInt8} (h : labB l = true) : l ≠ [] := by
  rintro rfl
  exact absurd h (by decide)
/-- A host's name, written. -/
def nameT (ho : List UInt8) (wi : Bool) : List UInt8 := if wi = true then (if ho = [] then [42] else [42, 46] ++ ho) else ho
theorem nameL_back {N ho : List UInt8} {wi : Bool} (h : nameL N = some (ho, wi)) : nameL (nameT ho wi) = some (ho, wi) ∧ (∀ c ∈ nameT ho wi, c ≠ 58 ∧ c ≠ 47 ∧ c ≠ 39) ∧ nameT ho wi ≠ [] := by
  unfold nameL at h
  by_cases h1 : N = [42]
  · rw [if_pos h1] at h
    injection h with h
    injection h with h2 h3
    subst h2 h3
    exact ⟨by decide, by decide, by decide⟩
  · rw [if_neg h1] at h
    by_cases h2 : labB (restL N) = true
    · rw [if_pos h2] at h
      injection h with h
      injection h with h3 h4
      have hl : labB ho = true := by rw [← h3, labB_low]; exact h2
      have hlo : lowL ho = ho := by rw [← h3, lowL_lowL]
      have hne := labB_ne hl
      have hok := labB_ok hl
      unfold nameT
      cases wi with
      | true =>
        rw [if_pos rfl, if_neg hne]
        refine ⟨?_, ?_, by simp⟩
        · unfold nameL
          rw [if_neg (by simp [hne])]
          have e1 : Lib.hasPrefix ([42, 46] ++ ho) [42, 46] = true := by unfold Lib.hasPrefix; simp
          have e2 : restL ([42, 46] ++ ho) = ho := by unfold restL; rw [if_pos e1]; rfl
          rw [e2, if_pos hl, hlo, e1]
        · intro c hc
          rcases List.mem_append.1 hc with hc | hc
          · simp at hc; rcases hc with rfl | rfl <;> decide
          · have := hok c hc; exact ⟨this.1, this.2.1, this.2.2.2⟩
      | false =>
        rw [if_neg (by simp)]
        refine ⟨?_, ?_, hne⟩
        · unfold nameL
          have n42 : ho ≠ [42] := by rintro rfl; exact absurd hl (by decide)
          rw [if_neg n42]
          have e1 : Lib.hasPrefix ho [42, 46] = false := by
            cases ho with
            | nil => rfl
            | cons a r =>
              have := (hok a List.mem_cons_self).2.2.1
              unfold Lib.hasPrefix
              simp only [List.isPrefixOf, Bool.and_eq_false_iff]
              left
              rw [beq_eq_false_iff_ne]
              exact fun e => this e.symm
          have e2 : restL ho = ho := by unfold restL; rw [e1]; rfl
          rw [e2, if_pos hl, hlo, e1]
        · intro c hc
          have := hok c hc
          exact ⟨this.1, this.2.1, this.2.2.2⟩
    · rw [if_neg h2] at h; cases h
/-! Cuts -/
theorem ib_none {a : List UInt8} {d : UInt8} (h : ∀ c ∈ a, c ≠ d) : Lib.indexByte a d = -1 := by
  induction a with
  | nil => rfl
  | cons x r ih =>
    unfold Lib.indexByte
    rw [ih fun c hc => h c (List.mem_cons_of_mem _ hc), if_neg (by simpa using h x List.mem_cons_self)]
    rfl
theorem ib_app {a b : List UInt8} {d : UInt8} (h : ∀ c ∈ a, c ≠ d) : Lib.indexByte (a ++ d :: b) d = a.length := by
  induction a with
  | nil => unfold Lib.indexByte; simp
  | cons x r ih =>
    rw [List.cons_append]
    unfold Lib.indexByte
    rw [ih fun c hc => h c (List.mem_cons_of_mem _ hc), if_neg (by simpa using h x List.mem_cons_self), if_neg (by rw [beq_iff_eq]; omega)]
    simp
theorem cut1_none {a : List UInt8} {d : UInt8} (h : ∀ c ∈ a, c ≠ d) : Lib.cut a [d] = (a, [], false) := by
  unfold Lib.cut
  rw [Lib.index_one, ib_none h]
  rfl
theorem cut1_app {a b : List UInt8} {d : UInt8} (h : ∀ c ∈ a, c ≠ d) : Lib.cut (a ++ d :: b) [d] = (a, b, true) := by
  unfold Lib.cut
  rw [Lib.index_one, ib_app h, if_pos (by omega)]
  simp
theorem head_path {h p : List UInt8} (hh : ∀ c ∈ h, c ≠ 47) (hp : p = [] ∨ ∃ t, p = 47 :: t) : headL (h ++ p) = h ∧ pathL (h ++ p) = p := by
  unfold headL pathL
  rcases hp with rfl | ⟨t, rfl⟩
  · rw [List.append_nil, ib_none hh]
    exact ⟨rfl, rfl⟩
  · rw [ib_app hh, if_pos (by omega), if_pos (by omega)]
    simp
theorem ib_split : ∀ (l : List UInt8) (d : UInt8), 0 ≤ Lib.indexByte l d → ∃ t, l.drop (Lib.indexByte l d).toNat = d :: t := by
  intro l d h
  obtain ⟨o, ho⟩ : ∃ o : Nat, Lib.indexByte l d = o := ⟨(Lib.indexByte l d).toNat, by omega⟩
  have h1 := (Lib.indexByte_some ho).1
  rw [ho]
  obtain ⟨h2, h3⟩ := List.getElem?_eq_some_iff.1 h1
  exact ⟨l.drop (o + 1), by rw [Int.toNat_natCast, List.drop_eq_getElem_cons h2, h3]⟩
theorem head_join (l : List UInt8) : headL l ++ pathL l = l ∧ (pathL l = [] ∨ ∃ t, pathL l = 47 :: t) := by
  unfold headL pathL
  by_cases h : 0 ≤ Lib.indexByte l 47
  · rw [if_pos h, if_pos h]
    exact ⟨List.take_append_drop .., .inr (ib_split l 47 h)⟩
  · rw [if_neg h, if_neg h]
    exact ⟨by simp, .inl rfl⟩
/-- Nowhere does '://' begin. -/
def NoSep (l : List UInt8) : Prop := Lib.index l [58, 47, 47] = -1
theorem noSep_cons {c : UInt8} {l : List UInt8} : NoSep (c :: l) ↔ (([58, 47, 47] : List UInt8).isPrefixOf (c :: l) = false ∧ NoSep l) := by
  unfold NoSep
  conv => lhs; lhs; unfold Lib.index
  have := Lib.index_ge l [58, 47, 47]
  by_cases hp : ([58, 47, 47] : List UInt8).isPrefixOf (c :: l) = true
  · rw [if_pos hp, hp]; simp
  · rw [if_neg hp]
    have hp2 : ([58, 47, 47] : List UInt8).isPrefixOf (c :: l) = false := Bool.eq_false_iff.2 hp
    rw [hp2]
    by_cases hm : Lib.index l [58, 47, 47] = -1
    · rw [if_pos (by rw [hm]; rfl), hm]; simp
    · rw [if_neg (by rw [beq_iff_eq]; exact hm)]
      constructor
      · intro e; omega
      · intro e; exact absurd e.2 hm
theorem noSep_ne {c : UInt8} {l : List UInt8} (h : c ≠ 58) : NoSep (c :: l) ↔ NoSep l := by
  rw [noSep_cons]
  have : ([58, 47, 47] : List UInt8).isPrefixOf (c :: l) = false := by
    simp only [List.isPrefixOf, Bool.and_eq_false_iff]
    left
    rw [beq_eq_false_iff_ne]
    exact fun e => h e.symm
  rw [this]; simp
theorem noSep_app {a b : List UInt8} (h : ∀ c ∈ a, c ≠ 58) : NoSep (a ++ b) ↔ NoSep b := by
  induction a with
  | nil => exact Iff.rfl
  | cons x r ih => rw [List.cons_append, noSep_ne (h x List.mem_cons_self), ih fun c hc => h c (List.mem_cons_of_mem _ hc)]
theorem noSep_end {a b : List UInt8} (h : NoSep (a ++ b)) : NoSep b := by
  induction a with
  | nil => exact h
  | cons x r ih => exact ih (noSep_cons.1 h).2
theorem noSep_port {q b : List UInt8} (hq : q ≠ []) (h : ∀ c ∈ q, c ≠ 58 ∧ c ≠ 47) : NoSep (58 :: q ++ b) ↔ NoSep b := by
  cases q with
  | nil => exact absurd rfl hq
  | cons x r =>
    rw [List.cons_append, noSep_cons, noSep_app fun c hc => (h c hc).1]
    have : ([58, 47, 47] : List UInt8).isPrefixOf (58 :: (x :: r ++ b)) = false := by
      simp only [List.cons_append, List.isPrefixOf, Bool.and_eq_false_iff]
      right
      left
      rw [beq_eq_false_iff_ne]
      exact fun e => (h x List.mem_cons_self).2 e.symm
    rw [this]; simp
theorem noSep_cut {l : List UInt8} : (Lib.cut l [58, 47, 47]).2.2 = false ↔ NoSep l := by
  unfold Lib.cut NoSep
  have := Lib.index_ge l [58, 47, 47]
  by_cases h : 0 ≤ Lib.index l [58, 47, 47]
  · rw [if_pos h]; simp; omega
  · rw [if_neg h]; simp; omega
theorem sep_index {a b : List UInt8} (h : ∀ c ∈ a, c ≠ 58) : Lib.index (a ++ [58, 47, 47] ++ b) [58, 47, 47] = a.length := by
  induction a with
  | nil => unfold Lib.index; simp
  | cons x r ih =>
    have ih := ih fun c hc => h c (List.mem_cons_of_mem _ hc)
    rw [List.cons_append, List.cons_append]
    unfold Lib.index
    rw [ih]
    have hp : ([58, 47, 47] : List UInt8).isPrefixOf (x :: (r ++ [58, 47, 47] ++ b)) = false := by
      simp only [List.isPrefixOf, Bool.and_eq_false_iff]
      left
      rw [beq_eq_false_iff_ne]
      exact fun e => h x List.mem_cons_self e.symm
    rw [hp, if_neg (by simp), if_neg (by rw [beq_iff_eq]; omega)]
    simp
theorem sep_cut {a b : List UInt8} (h : ∀ c ∈ a, c ≠ 58) : Lib.cut (a ++ [58, 47, 47] ++ b) [58, 47, 47] = (a, b, true) := by
  unfold Lib.cut
  rw [sep_index h, if_pos (by omega)]
  simp
/-! Ports -/
theorem portR_app : ∀ (a b : List UInt8) (n : Nat), portR (a ++ b) n = (portR a n).bind (fun m => portR b m) := by
  intro a b
  induction a with
  | nil => intro n; rfl
  | cons c r ih =>
    intro n
    rw [List.cons_append, portR, portR]
    split
    · split
      · rfl
      · exact ih _
    · rfl
theorem digit_ok (d : Nat) (h : d < 10) : diI (UInt8.ofNat (48 + d)).toNat = true ∧ (UInt8.ofNat (48 + d)).toNat - 48 = d := by
  have h2 : (UInt8.ofNat (48 + d)).toNat = 48 + d := by simp; omega
  rw [h2]
  exact ⟨by unfold diI; simp; omega, by omega⟩
theorem portR_dec : ∀ (u : Nat), u ≤ 65535 → portR (Lib.decDigits u) 0 = some u := by
  intro u
  induction u using Nat.strongRecOn with
  | _ u ih =>
    intro hu
    by_cases h : u < 10
    · rw [Lib.decDigits, dif_pos h]
      obtain ⟨h1, h2⟩ := digit_ok u h
      unfold portR
      rw [if_pos h1, h2, if_neg (by omega)]
      simp [portR]
    · rw [Lib.decDigits, dif_neg h, portR_app, ih (u / 10) (by omega) (by omega)]
      obtain ⟨h1, h2⟩ := digit_ok (u % 10) (by omega)
      show portR _ (u / 10) = _
      unfold portR
      rw [if_pos h1, h2, if_neg (by omega)]
      have : u / 10 * 10 + u % 10 = u := by omega
      rw [this]
      rfl
theorem dec_ok : ∀ (u : Nat), Lib.decDigits u ≠ [] ∧ ∀ c ∈ Lib.decDigits u, c ≠ 58 ∧ c ≠ 47 ∧ c ≠ 39 ∧ c ≠ 42 := by
  intro u
  have hd : ∀ d, d < 10 → UInt8.ofNat (48 + d) ≠ 58 ∧ UInt8.ofNat (48 + d) ≠ 47 ∧ UInt8.ofNat (48 + d) ≠ 39 ∧ UInt8.ofNat (48 + d) ≠ 42 := by decide
  induction u using Nat.strongRecOn with
  | _ u ih =>
    by_cases h : u < 10
    · rw [Lib.decDigits, dif_pos h]
      refine ⟨by simp, ?_⟩
      intro c hc
      rw [List.mem_singleton.1 hc]
      exact hd u h
    · rw [Lib.decDigits, dif_neg h]
      refine ⟨by simp, ?_⟩
      intro c hc
      rcases List.mem_append.1 hc with hc | hc
      · exact (ih (u / 10) (by omega)).2 c hc
      · rw [List.mem_singleton.1 hc]
        exact hd _ (by omega)
theorem portR_le : ∀ (l : List UInt8) (n m : Nat), n ≤ 65535 → portR l n = some m → m ≤ 65535 := by
  intro l
  induction l with
  | nil => intro n m hn h; unfold portR at h; injection h with h; omega
  | cons c r ih =>
    intro n m hn h
    unfold portR at h
    split at h
    · split at h
      · cases h
      · exact ih _ _ (by omega) h
    · cases h
/-- A port, written. -/
def portT (p : Int) : List UInt8 := if p = -2 then [58, 42] else if 0 ≤ p then 58 :: Lib.itoa p else []
theorem portL_in {l : List UInt8} {p : Int} (h : portL l = some p) : p = -2 ∨ ∃ u : Nat, p = u ∧ u ≤ 65535 := by
  unfold portL at h
  split at h
  · injection h with h; exact .inl h.symm
  · split at h
    · cases h
    · cases hr : portR l 0 with
      | none => rw [hr] at h; cases h
      | some m =>
        rw [hr] at h
        injection h with h
        exact .inr ⟨m, h.symm, portR_le l 0 m (by omega) hr⟩
theorem portS_in {l : List UInt8} {p : Int} (h : portS l = some p) : p = -1 ∨ p = -2 ∨ ∃ u : Nat, p = u ∧ u ≤ 65535 := by
  unfold portS at h
  split at h
  · exact .inr (portL_in h)
  · injection h with h; exact .inl h.symm
theorem itoa_nat (u : Nat) : Lib.itoa (u : Int) = Lib.decDigits u := by unfold Lib.itoa; rw [if_neg (by omega)]; simp
theorem portL_dec {u : Nat} (h : u ≤ 65535) : portL (Lib.decDigits u) = some (u : Int) := by
  unfold portL
  have hd := dec_ok u
  rw [if_neg (by intro e; exact (hd.2 42 (by rw [e]; simp)).2.2.2 rfl), if_neg hd.1, portR_dec u h]
  rfl
/-- Where there is a port it is ':' and what has no ':', no '/'. -/
theorem portT_form {p : Int} (h : p = -1 ∨ p = -2 ∨ ∃ u : Nat, p = u ∧ u ≤ 65535) : (portT p = [] ∧ p = -1) ∨ ∃ q, portT p = 58 :: q ∧ q ≠ [] ∧ (∀ c ∈ q, c ≠ 58 ∧ c ≠ 47) ∧ portL q = some p := by
  rcases h with rfl | rfl | ⟨u, rfl, hu⟩
  · exact .inl ⟨by decide, rfl⟩
  · exact .inr ⟨[42], by decide, by decide, by decide, by decide⟩
  · refine .inr ⟨Lib.decDigits u, ?_, (dec_ok u).1, fun c hc => ⟨((dec_ok u).2 c hc).1, ((dec_ok u).2 c hc).2.1⟩, portL_dec hu⟩
    unfold portT
    rw [if_neg (by omega), if_pos (by omega), itoa_nat]
end Go.Proofs.YteeplfbaflldaaaDoor.S25
set_option linter.unusedVariables false
set_option linter.unusedSimpArgs false
namespace Go.Proofs.YteeplfbaflldaaaDoor.S25
open T10

theorem hostT_eq (x : SrcL) : hostT x = (if x.scheme = [] then [] else x.scheme ++ [58, 47, 47]) ++ nameT x.host x.wild ++ portT x.port ++ x.path := rfl
/-- What a host is that was read. -/
def HostOk (x : SrcL) : Prop := x.kind = 3 ∧ x.text = [] ∧ x.bits = 0 ∧ (x.scheme = [] ∨ (schB x.scheme = true ∧ lowL x.scheme = x.scheme)) ∧ (∃ N, nameL N = some (x.host, x.wild)) ∧ (x.port = -1 ∨ x.port = -2 ∨ ∃ u : Nat, x.port = u ∧ u ≤ 65535) ∧ (x.path = [] ∨ ∃ t, x.path = 47 :: t) ∧ x.path.all pathC = true ∧ (x.scheme = [] → NoSep x.path)
theorem schB_ne {l : List UInt8} (h : schB l = true) : l ≠ [] := by
  rintro rfl
  exact absurd h (by decide)
theorem schB_chars {l : List UInt8} (h : schB l = true) : ∀ c ∈ l, c ≠ 58 ∧ c ≠ 47 ∧ c ≠ 39 := by
  intro c hc
  unfold schB wordB at h
  simp only [Bool.and_eq_true] at h
  exact sch_ok c (List.all_eq_true.1 h.2.2 c hc)
theorem hostL_inv {l : List UInt8} {x : SrcL} (h : hostL l = some x) : HostOk x := by
  unfold hostL at h
  cases hs : schL l with
  | none => rw [hs] at h; cases h
  | some sc =>
    rw [hs] at h
    simp only [] at h
    unfold tailL at h
    cases hn : nameL (Lib.cut (headL (behL l)) [58]).1 with
    | none => rw [hn] at h; cases h
    | some nw =>
      obtain ⟨ho, wi⟩ := nw
      rw [hn] at h
      cases hp : portS (headL (behL l)) with
      | none => rw [hp] at h; cases h
      | some po =>
        rw [hp] at h
        simp only [] at h
        by_cases hq : (pathL (behL l)).all pathC = true
        · rw [if_pos hq] at h
          injection h with h
          subst h
          refine ⟨rfl, rfl, rfl, ?_, ⟨_, hn⟩, portS_in hp, (head_join _).2, hq, ?_⟩
          · unfold schL at hs
            split at hs
            · split at hs
              · rename_i h1 h2
                injection hs with hs
                right
                rw [← hs]
                exact ⟨by rw [schB_low]; exact h2, lowL_lowL _⟩
              · cases hs
            · injection hs with hs
              exact .inl hs.symm
          · intro hsc
            simp only at hsc
            subst hsc
            have hc : (Lib.cut l [58, 47, 47]).2.2 = false := by
              unfold schL at hs
              split at hs
              · split at hs
                · rename_i h1 h2
                  injection hs with hs
                  have := schB_ne h2
                  cases hl : (Lib.cut l [58, 47, 47]).1 with
                  | nil => exact absurd hl this
                  | cons a r => rw [hl] at hs; cases hs
                · cases hs
              · rename_i h1
                simpa using h1
            have hb : behL l = l := by unfold behL; rw [hc]; rfl
            rw [hb]
            have := noSep_cut.1 hc
            rw [← (head_join l).1] at this
            exact noSep_end this
        · rw [if_neg hq] at h; cases h
theorem tailL_of {sc ho pa : List UInt8} {wi : Bool} {po : Int} (hn : ∃ N, nameL N = some (ho, wi)) (hp : po = -1 ∨ po = -2 ∨ ∃ u : Nat, po = u ∧ u ≤ 65535) (hpa : pa = [] ∨ ∃ t, pa = 47 :: t) (hpc : pa.all pathC = true) :
    tailL sc (nameT ho wi ++ portT po ++ pa) = some ⟨3, [], 0, sc, ho, wi, po, pa⟩ := by
  obtain ⟨N, hN⟩ := hn
  obtain ⟨n1, n2, n3⟩ := nameL_back hN
  have hpf := portT_form hp
  have h47 : ∀ c ∈ nameT ho wi ++ portT po, c ≠ 47 := by
    intro c hc
    rcases List.mem_append.1 hc with hc | hc
    · exact (n2 c hc).2.1
    · rcases hpf with ⟨e, _⟩ | ⟨q, e, _, e3, _⟩
      · rw [e] at hc; cases hc
      · rw [e] at hc
        rcases List.mem_cons.1 hc with rfl | hc
        · decide
        · exact (e3 c hc).2
  obtain ⟨a1, a2⟩ := head_path h47 hpa
  unfold tailL
  rw [a1, a2]
  have hcut : Lib.cut (nameT ho wi ++ portT po) [58] = (nameT ho wi, (portT po).drop 1, !(portT po).isEmpty) := by
    rcases hpf with ⟨e, _⟩ | ⟨q, e, _, e3, _⟩
    · rw [e, List.append_nil, cut1_none fun c hc => (n2 c hc).1]; rfl
    · rw [e, cut1_app fun c hc => (n2 c hc).1]; rfl
  have hps : portS (nameT ho wi ++ portT po) = some po := by
    unfold portS
    rw [hcut]
    rcases hpf with ⟨e, e2⟩ | ⟨q, e, _, _, e4⟩
    · rw [e, e2]; rfl
    · rw [e]
      exact e4
  rw [hps, hcut, n1]
  simp only []
  rw [if_pos hpc]
theorem hostL_text {x : SrcL} (h : HostOk x) : hostL (hostT x) = some x := by
  obtain ⟨k, tx, bi, sc, ho, wi, po, pa⟩ := x
  obtain ⟨h1, h2, h3, h4, h5, h6, h7, h8, h9⟩ := h
  simp only at h1 h2 h3 h4 h5 h6 h7 h8 h9
  subst h1 h2 h3
  have ht := tailL_of (sc := sc) h5 h6 h7 h8
  rw [hostT_eq]
  simp only []
  by_cases hsc : sc = []
  · subst hsc
    rw [if_pos rfl, List.nil_append]
    have hns : NoSep (nameT ho wi ++ portT po ++ pa) := by
      obtain ⟨N, hN⟩ := h5
      obtain ⟨n1, n2, n3⟩ := nameL_back hN
      rw [List.append_assoc, noSep_app fun c hc => (n2 c hc).1]
      rcases portT_form h6 with ⟨e, _⟩ | ⟨q, e, e2, e3, _⟩
      · rw [e]; exact h9 rfl
      · rw [e, noSep_port e2 e3]; exact h9 rfl
    have hc := noSep_cut.2 hns
    unfold hostL schL behL
    rw [hc]
    exact ht
  · rw [if_neg hsc]
    rcases h4 with h4 | ⟨h4, h4'⟩
    · exact absurd h4 hsc
    · have hc := sep_cut (a := sc) (b := nameT ho wi ++ portT po ++ pa) fun c hc => (schB_chars h4 c hc).1
      rw [show sc ++ [58, 47, 47] ++ nameT ho wi ++ portT po ++ pa = sc ++ [58, 47, 47] ++ (nameT ho wi ++ portT po ++ pa) by simp]
      unfold hostL schL behL
      rw [hc]
      simp only [h4, h4', if_true]
      exact ht
theorem host_head {x : SrcL} (h : HostOk x) : ∃ c r, hostT x = c :: r ∧ c ≠ 39 := by
  obtain ⟨h1, h2, h3, h4, ⟨N, hN⟩, h6, h7, h8, h9⟩ := h
  obtain ⟨n1, n2, n3⟩ := nameL_back hN
  rw [hostT_eq]
  by_cases hsc : x.scheme = []
  · rw [if_pos hsc]
    cases hn : nameT x.host x.wild with
    | nil => exact absurd hn n3
    | cons c r => exact ⟨c, _, rfl, (n2 c (by rw [hn]; simp)).2.2⟩
  · rw [if_neg hsc]
    rcases h4 with h4 | ⟨h4, _⟩
    · exact absurd h4 hsc
    · cases hs : x.scheme with
      | nil => exact absurd hs hsc
      | cons c r => exact ⟨c, _, rfl, (schB_chars h4 c (by rw [hs]; simp)).2.2⟩
theorem suffix_58 {l : List UInt8} (h : Lib.hasSuffix l [58] = true) : l = l.take (l.length - 1) ++ [58] := by
  unfold Lib.hasSuffix at h
  obtain ⟨t, rfl⟩ := List.isSuffixOf_iff_suffix.1 h
  simp
theorem last_mem {a : List UInt8} {b c : List UInt8} {d : UInt8} (h : a ++ b = c ++ [d]) (hb : b ≠ []) : d ∈ b := by
  have h1 : (a ++ b).getLast? = some d := by rw [h]; simp
  rw [List.getLast?_append] at h1
  cases hb2 : b.getLast? with
  | none => exact absurd (List.getLast?_eq_none_iff.1 hb2) hb
  | some e =>
    rw [hb2] at h1
    simp at h1
    subst h1
    exact List.mem_of_getLast? hb2
theorem host_noscheme {x : SrcL} (h : HostOk x) : ¬ (Lib.hasSuffix (hostT x) [58] = true ∧ schB ((hostT x).take ((hostT x).length - 1)) = true) := by
  rintro ⟨a1, a2⟩
  have e := suffix_58 a1
  generalize (hostT x).take ((hostT x).length - 1) = ini at a2 e
  have hin := schB_chars a2
  obtain ⟨h1, h2, h3, h4, ⟨N, hN⟩, h6, h7, h8, h9⟩ := h
  obtain ⟨n1, n2, n3⟩ := nameL_back hN
  have h47 : ∀ c ∈ hostT x, c ≠ 47 := by
    intro c hc
    rw [e] at hc
    rcases List.mem_append.1 hc with hc | hc
    · exact (hin c hc).2.1
    · rw [List.mem_singleton.1 hc]; decide
  rw [hostT_eq] at e h47
  have hsc : x.scheme = [] := by
    refine Classical.byContradiction fun hsc => ?_
    rw [if_neg hsc] at h47
    exact h47 47 (by simp) rfl
  have hpa : x.path = [] := by
    rcases h7 with h7 | ⟨t, h7⟩
    · exact h7
    · exact absurd rfl (h47 47 (by rw [h7]; simp))
  rw [hsc, hpa, if_pos rfl, List.nil_append, List.append_nil] at e
  rcases portT_form h6 with ⟨e1, _⟩ | ⟨q, e1, e2, e3, _⟩
  · rw [e1, List.append_nil] at e
    have := last_mem (a := []) (b := nameT x.host x.wild) (by simpa using e) n3
    exact (n2 58 this).1 rfl
  · rw [e1, show nameT x.host x.wild ++ 58 :: q = (nameT x.host x.wild ++ [58]) ++ q by simp] at e
    exact (e3 58 (last_mem e e2)).1 rfl
theorem parse_host_text {x : SrcL} (h : HostOk x) : parseL (hostT x) = some x := by
  obtain ⟨c, r, e, hc⟩ := host_head h
  unfold parseL
  rw [if_neg (by rintro ⟨_, h2, _⟩; rw [e] at h2; simp at h2; exact hc h2), if_neg (host_noscheme h), hostL_text h]
/-! What stands between quotes, written and read again -/
theorem quoted_inner (m : List UInt8) : ([39] ++ m ++ [39]).length ≥ 2 ∧ ([39] ++ m ++ [39]).head? = some 39 ∧ ([39] ++ m ++ [39]).getLast? = some 39 ∧ (([39] ++ m ++ [39]).drop 1).take (([39] ++ m ++ [39]).length - 2) = m := by
  refine ⟨by simp, rfl, by rw [List.getLast?_append]; rfl, ?_⟩
  simp
theorem parseL_quoted (m : List UInt8) : parseL ([39] ++ m ++ [39]) = quoL m := by
  obtain ⟨a, b, c, d⟩ := quoted_inner m
  unfold parseL
  rw [if_pos ⟨a, b, c⟩, d]
theorem low_in_kws : ∀ k ∈ kws.map (·.data.toList), lowL k = k := by decide +kernel
theorem cut_nonce (r : List UInt8) : Lib.cut ([110, 111, 110, 99, 101] ++ 45 :: r) [45] = ([110, 111, 110, 99, 101], r, true) := cut1_app (by decide)
theorem cut_sha256 (r : List UInt8) : Lib.cut ([115, 104, 97, 50, 53, 54] ++ 45 :: r) [45] = ([115, 104, 97, 50, 53, 54], r, true) := cut1_app (by decide)
theorem cut_sha384 (r : List UInt8) : Lib.cut ([115, 104, 97, 51, 56, 52] ++ 45 :: r) [45] = ([115, 104, 97, 51, 56, 52], r, true) := cut1_app (by decide)
theorem cut_sha512 (r : List UInt8) : Lib.cut ([115, 104, 97, 53, 49, 50] ++ 45 :: r) [45] = ([115, 104, 97, 53, 49, 50], r, true) := cut1_app (by decide)
theorem kw_front {f r : List UInt8} (hf : ∀ k ∈ kws.map (·.data.toList), (f ++ [45]).isPrefixOf k = false) : f ++ 45 :: r ∉ kws.map (·.data.toList) := by
  intro h
  have h1 := hf _ h
  rw [show f ++ 45 :: r = (f ++ [45]) ++ r by simp] at h1
  rw [List.isPrefixOf_iff_prefix.2 (List.prefix_append _ _)] at h1
  cases h1
/-- A front, in any case, a dash, and base64. -/
theorem quoL_front {h f r : List UInt8} (hl : lowL h = f) (hc : ∀ c ∈ f, c ≠ 45) (hf : ∀ k ∈ kws.map (·.data.toList), (f ++ [45]).isPrefixOf k = false) (hb : b64B r = true) :
    quoL (h ++ 45 :: r) = if f = [110, 111, 110, 99, 101] then some ⟨4, r, 0, [], [], false, -1, []⟩
      else if f = [115, 104, 97, 50, 53, 54] then some ⟨5, r, 256, [], [], false, -1, []⟩
      else if f = [115, 104, 97, 51, 56, 52] then some ⟨5, r, 384, [], [], false, -1, []⟩
      else if f = [115, 104, 97, 53, 49, 50] then some ⟨5, r, 512, [], [], false, -1, []⟩
      else none := by
  have e : lowL (h ++ 45 :: r) = f ++ 45 :: lowL r := by
    rw [← hl]
    unfold lowL
    rw [List.map_append, List.map_cons]
    rfl
  have hlen : h.length = f.length := by rw [← hl, lowL_len]
  have hd : (h ++ 45 :: r).drop (f.length + 1) = r := by
    rw [← hlen]
    simp
  unfold quoL
  rw [e, if_neg (kw_front hf), cut1_app hc, if_neg (by simp)]
  simp only []
  rw [hd, if_neg (by rw [hb]; simp)]
theorem front_nonce : ∀ k ∈ kws.map (·.data.toList), (([110, 111, 110, 99, 101] : List UInt8) ++ [45]).isPrefixOf k = false := by decide +kernel
theorem front_256 : ∀ k ∈ kws.map (·.data.toList), (([115, 104, 97, 50, 53, 54] : List UInt8) ++ [45]).isPrefixOf k = false := by decide +kernel
theorem front_384 : ∀ k ∈ kws.map (·.data.toList), (([115, 104, 97, 51, 56, 52] : List UInt8) ++ [45]).isPrefixOf k = false := by decide +kernel
theorem front_512 : ∀ k ∈ kws.map (·.data.toList), (([115, 104, 97, 53, 49, 50] : List UInt8) ++ [45]).isPrefixOf k = false := by decide +kernel
/-- The ways in which what is quoted is read. -/
theorem quoL_inv {l : List UInt8} {x : SrcL} (h : quoL l = some x) :
    (∃ k ∈ kws.map (·.data.toList), x = ⟨1, k, 0, [], [], false, -1, []⟩) ∨ (∃ r, b64B r = true ∧ r.length ≤ l.length ∧ (x = ⟨4, r, 0, [], [], false, -1, []⟩ ∨ x = ⟨5, r, 256, [], [], false, -1, []⟩ ∨ x = ⟨5, r, 384, [], [], false, -1, []⟩ ∨ x = ⟨5, r, 512, [], [], false, -1, []⟩)) := by
  unfold quoL at h
  split at h
  · rename_i hk
    injection h with h
    exact .inl ⟨_, hk, h.symm⟩
  · split at h
    · cases h
    · split at h
      · cases h
      · rename_i hb
        right
        refine ⟨l.drop ((Lib.cut (lowL l) [45]).1.length + 1), by simpa using hb, by rw [List.length_drop]; exact Nat.sub_le _ _, ?_⟩
        split at h
        · injection h with h; exact .inl h.symm
        · split at h
          · injection h with h; exact .inr (.inl h.symm)
          · split at h
            · injection h with h; exact .inr (.inr (.inl h.symm))
            · split at h
              · injection h with h; exact .inr (.inr (.inr h.symm))
              · cases h
theorem itoa_256 : Lib.itoa 256 = [50, 53, 54] := by rw [show (256 : Int) = ((256 : Nat) : Int) from rfl, itoa_nat]; simp [Lib.decDigits]
theorem itoa_384 : Lib.itoa 384 = [51, 56, 52] := by rw [show (384 : Int) = ((384 : Nat) : Int) from rfl, itoa_nat]; simp [Lib.decDigits]
theorem itoa_512 : Lib.itoa 512 = [53, 49, 50] := by rw [show (512 : Int) = ((512 : Nat) : Int) from rfl, itoa_nat]; simp [Lib.decDigits]
theorem quoted_back {l : List UInt8} {x : SrcL} (h : quoL l = some x) : parseL (textS x) = some x := by
  rcases quoL_inv h with ⟨k, hk, rfl⟩ | ⟨r, hb, _, rfl | rfl | rfl | rfl⟩
  · show parseL ([39] ++ k ++ [39]) = _
    rw [parseL_quoted]
    unfold quoL
    rw [low_in_kws k hk, if_pos hk]
  · show parseL ([39] ++ ([110, 111, 110, 99, 101] ++ 45 :: r) ++ [39]) = _
    rw [parseL_quoted, quoL_front (by decide) (by decide) front_nonce hb]
    rfl
  · show parseL ([39, 115, 104, 97] ++ Lib.itoa 256 ++ [45] ++ r ++ [39]) = _
    rw [itoa_256]
    show parseL ([39] ++ ([115, 104, 97, 50, 53, 54] ++ 45 :: r) ++ [39]) = _
    rw [parseL_quoted, quoL_front (by decide) (by decide) front_256 hb]
    rfl
  · show parseL ([39, 115, 104, 97] ++ Lib.itoa 384 ++ [45] ++ r ++ [39]) = _
    rw [itoa_384]
    show parseL ([39] ++ ([115, 104, 97, 51, 56, 52] ++ 45 :: r) ++ [39]) = _
    rw [parseL_quoted, quoL_front (by decide) (by decide) front_384 hb]
    rfl
  · show parseL ([39, 115, 104, 97] ++ Lib.itoa 512 ++ [45] ++ r ++ [39]) = _
    rw [itoa_512]
    show parseL ([39] ++ ([115, 104, 97, 53, 49, 50] ++ 45 :: r) ++ [39]) = _
    rw [parseL_quoted, quoL_front (by decide) (by decide) front_512 hb]
    rfl
theorem scheme_back {l : List UInt8} (h : schB l = true) : parseL (lowL l ++ [58]) = some ⟨2, [], 0, lowL l, [], false, -1, []⟩ := by
  have h2 : schB (lowL l) = true := by rw [schB_low]; exact h
  have hne := schB_ne h2
  unfold parseL
  have e : (lowL l ++ [58]).take ((lowL l ++ [58]).length - 1) = lowL l := by simp
  have n39 : ¬ (2 ≤ (lowL l ++ [58]).length ∧ (lowL l ++ [58]).head? = some 39 ∧ (lowL l ++ [58]).getLast? = some 39) := by
    rintro ⟨_, _, h3⟩
    simp at h3
  rw [if_neg n39, e, if_pos ⟨by unfold Lib.hasSuffix; exact List.isSuffixOf_iff_suffix.2 (List.suffix_append _ _), h2⟩, lowL_lowL]
/-- WHAT IS READ, WRITTEN, IS READ AGAIN. -/
theorem parse_text_back {l : List UInt8} {x : SrcL} (h : parseL l = some x) : parseL (textS x) = some x := by
  unfold parseL at h
  split at h
  · exact quoted_back h
  · split at h
    · rename_i h2
      injection h with h
      subst h
      exact scheme_back h2.2
    · have ho := hostL_inv h
      have : textS x = hostT x := by unfold textS; rw [ho.1]; rfl
      rw [this]
      exact parse_host_text ho
end Go.Proofs.YteeplfbaflldaaaDoor.S25
set_option linter.unusedVariables false
set_option linter.unusedSimpArgs false
namespace Go.Proofs.YteeplfbaflldaaaDoor.S25
open Go.RowKit Go.Extern.Stop Go.Stop Go.Extern T10

def ba (l : List UInt8) : ByteArray := ⟨l.toArray⟩
theorem ba_list (s : ByteArray) : ba s.data.toList = s := rfl
theorem ba_data (l : List UInt8) : (ba l).data.toList = l := rfl
theorem ba_size (l : List UInt8) : (ba l).size = l.length := List.size_toArray ..
def srcW (x : SrcL) : Value := srcV x.kind (ba x.text) x.bits (ba x.scheme) (ba x.host) x.wild x.port (ba x.path)
theorem ext_list (s : ByteArray) (a b : Nat) : (s.extract a b).data.toList = (s.data.toList.drop a).take (b - a) := by simp
theorem ext_drop (s : ByteArray) (a : Nat) : (s.extract a s.size).data.toList = s.data.toList.drop a := by
  rw [ext_list, List.take_of_length_le]
  simp
theorem ext_take (s : ByteArray) (b : Nat) : (s.extract 0 b).data.toList = s.data.toList.take b := by
  rw [ext_list]; simp
theorem ext_ba_drop (s : ByteArray) (a : Nat) : s.extract a s.size = ba (s.data.toList.drop a) := by
  rw [← ext_drop]; rfl
theorem ext_ba_take (s : ByteArray) (b : Nat) : s.extract 0 b = ba (s.data.toList.take b) := by
  rw [← ext_take]; rfl
theorem quotedV_eq (s : ByteArray) : quotedV s = match quoL s.data.toList with
    | some x => .tuple #[srcW x, .nilIface]
    | none => quoV s := by
  unfold quotedV quoL
  simp only [ext_ba_drop, ba_data]
  split
  · rfl
  · split
    · rfl
    · split
      · rfl
      · split
        · rfl
        · split
          · rfl
          · split
            · rfl
            · split
              · rfl
              · rfl
end Go.Proofs.YteeplfbaflldaaaDoor.S25
