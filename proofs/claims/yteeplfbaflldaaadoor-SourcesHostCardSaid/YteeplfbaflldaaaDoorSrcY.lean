/- sources, as lists: a host put together of its parts is read as these. No program. -/
import Derived.Test.YteeplfbaflldaaaDoorSrcX
import Derived.Test.YteeplfbaflldaaaDoorLet25
set_option linter.unusedVariables false
set_option linter.unusedSimpArgs false
namespace Go.Proofs.YteeplfbaflldaaaDoor.S25
open T10

theorem tailL_parts {sc N ho pa : List UInt8} {wi : Bool} {po : Int} (hN : nameL N = some (ho, wi)) (hNc : ∀ c ∈ N, c ≠ 58 ∧ c ≠ 47 ∧ c ≠ 39) (hp : po = -1 ∨ po = -2 ∨ ∃ u : Nat, po = u ∧ u ≤ 65535) (hpa : pa = [] ∨ ∃ t, pa = 47 :: t) (hpc : pa.all pathC = true) :
    tailL sc (N ++ portT po ++ pa) = some ⟨3, [], 0, sc, ho, wi, po, pa⟩ := by
  have hpf := portT_form hp
  have h47 : ∀ c ∈ N ++ portT po, c ≠ 47 := by
    intro c hc
    rcases List.mem_append.1 hc with hc | hc
    · exact (hNc c hc).2.1
    · rcases hpf with ⟨e, _⟩ | ⟨q, e, _, e3, _⟩
      · rw [e] at hc; cases hc
      · rw [e] at hc
        rcases List.mem_cons.1 hc with rfl | hc
        · decide
        · exact (e3 c hc).2
  obtain ⟨a1, a2⟩ := head_path h47 hpa
  unfold tailL
  rw [a1, a2]
  have hcut : Lib.cut (N ++ portT po) [58] = (N, (portT po).drop 1, !(portT po).isEmpty) := by
    rcases hpf with ⟨e, _⟩ | ⟨q, e, _, e3, _⟩
    · rw [e, List.append_nil, cut1_none fun c hc => (hNc c hc).1]; rfl
    · rw [e, cut1_app fun c hc => (hNc c hc).1]; rfl
  have hps : portS (N ++ portT po) = some po := by
    unfold portS
    rw [hcut]
    rcases hpf with ⟨e, e2⟩ | ⟨q, e, _, _, e4⟩
    · rw [e, e2]; rfl
    · rw [e]
      exact e4
  rw [hps, hcut, hN]
  simp only []
  rw [if_pos hpc]
theorem parse_parts {S N ho pa : List UInt8} {wi : Bool} {po : Int} (hS : S = [] ∨ schB S = true) (hN : nameL N = some (ho, wi)) (hNc : ∀ c ∈ N, c ≠ 58 ∧ c ≠ 47 ∧ c ≠ 39) (hNe : N ≠ []) (hp : po = -1 ∨ po = -2 ∨ ∃ u : Nat, po = u ∧ u ≤ 65535) (hpa : pa = [] ∨ ∃ t, pa = 47 :: t) (hpc : pa.all pathC = true) (hns : S = [] → NoSep pa) :
    parseL ((if S = [] then [] else S ++ [58, 47, 47]) ++ (N ++ portT po ++ pa)) = some ⟨3, [], 0, lowL S, ho, wi, po, pa⟩ := by
  have ht := fun sc => tailL_parts (sc := sc) hN hNc hp hpa hpc
  have hhost : hostL ((if S = [] then [] else S ++ [58, 47, 47]) ++ (N ++ portT po ++ pa)) = some ⟨3, [], 0, lowL S, ho, wi, po, pa⟩ := by
    by_cases hsc : S = []
    · subst hsc
      rw [if_pos rfl, List.nil_append]
      have hns2 : NoSep (N ++ portT po ++ pa) := by
        rw [List.append_assoc, noSep_app fun c hc => (hNc c hc).1]
        rcases portT_form hp with ⟨e, _⟩ | ⟨q, e, e2, e3, _⟩
        · rw [e]; exact hns rfl
        · rw [e, noSep_port e2 e3]; exact hns rfl
      have hc := noSep_cut.2 hns2
      unfold hostL schL behL
      rw [hc]
      exact ht []
    · rw [if_neg hsc]
      have h4 := hS.resolve_left hsc
      have hc := sep_cut (a := S) (b := N ++ portT po ++ pa) fun c hc => (schB_chars h4 c hc).1
      unfold hostL schL behL
      rw [hc]
      simp only [h4, if_true]
      exact ht _
  have hhead : ∃ c r, (if S = [] then [] else S ++ [58, 47, 47]) ++ (N ++ portT po ++ pa) = c :: r ∧ c ≠ 39 := by
    by_cases hsc : S = []
    · rw [if_pos hsc]
      cases hn : N with
      | nil => exact absurd hn hNe
      | cons c r => exact ⟨c, _, rfl, (hNc c (by rw [hn]; simp)).2.2⟩
    · rw [if_neg hsc]
      have h4 := hS.resolve_left hsc
      cases hs : S with
      | nil => exact absurd hs hsc
      | cons c r => exact ⟨c, _, rfl, (schB_chars h4 c (by rw [hs]; simp)).2.2⟩
  have hnosch : ¬ (Lib.hasSuffix ((if S = [] then [] else S ++ [58, 47, 47]) ++ (N ++ portT po ++ pa)) [58] = true ∧ schB (((if S = [] then [] else S ++ [58, 47, 47]) ++ (N ++ portT po ++ pa)).take (((if S = [] then [] else S ++ [58, 47, 47]) ++ (N ++ portT po ++ pa)).length - 1)) = true) := by
    rintro ⟨a1, a2⟩
    have e := suffix_58 a1
    generalize (((if S = [] then [] else S ++ [58, 47, 47]) ++ (N ++ portT po ++ pa)).take (((if S = [] then [] else S ++ [58, 47, 47]) ++ (N ++ portT po ++ pa)).length - 1)) = ini at a2 e
    have hin := schB_chars a2
    have h47 : ∀ c ∈ (if S = [] then [] else S ++ [58, 47, 47]) ++ (N ++ portT po ++ pa), c ≠ 47 := by
      intro c hc
      rw [e] at hc
      rcases List.mem_append.1 hc with hc | hc
      · exact (hin c hc).2.1
      · rw [List.mem_singleton.1 hc]; decide
    have hsc : S = [] := by
      refine Classical.byContradiction fun hsc => ?_
      rw [if_neg hsc] at h47
      exact h47 47 (by simp) rfl
    have hpa2 : pa = [] := by
      rcases hpa with h7 | ⟨t, h7⟩
      · exact h7
      · exact absurd rfl (h47 47 (by rw [h7]; simp))
    rw [hsc, hpa2, if_pos rfl, List.nil_append, List.append_nil] at e
    rcases portT_form hp with ⟨e1, _⟩ | ⟨q, e1, e2, e3, _⟩
    · rw [e1, List.append_nil] at e
      have := last_mem (a := []) (b := N) (by simpa using e) hNe
      exact (hNc 58 this).1 rfl
    · rw [e1, show N ++ 58 :: q = (N ++ [58]) ++ q by simp] at e
      exact (e3 58 (last_mem e e2)).1 rfl
  obtain ⟨c, r, e, hc⟩ := hhead
  unfold parseL
  rw [if_neg (by rintro ⟨_, h2, _⟩; rw [e] at h2; simp at h2; exact hc h2), if_neg hnosch, hhost]
theorem dash_in : ∀ c ∈ lets9 ++ [45], wordC dashC c = true := by decide
theorem sch_in : ∀ c ∈ lets9 ++ [43, 46], wordC schC c = true := by decide
theorem path_in : ∀ c ∈ lets9 ++ [37, 47, 46, 126], pathC c = true ∧ c ≠ 58 := by decide
theorem nameParts (z0 z1 : List UInt8) : labB (letG [45] z0 ++ 46 :: letG [45] z1) = true := by
  have h0 : ∀ z, wordB dashC (letG [45] z) = true := by
    intro z
    have hl := (letG_len [45] z).1
    unfold wordB
    rw [Bool.and_eq_true]
    refine ⟨?_, List.all_eq_true.2 fun c hc => dash_in c (letG_mem [45] z c hc)⟩
    cases h : letG [45] z with
    | nil => rw [h] at hl; simp at hl
    | cons a r => rfl
  have h46 : ∀ z, (46 : UInt8) ∉ letG [45] z := fun z h => absurd (letG_mem [45] z 46 h) (by decide)
  unfold labB
  rw [spl_hit (h46 z0), spl_none (h46 z1)]
  simp [h0]
theorem nameL_star {l : List UInt8} (h : labB l = true) : nameL ([42, 46] ++ l) = some (lowL l, true) := by
  have hne := labB_ne h
  unfold nameL
  rw [if_neg (by simp)]
  have e1 : Lib.hasPrefix ([42, 46] ++ l) [42, 46] = true := by unfold Lib.hasPrefix; simp
  have e2 : restL ([42, 46] ++ l) = l := by unfold restL; rw [if_pos e1]; rfl
  rw [e2, if_pos h, e1]
theorem nameL_bare {l : List UInt8} (h : labB l = true) : nameL l = some (lowL l, false) := by
  have hok := labB_ok h
  unfold nameL
  rw [if_neg (by rintro rfl; exact absurd h (by decide))]
  have e1 : Lib.hasPrefix l [42, 46] = false := by
    cases l with
    | nil => rfl
    | cons a r =>
      have := (hok a List.mem_cons_self).2.2.1
      unfold Lib.hasPrefix
      simp only [List.isPrefixOf, Bool.and_eq_false_iff]
      left
      rw [beq_eq_false_iff_ne]
      exact fun e => this e.symm
  have e2 : restL l = l := by unfold restL; rw [e1]; rfl
  rw [e2, if_pos h, e1]
theorem noSep_nil : NoSep [] := by unfold NoSep; decide
theorem noSep_none {l : List UInt8} (h : ∀ c ∈ l, c ≠ 58) : NoSep l := by
  have := (noSep_app (b := []) h).2 noSep_nil
  rwa [List.append_nil] at this
/-- A host of two labels, with or without what may stand around it. -/
theorem parse_host_parts (z0 z1 z2 : List UInt8) (wi sch path : Bool) {po : Int} (hp : po = -1 ∨ po = -2 ∨ ∃ u : Nat, po = u ∧ u ≤ 65535) :
    parseL ((match sch with | true => 120 :: letG [43, 46] z2 ++ [58, 47, 47] | false => []) ++ ((match wi with | true => [42, 46] ++ (letG [45] z0 ++ 46 :: letG [45] z1) | false => letG [45] z0 ++ 46 :: letG [45] z1) ++ portT po ++ (match path with | true => 47 :: letG [37, 47, 46, 126] z2 ++ [47] | false => []))) =
      some ⟨3, [], 0, (match sch with | true => lowL (120 :: letG [43, 46] z2) | false => []), lowL (letG [45] z0 ++ 46 :: letG [45] z1), wi, po, (match path with | true => 47 :: letG [37, 47, 46, 126] z2 ++ [47] | false => [])⟩ := by
  have hlab := nameParts z0 z1
  obtain ⟨nm, hnm⟩ : ∃ nm, letG [45] z0 ++ 46 :: letG [45] z1 = nm := ⟨_, rfl⟩
  rw [hnm] at hlab ⊢
  have hok := labB_ok hlab
  have hne := labB_ne hlab
  have hschB : schB (120 :: letG [43, 46] z2) = true := by
    unfold schB wordB
    simp only [List.head?_cons, Bool.and_eq_true]
    refine ⟨by decide, rfl, ?_⟩
    rw [List.all_cons, Bool.and_eq_true]
    exact ⟨by decide, List.all_eq_true.2 fun c hc => sch_in c (letG_mem _ z2 c hc)⟩
  obtain ⟨N, hNdef, hN, hNc, hNe⟩ : ∃ N, (match wi with | true => [42, 46] ++ nm | false => nm) = N ∧ nameL N = some (lowL nm, wi) ∧ (∀ c ∈ N, c ≠ 58 ∧ c ≠ 47 ∧ c ≠ 39) ∧ N ≠ [] := by
    cases wi with
    | true =>
      refine ⟨_, rfl, nameL_star hlab, ?_, by simp⟩
      intro c hc
      rcases List.mem_append.1 hc with hc | hc
      · simp at hc; rcases hc with rfl | rfl <;> decide
      · have := hok c hc; exact ⟨this.1, this.2.1, this.2.2.2⟩
    | false => exact ⟨_, rfl, nameL_bare hlab, fun c hc => ⟨(hok c hc).1, (hok c hc).2.1, (hok c hc).2.2.2⟩, hne⟩
  rw [hNdef]
  obtain ⟨pa, hpdef, hpa, hpc, hns⟩ : ∃ pa, (match path with | true => 47 :: letG [37, 47, 46, 126] z2 ++ [47] | false => []) = pa ∧ (pa = [] ∨ ∃ t, pa = 47 :: t) ∧ pa.all pathC = true ∧ NoSep pa := by
    cases path with
    | true =>
      have hm : ∀ c ∈ (47 :: letG [37, 47, 46, 126] z2 ++ [47]), pathC c = true ∧ c ≠ 58 := by
        intro c hc
        rcases List.mem_append.1 hc with hc | hc
        · rcases List.mem_cons.1 hc with rfl | hc
          · decide
          · exact path_in c (letG_mem _ z2 c hc)
        · rw [List.mem_singleton.1 hc]; decide
      exact ⟨_, rfl, .inr ⟨_, rfl⟩, List.all_eq_true.2 fun c hc => (hm c hc).1, noSep_none fun c hc => (hm c hc).2⟩
    | false => exact ⟨[], rfl, .inl rfl, rfl, noSep_nil⟩
  rw [hpdef]
  cases sch with
  | true =>
    have := parse_parts (S := 120 :: letG [43, 46] z2) (.inr hschB) hN hNc hNe hp hpa hpc (fun _ => hns)
    rw [if_neg (by simp)] at this
    exact this
  | false =>
    have := parse_parts (S := []) (.inl rfl) hN hNc hNe hp hpa hpc (fun _ => hns)
    rw [if_pos rfl] at this
    exact this
/-- With the star ahead, or without. -/
def starL : Bool → List UInt8 → List UInt8
  | true, l => [42, 46] ++ l
  | false, l => l
/-- A scheme and what stands behind it, or nothing. -/
def schP : Bool → List UInt8 → List UInt8
  | true, l => l ++ [58, 47, 47]
  | false, _ => []
/-- A port, or any, or none. -/
def poP : Bool → Bool → Int → Int
  | true, _, p => p
  | false, true, _ => -2
  | false, false, _ => -1
theorem poP_in (b4 b8 : Bool) {p : Int} (h0 : 0 ≤ p) (h1 : p ≤ 65535) : poP b4 b8 p = -1 ∨ poP b4 b8 p = -2 ∨ ∃ u : Nat, poP b4 b8 p = u ∧ u ≤ 65535 := by
  cases b4
  · cases b8
    · exact .inl rfl
    · exact .inr (.inl rfl)
  · exact .inr (.inr ⟨p.toNat, by show p = _; omega, by omega⟩)
def optL : Bool → List UInt8 → List UInt8
  | true, l => l
  | false, _ => []
theorem parse_host_opts (z0 z1 z2 : List UInt8) (wi sch path : Bool) {po : Int} (hp : po = -1 ∨ po = -2 ∨ ∃ u : Nat, po = u ∧ u ≤ 65535) :
    parseL (schP sch (120 :: letG [43, 46] z2) ++ (starL wi (letG [45] z0 ++ 46 :: letG [45] z1) ++ portT po ++ optL path (47 :: letG [37, 47, 46, 126] z2 ++ [47]))) =
      some ⟨3, [], 0, optL sch (lowL (120 :: letG [43, 46] z2)), lowL (letG [45] z0 ++ 46 :: letG [45] z1), wi, po, optL path (47 :: letG [37, 47, 46, 126] z2 ++ [47])⟩ := by
  have := parse_host_parts z0 z1 z2 wi sch path hp
  cases sch <;> cases wi <;> cases path <;> exact this
theorem parts_len (z0 z1 z2 : List UInt8) (wi sch path : Bool) : (starL wi (letG [45] z0 ++ 46 :: letG [45] z1)).length ≤ 83 ∧ (schP sch (120 :: letG [43, 46] z2)).length ≤ 44 ∧ (optL path (47 :: letG [37, 47, 46, 126] z2 ++ [47])).length ≤ 42 := by
  have h0 := (letG_len [45] z0).2
  have h1 := (letG_len [45] z1).2
  have h2 := (letG_len [43, 46] z2).2
  have h3 := (letG_len [37, 47, 46, 126] z2).2
  refine ⟨?_, ?_, ?_⟩
  · cases wi <;> simp only [starL, List.length_append, List.length_cons, List.length_nil] <;> omega
  · cases sch <;> simp only [schP, List.length_append, List.length_cons, List.length_nil] <;> omega
  · cases path <;> simp only [optL, List.length_append, List.length_cons, List.length_nil] <;> omega
end Go.Proofs.YteeplfbaflldaaaDoor.S25
