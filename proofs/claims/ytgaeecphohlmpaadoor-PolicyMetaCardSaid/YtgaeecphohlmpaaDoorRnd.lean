/- Plain functions for layer 24: what holds of the directives of any text; their text has them again. -/
import Derived.Test.YtgaeecphohlmpaaDoorTxt
import Derived.Test.YtgaeecphohlmpaaDoorFls
import Derived.Test.YtgaeecphohlmpaaDoorLists5
import Derived.Test.YtgaeecphohlmpaaDoorMor
set_option linter.unusedVariables false
namespace Go.Proofs.YtgaeecphohlmpaaDoor
open Go.RowKit

theorem u8_all {Q : UInt8 → Prop} (h : ∀ i : Fin 256, Q (UInt8.ofNat i.val)) (b : UInt8) : Q b := by
  have := h ⟨b.toNat, b.toNat_lt⟩
  rwa [UInt8.ofNat_toNat] at this
theorem lowB_noUp (b : UInt8) : isUp (lowB b) = false := u8_all (Q := fun b => isUp (lowB b) = false) (by decide +kernel) b
theorem lowB_idem (b : UInt8) : lowB (lowB b) = lowB b := u8_all (Q := fun b => lowB (lowB b) = lowB b) (by decide +kernel) b
theorem lowB_sp (b : UInt8) : isSp (lowB b) = isSp b := u8_all (Q := fun b => isSp (lowB b) = isSp b) (by decide +kernel) b
theorem lowB_semi (b : UInt8) : lowB b = 59 ↔ b = 59 := u8_all (Q := fun b => lowB b = 59 ↔ b = 59) (by decide +kernel) b
theorem lowL_idem (l : List UInt8) : lowL (lowL l) = lowL l := by
  unfold lowL
  rw [List.map_map]
  exact List.map_congr_left fun b _ => lowB_idem b
/-- A name as One gives it. -/
def GoodN (n : List UInt8) : Prop := n ≠ [] ∧ noSp n ∧ (59 : UInt8) ∉ n ∧ ∀ b ∈ n, isUp b = false
def GoodV (v : List UInt8) : Prop := v ≠ [] ∧ noSp v ∧ (59 : UInt8) ∉ v
def GoodD (d : Dir) : Prop := GoodN d.1 ∧ ∀ v ∈ d.2, GoodV v
theorem fStep_mem {st : List (List UInt8) × List UInt8} {x b : UInt8} (h : b ∈ (fStep st x).1.flatten ∨ b ∈ (fStep st x).2) : b ∈ st.1.flatten ∨ b ∈ st.2 ∨ b = x := by
  unfold fStep at h
  by_cases hx : isSp x = true
  · rw [if_pos hx] at h
    simp only [List.not_mem_nil, or_false] at h
    by_cases h0 : st.2 = []
    · rw [if_pos h0] at h; exact .inl h
    · rw [if_neg h0, List.flatten_append] at h
      rcases List.mem_append.1 h with h | h
      · exact .inl h
      · exact .inr (.inl (by simpa using h))
  · rw [if_neg hx] at h
    rcases h with h | h
    · exact .inl h
    · rcases List.mem_append.1 h with h | h
      · exact .inr (.inl h)
      · exact .inr (.inr (by simpa using h))
theorem fFold_mem (l : List UInt8) : ∀ (st : List (List UInt8) × List UInt8) (b : UInt8), (b ∈ (l.foldl fStep st).1.flatten ∨ b ∈ (l.foldl fStep st).2) → b ∈ st.1.flatten ∨ b ∈ st.2 ∨ b ∈ l := by
  induction l with
  | nil => intro st b h; rcases h with h | h; exact .inl h; exact .inr (.inl h)
  | cons x r ih =>
    intro st b h
    rcases ih _ b h with h | h | h
    · rcases fStep_mem (.inl h) with h | h | h
      · exact .inl h
      · exact .inr (.inl h)
      · exact .inr (.inr (by simp [h]))
    · rcases fStep_mem (.inr h) with h | h | h
      · exact .inl h
      · exact .inr (.inl h)
      · exact .inr (.inr (by simp [h]))
    · exact .inr (.inr (by simp [h]))
theorem field_mem {l f : List UInt8} {b : UInt8} (hf : f ∈ fieldsL l) (hb : b ∈ f) : b ∈ l := by
  have key : ∀ c, (c ∈ (fRun l).1.flatten ∨ c ∈ (fRun l).2) → c ∈ l := by
    intro c hc
    rcases fFold_mem l ([], []) c hc with h | h | h
    · simp at h
    · simp at h
    · exact h
  unfold fieldsL fEnd at hf
  split at hf
  · exact key b (.inl (List.mem_flatten.2 ⟨f, hf, hb⟩))
  · rcases List.mem_append.1 hf with hf | hf
    · exact key b (.inl (List.mem_flatten.2 ⟨f, hf, hb⟩))
    · simp at hf; exact key b (.inr (hf ▸ hb))
theorem field_good {p f : List UInt8} (hp : (59 : UInt8) ∉ p) (hf : f ∈ fieldsL p) : GoodV f :=
  ⟨(fields_words p f hf).1, (fields_words p f hf).2, fun h => hp (field_mem hf h)⟩
theorem good_low {v : List UInt8} (h : GoodV v) : GoodN (lowL v) := by
  obtain ⟨h1, h2, h3⟩ := h
  unfold lowL
  refine ⟨by simpa using h1, fun x hx => ?_, fun hx => ?_, fun x hx => ?_⟩
  · obtain ⟨b, hb, rfl⟩ := List.mem_map.1 hx; rw [lowB_sp]; exact h2 b hb
  · obtain ⟨b, hb, e⟩ := List.mem_map.1 hx; rw [(lowB_semi b).1 e] at hb; exact h3 hb
  · obtain ⟨b, hb, rfl⟩ := List.mem_map.1 hx; exact lowB_noUp b
theorem noUp_low {n : List UInt8} (h : ∀ b ∈ n, isUp b = false) : lowL n = n := by
  unfold lowL
  conv => rhs; rw [← List.map_id n]
  exact List.map_congr_left fun b hb => by unfold lowB; rw [h b hb]; rfl
/-- All of them are good, and no name is there twice. -/
def GoodDs (ds : List Dir) : Prop := (∀ d ∈ ds, GoodD d) ∧ (ds.map (·.1)).Nodup
theorem addD_good {acc : List Dir} {p : List UInt8} (h : GoodDs acc) (hp : (59 : UInt8) ∉ p) : GoodDs (addD acc p) := by
  cases hf : fieldsL p with
  | nil => rw [addD_none hf]; exact h
  | cons x ws =>
    have hg : ∀ f ∈ x :: ws, GoodV f := fun f hm => field_good hp (by rw [hf]; exact hm)
    cases hh : hasD acc (lowL x) with
    | true => rw [addD_old hf hh]; exact h
    | false =>
      rw [addD_new hf hh]
      refine ⟨fun d hd => ?_, ?_⟩
      · rcases List.mem_append.1 hd with hd | hd
        · exact h.1 d hd
        · simp at hd
          subst hd
          exact ⟨good_low (hg x (by simp)), fun v hv => hg v (by simp [hv])⟩
      · rw [List.map_append, List.nodup_append]
        refine ⟨h.2, by simp, ?_⟩
        intro a ha b hb e
        simp at hb
        subst hb
        subst e
        obtain ⟨d, hd, e2⟩ := List.mem_map.1 ha
        unfold hasD at hh
        rw [List.any_eq_false] at hh
        exact hh d hd (by simpa using e2)
theorem foldD_good : ∀ (ps : List (List UInt8)) (acc : List Dir), GoodDs acc → (∀ p ∈ ps, (59 : UInt8) ∉ p) → GoodDs (ps.foldl addD acc)
  | [], acc, h, _ => h
  | p :: ps, acc, h, hp => foldD_good ps (addD acc p) (addD_good h (hp p (by simp))) fun q hq => hp q (by simp [hq])
theorem one_good (s : List UInt8) : GoodDs (oneL s) := foldD_good _ _ ⟨fun d hd => by simp at hd, by simp⟩ fun p hp => spl_no 59 s p hp

/-- What is one text's words. -/
theorem words_run (vs : List (List UInt8)) : ∀ (out : List (List UInt8)) (f : List UInt8), f ≠ [] → (∀ v ∈ vs, v ≠ [] ∧ noSp v) → fEnd ((Lib.joinTail [32] vs).foldl fStep (out, f)) = out ++ f :: vs := by
  induction vs with
  | nil => intro out f hf _; simp [Lib.joinTail, fEnd, hf]
  | cons v vs ih =>
    intro out f hf h
    obtain ⟨hv1, hv2⟩ := h v (by simp)
    have e : Lib.joinTail [32] (v :: vs) = [32] ++ (v ++ Lib.joinTail [32] vs) := by simp [Lib.joinTail]
    rw [e, List.foldl_append, List.foldl_append]
    simp only [List.foldl_cons, List.foldl_nil]
    rw [fFold_sp 32 (by decide), if_neg hf, fFold_word v hv2]
    show fEnd ((Lib.joinTail [32] vs).foldl fStep (out ++ [f], [] ++ v)) = _
    rw [List.nil_append, ih (out ++ [f]) v hv1 fun u hu => h u (by simp [hu])]
    simp
theorem word_fields {d : Dir} (h : GoodD d) : fieldsL (wordL d) = d.1 :: d.2 := by
  unfold wordL fieldsL fRun
  rw [Lib.join_cons, List.foldl_append, fFold_word d.1 h.1.2.1]
  show fEnd ((Lib.joinTail [32] d.2).foldl fStep ([], [] ++ d.1)) = _
  rw [List.nil_append, words_run d.2 [] d.1 h.1.1 fun v hv => ⟨(h.2 v hv).1, (h.2 v hv).2.1⟩]
  rfl
theorem word_fields' {d : Dir} (h : GoodD d) : fieldsL (32 :: wordL d) = d.1 :: d.2 := by
  rw [← word_fields h]
  unfold fieldsL fRun
  rw [List.foldl_cons, fFold_sp 32 (by decide)]
  rfl
theorem word_semi {d : Dir} (h : GoodD d) : (59 : UInt8) ∉ wordL d := by
  unfold wordL
  rw [Lib.join_cons]
  intro hm
  rcases List.mem_append.1 hm with hm | hm
  · exact h.1.2.2.1 hm
  · unfold Lib.joinTail at hm
    obtain ⟨l, hl, hm⟩ := List.mem_flatten.1 hm
    obtain ⟨v, hv, rfl⟩ := List.mem_map.1 hl
    simp at hm
    exact (h.2 v hv).2.2 hm
theorem spl_tail : ∀ (ds : List Dir) (a : List UInt8), (59 : UInt8) ∉ a → (∀ d ∈ ds, GoodD d) → spl 59 (a ++ Lib.joinTail [59, 32] (ds.map wordL)) = a :: ds.map (fun d => 32 :: wordL d)
  | [], a, ha, _ => by simp [Lib.joinTail, spl_none ha]
  | d :: ds, a, ha, h => by
    have e : a ++ Lib.joinTail [59, 32] ((d :: ds).map wordL) = a ++ 59 :: ((32 :: wordL d) ++ Lib.joinTail [59, 32] (ds.map wordL)) := by simp [Lib.joinTail]
    rw [e, spl_hit ha, spl_tail ds (32 :: wordL d) (by
      intro hm
      rcases List.mem_cons.1 hm with hm | hm
      · cases hm
      · exact word_semi (h d (by simp)) hm) fun q hq => h q (by simp [hq])]
    rfl
theorem fold_back : ∀ (ds : List Dir) (acc : List Dir), (∀ d ∈ ds, GoodD d) → ((acc ++ ds).map (·.1)).Nodup → (ds.map (fun d => 32 :: wordL d)).foldl addD acc = acc ++ ds
  | [], acc, _, _ => by simp
  | d :: ds, acc, h, hn => by
    have hg := h d (by simp)
    have hno : hasD acc (lowL d.1) = false := by
      rw [noUp_low hg.1.2.2.2]
      unfold hasD
      rw [List.any_eq_false]
      intro e he hq
      rw [List.map_append, List.nodup_append] at hn
      exact hn.2.2 _ (List.mem_map.2 ⟨e, he, rfl⟩) d.1 (by simp) (by simpa using hq)
    rw [List.map_cons, List.foldl_cons, addD_new (word_fields' hg) hno, noUp_low hg.1.2.2.2, fold_back ds _ (fun q hq => h q (by simp [hq])) (by simpa using hn)]
    simp
/-- The text of directives has them. -/
theorem one_text {ds : List Dir} (h : GoodDs ds) : oneL (textL ds) = ds := by
  cases ds with
  | nil => decide +kernel
  | cons d ds =>
    have hg := h.1 d (by simp)
    unfold textL oneL
    rw [List.map_cons, Lib.join_cons, spl_tail ds (wordL d) (word_semi hg) fun q hq => h.1 q (by simp [hq]), List.foldl_cons, addD_new (word_fields hg) (by simp [hasD]), noUp_low hg.1.2.2.2]
    show (ds.map (fun d => 32 :: wordL d)).foldl addD ([] ++ [(d.1, d.2)]) = _
    rw [fold_back ds _ (fun q hq => h.1 q (by simp [hq])) (by simpa using h.2)]
    rfl

/-! How long it is. -/
theorem fStep_sum (st : List (List UInt8) × List UInt8) (x : UInt8) : Lib.lens (fStep st x).1 + (fStep st x).1.length + (fStep st x).2.length ≤ Lib.lens st.1 + st.1.length + st.2.length + 1 := by
  unfold fStep
  split
  · split
    · simp; omega
    · simp [Lib.lens]; omega
  · simp; omega
theorem fFold_sum (l : List UInt8) : ∀ st : List (List UInt8) × List UInt8, Lib.lens (l.foldl fStep st).1 + (l.foldl fStep st).1.length + (l.foldl fStep st).2.length ≤ Lib.lens st.1 + st.1.length + st.2.length + l.length := by
  induction l with
  | nil => intro st; simp
  | cons x r ih =>
    intro st
    have h1 := ih (fStep st x)
    have h2 := fStep_sum st x
    simp only [List.foldl_cons, List.length_cons]
    omega
theorem fields_sum (l : List UInt8) : Lib.lens (fieldsL l) + (fieldsL l).length ≤ l.length + 1 := by
  have h := fFold_sum l ([], [])
  have h0 : Lib.lens ([] : List (List UInt8)) = 0 := rfl
  simp only [h0, List.length_nil] at h
  unfold fieldsL fEnd fRun
  split
  · simp at h ⊢; omega
  · simp [Lib.lens] at h ⊢; omega
def sumW (ds : List Dir) : Nat := (ds.map fun d => (wordL d).length + 2).sum
theorem word_sum {p x : List UInt8} {ws : List (List UInt8)} (h : fieldsL p = x :: ws) : (wordL (lowL x, ws)).length ≤ p.length := by
  have h1 := fields_sum p
  rw [h] at h1
  unfold wordL
  rw [Lib.join_length]
  have h2 : (lowL x).length = x.length := by simp [lowL]
  simp only [Lib.lens, List.map_cons, List.sum_cons, List.length_cons, List.length_nil] at h1 ⊢
  rw [h2]
  omega
theorem addD_sum (acc : List Dir) (p : List UInt8) : sumW (addD acc p) ≤ sumW acc + (p.length + 2) := by
  cases hf : fieldsL p with
  | nil => rw [addD_none hf]; omega
  | cons x ws =>
    cases hh : hasD acc (lowL x) with
    | true => rw [addD_old hf hh]; omega
    | false =>
      rw [addD_new hf hh]
      have := word_sum hf
      simp [sumW]
      omega
theorem foldD_sum : ∀ (ps : List (List UInt8)) (acc : List Dir), sumW (ps.foldl addD acc) ≤ sumW acc + (ps.map fun p => p.length + 2).sum
  | [], acc => by simp
  | p :: ps, acc => by
    have h1 := foldD_sum ps (addD acc p)
    have h2 := addD_sum acc p
    simp only [List.foldl_cons, List.map_cons, List.sum_cons]
    omega
theorem spl_sum (d : UInt8) : ∀ l : List UInt8, ((spl d l).map fun p => p.length + 2).sum ≤ 2 * l.length + 2
  | [] => by simp [spl]
  | x :: r => by
    have ih := spl_sum d r
    rw [spl_cons]
    split
    · simp only [List.map_cons, List.sum_cons, List.length_nil, List.length_cons]; omega
    · cases hr : spl d r with
      | nil => exact absurd hr (spl_ne d r)
      | cons y ys =>
        rw [hr] at ih
        simp only [List.map_cons, List.sum_cons, List.length_cons] at ih ⊢
        omega
theorem tail_sum (ds : List Dir) : (Lib.joinTail [59, 32] (ds.map wordL)).length = sumW ds := by
  induction ds with
  | nil => rfl
  | cons d ds ih =>
    simp only [Lib.joinTail, sumW, List.map_cons, List.flatten_cons, List.length_append, List.sum_cons, List.length_cons, List.length_nil] at ih ⊢
    omega
theorem text_sum (s : List UInt8) : (textL (oneL s)).length ≤ 2 * s.length + 2 := by
  have h1 := foldD_sum (spl 59 s) []
  have h2 := spl_sum 59 s
  have h0 : sumW [] = 0 := rfl
  have h3 : (textL (oneL s)).length ≤ sumW (oneL s) := by
    cases ho : oneL s with
    | nil => simp [textL, Lib.join]
    | cons d ds =>
      unfold textL
      rw [List.map_cons, Lib.join_cons, List.length_append, tail_sum]
      simp [sumW]
  unfold oneL at h3 ⊢
  omega
theorem one_bnd (s : List UInt8) (h : s.length ≤ 8000) : Bnd (oneL s) := by
  refine ⟨by have := oneL_len s; omega, ?_⟩
  have key : ∀ (ps : List (List UInt8)) (acc : List Dir), (∀ p ∈ ps, p.length ≤ 8000) → (∀ d ∈ acc, d.1.length ≤ 8192 ∧ d.2.length ≤ 8192 ∧ ∀ v ∈ d.2, v.length ≤ 8192) → ∀ d ∈ ps.foldl addD acc, d.1.length ≤ 8192 ∧ d.2.length ≤ 8192 ∧ ∀ v ∈ d.2, v.length ≤ 8192 := by
    intro ps
    induction ps with
    | nil => intro acc _ h; exact h
    | cons p ps ih =>
      intro acc hp h
      refine ih _ (fun q hq => hp q (by simp [hq])) ?_
      have hpl := hp p (by simp)
      cases hf : fieldsL p with
      | nil => rw [addD_none hf]; exact h
      | cons x ws =>
        have hfl : ∀ f ∈ x :: ws, f.length ≤ p.length := fun f hm => field_len (by rw [hf]; exact hm)
        have hfn := fieldsL_len p
        rw [hf] at hfn
        simp at hfn
        cases hh : hasD acc (lowL x) with
        | true => rw [addD_old hf hh]; exact h
        | false =>
          rw [addD_new hf hh]
          intro d hd
          rcases List.mem_append.1 hd with hd | hd
          · exact h d hd
          · simp at hd
            subst hd
            have hx := hfl x (by simp)
            refine ⟨by simp [lowL]; omega, by show ws.length ≤ 8192; omega, fun v hv => ?_⟩
            have := hfl v (by simp [hv])
            omega
  exact key _ [] (fun p hp => by have := spl_mem hp; omega) (by simp)
end Go.Proofs.YtgaeecphohlmpaaDoor
