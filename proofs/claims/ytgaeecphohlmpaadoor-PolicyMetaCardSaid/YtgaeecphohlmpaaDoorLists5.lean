/- What is true of stripped texts, and of commas. No program. -/
import Derived.Test.YtgaeecphohlmpaaDoorLists4
namespace Go.Proofs.YtgaeecphohlmpaaDoor

theorem dw_idem (l : List UInt8) : (l.dropWhile isSp).dropWhile isSp = l.dropWhile isSp := by
  induction l with
  | nil => rfl
  | cons x r ih =>
    by_cases hx : isSp x = true
    · rw [List.dropWhile_cons_of_pos hx, ih]
    · rw [List.dropWhile_cons_of_neg hx, List.dropWhile_cons_of_neg hx]
theorem dw_head {c : UInt8} {r l : List UInt8} (h : l.dropWhile isSp = c :: r) : isSp c = false := by
  induction l with
  | nil => simp at h
  | cons x t ih =>
    by_cases hx : isSp x = true
    · rw [List.dropWhile_cons_of_pos hx] at h; exact ih h
    · rw [List.dropWhile_cons_of_neg hx] at h
      injection h with a b
      rw [← a]; simpa using hx
theorem dropEnd_prefix (q : List UInt8) : ∃ t, q = dropEnd q ++ t := by
  refine ⟨(q.reverse.takeWhile isSp).reverse, ?_⟩
  unfold dropEnd
  rw [← List.reverse_append, List.takeWhile_append_dropWhile, List.reverse_reverse]
theorem dropEnd_idem (q : List UInt8) : dropEnd (dropEnd q) = dropEnd q := by
  unfold dropEnd
  rw [List.reverse_reverse, dw_idem]
theorem strip_idem (l : List UInt8) : stripL (stripL l) = stripL l := by
  rw [stripL_eq, stripL_eq]
  have hf : stripFront (dropEnd (stripFront l)) = dropEnd (stripFront l) := by
    cases h : dropEnd (stripFront l) with
    | nil => rfl
    | cons c r =>
      obtain ⟨t, ht⟩ := dropEnd_prefix (stripFront l)
      rw [h] at ht
      have hc : isSp c = false := dw_head (l := l) (r := r ++ t) (by simpa [stripFront] using ht)
      simp [stripFront, hc]
  rw [hf, dropEnd_idem]
theorem strip_sp (x : UInt8) (hx : isSp x = true) (l : List UInt8) : stripL (x :: l) = stripL l := by
  unfold stripL
  rw [List.dropWhile_cons_of_pos hx]
theorem strip_snoc (y : UInt8) (hy : isSp y = true) (l : List UInt8) : stripL (l ++ [y]) = stripL l := by
  unfold stripL
  rw [List.dropWhile_append]
  split
  · rename_i h
    have he : l.dropWhile isSp = [] := by simpa using h
    rw [he, List.dropWhile_cons_of_pos hy]
    rfl
  · rw [List.reverse_append, List.reverse_singleton, List.singleton_append, List.dropWhile_cons_of_pos hy]
theorem strip_sub (l : List UInt8) : ∀ x ∈ stripL l, x ∈ l := by
  intro x hx
  unfold stripL at hx
  have h1 := (List.dropWhile_sublist (l := (l.dropWhile isSp).reverse) isSp).subset (List.mem_reverse.1 hx)
  exact (List.dropWhile_sublist (l := l) isSp).subset (List.mem_reverse.1 h1)
theorem spl_no (d : UInt8) : ∀ (l : List UInt8), ∀ p ∈ spl d l, d ∉ p := by
  intro l
  induction l with
  | nil => intro p hp; simp [spl] at hp; simp [hp]
  | cons x r ih =>
    intro p hp
    rw [spl_cons] at hp
    by_cases hx : x = d
    · rw [if_pos hx] at hp
      rcases List.mem_cons.1 hp with e | e
      · subst e; simp
      · exact ih p e
    · rw [if_neg hx] at hp
      cases hr : spl d r with
      | nil => exact absurd hr (spl_ne d r)
      | cons q qs =>
        rw [hr] at hp
        rcases List.mem_cons.1 hp with e | e
        · subst e
          intro hm
          rcases List.mem_cons.1 hm with e | e
          · exact hx e.symm
          · exact ih q (by rw [hr]; simp) e
        · exact ih p (by rw [hr]; simp [e])
/-- Each piece between commas is stripped, has no comma, and is not empty. -/
theorem commas_words (l : List UInt8) : ∀ f ∈ commasL l, f ≠ [] ∧ stripL f = f ∧ (44 : UInt8) ∉ f ∧ f.length ≤ l.length := by
  intro f hf
  unfold commasL full at hf
  rw [List.mem_filter] at hf
  obtain ⟨hf, hne⟩ := hf
  obtain ⟨p, hp, rfl⟩ := List.mem_map.1 hf
  refine ⟨by simpa using hne, strip_idem p, fun hm => spl_no 44 l p hp (strip_sub p _ hm), ?_⟩
  have h1 := spl_mem hp
  have h2 : (stripL p).length ≤ p.length := by
    unfold stripL
    have h1 := (List.dropWhile_sublist (l := (p.dropWhile isSp).reverse) isSp).length_le
    have h2 := (List.dropWhile_sublist (l := p) isSp).length_le
    simp at h1 h2 ⊢
    omega
  omega
theorem sFold_word (d : UInt8) (f : List UInt8) (h : d ∉ f) : ∀ st, f.foldl (sStep d) st = (st.1, st.2 ++ f) := by
  induction f with
  | nil => intro st; simp
  | cons x r ih =>
    intro st
    have hx : ¬ x = d := fun e => h (by simp [e])
    rw [List.foldl_cons, ih fun e => h (by simp [e])]
    simp [sStep, hx]
/-- A piece more, spaces about it, a comma behind it, and an empty piece behind that. -/
theorem sRun_group {t f : List UInt8} {P : List (List UInt8)} {x y : UInt8} (ht : sRun 44 t = (P, [])) (hx : x ≠ 44) (hy : y ≠ 44) (hf : (44 : UInt8) ∉ f) :
    sRun 44 (t ++ [x] ++ f ++ [y] ++ [44] ++ [x] ++ [44]) = (P ++ [x :: f ++ [y]] ++ [[x]], []) := by
  have e : t ++ [x] ++ f ++ [y] ++ [44] ++ [x] ++ [44] = t ++ ((x :: f ++ [y]) ++ (44 :: [x] ++ [44])) := by simp
  rw [e]
  have hw : (44 : UInt8) ∉ x :: f ++ [y] := by
    intro hm
    rcases List.mem_append.1 hm with hm | hm
    · rcases List.mem_cons.1 hm with e | e
      · exact hx e.symm
      · exact hf e
    · simp at hm; exact hy hm.symm
  unfold sRun at ht ⊢
  rw [List.foldl_append, ht, List.foldl_append, sFold_word 44 (x :: f ++ [y]) hw]
  simp [sStep, hx]
theorem full_group {f : List UInt8} {P : List (List UInt8)} {x y : UInt8} (hx : isSp x = true) (hy : isSp y = true) (hf : f ≠ []) (hs : stripL f = f) : full (P ++ [x :: f ++ [y]] ++ [[x]]) = full P ++ [f] := by
  have h1 : stripL (x :: f ++ [y]) = f := by rw [List.cons_append, strip_sp x hx, strip_snoc y hy, hs]
  have h2 : stripL [x] = [] := by rw [strip_sp x hx]; rfl
  rw [full_append, full_append, full_one_nil h2, List.append_nil, full_one (by rw [h1]; exact hf), h1]
theorem commasL_of {t : List UInt8} {P : List (List UInt8)} (h : sRun 44 t = (P, [])) : commasL t = full P := by
  unfold commasL
  rw [← sRun_spl, h, full_append, full_one_nil rfl, List.append_nil]
end Go.Proofs.YtgaeecphohlmpaaDoor
