/- tags, as lists of bytes: what stands behind a tag makes no difference to it. -/
import Derived.Test.YtbpdmbmooboimaaDoorTgM
set_option linter.unusedVariables false
set_option linter.unusedSimpArgs false
namespace Go.Proofs.YtbpdmbmooboimaaDoor.T10
open Go.RowKit R9

theorem tw_len (f : UInt8 → Bool) : ∀ (u : Nat) (l : List UInt8), (∀ j, j < u → ∃ c, l[j]? = some c ∧ f c = true) → (∀ c, l[u]? = some c → f c = false) → (l.takeWhile f).length = u
  | 0, [], _, _ => rfl
  | 0, x :: t, _, h2 => by rw [List.takeWhile_cons, h2 x rfl]; rfl
  | u + 1, [], h1, _ => by obtain ⟨c, h, _⟩ := h1 0 (by omega); cases h
  | u + 1, x :: t, h1, h2 => by
    obtain ⟨c, h, hc⟩ := h1 0 (by omega)
    obtain rfl : x = c := by simpa using h
    rw [List.takeWhile_cons, hc]
    show (t.takeWhile f).length + 1 = u + 1
    rw [tw_len f u t (fun j hj => by simpa using h1 (j + 1) (by omega)) (fun c h => h2 c (by simpa using h))]
theorem tw_in (f : UInt8 → Bool) : ∀ (l : List UInt8) (j : Nat), j < (l.takeWhile f).length → ∃ c, l[j]? = some c ∧ f c = true
  | [], j, h => by simp at h
  | x :: t, j, h => by
    rw [List.takeWhile_cons] at h
    cases hx : f x with
    | false => rw [hx] at h; simp at h
    | true =>
      rw [hx] at h
      cases j with
      | zero => exact ⟨x, rfl, hx⟩
      | succ j => exact tw_in f t j (by simpa using h)
theorem tw_at (f : UInt8 → Bool) : ∀ (l : List UInt8) (c : UInt8), l[(l.takeWhile f).length]? = some c → f c = false
  | [], c, h => by simp at h
  | x :: t, c, h => by
    rw [List.takeWhile_cons] at h
    cases hx : f x with
    | false =>
      rw [hx] at h
      obtain rfl : x = c := by simpa using h
      exact hx
    | true =>
      rw [hx] at h
      exact tw_at f t c (by simpa using h)
section
variable {l l' : List UInt8} {N : Nat}
theorem tw_local (hN : N ≤ l.length) (hg : ∀ j, j < N → l'[j]? = l[j]?) (f : UInt8 → Bool) {i u : Nat} (hu : ((l.drop i).takeWhile f).length = u) (h : i + u < N) : ((l'.drop i).takeWhile f).length = u := by
  refine tw_len f u _ (fun j hj => ?_) (fun c hc => ?_)
  · obtain ⟨c, h1, h2⟩ := tw_in f (l.drop i) j (by omega)
    refine ⟨c, ?_, h2⟩
    rw [List.getElem?_drop] at h1 ⊢
    rw [hg _ (by omega)]
    exact h1
  · rw [List.getElem?_drop, hg _ h, ← List.getElem?_drop] at hc
    refine tw_at f (l.drop i) c ?_
    rw [hu]; exact hc
theorem up_local (hN : N ≤ l.length) (hg : ∀ j, j < N → l'[j]? = l[j]?) (p : UInt8 → Bool) {i : Nat} (h : i + upN p (l.drop i) < N) : upN p (l'.drop i) = upN p (l.drop i) := tw_local hN hg _ rfl h
theorem skip_local (hN : N ≤ l.length) (hg : ∀ j, j < N → l'[j]? = l[j]?) {i : Nat} (h : i + skipN (l.drop i) < N) : skipN (l'.drop i) = skipN (l.drop i) := tw_local hN hg _ rfl h
theorem to_local (hN : N ≤ l.length) (hg : ∀ j, j < N → l'[j]? = l[j]?) (c : UInt8) {i : Nat} (h : i + toN c (l.drop i) < N) : toN c (l'.drop i) = toN c (l.drop i) := tw_local hN hg _ rfl h
theorem take_local (hg : ∀ j, j < N → l'[j]? = l[j]?) {i m : Nat} (h : i + m ≤ N) : (l'.drop i).take m = (l.drop i).take m := by
  apply List.ext_getElem?
  intro j
  rw [List.getElem?_take, List.getElem?_take]
  split
  · rw [List.getElem?_drop, List.getElem?_drop, hg _ (by omega)]
  · rfl

theorem attr_b {r : List UInt8} (h : r[1 + upN stopB (r.drop 1) + skipN (r.drop (1 + upN stopB (r.drop 1)))]? = some 61) : 1 + upN stopB (r.drop 1) + skipN (r.drop (1 + upN stopB (r.drop 1))) + 1 + skipN (r.drop (1 + upN stopB (r.drop 1) + skipN (r.drop (1 + upN stopB (r.drop 1))) + 1)) ≤ (attrL r).2 := by
  obtain ⟨e, he⟩ : ∃ e, 1 + upN stopB (r.drop 1) = e := ⟨_, rfl⟩
  rw [he] at h ⊢
  obtain ⟨b, hb⟩ : ∃ b, e + skipN (r.drop e) = b := ⟨_, rfl⟩
  rw [hb] at h ⊢
  obtain ⟨v, hv⟩ : ∃ v, b + 1 + skipN (r.drop (b + 1)) = v := ⟨_, rfl⟩
  rw [hv]
  have hbl := (List.getElem?_eq_some_iff.1 h).1
  have h3 := skipN_le (r.drop (b + 1))
  rw [List.length_drop] at h3
  unfold attrL
  simp only [he, hb, hv]
  rw [if_pos h]
  cases hc : r[v]? with
  | none => exact Nat.le_refl _
  | some c =>
    simp only []
    by_cases h62 : c = 62
    · rw [if_pos h62]; exact Nat.le_refl _
    · rw [if_neg h62]
      by_cases hq : c = 34 ∨ c = 39
      · rw [if_pos hq]
        by_cases hi : v + 1 + toN c (r.drop (v + 1)) < r.length
        · rw [if_pos hi]; simp only []; omega
        · rw [if_neg hi]; simp only []; omega
      · rw [if_neg hq]; simp only []; omega
theorem attr_not {r : List UInt8} (h : ¬ r[1 + upN stopB (r.drop 1) + skipN (r.drop (1 + upN stopB (r.drop 1)))]? = some 61) : (attrL r).2 = 1 + upN stopB (r.drop 1) := by
  unfold attrL
  simp only []
  rw [if_neg h]
theorem attr_local (hN : N ≤ l.length) (hg : ∀ j, j < N → l'[j]? = l[j]?) {i : Nat} (hk : i + (attrL (l.drop i)).2 < N)
    (hb : i + (1 + upN stopB ((l.drop i).drop 1) + skipN ((l.drop i).drop (1 + upN stopB ((l.drop i).drop 1)))) < N) : attrL (l'.drop i) = attrL (l.drop i) := by
  obtain ⟨r, hr⟩ : ∃ r, l.drop i = r := ⟨_, rfl⟩
  obtain ⟨r', hr'⟩ : ∃ r, l'.drop i = r := ⟨_, rfl⟩
  obtain ⟨M, hM⟩ : ∃ M, N - i = M := ⟨_, rfl⟩
  have hgr : ∀ j, j < M → r'[j]? = r[j]? := fun j hj => by rw [← hr, ← hr', List.getElem?_drop, List.getElem?_drop, hg _ (by omega)]
  have hMl : M ≤ r.length := by rw [← hr, List.length_drop]; omega
  have h0 : ∀ d, d < r.length → i + d < N → d < M := fun d _ h => by omega
  rw [hr] at hk hb ⊢
  rw [hr']
  replace hk : (attrL r).2 < M := by omega
  replace hb : 1 + upN stopB (r.drop 1) + skipN (r.drop (1 + upN stopB (r.drop 1))) < M := by omega
  have he : upN stopB (r'.drop 1) = upN stopB (r.drop 1) := up_local hMl hgr _ (by omega)
  have hs : skipN (r'.drop (1 + upN stopB (r.drop 1))) = skipN (r.drop (1 + upN stopB (r.drop 1))) := skip_local hMl hgr (by omega)
  have hAB := @attr_b r
  unfold attrL at hk ⊢
  simp only [he, hs]
  obtain ⟨e, hee⟩ : ∃ e, 1 + upN stopB (r.drop 1) = e := ⟨_, rfl⟩
  simp only [hee] at hk hb hAB ⊢
  obtain ⟨b, hbb⟩ : ∃ b, e + skipN (r.drop e) = b := ⟨_, rfl⟩
  simp only [hbb] at hk hb hAB ⊢
  have htk : r'.take e = r.take e := by
    have := take_local (i := 0) (m := e) hgr (by omega)
    simpa using this
  rw [htk, hgr b hb]
  by_cases h61 : r[b]? = some 61
  · have hAB := hAB h61
    unfold attrL at hAB
    simp only [hee, hbb] at hAB
    rw [if_pos h61] at hk hAB ⊢
    rw [if_pos h61]
    obtain ⟨v, hv⟩ : ∃ v, b + 1 + skipN (r.drop (b + 1)) = v := ⟨_, rfl⟩
    rw [hv] at hk hAB
    have hvM : v < M := by omega
    have hsv : skipN (r'.drop (b + 1)) = skipN (r.drop (b + 1)) := skip_local hMl hgr (by omega)
    rw [hsv, hv, hgr v hvM]
    cases hc : r[v]? with
    | none => rfl
    | some c =>
      rw [hc] at hk
      simp only [] at hk ⊢
      by_cases h62 : c = 62
      · rw [if_pos h62, if_pos h62]
      · rw [if_neg h62] at hk
        rw [if_neg h62, if_neg h62]
        by_cases hq : c = 34 ∨ c = 39
        · rw [if_pos hq] at hk
          rw [if_pos hq, if_pos hq]
          by_cases hi : v + 1 + toN c (r.drop (v + 1)) < r.length
          · rw [if_pos hi] at hk
            simp only [] at hk
            have ht : toN c (r'.drop (v + 1)) = toN c (r.drop (v + 1)) := to_local hMl hgr c (by omega)
            have hl' : v + 1 + toN c (r.drop (v + 1)) < r'.length := by
              have h5 : r'[v + 1 + toN c (r.drop (v + 1))]? = r[v + 1 + toN c (r.drop (v + 1))]? := hgr _ (by omega)
              rw [List.getElem?_eq_getElem hi] at h5
              exact (List.getElem?_eq_some_iff.1 h5).1
            rw [ht, if_pos hi, if_pos hl', take_local hgr (by omega)]
          · rw [if_neg hi] at hk
            simp only [] at hk
            omega
        · rw [if_neg hq] at hk
          simp only [] at hk
          have ht : upN stopC (r'.drop v) = upN stopC (r.drop v) := up_local hMl hgr _ (by omega)
          rw [if_neg hq, if_neg hq, ht, take_local hgr (by omega)]
  · rw [if_neg h61, if_neg h61]
end

theorem rest_end : ∀ (n : Nat) (l : List UInt8) (i : Nat) (acc acc' : List At) (b b' : Bool) (N : Nat), restF n (l.drop i) acc b i = some (acc', b', N) → i + skipN (l.drop i) < N ∧ N ≤ l.length ∧ l[N - 1]? = some 62
  | 0, l, i, acc, acc', b, b', N, h => by simp [restF] at h
  | n + 1, l, i, acc, acc', b, b', N, h => by
    by_cases hi : i < l.length
    · obtain ⟨c, hc⟩ : ∃ c, l[i]? = some c := ⟨_, List.getElem?_eq_getElem hi⟩
      have hd : l.drop i = c :: l.drop (i + 1) := by
        rw [List.drop_eq_getElem_cons hi]
        congr 1
        exact (List.getElem?_eq_some_iff.1 hc).2
      have hs0 : blB c = false → skipN (l.drop i) = 0 := fun hb => skipN_stop l i fun d hd => by rw [hc] at hd; injection hd with hd; subst hd; exact hb
      rw [hd] at h
      unfold restF at h
      by_cases h62 : c = 62
      · rw [if_pos h62] at h
        injection h with h
        injection h with _ h
        injection h with _ h
        subst h
        rw [hs0 (by rw [h62]; rfl)]
        refine ⟨by omega, by omega, ?_⟩
        rw [Nat.add_sub_cancel, hc, h62]
      · rw [if_neg h62] at h
        by_cases hb : blB c = true
        · rw [if_pos hb] at h
          have h1 := rest_end n l (i + 1) _ _ _ _ _ h
          rw [skipN_step l i c hc hb]
          exact ⟨by omega, h1.2⟩
        · rw [if_neg hb] at h
          have hb' : blB c = false := by simpa using hb
          rw [hs0 hb']
          by_cases h47 : c = 47
          · rw [if_pos h47] at h
            have h1 := rest_end n l (i + 1) _ _ _ _ _ h
            exact ⟨by omega, h1.2⟩
          · rw [if_neg h47, ← hd, List.drop_drop] at h
            have h1 := rest_end n l _ _ _ _ _ _ h
            exact ⟨by omega, h1.2⟩
    · rw [List.drop_of_length_le (by omega)] at h
      simp [restF] at h
theorem rest_fuel : ∀ (n m : Nat) (r : List UInt8) (i : Nat) (acc : List At) (b : Bool) (x : List At × Bool × Nat), restF n r acc b i = some x → r.length < m → restF m r acc b i = some x
  | 0, m, r, i, acc, b, x, h, hm => by simp [restF] at h
  | n + 1, 0, r, i, acc, b, x, h, hm => by omega
  | n + 1, m + 1, [], i, acc, b, x, h, hm => by simp [restF] at h
  | n + 1, m + 1, c :: t, i, acc, b, x, h, hm => by
    unfold restF at h ⊢
    simp at hm
    by_cases h62 : c = 62
    · rw [if_pos h62] at h ⊢; exact h
    · rw [if_neg h62] at h ⊢
      by_cases hb : blB c = true
      · rw [if_pos hb] at h ⊢
        exact rest_fuel n m _ _ _ _ _ h hm
      · rw [if_neg hb] at h ⊢
        by_cases h47 : c = 47
        · rw [if_pos h47] at h ⊢
          exact rest_fuel n m _ _ _ _ _ h hm
        · rw [if_neg h47] at h ⊢
          have := attr_pos (c :: t) (by simp)
          exact rest_fuel n m _ _ _ _ _ h (by rw [List.length_drop]; simp; omega)
theorem rest_local : ∀ (n : Nat) (l l' : List UInt8) (i : Nat) (acc acc' : List At) (b b' : Bool) (N : Nat), restF n (l.drop i) acc b i = some (acc', b', N) → (∀ j, j < N → l'[j]? = l[j]?) → restF n (l'.drop i) acc b i = some (acc', b', N)
  | 0, l, l', i, acc, acc', b, b', N, h, hg => by simp [restF] at h
  | n + 1, l, l', i, acc, acc', b, b', N, h, hg => by
    have hend := rest_end (n + 1) l i _ _ _ _ _ h
    have hi : i < l.length := by omega
    obtain ⟨c, hc⟩ : ∃ c, l[i]? = some c := ⟨_, List.getElem?_eq_getElem hi⟩
    have hc' : l'[i]? = some c := by rw [hg i (by omega)]; exact hc
    have hi' := (List.getElem?_eq_some_iff.1 hc').1
    have hd : l.drop i = c :: l.drop (i + 1) := by
      rw [List.drop_eq_getElem_cons hi]
      congr 1
      exact (List.getElem?_eq_some_iff.1 hc).2
    have hd' : l'.drop i = c :: l'.drop (i + 1) := by
      rw [List.drop_eq_getElem_cons hi']
      congr 1
      exact (List.getElem?_eq_some_iff.1 hc').2
    have hh : ∀ d, restF n (l.drop d) acc b d = some (acc', b', N) → d < N := fun d h => by have := rest_end n l d _ _ _ _ _ h; omega
    rw [hd] at h
    rw [hd']
    unfold restF at h ⊢
    by_cases h62 : c = 62
    · rw [if_pos h62] at h ⊢; exact h
    · rw [if_neg h62] at h ⊢
      by_cases hb : blB c = true
      · rw [if_pos hb] at h ⊢
        exact rest_local n l l' _ _ _ _ _ _ h hg
      · rw [if_neg hb] at h ⊢
        by_cases h47 : c = 47
        · rw [if_pos h47] at h ⊢
          have h1 := rest_end n l (i + 1) _ _ _ _ _ h
          have e : (l'.drop (i + 1)).head? = (l.drop (i + 1)).head? := by rw [List.head?_drop, List.head?_drop, hg _ (by omega)]
          rw [e]
          exact rest_local n l l' _ _ _ _ _ _ h hg
        · rw [if_neg h47, ← hd, List.drop_drop] at h
          have h1 := rest_end n l _ _ _ _ _ _ h
          have ha : attrL (l'.drop i) = attrL (l.drop i) := by
            refine attr_local h1.2.1 hg (by omega) ?_
            by_cases h61 : (l.drop i)[1 + upN stopB ((l.drop i).drop 1) + skipN ((l.drop i).drop (1 + upN stopB ((l.drop i).drop 1)))]? = some 61
            · have := attr_b h61
              omega
            · have h2 := attr_not h61
              rw [h2] at h1
              have h3 := h1.1
              rw [← List.drop_drop] at h3
              omega
          rw [if_neg h47, ← hd', ha, List.drop_drop]
          exact rest_local n l l' _ _ _ _ _ _ h hg
theorem begin_local {l l' : List UInt8} {a N : Nat} (hg : ∀ j, j < N → l'[j]? = l[j]?) (h0 : ¬ (beginL l a).1 = 0) (hN : (beginL l a).1 < N) : beginL l' a = beginL l a := by
  unfold beginL at h0 hN ⊢
  by_cases h60 : l[a]? = some 60
  · rw [if_pos h60] at h0 hN ⊢
    by_cases h47 : l[a + 1]? = some 47
    · rw [if_pos h47] at h0 hN ⊢
      cases hc : l[a + 2]? with
      | none => rw [hc] at h0; exact absurd rfl h0
      | some c =>
        rw [hc] at h0 hN
        simp only [] at h0 hN ⊢
        by_cases hal : alI c.toNat = true
        · rw [if_pos hal] at h0 hN ⊢
          simp only [] at hN
          rw [hg a (by omega), if_pos h60, hg (a + 1) (by omega), if_pos h47, hg (a + 2) hN, hc]
          simp only []
          rw [if_pos hal]
        · rw [if_neg hal] at h0; exact absurd rfl h0
    · rw [if_neg h47] at h0 hN ⊢
      cases hc : l[a + 1]? with
      | none => rw [hc] at h0; exact absurd rfl h0
      | some c =>
        rw [hc] at h0 hN
        simp only [] at h0 hN ⊢
        by_cases hal : alI c.toNat = true
        · rw [if_pos hal] at h0 hN ⊢
          simp only [] at hN
          rw [hg a (by omega), if_pos h60, hg (a + 1) (by omega), if_neg h47, hc]
          simp only []
          rw [if_pos hal]
        · rw [if_neg hal] at h0; exact absurd rfl h0
  · rw [if_neg h60] at h0; exact absurd rfl h0
theorem begin_gt {l : List UInt8} {a : Nat} (h0 : ¬ (beginL l a).1 = 0) : a < (beginL l a).1 := by
  unfold beginL at h0 ⊢
  by_cases h60 : l[a]? = some 60
  · rw [if_pos h60] at h0 ⊢
    by_cases h47 : l[a + 1]? = some 47
    · rw [if_pos h47] at h0 ⊢
      cases hc : l[a + 2]? with
      | none => rw [hc] at h0; exact absurd rfl h0
      | some c =>
        rw [hc] at h0
        simp only [] at h0 ⊢
        by_cases hal : alI c.toNat = true
        · rw [if_pos hal] at h0 ⊢; simp only []; omega
        · rw [if_neg hal] at h0; exact absurd rfl h0
    · rw [if_neg h47] at h0 ⊢
      cases hc : l[a + 1]? with
      | none => rw [hc] at h0; exact absurd rfl h0
      | some c =>
        rw [hc] at h0
        simp only [] at h0 ⊢
        by_cases hal : alI c.toNat = true
        · rw [if_pos hal] at h0 ⊢; simp only []; omega
        · rw [if_neg hal] at h0; exact absurd rfl h0
  · rw [if_neg h60] at h0; exact absurd rfl h0
theorem begin_lt {l : List UInt8} {a : Nat} (h0 : ¬ (beginL l a).1 = 0) : ∃ c, l[(beginL l a).1]? = some c ∧ alI c.toNat = true := by
  unfold beginL at h0 ⊢
  by_cases h60 : l[a]? = some 60
  · rw [if_pos h60] at h0 ⊢
    by_cases h47 : l[a + 1]? = some 47
    · rw [if_pos h47] at h0 ⊢
      cases hc : l[a + 2]? with
      | none => rw [hc] at h0; exact absurd rfl h0
      | some c =>
        rw [hc] at h0
        simp only [] at h0 ⊢
        by_cases hal : alI c.toNat = true
        · rw [if_pos hal] at h0 ⊢; exact ⟨c, hc, hal⟩
        · rw [if_neg hal] at h0; exact absurd rfl h0
    · rw [if_neg h47] at h0 ⊢
      cases hc : l[a + 1]? with
      | none => rw [hc] at h0; exact absurd rfl h0
      | some c =>
        rw [hc] at h0
        simp only [] at h0 ⊢
        by_cases hal : alI c.toNat = true
        · rw [if_pos hal] at h0 ⊢; exact ⟨c, hc, hal⟩
        · rw [if_neg hal] at h0; exact absurd rfl h0
  · rw [if_neg h60] at h0; exact absurd rfl h0
theorem read_some {l : List UInt8} {a : Nat} {t : Tok} (h : readL l a = some t) : ¬ (beginL l a).1 = 0 ∧ ∃ acc b, restF (l.length + 1) (l.drop ((beginL l a).1 + upN stopA (l.drop (beginL l a).1))) [] false ((beginL l a).1 + upN stopA (l.drop (beginL l a).1)) = some (acc, b, t.next) := by
  unfold readL at h
  by_cases h0 : (beginL l a).1 = 0
  · rw [if_pos h0] at h; cases h
  · rw [if_neg h0] at h
    refine ⟨h0, ?_⟩
    cases hr : restF (l.length + 1) (l.drop ((beginL l a).1 + upN stopA (l.drop (beginL l a).1))) [] false ((beginL l a).1 + upN stopA (l.drop (beginL l a).1)) with
    | none => rw [hr] at h; cases h
    | some x =>
      obtain ⟨acc, b, j⟩ := x
      rw [hr] at h
      injection h with h
      refine ⟨acc, b, ?_⟩
      cases hf : (beginL l a).2 <;> (rw [hf] at h; simp at h; rw [← h])
theorem read_end {l : List UInt8} {a : Nat} {t : Tok} (h : readL l a = some t) : a + 2 < t.next ∧ t.next ≤ l.length ∧ l[t.next - 1]? = some 62 := by
  obtain ⟨h0, acc, b, hr⟩ := read_some h
  have h1 := rest_end _ _ _ _ _ _ _ _ hr
  have h2 := begin_gt h0
  refine ⟨?_, h1.2⟩
  obtain ⟨c, hc, hal⟩ := begin_lt h0
  have : ¬ upN stopA (l.drop (beginL l a).1) = 0 := by
    have hc62 : blB c = false ∧ stopA c = false := by
      unfold alI upI at hal
      unfold blB blI stopA
      have : 65 ≤ c.toNat := by simp at hal; omega
      have h3 : ∀ k : Nat, k < 65 → ¬ c = UInt8.ofNat k := by
        intro k hk e
        rw [e] at this
        simp at this
        omega
      refine ⟨?_, ?_⟩
      · simp; omega
      · have := h3 47 (by omega)
        have := h3 62 (by omega)
        simp_all
    rw [upN_step stopA l _ c hc hc62.1 hc62.2]
    omega
  omega
theorem read_local {l l' : List UInt8} {a : Nat} {t : Tok} (h : readL l a = some t) (hg : ∀ j, j < t.next → l'[j]? = l[j]?) : readL l' a = some t := by
  have hs := h
  obtain ⟨h0, acc, b, hr⟩ := read_some h
  have h1 := rest_end _ _ _ _ _ _ _ _ hr
  have hb : beginL l' a = beginL l a := begin_local hg h0 (by omega)
  have hu : upN stopA (l'.drop (beginL l a).1) = upN stopA (l.drop (beginL l a).1) := up_local h1.2.1 hg _ (by omega)
  have hr2 := rest_fuel _ (l'.length + 1) _ _ _ _ _ (rest_local _ _ l' _ _ _ _ _ _ hr hg) (by rw [List.length_drop]; omega)
  have htk : (l'.drop (beginL l a).1).take (upN stopA (l.drop (beginL l a).1)) = (l.drop (beginL l a).1).take (upN stopA (l.drop (beginL l a).1)) := take_local hg (by omega)
  unfold readL at h ⊢
  rw [hb, hu, hr2, htk]
  rw [hr] at h
  exact h
end Go.Proofs.YtbpdmbmooboimaaDoor.T10
