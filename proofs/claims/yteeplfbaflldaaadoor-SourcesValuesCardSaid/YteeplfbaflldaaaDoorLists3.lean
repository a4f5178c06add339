/- Plain functions on lists of bytes: a list cut at a byte; commas. No program. -/
import Derived.Test.YteeplfbaflldaaaDoorLists2
import Derived.Lib.Split
namespace Go.Proofs.YteeplfbaflldaaaDoor

/-- A list cut at each byte d. -/
def spl (d : UInt8) : List UInt8 → List (List UInt8)
  | [] => [[]]
  | x :: r => if x = d then [] :: spl d r else match spl d r with
    | p :: ps => (x :: p) :: ps
    | [] => [[x]]
theorem spl_cons (d x : UInt8) (r : List UInt8) : spl d (x :: r) = if x = d then [] :: spl d r else match spl d r with
    | p :: ps => (x :: p) :: ps
    | [] => [[x]] := rfl
theorem spl_ne (d : UInt8) (l : List UInt8) : spl d l ≠ [] := by
  cases l with
  | nil => simp [spl]
  | cons x r =>
    unfold spl
    split
    · simp
    · split <;> simp
theorem spl_none {d : UInt8} {l : List UInt8} (h : d ∉ l) : spl d l = [l] := by
  induction l with
  | nil => rfl
  | cons x r ih =>
    have hx : ¬ x = d := fun e => h (by simp [e])
    unfold spl
    rw [if_neg hx, ih fun e => h (by simp [e])]
theorem spl_hit {d : UInt8} {a b : List UInt8} (h : d ∉ a) : spl d (a ++ d :: b) = a :: spl d b := by
  induction a with
  | nil => simp [spl]
  | cons x r ih =>
    have hx : ¬ x = d := fun e => h (by simp [e])
    rw [List.cons_append, spl_cons, if_neg hx, ih fun e => h (by simp [e])]
theorem first_of {d : UInt8} {l : List UInt8} (h : d ∈ l) : ∃ a b, l = a ++ d :: b ∧ d ∉ a := by
  induction l with
  | nil => cases h
  | cons x r ih =>
    by_cases hx : x = d
    · exact ⟨[], r, by simp [hx], by simp⟩
    · have hr : d ∈ r := by
        rcases List.mem_cons.1 h with e | e
        · exact absurd e.symm hx
        · exact e
      obtain ⟨a, b, e, hn⟩ := ih hr
      refine ⟨x :: a, b, by rw [e]; rfl, fun hm => ?_⟩
      rcases List.mem_cons.1 hm with e | e
      · exact hx e.symm
      · exact hn e
theorem index_hit {d : UInt8} {a b : List UInt8} (h : d ∉ a) : Lib.index (a ++ d :: b) [d] = a.length := by
  refine Lib.index_first (by simp) ?_ ?_
  · unfold Lib.occAt
    rw [List.drop_left]
    simp
  · intro j hj
    by_cases e : Lib.occAt (a ++ d :: b) [d] j = true
    · have := Lib.occAt_head rfl e
      rw [List.getElem?_append_left hj] at this
      exact absurd (List.mem_of_getElem? this) h
    · simpa using e
theorem index_miss {d : UInt8} {l : List UInt8} (h : d ∉ l) : Lib.index l [d] = -1 := by
  refine Lib.index_none ?_
  intro j hj
  by_cases e : Lib.occAt l [d] j = true
  · have := Lib.occAt_head rfl e
    exact absurd (List.mem_of_getElem? this) h
  · simpa using e
theorem split_spl (d : UInt8) : ∀ (n : Nat) (l : List UInt8), l.length ≤ n → Lib.split l [d] = spl d l ∧ Lib.count l [d] + 1 = (spl d l).length := by
  intro n
  induction n with
  | zero =>
    intro l hl
    have : l = [] := List.eq_nil_of_length_eq_zero (by omega)
    subst this
    have hm : Lib.index [] [d] = -1 := index_miss (by simp)
    unfold Lib.split
    rw [Lib.count_miss hm]
    exact ⟨rfl, rfl⟩
  | succ n ih =>
    intro l hl
    by_cases hd : d ∈ l
    · obtain ⟨a, b, rfl, hn⟩ := first_of hd
      have hi := index_hit (b := b) hn
      have hdrop : (a ++ d :: b).drop (a.length + [d].length) = b := by
        simp [List.drop_append]
      have hc := Lib.count_hit (by simp) hi
      rw [hdrop] at hc
      obtain ⟨h1, h2⟩ := ih b (by simp at hl; omega)
      unfold Lib.split at h1 ⊢
      rw [hc, Nat.add_comm 1, spl_hit hn]
      refine ⟨?_, by simp only [List.length_cons]; omega⟩
      unfold Lib.splitK
      rw [if_neg (by rw [hi]; simp), hi]
      simp only [Int.toNat_natCast, Nat.add_zero]
      rw [hdrop, h1]
      simp
    · have hm := index_miss hd
      unfold Lib.split
      rw [Lib.count_miss hm, spl_none hd]
      exact ⟨rfl, rfl⟩

theorem spl_mem {d : UInt8} : ∀ {l : List UInt8} {p : List UInt8}, p ∈ spl d l → p.length ≤ l.length := by
  intro l
  induction l with
  | nil => intro p h; simp [spl] at h; simp [h]
  | cons x r ih =>
    intro p h
    rw [spl_cons] at h
    by_cases hx : x = d
    · rw [if_pos hx] at h
      rcases List.mem_cons.1 h with e | e
      · subst e; simp
      · have := ih e; simp; omega
    · rw [if_neg hx] at h
      cases hr : spl d r with
      | nil => exact absurd hr (spl_ne d r)
      | cons q qs =>
        rw [hr] at h
        rcases List.mem_cons.1 h with e | e
        · subst e
          have := ih (p := q) (by rw [hr]; simp)
          simp; omega
        · have := ih (p := p) (by rw [hr]; simp [e])
          simp; omega

theorem spl_len (d : UInt8) (l : List UInt8) : (spl d l).length ≤ l.length + 1 := by
  induction l with
  | nil => simp [spl]
  | cons x r ih =>
    rw [spl_cons]
    by_cases hx : x = d
    · rw [if_pos hx]; simp; omega
    · rw [if_neg hx]
      cases hr : spl d r with
      | nil => simp
      | cons q qs => rw [hr] at ih; simp at ih ⊢; omega

def sStep (d : UInt8) (st : List (List UInt8) × List UInt8) (x : UInt8) : List (List UInt8) × List UInt8 :=
  if x = d then (st.1 ++ [st.2], []) else (st.1, st.2 ++ [x])
def sRun (d : UInt8) (l : List UInt8) : List (List UInt8) × List UInt8 := l.foldl (sStep d) ([], [])
theorem sRun_snoc (d : UInt8) (l : List UInt8) (x : UInt8) : sRun d (l ++ [x]) = sStep d (sRun d l) x := by simp [sRun]
theorem sFold (d : UInt8) (l : List UInt8) : ∀ st, (l.foldl (sStep d) st).1 ++ [(l.foldl (sStep d) st).2] = st.1 ++ (match spl d l with | p :: ps => (st.2 ++ p) :: ps | [] => []) := by
  induction l with
  | nil => intro st; simp [spl]
  | cons x r ih =>
    intro st
    rw [List.foldl_cons, ih]
    have hne := spl_ne d r
    unfold sStep
    rw [spl_cons]
    by_cases hx : x = d
    · rw [if_pos hx, if_pos hx]
      cases hr : spl d r with
      | nil => exact absurd hr hne
      | cons p ps => simp
    · rw [if_neg hx, if_neg hx]
      cases hr : spl d r with
      | nil => exact absurd hr hne
      | cons p ps => simp
theorem sRun_spl (d : UInt8) (l : List UInt8) : (sRun d l).1 ++ [(sRun d l).2] = spl d l := by
  have := sFold d l ([], [])
  unfold sRun
  rw [this]
  have hne := spl_ne d l
  cases hr : spl d l with
  | nil => exact absurd hr hne
  | cons p ps => simp
theorem sStep_len (d : UInt8) (st : List (List UInt8) × List UInt8) (x : UInt8) : (sStep d st x).1.length + (sStep d st x).2.length ≤ st.1.length + st.2.length + 1 := by
  unfold sStep
  split
  · simp only [List.length_append, List.length_cons, List.length_nil]; omega
  · simp only [List.length_append, List.length_cons, List.length_nil]; omega
theorem sFold_len (d : UInt8) (l : List UInt8) : ∀ st, (l.foldl (sStep d) st).1.length + (l.foldl (sStep d) st).2.length ≤ st.1.length + st.2.length + l.length := by
  induction l with
  | nil => intro st; simp
  | cons x l ih =>
    intro st
    have h1 := ih (sStep d st x)
    have h2 := sStep_len d st x
    simp only [List.foldl_cons, List.length_cons]
    omega
theorem sRun_len (d : UInt8) (l : List UInt8) : (sRun d l).1.length + (sRun d l).2.length ≤ l.length := by
  have := sFold_len d l ([], [])
  simpa [sRun] using this
theorem sRun_take (d : UInt8) (s : ByteArray) (k : Nat) (h : k < s.size) : sRun d (s.data.toList.take (k + 1)) = sStep d (sRun d (s.data.toList.take k)) s[k] := by
  rw [take_snoc s k h, sRun_snoc]

/-- Pieces, stripped, but the empty ones. -/
def full (l : List (List UInt8)) : List (List UInt8) := (l.map stripL).filter fun x => !x.isEmpty
def commasL (l : List UInt8) : List (List UInt8) := full (spl 44 l)
theorem full_append (a b : List (List UInt8)) : full (a ++ b) = full a ++ full b := by simp [full]
theorem full_one_nil {x : List UInt8} (h : stripL x = []) : full [x] = [] := by simp [full, h]
theorem full_one {x : List UInt8} (h : stripL x ≠ []) : full [x] = [stripL x] := by
  simp [full, h]
theorem full_len (l : List (List UInt8)) : (full l).length ≤ l.length := by
  unfold full
  refine Nat.le_trans (List.length_filter_le _ _) (by simp)
end Go.Proofs.YteeplfbaflldaaaDoor
