/- lazaretref09.Names; what a table says of a name that something stands behind. -/
import Derived.Test.YtbpdmbmooboimaaDoorLPlc
set_option linter.unusedVariables false
set_option linter.unusedSimpArgs false
namespace Go.Proofs.YtbpdmbmooboimaaDoor.R9
open Go.RowKit

def namesT : List (List UInt8 × List UInt8 × Bool) := [([97, 109, 112], [38], true), ([65, 77, 80], [38], true), ([108, 116], [60], true), ([76, 84], [60], true), ([103, 116], [62], true), ([71, 84], [62], true), ([113, 117, 111, 116], [34], true), ([81, 85, 79, 84], [34], true), ([110, 98, 115, 112], [194, 160], true), ([99, 101, 110, 116], [194, 162], true), ([112, 111, 117, 110, 100], [194, 163], true), ([121, 101, 110], [194, 165], true), ([115, 101, 99, 116], [194, 167], true), ([99, 111, 112, 121], [194, 169], true), ([67, 79, 80, 89], [194, 169], true), ([108, 97, 113, 117, 111], [194, 171], true), ([110, 111, 116], [194, 172], true), ([114, 101, 103], [194, 174], true), ([82, 69, 71], [194, 174], true), ([100, 101, 103], [194, 176], true), ([112, 108, 117, 115, 109, 110], [194, 177], true), ([112, 97, 114, 97], [194, 182], true), ([109, 105, 100, 100, 111, 116], [194, 183], true), ([114, 97, 113, 117, 111], [194, 187], true), ([102, 114, 97, 99, 49, 50], [194, 189], true), ([69, 97, 99, 117, 116, 101], [195, 137], true), ([116, 105, 109, 101, 115], [195, 151], true), ([115, 122, 108, 105, 103], [195, 159], true), ([101, 97, 99, 117, 116, 101], [195, 169], true), ([117, 117, 109, 108], [195, 188], true), ([97, 112, 111, 115], [39], false), ([104, 101, 108, 108, 105, 112], [226, 128, 166], false), ([109, 100, 97, 115, 104], [226, 128, 148], false), ([110, 100, 97, 115, 104], [226, 128, 147], false), ([110, 111, 116, 105, 110], [226, 136, 137], false), ([99, 111, 108, 111, 110], [58], false), ([115, 101, 109, 105], [59], false), ([108, 112, 97, 114], [40], false), ([114, 112, 97, 114], [41], false), ([108, 115, 113, 98], [91], false), ([114, 115, 113, 98], [93], false), ([115, 111, 108], [47], false), ([98, 115, 111, 108], [92], false), ([110, 117, 109], [35], false), ([113, 117, 101, 115, 116], [63], false), ([101, 113, 117, 97, 108, 115], [61], false), ([101, 120, 99, 108], [33], false), ([112, 101, 114, 105, 111, 100], [46], false), ([99, 111, 109, 109, 97, 116], [64], false), ([112, 101, 114, 99, 110, 116], [37], false), ([84, 97, 98], [9], false), ([78, 101, 119, 76, 105, 110, 101], [10], false)]
def namesC (t : List (List UInt8 × List UInt8 × Bool)) : List Value := t.flatMap fun x => [.string ⟨x.1.toArray⟩, .string ⟨x.2.1.toArray⟩, .bool x.2.2]
/-- The character of a name that has its semicolon. -/
def chOf (l : List UInt8) : Int := if looseN l = 0 then strictN l else looseN l
set_option maxRecDepth 1000000 in
theorem names_all : ∀ x ∈ namesT, (2 ≤ x.1.length ∧ x.1.length ≤ 7) ∧ (∀ c ∈ x.1, c ≠ 59) ∧ ¬ chOf x.1 = 0 ∧ (Utf8.encode (chOf x.1)).data.toList = x.2.1 ∧ (x.2.2 = true ↔ ¬ looseN x.1 = 0) := by decide +kernel
theorem tab_clean : ∀ x ∈ (looseA ++ looseB) ++ (strictA ++ strictB), ∀ c ∈ x.1, c ≠ 59 ∧ c ≠ 32 := by decide +kernel
theorem bad_zero {l : List UInt8} {c : UInt8} (hc : c ∈ l) (h : c = 59 ∨ c = 32) : looseN l = 0 ∧ strictN l = 0 := by
  constructor
  · apply Classical.byContradiction
    intro hn
    obtain ⟨x, hx, h1, _⟩ := look_mem _ l hn
    have := tab_clean x (List.mem_append_left _ hx) c (h1 ▸ hc)
    rcases h with h | h
    · exact this.1 h
    · exact this.2 h
  · apply Classical.byContradiction
    intro hn
    obtain ⟨x, hx, h1, _⟩ := look_mem _ l hn
    have := tab_clean x (List.mem_append_right _ hx) c (h1 ▸ hc)
    rcases h with h | h
    · exact this.1 h
    · exact this.2 h
/-- What is longer than the name has a byte that no name has. -/
theorem nameF_skip (r : List UInt8) (attr : Bool) (p : Nat) (c : UInt8) (hp : r[p]? = some c) (h : c = 59 ∨ c = 32) : ∀ d, nameF r attr (p + d) = nameF r attr p
  | 0 => rfl
  | d + 1 => by
    have hmem : c ∈ r.take (p + d + 1) := by
      have h1 : (r.take (p + d + 1))[p]? = some c := by rw [List.getElem?_take, if_pos (by omega), hp]
      exact List.mem_of_getElem? h1
    obtain ⟨z1, z2⟩ := bad_zero hmem h
    show nameF r attr (p + d + 1) = _
    rw [nameF, z1, z2]
    simp only [if_true, not_true_eq_false, and_false, if_false, ite_self]
    exact nameF_skip r attr p c hp h d
theorem nameR_at (nm b : List UInt8) (attr : Bool) (c : UInt8) (h : c = 59 ∨ c = 32) (h7 : nm.length ≤ 7) : nameR (nm ++ c :: b) attr = nameF (nm ++ c :: b) attr nm.length := by
  unfold nameR
  have hl : nm.length < (nm ++ c :: b).length := by simp
  obtain ⟨d, hd⟩ : ∃ d, min 7 (nm ++ c :: b).length = nm.length + d := ⟨min 7 (nm ++ c :: b).length - nm.length, by omega⟩
  rw [hd]
  exact nameF_skip _ attr _ c (by rw [List.getElem?_append_right (Nat.le_refl _)]; simp) h d
theorem name_semi (nm b : List UInt8) (attr : Bool) (h2 : 2 ≤ nm.length) (h7 : nm.length ≤ 7) (hch : ¬ chOf nm = 0) : nameR (nm ++ 59 :: b) attr = some (chOf nm, nm.length + 1) := by
  rw [nameR_at nm b attr 59 (.inl rfl) h7]
  obtain ⟨m, hm⟩ : ∃ m, nm.length = m + 1 := ⟨nm.length - 1, by omega⟩
  have ht : (nm ++ 59 :: b).take (m + 1) = nm := by rw [← hm, List.take_append_of_le_length (Nat.le_refl _), List.take_length]
  have hr : (nm ++ 59 :: b)[m + 1]? = some 59 := by rw [← hm, List.getElem?_append_right (Nat.le_refl _)]; simp
  rw [hm, nameF, ht, hr, if_pos rfl]
  unfold chOf at hch ⊢
  by_cases hL : looseN nm = 0
  · rw [if_pos hL] at hch ⊢
    rw [if_neg hch, if_pos hL]
  · rw [if_neg hL, if_neg hL, if_neg hL]
theorem nameF_short (r : List UInt8) (attr : Bool) (c : Int) (k p : Nat) (hc : ∀ j, j < p → r[j]? ≠ some 59) : ∀ n, n < p → nameF r attr n = some (c, k) → k ≤ n
  | 0, _, h => by cases h
  | n + 1, hn, h => by
    rw [nameF, if_neg (hc _ hn)] at h
    by_cases h2 : attr = true ∧ goesL r (n + 1) = true ∧ ¬ looseN (r.take (n + 1)) = 0
    · rw [if_pos h2] at h; cases h
    · rw [if_neg h2] at h
      by_cases hL : looseN (r.take (n + 1)) = 0
      · rw [if_pos hL] at h
        exact Nat.le_succ_of_le (nameF_short r attr c k p hc n (by omega) h)
      · rw [if_neg hL] at h
        injection h with h
        injection h with _ h
        omega
theorem name_blank (nm b : List UInt8) (attr : Bool) (h2 : 2 ≤ nm.length) (h7 : nm.length ≤ 7) (hcl : ∀ c ∈ nm, c ≠ 59) :
    (¬ looseN nm = 0 → nameR (nm ++ 32 :: b) attr = some (looseN nm, nm.length)) ∧ (looseN nm = 0 → ∀ c k, nameR (nm ++ 32 :: b) attr = some (c, k) → k < nm.length) := by
  rw [nameR_at nm b attr 32 (.inr rfl) h7]
  obtain ⟨m, hm⟩ : ∃ m, nm.length = m + 1 := ⟨nm.length - 1, by omega⟩
  have ht : (nm ++ 32 :: b).take (m + 1) = nm := by rw [← hm, List.take_append_of_le_length (Nat.le_refl _), List.take_length]
  have hr : (nm ++ 32 :: b)[m + 1]? = some 32 := by rw [← hm, List.getElem?_append_right (Nat.le_refl _)]; simp
  have hg : goesL (nm ++ 32 :: b) (m + 1) = false := by unfold goesL; rw [hr]; rfl
  rw [hm, nameF, ht, hr, hg, if_neg (by decide), if_neg (by simp)]
  refine ⟨fun hL => by rw [if_neg hL], fun hL c k h => ?_⟩
  rw [if_pos hL] at h
  have := nameF_short _ attr c k (m + 1) (fun j hj => by
    rw [List.getElem?_append_left (by omega)]
    intro e
    exact hcl _ (List.mem_of_getElem? e) rfl) m (by omega) h
  omega
theorem find_semi (nm b : List UInt8) (attr : Bool) (h2 : 2 ≤ nm.length) (h7 : nm.length ≤ 7) (hch : ¬ chOf nm = 0) (h35 : nm.head? ≠ some 35) : findS (38 :: (nm ++ 59 :: b)) attr = some (chOf nm, nm.length + 2) := by
  have hh : (nm ++ 59 :: b).head? = nm.head? := by cases nm with
    | nil => cases h2
    | cons x t => rfl
  unfold findS
  rw [if_pos (show (38 :: (nm ++ 59 :: b)).head? = some 38 from rfl)]
  simp only [List.drop_succ_cons, List.drop_zero]
  rw [hh, if_neg h35, name_semi nm b attr h2 h7 hch]
  rfl
theorem find_blank (nm b : List UInt8) (attr : Bool) (h2 : 2 ≤ nm.length) (h7 : nm.length ≤ 7) (hcl : ∀ c ∈ nm, c ≠ 59) (h35 : nm.head? ≠ some 35) :
    (¬ looseN nm = 0 → findS (38 :: (nm ++ 32 :: b)) attr = some (looseN nm, nm.length + 1)) ∧ (looseN nm = 0 → ∀ c k, findS (38 :: (nm ++ 32 :: b)) attr = some (c, k) → k < nm.length + 1) := by
  have hh : (nm ++ 32 :: b).head? = nm.head? := by cases nm with
    | nil => cases h2
    | cons x t => rfl
  obtain ⟨e1, e2⟩ := name_blank nm b attr h2 h7 hcl
  unfold findS
  rw [if_pos (show (38 :: (nm ++ 32 :: b)).head? = some 38 from rfl)]
  simp only [List.drop_succ_cons, List.drop_zero]
  rw [hh, if_neg h35]
  refine ⟨fun hL => by rw [e1 hL]; rfl, fun hL c k h => ?_⟩
  obtain ⟨⟨c', k'⟩, h3, h4⟩ := Option.map_eq_some_iff.1 h
  have := e2 hL c' k' h3
  injection h4 with _ h4
  omega
theorem names_35 : ∀ x ∈ namesT, x.1.head? ≠ some 35 := by decide +kernel
end Go.Proofs.YtbpdmbmooboimaaDoor.R9
