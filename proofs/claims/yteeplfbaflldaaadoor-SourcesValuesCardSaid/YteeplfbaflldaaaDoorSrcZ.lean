/- sources, as lists: values, as they stand, and with a byte among them that is none of base64's. No program. -/
import Derived.Test.YteeplfbaflldaaaDoorSrcX
import Derived.Test.YteeplfbaflldaaaDoorLet25
set_option linter.unusedVariables false
set_option linter.unusedSimpArgs false
namespace Go.Proofs.YteeplfbaflldaaaDoor.S25
open T10

theorem b64_in : ∀ c ∈ lets9 ++ [43, 47, 45, 95], wordC b64C c = true ∧ c ≠ 61 := by decide
theorem trim_no {l : List UInt8} {c : UInt8} (h : c ≠ 61) : Lib.trimSuffix (l ++ [c]) [61] = l ++ [c] := by
  unfold Lib.trimSuffix Lib.hasSuffix
  rw [if_neg]
  intro hs
  obtain ⟨t, ht⟩ := List.isSuffixOf_iff_suffix.1 hs
  have := congrArg List.getLast? ht
  rw [List.getLast?_append, List.getLast?_append] at this
  simp at this
  exact h this.symm
theorem trim_yes (l : List UInt8) : Lib.trimSuffix (l ++ [61]) [61] = l := by
  unfold Lib.trimSuffix Lib.hasSuffix
  rw [if_pos (List.isSuffixOf_iff_suffix.2 (List.suffix_append _ _))]
  simp
theorem snoc_of {l : List UInt8} (h : l ≠ []) : ∃ t c, l = t ++ [c] ∧ c ∈ l := by
  refine ⟨l.dropLast, l.getLast h, (List.dropLast_concat_getLast h).symm, List.getLast_mem h⟩
theorem b64_val (z : List UInt8) : b64B (letG [43, 47, 45, 95] z ++ [61]) = true := by
  have hm := fun c hc => b64_in c (letG_mem [43, 47, 45, 95] z c hc)
  have hl := (letG_len [43, 47, 45, 95] z).1
  obtain ⟨V, hV⟩ : ∃ V, letG [43, 47, 45, 95] z = V := ⟨_, rfl⟩
  rw [hV] at hm hl ⊢
  have hne : V ≠ [] := by rintro rfl; simp at hl
  obtain ⟨t, c, h1, h2⟩ := snoc_of hne
  have e : unpad (V ++ [61]) = V := by
    unfold unpad
    rw [trim_yes, h1, trim_no (hm c h2).2]
  unfold b64B wordB
  rw [e, Bool.and_eq_true]
  refine ⟨?_, List.all_eq_true.2 fun c hc => (hm c hc).1⟩
  cases V with
  | nil => exact absurd rfl hne
  | cons a r => rfl
theorem b64_odd {a b : List UInt8} {c : UInt8} (hb : b ≠ []) (hm : ∀ d ∈ b, d ≠ 61) (hc : wordC b64C c = false) : b64B (a ++ [c] ++ b) = false := by
  obtain ⟨t, d, h1, h2⟩ := snoc_of hb
  have e : unpad (a ++ [c] ++ b) = a ++ [c] ++ b := by
    unfold unpad
    rw [h1, ← List.append_assoc, trim_no (hm d h2), trim_no (hm d h2)]
  unfold b64B wordB
  rw [e, Bool.and_eq_false_iff]
  right
  rw [List.all_eq_false]
  exact ⟨c, by simp, by rw [hc]; simp⟩
/-- A byte that is none of base64's. -/
def oddB (c : Int) : Bool := decide (c < 43) || (decide (122 < c) || (c == 44 || (c == 46 || ((decide (57 < c) && (decide (c < 65) && !(c == 61))) || (decide (90 < c) && (decide (c < 97) && !(c == 95)))))))
theorem odd_no (c : UInt8) (h : oddB c.toNat = true) : wordC b64C c = false := by
  have h2 := u8_all (P := fun c => !(oddB c.toNat) || !(wordC b64C c)) (by decide +kernel) c
  rw [h] at h2
  simpa using h2
theorem quoL_no {h f r : List UInt8} (hl : lowL h = f) (hc : ∀ c ∈ f, c ≠ 45) (hf : ∀ k ∈ kws.map (·.data.toList), (f ++ [45]).isPrefixOf k = false) (hb : b64B r = false) : quoL (h ++ 45 :: r) = none := by
  have e : lowL (h ++ 45 :: r) = f ++ 45 :: lowL r := by
    rw [← hl]
    unfold lowL
    rw [List.map_append, List.map_cons]
    rfl
  have hlen : h.length = f.length := by rw [← hl, lowL_len]
  have hd : (h ++ 45 :: r).drop (f.length + 1) = r := by
    rw [← hlen]
    simp
  unfold quoL
  rw [e, if_neg (kw_front hf), cut1_app hc, if_neg (by simp)]
  simp only []
  rw [hd, if_pos hb]
/-- The five heads, each with its dash. -/
def headsL : List (List UInt8) := [[110, 111, 110, 99, 101, 45], [115, 104, 97, 50, 53, 54, 45], [115, 104, 97, 51, 56, 52, 45], [83, 72, 65, 53, 49, 50, 45], [78, 79, 78, 67, 69, 45]]
def bitsL : List Int := [0, 256, 384, 512, 0]
def nonceK (k : Nat) : Bool := k == 0 || k == 4
theorem val_parse {k : Nat} {h : List UInt8} {b : Int} (hh : headsL[k]? = some h) (hb : bitsL[k]? = some b) {r : List UInt8} (hr : b64B r = true) :
    parseL ([39] ++ h ++ r ++ [39]) = some ⟨if nonceK k = true then 4 else 5, r, b, [], [], false, -1, []⟩ := by
  have key : ∀ (g : List UInt8), h = g ++ [45] → parseL ([39] ++ h ++ r ++ [39]) = quoL (g ++ 45 :: r) := by
    intro g hg
    rw [hg, show [39] ++ (g ++ [45]) ++ r ++ [39] = [39] ++ (g ++ 45 :: r) ++ [39] by simp, parseL_quoted]
  match k with
  | 0 =>
    obtain rfl := Option.some.inj hh
    obtain rfl := Option.some.inj hb
    rw [key [110, 111, 110, 99, 101] rfl, quoL_front (by decide) (by decide) front_nonce hr]
    rfl
  | 1 =>
    obtain rfl := Option.some.inj hh
    obtain rfl := Option.some.inj hb
    rw [key [115, 104, 97, 50, 53, 54] rfl, quoL_front (by decide) (by decide) front_256 hr]
    rfl
  | 2 =>
    obtain rfl := Option.some.inj hh
    obtain rfl := Option.some.inj hb
    rw [key [115, 104, 97, 51, 56, 52] rfl, quoL_front (by decide) (by decide) front_384 hr]
    rfl
  | 3 =>
    obtain rfl := Option.some.inj hh
    obtain rfl := Option.some.inj hb
    rw [key [83, 72, 65, 53, 49, 50] rfl, quoL_front (f := [115, 104, 97, 53, 49, 50]) (by decide) (by decide) front_512 hr]
    rfl
  | 4 =>
    obtain rfl := Option.some.inj hh
    obtain rfl := Option.some.inj hb
    rw [key [78, 79, 78, 67, 69] rfl, quoL_front (f := [110, 111, 110, 99, 101]) (by decide) (by decide) front_nonce hr]
    rfl
  | k + 5 => cases hh
theorem val_none {k : Nat} {h : List UInt8} (hh : headsL[k]? = some h) {r : List UInt8} (hr : b64B r = false) : parseL ([39] ++ h ++ r ++ [39]) = none := by
  have key : ∀ (g : List UInt8), h = g ++ [45] → parseL ([39] ++ h ++ r ++ [39]) = quoL (g ++ 45 :: r) := by
    intro g hg
    rw [hg, show [39] ++ (g ++ [45]) ++ r ++ [39] = [39] ++ (g ++ 45 :: r) ++ [39] by simp, parseL_quoted]
  match k with
  | 0 =>
    obtain rfl := Option.some.inj hh
    rw [key [110, 111, 110, 99, 101] rfl, quoL_no (by decide) (by decide) front_nonce hr]
  | 1 =>
    obtain rfl := Option.some.inj hh
    rw [key [115, 104, 97, 50, 53, 54] rfl, quoL_no (by decide) (by decide) front_256 hr]
  | 2 =>
    obtain rfl := Option.some.inj hh
    rw [key [115, 104, 97, 51, 56, 52] rfl, quoL_no (by decide) (by decide) front_384 hr]
  | 3 =>
    obtain rfl := Option.some.inj hh
    rw [key [83, 72, 65, 53, 49, 50] rfl, quoL_no (f := [115, 104, 97, 53, 49, 50]) (by decide) (by decide) front_512 hr]
  | 4 =>
    obtain rfl := Option.some.inj hh
    rw [key [78, 79, 78, 67, 69] rfl, quoL_no (f := [110, 111, 110, 99, 101]) (by decide) (by decide) front_nonce hr]
  | k + 5 => cases hh
theorem heads_len : ∀ h ∈ headsL, h.length ≤ 7 := by decide
/-- A value with a byte put into its middle. -/
theorem val_odd {k : Nat} {h : List UInt8} (hh : headsL[k]? = some h) (z : List UInt8) {c : UInt8} (ho : oddB c.toNat = true) {j : Nat} (hj : j < (letG [43, 47, 45, 95] z).length) :
    parseL ([39] ++ h ++ ((letG [43, 47, 45, 95] z).take j ++ [c] ++ (letG [43, 47, 45, 95] z).drop j) ++ [39]) = none := by
  refine val_none hh (b64_odd ?_ ?_ (odd_no c ho))
  · intro e
    have := congrArg List.length e
    rw [List.length_drop, List.length_nil] at this
    omega
  · intro d hd
    exact (b64_in d (letG_mem _ z d (List.mem_of_mem_drop hd))).2
end Go.Proofs.YteeplfbaflldaaaDoor.S25
