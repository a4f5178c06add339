/- A name of letters, and the policies of TrustedNames: pure. -/
import Derived.Test.YtgaeecphohlmpabDoorOkD29
import Derived.Test.YtgaeecphohlmpabDoorLists4
import Derived.Lib.Join
set_option linter.unusedVariables false
namespace Go.Proofs.YtgaeecphohlmpabDoor
open Go.RowKit

theorem u8_each {Q : UInt8 → Prop} (h : ∀ i : Fin 256, Q (UInt8.ofNat i.val)) (b : UInt8) : Q b := by
  have := h ⟨b.toNat, b.toNat_lt⟩
  rwa [UInt8.ofNat_toNat] at this
def letB (x : UInt8) : UInt8 := 97 + x % 26
def letL (z : List UInt8) : List UInt8 := 116 :: (z.take 30).map letB
def okB (b : UInt8) : Bool := okI b.toNat && !(isSp b) && b != 59
theorem let_ok (x : UInt8) : okB (letB x) = true := u8_each (Q := fun x => okB (letB x) = true) (by decide +kernel) x
theorem let_all (z : List UInt8) : ∀ b ∈ letL z, okB b = true := by
  intro b hb
  unfold letL at hb
  rcases List.mem_cons.1 hb with e | e
  · rw [e]; decide +kernel
  · obtain ⟨x, _, rfl⟩ := List.mem_map.1 e
    exact let_ok x
theorem let_len (z : List UInt8) : (letL z).length ≤ 31 := by
  unfold letL
  simp only [List.length_cons, List.length_map, List.length_take]
  omega
theorem okB_parts {b : UInt8} (h : okB b = true) : okI b.toNat = true ∧ isSp b = false ∧ b ≠ 59 := by
  unfold okB at h
  simp only [Bool.and_eq_true, Bool.not_eq_true', bne_iff_ne, ne_eq] at h
  exact ⟨h.1.1, h.1.2, h.2⟩
theorem let_name (z : List UInt8) : namL (letL z) = true := by
  unfold namL
  rw [Bool.and_eq_true]
  refine ⟨?_, rfl⟩
  rw [List.all_eq_true]
  exact fun b hb => (okB_parts (let_all z b hb)).1
theorem let_dup (z : List UInt8) : isDup (letL z) = false := by
  cases h : isDup (letL z) with
  | false => rfl
  | true => have := dup_name h; rw [let_name] at this; cases this
theorem let_star (z : List UInt8) : isStar (letL z) = false := by
  cases h : isStar (letL z) with
  | false => rfl
  | true => have := star_name h; rw [let_name] at this; cases this

def valsN (a : List UInt8) (dup any : Bool) : List (List UInt8) := a :: ((if dup then [dupN] else []) ++ (if any then [[42]] else []))
def txtN (a : List UInt8) (dup any : Bool) : List UInt8 := tttN ++ Lib.joinTail [32] (valsN a dup any)
theorem words_run29 (vs : List (List UInt8)) : ∀ (out : List (List UInt8)) (f : List UInt8), f ≠ [] → (∀ v ∈ vs, v ≠ [] ∧ noSp v) → fEnd ((Lib.joinTail [32] vs).foldl fStep (out, f)) = out ++ f :: vs := by
  induction vs with
  | nil => intro out f hf _; simp [Lib.joinTail, fEnd, hf]
  | cons v vs ih =>
    intro out f hf h
    obtain ⟨hv1, hv2⟩ := h v (by simp)
    have e : Lib.joinTail [32] (v :: vs) = [32] ++ (v ++ Lib.joinTail [32] vs) := by simp [Lib.joinTail]
    rw [e, List.foldl_append, List.foldl_append]
    simp only [List.foldl_cons, List.foldl_nil]
    rw [fFold_sp 32 (by decide), if_neg hf, fFold_word v hv2]
    show fEnd ((Lib.joinTail [32] vs).foldl fStep (out ++ [f], [] ++ v)) = _
    rw [List.nil_append, ih (out ++ [f]) v hv1 fun u hu => h u (by simp [hu])]
    simp
theorem vals_good (z : List UInt8) (dup any : Bool) : ∀ v ∈ valsN (letL z) dup any, v ≠ [] ∧ noSp v ∧ (59 : UInt8) ∉ v := by
  intro v hv
  unfold valsN at hv
  have hd : dupN ≠ [] ∧ noSp dupN ∧ (59 : UInt8) ∉ dupN := ⟨by decide, by unfold noSp; decide +kernel, by decide +kernel⟩
  have hs : ([42] : List UInt8) ≠ [] ∧ noSp [42] ∧ (59 : UInt8) ∉ ([42] : List UInt8) := ⟨by decide, by unfold noSp; decide +kernel, by decide +kernel⟩
  rcases List.mem_cons.1 hv with e | e
  · subst e
    exact ⟨by unfold letL; simp, fun x hx => (okB_parts (let_all z x hx)).2.1, fun hx => (okB_parts (let_all z 59 hx)).2.2 rfl⟩
  · cases dup <;> cases any <;> simp at e
    · subst e; exact hs
    · subst e; exact hd
    · rcases e with e | e
      · subst e; exact hd
      · subst e; exact hs
theorem txt_fields (z : List UInt8) (dup any : Bool) : fieldsL (txtN (letL z) dup any) = tttN :: valsN (letL z) dup any := by
  unfold txtN fieldsL fRun
  rw [List.foldl_append, fFold_word tttN (by unfold noSp; decide +kernel)]
  show fEnd ((Lib.joinTail [32] _).foldl fStep ([], [] ++ tttN)) = _
  rw [List.nil_append, words_run29 _ [] tttN (by decide) fun v hv => ⟨(vals_good z dup any v hv).1, (vals_good z dup any v hv).2.1⟩]
  rfl
theorem txt_semi (z : List UInt8) (dup any : Bool) : (59 : UInt8) ∉ txtN (letL z) dup any := by
  have key : ∀ vs : List (List UInt8), (∀ v ∈ vs, (59 : UInt8) ∉ v) → (59 : UInt8) ∉ Lib.joinTail [32] vs := by
    intro vs
    induction vs with
    | nil => intro _ h; simp [Lib.joinTail] at h
    | cons v vs ih =>
      intro h hm
      have e : Lib.joinTail [32] (v :: vs) = [32] ++ (v ++ Lib.joinTail [32] vs) := by simp [Lib.joinTail]
      rw [e] at hm
      simp only [List.mem_append, List.mem_cons, List.not_mem_nil, or_false] at hm
      rcases hm with hm | hm | hm
      · exact absurd hm (by decide)
      · exact h v (by simp) hm
      · exact ih (fun u hu => h u (by simp [hu])) hm
  unfold txtN
  intro hm
  rcases List.mem_append.1 hm with hm | hm
  · exact absurd hm (by decide +kernel)
  · exact key _ (fun v hv => (vals_good z dup any v hv).2.2) hm
theorem txt_one (z : List UInt8) (dup any : Bool) : oneL (txtN (letL z) dup any) = [(tttN, valsN (letL z) dup any)] := by
  unfold oneL
  rw [spl_none (txt_semi z dup any)]
  show addD [] _ = _
  rw [addD_new (txt_fields z dup any) rfl]
  rfl
theorem txt_len (z : List UInt8) (dup any : Bool) : (txtN (letL z) dup any).length ≤ 100 := by
  have := let_len z
  cases dup <;> cases any <;> simp [txtN, valsN, Lib.joinTail, tttN, dupN] <;> omega

/-! What is told of it. -/
theorem cre_txt (z : List UInt8) (dup any : Bool) (name : List UInt8) (there : List (List UInt8)) :
    creB (oneL (txtN (letL z) dup any)) name there = ((dup || !(there.any (· == name))) && (any || letL z == name)) := by
  rw [txt_one]
  have e1 : fndL [(tttN, valsN (letL z) dup any)] tttN = some (tttN, valsN (letL z) dup any) := by
    unfold fndL
    simp
  have hd : isDup dupN = true := by decide +kernel
  have hs : isDup [42] = false := by decide +kernel
  have hd2 : isStar dupN = false := by decide +kernel
  have hs2 : isStar [42] = true := by decide +kernel
  have hn : namL dupN = false := by decide +kernel
  have hn2 : namL [42] = false := by decide +kernel
  unfold creB
  rw [e1]
  simp only [Option.isSome_some, Option.getD_some, Bool.not_true, Bool.false_or]
  have v1 : (valsN (letL z) dup any).any isDup = dup := by cases dup <;> cases any <;> simp [valsN, let_dup, hd, hs]
  have v2 : (valsN (letL z) dup any).any isStar = any := by cases dup <;> cases any <;> simp [valsN, let_star, hd2, hs2]
  have v3 : (valsN (letL z) dup any).filter namL = [letL z] := by cases dup <;> cases any <;> simp [valsN, let_name, hn, hn2]
  rw [v1, v2, v3]
  simp
theorem cre_none (name : List UInt8) (there : List (List UInt8)) : creB [] name there = true := rfl
theorem req_txt (z : List UInt8) (dup any : Bool) : reqB (oneL (txtN (letL z) dup any)) = false := by
  rw [txt_one]
  unfold reqB
  have : fndL [(tttN, valsN (letL z) dup any)] reqN = none := by
    unfold fndL
    have : (tttN == reqN) = false := by decide +kernel
    simp [this]
  rw [this]
  rfl
end Go.Proofs.YtgaeecphohlmpabDoor
