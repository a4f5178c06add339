/- slices.Index and slices.Contains, of bytes and of texts. -/
import Derived.Test.YtgaeecphohlmpabDoorPol2
set_option linter.unusedVariables false
namespace Go.Proofs.YtgaeecphohlmpabDoor
open Go.RowKit

/-- Where the first is that is p; -1: nowhere. -/
def idxP {α : Type} (p : α → Bool) (l : List α) : Int := match l.findIdx? p with
  | some i => i
  | none => -1
theorem idxP_miss {α : Type} {p : α → Bool} {l : List α} (h : ∀ (j : Nat) (x : α), l[j]? = some x → p x = false) : idxP p l = -1 := by
  have : l.findIdx? p = none := by
    rw [List.findIdx?_eq_none_iff]
    intro d hd
    obtain ⟨j, hj⟩ := List.getElem?_of_mem hd
    exact h j d hj
  unfold idxP
  rw [this]
theorem idxP_hit {α : Type} {p : α → Bool} {l : List α} {k : Nat} {x : α} (hk : l[k]? = some x) (hx : p x = true) (hno : ∀ (j : Nat) (y : α), j < k → l[j]? = some y → p y = false) : idxP p l = k := by
  obtain ⟨h1, h2⟩ := List.getElem?_eq_some_iff.1 hk
  have : l.findIdx? p = some k := by
    rw [List.findIdx?_eq_some_iff_getElem]
    refine ⟨h1, by rw [h2]; exact hx, fun j hj => ?_⟩
    rw [hno j _ hj (List.getElem?_eq_getElem (by omega))]
    simp
  unfold idxP
  rw [this]
theorem idxP_any {α : Type} (p : α → Bool) (l : List α) : (l.any p = true ∧ ∃ n : Nat, idxP p l = n) ∨ (l.any p = false ∧ idxP p l = -1) := by
  cases h : l.findIdx? p with
  | none =>
    right
    rw [List.findIdx?_eq_none_iff] at h
    refine ⟨by rw [List.any_eq_false]; intro x hx; rw [h x hx]; simp, by unfold idxP; rw [List.findIdx?_eq_none_iff.2 h]⟩
  | some k =>
    left
    have h2 := h
    rw [List.findIdx?_eq_some_iff_getElem] at h
    obtain ⟨hk, h1, _⟩ := h
    exact ⟨by rw [List.any_eq_true]; exact ⟨_, List.getElem_mem hk, h1⟩, k, by unfold idxP; rw [h2]⟩
theorem text_at {w : World} {sv : Value} {vs : List (List UInt8)} (h : SliceIn w sv (strCells vs)) {i : Nat} (hi : i < vs.length) : ∃ b off cap, sv = .slice (some ⟨b, off, none⟩) vs.length cap ∧ b < w.heap.size ∧ w.cell? ⟨b, off + i, none⟩ = some (.string ⟨vs[i].toArray⟩) := by
  obtain ⟨b, off, cap, e, l, r⟩ := h.at (i := i) (by rw [strCells_len]; exact hi)
  rw [strCells_len] at e
  have x1 : (strCells vs)[i]'(by rw [strCells_len]; exact hi) = .string ⟨vs[i].toArray⟩ := by simp [strCells]
  rw [x1] at r
  exact ⟨b, off, cap, e, l, r⟩
theorem text_shape {w : World} {sv : Value} {vs : List (List UInt8)} (h : SliceIn w sv (strCells vs)) : ∃ ao cap, sv = .slice ao vs.length cap ∧ vs.length ≤ maxLen := by
  obtain ⟨ao, cap, h1, h2, h3, _⟩ := h
  rw [strCells_len] at h1 h2
  exact ⟨ao, cap, h1, by omega⟩

set_option maxHeartbeats 1600000 in
theorem idx_text (v : Value) (l : List (List UInt8)) (c : ByteArray) (w : World) (h : SliceIn w v (strCells l)) :
    Calls Tryd.prog 36 #[v, .string c] w fun e w' => e = .returned (.int .i64 (idxP (· == c.data.toList) l)) ∧ w' = w := by
  obtain ⟨ao, cap, rfl, hlm⟩ := text_shape h
  unfold maxLen at hlm
  go_enter Tryd.func36, Tryd.ntmps36
  go_wp2_with fail
  go_loopw [8] (fun i wr => ∃ k : Nat, k ≤ l.length ∧ i = .int .i64 k ∧ Hid (∀ j x, j < k → l[j]? = some x → (x == c.data.toList) = false) ∧ wr = w) (fun i _ => l.length - (intOf i).toNat)
  case atStart => exact ⟨0, Nat.zero_le _, rfl, (by intro j x h; omega), rfl⟩
  case round =>
    obtain ⟨k, hk, rfl, hno, rfl⟩ := hrel
    by_cases hlt : k < l.length
    · have hki : (k : Int) < l.length := by omega
      obtain ⟨b, off, cap2, e1, hbl, hc⟩ := text_at h hlt
      injection e1 with f1 _ f3
      subst f1 f3
      obtain ⟨x, hx⟩ : ∃ x, l[k] = x := ⟨_, rfl⟩
      have HK : Hid (l[k]? = some x) := by show _ = _; rw [← hx]; exact List.getElem?_eq_getElem hlt
      rw [hx] at hc
      clear hx
      obtain ⟨xb, hxb⟩ : ∃ xb : ByteArray, (⟨x.toArray⟩ : ByteArray) = xb := ⟨_, rfl⟩
      have HXL : Hid (xb.data.toList = x) := by show xb.data.toList = _; rw [← hxb]
      rw [hxb] at hc
      clear hxb
      cases ht : (x == c.data.toList) with
      | true =>
        have hq : (c.toList == xb.toList) = true := by rw [ByteArray.toList_eq, ByteArray.toList_eq, HXL.out, beq_iff_eq]; exact (beq_iff_eq.1 ht).symm
        have hi : Hid (idxP (· == c.data.toList) l = k) := idxP_hit HK.out ht hno.out
        clear ht
        go_wp2_with fail
        go_ret
        exact ⟨by rw [hi.out]; exact rfl, rfl⟩
      | false =>
        have hq : (c.toList == xb.toList) = false := by rw [ByteArray.toList_eq, ByteArray.toList_eq, HXL.out, beq_eq_false_iff_ne]; exact fun e => (beq_eq_false_iff_ne.1 ht) e.symm
        have hno2 : Hid (∀ j x, j < k + 1 → l[j]? = some x → (x == c.data.toList) = false) := by
          intro j y hj hy
          by_cases e : j = k
          · subst e
            rw [HK.out] at hy
            injection hy with hy
            rw [← hy]; exact ht
          · exact hno.out j y (by omega) hy
        clear ht
        go_wp2_with fail
        go_roundw
        case rel => exact ⟨k + 1, by omega, by go_num, hno2.out, by first | rfl | trivial⟩
        case measure => simp [intOf]; omega
    · have hi : Hid (idxP (· == c.data.toList) l = -1) := idxP_miss fun j x hxj => hno.out j x (by have := (List.getElem?_eq_some_iff.1 hxj).1; omega) hxj
      go_wp2_with fail
      go_ret
      exact ⟨by rw [hi.out]; exact rfl, rfl⟩
set_option maxHeartbeats 1600000 in
theorem has_text (v : Value) (l : List (List UInt8)) (c : ByteArray) (w : World) (h : SliceIn w v (strCells l)) :
    Calls Tryd.prog 23 #[v, .string c] w fun e w' => e = .returned (.bool (l.any (· == c.data.toList))) ∧ w' = w := by
  have HI := Lib.hid (idx_text v l c w h)
  rcases idxP_any (· == c.data.toList) l with ⟨h1, n, h2⟩ | ⟨h1, h2⟩
  · rw [h2] at HI
    rw [h1]
    clear h1 h2
    go_enter Tryd.func23, Tryd.ntmps23
    go_wp2_with fail
    refine HI.out.mono ?_
    rintro e w' ⟨rfl, rfl⟩
    have hn0 : (0 : Int) ≤ n := by omega
    go_wp2_with fail
    go_ret
    exact ⟨by exact rfl, rfl⟩
  · rw [h2] at HI
    rw [h1]
    clear h1 h2
    go_enter Tryd.func23, Tryd.ntmps23
    go_wp2_with fail
    refine HI.out.mono ?_
    rintro e w' ⟨rfl, rfl⟩
    go_wp2_with fail
    go_ret
    exact ⟨by exact rfl, rfl⟩
end Go.Proofs.YtgaeecphohlmpabDoor
