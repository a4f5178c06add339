/- slices.DeleteFunc with policy.Meta's closure; policy.Meta. -/
import Derived.Test.YtgaeecphohlmpaaDoorTxt
import Derived.Test.YtgaeecphohlmpaaDoorFls
set_option linter.unusedVariables false
namespace Go.Proofs.YtgaeecphohlmpaaDoor
open Go.RowKit

def hdrB (n : List UInt8) : Bool := n == [114, 101, 112, 111, 114, 116, 45, 117, 114, 105] || n == [102, 114, 97, 109, 101, 45, 97, 110, 99, 101, 115, 116, 111, 114, 115] || n == [115, 97, 110, 100, 98, 111, 120]
def metaL (ds : List Dir) : List Dir := ds.filter fun d => !hdrB d.1

set_option maxHeartbeats 1600000 in
theorem mdel_any (nm : ByteArray) (sv : Value) (w : World) :
    Calls Tryd.prog 42 #[.agg #[.string nm, sv]] w fun e w' => e = .returned (.bool (hdrB nm.data.toList)) ∧ Below w.heap.size w w' := by
  have hh : Hid (∀ b1 b2 b3 : Bool, (nm.toList == [114, 101, 112, 111, 114, 116, 45, 117, 114, 105]) = b1 → (nm.toList == [102, 114, 97, 109, 101, 45, 97, 110, 99, 101, 115, 116, 111, 114, 115]) = b2 → (nm.toList == [115, 97, 110, 100, 98, 111, 120]) = b3 → hdrB nm.data.toList = (b1 || b2 || b3)) := by
    intro b1 b2 b3 h1 h2 h3
    unfold hdrB
    rw [← h1, ← h2, ← h3, ByteArray.toList_eq]
  cases h1 : (nm.toList == [114, 101, 112, 111, 114, 116, 45, 117, 114, 105]) with
  | true =>
    have h : hdrB nm.data.toList = true := by rw [hh.out true _ _ h1 rfl rfl]; rfl
    rw [h]
    clear h
    go_enter Tryd.func42, Tryd.ntmps42
    go_wp2_with fail
    go_ret
    exact ⟨by exact rfl, (Below.refl _ w).alloc (Nat.le_refl _) _⟩
  | false =>
    cases h2 : (nm.toList == [102, 114, 97, 109, 101, 45, 97, 110, 99, 101, 115, 116, 111, 114, 115]) with
    | true =>
      have h : hdrB nm.data.toList = true := by rw [hh.out false true _ h1 h2 rfl]; rfl
      rw [h]
      clear h
      go_enter Tryd.func42, Tryd.ntmps42
      go_wp2_with fail
      go_ret
      exact ⟨by exact rfl, (Below.refl _ w).alloc (Nat.le_refl _) _⟩
    | false =>
      cases h3 : (nm.toList == [115, 97, 110, 100, 98, 111, 120]) with
      | true =>
        have h : hdrB nm.data.toList = true := by rw [hh.out false false true h1 h2 h3]; rfl
        rw [h]
        clear h
        go_enter Tryd.func42, Tryd.ntmps42
        go_wp2_with fail
        go_ret
        exact ⟨by exact rfl, (Below.refl _ w).alloc (Nat.le_refl _) _⟩
      | false =>
        have h : hdrB nm.data.toList = false := by rw [hh.out false false false h1 h2 h3]; rfl
        rw [h]
        clear h
        go_enter Tryd.func42, Tryd.ntmps42
        go_wp2_with fail
        go_ret
        exact ⟨by exact rfl, (Below.refl _ w).alloc (Nat.le_refl _) _⟩

/-- Where the first is that only headers may have. -/
def hdrAt (ds : List Dir) : Int := match ds.findIdx? fun d => hdrB d.1 with
  | some i => i
  | none => -1
theorem hdrAt_hit {ds : List Dir} {k : Nat} {d : Dir} (h : ds[k]? = some d) (hn : hdrB d.1 = true) (hno : ∀ (j : Nat) (d : Dir), j < k → ds[j]? = some d → hdrB d.1 = false) : hdrAt ds = k := by
  obtain ⟨hk, hd⟩ := List.getElem?_eq_some_iff.1 h
  have : ds.findIdx? (fun d => hdrB d.1) = some k := by
    rw [List.findIdx?_eq_some_iff_getElem]
    refine ⟨hk, by rw [hd]; exact hn, fun j hj => ?_⟩
    rw [hno j _ hj (List.getElem?_eq_getElem (by omega))]
    simp
  unfold hdrAt
  rw [this]
theorem hdrAt_miss {ds : List Dir} (hno : ∀ (j : Nat) (d : Dir), ds[j]? = some d → hdrB d.1 = false) : hdrAt ds = -1 := by
  have : ds.findIdx? (fun d => hdrB d.1) = none := by
    rw [List.findIdx?_eq_none_iff]
    intro d hd
    obtain ⟨j, hj⟩ := List.getElem?_of_mem hd
    exact hno j d hj
  unfold hdrAt
  rw [this]
theorem hdrAt_cases (ds : List Dir) : (hdrAt ds = -1 ∧ metaL ds = ds) ∨ ∃ k : Nat, hdrAt ds = k ∧ k < ds.length ∧ metaL (ds.take (k + 1)) = ds.take k := by
  cases h : ds.findIdx? fun d => hdrB d.1 with
  | none =>
    left
    refine ⟨by unfold hdrAt; rw [h], ?_⟩
    rw [List.findIdx?_eq_none_iff] at h
    unfold metaL
    rw [List.filter_eq_self]
    intro d hd
    rw [h d hd]
    rfl
  | some k =>
    right
    refine ⟨k, by unfold hdrAt; rw [h], ?_⟩
    rw [List.findIdx?_eq_some_iff_getElem] at h
    obtain ⟨hk, h1, h2⟩ := h
    refine ⟨hk, ?_⟩
    unfold metaL
    rw [List.take_add_one, List.getElem?_eq_getElem hk, Option.toList_some, List.filter_append]
    have e1 : [ds[k]].filter (fun d => !hdrB d.1) = [] := by simp [h1]
    rw [e1, List.append_nil, List.filter_eq_self]
    intro d hd
    obtain ⟨j, hj⟩ := List.getElem?_of_mem hd
    rw [List.getElem?_take] at hj
    split at hj
    · rename_i hjk
      obtain ⟨hj1, hj2⟩ := List.getElem?_eq_some_iff.1 hj
      have := h2 j hjk
      rw [hj2] at this
      simpa using this
    · cases hj

set_option maxHeartbeats 1600000 in
theorem midx_any (lv : Value) (ds : List Dir) (w : World) (hd : DirsIn w lv ds) (hl : ds.length ≤ 1099511627776) :
    Calls Tryd.prog 51 #[lv, .func (.func 42) #[] #[]] w fun e w' => e = .returned (.int .i64 (hdrAt ds)) ∧ Below w.heap.size w w' := by
  go_enter Tryd.func51, Tryd.ntmps51
  obtain ⟨ao, cap, rfl⟩ := hd.shape
  go_wp2_with fail
  go_loopw [8] (fun i wr => ∃ k : Nat, k ≤ ds.length ∧ i = .int .i64 k ∧ Hid (∀ j d, j < k → ds[j]? = some d → hdrB d.1 = false) ∧ Below w.heap.size w wr) (fun i _ => ds.length - (intOf i).toNat)
  case atStart => exact ⟨0, Nat.zero_le _, rfl, by intro j d h; omega, Below.refl _ w⟩
  case round =>
    obtain ⟨k, hk, rfl, hno, hb⟩ := hrel
    by_cases hlt : k < ds.length
    · obtain ⟨b2, off, cap2, sv, hv, hb2, c1, c2, _⟩ := (hd.below hb).at hlt
      injection hv with e1 e2 e3
      subst e1 e3
      have hki : (k : Int) < ds.length := by omega
      have hat : Hid (ds[k]? = some ds[k]) := List.getElem?_eq_getElem hlt
      obtain ⟨nk, hnk⟩ : ∃ nk : ByteArray, (⟨ds[k].1.toArray⟩ : ByteArray) = nk := ⟨_, rfl⟩
      have hnl : Hid (nk.data.toList = ds[k].1) := by show nk.data.toList = _; rw [← hnk]
      rw [hnk] at c1
      clear hnk
      have HM := Lib.hid (mdel_any nk sv wr)
      cases heq : hdrB nk.data.toList with
      | true =>
        rw [heq] at HM
        have hfi : Hid (hdrAt ds = k) := hdrAt_hit hat.out (by rw [← hnl.out]; exact heq) hno.out
        clear heq
        go_wp2_with fail
        refine HM.out.mono ?_
        rintro e w1 ⟨rfl, b1⟩
        go_wp2_with fail
        go_ret
        exact ⟨by rw [hfi.out]; exact rfl, hb.trans (b1.mono hb.size)⟩
      | false =>
        rw [heq] at HM
        have hno' : Hid (∀ j d, j < k + 1 → ds[j]? = some d → hdrB d.1 = false) := by
          intro j d hj hd2
          by_cases e : j = k
          · subst e
            rw [hat.out] at hd2
            injection hd2 with hd2
            rw [← hd2, ← hnl.out]
            exact heq
          · exact hno.out j d (by omega) hd2
        clear heq
        go_wp2_with fail
        refine HM.out.mono ?_
        rintro e w1 ⟨rfl, b1⟩
        go_wp2_with fail
        go_roundw
        case rel => exact ⟨k + 1, by omega, by go_num, hno'.out, hb.trans (b1.mono hb.size)⟩
        case measure => simp [intOf]; omega
    · have hfi : Hid (hdrAt ds = -1) := hdrAt_miss (fun j d hd2 => hno.out j d (by have := (List.getElem?_eq_some_iff.1 hd2).1; omega) hd2)
      go_wp2_with fail
      go_ret
      exact ⟨by rw [hfi.out]; exact rfl, hb⟩
end Go.Proofs.YtgaeecphohlmpaaDoor
