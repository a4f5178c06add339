/- trusted.Requires. -/
import Derived.Test.YtgaeecphohlmpabDoorIdx29
import Derived.Test.YtgaeecphohlmpabDoorAscii2
set_option linter.unusedVariables false
namespace Go.Proofs.YtgaeecphohlmpabDoor
open Go.RowKit

def scrN : List UInt8 := [39, 115, 99, 114, 105, 112, 116, 39]
def reqN : List UInt8 := [114, 101, 113, 117, 105, 114, 101, 45, 116, 114, 117, 115, 116, 101, 100, 45, 116, 121, 112, 101, 115, 45, 102, 111, 114]
def isScr (x : List UInt8) : Bool := lowL x == scrN

set_option maxHeartbeats 1600000 in
theorem req1_any (s : ByteArray) (w : World) (hs : s.size ≤ 1099511627776) :
    Calls Tryd.prog 26 #[.string s] w fun e w' => e = .returned (.bool (isScr s.data.toList)) ∧ Below w.heap.size w w' := by
  have hsc : lowL scrN = scrN := by decide +kernel
  have H : Hid (Calls Tryd.prog 18 #[.string s, .string ⟨#[39, 115, 99, 114, 105, 112, 116, 39]⟩] w fun e w' => e = .returned (.bool (isScr s.data.toList)) ∧ Below w.heap.size w w') := by
    refine (same_any s _ w hs (by decide)).mono ?_
    rintro e w' ⟨rfl, b⟩
    refine ⟨?_, b⟩
    show Ending.returned (.bool (lowL s.data.toList == lowL scrN)) = _
    rw [hsc]
    rfl
  clear hsc
  go_enter Tryd.func26, Tryd.ntmps26
  go_wp2_with fail
  refine H.out.mono ?_
  rintro e w' ⟨rfl, b⟩
  go_wp2_with fail
  go_ret
  exact ⟨by exact rfl, b⟩

set_option maxHeartbeats 1600000 in
theorem idxf_text (v : Value) (l : List (List UInt8)) (w : World) (h : SliceIn w v (strCells l)) (hb : ∀ x ∈ l, x.length ≤ 1099511627776) :
    Calls Tryd.prog 37 #[v, .func (.func 26) #[] #[]] w fun e w' => e = .returned (.int .i64 (idxP isScr l)) ∧ Below w.heap.size w w' := by
  obtain ⟨ao, cap, rfl, hlm⟩ := text_shape h
  unfold maxLen at hlm
  have HBB := Lib.hid hb
  clear hb
  go_enter Tryd.func37, Tryd.ntmps37
  go_wp2_with fail
  go_loopw [8] (fun i wr => ∃ k : Nat, k ≤ l.length ∧ i = .int .i64 k ∧ Hid (∀ j x, j < k → l[j]? = some x → isScr x = false) ∧ Below w.heap.size w wr) (fun i _ => l.length - (intOf i).toNat)
  case atStart => exact ⟨0, Nat.zero_le _, rfl, (by intro j x h; omega), Below.refl _ _⟩
  case round =>
    obtain ⟨k, hk, rfl, hno, hbw⟩ := hrel
    have HB := Lib.hid hbw
    by_cases hlt : k < l.length
    · have hki : (k : Int) < l.length := by omega
      obtain ⟨b, off, cap2, e1, hbl, hc⟩ := text_at (h.below hbw) hlt
      injection e1 with f1 _ f3
      subst f1 f3
      obtain ⟨x, hx⟩ : ∃ x, l[k] = x := ⟨_, rfl⟩
      have HK : Hid (l[k]? = some x) := by show _ = _; rw [← hx]; exact List.getElem?_eq_getElem hlt
      rw [hx] at hc
      have hxl := HBB.out x (List.mem_of_getElem? HK.out)
      have HR := Lib.hid (req1_any ⟨x.toArray⟩ wr (by show x.toArray.size ≤ _; rw [List.size_toArray]; exact hxl))
      have ex : (⟨x.toArray⟩ : ByteArray).data.toList = x := by simp
      rw [ex] at HR
      clear hx hbw ex
      cases ht : isScr x with
      | true =>
        rw [ht] at HR
        have hi : Hid (idxP isScr l = k) := idxP_hit HK.out ht hno.out
        clear ht
        go_wp2_with fail
        refine HR.out.mono ?_
        rintro e w1 ⟨rfl, b1⟩
        go_wp2_with fail
        go_ret
        exact ⟨by rw [hi.out]; exact rfl, HB.out.trans (b1.mono HB.out.size)⟩
      | false =>
        rw [ht] at HR
        have hno2 : Hid (∀ j x, j < k + 1 → l[j]? = some x → isScr x = false) := by
          intro j y hj hy
          by_cases e : j = k
          · subst e
            rw [HK.out] at hy
            injection hy with hy
            rw [← hy]; exact ht
          · exact hno.out j y (by omega) hy
        clear ht
        go_wp2_with fail
        refine HR.out.mono ?_
        rintro e w1 ⟨rfl, b1⟩
        go_wp2_with fail
        go_roundw
        case rel => exact ⟨k + 1, by omega, by go_num, hno2.out, HB.out.trans (b1.mono HB.out.size)⟩
        case measure => simp [intOf]; omega
    · have hi : Hid (idxP isScr l = -1) := idxP_miss fun j x hxj => hno.out j x (by have := (List.getElem?_eq_some_iff.1 hxj).1; omega) hxj
      go_wp2_with fail
      go_ret
      exact ⟨by rw [hi.out]; exact rfl, HB.out⟩
set_option maxHeartbeats 1600000 in
theorem hasf_text (v : Value) (l : List (List UInt8)) (w : World) (h : SliceIn w v (strCells l)) (hb : ∀ x ∈ l, x.length ≤ 1099511627776) :
    Calls Tryd.prog 25 #[v, .func (.func 26) #[] #[]] w fun e w' => e = .returned (.bool (l.any isScr)) ∧ Below w.heap.size w w' := by
  have HI := Lib.hid (idxf_text v l w h hb)
  rcases idxP_any isScr l with ⟨h1, n, h2⟩ | ⟨h1, h2⟩
  · rw [h2] at HI
    rw [h1]
    clear h1 h2
    go_enter Tryd.func25, Tryd.ntmps25
    go_wp2_with fail
    refine HI.out.mono ?_
    rintro e w' ⟨rfl, b⟩
    have hn0 : (0 : Int) ≤ n := by omega
    go_wp2_with fail
    go_ret
    exact ⟨by exact rfl, b⟩
  · rw [h2] at HI
    rw [h1]
    clear h1 h2
    go_enter Tryd.func25, Tryd.ntmps25
    go_wp2_with fail
    refine HI.out.mono ?_
    rintro e w' ⟨rfl, b⟩
    go_wp2_with fail
    go_ret
    exact ⟨by exact rfl, b⟩

def reqB (ds : List Dir) : Bool := ((fndL ds reqN).getD ([], [])).2.any isScr
set_option maxHeartbeats 3200000 in
set_option maxRecDepth 100000 in
theorem requires_any (lv : Value) (rep : Bool) (ds : List Dir) (w : World) (hd : DirsIn w lv ds) (hl : ds.length ≤ 1099511627776) (hv : ∀ d ∈ ds, d.2.length ≤ 1099511627776 ∧ ∀ x ∈ d.2, x.length ≤ 1099511627776) :
    Calls Tryd.prog 13 #[.agg #[lv, .bool rep]] w fun e w' => e = .returned (.bool (reqB ds)) ∧ Below w.heap.size w w' := by
  obtain ⟨W1, hW1⟩ : ∃ W1, W1 = w.alloc (.cells #[lv, .bool rep] 24) := ⟨_, rfl⟩
  have hb1 : Below w.heap.size w W1 := by rw [hW1]; exact (Below.refl _ w).alloc (Nat.le_refl _) _
  have q0 : W1.cell? ⟨w.heap.size, 0, none⟩ = some lv := by rw [hW1, Lib.cell_of_heap (heap_alloc_new w _)]; rfl
  have q1 : W1.cell? ⟨w.heap.size, 1, none⟩ = some (.bool rep) := by rw [hW1, Lib.cell_of_heap (heap_alloc_new w _)]; rfl
  have HF := Lib.hid (pfind_any lv rep ds ⟨reqN.toArray⟩ W1 (hd.below hb1) hl fun d h => (hv d h).1)
  have er : (⟨reqN.toArray⟩ : ByteArray).data.toList = reqN := by simp
  rw [er] at HF
  have HVL : Hid (∀ x ∈ ((fndL ds reqN).getD ([], [])).2, x.length ≤ 1099511627776) := by
    intro x hx
    cases hf : fndL ds reqN with
    | none => rw [hf] at hx; simp at hx
    | some d =>
      rw [hf] at hx
      exact (hv d (List.mem_of_find?_eq_some (show ds.find? (fun d => d.1 == reqN) = some d from hf))).2 x hx
  have HW1 := Lib.hid hW1
  have HB1 := Lib.hid hb1
  unfold reqN at HF
  rw [hW1] at q0 q1
  clear hW1 hb1 er
  go_enter Tryd.func13, Tryd.ntmps13
  go_upto_region 2 with (go_at_call 17; rw [← HW1.out]; refine HF.out.mono ?_; rintro e w2 ⟨⟨sv, rfl, o2⟩, b2⟩; obtain ⟨sa, sc, hsv⟩ := owns_shape o2; subst hsv)
  have HC : Hid (∀ W, Below w2.heap.size w2 W → Calls Tryd.prog 25 #[.slice sa ((fndL ds reqN).getD ([], [])).2.length sc, .func (.func 26) #[] #[]] W fun e w' => e = .returned (.bool (reqB ds)) ∧ Below W.heap.size W w') := fun W hW => hasf_text _ _ W ((owns_slice o2 (strCells_len _)).below hW) HVL.out
  obtain ⟨D, hD⟩ : ∃ D, (fndL ds reqN).getD ([], []) = D := ⟨_, rfl⟩
  obtain ⟨W3, hW3⟩ : ∃ W3, W3 = w2.alloc (.cells #[.string ⟨((fndL ds reqN).getD ([], [])).1.toArray⟩, .slice sa ((fndL ds reqN).getD ([], [])).2.length sc] 42) := ⟨_, rfl⟩
  have hb3 : Below w2.heap.size w2 W3 := by rw [hW3]; exact (Below.refl _ w2).alloc (Nat.le_refl _) _
  have c1 : W3.cell? ⟨w2.heap.size, 1, none⟩ = some (.slice sa ((fndL ds reqN).getD ([], [])).2.length sc) := by rw [hW3, Lib.cell_of_heap (heap_alloc_new w2 _)]; rfl
  have HW3 : Hid (Below w.heap.size w W3) := HB1.out.trans ((b2.trans (hb3.mono b2.size)).mono HB1.out.size)
  have HC3 := Lib.hid (HC.out W3 hb3)
  unfold reqN at hW3 c1 HC3
  rw [← hW3]
  clear hW3 hb3 b2 o2 HC HF
  go_wp2_with (go_at_call 25; refine HC3.out.mono ?_; rintro e w4 ⟨rfl, b4⟩; have B4 := Lib.hid b4; clear b4)
  go_ret
  exact ⟨by exact rfl, HW3.out.trans (B4.out.mono HW3.out.size)⟩
end Go.Proofs.YtgaeecphohlmpabDoor
