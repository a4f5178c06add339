/- slices.Index and slices.Contains of bytes; a policy's name. -/
import Derived.Test.YtgaeecphohlmpabDoorIdx29
import Derived.Test.YtgaeecphohlmpabDoorBytes
import Derived.Test.YtgaeecphohlmpabDoorLists
import Derived.Lib.SlBytesConst
set_option linter.unusedVariables false
namespace Go.Proofs.YtgaeecphohlmpabDoor
open Go.RowKit

theorem byte_shape {w : World} {sv : Value} {l : List Int} (h : SliceIn w sv (l.map (Value.int .u8))) : ∃ ao cap, sv = .slice ao l.length cap ∧ l.length ≤ maxLen := by
  obtain ⟨ao, cap, h1, h2, h3, _⟩ := h
  rw [List.length_map] at h1 h2
  exact ⟨ao, cap, h1, by omega⟩
theorem byte_at {w : World} {sv : Value} {l : List Int} (h : SliceIn w sv (l.map (Value.int .u8))) {i : Nat} (hi : i < l.length) : ∃ b off cap, sv = .slice (some ⟨b, off, none⟩) l.length cap ∧ b < w.heap.size ∧ w.cell? ⟨b, off + i, none⟩ = some (.int .u8 l[i]) := by
  obtain ⟨b, off, cap, e, k, r⟩ := h.at (i := i) (by rw [List.length_map]; exact hi)
  rw [List.length_map] at e
  have x1 : (l.map (Value.int .u8))[i]'(by rw [List.length_map]; exact hi) = .int .u8 l[i] := by simp
  rw [x1] at r
  exact ⟨b, off, cap, e, k, r⟩

set_option maxHeartbeats 1600000 in
theorem idx_byte (v : Value) (l : List Int) (c : Int) (w : World) (h : SliceIn w v (l.map (Value.int .u8))) :
    Calls Tryd.prog 42 #[v, .int .u8 c] w fun e w' => e = .returned (.int .i64 (idxP (· == c) l)) ∧ w' = w := by
  obtain ⟨ao, cap, rfl, hlm⟩ := byte_shape h
  unfold maxLen at hlm
  go_enter Tryd.func42, Tryd.ntmps42
  go_wp2_with fail
  go_loopw [8] (fun i wr => ∃ k : Nat, k ≤ l.length ∧ i = .int .i64 k ∧ Hid (∀ j x, j < k → l[j]? = some x → (x == c) = false) ∧ wr = w) (fun i _ => l.length - (intOf i).toNat)
  case atStart => exact ⟨0, Nat.zero_le _, rfl, (by intro j x h; omega), rfl⟩
  case round =>
    obtain ⟨k, hk, rfl, hno, rfl⟩ := hrel
    by_cases hlt : k < l.length
    · have hki : (k : Int) < l.length := by omega
      obtain ⟨b, off, cap2, e1, hbl, hc⟩ := byte_at h hlt
      injection e1 with f1 _ f3
      subst f1 f3
      obtain ⟨x, hx⟩ : ∃ x, l[k] = x := ⟨_, rfl⟩
      have HK : Hid (l[k]? = some x) := by show _ = _; rw [← hx]; exact List.getElem?_eq_getElem hlt
      rw [hx] at hc
      clear hx
      by_cases ht : x = c
      · have hq : c = x := ht.symm
        have hi : Hid (idxP (· == c) l = k) := idxP_hit HK.out (beq_iff_eq.2 ht) hno.out
        clear ht
        subst hq
        go_wp2_with fail
        go_ret
        exact ⟨by rw [hi.out]; exact rfl, rfl⟩
      · have hq : ¬ c = x := fun e => ht e.symm
        have hno2 : Hid (∀ j x, j < k + 1 → l[j]? = some x → (x == c) = false) := by
          intro j y hj hy
          by_cases e : j = k
          · subst e
            rw [HK.out] at hy
            injection hy with hy
            rw [← hy]; exact beq_eq_false_iff_ne.2 ht
          · exact hno.out j y (by omega) hy
        clear ht
        go_wp2_with fail
        go_roundw
        case rel => exact ⟨k + 1, by omega, by go_num, hno2.out, by first | rfl | trivial⟩
        case measure => simp [intOf]; omega
    · have hi : Hid (idxP (· == c) l = -1) := idxP_miss fun j x hxj => hno.out j x (by have := (List.getElem?_eq_some_iff.1 hxj).1; omega) hxj
      go_wp2_with fail
      go_ret
      exact ⟨by rw [hi.out]; exact rfl, rfl⟩
set_option maxHeartbeats 1600000 in
theorem has_byte (v : Value) (l : List Int) (c : Int) (w : World) (h : SliceIn w v (l.map (Value.int .u8))) :
    Calls Tryd.prog 34 #[v, .int .u8 c] w fun e w' => e = .returned (.bool (l.any (· == c))) ∧ w' = w := by
  have HI := Lib.hid (idx_byte v l c w h)
  rcases idxP_any (· == c) l with ⟨h1, n, h2⟩ | ⟨h1, h2⟩
  · rw [h2] at HI
    rw [h1]
    clear h1 h2
    go_enter Tryd.func34, Tryd.ntmps34
    go_wp2_with fail
    refine HI.out.mono ?_
    rintro e w' ⟨rfl, rfl⟩
    have hn0 : (0 : Int) ≤ n := by omega
    go_wp2_with fail
    go_ret
    exact ⟨by exact rfl, rfl⟩
  · rw [h2] at HI
    rw [h1]
    clear h1 h2
    go_enter Tryd.func34, Tryd.ntmps34
    go_wp2_with fail
    refine HI.out.mono ?_
    rintro e w' ⟨rfl, rfl⟩
    go_wp2_with fail
    go_ret
    exact ⟨by exact rfl, rfl⟩

def othN : List Int := [45, 35, 61, 95, 47, 64, 46, 37]
/-- May a byte stand in a policy's name? -/
def okI (c : Int) : Bool := alI c || diI c || othN.any (· == c)
def namL (l : List UInt8) : Bool := l.all (fun x => okI x.toNat) && !(l == [])
def othW (w : World) : World := w.alloc (.cells #[.int .u8 45, .int .u8 35, .int .u8 61, .int .u8 95, .int .u8 47, .int .u8 64, .int .u8 46, .int .u8 37] 5 (8, 9))
theorem oth_in (w : World) : SliceIn (othW w) (.slice (some ⟨w.heap.size, 0, none⟩) 8 8) (othN.map (Value.int .u8)) := by
  refine ⟨_, 8, rfl, by simp [othN], by unfold maxLen; omega, fun _ => ⟨w.heap.size, 0, rfl, by simp [othW], fun i hi => ?_⟩⟩
  have hi8 : i < 8 := by simpa [othN] using hi
  unfold othW
  rw [World.cell?_alloc_mark, Nat.zero_add]
  have : i = 0 ∨ i = 1 ∨ i = 2 ∨ i = 3 ∨ i = 4 ∨ i = 5 ∨ i = 6 ∨ i = 7 := by omega
  rcases this with rfl | rfl | rfl | rfl | rfl | rfl | rfl | rfl <;> rfl
theorem namL_bad {l : List UInt8} {k : Nat} (h : k < l.length) (hb : okI l[k].toNat = false) : namL l = false := by
  unfold namL
  rw [Bool.and_eq_false_iff]
  left
  rw [List.all_eq_false]
  exact ⟨l[k], List.getElem_mem h, by rw [hb]; simp⟩

theorem namL_good {l : List UInt8} (h : ∀ j (hj : j < l.length), okI l[j].toNat = true) : namL l = !(l == []) := by
  unfold namL
  have : l.all (fun x => okI x.toNat) = true := by
    rw [List.all_eq_true]
    intro x hx
    obtain ⟨j, hj, rfl⟩ := List.getElem_of_mem hx
    exact h j hj
  rw [this, Bool.true_and]

set_option maxHeartbeats 3200000 in
theorem name_any (s : ByteArray) (w : World) (hs : s.size ≤ 1099511627776) :
    Calls Tryd.prog 19 #[.string s] w fun e w' => e = .returned (.bool (namL s.data.toList)) ∧ Below w.heap.size w w' := by
  have kc := fun (w : World) (C : Array Value) (n c : Nat) => Lib.run_convert_bytes_const (P := Tryd.prog) w 35 5 C n c Tryd.underlying35 Tryd.underlying5
  obtain ⟨W, hW⟩ : ∃ W, othW w = W := ⟨_, rfl⟩
  have hin : Hid (SliceIn W (.slice (some ⟨w.heap.size, 0, none⟩) 8 8) (othN.map (Value.int .u8))) := by rw [← hW]; exact oth_in w
  have hb : Below w.heap.size w W := by rw [← hW]; exact (Below.refl _ w).alloc (Nat.le_refl _) _
  go_enter Tryd.func19, Tryd.ntmps19
  go_wp2_with fail
  rw [show w.alloc (.cells #[.int .u8 45, .int .u8 35, .int .u8 61, .int .u8 95, .int .u8 47, .int .u8 64, .int .u8 46, .int .u8 37] 5 (8, 9)) = W from hW]
  go_loopw [10] (fun i wr => ∃ k : Nat, k ≤ s.size ∧ i = .int .i64 k ∧ Hid (∀ j (hj : j < s.size), j < k → okI s[j].toNat = true) ∧ wr = W) (fun i _ => s.size - (intOf i).toNat)
  case atStart => exact ⟨0, Nat.zero_le _, rfl, (by intro j x h; omega), rfl⟩
  case round =>
    obtain ⟨k, hk, rfl, hno, rfl⟩ := hrel
    by_cases hlt : k < s.size
    · have hki : (k : Int) < s.size := by omega
      obtain ⟨c, hc⟩ : ∃ c : Nat, s[k].toNat = c := ⟨_, rfl⟩
      have hc8 : c < 256 := by rw [← hc]; exact s[k].toNat_lt
      have HA := Lib.hid (alpha_any c wr)
      have HD := Lib.hid (digit_any c wr)
      have HB := Lib.hid (has_byte _ othN c wr hin.out)
      have hok : Hid (okI s[k].toNat = (alI c || diI c || othN.any (· == (c : Int)))) := by show _ = _; rw [hc]; rfl
      obtain ⟨a, ha⟩ : ∃ a, alI c = a := ⟨_, rfl⟩
      obtain ⟨d, hd⟩ : ∃ d, diI c = d := ⟨_, rfl⟩
      obtain ⟨o, ho⟩ : ∃ o, othN.any (· == (c : Int)) = o := ⟨_, rfl⟩
      rw [ha] at HA hok
      rw [hd] at HD hok
      rw [ho] at HB hok
      clear ha hd ho
      have hno2 : Hid ((a || d || o) = true → ∀ j (hj : j < s.size), j < k + 1 → okI s[j].toNat = true) := by
        intro ht j hj h1
        by_cases e : j = k
        · subst e; rw [hok.out]; exact ht
        · exact hno.out j hj (by omega)
      have hbad : Hid ((a || d || o) = false → namL s.data.toList = false) := by
        intro ht
        refine namL_bad (k := k) (by simpa using hlt) ?_
        rw [ht] at hok
        exact hok.out
      clear hok hno
      cases a <;> cases d <;> cases o
      all_goals go_wp2_with (first
        | (go_at_call 32; refine HA.out.mono ?_; rintro e w' ⟨rfl, rfl⟩)
        | (go_at_call 33; refine HD.out.mono ?_; rintro e w' ⟨rfl, rfl⟩)
        | (go_at_call 34; refine HB.out.mono ?_; rintro e w' ⟨rfl, rfl⟩))
      all_goals first
        | (go_ret; exact ⟨by rw [hbad.out rfl]; exact rfl, hb⟩)
        | (go_roundw
           case rel => exact ⟨k + 1, by omega, by go_num, hno2.out rfl, by first | rfl | trivial⟩
           case measure => simp [intOf]; omega)
    · have hn : Hid (namL s.data.toList = !(s.data.toList == [])) := namL_good fun j hj => by
        have h1 : j < s.size := by simpa using hj
        exact hno.out j h1 (by omega)
      clear hno
      go_wp2_with fail
      go_ret
      refine ⟨?_, hb⟩
      rw [hn.out, ByteArray.toList_eq]
      cases s.data.toList <;> rfl
end Go.Proofs.YtgaeecphohlmpabDoor
