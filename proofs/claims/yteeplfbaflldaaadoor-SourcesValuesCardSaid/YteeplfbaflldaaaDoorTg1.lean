/- tags: blank, skipBlanks, begin. -/
import Derived.Test.YteeplfbaflldaaaDoorBytes
import Derived.Test.YteeplfbaflldaaaDoorLz
import Derived.Below
set_option linter.unusedVariables false
set_option linter.unusedSimpArgs false
namespace Go.Proofs.YteeplfbaflldaaaDoor.T10
open Go.RowKit

def blI (c : Int) : Bool := c == 9 || c == 10 || c == 12 || c == 32
def blB (c : UInt8) : Bool := blI c.toNat
theorem blank_any (c : Int) (w : World) : Calls Tryd.prog 39 #[.int .u8 c] w fun e w' => e = .returned (.bool (blI c)) ∧ w = w' := by
  go_enter Tryd.func39, Tryd.ntmps39
  go_wp2
  all_goals (go_ret; refine ⟨ret_bool ?_, rfl⟩; rw [Bool.eq_iff_iff]; simp [blI]; try omega)
def skipN (l : List UInt8) : Nat := (l.takeWhile blB).length
theorem skipN_step (l : List UInt8) (i : Nat) (c : UInt8) (h : l[i]? = some c) (hb : blB c = true) : skipN (l.drop i) = skipN (l.drop (i + 1)) + 1 := by
  have hl := (List.getElem?_eq_some_iff.1 h).1
  have he := (List.getElem?_eq_some_iff.1 h).2
  unfold skipN
  rw [List.drop_eq_getElem_cons hl, he, List.takeWhile_cons, hb]
  rfl
theorem skipN_stop (l : List UInt8) (i : Nat) (h : ∀ c, l[i]? = some c → blB c = false) : skipN (l.drop i) = 0 := by
  unfold skipN
  cases hd : l.drop i with
  | nil => rfl
  | cons x t =>
    have h1 : (l.drop i)[0]? = some x := by rw [hd]; rfl
    rw [List.getElem?_drop] at h1
    rw [List.takeWhile_cons, h x h1]
    rfl
set_option maxRecDepth 100000 in
theorem skip_any (s : ByteArray) (a : Nat) (w : World) (ha : a ≤ s.size) (hs : s.size ≤ 1000000) :
    Calls Tryd.prog 63 #[.string s, .int .i64 a] w fun e w' => e = .returned (.int .i64 ((a + skipN (s.data.toList.drop a) : Nat) : Int)) ∧ w = w' := by
  obtain ⟨Z, hZ⟩ : ∃ Z, a + skipN (s.data.toList.drop a) = Z := ⟨_, rfl⟩
  rw [hZ]
  go_enter Tryd.func63, Tryd.ntmps63
  go_wp2_with fail
  go_loop [1] (fun i => ∃ k : Nat, k ≤ s.size ∧ i = .int .i64 k ∧ Hid (k + skipN (s.data.toList.drop k) = Z)) (fun i => s.size - (intOf i).toNat)
  case atStart => exact ⟨a, ha, rfl, hZ⟩
  case round =>
    obtain ⟨k, hk, rfl, HZ⟩ := hrel
    clear hZ
    by_cases hlt : k < s.size
    · have hki : (k : Int) < s.size := by omega
      obtain ⟨c, hc⟩ : ∃ c, s[k] = c := ⟨_, rfl⟩
      have hg : s.data.toList[k]? = some c := by rw [List.getElem?_eq_getElem (by simpa using hlt), ← hc]; rfl
      have HB := Lib.hid (blank_any (c.toNat : Int) w)
      cases hb : blB c with
      | true =>
        have hb2 : blI (c.toNat : Int) = true := hb
        rw [hb2] at HB
        have HS := Lib.hid (skipN_step _ _ _ hg hb)
        clear hg hb hb2
        go_wp2_with fail
        refine HB.out.mono ?_
        rintro e w' ⟨rfl, rfl⟩
        go_wp2_with fail
        go_round
        case rel => exact ⟨k + 1, by omega, by go_num, by have h1 := HZ.out; have h2 := HS.out; show _ = _; omega⟩
        case measure => simp [intOf]; omega
      | false =>
        have hb2 : blI (c.toNat : Int) = false := hb
        rw [hb2] at HB
        have HS := Lib.hid (skipN_stop s.data.toList k (fun d hd => by rw [hg] at hd; injection hd with hd; subst hd; exact hb))
        clear hg hb hb2
        go_wp2_with fail
        refine HB.out.mono ?_
        rintro e w' ⟨rfl, rfl⟩
        go_wp2_with fail
        go_ret
        exact ⟨by have h1 := HZ.out; have h2 := HS.out; rw [← h1, h2]; rfl, rfl⟩
    · have hki : ¬ (k : Int) < s.size := by omega
      have HS := Lib.hid (skipN_stop s.data.toList k (fun d hd => absurd (List.getElem?_eq_some_iff.1 hd).1 (by simpa using hlt)))
      clear hlt
      go_wp2_with fail
      go_ret
      exact ⟨by have h1 := HZ.out; have h2 := HS.out; rw [← h1, h2]; rfl, rfl⟩
/-- Where a tag's name stands, if one begins at a place; and whether it ends. -/
def beginL (l : List UInt8) (a : Nat) : Nat × Bool :=
  if l[a]? = some 60 then
    (if l[a + 1]? = some 47 then (match l[a + 2]? with
        | some c => if alI c.toNat = true then (a + 2, true) else (0, false)
        | none => (0, false))
      else (match l[a + 1]? with
        | some c => if alI c.toNat = true then (a + 1, false) else (0, false)
        | none => (0, false)))
  else (0, false)
end Go.Proofs.YteeplfbaflldaaaDoor.T10
