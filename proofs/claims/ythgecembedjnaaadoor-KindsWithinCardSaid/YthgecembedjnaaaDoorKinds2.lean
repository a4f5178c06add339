/- The contracts of layer 13's functions: the document's. -/
import Derived.Test.YthgecembedjnaaaDoorKinds
set_option linter.unusedVariables false
namespace Go.Proofs.YthgecembedjnaaaDoor
open Go.RowKit

theorem memW_hit {W : List (List UInt8)} {k : Nat} (hk : k < W.length) {n : List UInt8} (h : W[k] = n) : memW W n = true := by
  unfold memW
  rw [← h]
  simp
theorem memW_none {W : List (List UInt8)} {n : List UInt8} (h : ∀ j (hj : j < W.length), W[j] ≠ n) : memW W n = false := by
  unfold memW
  rw [List.contains_eq_mem, decide_eq_false_iff_not]
  intro hm
  obtain ⟨j, hj, e⟩ := List.mem_iff_getElem.1 hm
  exact h j hj e

set_option maxHeartbeats 1000000 in
theorem among_any (B : Nat) (n : ByteArray) (v : Value) (W : List (List UInt8)) (w : World) (hv : w.ownsRow B 9 1 v W.length (strCells W)) (hW : W.length ≤ 100000) :
    Calls Tryd.prog 68 #[.string n, v] w fun e w' => e = .returned (.bool (memW W n.data.toList)) ∧ w = w' := by
  obtain ⟨aa, ca, rfl⟩ := owns_shape hv
  go_enter Tryd.func68, Tryd.ntmps68
  go_wp2
  go_loop [5] (fun i => ∃ k : Nat, k ≤ W.length ∧ i = .int .i64 k ∧ Hid (∀ j (hj : j < W.length), j < k → W[j] ≠ n.data.toList)) (fun i => W.length - (intOf i).toNat)
  case atStart => exact ⟨0, Nat.zero_le _, rfl, fun j _ hj => by omega⟩
  case round =>
    obtain ⟨k, hk, rfl, hno⟩ := hrel
    by_cases hlt : k < W.length
    · obtain ⟨g1, c1, e1, _, _, _, _, r1⟩ := owns_cell hv hlt
      obtain ⟨rfl, rfl⟩ : aa = some ⟨g1, 0, none⟩ ∧ ca = c1 := by injection e1 with a b c; exact ⟨a, c⟩
      have q1 := r1 k (.string ⟨W[k].toArray⟩) (by simp [strCells, hlt])
      clear r1 e1
      by_cases he : W[k] = n.data.toList
      · have HR := Lib.hid (memW_hit hlt he)
        have hb : (W[k] == n.toList) = true := by rw [ByteArray.toList_eq]; simp [he]
        clear he
        go_wp2
        go_ret
        exact ⟨ret_bool HR.out.symm, rfl⟩
      · have HN : Hid (∀ j (hj : j < W.length), j < k + 1 → W[j] ≠ n.data.toList) := fun j hj hlt' => if h : j = k then by subst h; exact he else hno.out j hj (by omega)
        have hb : (W[k] == n.toList) = false := by rw [ByteArray.toList_eq]; simp [he]
        clear he
        go_wp2
        go_round
        case rel => exact ⟨k + 1, by omega, by go_num, HN.out⟩
        case measure => simp [intOf]; omega
    · have HR := Lib.hid (memW_none (W := W) (n := n.data.toList) fun j hj => hno.out j hj (by omega))
      go_wp2
      go_ret
      exact ⟨ret_bool HR.out.symm, rfl⟩

set_option maxRecDepth 100000 in
theorem rformatting_any (n : ByteArray) (w : World) : Calls Tryd.prog 41 #[.string n] w fun e w' => e = .returned (.bool (memW formattingW n.data.toList)) ∧ Below w.heap.size w w' := by
  have ho := Lib.hid (lit_owns w formattingW (by decide))
  go_enter Tryd.func41, Tryd.ntmps41
  go_wp2_with fail
  refine (among_any _ n _ formattingW _ ho.out (by decide)).mono ?_
  rintro e w' ⟨rfl, rfl⟩
  go_wp2
  go_ret
  exact ⟨rfl, (Below.refl _ w).alloc (Nat.le_refl _) _⟩

set_option maxRecDepth 100000 in
theorem rvoid_any (n : ByteArray) (w : World) : Calls Tryd.prog 43 #[.string n] w fun e w' => e = .returned (.bool (memW voidW n.data.toList)) ∧ Below w.heap.size w w' := by
  have ho := Lib.hid (lit_owns w voidW (by decide))
  go_enter Tryd.func43, Tryd.ntmps43
  go_wp2_with fail
  refine (among_any _ n _ voidW _ ho.out (by decide)).mono ?_
  rintro e w' ⟨rfl, rfl⟩
  go_wp2
  go_ret
  exact ⟨rfl, (Below.refl _ w).alloc (Nat.le_refl _) _⟩

set_option maxRecDepth 100000 in
theorem rimplied_any (n : ByteArray) (w : World) : Calls Tryd.prog 45 #[.string n] w fun e w' => e = .returned (.bool (memW impliedW n.data.toList)) ∧ Below w.heap.size w w' := by
  have ho := Lib.hid (lit_owns w impliedW (by decide))
  go_enter Tryd.func45, Tryd.ntmps45
  go_wp2_with fail
  refine (among_any _ n _ impliedW _ ho.out (by decide)).mono ?_
  rintro e w' ⟨rfl, rfl⟩
  go_wp2
  go_ret
  exact ⟨rfl, (Below.refl _ w).alloc (Nat.le_refl _) _⟩

def thor8W : List (List UInt8) := [[99, 97, 112, 116, 105, 111, 110], [99, 111, 108, 103, 114, 111, 117, 112], [116, 98, 111, 100, 121], [116, 100], [116, 102, 111, 111, 116], [116, 104], [116, 104, 101, 97, 100], [116, 114]]
theorem thor_eq (n : List UInt8) : memW thoroughW n = (memW impliedW n || memW thor8W n) := by
  have e : thoroughW = impliedW ++ thor8W := by decide
  unfold memW
  rw [e]
  simp
set_option maxRecDepth 100000 in
theorem rthorough_any (n : ByteArray) (w : World) : Calls Tryd.prog 47 #[.string n] w fun e w' => e = .returned (.bool (memW thoroughW n.data.toList)) ∧ Below w.heap.size w w' := by
  have HE := Lib.hid (thor_eq n.data.toList)
  by_cases hi : memW impliedW n.data.toList = true
  · have HR : Hid (memW thoroughW n.data.toList = true) := by rw [HE.out, hi]; rfl
    go_enter Tryd.func47, Tryd.ntmps47
    go_wp2_with fail
    refine (rimplied_any n _).mono ?_
    rintro e w1 ⟨rfl, b1⟩
    rw [hi]
    go_wp2
    go_ret
    exact ⟨ret_bool HR.out.symm, b1⟩
  · have hi' : memW impliedW n.data.toList = false := by simpa using hi
    have HR : Hid (memW thoroughW n.data.toList = memW thor8W n.data.toList) := by rw [HE.out, hi', Bool.false_or]; rfl
    clear hi
    go_enter Tryd.func47, Tryd.ntmps47
    go_wp2_with fail
    refine (rimplied_any n _).mono ?_
    rintro e w1 ⟨rfl, b1⟩
    rw [hi']
    have ho := Lib.hid (lit_owns w1 thor8W (by decide))
    go_wp2_with fail
    refine (among_any _ n _ thor8W _ ho.out (by decide)).mono ?_
    rintro e w' ⟨rfl, rfl⟩
    go_wp2
    go_ret
    exact ⟨ret_bool HR.out.symm, b1.alloc b1.size _⟩

set_option maxHeartbeats 2000000 in
set_option maxRecDepth 100000 in
theorem rspecial_any (sp : Int) (n : ByteArray) (w : World) : Calls Tryd.prog 39 #[.int .i64 sp, .string n] w fun e w' => e = .returned (.bool (specialS sp n.data.toList)) ∧ Below w.heap.size w w' := by
  by_cases h2 : sp = 2
  · subst h2
    have ho := Lib.hid (lit_owns w special2W (by decide))
    go_enter Tryd.func39, Tryd.ntmps39
    go_wp2_with fail
    refine (among_any _ n _ special2W _ ho.out (by decide)).mono ?_
    rintro e w' ⟨rfl, rfl⟩
    go_wp2
    go_ret
    exact ⟨ret_bool rfl, (Below.refl _ w).alloc (Nat.le_refl _) _⟩
  · by_cases h1 : sp = 1
    · subst h1
      clear h2
      have ho := Lib.hid (lit_owns w special1W (by decide))
      go_enter Tryd.func39, Tryd.ntmps39
      go_wp2_with fail
      refine (among_any _ n _ special1W _ ho.out (by decide)).mono ?_
      rintro e w' ⟨rfl, rfl⟩
      go_wp2
      go_ret
      exact ⟨ret_bool rfl, (Below.refl _ w).alloc (Nat.le_refl _) _⟩
    · by_cases h0 : sp = 0
      · subst h0
        clear h2 h1
        have ho := Lib.hid (lit_owns w special0W (by decide))
        go_enter Tryd.func39, Tryd.ntmps39
        go_wp2_with fail
        refine (among_any _ n _ special0W _ ho.out (by decide)).mono ?_
        rintro e w' ⟨rfl, rfl⟩
        go_wp2
        go_ret
        exact ⟨ret_bool rfl, (Below.refl _ w).alloc (Nat.le_refl _) _⟩
      · have HR : Hid (specialS sp n.data.toList = false) := by
          show specialS sp n.data.toList = false
          unfold specialS
          rw [if_neg h0, if_neg h1, if_neg h2]
        have b2 : (sp == 2) = false := by simp [h2]
        have b1 : (sp == 1) = false := by simp [h1]
        have b0 : (sp == 0) = false := by simp [h0]
        clear h0 h1 h2
        go_enter Tryd.func39, Tryd.ntmps39
        go_wp2
        go_ret
        exact ⟨ret_bool HR.out.symm, Below.refl _ _⟩
end Go.Proofs.YthgecembedjnaaaDoor
