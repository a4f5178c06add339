/- The contracts of layer 6's functions: the program's. -/
import Derived.Test.YtfbmabbehiicmaaPerc
import Derived.Test.YtfbmabbehiicmaaLists2
import Derived.Test.YtfbmabbehiicmaaLz
import Derived.Test.YtfbmabbehiicmaaBuild
import Derived.Test.YtfbmabbehiicmaaShelf
set_option linter.unusedVariables false
namespace Go.Proofs.Ytfbmabbehiicmaa
open Go.RowKit

theorem hexV_lt (c : Int) : 0 ≤ hexV c ∧ hexV c ≤ 15 := by
  unfold hexV
  split <;> (try split) <;> (try split) <;> omega
set_option maxRecDepth 100000 in
theorem join_hex : ∀ a, a < 16 → ∀ b, b < 16 → bits .or .i64 (((a : Nat) : Int) * 16) ((b : Nat) : Int) % 256 = ((16 * a + b : Nat) : Int) := by decide +kernel

theorem getE (s : ByteArray) (j : Nat) (h : j < s.size) : s.data.toList[j]? = some s[j] := by
  rw [List.getElem?_eq_getElem (by simpa using h)]
  rfl
theorem three {s : ByteArray} (h : ¬ s.size < 3) : ∃ r, s.data.toList = s[0]'(by omega) :: s[1]'(by omega) :: s[2]'(by omega) :: r := by
  refine ⟨s.data.toList.drop 3, ?_⟩
  apply List.ext_getElem?
  intro j
  match j with
  | 0 => exact getE s 0 (by omega)
  | 1 => exact getE s 1 (by omega)
  | 2 => exact getE s 2 (by omega)
  | j + 3 => simp [Nat.add_comm]
theorem trip_short {l : List UInt8} (h : l.length < 3) : trip l = none := by
  match l, h with
  | [], _ => rfl
  | [_], _ => rfl
  | [_, _], _ => rfl

set_option maxHeartbeats 1000000 in
set_option maxRecDepth 100000 in
theorem triple_any (s : ByteArray) (w : World) (hs : s.size ≤ 1099511627776) :
    Calls Try.prog 17 #[.string s] w fun e w' => (∃ v : Int, e = .returned (.tuple #[.int .u8 v, .bool (trip s.data.toList).isSome]) ∧ ∀ x, trip s.data.toList = some x → v = (x.toNat : Int)) ∧ w = w' := by
  by_cases h3 : s.size < 3
  · have hN := Lib.hid (trip_short (l := s.data.toList) (by simpa using h3))
    go_enter Try.func17, Try.ntmps17
    go_wp2
    go_ret2
    refine ⟨⟨0, ?_, fun x hx => by rw [hN.out] at hx; cases hx⟩, rfl⟩
    rw [hN.out]
    rfl
  · obtain ⟨r, hr⟩ := three h3
    have HR := Lib.hid hr
    clear hr
    by_cases hp : s[0] = 37
    · have hp' : (s[0].toNat : Int) = 37 := by rw [hp]; rfl
      have HP := Lib.hid hp
      clear hp
      obtain ⟨a, ha, ea⟩ : ∃ a : Nat, a < 16 ∧ hexV (s[1].toNat : Int) = (a : Int) := ⟨(hexV (s[1].toNat : Int)).toNat, by have := hexV_lt (s[1].toNat : Int); omega, by have := hexV_lt (s[1].toNat : Int); omega⟩
      obtain ⟨b, hb, eb⟩ : ∃ b : Nat, b < 16 ∧ hexV (s[2].toNat : Int) = (b : Int) := ⟨(hexV (s[2].toNat : Int)).toNat, by have := hexV_lt (s[2].toNat : Int); omega, by have := hexV_lt (s[2].toNat : Int); omega⟩
      have EA := Lib.hid ea
      have EB := Lib.hid eb
      clear ea eb
      have b1 := s[1].toNat_lt
      have b2 := s[2].toNat_lt
      have hT : Hid (trip s.data.toList = if hexB (s[1].toNat : Int) = true ∧ hexB (s[2].toNat : Int) = true then some (UInt8.ofNat (16 * a + b)) else none) := by
        show trip s.data.toList = _
        have e1 : hxV s[1] = a := by unfold hxV; rw [EA.out]; rfl
        have e2 : hxV s[2] = b := by unfold hxV; rw [EB.out]; rfl
        rw [HR.out]
        show (if s[0] = 37 ∧ hxB s[1] = true ∧ hxB s[2] = true then some (UInt8.ofNat (16 * hxV s[1] + hxV s[2])) else none) = _
        rw [HP.out, e1, e2]
        simp only [true_and]
        rfl
      cases hh : hexB (s[1].toNat : Int)
      all_goals
        rw [hh] at hT
        go_enter Try.func17, Try.ntmps17
        go_wp2_with fail
        refine (hex_any _ _ (by omega) (by omega)).mono ?_
        rintro e w' ⟨rfl, rfl⟩
        rw [EA.out, hh]
        go_wp2_with fail
        refine (hex_any _ _ (by omega) (by omega)).mono ?_
        rintro e w' ⟨rfl, rfl⟩
        rw [EB.out]
        go_wp2_with fail
        go_ret2
        rw [join_hex a ha b hb]
        refine ⟨⟨((16 * a + b : Nat) : Int), ?_, fun x hx => ?_⟩, rfl⟩
        · rw [hT.out]
          cases hexB (s[2].toNat : Int) <;> rfl
        · rw [hT.out] at hx
          split at hx
          · injection hx with hx
            rw [← hx]
            simp
            omega
          · cases hx
    · have hN := Lib.hid (trip_head (x := s[0]) (r := s[1]'(by omega) :: s[2]'(by omega) :: r) hp)
      have hp' : ((s[0].toNat : Int) != 37) = true := by
        rw [bne_iff_ne]
        intro e
        exact hp (UInt8.toNat_inj.1 (by show s[0].toNat = 37; omega))
      clear hp
      go_enter Try.func17, Try.ntmps17
      go_wp2_with fail
      go_ret2
      refine ⟨⟨0, ?_, fun x hx => by rw [HR.out, hN.out] at hx; cases hx⟩, rfl⟩
      rw [HR.out, hN.out]
      rfl
end Go.Proofs.Ytfbmabbehiicmaa
