/- The document's triples: Decode. -/
import Derived.Test.YtfbmabbehiicmaaPerc4
set_option linter.unusedVariables false
namespace Go.Proofs.Ytfbmabbehiicmaa
open Go.RowKit

/-- What stands at a place: a triple, or why it is none. -/
theorem trip_cases (s : ByteArray) (k : Nat) (h : k < s.size) :
    (∃ v, trip (s.data.toList.drop k) = some v ∧ (s[k].toNat : Int) = 37 ∧ ∃ h2 : k + 2 < s.size, hexB (s[k + 1].toNat : Int) = true ∧ hexB (s[k + 2].toNat : Int) = true ∧ (16 * hexV (s[k + 1].toNat : Int) + hexV (s[k + 2].toNat : Int)) = (v.toNat : Int)) ∨
    (trip (s.data.toList.drop k) = none ∧ (¬ (s[k].toNat : Int) = 37 ∨ ((s[k].toNat : Int) = 37 ∧ ¬ k + 2 < s.size) ∨
      ((s[k].toNat : Int) = 37 ∧ ∃ h2 : k + 2 < s.size, (hexB (s[k + 1].toNat : Int) = false ∨ (hexB (s[k + 1].toNat : Int) = true ∧ hexB (s[k + 2].toNat : Int) = false))))) := by
  have e1 := drop_cons s k h
  by_cases hp : s[k] = 37
  · have hp' : (s[k].toNat : Int) = 37 := by rw [hp]; rfl
    by_cases h2 : k + 2 < s.size
    · have e2 := drop_cons s (k + 1) (by omega)
      have e3 := drop_cons s (k + 2) h2
      rw [e1, e2, e3]
      have ht : trip (s[k] :: s[k + 1] :: s[k + 2] :: s.data.toList.drop (k + 2 + 1)) = if hexB (s[k + 1].toNat : Int) = true ∧ hexB (s[k + 2].toNat : Int) = true then some (UInt8.ofNat (16 * hxV s[k + 1] + hxV s[k + 2])) else none := by
        show (if s[k] = 37 ∧ hxB s[k + 1] = true ∧ hxB s[k + 2] = true then some (UInt8.ofNat (16 * hxV s[k + 1] + hxV s[k + 2])) else none) = _
        rw [hp]
        simp only [true_and]
        rfl
      rw [ht]
      cases x1 : hexB (s[k + 1].toNat : Int) with
      | false => exact .inr ⟨by simp, .inr (.inr ⟨hp', h2, .inl x1⟩)⟩
      | true =>
        cases x2 : hexB (s[k + 2].toNat : Int) with
        | false => exact .inr ⟨by simp, .inr (.inr ⟨hp', h2, .inr ⟨x1, x2⟩⟩)⟩
        | true =>
          refine .inl ⟨UInt8.ofNat (16 * hxV s[k + 1] + hxV s[k + 2]), by rw [if_pos ⟨rfl, rfl⟩], hp', h2, x1, x2, ?_⟩
          have a1 := hexV_lt (s[k + 1].toNat : Int)
          have a2 := hexV_lt (s[k + 2].toNat : Int)
          unfold hxV
          simp
          omega
    · refine .inr ⟨trip_short ?_, .inr (.inl ⟨hp', h2⟩)⟩
      rw [List.length_drop]
      have : s.data.toList.length = s.size := by simp
      omega
  · refine .inr ⟨?_, .inl ?_⟩
    · rw [e1]; exact trip_head hp
    · intro e
      exact hp (UInt8.toNat_inj.1 (by show s[k].toNat = 37; omega))

set_option maxHeartbeats 4000000 in
set_option maxRecDepth 100000 in
theorem rpdecode_any (s : ByteArray) (w : World) (hs : s.size ≤ 1099511627776) :
    Calls Try.prog 11 #[.string s] w fun e w' => e = .returned (.string ⟨(decP s.data.toList).toArray⟩) ∧ Below w.heap.size w w' := by
  go_enter Try.func11, Try.ntmps11
  go_wp2_with fail
  go_loopw [3, 4] (fun b i wr => ∃ (k : Nat) (o : List UInt8), k ≤ s.size ∧ i = .int .i64 k ∧ o.length ≤ k ∧ Hid (o ++ decP (s.data.toList.drop k) = decP s.data.toList) ∧ wr.ownsRow w.heap.size 5 1 b o.length (Lib.byteCells o) ∧ Below w.heap.size w wr) (fun _ i _ => s.size - (intOf i).toNat)
  case atStart => exact ⟨0, [], Nat.zero_le _, rfl, Nat.le_refl _, rfl, World.ownsRow_nil _ _ _ _, Below.refl _ _⟩
  case round =>
    obtain ⟨k, o, hk, rfl, hol, HO, hown, hb⟩ := hrel
    have hsz := hb.size
    by_cases hlt : k < s.size
    · have HD := Lib.hid (drop_cons s k hlt)
      have b0 := s[k].toNat_lt
      rcases trip_cases s k hlt with ⟨v, ht, hp, h2, x1, x2, hv⟩ | ⟨ht, hr⟩
      · have b1 := s[k + 1].toNat_lt
        have b2 := s[k + 2].toNat_lt
        have b3 := v.toNat_lt
        have HT := Lib.hid ht
        have HV := Lib.hid hv
        have hv2 : (16 * hexV (s[k + 1].toNat : Int) + hexV (s[k + 2].toNat : Int)) % 256 = (v.toNat : Int) := by rw [hv]; omega
        have HV2 := Lib.hid hv2
        have a1 := hexV_lt (s[k + 1].toNat : Int)
        have a2 := hexV_lt (s[k + 2].toNat : Int)
        clear ht hv hv2
        go_wp2_with fail
        refine (rhex_any _ _ (by omega) (by omega)).mono ?_
        rintro e w' ⟨rfl, rfl⟩
        rw [x1]
        go_wp2_with fail
        refine (rhex_any _ _ (by omega) (by omega)).mono ?_
        rintro e w' ⟨rfl, rfl⟩
        rw [x2]
        go_wp2_with (at_builtin; refine app1 rfl _ _ 31 rfl infoByte Try.underlying31 rfl (by decide) hown rfl rfl rfl (by omega) hsz ?_; intro v' w' hown' hg hbw)
        rw [HV.out] at hown'
        go_roundw
        case rel =>
          refine ⟨k + 3, o ++ [v], by omega, by go_num, by simp; omega, ?_, ?_, hb.trans hbw⟩
          · show (o ++ [v]) ++ _ = _
            rw [← HO.out, HD.out, decP_some (x := s[k]) rfl (by rw [← HD.out]; exact HT.out)]
            simp
          · rw [Lib.byteCells_append, List.length_append]
            exact hown'
        case measure => simp [intOf]; omega
      · have HT := Lib.hid ht
        clear ht
        have FIN : Hid (∀ b' (w2 : World), w2.ownsRow w.heap.size 5 1 b' (o.length + 1) (Lib.byteCells o ++ [.int .u8 (s[k].toNat : Int)]) → Below w.heap.size w w2 → ∃ (j : Nat) (o' : List UInt8), j ≤ s.size ∧ Value.int .i64 ((k : Int) + 1) = .int .i64 j ∧ o'.length ≤ j ∧ Hid (o' ++ decP (s.data.toList.drop j) = decP s.data.toList) ∧ w2.ownsRow w.heap.size 5 1 b' o'.length (Lib.byteCells o') ∧ Below w.heap.size w w2) := by
          intro b' w2 ho hbw
          refine ⟨k + 1, o ++ [s[k]], by omega, by go_num, by simp; omega, ?_, ?_, hbw⟩
          · show (o ++ [s[k]]) ++ _ = _
            rw [← HO.out, HD.out, decP_none (by rw [← HD.out]; exact HT.out)]
            simp
          · rw [Lib.byteCells_append, List.length_append]
            exact ho
        clear HO HT
        rcases hr with hp | ⟨hp, h2⟩ | ⟨hp, h2, x1 | ⟨x1, x2⟩⟩
        · go_wp2_with (at_builtin; refine app1 rfl _ _ 31 rfl infoByte Try.underlying31 rfl (by decide) hown rfl rfl rfl (by omega) hsz ?_; intro v' w' hown' hg hbw)
          go_roundw
          case rel => exact FIN.out _ _ hown' (hb.trans hbw)
          case measure => simp [intOf]; omega
        · go_wp2_with (at_builtin; refine app1 rfl _ _ 31 rfl infoByte Try.underlying31 rfl (by decide) hown rfl rfl rfl (by omega) hsz ?_; intro v' w' hown' hg hbw)
          rw [← hp] at hown'
          go_roundw
          case rel => exact FIN.out _ _ hown' (hb.trans hbw)
          case measure => simp [intOf]; omega
        all_goals
          have b1 := s[k + 1].toNat_lt
          have b2 := s[k + 2].toNat_lt
          go_wp2_with fail
          refine (rhex_any _ _ (by omega) (by omega)).mono ?_
          rintro e w' ⟨rfl, rfl⟩
          rw [x1]
          go_wp2_with fail
          refine (rhex_any _ _ (by omega) (by omega)).mono ?_
          rintro e w' ⟨rfl, rfl⟩
          try rw [x2]
          go_wp2_with (at_builtin; refine app1 rfl _ _ 31 rfl infoByte Try.underlying31 rfl (by decide) hown rfl rfl rfl (by omega) hsz ?_; intro v' w' hown' hg hbw)
          rw [← hp] at hown'
          go_roundw
          case rel => exact FIN.out _ _ hown' (hb.trans hbw)
          case measure => simp [intOf]; omega
    · have e : s.data.toList.drop k = [] := List.drop_eq_nil_of_le (by simp; omega)
      have hO : o = decP s.data.toList := by
        have := HO.out
        rwa [e, decP_nil, List.append_nil] at this
      rw [hO] at hown
      clear HO hO hol
      have hcv := conv_own Try.underlying31 Try.underlying5 Try.underlying9 hown
      go_wp2
      go_ret
      exact ⟨rfl, hb⟩
end Go.Proofs.Ytfbmabbehiicmaa
