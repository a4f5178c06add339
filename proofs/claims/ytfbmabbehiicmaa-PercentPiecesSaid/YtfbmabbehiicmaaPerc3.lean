/- percent.Decode. -/
import Derived.Test.YtfbmabbehiicmaaPerc2
set_option linter.unusedVariables false
namespace Go.Proofs.Ytfbmabbehiicmaa
open Go.RowKit

theorem trip_len {l : List UInt8} {v : UInt8} (h : trip l = some v) : 3 ≤ l.length := by
  by_cases hl : l.length < 3
  · rw [trip_short hl] at h; cases h
  · omega
theorem ext_all (s : ByteArray) (k : Nat) : (s.extract k s.size).data.toList = s.data.toList.drop k := by
  rw [ByteArray.data_extract, Array.toList_extract, List.extract_eq_take_drop, List.take_of_length_le]
  simp
theorem drop_cons (s : ByteArray) (k : Nat) (h : k < s.size) : s.data.toList.drop k = s[k] :: s.data.toList.drop (k + 1) := by
  rw [List.drop_eq_getElem_cons (by simpa using h)]
  rfl

set_option maxHeartbeats 2000000 in
set_option maxRecDepth 100000 in
theorem pdecode_any (s : ByteArray) (w : World) (hs : s.size ≤ 1099511627776) :
    Calls Try.prog 10 #[.string s] w fun e w' => e = .returned (.string ⟨(decP s.data.toList).toArray⟩) ∧ Below w.heap.size w w' := by
  go_enter Try.func10, Try.ntmps10
  go_wp2_with fail
  go_loopw [4] (fun i wr => ∃ (k : Nat) (o : List UInt8), k ≤ s.size ∧ i = .int .i64 k ∧ o.length ≤ k ∧ Hid (o ++ decP (s.data.toList.drop k) = decP s.data.toList) ∧ IsB w.heap.size w.heap.size (Lib.byteCells o) wr ∧ Below w.heap.size w wr) (fun i _ => s.size - (intOf i).toNat)
  case atStart =>
    exact ⟨0, [], Nat.zero_le _, rfl, Nat.le_refl _, rfl, Lib.IsBuilderF.of (Lib.fresh_isBuilder 33 5 w), (Below.refl _ w).alloc (Nat.le_refl _) _⟩
  case round =>
    obtain ⟨k, o, hk, rfl, hol, HO, hI, hb⟩ := hrel
    have hsz := hb.size
    have hlen : (Lib.byteCells o).length ≤ k := by rw [Lib.byteCells_length]; exact hol
    by_cases hlt : k < s.size
    · have HD := Lib.hid (drop_cons s k hlt)
      have hx : (s.extract k s.size).data.toList = s.data.toList.drop k := by
        rw [ext_all]
      have hxs : (s.extract k s.size).size ≤ 1099511627776 := by rw [ByteArray.size_extract]; omega
      have HX := Lib.hid hx
      clear hx
      cases ht : trip (s.data.toList.drop k) with
      | some v =>
        have hl := trip_len ht
        rw [List.length_drop] at hl
        have hl' : k + 3 ≤ s.size := by
          have : s.data.toList.length = s.size := by simp
          omega
        have HT := Lib.hid ht
        clear ht hl
        go_wp2_with fail
        refine (triple_any _ _ hxs).mono ?_
        rintro e w' ⟨⟨v', rfl, hv⟩, rfl⟩
        rw [HX.out, HT.out]
        rw [HX.out] at hv
        obtain rfl := hv v HT.out
        clear hv
        rw [show (some v).isSome = true from rfl]
        go_wp2_with fail
        refine (writeByte_k w.heap.size w.heap.size _ _ _ hI (by omega) hsz).mono ?_
        rintro e W1 ⟨rfl, h1, b1, k1⟩
        go_wp2_with fail
        go_roundw
        case rel =>
          refine ⟨k + 3, o ++ [v], by omega, by go_num, by simp; omega, ?_, ?_, hb.trans b1⟩
          · show (o ++ [v]) ++ _ = _
            rw [← HO.out, HD.out, decP_some (x := s[k]) rfl (by rw [← HD.out]; exact HT.out)]
            simp
          · rw [Lib.byteCells_append]
            exact h1
        case measure => simp [intOf]; omega
      | none =>
        have HT := Lib.hid ht
        clear ht
        go_wp2_with fail
        refine (triple_any _ _ hxs).mono ?_
        rintro e w' ⟨⟨v', rfl, hv⟩, rfl⟩
        rw [HX.out, HT.out]
        clear hv
        rw [show (none : Option UInt8).isSome = false from rfl]
        go_wp2_with fail
        refine (writeByte_k w.heap.size w.heap.size _ _ _ hI (by omega) hsz).mono ?_
        rintro e W1 ⟨rfl, h1, b1, k1⟩
        go_wp2_with fail
        go_roundw
        case rel =>
          refine ⟨k + 1, o ++ [s[k]], by omega, by go_num, by simp; omega, ?_, ?_, hb.trans b1⟩
          · show (o ++ [s[k]]) ++ _ = _
            rw [← HO.out, HD.out, decP_none (by rw [← HD.out]; exact HT.out)]
            simp
          · rw [Lib.byteCells_append]
            exact h1
        case measure => simp [intOf]; omega
    · go_wp2_with fail
      refine (Try.Builder_String_any_k w.heap.size w.heap.size o _ hI (by omega)).mono ?_
      rintro e W1 ⟨rfl, _, b1, _⟩
      go_wp2
      go_ret
      have e : s.data.toList.drop k = [] := List.drop_eq_nil_of_le (by simp; omega)
      have := HO.out
      rw [e, decP_nil, List.append_nil] at this
      rw [this]
      exact ⟨rfl, hb.trans b1⟩
end Go.Proofs.Ytfbmabbehiicmaa
