/- texts.Decode. -/
import Derived.Test.YtfbmabbehiicmaaDoorUtf3
set_option linter.unusedVariables false
namespace Go.Proofs.YtfbmabbehiicmaaDoor
open Go.RowKit

/-- A builder of the call's own stands behind a call that leaves all of old. -/
theorem isB_below {B b : Nat} {bs : List Value} {w w' : World} (h : IsB B b bs w) (hb : Below w.heap.size w w') : IsB B b bs w' := by
  have key : ∀ {p : Value}, Lib.BuilderAtF 41 5 B b p bs w → Lib.BuilderAtF 41 5 B b p bs w' := by
    rintro p ⟨hB, v, h1, h2, h3⟩
    exact ⟨hB, v, (hb.block b (Array.getElem?_eq_some_iff.1 h1).1).trans h1, h2.kept (row := none) ⟨hb.os, hb.tape, hb.output, hb.size, fun k hk _ => hb.block k hk⟩ (by cases v.ownBlock <;> simp), h3⟩
  rcases h with h | h
  · exact .inl (key h)
  · exact .inr (key h)
theorem ext_allU (s : ByteArray) (k : Nat) : (s.extract k s.size).data.toList = s.data.toList.drop k := by
  rw [ByteArray.data_extract, Array.toList_extract, List.extract_eq_take_drop, List.take_of_length_le]
  simp
theorem ext_someU (s : ByteArray) (k n : Nat) : (s.extract k (k + n)).data.toList = (s.data.toList.drop k).take n := by
  rw [ext_toList]
  congr 1
  omega

set_option maxHeartbeats 4000000 in
set_option maxRecDepth 100000 in
theorem tdecode_any (b : ByteArray) (w : World) (hb : b.size ≤ 1099511627776) (hl : LTab w) :
    Calls Tryd.prog 12 #[.string b] w fun e w' => e = .returned (.string ⟨(textU b.data.toList).toArray⟩) ∧ Below w.heap.size w w' := by
  have HL := Lib.hid hl
  clear hl
  obtain ⟨s, hs⟩ : ∃ s : ByteArray, (⟨(Lib.trimPrefix b.data.toList (⟨#[239, 187, 191]⟩ : ByteArray).data.toList).toArray⟩ : ByteArray) = s := ⟨_, rfl⟩
  have hsl : Hid (s.data.toList = unmark b.data.toList) := by show s.data.toList = _; rw [← hs]; rfl
  have hsz : s.size ≤ 1099511627776 := by
    rw [← hs]
    show (Lib.trimPrefix _ _).toArray.size ≤ _
    rw [List.size_toArray]
    unfold Lib.trimPrefix
    have : b.data.toList.length = b.size := by simp
    split
    · rw [List.length_drop]; omega
    · omega
  have HS := Lib.hid hs
  clear hs
  go_enter Tryd.func12, Tryd.ntmps12
  go_wp2_with fail
  refine (Tryd.strings_TrimPrefix b _ _).mono ?_
  rintro e w' ⟨rfl, rfl⟩
  rw [HS.out]
  go_wp2_with fail
  go_loopw [4] (fun i wr => ∃ (k : Nat) (o : List UInt8), k ≤ s.size ∧ i = .int .i64 k ∧ o.length ≤ 3 * k ∧ Hid (o ++ decU (s.data.toList.drop k) = decU s.data.toList) ∧ IsB w'.heap.size w'.heap.size (Lib.byteCells o) wr ∧ Below w'.heap.size w' wr) (fun i _ => s.size - (intOf i).toNat)
  case atStart =>
    exact ⟨0, [], Nat.zero_le _, rfl, Nat.le_refl _, rfl, Lib.IsBuilderF.of (Lib.fresh_isBuilder 41 5 w'), (Below.refl _ w').alloc (Nat.le_refl _) _⟩
  case round =>
    obtain ⟨k, o, hk, rfl, hol, HO, hI, hbb⟩ := hrel
    have hsz2 := hbb.size
    by_cases hlt : k < s.size
    · have hx : Hid ((s.extract k s.size).data.toList = s.data.toList.drop k) := ext_allU s k
      have hxs : (s.extract k s.size).size ≤ 1099511627776 := by rw [ByteArray.size_extract]; omega
      have hln : Hid (s.data.toList.length = s.size) := by show s.data.toList.length = s.size; simp
      have hhd : Hid ((s.extract k s.size).data.toList.head? = some s[k]) := by
        show (s.extract k s.size).data.toList.head? = _
        rw [ext_allU, List.drop_eq_getElem_cons (by rw [hln.out]; exact hlt)]
        rfl
      have HLk := Lib.hid (HL.out.below hbb)
      go_wp2_with fail
      refine (piece_any _ s[k] _ hxs hhd.out HLk.out).mono ?_
      rintro e w1 ⟨⟨n, q, rfl, hn1, hn2, hn3⟩, b1⟩
      rw [hx.out] at hn2 hn3
      rw [List.length_drop, hln.out] at hn2
      have HN := Lib.hid hn3
      have hsz3 := Nat.le_trans hsz2 b1.size
      have hI1 : IsB w'.heap.size w'.heap.size (Lib.byteCells o) w1 := isB_below hI b1
      have hbb1 := hbb.trans (b1.mono hsz2)
      have hol2 : (Lib.byteCells o).length ≤ 3 * k := by rw [Lib.byteCells_length]; exact hol
      clear hn3
      cases q
      · go_wp2_with fail
        refine (writeString_k w'.heap.size w'.heap.size _ ⟨#[239, 191, 189]⟩ _ hI1 (by show _ + 3 ≤ _; omega) hsz3).mono ?_
        rintro e w2 ⟨rfl, h2, b2, k2⟩
        go_wp2_with fail
        go_roundw
        case rel =>
          refine ⟨k + n, o ++ repl, by omega, by go_num, by rw [List.length_append]; show _ + 3 ≤ _; omega, ?_, ?_, hbb1.trans b2⟩
          · show (o ++ repl) ++ _ = _
            have h := HN.out
            simp only [Bool.false_eq_true, if_false, List.drop_drop] at h
            rw [← HO.out, h, List.append_assoc]
          · rw [Lib.byteCells_append]
            exact h2
        case measure => simp [intOf]; omega
      · go_wp2_with fail
        refine (writeString_k w'.heap.size w'.heap.size _ (s.extract k (k + n)) _ hI1 (by rw [ByteArray.size_extract]; omega) hsz3).mono ?_
        rintro e w2 ⟨rfl, h2, b2, k2⟩
        go_wp2_with fail
        go_roundw
        case rel =>
          refine ⟨k + n, o ++ (s.data.toList.drop k).take n, by omega, by go_num, by rw [List.length_append, List.length_take]; omega, ?_, ?_, hbb1.trans b2⟩
          · show (o ++ (s.data.toList.drop k).take n) ++ _ = _
            have h := HN.out
            simp only [if_true, List.drop_drop] at h
            rw [← HO.out, h, List.append_assoc]
          · rw [Lib.byteCells_append, ← ext_someU]
            exact h2
        case measure => simp [intOf]; omega
    · go_wp2_with fail
      refine (Tryd.Builder_String_any_k w'.heap.size w'.heap.size o _ hI (by omega)).mono ?_
      rintro e W1 ⟨rfl, _, b1, _⟩
      go_wp2
      go_ret
      have e : s.data.toList.drop k = [] := List.drop_eq_nil_of_le (by simp; omega)
      have h := HO.out
      rw [e] at h
      have h2 : o = textU b.data.toList := by
        unfold textU
        rw [← hsl.out, ← h]
        simp [decU, runU]
      rw [h2]
      exact ⟨rfl, hbb.trans b1⟩
end Go.Proofs.YtfbmabbehiicmaaDoor
