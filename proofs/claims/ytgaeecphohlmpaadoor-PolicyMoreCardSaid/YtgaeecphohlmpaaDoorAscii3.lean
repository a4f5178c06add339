/- The contracts of Fields: the program's and the document's. -/
import Derived.Test.YtgaeecphohlmpaaDoorAscii2
import Derived.Test.YtgaeecphohlmpaaDoorLists2
set_option linter.unusedVariables false
namespace Go.Proofs.YtgaeecphohlmpaaDoor
open Go.RowKit

theorem infoStr : (Tryd.prog.info? 9).map (fun i => (i.zero, i.size, i.bytes)) = some (some (.string ⟨#[]⟩), 1, 16) := by kernel_rfl
theorem empty_t {t : ByteArray} {l : List UInt8} (h : t.data.toList = l) (e : l = []) : t.toList.isEmpty = true := by
  rw [ByteArray.toList_eq, h, e]; rfl
theorem empty_f {t : ByteArray} {l : List UInt8} (h : t.data.toList = l) (e : l ≠ []) : t.toList.isEmpty = false := by
  rw [ByteArray.toList_eq, h]; simpa using e
theorem str_of {t : ByteArray} {l : List UInt8} (h : t.data.toList = l) : Value.string t = .string ⟨l.toArray⟩ := by
  subst h; simp
theorem fStep_sp {st : List (List UInt8) × List UInt8} {x : UInt8} (h : isSp x = true) : fStep st x = (fEnd st, []) := by
  simp [fStep, fEnd, h]
theorem fStep_not {st : List (List UInt8) × List UInt8} {x : UInt8} (h : isSp x = false) : fStep st x = (st.1, st.2 ++ [x]) := by
  simp [fStep, h]
theorem fEnd_nil {st : List (List UInt8) × List UInt8} (h : st.2 = []) : fEnd st = st.1 := by simp [fEnd, h]
theorem fEnd_not {st : List (List UInt8) × List UInt8} (h : st.2 ≠ []) : fEnd st = st.1 ++ [st.2] := by simp [fEnd, h]
theorem add_one (t s : ByteArray) (k : Nat) (h : k < s.size) : (t ++ s.extract k (k + 1)).data.toList = t.data.toList ++ [s[k]] := by
  rw [ByteArray.data_append, Array.toList_append, ext_toList]
  congr 1
  have hk : k < s.data.toList.length := by simpa using h
  rw [List.drop_eq_getElem_cons hk]
  simp
  rfl

set_option maxHeartbeats 1000000 in
set_option maxRecDepth 100000 in
theorem rfields_any (s : ByteArray) (w : World) (hs : s.size ≤ 1073741824) :
    Calls Tryd.prog 47 #[.string s] w fun e w' => (∃ v, e = .returned v ∧ w'.ownsRow w.heap.size 9 1 v (fieldsL s.data.toList).length (strCells (fieldsL s.data.toList))) ∧ Below w.heap.size w w' := by
  go_enter Tryd.func47, Tryd.ntmps47
  go_wp2
  go_loopw [3, 4, 5] (fun b p i wr => ∃ (k : Nat) (t : ByteArray), k ≤ s.size ∧ i = .int .i64 k ∧ p = .string t ∧ Hid (t.data.toList = (fRun (s.data.toList.take k)).2) ∧ wr.ownsRow w.heap.size 9 1 b (fRun (s.data.toList.take k)).1.length (strCells (fRun (s.data.toList.take k)).1) ∧ Below w.heap.size w wr) (fun _ _ i _ => s.size - (intOf i).toNat)
  case atStart => exact ⟨0, ⟨#[]⟩, Nat.zero_le _, rfl, rfl, rfl, World.ownsRow_nil _ _ _ _, Below.refl _ _⟩
  case round =>
    obtain ⟨k, t, hk, rfl, rfl, ht, hown, hb⟩ := hrel
    have hsz := hb.size
    have hlen := fRun_len (s.data.toList.take k)
    have hlk : (s.data.toList.take k).length ≤ s.size := by simp; omega
    have hts : t.size ≤ s.size := by
      have := congrArg List.length ht.out
      simp at this
      omega
    generalize hF : fRun (s.data.toList.take k) = F at *
    by_cases hlt : k < s.size
    · have HS : Hid (fRun (s.data.toList.take (k + 1)) = fStep F s[k]) := by rw [← hF]; exact fRun_take s k hlt
      clear hF
      by_cases hc : spI (s[k].toNat : Int) = true
      · have HU : Hid (fRun (s.data.toList.take (k + 1)) = (fEnd F, [])) := by rw [HS.out]; exact fStep_sp hc
        by_cases h0 : F.2 = []
        · have hE := empty_t ht.out h0
          have HE := Lib.hid (fEnd_nil h0)
          clear h0
          go_wp2_with (go_at_call 60; refine (rspace_any _ _).mono ?_; rintro e w' ⟨rfl, rfl⟩)
          go_roundw
          case rel => exact ⟨k + 1, ⟨#[]⟩, by omega, by go_num, rfl, by rw [HU.out]; rfl, by rw [HU.out, HE.out]; exact hown, hb⟩
          case measure => simp [intOf]; omega
        · have hE := empty_f ht.out h0
          have HE := Lib.hid (fEnd_not h0)
          clear h0
          go_wp2_with (first
            | (go_at_call 60; refine (rspace_any _ _).mono ?_; rintro e w' ⟨rfl, rfl⟩)
            | (at_builtin; refine app1 rfl _ _ 23 rfl infoStr Tryd.underlying23 rfl (by decide) hown rfl rfl rfl (by omega) hsz ?_; intro v' w' hown' hg hbw))
          go_roundw
          case rel =>
            refine ⟨k + 1, ⟨#[]⟩, by omega, by go_num, rfl, by rw [HU.out]; rfl, ?_, hb.trans hbw⟩
            rw [HU.out, HE.out, strCells_append]
            simpa [str_of ht.out, strCells] using hown'
          case measure => simp [intOf]; omega
      · have hc' : spI (s[k].toNat : Int) = false := by simpa using hc
        have HU : Hid (fRun (s.data.toList.take (k + 1)) = (F.1, F.2 ++ [s[k]])) := by rw [HS.out]; exact fStep_not hc'
        clear hc
        go_wp2_with (go_at_call 60; refine (rspace_any _ _).mono ?_; rintro e w' ⟨rfl, rfl⟩)
        go_roundw
        case rel => exact ⟨k + 1, _, by omega, by go_num, rfl, by rw [HU.out, add_one _ _ _ hlt, ht.out]; rfl, by rw [HU.out]; exact hown, hb⟩
        case measure => simp [intOf]; omega
    · have e : s.data.toList.take k = s.data.toList := List.take_of_length_le (by simp; omega)
      have HF : Hid (fieldsL s.data.toList = fEnd F) := by rw [← hF, e]; rfl
      clear hF e
      by_cases h0 : F.2 = []
      · have hE := empty_t ht.out h0
        have HE := Lib.hid (fEnd_nil h0)
        clear h0
        go_wp2
        go_ret
        exact ⟨⟨_, rfl, by rw [HF.out, HE.out]; exact hown⟩, hb⟩
      · have hE := empty_f ht.out h0
        have HE := Lib.hid (fEnd_not h0)
        clear h0
        go_wp2_with (at_builtin; refine app1 rfl _ _ 23 rfl infoStr Tryd.underlying23 rfl (by decide) hown rfl rfl rfl (by omega) hsz ?_; intro v' w' hown' hg hbw)
        go_ret
        refine ⟨⟨_, rfl, ?_⟩, hb.trans hbw⟩
        rw [HF.out, HE.out, strCells_append]
        simpa [str_of ht.out, strCells] using hown'
end Go.Proofs.YtgaeecphohlmpaaDoor
