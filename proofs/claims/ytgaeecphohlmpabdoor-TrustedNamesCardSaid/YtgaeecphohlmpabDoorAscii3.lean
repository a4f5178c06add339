/- The contracts of Fields: the program's and the document's. -/
import Derived.Test.YtgaeecphohlmpabDoorAscii2
import Derived.Test.YtgaeecphohlmpabDoorLists2
set_option linter.unusedVariables false
namespace Go.Proofs.YtgaeecphohlmpabDoor
open Go.RowKit

theorem infoStr : (Tryd.prog.info? 9).map (fun i => (i.zero, i.size, i.bytes)) = some (some (.string ⟨#[]⟩), 1, 16) := by kernel_rfl
theorem empty_t {t : ByteArray} {l : List UInt8} (h : t.data.toList = l) (e : l = []) : t.toList.isEmpty = true := by
  rw [ByteArray.toList_eq, h, e]; rfl
theorem empty_f {t : ByteArray} {l : List UInt8} (h : t.data.toList = l) (e : l ≠ []) : t.toList.isEmpty = false := by
  rw [ByteArray.toList_eq, h]; simpa using e
theorem str_of {t : ByteArray} {l : List UInt8} (h : t.data.toList = l) : Value.string t = .string ⟨l.toArray⟩ := by
  subst h; simp
theorem fStep_sp {st : List (List UInt8) × List UInt8} {x : UInt8} (h : isSp x = true) : fStep st x = (fEnd st, []) := by
  simp [fStep, fEnd, h]
theorem fStep_not {st : List (List UInt8) × List UInt8} {x : UInt8} (h : isSp x = false) : fStep st x = (st.1, st.2 ++ [x]) := by
  simp [fStep, h]
theorem fEnd_nil {st : List (List UInt8) × List UInt8} (h : st.2 = []) : fEnd st = st.1 := by simp [fEnd, h]
theorem fEnd_not {st : List (List UInt8) × List UInt8} (h : st.2 ≠ []) : fEnd st = st.1 ++ [st.2] := by simp [fEnd, h]
theorem add_one (t s : ByteArray) (k : Nat) (h : k < s.size) : (t ++ s.extract k (k + 1)).data.toList = t.data.toList ++ [s[k]] := by
  rw [ByteArray.data_append, Array.toList_append, ext_toList]
  congr 1
  have hk : k < s.data.toList.length := by simpa using h
  rw [List.drop_eq_getElem_cons hk]
  simp
  rfl

end Go.Proofs.YtgaeecphohlmpabDoor
