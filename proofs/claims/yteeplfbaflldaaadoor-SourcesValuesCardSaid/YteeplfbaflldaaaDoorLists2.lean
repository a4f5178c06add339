/- Plain functions on lists of bytes for layer 2: fields, commas. No program. -/
import Derived.Test.YteeplfbaflldaaaDoorLists
namespace Go.Proofs.YteeplfbaflldaaaDoor

/-! Fields -/
def fStep (st : List (List UInt8) × List UInt8) (x : UInt8) : List (List UInt8) × List UInt8 :=
  if isSp x then (if st.2 = [] then st.1 else st.1 ++ [st.2], []) else (st.1, st.2 ++ [x])
def fEnd (st : List (List UInt8) × List UInt8) : List (List UInt8) := if st.2 = [] then st.1 else st.1 ++ [st.2]
def fRun (l : List UInt8) : List (List UInt8) × List UInt8 := l.foldl fStep ([], [])
def fieldsL (l : List UInt8) : List (List UInt8) := fEnd (fRun l)
theorem fRun_snoc (l : List UInt8) (x : UInt8) : fRun (l ++ [x]) = fStep (fRun l) x := by simp [fRun]
theorem fRun_take (s : ByteArray) (k : Nat) (h : k < s.size) : fRun (s.data.toList.take (k + 1)) = fStep (fRun (s.data.toList.take k)) s[k] := by
  rw [take_snoc s k h, fRun_snoc]
theorem fStep_len (st : List (List UInt8) × List UInt8) (x : UInt8) : (fStep st x).1.length + (fStep st x).2.length ≤ st.1.length + st.2.length + 1 := by
  unfold fStep
  split
  · split
    · simp only [List.length_nil]; omega
    · have : st.2.length ≠ 0 := by simpa
      simp only [List.length_append, List.length_cons, List.length_nil]; omega
  · simp only [List.length_append, List.length_cons, List.length_nil]; omega
theorem fFold_len (l : List UInt8) : ∀ st, (l.foldl fStep st).1.length + (l.foldl fStep st).2.length ≤ st.1.length + st.2.length + l.length := by
  induction l with
  | nil => intro st; simp
  | cons x l ih =>
    intro st
    have h1 := ih (fStep st x)
    have h2 := fStep_len st x
    simp only [List.foldl_cons, List.length_cons]
    omega
theorem fRun_len (l : List UInt8) : (fRun l).1.length + (fRun l).2.length ≤ l.length := by
  have := fFold_len l ([], [])
  simpa [fRun] using this
end Go.Proofs.YteeplfbaflldaaaDoor
