/- The chapter's policies: what is told of them, closed. -/
import Derived.Test.YtgaeecphohlmpabDoorCre29
import Derived.Test.YtgaeecphohlmpabDoorOf29
set_option linter.unusedVariables false
namespace Go.Proofs.YtgaeecphohlmpabDoor
open Go.RowKit

def txA : List UInt8 := [116, 114, 117, 115, 116, 101, 100, 45, 116, 121, 112, 101, 115, 32, 97, 32, 39, 65, 108, 108, 111, 119, 45, 68, 117, 112, 108, 105, 99, 97, 116, 101, 115, 39, 32, 33]
def txN : List UInt8 := [116, 114, 117, 115, 116, 101, 100, 45, 116, 121, 112, 101, 115, 32, 39, 110, 111, 110, 101, 39]
def txR : List UInt8 := [114, 101, 113, 117, 105, 114, 101, 45, 116, 114, 117, 115, 116, 101, 100, 45, 116, 121, 112, 101, 115, 45, 102, 111, 114, 32, 39, 83, 67, 82, 73, 80, 84, 39]
def txX : List UInt8 := [116, 114, 117, 115, 116, 101, 100, 45, 116, 121, 112, 101, 115, 32, 120, 32, 121]
def txZ : List UInt8 := [116, 114, 117, 115, 116, 101, 100, 45, 116, 121, 112, 101, 115, 32, 120, 32, 121, 32, 122]
theorem litA_list : ((fndL (oneL txA) tttN).getD ([], [])).2.filter namL = [[97]] := by decide +kernel
theorem litA_star : ((fndL (oneL txA) tttN).getD ([], [])).2.any isStar = false := by decide +kernel
theorem litA_dup : ((fndL (oneL txA) tttN).getD ([], [])).2.any isDup = true := by decide +kernel
theorem litA_has : (fndL (oneL txA) tttN).isSome = true := by decide +kernel
theorem litA_a : creB (oneL txA) [97] [[97]] = true := by decide +kernel
theorem litA_b : creB (oneL txA) [98] [] = false := by decide +kernel
theorem litN_a : creB (oneL txN) [97] [] = false := by decide +kernel
theorem litN_n : creB (oneL txN) [39, 110, 111, 110, 101, 39] [] = false := by decide +kernel
theorem litR : reqB (oneL txR) = true := by decide +kernel
theorem oneX : oneL txX = [(tttN, [[120], [121]])] := by decide +kernel
theorem oneZ : oneL txZ = [(tttN, [[120], [121], [122]])] := by decide +kernel
/-- A name more lets no fewer be made. -/
theorem more_made (name : List UInt8) (there : List (List UInt8)) : (!(creB (oneL txX) name there) || creB (oneL txZ) name there) = true := by
  have e1 : fndL (oneL txX) tttN = some (tttN, [[120], [121]]) := by decide +kernel
  have e2 : fndL (oneL txZ) tttN = some (tttN, [[120], [121], [122]]) := by decide +kernel
  unfold creB
  rw [e1, e2]
  have f1 : (([[120], [121]] : List (List UInt8)).filter namL) = [[120], [121]] := by decide +kernel
  have f2 : (([[120], [121], [122]] : List (List UInt8)).filter namL) = [[120], [121], [122]] := by decide +kernel
  have d1 : (([[120], [121]] : List (List UInt8)).any isDup) = false := by decide +kernel
  have d2 : (([[120], [121], [122]] : List (List UInt8)).any isDup) = false := by decide +kernel
  have s1 : (([[120], [121]] : List (List UInt8)).any isStar) = false := by decide +kernel
  have s2 : (([[120], [121], [122]] : List (List UInt8)).any isStar) = false := by decide +kernel
  simp only [Option.getD_some, Option.isSome_some, f1, f2, d1, d2, s1, s2, List.any_cons, List.any_nil]
  generalize there.any (· == name) = X
  generalize (([120] : List UInt8) == name) = P
  generalize (([121] : List UInt8) == name) = Q
  generalize (([122] : List UInt8) == name) = R
  cases X <;> cases P <;> cases Q <;> cases R <;> rfl

/-! Mor's own lemmas, without layer 28. -/
theorem spl_more (d : UInt8) (a r : List UInt8) : spl d (a ++ d :: r) = spl d a ++ spl d r := by
  induction a with
  | nil => rw [List.nil_append, spl_cons, if_pos rfl]; rfl
  | cons x a ih =>
    rw [List.cons_append, spl_cons, spl_cons]
    split
    · rw [ih]; rfl
    · rw [ih]
      cases h : spl d a with
      | nil => exact absurd h (spl_ne d a)
      | cons y ys => rfl
theorem one_more (s t : List UInt8) (ht : (59 : UInt8) ∉ t) : oneL (s ++ 59 :: t) = addD (oneL s) t := by
  unfold oneL
  rw [spl_more, spl_none ht, List.foldl_append]
  rfl
theorem one_front (t s : List UInt8) (ht : (59 : UInt8) ∉ t) : oneL (t ++ 59 :: s) = (spl 59 s).foldl addD (addD [] t) := by
  unfold oneL
  rw [spl_more, spl_none ht, List.foldl_append]
  rfl
theorem fnd_addD {acc : List Dir} {p n : List UInt8} {d : Dir} (h : fndL acc n = some d) : fndL (addD acc p) n = some d := by
  unfold addD
  repeat' split
  · exact h
  · exact h
  · unfold fndL at *; rw [List.find?_append, h]; rfl
theorem fnd_foldD {n : List UInt8} {d : Dir} : ∀ (ps : List (List UInt8)) (acc : List Dir), fndL acc n = some d → fndL (ps.foldl addD acc) n = some d
  | [], acc, h => h
  | p :: ps, acc, h => fnd_foldD ps (addD acc p) (fnd_addD h)
def txS : List UInt8 := [114, 101, 113, 117, 105, 114, 101, 45, 116, 114, 117, 115, 116, 101, 100, 45, 116, 121, 112, 101, 115, 45, 102, 111, 114, 32, 39, 115, 99, 114, 105, 112, 116, 39, 32]
/-- A policy that asks for trusted scripts asks for them whatever else it has. -/
theorem req_front (s : List UInt8) : reqB (oneL (txS ++ 59 :: s)) = true := by
  have h0 : fndL (addD [] txS) reqN = some (reqN, [scrN]) := by decide +kernel
  have h1 : fndL (oneL (txS ++ 59 :: s)) reqN = some (reqN, [scrN]) := by
    rw [one_front _ _ (by decide)]
    exact fnd_foldD _ _ h0
  unfold reqB
  rw [h1]
  decide +kernel
end Go.Proofs.YtgaeecphohlmpabDoor
