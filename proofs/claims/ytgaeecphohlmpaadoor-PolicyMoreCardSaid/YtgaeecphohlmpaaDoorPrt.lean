/- lazaretref24.part: a text at a byte. -/
import Derived.Test.YtgaeecphohlmpaaDoorAscii4
import Derived.Test.YtgaeecphohlmpaaDoorMor
import Derived.Deep.Cut
set_option linter.unusedVariables false
namespace Go.Proofs.YtgaeecphohlmpaaDoor
open Go.RowKit

def pStep (c : UInt8) (st : List (List UInt8) × List UInt8) (x : UInt8) : List (List UInt8) × List UInt8 := if x = c then (st.1 ++ [st.2], []) else (st.1, st.2 ++ [x])
def pRun (c : UInt8) (l : List UInt8) : List (List UInt8) × List UInt8 := l.foldl (pStep c) ([], [])
theorem pRun_gen (c : UInt8) : ∀ (l : List UInt8) (st : List (List UInt8) × List UInt8), ∃ p ps, spl c l = p :: ps ∧ (l.foldl (pStep c) st).1 ++ [(l.foldl (pStep c) st).2] = st.1 ++ (st.2 ++ p) :: ps
  | [], st => ⟨[], [], rfl, by simp⟩
  | x :: r, st => by
    obtain ⟨p, ps, h1, h2⟩ := pRun_gen c r (pStep c st x)
    rw [spl_cons]
    by_cases hx : x = c
    · rw [if_pos hx]
      refine ⟨[], spl c r, rfl, ?_⟩
      rw [List.foldl_cons, h2, h1]
      simp [pStep, hx]
    · rw [if_neg hx, h1]
      refine ⟨x :: p, ps, rfl, ?_⟩
      rw [List.foldl_cons, h2]
      simp [pStep, hx]
theorem pRun_spl (c : UInt8) (l : List UInt8) : spl c l = (pRun c l).1 ++ [(pRun c l).2] := by
  obtain ⟨p, ps, h1, h2⟩ := pRun_gen c l ([], [])
  unfold pRun
  rw [h2, h1]
  rfl
theorem pRun_take (c : UInt8) (s : ByteArray) (k : Nat) (h : k < s.size) : pRun c (s.data.toList.take (k + 1)) = pStep c (pRun c (s.data.toList.take k)) s[k] := by
  unfold pRun
  rw [take_snoc s k h, List.foldl_append]
  rfl
theorem pRun_len (c : UInt8) (l : List UInt8) : (pRun c l).1.length ≤ l.length := by
  have h := spl_len c l
  rw [pRun_spl] at h
  simp at h
  omega
theorem strCells_cat (a b : List (List UInt8)) : strCells (a ++ b) = strCells a ++ strCells b := by simp [strCells]
theorem ext_str (s : ByteArray) (a b : Nat) {p : List UInt8} (h : (s.data.toList.take b).drop a = p) : Value.string (s.extract a b) = .string ⟨p.toArray⟩ := by
  have := ext_dt s a b
  rw [h] at this
  rw [of_lst this]

set_option maxHeartbeats 1600000 in
set_option maxRecDepth 100000 in
theorem rpart_any (s : ByteArray) (c : UInt8) (w : World) (hs : s.size ≤ 1073741824) :
    Calls Tryd.prog 46 #[.string s, .int .u8 (c.toNat : Int)] w fun e w' => (∃ v, e = .returned v ∧ w'.ownsRow w.heap.size 9 1 v (spl c s.data.toList).length (strCells (spl c s.data.toList))) ∧ Below w.heap.size w w' := by
  go_enter Tryd.func46, Tryd.ntmps46
  go_wp2_with fail
  go_loopw [5, 6, 7] (fun o f i wr => ∃ (k fr : Nat), k ≤ s.size ∧ fr ≤ k ∧ i = .int .i64 k ∧ f = .int .i64 fr ∧ Hid ((s.data.toList.take k).drop fr = (pRun c (s.data.toList.take k)).2) ∧ wr.ownsRow w.heap.size 9 1 o (pRun c (s.data.toList.take k)).1.length (strCells (pRun c (s.data.toList.take k)).1) ∧ Below w.heap.size w wr) (fun _ _ i _ => s.size - (intOf i).toNat)
  case atStart => exact ⟨0, 0, Nat.zero_le _, Nat.le_refl _, rfl, rfl, rfl, World.ownsRow_nil _ _ _ _, Below.refl _ _⟩
  case round =>
    obtain ⟨k, fr, hk, hfr, rfl, rfl, HP, hown, hb⟩ := hrel
    have hsz := hb.size
    have hpl := pRun_len c (s.data.toList.take k)
    have htk : (s.data.toList.take k).length ≤ k := List.length_take_le _ _
    have HB := Lib.hid hb
    clear hb
    by_cases hlt : k < s.size
    · have hki : (k : Int) < s.size := by omega
      have HT := Lib.hid (pRun_take c s k hlt)
      by_cases hx : s[k] = c
      · have hq : ((s[k].toNat : Int) == (c.toNat : Int)) = true := by rw [hx]; simp
        have H1 : Hid (pRun c (s.data.toList.take (k + 1)) = ((pRun c (s.data.toList.take k)).1 ++ [(pRun c (s.data.toList.take k)).2], [])) := by
          show _ = _
          rw [HT.out]; unfold pStep; rw [if_pos hx]
        have HE : Hid (strCells ((pRun c (s.data.toList.take k)).1 ++ [(pRun c (s.data.toList.take k)).2]) = strCells (pRun c (s.data.toList.take k)).1 ++ [.string (s.extract fr k)]) := by
          show _ = _
          rw [strCells_cat, ext_str s fr k HP.out]; rfl
        have hfri : (fr : Int) ≤ k := by omega
        generalize hO : (pRun c (s.data.toList.take k)).1 = O at *
        clear hx HT
        have hn : O.length + 1 ≤ 1099511627776 := by omega
        go_wp2_with (at_builtin; refine app1 rfl _ _ 23 rfl infoStr Tryd.underlying23 rfl (by decide) hown rfl rfl rfl hn hsz ?_; intro v1 w1 hown1 hg1 hbw1)
        go_roundw
        case rel =>
          refine ⟨k + 1, k + 1, by omega, Nat.le_refl _, by go_num, by go_num, ?_, ?_, HB.out.trans hbw1⟩
          · show _ = _
            rw [H1.out]
            simp
          · rw [H1.out, HE.out, List.length_append]
            exact hown1
        case measure => simp [intOf]; omega
      · have hq : ((s[k].toNat : Int) == (c.toNat : Int)) = false := by
          rw [beq_eq_false_iff_ne]
          intro e
          exact hx (UInt8.toNat_inj.1 (by omega))
        have H1 : Hid (pRun c (s.data.toList.take (k + 1)) = ((pRun c (s.data.toList.take k)).1, (pRun c (s.data.toList.take k)).2 ++ [s[k]])) := by
          show _ = _
          rw [HT.out]; unfold pStep; rw [if_neg hx]
        have HX : Hid ((s.data.toList.take (k + 1)).drop fr = (pRun c (s.data.toList.take k)).2 ++ [s[k]]) := by
          show _ = _
          rw [take_snoc s k hlt, List.drop_append_of_le_length (by simp; omega), HP.out]
        clear hx HT
        go_wp2_with fail
        go_roundw
        case rel =>
          refine ⟨k + 1, fr, by omega, by omega, by go_num, rfl, ?_, ?_, HB.out⟩
          · show _ = _
            rw [H1.out, HX.out]
          · rw [H1.out]
            exact hown
        case measure => simp [intOf]; omega
    · have hkk : k = s.size := by omega
      have hta : s.data.toList.take k = s.data.toList := by rw [hkk]; exact List.take_of_length_le (by simp)
      rw [hta] at HP hown hpl
      have HE : Hid (strCells (spl c s.data.toList) = strCells (pRun c s.data.toList).1 ++ [.string (s.extract fr s.size)]) := by
        show _ = _
        have h2 : (s.data.toList.take s.size).drop fr = (pRun c s.data.toList).2 := by rw [← hkk, hta]; exact HP.out
        rw [pRun_spl, strCells_cat, ext_str s fr s.size h2]; rfl
      have HL : Hid ((spl c s.data.toList).length = (pRun c s.data.toList).1.length + 1) := by show _ = _; rw [pRun_spl]; simp
      have hfri : (fr : Int) ≤ s.size := by omega
      have hn : (pRun c s.data.toList).1.length + 1 ≤ 1099511627776 := by simp at hpl; omega
      clear hta
      go_wp2_with (at_builtin; refine app1 rfl _ _ 23 rfl infoStr Tryd.underlying23 rfl (by decide) hown rfl rfl rfl hn hsz ?_; intro v1 w1 hown1 hg1 hbw1)
      go_ret
      refine ⟨⟨_, by exact rfl, ?_⟩, HB.out.trans hbw1⟩
      rw [HE.out, HL.out]
      exact hown1
end Go.Proofs.YtgaeecphohlmpaaDoor
