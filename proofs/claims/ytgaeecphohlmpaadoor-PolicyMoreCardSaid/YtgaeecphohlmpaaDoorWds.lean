/- lazaretlaw24.Words: are two lists of texts the same? -/
import Derived.Test.YtgaeecphohlmpaaDoorFls
set_option linter.unusedVariables false
namespace Go.Proofs.YtgaeecphohlmpaaDoor
open Go.RowKit

theorem words_cons {a b : List (List UInt8)} (hl : a.length = b.length) (h : ∀ i x y, i < a.length → a[i]? = some x → b[i]? = some y → x = y) : a = b := by
  apply List.ext_getElem hl
  intro i h1 h2
  exact h i _ _ h1 (List.getElem?_eq_getElem h1) (List.getElem?_eq_getElem h2)

set_option maxHeartbeats 1600000 in
theorem words_any (va vb : Value) (a b : List (List UInt8)) (w : World) (ha : SliceIn w va (strCells a)) (hb : SliceIn w vb (strCells b)) :
    Calls Tryd.prog 19 #[va, vb] w fun e w' => e = .returned (.bool (a == b)) ∧ Below w.heap.size w w' := by
  have hla : a.length ≤ maxLen := by obtain ⟨_, _, _, h1, h2, _⟩ := ha; rw [strCells_len] at h1; omega
  unfold maxLen at hla
  have sha : ∃ o c, va = .slice o a.length c := by obtain ⟨o, c, h, _⟩ := ha; rw [strCells_len] at h; exact ⟨o, c, h⟩
  have shb : ∃ o c, vb = .slice o b.length c := by obtain ⟨o, c, h, _⟩ := hb; rw [strCells_len] at h; exact ⟨o, c, h⟩
  obtain ⟨oa, ca, rfl⟩ := sha
  obtain ⟨ob, cb, rfl⟩ := shb
  by_cases hl : a.length = b.length
  · have hle : ((a.length : Int) != (b.length : Int)) = false := by simp [hl]
    have HL := Lib.hid hl
    clear hl
    go_enter Tryd.func19, Tryd.ntmps19
    go_wp2_with fail
    go_loopw [5] (fun i wr => ∃ j : Nat, j ≤ a.length ∧ i = .int .i64 j ∧ Hid (∀ c x y, c < j → a[c]? = some x → b[c]? = some y → x = y) ∧ Below w.heap.size w wr) (fun i _ => a.length - (intOf i).toNat)
    case atStart => exact ⟨0, Nat.zero_le _, rfl, by intro c x y h; omega, Below.refl _ w⟩
    case round =>
      obtain ⟨j, hj, rfl, hno, hbw⟩ := hrel
      by_cases hlt : j < a.length
      · have hlt2 : j < b.length := by have := HL.out; omega
        obtain ⟨b1, o1, c1, e1, l1, r1⟩ := (ha.below hbw).at (i := j) (by rw [strCells_len]; exact hlt)
        obtain ⟨b2, o2, c2, e2, l2, r2⟩ := (hb.below hbw).at (i := j) (by rw [strCells_len]; exact hlt2)
        rw [strCells_len] at e1 e2
        injection e1 with f1 f2 f3
        injection e2 with g1 g2 g3
        subst f1 f3 g1 g3
        have x1 : (strCells a)[j]'(by rw [strCells_len]; exact hlt) = .string ⟨a[j].toArray⟩ := by simp [strCells]
        have x2 : (strCells b)[j]'(by rw [strCells_len]; exact hlt2) = .string ⟨b[j].toArray⟩ := by simp [strCells]
        rw [x1] at r1
        rw [x2] at r2
        have hja : a[j]? = some a[j] := List.getElem?_eq_getElem hlt
        have hjb : b[j]? = some b[j] := List.getElem?_eq_getElem hlt2
        have hi2 : (j : Int) < (b.length : Int) := by omega
        by_cases heq : a[j] = b[j]
        · have hq : (a[j] == b[j]) = true := by rw [heq]; exact beq_self_eq_true _
          have hno2 : Hid (∀ c x y, c < j + 1 → a[c]? = some x → b[c]? = some y → x = y) := by
            intro c x y hc h1 h2
            by_cases e : c = j
            · subst e
              rw [hja] at h1
              rw [hjb] at h2
              injection h1 with h1
              injection h2 with h2
              rw [← h1, ← h2]
              exact heq
            · exact hno.out c x y (by omega) h1 h2
          clear heq hja hjb
          go_wp2_with fail
          go_region
          all_goals go_wp2_with fail
          all_goals go_roundw
          all_goals first
            | exact ⟨j + 1, by omega, by go_num, hno2.out, hbw.drew⟩
            | (refine ⟨_, _, _, _, _, _, _, _, _, _, _, _, _, _, _, _, _, ⟨j + 1, by omega, by go_num, hno2.out, hbw.drew⟩, rfl⟩; done)
            | (simp [intOf]; omega)
        · have hq : (a[j] == b[j]) = false := by
            rw [beq_eq_false_iff_ne]
            exact heq
          have hab : Hid ((a == b) = false) := by
            show (a == b) = false
            rw [beq_eq_false_iff_ne]
            rintro rfl
            exact heq rfl
          clear heq hja hjb
          go_wp2_with fail
          go_region
          all_goals go_wp2_with fail
          all_goals go_ret
          all_goals exact ⟨by rw [hab.out]; exact rfl, hbw.drew⟩
      · have hab : Hid ((a == b) = true) := by
          show (a == b) = true
          rw [beq_iff_eq]
          exact words_cons HL.out fun i x y hi h1 h2 => hno.out i x y (by omega) h1 h2
        go_wp2_with fail
        go_ret
        exact ⟨by rw [hab.out]; exact rfl, hbw⟩
  · have hle : ((a.length : Int) != (b.length : Int)) = true := by
      rw [bne_iff_ne]
      omega
    have hab : Hid ((a == b) = false) := by
      show (a == b) = false
      rw [beq_eq_false_iff_ne]
      rintro rfl
      exact hl rfl
    clear hl
    go_enter Tryd.func19, Tryd.ntmps19
    go_wp2_with fail
    go_ret
    exact ⟨by rw [hab.out]; exact rfl, Below.refl _ w⟩
end Go.Proofs.YtgaeecphohlmpaaDoor
