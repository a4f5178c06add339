/- texts.follow. -/
import Derived.Test.YtfbmabbehiicmaaDoorUtf
import Derived.Test.YtfbmabbehiicmaaDoorBuild2
import Derived.Test.YtfbmabbehiicmaaDoorLists2
import Derived.Test.YtfbmabbehiicmaaDoorRow
set_option linter.unusedVariables false
namespace Go.Proofs.YtfbmabbehiicmaaDoor
open Go.RowKit

theorem may_one {f c : Int} (hf0 : 0 ≤ f) : mayI f c 1 = (decide (lowI f ≤ c) && decide (c ≤ highI f)) := by
  unfold mayI
  rw [Bool.eq_iff_iff]
  simp
  unfold lowI highI
  split <;> split <;> (try split) <;> omega
theorem may_more {f c k : Int} (hk : 1 < k) : mayI f c k = (decide (128 ≤ c) && decide (c ≤ 191)) := by
  unfold mayI
  rw [Bool.eq_iff_iff]
  simp
  omega
theorem below_drewM {B : Nat} {a w : World} (h : Below B a w) (n : Nat) : Below B a (w.drewN n) := ⟨h.os, h.tape, h.output, h.size, h.block⟩

/-- What 'piece' and 'follow' tell. -/
def PieceRes (l : List UInt8) (e : Ending) : Prop :=
  ∃ (n : Nat) (q : Bool), e = .returned (.tuple #[.int .i64 n, .bool q]) ∧ 1 ≤ n ∧ n ≤ l.length ∧ decU l = (if q = true then l.take n else repl) ++ decU (l.drop n)

set_option maxHeartbeats 4000000 in
set_option maxRecDepth 100000 in
theorem follow_any (s : ByteArray) (f : UInt8) (a b lo hi : Int) (m : Nat) (w : World) (hs : s.size ≤ 1099511627776) (hf : s.data.toList.head? = some f) (hm : moreI (f.toNat : Int) = (m : Int)) (hlo : lo = lowI (f.toNat : Int)) (hhi : hi = highI (f.toNat : Int)) :
    Calls Tryd.prog 40 #[.string s, .agg #[.int .u8 a, .int .u8 b, .int .u8 lo, .int .u8 hi, .int .i64 ((m : Int) + 1)]] w fun e w' => PieceRes s.data.toList e ∧ Below w.heap.size w w' := by
  have hm3 : m ≤ 3 := by unfold moreI at hm; split at hm <;> (try split at hm) <;> (try split at hm) <;> (try split at hm) <;> omega
  have hpos : 0 < s.size := by
    cases h : s.data.toList with
    | nil => rw [h] at hf; cases hf
    | cons x r =>
      have : s.data.toList.length = s.size := by simp
      rw [h] at this
      simp at this
      omega
  have hlb : 128 ≤ lo ∧ lo ≤ 160 := by subst hlo; unfold lowI; split <;> (try split) <;> omega
  have hhb : 143 ≤ hi ∧ hi ≤ 191 := by subst hhi; unfold highI; split <;> (try split) <;> omega
  have hM : (moreI (f.toNat : Int)).toNat = m := by rw [hm]; rfl
  have STEP := Lib.hid (fun n h1 h2 => piece_step hf n h1 h2)
  rw [hM] at STEP
  have H0 : Hid (decU s.data.toList = runU (s.data.toList.drop 1) (s.data.toList.take 1) (m + 1 - 1)) := by
    show decU s.data.toList = _
    cases h : s.data.toList with
    | nil => rw [h] at hf; cases hf
    | cons x r =>
      have hx : x = f := by rw [h] at hf; simpa using hf
      unfold decU
      rw [runU_first (by rw [hx, hm]; omega), hx, hM]
      rfl
  have M1 : Hid (∀ c : Int, mayI (f.toNat : Int) c 1 = (decide (lo ≤ c) && decide (c ≤ hi))) := by
    intro c
    rw [hlo, hhi]
    exact may_one (by omega)
  obtain ⟨x0, hx0⟩ : ∃ x0, w.alloc (.cells #[.int .u8 a, .int .u8 b, .int .u8 lo, .int .u8 hi, .int .i64 ((m : Int) + 1)] 59) = x0 := ⟨_, rfl⟩
  have hB0 : Hid (Below w.heap.size w x0) := by rw [← hx0]; exact (Below.refl _ w).alloc (Nat.le_refl _) _
  have hbk : Hid (x0.heap[w.heap.size]? = some (.cells #[.int .u8 a, .int .u8 b, .int .u8 lo, .int .u8 hi, .int .i64 ((m : Int) + 1)] 59 (0, 0))) := by
    show x0.heap[w.heap.size]? = _
    rw [← hx0]; show (w.heap.push _)[w.heap.size]? = _; rw [Array.getElem?_push_size]
  have c2 : x0.cell? ⟨w.heap.size, 2, none⟩ = some (.int .u8 lo) := Lib.cell_of_heap hbk.out 2
  have c3 : x0.cell? ⟨w.heap.size, 3, none⟩ = some (.int .u8 hi) := Lib.cell_of_heap hbk.out 3
  have c4 : x0.cell? ⟨w.heap.size, 4, none⟩ = some (.int .i64 ((m : Int) + 1)) := Lib.cell_of_heap hbk.out 4
  clear hlo hhi hm hM hf
  go_enter Tryd.func40, Tryd.ntmps40
  go_wp2_with fail
  go_quiet (fail)
  go_wp2_with fail
  go_loop [4, 6, 7] (fun i l h => ∃ (n : Nat) (lo' hi' : Int), 1 ≤ n ∧ n ≤ m + 1 ∧ n ≤ s.size ∧ i = .int .i64 n ∧ l = .int .u8 lo' ∧ h = .int .u8 hi' ∧ 128 ≤ lo' ∧ lo' ≤ 160 ∧ 143 ≤ hi' ∧ hi' ≤ 191 ∧ Hid (∀ c : Int, mayI (f.toNat : Int) c n = (decide (lo' ≤ c) && decide (c ≤ hi'))) ∧ Hid (decU s.data.toList = runU (s.data.toList.drop n) (s.data.toList.take n) (m + 1 - n))) (fun i _ _ => m + 1 - (intOf i).toNat)
  case atStart => exact ⟨1, lo, hi, by omega, by omega, hpos, rfl, rfl, rfl, hlb.1, hlb.2, hhb.1, hhb.2, M1, H0⟩
  case round =>
    obtain ⟨n, lo', hi', hn1, hnm, hns, rfl, rfl, rfl, l1, l2, l3, l4, HM, HI⟩ := hrel
    have hlen : Hid (s.data.toList.length = s.size) := by show s.data.toList.length = s.size; simp
    by_cases hn : n ≤ m
    · have ST := STEP.out n hn1 HI.out hn
      by_cases he : n = s.size
      · have HF := Lib.hid (ST.2 (.inl (by rw [hlen.out]; omega)))
        clear ST
        have he2 : (n : Int) = (s.size : Int) := by omega
        go_wp2_with fail
        go_ret2
        exact ⟨⟨s.size, false, rfl, by omega, by rw [hlen.out]; exact Nat.le_refl _, by rw [← he]; exact HF.out⟩, by repeat (first | exact hB0.out | refine below_drewM ?_ _)⟩
      · have hlt : n < s.size := by omega
        have he2 : ¬ (n : Int) = (s.size : Int) := by omega
        have hge : s.data.toList[n]? = some s[n] := by
          rw [List.getElem?_eq_getElem (by rw [hlen.out]; exact hlt)]
          rfl
        have hb8 := s[n].toNat_lt
        by_cases hlow : (s[n].toNat : Int) < lo'
        · have HF := Lib.hid (ST.2 (.inr ⟨s[n], hge, by rw [HM.out]; simp; omega⟩))
          clear ST hge
          go_wp2_with fail
          go_ret2
          exact ⟨⟨n, false, rfl, hn1, by rw [hlen.out]; exact hns, HF.out⟩, by repeat (first | exact hB0.out | refine below_drewM ?_ _)⟩
        · by_cases hhigh : hi' < (s[n].toNat : Int)
          · have HF := Lib.hid (ST.2 (.inr ⟨s[n], hge, by rw [HM.out]; simp; omega⟩))
            clear ST hge
            go_wp2_with fail
            go_ret2
            exact ⟨⟨n, false, rfl, hn1, by rw [hlen.out]; exact hns, HF.out⟩, by repeat (first | exact hB0.out | refine below_drewM ?_ _)⟩
          · have HG := Lib.hid (ST.1 (by rw [hlen.out]; exact hlt) (by
              intro c hc
              rw [hge] at hc
              injection hc with hc
              rw [← hc, HM.out]
              simp
              omega))
            clear ST hge
            go_wp2_with fail
            go_round
            case rel =>
              refine ⟨n + 1, 128, 191, by omega, by omega, by omega, by go_num, rfl, rfl, by omega, by omega, by omega, by omega, fun c => ?_, HG.out⟩
              exact may_more (by omega)
            case measure => simp [intOf]; omega
    · have hnm2 : n = m + 1 := by omega
      have HF : Hid (decU s.data.toList = s.data.toList.take n ++ decU (s.data.toList.drop n)) := by
        show decU s.data.toList = _
        rw [HI.out, show m + 1 - n = 0 by omega, runU_zero]
        rfl
      have h2 : ¬ (n : Int) < (m : Int) + 1 := by omega
      go_wp2_with fail
      go_ret2
      exact ⟨⟨m + 1, true, rfl, by omega, by rw [hlen.out, ← hnm2]; exact hns, by rw [← hnm2]; exact HF.out⟩, by repeat (first | exact hB0.out | refine below_drewM ?_ _)⟩
end Go.Proofs.YtfbmabbehiicmaaDoor
