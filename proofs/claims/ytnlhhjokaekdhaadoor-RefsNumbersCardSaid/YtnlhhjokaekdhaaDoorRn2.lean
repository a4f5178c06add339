/- What a reference by number is worth (plain). -/
import Derived.Test.YtnlhhjokaekdhaaDoorRn1
import Derived.Test.YtnlhhjokaekdhaaDoorLPlc
import Derived.Lib.ItoaNum
set_option linter.unusedVariables false
set_option linter.unusedSimpArgs false
namespace Go.Proofs.YtnlhhjokaekdhaaDoor.R9
open Go.RowKit

def valV (base : Int) (ds : List UInt8) : Int := ds.foldl (fun n c => n * base + hexV c.toNat) 0
theorem valV_snoc (base : Int) (a : List UInt8) (c : UInt8) : valV base (a ++ [c]) = valV base a * base + hexV c.toNat := by unfold valV; rw [List.foldl_append]; rfl
theorem numV_val (base : Int) (hb : base = 10 ∨ base = 16) (ds : List UInt8) (h : ds.all (isD base) = true) : numV base ds = min (valV base ds) 1114112 := by
  suffices key : ∀ (ds : List UInt8) (m : Int), 0 ≤ m → ds.all (isD base) = true → ds.foldl (fun n c => min (n * base + hexV c.toNat) 1114112) (min m 1114112) = min (ds.foldl (fun n c => n * base + hexV c.toNat) m) 1114112 from key ds 0 (by omega) h
  intro ds
  induction ds with
  | nil => intro m hm _; rfl
  | cons c r ih =>
    intro m hm hd
    rw [List.all_cons, Bool.and_eq_true] at hd
    have h1 := hd.1
    unfold isD at h1
    rw [Bool.and_eq_true] at h1
    have h2 := hexV_in _ h1.1
    rw [List.foldl_cons, List.foldl_cons]
    have e : min (min m 1114112 * base + hexV c.toNat) 1114112 = min (m * base + hexV c.toNat) 1114112 := by
      rcases hb with rfl | rfl <;> omega
    rw [e]
    exact ih _ (by rcases hb with rfl | rfl <;> omega) hd.2
theorem hx_dig : ∀ q : Fin 16, hexV (hx q.val).toNat = q.val ∧ isD 16 (hx q.val) = true := by decide
theorem dc_dig : ∀ q : Fin 10, hexV (UInt8.ofNat (48 + q.val)).toNat = q.val ∧ isD 10 (UInt8.ofNat (48 + q.val)) = true := by decide
theorem hexF_val : ∀ k u, u < 16 ^ (k + 1) → valV 16 (hexF k u) = u ∧ (hexF k u).all (isD 16) = true ∧ hexF k u ≠ []
  | 0, u, h => by
    have hu : u < 16 := by simpa using h
    rw [hexF_low hu]
    have := hx_dig ⟨u, hu⟩
    simp only at this
    exact ⟨by unfold valV; simp [this.1], by simp [this.2], by simp⟩
  | k + 1, u, h => by
    by_cases hu : u < 16
    · rw [hexF_low hu]
      have := hx_dig ⟨u, hu⟩
      simp only at this
      exact ⟨by unfold valV; simp [this.1], by simp [this.2], by simp⟩
    · obtain ⟨h1, h2, h3⟩ := hexF_val k (u / 16) (by rw [Nat.pow_succ] at h; omega)
      have h4 := hx_dig ⟨u % 16, by omega⟩
      simp only at h4
      rw [hexF, if_neg hu]
      refine ⟨by rw [valV_snoc, h1, h4.1]; omega, by rw [List.all_append, h2, List.all_cons, h4.2]; rfl, by simp⟩
theorem dec_val (u : Nat) : valV 10 (Lib.decDigits u) = u ∧ (Lib.decDigits u).all (isD 10) = true ∧ Lib.decDigits u ≠ [] := by
  induction u using Nat.strongRecOn with
  | _ u ih =>
    rw [Lib.decDigits]
    by_cases hu : u < 10
    · rw [dif_pos hu]
      have := dc_dig ⟨u, hu⟩
      simp only at this
      exact ⟨by unfold valV; simp only [List.foldl_cons, List.foldl_nil]; rw [this.1]; omega, by rw [List.all_cons, this.2]; rfl, by simp⟩
    · rw [dif_neg hu]
      obtain ⟨h1, h2, h3⟩ := ih (u / 10) (by omega)
      have h4 := dc_dig ⟨u % 10, by omega⟩
      simp only at h4
      refine ⟨by rw [valV_snoc, h1, h4.1]; omega, by rw [List.all_append, h2, List.all_cons, h4.2]; rfl, by simp⟩
theorem val_zeros (base : Int) : ∀ (z : Nat) (l : List UInt8), valV base (List.replicate z 48 ++ l) = valV base l
  | 0, l => rfl
  | z + 1, l => by
    have e : valV base (48 :: (List.replicate z 48 ++ l)) = valV base (List.replicate z 48 ++ l) := by
      unfold valV
      rw [List.foldl_cons]
      have : (0 : Int) * base + hexV (48 : UInt8).toNat = 0 := by rw [Int.zero_mul]; rfl
      rw [this]
    rw [List.replicate_succ, List.cons_append, e, val_zeros base z l]
theorem all_zeros (base : Int) (hb : base = 10 ∨ base = 16) (z : Nat) (l : List UInt8) (h : l.all (isD base) = true) : (List.replicate z 48 ++ l).all (isD base) = true := by
  rw [List.all_append, h, Bool.and_true, List.all_eq_true]
  intro c hc
  rw [List.eq_of_mem_replicate hc]
  rcases hb with rfl | rfl <;> rfl
theorem while_stop (p : UInt8 → Bool) (D : List UInt8) (c : UInt8) (t : List UInt8) (hD : D.all p = true) (hc : p c = false) : (D ++ c :: t).takeWhile p = D := by
  rw [List.takeWhile_append_of_pos (by simpa using hD), List.takeWhile_cons, hc]
  simp
/-- Digits, and what is none behind them. -/
theorem num_dec (D : List UInt8) (c : UInt8) (t : List UInt8) (hD : D.all (isD 10) = true) (h0 : D ≠ []) (hc : isD 10 c = false) : numR (D ++ c :: t) = some (charN (numV 10 D), D.length + (if c = 59 then 1 else 0)) := by
  have hb : baseK (D ++ c :: t) = (10, 0) := by
    cases D with
    | nil => exact absurd rfl h0
    | cons x r =>
      rw [List.all_cons, Bool.and_eq_true] at hD
      have : ¬ (x = 120 ∨ x = 88) := by
        rintro (rfl | rfl)
        · exact absurd hD.1 (by decide)
        · exact absurd hD.1 (by decide)
      unfold baseK
      simp only [List.cons_append, List.head?_cons, if_neg this]
  unfold numR
  rw [hb]
  simp only [List.drop_zero, while_stop (isD 10) D c t hD hc, Nat.zero_add]
  rw [if_neg h0, List.drop_left]
  simp only [List.head?_cons, Option.some.injEq]
theorem num_hex (x : UInt8) (hx : x = 120 ∨ x = 88) (D : List UInt8) (c : UInt8) (t : List UInt8) (hD : D.all (isD 16) = true) (h0 : D ≠ []) (hc : isD 16 c = false) : numR (x :: (D ++ c :: t)) = some (charN (numV 16 D), 1 + D.length + (if c = 59 then 1 else 0)) := by
  have hb : baseK (x :: (D ++ c :: t)) = (16, 1) := by
    unfold baseK
    simp only [List.head?_cons, if_pos hx]
  unfold numR
  rw [hb]
  simp only [List.drop_succ_cons, List.drop_zero, while_stop (isD 16) D c t hD hc]
  rw [if_neg h0, show 1 + D.length = D.length + 1 by omega, List.drop_succ_cons, List.drop_left]
  simp only [List.head?_cons, Option.some.injEq]
theorem find_num (r : List UInt8) (attr : Bool) : findS (38 :: 35 :: r) attr = (numR r).map (fun x => (x.1, x.2 + 2)) := by
  unfold findS
  rw [if_pos (show (38 :: 35 :: r).head? = some 38 from rfl)]
  simp only [List.drop_succ_cons, List.drop_zero]
  rw [if_pos (show (35 :: r).head? = some 35 from rfl)]
end Go.Proofs.YtnlhhjokaekdhaaDoor.R9
