/- lazaretref04.Primes. -/
import Derived.Test.YtnlhhjokaekdhaaDoorTim4
import Derived.Test.YtnlhhjokaekdhaaDoorVal4
import Derived.Deep.Cut
set_option linter.unusedVariables false
set_option linter.unusedSimpArgs false
namespace Go.Proofs.YtnlhhjokaekdhaaDoor.R4
open Go.RowKit

def isP (n : Int) (l : List Int) : Bool := l.all fun x => n % x != 0
/-- The primes below k + 2. -/
def prAt : Nat → List Int
  | 0 => []
  | k + 1 => if isP ((k : Int) + 2) (prAt k) then prAt k ++ [(k : Int) + 2] else prAt k
theorem prAt_yes {k : Nat} (h : isP ((k : Int) + 2) (prAt k) = true) : prAt (k + 1) = prAt k ++ [(k : Int) + 2] := by rw [prAt, if_pos h]
theorem prAt_no {k : Nat} (h : isP ((k : Int) + 2) (prAt k) = false) : prAt (k + 1) = prAt k := by rw [prAt, h]; rfl
theorem prAt_two : ∀ k, ∀ x ∈ prAt k, 2 ≤ x ∧ x < (k : Int) + 2
  | 0 => by intro x hx; cases hx
  | k + 1 => by
    intro x hx
    cases h : isP ((k : Int) + 2) (prAt k) with
    | true =>
      rw [prAt_yes h] at hx
      rcases List.mem_append.1 hx with h1 | h1
      · have := prAt_two k x h1; push_cast; omega
      · have : x = (k : Int) + 2 := by simpa using h1
        push_cast; omega
    | false =>
      rw [prAt_no h] at hx
      have := prAt_two k x hx; push_cast; omega
theorem prAt_len : ∀ k, (prAt k).length ≤ (prAt (k + 1)).length := by
  intro k
  cases h : isP ((k : Int) + 2) (prAt k) with
  | true => rw [prAt_yes h]; simp
  | false => rw [prAt_no h]; exact Nat.le_refl _
theorem prAt_mono {a b : Nat} (h : a ≤ b) : (prAt a).length ≤ (prAt b).length := by
  induction b with
  | zero => rw [Nat.le_zero.1 h]; exact Nat.le_refl _
  | succ b ih =>
    by_cases e : a = b + 1
    · rw [e]; exact Nat.le_refl _
    · exact Nat.le_trans (ih (by omega)) (prAt_len b)
theorem prAt_room : ∀ k, (prAt k).length ≤ k
  | 0 => Nat.le_refl _
  | k + 1 => by
    have := prAt_room k
    cases h : isP ((k : Int) + 2) (prAt k) with
    | true => rw [prAt_yes h]; simp; omega
    | false => rw [prAt_no h]; omega
theorem isP_step {n : Int} {l : List Int} {i : Nat} (h : i < l.length) : isP n (l.take (i + 1)) = (isP n (l.take i) && (n % l.getD i 0 != 0)) := by
  unfold isP
  rw [List.take_succ_eq_append_getElem h, List.all_append]
  simp [List.getD, h]
theorem p64a : (prAt 309).length = 63 := by decide +kernel
theorem p64b : (prAt 310).length = 64 := by decide +kernel

set_option maxHeartbeats 3200000 in
set_option maxRecDepth 100000 in
theorem primes_any (many K : Nat) (w : World) (hK : K ≤ 1000) (h1 : (prAt (K - 1)).length < many) (h2 : (prAt K).length = many) (h0 : 0 < K) :
    Calls Tryd.prog 32 #[.int .i64 many] w fun e w' => ∃ v, e = .returned v ∧ w'.ownsRow w.heap.size 3 1 v (prAt K).length (intV (prAt K)) ∧ Below w.heap.size w w' := by
  have H1 := Lib.hid h1
  have H2 := Lib.hid h2
  clear h1 h2
  go_enter Tryd.func32, Tryd.ntmps32
  go_wp2_with fail
  go_loopw [3, 4] (fun s n wr => ∃ k : Nat, k ≤ K ∧ n = .int .i64 ((k : Int) + 2) ∧ Hid (wr.ownsRow w.heap.size 3 1 s (prAt k).length (intV (prAt k))) ∧ Hid (Below w.heap.size w wr)) (fun _ n _ => K + 2 - (intOf n).toNat)
  case atStart => exact ⟨0, Nat.zero_le _, rfl, ⟨rfl, .inl ⟨rfl, rfl⟩⟩, Below.refl _ w⟩
  case round =>
    obtain ⟨k, hk, rfl, O, B⟩ := hrel
    obtain ⟨ao, cap, hv, hlm⟩ := int_shape (owns_slice O.out (by rw [intV_len]))
    subst hv
    unfold maxLen at hlm
    by_cases hlt : k < K
    · have hlen : (prAt k).length < many := Nat.lt_of_le_of_lt (prAt_mono (by omega)) H1.out
      have hli : ((prAt k).length : Int) < many := by omega
      have hroom := prAt_room k
      obtain ⟨L, hL⟩ : ∃ L, prAt k = L := ⟨_, rfl⟩
      have HT : Hid (∀ x ∈ L, 2 ≤ x ∧ x < (k : Int) + 2) := by rw [← hL]; exact prAt_two k
      rw [hL] at O hlen hli hlm hroom
      rw [hL]
      have HL := Lib.hid hL
      clear hL
      go_wp2_with fail
      go_loopw [5, 6] (fun q i wy => ∃ j : Nat, j ≤ L.length ∧ i = .int .i64 j ∧ q = .bool (isP ((k : Int) + 2) (L.take j)) ∧ wy = wr) (fun _ i _ => L.length - (intOf i).toNat)
      case atStart => exact ⟨0, Nat.zero_le _, rfl, rfl, rfl⟩
      case round =>
        obtain ⟨j, hj, rfl, rfl, rfl⟩ := hrel
        by_cases hjl : j < L.length
        · have hji : (j : Int) < L.length := by omega
          have hj0 : (0 : Int) ≤ j := by omega
          obtain ⟨b, off, c2, e1, kb, yb⟩ := int_at (owns_slice O.out (by rw [intV_len])) hjl
          injection e1 with f1 _ f3
          subst f1 f3
          have hs := isP_step (n := (k : Int) + 2) hjl
          obtain ⟨y, hy⟩ : ∃ y, L.getD j 0 = y := ⟨_, rfl⟩
          have hyd : 2 ≤ y ∧ y < (k : Int) + 2 := by
            rw [← hy]
            refine HT.out _ ?_
            rw [List.getD_eq_getElem?_getD, List.getElem?_eq_getElem hjl]
            exact List.getElem_mem hjl
          rw [hy] at hs yb
          have HS := Lib.hid hs
          have hy0 : ¬ y = 0 := by omega
          have hy1 : (0 : Int) ≤ y := by omega
          have hn0 : (0 : Int) ≤ (k : Int) + 2 := by omega
          clear hs hy hyd
          cases hq : isP ((k : Int) + 2) (L.take j) with
          | true =>
            rw [hq] at HS
            clear hq
            go_wp2_with fail
            exact ⟨⟨j + 1, by omega, by go_num, by rw [HS.out]; simp, trivial⟩, by simp [intOf]; omega⟩
          | false =>
            rw [hq] at HS
            clear hq
            go_wp2_with fail
            exact ⟨⟨j + 1, by omega, by go_num, by rw [HS.out]; simp, trivial⟩, by simp [intOf]; omega⟩
        · have hji : ¬ (j : Int) < L.length := by omega
          rw [List.take_of_length_le (by omega : L.length ≤ j)]
          cases hq : isP ((k : Int) + 2) L with
          | true =>
            have HN : Hid (prAt (k + 1) = L ++ [(k : Int) + 2]) := by show _ = _; rw [prAt_yes (by rw [HL.out]; exact hq), HL.out]
            have hsz := B.out.size
            have hown := O.out
            have HB := Lib.hid B.out
            clear hq O
            go_wp2_with (at_builtin; refine app1 rfl _ _ 54 rfl infoInt Tryd.underlying54 rfl (by decide) hown rfl rfl rfl (by omega) hsz ?_; intro v' w' hown' hg hbw)
            have hsame : intV L ++ [Value.int .i64 ((k : Int) + 2)] = intV (L ++ [(k : Int) + 2]) := by simp [intV]
            rw [hsame] at hown'
            have hln : L.length + 1 = (L ++ [(k : Int) + 2]).length := by simp
            rw [hln] at hown'
            exact ⟨⟨k + 1, by omega, by go_num, by rw [HN.out]; exact hown', HB.out.trans hbw⟩, by simp [intOf]; omega⟩
          | false =>
            have HN : Hid (prAt (k + 1) = L) := by show _ = _; rw [prAt_no (by rw [HL.out]; exact hq), HL.out]
            clear hq
            go_wp2_with fail
            exact ⟨⟨k + 1, by omega, by go_num, by rw [HN.out]; exact O, B⟩, by simp [intOf]; omega⟩
    · obtain rfl : k = K := by omega
      have hli : ¬ ((prAt k).length : Int) < many := by have := H2.out; omega
      go_wp2_with fail
      go_ret
      exact ⟨_, rfl, O.out, B.out⟩
end Go.Proofs.YtnlhhjokaekdhaaDoor.R4
