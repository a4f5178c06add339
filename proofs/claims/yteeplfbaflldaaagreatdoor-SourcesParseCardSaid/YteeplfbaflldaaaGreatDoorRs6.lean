/- lazaretref25: port. -/
import Derived.Test.YteeplfbaflldaaaGreatDoorRs5
set_option linter.unusedVariables false
set_option linter.unusedSimpArgs false
namespace Go.Proofs.YteeplfbaflldaaaGreatDoor.S25
open Go.RowKit T10

/-- A port's number, held at a hundred thousand. -/
def minR : List UInt8 → Nat → Option Nat
  | [], n => some n
  | c :: r, n => if diI c.toNat = true then minR r (min (n * 10 + (c.toNat - 48)) 100000) else none
theorem minR_big : ∀ (l : List UInt8) (n m : Nat), 65535 < n → n ≤ 100000 → minR l n = some m → 65535 < m := by
  intro l
  induction l with
  | nil => intro n m h1 h2 h; unfold minR at h; injection h with h; omega
  | cons c r ih =>
    intro n m h1 h2 h
    unfold minR at h
    split at h
    · exact ih _ _ (by omega) (by omega) h
    · cases h
theorem portR_min : ∀ (l : List UInt8) (n : Nat), n ≤ 65535 → portR l n = (match minR l n with | some m => if m ≤ 65535 then some m else none | none => none) := by
  intro l
  induction l with
  | nil => intro n h; unfold portR minR; simp [h]
  | cons c r ih =>
    intro n h
    rw [portR, minR]
    by_cases hd : diI c.toNat = true
    · rw [if_pos hd, if_pos hd]
      have hb := dig_in hd
      by_cases hbig : 65535 < n * 10 + (c.toNat - 48)
      · rw [if_pos hbig]
        cases hm : minR r (min (n * 10 + (c.toNat - 48)) 100000) with
        | none => rfl
        | some m =>
          have := minR_big r _ m (by omega) (by omega) hm
          simp only []
          rw [if_neg (by omega)]
      · rw [if_neg hbig, show min (n * 10 + (c.toNat - 48)) 100000 = n * 10 + (c.toNat - 48) by omega]
        exact ih _ (by omega)
    · rw [if_neg hd, if_neg hd]
/-- What the document's port hands back. -/
def rportP (l : List UInt8) : Int × Bool := if l = [42] then (-2, true) else match minR l 0 with
  | some n => ((n : Int), !l.isEmpty && decide (n ≤ 65535))
  | none => (0, false)
theorem rport_same (l : List UInt8) : portL l = if (rportP l).2 = true then some (rportP l).1 else none := by
  unfold portL rportP
  by_cases h : l = [42]
  · rw [if_pos h, if_pos h]; rfl
  · rw [if_neg h, if_neg h]
    by_cases h2 : l = []
    · rw [if_pos h2, h2]; rfl
    · rw [if_neg h2, portR_min l 0 (by omega)]
      have he : l.isEmpty = false := by
        cases l with
        | nil => exact absurd rfl h2
        | cons a r => rfl
      cases hm : minR l 0 with
      | none => rfl
      | some n =>
        simp only [he]
        by_cases hn : n ≤ 65535
        · rw [if_pos hn, decide_eq_true hn]; rfl
        · rw [if_neg hn, decide_eq_false hn]; rfl
set_option maxHeartbeats 1600000 in
set_option maxRecDepth 100000 in
theorem rport_any (s : ByteArray) (w : World) (hs : s.size ≤ 1000000) :
    Calls Tryz.prog 32 #[.string s] w fun e w' => e = .returned (.tuple #[.int .i64 (rportP s.data.toList).1, .bool (rportP s.data.toList).2]) ∧ w = w' := by
  have hsl : s.data.toList.length = s.size := by simp
  unfold rportP
  by_cases h1 : s.data.toList = [42]
  · have t1 : (s.toList == [42]) = true := by rw [ByteArray.toList_eq, h1]; rfl
    rw [if_pos h1]
    clear h1
    go_enter Tryz.func32, Tryz.ntmps32
    go_wp2_with fail
    go_ret2
    exact ⟨by exact rfl, rfl⟩
  · have t1 : (s.toList == [42]) = false := by rw [ByteArray.toList_eq, beq_eq_false_iff_ne]; exact h1
    rw [if_neg h1]
    obtain ⟨Z, hZ⟩ : ∃ Z, (match minR s.data.toList 0 with | some n => ((n : Int), !s.data.toList.isEmpty && decide (n ≤ 65535)) | none => (0, false)) = Z := ⟨_, rfl⟩
    rw [hZ]
    have HZ := Lib.hid hZ
    have HSL := Lib.hid hsl
    clear h1 hZ hsl
    go_enter Tryz.func32, Tryz.ntmps32
    go_wp2_with fail
    go_loop [2, 3, 4, 5] (fun a b v i => ∃ k n : Nat, k ≤ s.size ∧ n ≤ 100000 ∧ a = .int .i64 0 ∧ b = .bool false ∧ v = .int .i64 n ∧ i = .int .i64 k ∧ Hid (minR (s.data.toList.drop k) n = minR s.data.toList 0)) (fun _ _ _ i => s.size - (intOf i).toNat)
    case atStart => exact ⟨0, 0, Nat.zero_le _, by omega, rfl, rfl, rfl, rfl, rfl⟩
    case round =>
      obtain ⟨k, n, hk, hn, rfl, rfl, rfl, rfl, HK⟩ := hrel
      by_cases hlt : k < s.size
      · have hki : (k : Int) < s.size := by omega
        obtain ⟨c, hc⟩ : ∃ c, s[k] = c := ⟨_, rfl⟩
        have hg := at_get hlt
        rw [hc] at hg
        have hl := (List.getElem?_eq_some_iff.1 hg).1
        have hd : s.data.toList.drop k = c :: s.data.toList.drop (k + 1) := by
          rw [List.drop_eq_getElem_cons hl]
          congr 1
        have hK := HK.out
        rw [hd, minR] at hK
        have hk1 : k + 1 ≤ s.size := by omega
        clear hg hl hd
        by_cases hlo : (c.toNat : Int) < 48
        · have hdi : ¬ diI c.toNat = true := by unfold diI; simp; omega
          rw [if_neg hdi] at hK
          have HF : Hid (Z = (0, false)) := by show _ = _; rw [← HZ.out, ← hK]
          clear hdi hK
          go_wp2_with fail
          go_ret2
          exact ⟨by rw [HF.out]; exact rfl, rfl⟩
        · by_cases hhi : (57 : Int) < c.toNat
          · have hdi : ¬ diI c.toNat = true := by unfold diI; simp; omega
            rw [if_neg hdi] at hK
            have HF : Hid (Z = (0, false)) := by show _ = _; rw [← HZ.out, ← hK]
            clear hdi hK
            go_wp2_with fail
            go_ret2
            exact ⟨by rw [HF.out]; exact rfl, rfl⟩
          · have hdi : diI c.toNat = true := by unfold diI; simp; omega
            rw [if_pos hdi] at hK
            obtain ⟨D, hD⟩ : ∃ D, c.toNat - 48 = D := ⟨_, rfl⟩
            have i1 : (c.toNat : Int) - 48 = D := by omega
            have hD9 : D ≤ 9 := by omega
            obtain ⟨T, hT⟩ : ∃ T, n * 10 = T := ⟨_, rfl⟩
            obtain ⟨M, hM⟩ : ∃ M, T + D = M := ⟨_, rfl⟩
            have i2 : (n : Int) * 10 = T := by omega
            have i2' : 10 * (n : Int) = T := by omega
            have i3 : (T : Int) + D = M := by omega
            have hM6 : M ≤ 1000009 := by omega
            rw [hD, hT, hM] at hK
            by_cases hbig : 100000 < M
            · have ib : (100000 : Int) < M := by omega
              have ib2 : ¬ (M : Int) ≤ 100000 := by omega
              have ib3 : ¬ (M : Int) < 100000 := by omega
              rw [show min M 100000 = 100000 by omega] at hK
              have HN := Lib.hid hK
              clear hdi hK hD hT hM hbig
              go_wp2_with fail
              go_round
              case rel => exact ⟨k + 1, 100000, hk1, Nat.le_refl _, rfl, rfl, (by congr 1; omega), by go_num, HN.out⟩
              case measure => simp [intOf]; omega
            · have ib : ¬ (100000 : Int) < M := by omega
              have ib2 : (M : Int) ≤ 100000 := by omega
              have hM7 : M ≤ 100000 := by omega
              rw [show min M 100000 = M by omega] at hK
              have HN := Lib.hid hK
              clear hdi hK hD hT hM hbig
              go_wp2_with fail
              go_round
              case rel => exact ⟨k + 1, M, hk1, hM7, rfl, rfl, (by congr 1; omega), by go_num, HN.out⟩
              case measure => simp [intOf]; omega
      · have hki : ¬ (k : Int) < s.size := by omega
        have hmn : minR s.data.toList 0 = some n := by
          rw [← HK.out, List.drop_of_length_le (by rw [HSL.out]; omega)]
          rfl
        have HF : Hid (Z = ((n : Int), !s.toList.isEmpty && decide (n ≤ 65535))) := by
          show _ = _
          rw [← HZ.out, hmn, ByteArray.toList_eq]
        clear hmn
        cases he : s.toList.isEmpty with
        | true =>
          have t2 : (s.toList == []) = true := by
            cases hl : s.toList with
            | nil => rfl
            | cons a r => rw [hl] at he; cases he
          have HE := Lib.hid he
          clear he
          go_wp2_with fail
          go_ret2
          exact ⟨by rw [HF.out, HE.out]; exact rfl, rfl⟩
        | false =>
          have t2 : (s.toList == []) = false := by
            cases hl : s.toList with
            | nil => rw [hl] at he; cases he
            | cons a r => rfl
          have HE := Lib.hid he
          clear he
          by_cases h5 : (n : Int) ≤ 65535
          · have HD : Hid (decide (n ≤ 65535) = true) := decide_eq_true (by omega)
            go_wp2_with fail
            go_ret2
            exact ⟨by rw [HF.out, HE.out, HD.out]; exact rfl, rfl⟩
          · have HD : Hid (decide (n ≤ 65535) = false) := decide_eq_false (by omega)
            go_wp2_with fail
            go_ret2
            exact ⟨by rw [HF.out, HE.out, HD.out]; exact rfl, rfl⟩
end Go.Proofs.YteeplfbaflldaaaGreatDoor.S25
