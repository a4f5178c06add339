/- sources: readPort, isBase64. -/
import Derived.Test.YteeplfbaflldaaaDoorSrc1
set_option linter.unusedVariables false
set_option linter.unusedSimpArgs false
namespace Go.Proofs.YteeplfbaflldaaaDoor.S25
open Go.RowKit T10

/-- A port's digits, behind those that are a number so far. -/
def portR : List UInt8 → Nat → Option Nat
  | [], n => some n
  | c :: r, n => if diI c.toNat = true then (if 65535 < n * 10 + (c.toNat - 48) then none else portR r (n * 10 + (c.toNat - 48))) else none
def portL (l : List UInt8) : Option Int := if l = [42] then some (-2) else if l = [] then none else (portR l 0).map Int.ofNat
def portV (o : Option Int) (s : ByteArray) : Value := match o with
  | some n => .tuple #[.int .i64 n, .nilIface]
  | none => .tuple #[.int .i64 0, faultV ⟨#[112, 111, 114, 116]⟩ s]
theorem dig_in {c : UInt8} (h : diI c.toNat = true) : 48 ≤ c.toNat ∧ c.toNat ≤ 57 := by
  unfold diI at h
  simp at h
  omega
set_option maxHeartbeats 3200000 in
set_option maxRecDepth 100000 in
theorem readPort_any (s : ByteArray) (w : World) (hs : s.size ≤ 1000000) :
    Calls Tryd.prog 73 #[.string s] w fun e w' => e = .returned (portV (portL s.data.toList) s) ∧ w = w' := by
  obtain ⟨Z, hZ⟩ : ∃ Z, portL s.data.toList = Z := ⟨_, rfl⟩
  rw [hZ]
  unfold portL at hZ
  by_cases h1 : s.data.toList = [42]
  · have t1 : (s.toList == [42]) = true := by rw [ByteArray.toList_eq, h1]; rfl
    rw [if_pos h1] at hZ
    subst hZ
    clear h1
    go_enter Tryd.func73, Tryd.ntmps73
    go_wp2_with fail
    go_ret2
    exact ⟨by exact rfl, rfl⟩
  · have t1 : (s.toList == [42]) = false := by rw [ByteArray.toList_eq, beq_eq_false_iff_ne]; exact h1
    rw [if_neg h1] at hZ
    by_cases h2 : s.data.toList = []
    · have t2 : (s.toList == []) = true := by rw [ByteArray.toList_eq, h2]; rfl
      have t3 : s.toList.isEmpty = true := by rw [ByteArray.toList_eq, h2]; rfl
      rw [if_pos h2] at hZ
      subst hZ
      clear h1 h2
      go_enter Tryd.func73, Tryd.ntmps73
      go_wp2_with fail
      go_ret2
      exact ⟨by exact rfl, rfl⟩
    · have t2 : (s.toList == []) = false := by rw [ByteArray.toList_eq, beq_eq_false_iff_ne]; exact h2
      have t3 : s.toList.isEmpty = false := by
        rw [ByteArray.toList_eq]
        cases hl : s.data.toList with
        | nil => exact absurd hl h2
        | cons a b => rfl
      rw [if_neg h2] at hZ
      have HZ : Hid ((portR (s.data.toList.drop 0) 0).map Int.ofNat = Z) := hZ
      clear h1 h2 hZ
      go_enter Tryd.func73, Tryd.ntmps73
      go_wp2_with fail
      go_loop [4, 15] (fun v i => ∃ k n : Nat, k ≤ s.size ∧ n ≤ 65535 ∧ i = .int .i64 k ∧ v = .int .i64 n ∧ Hid ((portR (s.data.toList.drop k) n).map Int.ofNat = Z)) (fun _ i => s.size - (intOf i).toNat)
      case atStart => exact ⟨0, 0, Nat.zero_le _, by omega, rfl, rfl, HZ.out⟩
      case round =>
        obtain ⟨k, n, hk, hn, rfl, rfl, HK⟩ := hrel
        clear HZ
        by_cases hlt : k < s.size
        · have hki : (k : Int) < s.size := by omega
          obtain ⟨c, hc⟩ : ∃ c, s[k] = c := ⟨_, rfl⟩
          have hg := at_get hlt
          rw [hc] at hg
          have hl := (List.getElem?_eq_some_iff.1 hg).1
          have hd : s.data.toList.drop k = c :: s.data.toList.drop (k + 1) := by
            rw [List.drop_eq_getElem_cons hl]
            congr 1
          have HD := Lib.hid (digit_any (c.toNat : Int) w)
          have hK := HK.out
          rw [hd, portR] at hK
          cases hdi : diI c.toNat with
          | false =>
            rw [if_neg (by rw [hdi]; simp)] at hK
            rw [show diI (c.toNat : Int) = false from hdi] at HD
            have HF : Hid (Z = none) := hK.symm
            clear hdi hK hd hg HK hl
            go_wp2_with fail
            refine HD.out.mono ?_
            rintro e w' ⟨rfl, rfl⟩
            go_wp2_with fail
            go_ret2
            exact ⟨by rw [HF.out]; exact rfl, rfl⟩
          | true =>
            rw [if_pos hdi] at hK
            rw [show diI (c.toNat : Int) = true from hdi] at HD
            have hb := dig_in hdi
            obtain ⟨D, hD⟩ : ∃ D, c.toNat - 48 = D := ⟨_, rfl⟩
            have i1 : (c.toNat : Int) - 48 = D := by omega
            have hD9 : D ≤ 9 := by omega
            obtain ⟨T, hT⟩ : ∃ T, n * 10 = T := ⟨_, rfl⟩
            obtain ⟨M, hM⟩ : ∃ M, T + D = M := ⟨_, rfl⟩
            have i2 : (n : Int) * 10 = T := by omega
            have i2' : 10 * (n : Int) = T := by omega
            have i3 : (T : Int) + D = M := by omega
            have hM6 : M ≤ 700000 := by omega
            rw [hD, hT, hM] at hK
            by_cases hbig : 65535 < M
            · have ib : (65535 : Int) < M := by omega
              rw [if_pos hbig] at hK
              have HF : Hid (Z = none) := hK.symm
              clear hdi hK hd hg HK hl hD hT hM hb
              go_wp2_with fail
              refine HD.out.mono ?_
              rintro e w' ⟨rfl, rfl⟩
              go_wp2_with fail
              go_ret2
              exact ⟨by rw [HF.out]; exact rfl, rfl⟩
            · have ib : ¬ (65535 : Int) < M := by omega
              rw [if_neg hbig] at hK
              have HN := Lib.hid hK
              clear hdi hK hd hg HK hl hD hT hM hb
              go_wp2_with fail
              refine HD.out.mono ?_
              rintro e w' ⟨rfl, rfl⟩
              go_wp2_with fail
              go_round
              case rel => exact ⟨k + 1, M, by omega, by omega, by go_num, rfl, HN⟩
              case measure => simp [intOf]; omega
        · have hki : ¬ (k : Int) < s.size := by omega
          have HF : Hid (Z = some (n : Int)) := by
            show _ = _
            rw [← HK.out, List.drop_of_length_le (by simp; omega)]
            rfl
          go_wp2_with fail
          go_ret2
          exact ⟨by rw [HF.out]; exact rfl, rfl⟩
end Go.Proofs.YteeplfbaflldaaaDoor.S25
