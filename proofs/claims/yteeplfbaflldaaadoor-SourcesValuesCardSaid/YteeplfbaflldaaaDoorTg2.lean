/- tags: upTo, begin. -/
import Derived.Test.YteeplfbaflldaaaDoorTgM
import Derived.Test.YteeplfbaflldaaaDoorShelf
set_option linter.unusedVariables false
set_option linter.unusedSimpArgs false
namespace Go.Proofs.YteeplfbaflldaaaDoor.T10
open Go.RowKit R9

theorem ib_any (P : ByteArray) (c : UInt8) (w : World) : Calls Tryd.prog 40 #[.string P, .int .u8 (c.toNat : Int)] w fun e w' => e = .returned (.int .i64 (Lib.indexByte P.data.toList c)) ∧ w = w' := by
  have h := Tryd.strings_IndexByte P (c.toNat : Int) w
  rw [show ((c.toNat : Int)).toNat.toUInt8 = c from by simp] at h
  exact h.mono fun e w' ⟨h1, h2⟩ => ⟨h1, h2.symm⟩
/-- A text of stops, as a test. -/
def Stops (P : ByteArray) (p : UInt8 → Bool) : Prop := ∀ c : UInt8, p c = decide (0 ≤ Lib.indexByte P.data.toList c)
theorem stops_a : Stops ⟨#[47, 62]⟩ stopA := by
  intro c
  show (c == 47 || c == 62) = decide (0 ≤ Lib.indexByte [47, 62] c)
  unfold Lib.indexByte Lib.indexByte Lib.indexByte
  rw [BEq.comm (a := c) (b := 47), BEq.comm (a := c) (b := 62)]
  cases (47 : UInt8) == c <;> cases (62 : UInt8) == c <;> rfl
theorem stops_b : Stops ⟨#[47, 62, 61]⟩ stopB := by
  intro c
  show (c == 47 || c == 62 || c == 61) = decide (0 ≤ Lib.indexByte [47, 62, 61] c)
  unfold Lib.indexByte Lib.indexByte Lib.indexByte Lib.indexByte
  rw [BEq.comm (a := c) (b := 47), BEq.comm (a := c) (b := 62), BEq.comm (a := c) (b := 61)]
  cases (47 : UInt8) == c <;> cases (62 : UInt8) == c <;> cases (61 : UInt8) == c <;> rfl
theorem stops_c : Stops ⟨#[62]⟩ stopC := by
  intro c
  show (c == 62) = decide (0 ≤ Lib.indexByte [62] c)
  unfold Lib.indexByte Lib.indexByte
  rw [BEq.comm (a := c) (b := 62)]
  cases (62 : UInt8) == c <;> rfl

set_option maxHeartbeats 1600000 in
set_option maxRecDepth 100000 in
theorem up_any (P : ByteArray) (p : UInt8 → Bool) (hp : Stops P p) (s : ByteArray) (a : Nat) (w : World) (ha : a ≤ s.size) (hs : s.size ≤ 1000000) :
    Calls Tryd.prog 26 #[.string s, .int .i64 a, .string P] w fun e w' => e = .returned (.int .i64 ((a + upN p (s.data.toList.drop a) : Nat) : Int)) ∧ w = w' := by
  obtain ⟨Z, hZ⟩ : ∃ Z, a + upN p (s.data.toList.drop a) = Z := ⟨_, rfl⟩
  rw [hZ]
  have HP := Lib.hid hp
  clear hp
  go_enter Tryd.func26, Tryd.ntmps26
  go_wp2_with fail
  go_loop [1] (fun i => ∃ k : Nat, k ≤ s.size ∧ i = .int .i64 k ∧ Hid (k + upN p (s.data.toList.drop k) = Z)) (fun i => s.size - (intOf i).toNat)
  case atStart => exact ⟨a, ha, rfl, hZ⟩
  case round =>
    obtain ⟨k, hk, rfl, HZ⟩ := hrel
    clear hZ
    by_cases hlt : k < s.size
    · have hki : (k : Int) < s.size := by omega
      have hmn : min (k : Int) (s.size : Int) = (k : Int) := by omega
      obtain ⟨c, hc⟩ : ∃ c, s[k] = c := ⟨_, rfl⟩
      have hg : s.data.toList[k]? = some c := by rw [List.getElem?_eq_getElem (by simpa using hlt), ← hc]; rfl
      have HB := Lib.hid (blank_any (c.toNat : Int) w)
      have HI := Lib.hid (ib_any P c w)
      have hpc := HP.out c
      obtain ⟨I, hI⟩ : ∃ I, Lib.indexByte P.data.toList c = I := ⟨_, rfl⟩
      rw [hI] at HI hpc
      clear hI
      cases hb : blB c with
      | true =>
        have hb2 : blI (c.toNat : Int) = true := hb
        rw [hb2] at HB
        have HS := Lib.hid (upN_stop p s.data.toList k (fun d hd => by rw [hg] at hd; injection hd with hd; subst hd; exact .inl hb))
        clear hg hb hb2 hpc
        go_wp2_with fail
        refine HB.out.mono ?_
        rintro e w' ⟨rfl, rfl⟩
        go_wp2_with fail
        go_ret
        exact ⟨by have h1 := HZ.out; have h2 := HS.out; rw [← h1, h2]; rfl, rfl⟩
      | false =>
        have hb2 : blI (c.toNat : Int) = false := hb
        rw [hb2] at HB
        by_cases hI0 : I < 0
        · have hpf : p c = false := by rw [hpc]; simp; omega
          have HS := Lib.hid (upN_step p _ _ _ hg hb hpf)
          clear hg hb hb2 hpc hpf
          go_wp2_with fail
          refine HB.out.mono ?_
          rintro e w' ⟨rfl, rfl⟩
          go_wp2_with fail
          refine HI.out.mono ?_
          rintro e w' ⟨rfl, rfl⟩
          go_wp2_with fail
          go_round
          case rel => exact ⟨k + 1, by omega, by go_num, by have h1 := HZ.out; have h2 := HS.out; show _ = _; omega⟩
          case measure => simp [intOf]; omega
        · have hpf : p c = true := by rw [hpc]; simp; omega
          have HS := Lib.hid (upN_stop p s.data.toList k (fun d hd => by rw [hg] at hd; injection hd with hd; subst hd; exact .inr hpf))
          clear hg hb hb2 hpc hpf
          go_wp2_with fail
          refine HB.out.mono ?_
          rintro e w' ⟨rfl, rfl⟩
          go_wp2_with fail
          refine HI.out.mono ?_
          rintro e w' ⟨rfl, rfl⟩
          go_wp2_with fail
          go_ret
          exact ⟨by have h1 := HZ.out; have h2 := HS.out; rw [← h1, h2]; rfl, rfl⟩
    · have hki : ¬ (k : Int) < s.size := by omega
      have hmn : min (k : Int) (s.size : Int) = (k : Int) := by omega
      have HS := Lib.hid (upN_stop p s.data.toList k (fun d hd => absurd (List.getElem?_eq_some_iff.1 hd).1 (by simpa using hlt)))
      clear hlt
      go_wp2_with fail
      go_ret
      exact ⟨by have h1 := HZ.out; have h2 := HS.out; rw [← h1, h2]; rfl, rfl⟩
def retB (x : Nat × Bool) : Value := .tuple #[.int .i64 (x.1 : Int), .bool x.2]
set_option maxHeartbeats 1600000 in
set_option maxRecDepth 100000 in
theorem begin_out (s : ByteArray) (z : Int) (w : World) (h : z < 0) : Calls Tryd.prog 25 #[.string s, .int .i64 z] w fun e w' => e = .returned (retB (0, false)) ∧ w = w' := by
  go_enter Tryd.func25, Tryd.ntmps25
  go_wp2
  go_ret2
  exact ⟨rfl, rfl⟩
theorem at_get {s : ByteArray} {k : Nat} (h : k < s.size) : s.data.toList[k]? = some s[k] := by rw [List.getElem?_eq_getElem (by simpa using h)]; rfl
theorem at_none {s : ByteArray} {k : Nat} (h : ¬ k < s.size) : s.data.toList[k]? = none := by rw [List.getElem?_eq_none]; simp; omega
theorem byte_is {c d : UInt8} {z : Int} (h : c = d) (hz : (d.toNat : Int) = z) : ((c.toNat : Int) == z) = true := by subst h; rw [hz]; simp
theorem byte_not {c d : UInt8} {z : Int} (h : ¬ c = d) (hz : (d.toNat : Int) = z) : ((c.toNat : Int) == z) = false := by
  rw [← hz, beq_eq_false_iff_ne]
  intro e
  exact h (UInt8.toNat_inj.1 (by omega))
theorem byte_is' {c d : UInt8} {z : Int} (h : c = d) (hz : (d.toNat : Int) = z) : ((c.toNat : Int) != z) = false := by unfold bne; rw [byte_is h hz]; rfl
theorem byte_not' {c d : UInt8} {z : Int} (h : ¬ c = d) (hz : (d.toNat : Int) = z) : ((c.toNat : Int) != z) = true := by unfold bne; rw [byte_not h hz]; rfl
set_option maxHeartbeats 3200000 in
set_option maxRecDepth 100000 in
theorem begin_any (s : ByteArray) (a : Nat) (w : World) (ha : a ≤ 1000000) (hs : s.size ≤ 1000000) : Calls Tryd.prog 25 #[.string s, .int .i64 a] w fun e w' => e = .returned (retB (beginL s.data.toList a)) ∧ w = w' := by
  obtain ⟨Z, hZ⟩ : ∃ Z, beginL s.data.toList a = Z := ⟨_, rfl⟩
  rw [hZ]
  unfold beginL at hZ
  have ha0 : ¬ (a : Int) < 0 := by omega
  by_cases h0 : a < s.size
  · have i0 : (a : Int) < s.size := by omega
    have i0' : ¬ (s.size : Int) ≤ a := by omega
    rw [at_get h0] at hZ
    by_cases h60 : s[a] = 60
    · rw [if_pos (by rw [h60])] at hZ
      have t0 := byte_is' (z := 60) h60 rfl
      obtain ⟨A, hA⟩ : ∃ A, a + 1 = A := ⟨_, rfl⟩
      have hAi : (a : Int) + 1 = (A : Int) := by omega
      obtain ⟨B, hB⟩ : ∃ B, a + 2 = B := ⟨_, rfl⟩
      have hBi : (A : Int) + 1 = (B : Int) := by omega
      rw [hA, hB] at hZ
      by_cases h1 : A < s.size
      · have i1 : (A : Int) < s.size := by omega
        have i1' : ¬ (s.size : Int) ≤ A := by omega
        rw [at_get h1] at hZ
        by_cases h47 : s[A] = 47
        · have t1 := byte_is (z := 47) h47 rfl
          rw [if_pos (by rw [h47])] at hZ
          by_cases h2 : B < s.size
          · have i2 : (B : Int) < s.size := by omega
            have i2' : ¬ (s.size : Int) ≤ B := by omega
            rw [at_get h2] at hZ
            simp only [] at hZ
            have HAL := Lib.hid (alpha_any (s[B].toNat : Int) w)
            cases hal : alI (s[B].toNat : Int) with
            | true =>
              rw [if_pos hal] at hZ
              rw [hal] at HAL
              subst hZ
              clear hal h60 h47 hA hB
              go_enter Tryd.func25, Tryd.ntmps25
              go_wp2_with fail
              refine HAL.out.mono ?_
              rintro e w' ⟨rfl, rfl⟩
              go_wp2_with fail
              go_ret2
              exact ⟨rfl, rfl⟩
            | false =>
              rw [if_neg (by rw [hal]; simp)] at hZ
              rw [hal] at HAL
              subst hZ
              clear hal h60 h47 hA hB
              go_enter Tryd.func25, Tryd.ntmps25
              go_wp2_with fail
              refine HAL.out.mono ?_
              rintro e w' ⟨rfl, rfl⟩
              go_wp2_with fail
              go_ret2
              exact ⟨rfl, rfl⟩
          · have i2 : (s.size : Int) ≤ B := by omega
            rw [at_none h2] at hZ
            simp only [] at hZ
            subst hZ
            clear h60 h47 hA hB
            go_enter Tryd.func25, Tryd.ntmps25
            go_wp2_with fail
            go_ret2
            exact ⟨rfl, rfl⟩
        · have t1 := byte_not (z := 47) h47 rfl
          rw [if_neg (by simpa using h47)] at hZ
          simp only [] at hZ
          have HAL := Lib.hid (alpha_any (s[A].toNat : Int) w)
          cases hal : alI (s[A].toNat : Int) with
          | true =>
            rw [if_pos hal] at hZ
            rw [hal] at HAL
            subst hZ
            clear hal h60 h47 hA hB
            go_enter Tryd.func25, Tryd.ntmps25
            go_wp2_with fail
            refine HAL.out.mono ?_
            rintro e w' ⟨rfl, rfl⟩
            go_wp2_with fail
            go_ret2
            exact ⟨rfl, rfl⟩
          | false =>
            rw [if_neg (by rw [hal]; simp)] at hZ
            rw [hal] at HAL
            subst hZ
            clear hal h60 h47 hA hB
            go_enter Tryd.func25, Tryd.ntmps25
            go_wp2_with fail
            refine HAL.out.mono ?_
            rintro e w' ⟨rfl, rfl⟩
            go_wp2_with fail
            go_ret2
            exact ⟨rfl, rfl⟩
      · have i1 : ¬ (A : Int) < s.size := by omega
        have i1' : (s.size : Int) ≤ A := by omega
        rw [at_none h1] at hZ
        simp only [] at hZ
        subst hZ
        clear h60 hA hB
        go_enter Tryd.func25, Tryd.ntmps25
        go_wp2_with fail
        go_ret2
        exact ⟨rfl, rfl⟩
    · rw [if_neg (by simpa using h60)] at hZ
      have t0 := byte_not' (z := 60) h60 rfl
      subst hZ
      clear h60
      go_enter Tryd.func25, Tryd.ntmps25
      go_wp2_with fail
      go_ret2
      exact ⟨rfl, rfl⟩
  · have i0 : (s.size : Int) ≤ a := by omega
    rw [at_none h0, if_neg (by simp)] at hZ
    subst hZ
    go_enter Tryd.func25, Tryd.ntmps25
    go_wp2_with fail
    go_ret2
    exact ⟨rfl, rfl⟩
end Go.Proofs.YteeplfbaflldaaaDoor.T10
