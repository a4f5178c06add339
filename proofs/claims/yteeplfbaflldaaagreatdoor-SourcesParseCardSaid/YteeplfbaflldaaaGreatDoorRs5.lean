/- lazaretref25: labels, port. -/
import Derived.Test.YteeplfbaflldaaaGreatDoorRs4
set_option linter.unusedVariables false
set_option linter.unusedSimpArgs false
namespace Go.Proofs.YteeplfbaflldaaaGreatDoor.S25
open Go.RowKit T10

/-! Labels -/
theorem sfold_prefix (d : UInt8) : ∀ (l : List UInt8) (st : List (List UInt8) × List UInt8), ∃ t, (l.foldl (sStep d) st).1 = st.1 ++ t := by
  intro l
  induction l with
  | nil => intro st; exact ⟨[], by simp⟩
  | cons x r ih =>
    intro st
    obtain ⟨t, ht⟩ := ih (sStep d st x)
    rw [List.foldl_cons, ht]
    unfold sStep
    split
    · exact ⟨[st.2] ++ t, by simp⟩
    · exact ⟨t, rfl⟩
theorem srun_all (d : UInt8) (l : List UInt8) : (sRun d l).1 ++ [(sRun d l).2] = spl d l := by
  have := sFold d l ([], [])
  unfold sRun
  rw [this]
  cases hs : spl d l with
  | nil => exact absurd hs (spl_ne d l)
  | cons p ps => simp
theorem srun_take {l : List UInt8} {k : Nat} {c : UInt8} (h : l[k]? = some c) (d : UInt8) : sRun d (l.take (k + 1)) = sStep d (sRun d (l.take k)) c := by
  rw [take_snoc1 h, sRun_snoc]
theorem srun_bad {l : List UInt8} {k : Nat} {c : UInt8} (h : l[k]? = some c) (hc : c = 46) (hb : wordB dashC (sRun 46 (l.take k)).2 = false) : labB l = false := by
  have hl : l = l.take (k + 1) ++ l.drop (k + 1) := (List.take_append_drop _ _).symm
  obtain ⟨t, ht⟩ := sfold_prefix 46 (l.drop (k + 1)) (sRun 46 (l.take (k + 1)))
  have e : (sRun 46 l).1 = (sRun 46 (l.take (k + 1))).1 ++ t := by
    conv => lhs; rw [hl]
    unfold sRun
    rw [List.foldl_append]
    exact ht
  rw [srun_take h, hc] at e
  unfold labB
  rw [← srun_all, List.all_eq_false]
  refine ⟨(sRun 46 (l.take k)).2, ?_, by rw [hb]; simp⟩
  rw [e]
  unfold sStep
  rw [if_pos rfl]
  simp
/-- What the loop over labels knows ahead of byte k. -/
def LabAt (l : List UInt8) (k f : Nat) : Prop := f ≤ k ∧ (l.drop f).take (k - f) = (sRun 46 (l.take k)).2 ∧ (sRun 46 (l.take k)).1.all (wordB dashC) = true
theorem LabAt.next {l : List UInt8} {k f : Nat} {c : UInt8} (h : LabAt l k f) (hc : l[k]? = some c) (hne : c ≠ 46) : LabAt l (k + 1) f := by
  obtain ⟨h1, h2, h3⟩ := h
  unfold LabAt
  rw [srun_take hc]
  unfold sStep
  rw [if_neg hne]
  refine ⟨by omega, ?_, h3⟩
  rw [← h2, show k + 1 - f = (k - f) + 1 by omega, List.take_add_one, List.getElem?_drop, show f + (k - f) = k by omega, hc]
  rfl
theorem LabAt.dot {l : List UInt8} {k f : Nat} {c : UInt8} (h : LabAt l k f) (hc : l[k]? = some c) (he : c = 46) (hg : wordB dashC (sRun 46 (l.take k)).2 = true) : LabAt l (k + 1) (k + 1) := by
  obtain ⟨h1, h2, h3⟩ := h
  unfold LabAt
  rw [srun_take hc]
  unfold sStep
  rw [if_pos he]
  exact ⟨Nat.le_refl _, by simp, by rw [List.all_append, h3]; simp [hg]⟩
set_option maxHeartbeats 1600000 in
set_option maxRecDepth 100000 in
theorem rlabels_any (s : ByteArray) (w : World) (hs : s.size ≤ 1000000) :
    Calls Tryz.prog 33 #[.string s] w fun e w' => e = .returned (.bool (labB s.data.toList)) ∧ w = w' := by
  have hsl : s.data.toList.length = s.size := by simp
  obtain ⟨Z, hZ⟩ : ∃ Z, labB s.data.toList = Z := ⟨_, rfl⟩
  rw [hZ]
  have HZ := Lib.hid hZ
  have HSL := Lib.hid hsl
  clear hZ hsl
  go_enter Tryz.func33, Tryz.ntmps33
  go_wp2_with fail
  go_loop [2, 3, 4] (fun r f i => ∃ k j : Nat, k ≤ s.size + 1 ∧ j ≤ s.size + 1 ∧ r = .bool false ∧ f = .int .i64 j ∧ i = .int .i64 k ∧ Hid (k ≤ s.size → LabAt s.data.toList k j) ∧ Hid (k = s.size + 1 → Z = true)) (fun _ _ i => s.size + 1 - (intOf i).toNat)
  case atStart => exact ⟨0, 0, Nat.zero_le _, Nat.zero_le _, rfl, rfl, rfl, (fun _ => ⟨Nat.le_refl _, by simp [sRun], by simp [sRun]⟩), fun h => absurd h (by omega)⟩
  case round =>
    obtain ⟨k, j, hk, hj, rfl, rfl, rfl, HL, HE⟩ := hrel
    by_cases hle : k ≤ s.size
    · have hlei : (k : Int) ≤ s.size := by omega
      have HA := Lib.hid (HL.out hle)
      have hjk := HA.out.1
      have hjki : (j : Int) ≤ k := by omega
      have HO := Lib.hid (ronly_any ⟨#[45]⟩ dashC (fun c => in_dash c) (s.extract j k) w (by simp; omega) (by decide))
      have HX : Hid ((s.extract j k).data.toList = (sRun 46 (s.data.toList.take k)).2) := by
        show _ = _
        rw [ext_list, HA.out.2.1]
      have HO2 : Hid (Calls Tryz.prog 28 #[.string (s.extract j k), .string ⟨#[45]⟩] w fun e w' => e = .returned (.bool (wordB dashC (sRun 46 (s.data.toList.take k)).2)) ∧ w = w') := by
        have := HO.out
        rw [HX.out] at this
        exact this
      obtain ⟨G, hG⟩ : ∃ G, wordB dashC (sRun 46 (s.data.toList.take k)).2 = G := ⟨_, rfl⟩
      rw [hG] at HO2
      have HG := Lib.hid hG
      clear hG HO HX
      by_cases hend : k = s.size
      · have t1 : ((k : Int) == s.size) = true := by rw [beq_iff_eq]; omega
        have HT : Hid (labB s.data.toList = G) := by
          show _ = _
          have h3 := HA.out.2.2
          have hg := HG.out
          rw [hend, List.take_of_length_le (by rw [HSL.out]; exact Nat.le_refl _)] at h3 hg
          unfold labB
          rw [← srun_all, List.all_append, h3]
          simp [hg]
        have hki1 : ((k + 1 : Nat) : Int) = (k : Int) + 1 := by omega
        cases G with
        | true =>
          have HZT : Hid (Z = true) := by show _ = _; rw [← HZ.out, HT.out]
          have hk1 : k + 1 ≤ s.size + 1 := by omega
          have hk2 : k + 1 = s.size + 1 := by omega
          have HK2 := Lib.hid hk2
          clear hend hk2
          go_wp2_with (go_at_call 28; refine HO2.out.mono ?_; rintro e w' ⟨rfl, rfl⟩)
          go_round
          case rel => exact ⟨k + 1, k + 1, hk1, hk1, rfl, by go_num, by go_num, (fun h => absurd h (by have := HK2.out; omega)), fun _ => HZT.out⟩
          case measure => simp [intOf]; omega
        | false =>
          have HZT : Hid (Z = false) := by show _ = _; rw [← HZ.out, HT.out]
          clear hend
          go_wp2_with (go_at_call 28; refine HO2.out.mono ?_; rintro e w' ⟨rfl, rfl⟩)
          go_ret
          exact ⟨by rw [HZT.out]; rfl, rfl⟩
      · have t1 : ((k : Int) == s.size) = false := by rw [beq_eq_false_iff_ne]; omega
        have hks : k < s.size := by omega
        have hksi : (k : Int) < s.size := by omega
        obtain ⟨c, hc⟩ : ∃ c, s[k] = c := ⟨_, rfl⟩
        have hg := at_get hks
        rw [hc] at hg
        have HGT := Lib.hid hg
        have hk1 : k + 1 ≤ s.size + 1 := by omega
        have hj1 : j ≤ s.size + 1 := hj
        have HKS := Lib.hid hks
        clear hg
        by_cases h46 : c = 46
        · have t2 : ((c.toNat : Int) == 46) = true := by rw [h46]; rfl
          have HC := Lib.hid h46
          clear h46
          cases G with
          | true =>
            have HN := Lib.hid (HA.out.dot HGT.out HC.out HG.out)
            go_wp2_with (go_at_call 28; refine HO2.out.mono ?_; rintro e w' ⟨rfl, rfl⟩)
            go_round
            case rel => exact ⟨k + 1, k + 1, hk1, hk1, rfl, by go_num, by go_num, (fun _ => HN.out), fun h => absurd h (by have := HKS.out; omega)⟩
            case measure => simp [intOf]; omega
          | false =>
            have HZT : Hid (Z = false) := by show _ = _; rw [← HZ.out]; exact srun_bad HGT.out HC.out HG.out
            go_wp2_with (go_at_call 28; refine HO2.out.mono ?_; rintro e w' ⟨rfl, rfl⟩)
            go_ret
            exact ⟨by rw [HZT.out]; rfl, rfl⟩
        · have t2 : ((c.toNat : Int) == 46) = false := by
            rw [beq_eq_false_iff_ne]
            intro e
            exact h46 (UInt8.toNat_inj.1 (by show c.toNat = 46; omega))
          have HN := Lib.hid (HA.out.next HGT.out h46)
          clear h46
          go_wp2_with fail
          go_round
          case rel => exact ⟨k + 1, j, hk1, hj1, rfl, rfl, by go_num, (fun _ => HN.out), fun h => absurd h (by have := HKS.out; omega)⟩
          case measure => simp [intOf]; omega
    · have hlei : ¬ (k : Int) ≤ s.size := by omega
      have HZT := Lib.hid (HE.out (by omega))
      go_wp2_with fail
      go_ret
      exact ⟨by rw [HZT.out]; rfl, rfl⟩
end Go.Proofs.YteeplfbaflldaaaGreatDoor.S25
