/- The law TrustedMore. -/
import Derived.Test.YtgaeecphohlmpabDoorOkD29
set_option linter.unusedVariables false
namespace Go.Proofs.YtgaeecphohlmpabDoor
open Go.RowKit

theorem str_list (zs : List ByteArray) : zs.map Value.string = strCells (zs.map fun z => z.data.toList) := by
  unfold strCells
  rw [List.map_map]
  rfl

set_option maxHeartbeats 3200000 in
set_option maxRecDepth 100000 in
theorem trustedMore_law (s nm : ByteArray) (tv : Value) (zs : List ByteArray) (m : Int) (w : World) (ht : SliceIn w tv (zs.map Value.string)) (hm : MaxOk m w) :
    Calls Tryd.prog 5 #[.string s, .string nm, tv] w fun e w' => e = .returned (.bool true) ∧ Below w.heap.size w w' := by
  rw [str_list] at ht
  obtain ⟨there, hth⟩ : ∃ there, (zs.map fun z => z.data.toList) = there := ⟨_, rfl⟩
  rw [hth] at ht
  clear hth
  obtain ⟨ao, cap, htv, hlm⟩ := text_shape ht
  unfold maxLen at hlm
  subst htv
  have HT := Lib.hid ht
  clear ht
  have big : (300 < s.size ∨ 100 < nm.size ∨ 10 < there.length) ∨ (s.size ≤ 300 ∧ nm.size ≤ 100 ∧ there.length ≤ 10) := by omega
  rcases big with big | ⟨h1, h2, h3⟩
  · by_cases a1 : 300 < s.size
    · have a1' : (300 : Int) < s.size := by omega
      go_enter Tryd.func5, Tryd.ntmps5
      go_wp2_with (go_at_call 7; refine (types_any m w hm).mono ?_; rintro e w1 ⟨rfl, b1⟩)
      go_ret
      exact ⟨by exact rfl, b1⟩
    · have a1' : ¬ (300 : Int) < s.size := by omega
      by_cases a2 : 100 < nm.size
      · have a2' : (100 : Int) < nm.size := by omega
        go_enter Tryd.func5, Tryd.ntmps5
        go_wp2_with (go_at_call 7; refine (types_any m w hm).mono ?_; rintro e w1 ⟨rfl, b1⟩)
        go_ret
        exact ⟨by exact rfl, b1⟩
      · have a2' : ¬ (100 : Int) < nm.size := by omega
        have a3' : (10 : Int) < there.length := by omega
        go_enter Tryd.func5, Tryd.ntmps5
        go_wp2_with (go_at_call 7; refine (types_any m w hm).mono ?_; rintro e w1 ⟨rfl, b1⟩)
        go_ret
        exact ⟨by exact rfl, b1⟩
  · have a1' : ¬ (300 : Int) < s.size := by omega
    have a2' : ¬ (100 : Int) < nm.size := by omega
    have a3' : ¬ (10 : Int) < there.length := by omega
    obtain ⟨X, hX⟩ : ∃ X, oneL txX = X := ⟨_, rfl⟩
    obtain ⟨Z, hZ⟩ : ∃ Z, oneL txZ = Z := ⟨_, rfl⟩
    have okX : Hid (OkDs X) := by rw [← hX]; show OkDs _; decide +kernel
    have okZ : Hid (OkDs Z) := by rw [← hZ]; show OkDs _; decide +kernel
    have hmm := more_made nm.data.toList there
    rw [hX, hZ] at hmm
    obtain ⟨cx, hcx⟩ : ∃ c, creB X nm.data.toList there = c := ⟨_, rfl⟩
    obtain ⟨cz, hcz⟩ : ∃ c, creB Z nm.data.toList there = c := ⟨_, rfl⟩
    rw [hcx, hcz] at hmm
    have HM := Lib.hid hmm
    have HX1 := Lib.hid (of_any ⟨txX.toArray⟩ m w (by decide) hm)
    rw [show (⟨txX.toArray⟩ : ByteArray).data.toList = txX from by simp, hX] at HX1
    unfold txX at HX1
    clear hmm
    go_enter Tryd.func5, Tryd.ntmps5
    go_wp2_with fail
    refine HX1.out.mono ?_
    rintro e w1 ⟨⟨v1, rfl, d1⟩, b1⟩
    have B1 := Lib.hid b1
    have R1 := Lib.hid (creates_any _ false X nm _ there w1 d1 okX.out.1 okX.out.2 (HT.out.below b1))
    rw [hcx] at R1
    clear d1 b1 HX1
    go_wp2_with fail
    refine R1.out.mono ?_
    rintro e w2 ⟨rfl, b2⟩
    have B2 : Hid (Below w.heap.size w w2) := B1.out.trans (b2.mono B1.out.size)
    have HZ1 := Lib.hid (of_any ⟨txZ.toArray⟩ m w2 (by decide) (hm.below B2.out))
    rw [show (⟨txZ.toArray⟩ : ByteArray).data.toList = txZ from by simp, hZ] at HZ1
    unfold txZ at HZ1
    clear b2 R1
    go_wp2_with fail
    refine HZ1.out.mono ?_
    rintro e w3 ⟨⟨v3, rfl, d3⟩, b3⟩
    have B3 : Hid (Below w.heap.size w w3) := B2.out.trans (b3.mono B2.out.size)
    have R1 := Lib.hid (creates_any _ false Z nm _ there w3 d3 okZ.out.1 okZ.out.2 (HT.out.below B3.out))
    rw [hcz] at R1
    clear d3 b3 HZ1
    go_wp2_with fail
    refine R1.out.mono ?_
    rintro e w4 ⟨rfl, b4⟩
    have B4 : Hid (Below w.heap.size w w4) := B3.out.trans (b4.mono B3.out.size)
    clear b4 R1
    have HCC : Hid ((!cx || cz) = true) := HM.out
    have hq1 : ((⟨#[114, 101, 113, 117, 105, 114, 101, 45, 116, 114, 117, 115, 116, 101, 100, 45, 116, 121, 112, 101, 115, 45, 102, 111, 114, 32, 39, 115, 99, 114, 105, 112, 116, 39, 32, 59]⟩ : ByteArray) ++ s).data.toList = txS ++ 59 :: s.data.toList := by
      rw [ByteArray.data_append, Array.toList_append]
      rfl
    have hq2 : ((⟨#[114, 101, 113, 117, 105, 114, 101, 45, 116, 114, 117, 115, 116, 101, 100, 45, 116, 121, 112, 101, 115, 45, 102, 111, 114, 32, 39, 115, 99, 114, 105, 112, 116, 39, 32, 59]⟩ : ByteArray) ++ s).size ≤ 1073741824 := by
      rw [ByteArray.size_append]
      show 36 + s.size ≤ _
      omega
    have HQ := Lib.hid (of_any _ m w4 hq2 (hm.below B4.out))
    have HOK : Hid (OkDs (oneL (txS ++ 59 :: s.data.toList))) := oneL_ok (by
      rw [← hq1, Array.length_toList]
      exact Nat.le_trans (Nat.succ_le_succ hq2) (by decide))
    have HRQ := Lib.hid (req_front s.data.toList)
    rw [hq1] at HQ
    clear hq1 hq2
    obtain ⟨O, hO⟩ : ∃ O, oneL (txS ++ 59 :: s.data.toList) = O := ⟨_, rfl⟩
    rw [hO] at HQ HOK HRQ
    clear hO hcx hcz hX hZ
    have HTY := Lib.hid (fun W => types_any m W)
    cases cx <;> cases cz
    case true.false => exact absurd HCC.out (by decide)
    all_goals
      go_wp2_with fail
      refine HQ.out.mono ?_
      rintro e w5 ⟨⟨v5, rfl, d5⟩, b5⟩
      have B5 : Hid (Below w.heap.size w w5) := B4.out.trans (b5.mono B4.out.size)
      have R1 := Lib.hid (requires_any v5 false O w5 d5 HOK.out.1 HOK.out.2)
      rw [HRQ.out] at R1
      clear d5 b5
      go_wp2_with fail
      refine R1.out.mono ?_
      rintro e w6 ⟨rfl, b6⟩
      have B6 : Hid (Below w.heap.size w w6) := B5.out.trans (b6.mono B5.out.size)
      clear b6 R1
      go_wp2_with fail
      refine (HTY.out w6 (hm.below B6.out)).mono ?_
      rintro e w7 ⟨rfl, b7⟩
      have B7 : Hid (Below w.heap.size w w7) := B6.out.trans (b7.mono B6.out.size)
      clear b7
      go_wp2_with fail
      go_ret
      exact ⟨by exact rfl, B7.out⟩
end Go.Proofs.YtgaeecphohlmpabDoor
