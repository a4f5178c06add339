/- The law BaseTell. -/
import Derived.Test.YtfbmabbehiicmaaDoorR64e
set_option linter.unusedVariables false
namespace Go.Proofs.YtfbmabbehiicmaaDoor
open Go.RowKit

theorem encX_size {s : ByteArray} : (⟨(encE s.data.toList).toArray⟩ : ByteArray).size ≤ 2 * s.size + 6 := by rw [encB_size]; omega
set_option maxHeartbeats 4000000 in
set_option maxRecDepth 100000 in
theorem baseTell_law (s : ByteArray) (m : Int) (w : World) (hs : s.size ≤ maxLen) (hm : MaxOk m w) :
    Calls Tryd.prog 7 #[.string s] w fun e w' => e = .returned (.bool true) ∧ Below w.heap.size w w' := by
  have HM := Lib.hid hm
  clear hm
  unfold maxLen at hs
  by_cases h1 : 2000 < s.size
  · go_enter Tryd.func7, Tryd.ntmps7
    go_wp2_with fail
    refine (lettered_any m _ HM.out).mono ?_
    rintro e w1 ⟨rfl, b1⟩
    go_wp2_with fail
    go_ret
    exact ⟨rfl, b1⟩
  · obtain ⟨X, E, hXE⟩ : ∃ (X : ByteArray) (E : Int), ∀ e, DecRes (decE s.data.toList) e → e = .returned (.tuple #[.string X, .int .i64 E]) := ⟨_, _, fun e h => h⟩
    have HXE := Lib.hid hXE
    clear hXE
    obtain ⟨T, hT⟩ : ∃ T : ByteArray, (⟨(encE s.data.toList).toArray⟩ : ByteArray) = T := ⟨_, rfl⟩
    obtain ⟨P, hP⟩ : ∃ P : ByteArray, (⟨(plainL s.data.toList).toArray⟩ : ByteArray) = P := ⟨_, rfl⟩
    have HT := Lib.hid hT
    have HP := Lib.hid hP
    clear hT hP
    go_enter Tryd.func7, Tryd.ntmps7
    go_wp2_with fail
    refine (bdecode_any s _ (by omega)).mono ?_
    rintro e w1 ⟨d1, b1⟩
    obtain rfl := HXE.out e d1
    clear d1
    go_wp2_with fail
    refine (rbdecode_any s _ (by omega)).mono ?_
    rintro e w2 ⟨d2, b2⟩
    obtain rfl := HXE.out e d2
    clear d2
    have c2 := b1.trans (b2.mono b1.size)
    go_wp2_with fail
    refine (bencode_any s _ (by omega)).mono ?_
    rintro e w3 ⟨rfl, b3⟩
    rw [HT.out]
    have c3 := c2.trans (b3.mono c2.size)
    go_wp2_with fail
    refine (rencode_any s _ (by omega)).mono ?_
    rintro e w4 ⟨rfl, b4⟩
    rw [HT.out]
    have c4 := c3.trans (b4.mono c3.size)
    go_wp2_with fail
    refine (bplain_any s m _ (by omega) (HM.out.below c4)).mono ?_
    rintro e w5 ⟨rfl, b5⟩
    rw [HP.out]
    have c5 := c4.trans (b5.mono c4.size)
    go_wp2_with fail
    refine (rplain_any s _ (by omega)).mono ?_
    rintro e w6 ⟨rfl, b6⟩
    rw [HP.out]
    have c6 := c5.trans (b6.mono c5.size)
    go_wp2_with fail
    refine (lettered_any m _ (HM.out.below c6)).mono ?_
    rintro e w7 ⟨rfl, b7⟩
    go_wp2_with fail
    go_ret
    exact ⟨rfl, c6.trans (b7.mono c6.size)⟩
end Go.Proofs.YtfbmabbehiicmaaDoor
