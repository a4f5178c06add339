/- The law PercentTell. -/
import Derived.Test.YtfbmabbehiicmaaPerc7
import Derived.Test.YtfbmabbehiicmaaPerc6
import Derived.Test.YtfbmabbehiicmaaLPerc
set_option linter.unusedVariables false
namespace Go.Proofs.Ytfbmabbehiicmaa
open Go.RowKit

set_option maxHeartbeats 4000000 in
set_option maxRecDepth 100000 in
theorem percentTell_law (s : ByteArray) (x : Int) (w : World) (hs : s.size ≤ maxLen) :
    Calls Try.prog 3 #[.string s, .int .i64 x] w fun e w' => e = .returned (.bool true) ∧ Below w.heap.size w w' := by
  unfold maxLen at hs
  by_cases h1 : 2000 < s.size
  · go_enter Try.func3, Try.ntmps3
    go_wp2_with fail
    refine (signs_any _).mono ?_
    rintro e w1 ⟨rfl, b1⟩
    go_wp2_with fail
    go_ret
    exact ⟨rfl, b1⟩
  · have cE := Lib.hid (fun k wx => pencode_any s k wx (by omega))
    have cR := Lib.hid (fun k wx => rpencode_any s k wx (by omega))
    have cD := Lib.hid (fun wx => pdecode_any s wx (by omega))
    have cQ := Lib.hid (fun wx => rpdecode_any s wx (by omega))
    obtain ⟨E, hE⟩ : ∃ E : Int → ByteArray, ∀ k : Int, (⟨(if 0 ≤ k ∧ k ≤ 6 then encP (inS k) s.data.toList else []).toArray⟩ : ByteArray) = E k := ⟨_, fun k => rfl⟩
    obtain ⟨D, hD⟩ : ∃ D : ByteArray, (⟨(decP s.data.toList).toArray⟩ : ByteArray) = D := ⟨_, rfl⟩
    simp only [hE] at cE cR
    simp only [hD] at cD cQ
    clear hE hD
    go_enter Try.func3, Try.ntmps3
    go_wp2_with fail
    go_loopw [5] (fun i wr => ∃ k : Int, 0 ≤ k ∧ k ≤ 7 ∧ i = .int .i64 k ∧ Hid (Below w.heap.size w wr)) (fun i _ => (7 - intOf i).toNat)
    case atStart => exact ⟨0, by omega, by omega, rfl, Below.refl _ _⟩
    case round =>
      obtain ⟨k, hk0, hk7, rfl, hb⟩ := hrel
      by_cases hlt : k < 7
      · go_wp2_with fail
        refine (cE.out k _).mono ?_
        rintro e w1 ⟨rfl, b1⟩
        go_wp2_with fail
        refine (cR.out k _).mono ?_
        rintro e w2 ⟨rfl, b2⟩
        go_wp2_with fail
        go_roundw
        case rel =>
          refine ⟨k + 1, by omega, by omega, by go_num, ?_⟩
          have c1 := hb.out.trans (b1.mono hb.out.size)
          exact c1.trans (b2.mono c1.size)
        case measure => simp [intOf]; omega
      · go_wp2_with fail
        refine (cD.out _).mono ?_
        rintro e w1 ⟨rfl, b1⟩
        go_wp2_with fail
        refine (cQ.out _).mono ?_
        rintro e w2 ⟨rfl, b2⟩
        go_wp2_with fail
        refine (cE.out x _).mono ?_
        rintro e w3 ⟨rfl, b3⟩
        go_wp2_with fail
        refine (cR.out x _).mono ?_
        rintro e w4 ⟨rfl, b4⟩
        go_wp2_with fail
        refine (signs_any _).mono ?_
        rintro e w5 ⟨rfl, b5⟩
        go_wp2_with fail
        go_ret
        have c1 := hb.out.trans (b1.mono hb.out.size)
        have c2 := c1.trans (b2.mono c1.size)
        have c3 := c2.trans (b3.mono c2.size)
        have c4 := c3.trans (b4.mono c3.size)
        exact ⟨rfl, c4.trans (b5.mono c4.size)⟩
end Go.Proofs.Ytfbmabbehiicmaa
