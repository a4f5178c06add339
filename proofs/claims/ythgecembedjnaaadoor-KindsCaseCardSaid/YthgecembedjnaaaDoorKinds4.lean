/- The chapter's examples of layer 13. -/
import Derived.Test.YthgecembedjnaaaDoorKinds3
set_option linter.unusedVariables false
namespace Go.Proofs.YthgecembedjnaaaDoor
open Go.RowKit

set_option maxHeartbeats 4000000 in
set_option maxRecDepth 100000 in
theorem listed_any (m : Int) (w : World) (hm : MaxOk m w) (hk : KTabs w) :
    Calls Tryd.prog 35 #[] w fun e w' => e = .returned (.bool true) ∧ w = w' := by
  have HM := Lib.hid hm
  have HK := Lib.hid hk
  clear hm hk
  go_enter Tryd.func35, Tryd.ntmps35
  go_wp2_with fail
  refine (special_any 0 ⟨#[112]⟩ m _ (by decide) (by decide) (by decide) HM.out HK.out).mono ?_
  rintro e w' ⟨rfl, rfl⟩
  rw [show specialS 0 (⟨#[112]⟩ : ByteArray).data.toList = true from by decide]
  go_wp2_with fail
  refine (special_any 1 ⟨#[112]⟩ m _ (by decide) (by decide) (by decide) HM.out HK.out).mono ?_
  rintro e w' ⟨rfl, rfl⟩
  rw [show specialS 1 (⟨#[112]⟩ : ByteArray).data.toList = false from by decide]
  go_wp2_with fail
  refine (special_any 1 ⟨#[116, 105, 116, 108, 101]⟩ m _ (by decide) (by decide) (by decide) HM.out HK.out).mono ?_
  rintro e w' ⟨rfl, rfl⟩
  rw [show specialS 1 (⟨#[116, 105, 116, 108, 101]⟩ : ByteArray).data.toList = true from by decide]
  go_wp2_with fail
  refine (special_any 1 ⟨#[102, 111, 114, 101, 105, 103, 110, 111, 98, 106, 101, 99, 116]⟩ m _ (by decide) (by decide) (by decide) HM.out HK.out).mono ?_
  rintro e w' ⟨rfl, rfl⟩
  rw [show specialS 1 (⟨#[102, 111, 114, 101, 105, 103, 110, 111, 98, 106, 101, 99, 116]⟩ : ByteArray).data.toList = true from by decide]
  go_wp2_with fail
  refine (special_any 1 ⟨#[102, 111, 114, 101, 105, 103, 110, 79, 98, 106, 101, 99, 116]⟩ m _ (by decide) (by decide) (by decide) HM.out HK.out).mono ?_
  rintro e w' ⟨rfl, rfl⟩
  rw [show specialS 1 (⟨#[102, 111, 114, 101, 105, 103, 110, 79, 98, 106, 101, 99, 116]⟩ : ByteArray).data.toList = false from by decide]
  go_wp2_with fail
  refine (scope_any 1 0 ⟨#[117, 108]⟩ m _ (by decide) (by decide) (by decide) (by decide) (by decide) HM.out HK.out).mono ?_
  rintro e w' ⟨rfl, rfl⟩
  rw [show scopeS 1 0 (⟨#[117, 108]⟩ : ByteArray).data.toList = true from by decide]
  go_wp2_with fail
  refine (scope_any 3 0 ⟨#[116, 100]⟩ m _ (by decide) (by decide) (by decide) (by decide) (by decide) HM.out HK.out).mono ?_
  rintro e w' ⟨rfl, rfl⟩
  rw [show scopeS 3 0 (⟨#[116, 100]⟩ : ByteArray).data.toList = false from by decide]
  go_wp2_with fail
  refine (state_any ⟨#[115, 116, 121, 108, 101]⟩ m _ (by decide) HM.out HK.out).mono ?_
  rintro e w' ⟨rfl, rfl⟩
  rw [show stateS (⟨#[115, 116, 121, 108, 101]⟩ : ByteArray).data.toList = 2 from by decide]
  go_wp2_with fail
  refine (state_any ⟨#[110, 111, 115, 99, 114, 105, 112, 116]⟩ m _ (by decide) HM.out HK.out).mono ?_
  rintro e w' ⟨rfl, rfl⟩
  rw [show stateS (⟨#[110, 111, 115, 99, 114, 105, 112, 116]⟩ : ByteArray).data.toList = 0 from by decide]
  go_wp2_with fail
  refine (heading_any ⟨#[104, 55]⟩ m _ (by decide) HM.out).mono ?_
  rintro e w' ⟨rfl, rfl⟩
  rw [show memW headingW (⟨#[104, 55]⟩ : ByteArray).data.toList = false from by decide]
  go_wp2_with fail
  refine (heading_any ⟨#[104, 54]⟩ m _ (by decide) HM.out).mono ?_
  rintro e w' ⟨rfl, rfl⟩
  rw [show memW headingW (⟨#[104, 54]⟩ : ByteArray).data.toList = true from by decide]
  go_wp2_with fail
  refine (formatting_any ⟨#[110, 111, 98, 114]⟩ m _ (by decide) HM.out).mono ?_
  rintro e w' ⟨rfl, rfl⟩
  rw [show memW formattingW (⟨#[110, 111, 98, 114]⟩ : ByteArray).data.toList = true from by decide]
  go_wp2_with fail
  refine (void_any ⟨#[119, 98, 114]⟩ m _ (by decide) HM.out).mono ?_
  rintro e w' ⟨rfl, rfl⟩
  rw [show memW voidW (⟨#[119, 98, 114]⟩ : ByteArray).data.toList = true from by decide]
  go_wp2_with fail
  refine (implied_any ⟨#[114, 116, 99]⟩ m _ (by decide) HM.out).mono ?_
  rintro e w' ⟨rfl, rfl⟩
  rw [show memW impliedW (⟨#[114, 116, 99]⟩ : ByteArray).data.toList = true from by decide]
  go_wp2_with fail
  refine (thorough_any ⟨#[116, 114]⟩ m _ (by decide) HM.out).mono ?_
  rintro e w' ⟨rfl, rfl⟩
  rw [show memW thoroughW (⟨#[116, 114]⟩ : ByteArray).data.toList = true from by decide]
  go_wp2
  go_ret
  exact ⟨rfl, rfl⟩
end Go.Proofs.YthgecembedjnaaaDoor
