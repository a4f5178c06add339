/- Bytes within a text: what layer 25 wants of Tg2's text, where layer 10 is not in the dump. -/
import Derived.Test.YteeplfbaflldaaaGreatDoorLists
import Derived.Test.YteeplfbaflldaaaGreatDoorLin
import Derived.Test.YteeplfbaflldaaaGreatDoorLz
import Derived.Test.YteeplfbaflldaaaGreatDoorShelf
import Derived.Below
set_option linter.unusedVariables false
set_option linter.unusedSimpArgs false
namespace Go.Proofs.YteeplfbaflldaaaGreatDoor.T10
open Go.RowKit

theorem ib_any (P : ByteArray) (c : UInt8) (w : World) : Calls Tryz.prog 43 #[.string P, .int .u8 (c.toNat : Int)] w fun e w' => e = .returned (.int .i64 (Lib.indexByte P.data.toList c)) ∧ w = w' := by
  have h := Tryz.strings_IndexByte P (c.toNat : Int) w
  rw [show ((c.toNat : Int)).toNat.toUInt8 = c from by simp] at h
  exact h.mono fun e w' ⟨h1, h2⟩ => ⟨h1, h2.symm⟩
def Stops (P : ByteArray) (p : UInt8 → Bool) : Prop := ∀ c : UInt8, p c = decide (0 ≤ Lib.indexByte P.data.toList c)
theorem at_get {s : ByteArray} {k : Nat} (h : k < s.size) : s.data.toList[k]? = some s[k] := by rw [List.getElem?_eq_getElem (by simpa using h)]; rfl
end Go.Proofs.YteeplfbaflldaaaGreatDoor.T10
