/- Texts: a character is what the language's own loop reads. Of no program. -/
import Derived.Test.YtfbmabbehiicmaaDoorUtf7
import Derived.Lib.MapLaws
set_option linter.unusedVariables false
namespace Go.Proofs.YtfbmabbehiicmaaDoor

theorem nat_z (n : Nat) (k : Int) (h : (n : Int) = k) : n = k.toNat := by omega
set_option maxHeartbeats 1000000 in
theorem char_decode {u : List UInt8} (h : CharU u) (r : List UInt8) : (Lib.decodeL (u ++ r)).2 = u.length ∧ ¬ ((Lib.decodeL (u ++ r)).1 = 65533 ∧ (Lib.decodeL (u ++ r)).2 = 1) := by
  obtain ⟨f, t, rfl, hm, hc⟩ := h
  rw [Lib.decodeL_N]
  have k0 := f.toNat_lt
  match t, hm, hc with
  | [], hm, _ =>
    have hf : f.toNat < 128 := by
      unfold moreI at hm
      repeat' split at hm
      all_goals simp at hm
      all_goals omega
    unfold Lib.decodeN
    simp [hf]
    omega
  | [a], hm, hc =>
    have m1 := hc 0 a rfl
    have ka := a.toNat_lt
    simp at hm m1
    have hf : 194 ≤ f.toNat ∧ f.toNat ≤ 223 := by
      unfold moreI at hm
      repeat' split at hm
      all_goals omega
    unfold mayI lowI highI at m1
    simp at m1
    unfold Lib.decodeN
    simp
    repeat' split
    all_goals simp
    all_goals omega
  | [a, b], hm, hc =>
    have m1 := hc 0 a rfl
    have m2 := hc 1 b rfl
    have ka := a.toNat_lt
    have kb := b.toNat_lt
    simp at hm
    have hf : 224 ≤ f.toNat ∧ f.toNat ≤ 239 := by
      unfold moreI at hm
      repeat' split at hm
      all_goals omega
    unfold mayI lowI highI at m1 m2
    simp at m1 m2
    unfold Lib.decodeN
    simp
    repeat' split at m1
    all_goals repeat' split
    all_goals simp
    all_goals omega
  | [a, b, c], hm, hc =>
    have m1 := hc 0 a rfl
    have m2 := hc 1 b rfl
    have m3 := hc 2 c rfl
    have ka := a.toNat_lt
    have kb := b.toNat_lt
    have kc := c.toNat_lt
    simp at hm
    have hf : 240 ≤ f.toNat ∧ f.toNat ≤ 244 := by
      unfold moreI at hm
      repeat' split at hm
      all_goals omega
    unfold mayI lowI highI at m1 m2 m3
    simp at m1 m2 m3
    unfold Lib.decodeN
    simp
    repeat' split at m1
    all_goals repeat' split
    all_goals simp
    all_goals omega
  | a :: b :: c :: d :: t, hm, hc =>
    exfalso
    unfold moreI at hm
    repeat' split at hm
    all_goals simp at hm
    all_goals omega
end Go.Proofs.YtfbmabbehiicmaaDoor
