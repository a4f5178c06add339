/- lazaretlaw04.Hexes. -/
import Derived.Test.YtnlhhjokaekdhaaDoorEx4
set_option linter.unusedVariables false
set_option linter.unusedSimpArgs false
namespace Go.Proofs.YtnlhhjokaekdhaaDoor
open Go.RowKit

theorem digs (n : Nat) (h : n < 16) : (⟨#[48, 49, 50, 51, 52, 53, 54, 55, 56, 57, 97, 98, 99, 100, 101, 102]⟩ : ByteArray).extract n (n + 1) = ⟨#[hexD n]⟩ := by
  have : ∀ k : Fin 16, (⟨#[48, 49, 50, 51, 52, 53, 54, 55, 56, 57, 97, 98, 99, 100, 101, 102]⟩ : ByteArray).extract k.val (k.val + 1) = ⟨#[hexD k.val]⟩ := by decide +kernel
  exact this ⟨n, h⟩
theorem hexL_take {s : ByteArray} {k : Nat} (h : k < s.size) : hexL (s.data.toList.take (k + 1)) = hexL (s.data.toList.take k) ++ [hexD (s[k].toNat / 16), hexD (s[k].toNat % 16)] := by
  have hl : k < s.data.toList.length := by simpa using h
  unfold hexL
  rw [List.take_add_one, List.getElem?_eq_getElem hl, List.flatMap_append]
  rfl
theorem hexL_len : ∀ l : List UInt8, (hexL l).length = 2 * l.length
  | [] => rfl
  | x :: l => by unfold hexL; rw [List.flatMap_cons, List.length_append]; have := hexL_len l; unfold hexL at this; rw [this]; simp; omega

set_option maxHeartbeats 3200000 in
set_option maxRecDepth 100000 in
theorem hexes_any (s : ByteArray) (w : World) (hs : s.size ≤ 1000) :
    Calls Tryd.prog 27 #[.string s] w fun e w' => e = .returned (.string ⟨(hexL s.data.toList).toArray⟩) ∧ Below w.heap.size w w' := by
  go_enter Tryd.func27, Tryd.ntmps27
  go_wp2_with fail
  go_loopw [4, 5] (fun o i wr => ∃ (k : Nat) (O : ByteArray), k ≤ s.size ∧ i = .int .i64 k ∧ o = .string O ∧ Hid (O.data.toList = hexL (s.data.toList.take k)) ∧ Below w.heap.size w wr) (fun _ i _ => s.size - (intOf i).toNat)
  case atStart => exact ⟨0, ⟨#[]⟩, Nat.zero_le _, rfl, rfl, (by show _ = _; simp [hexL]), Below.refl _ _⟩
  case round =>
    obtain ⟨k, O, hk, rfl, rfl, HO, hb⟩ := hrel
    by_cases hlt : k < s.size
    · have hki : (k : Int) < s.size := by omega
      obtain ⟨c, hc⟩ : ∃ c, s[k] = c := ⟨_, rfl⟩
      have HN : Hid (hexL (s.data.toList.take (k + 1)) = hexL (s.data.toList.take k) ++ [hexD (c.toNat / 16), hexD (c.toNat % 16)]) := by show _ = _; rw [hexL_take hlt, hc]
      have hos : O.size ≤ 2000 := by
        have e1 : O.data.toList.length = O.size := by simp
        rw [← e1, HO.out, hexL_len]
        have := List.length_take_le k s.data.toList
        omega
      have hc8 : c.toNat < 256 := c.toNat_lt
      have hd1 := digs (c.toNat / 16) (by omega)
      have hd2 := digs (c.toNat % 16) (by omega)
      have HB := Lib.hid hb
      clear hb
      go_wp2_with fail
      go_region
      all_goals
        clear hd1 hd2
        go_wp2_with fail
        go_roundw
        case rel => exact ⟨k + 1, O ++ ⟨#[hexD (c.toNat / 16)]⟩ ++ ⟨#[hexD (c.toNat % 16)]⟩, by omega, by go_num, rfl, (by show _ = _; rw [HN.out, ← HO.out, ByteArray.data_append, ByteArray.data_append]; simp), HB.out.drew⟩
        case measure => simp [intOf]; omega
    · have hks : k = s.size := by omega
      have HF : Hid (O = ⟨(hexL s.data.toList).toArray⟩) := by
        show _ = _
        rw [← List.take_of_length_le (l := s.data.toList) (i := k) (by simp; omega), ← HO.out]
      have hn : ¬ (k : Int) < s.size := by omega
      clear hlt hk hks
      go_wp2_with fail
      go_ret
      exact ⟨by rw [HF.out]; rfl, hb⟩
end Go.Proofs.YtnlhhjokaekdhaaDoor
