/- lazaretlaw29.letters: a name of letters. -/
import Derived.Test.YtgaeecphohlmpabDoorLet29
import Derived.Test.YtgaeecphohlmpabDoorArgs
import Derived.Test.YtgaeecphohlmpabDoorRow
set_option linter.unusedVariables false
namespace Go.Proofs.YtgaeecphohlmpabDoor
open Go.RowKit

theorem conv_let (w : World) (x : UInt8) : (convert 35 9 (.slice (some ⟨w.heap.size, 0, none⟩) 1 1)).run Tryd.prog (w.alloc (.cells #[.int .u8 (x.toNat : Int)] 5)) = .ok (.string ⟨#[x]⟩) (w.alloc (.cells #[.int .u8 (x.toNat : Int)] 5)) := by
  refine run_convert_bytes_back _ 35 9 5 ⟨w.heap.size, 0, none⟩ 1 [x] Tryd.underlying35 Tryd.underlying5 Tryd.underlying9 fun j hj => ?_
  have hj0 : j = 0 := by simp at hj; omega
  subst hj0
  simp [Addr.add]
def byteV (z : List UInt8) : List Value := z.map fun x => Value.int .u8 (x.toNat : Int)
theorem letB_val (x : UInt8) : 97 + (x.toNat : Int) % 26 = ((letB x).toNat : Int) := u8_each (Q := fun x => 97 + (x.toNat : Int) % 26 = ((letB x).toNat : Int)) (by decide +kernel) x
theorem letL_take {z : List UInt8} {k : Nat} {x : UInt8} (h : z[k]? = some x) : (116 :: (z.take (k + 1)).map letB) = (116 :: (z.take k).map letB) ++ [letB x] := by
  rw [List.take_add_one, h]
  simp
theorem letL_min (z : List UInt8) (k : Nat) (h : k = z.length ∨ k = 30) (h2 : k ≤ z.length) (h3 : k ≤ 30) : (116 :: (z.take k).map letB) = letL z := by
  unfold letL
  rcases h with h | h
  · rw [List.take_of_length_le (by omega), List.take_of_length_le (by omega)]
  · rw [h]

set_option maxHeartbeats 1600000 in
set_option maxRecDepth 100000 in
theorem letters_any (v : Value) (z : List UInt8) (w : World) (h : SliceIn w v (byteV z)) :
    Calls Tryd.prog 15 #[v] w fun e w' => e = .returned (.string ⟨(letL z).toArray⟩) ∧ Below w.heap.size w w' := by
  have hzl : (byteV z).length = z.length := by unfold byteV; simp
  obtain ⟨ao, cap, hv, hlc, hcm, hcell⟩ := h
  rw [hzl] at hv hlc
  unfold maxLen at hcm
  have HS : Hid (∀ W, Below w.heap.size w W → ∀ k x, z[k]? = some x → ∃ b off, ao = some ⟨b, off, none⟩ ∧ W.cell? ⟨b, off + k, none⟩ = some (.int .u8 (x.toNat : Int))) := by
    intro W hW k x hx
    have hk := (List.getElem?_eq_some_iff.1 hx).1
    obtain ⟨b, off, ha, hb, hc⟩ := hcell (by intro e; rw [e] at hzl; simp at hzl; omega)
    refine ⟨b, off, ha, ?_⟩
    rw [hW.cell (p := ⟨b, off + k, none⟩) hb, hc k (by rw [hzl]; exact hk)]
    have := (List.getElem?_eq_some_iff.1 hx).2
    unfold byteV
    simp [this]
  subst hv
  clear hcell hzl
  go_enter Tryd.func15, Tryd.ntmps15
  go_wp2_with fail
  go_loopw [3, 4] (fun s i wr => ∃ (k : Nat) (S : ByteArray), k ≤ z.length ∧ k ≤ 30 ∧ i = .int .i64 k ∧ s = .string S ∧ Hid (S.data.toList = 116 :: (z.take k).map letB) ∧ Below w.heap.size w wr) (fun _ i _ => 30 - (intOf i).toNat)
  case atStart => exact ⟨0, ⟨#[116]⟩, Nat.zero_le _, Nat.zero_le _, rfl, rfl, (by show _ = _; simp), Below.refl _ _⟩
  case round =>
    obtain ⟨k, S, hk, hk30, rfl, rfl, hS, hb⟩ := hrel
    by_cases hlt : k < z.length ∧ k < 30
    · obtain ⟨h1, h2⟩ := hlt
      have h1' : (k : Int) < z.length := by omega
      have h2' : (k : Int) < 30 := by omega
      obtain ⟨x, hx⟩ : ∃ x, z[k]? = some x := ⟨_, List.getElem?_eq_getElem h1⟩
      obtain ⟨b, off, ha, hc⟩ := HS.out _ hb k x hx
      subst ha
      have HX : Hid ((116 :: (z.take (k + 1)).map letB) = (116 :: (z.take k).map letB) ++ [letB x]) := letL_take hx
      have hv := letB_val x
      have hcv := conv_let wr (letB x)
      have hx0 : (0 : Int) ≤ (x.toNat : Int) := by omega
      have hx8 : (x.toNat : Int) < 256 := by have := x.toNat_lt; omega
      have hss : S.size ≤ 31 := by
        have e1 : S.data.toList.length = S.size := by simp
        rw [← e1, hS.out]
        simp only [List.length_cons, List.length_map, List.length_take]
        omega
      have hsz := hb.size
      have HB := Lib.hid hb
      clear hx hb
      go_wp2_with fail
      go_roundw
      case rel => exact ⟨k + 1, S ++ ⟨#[letB x]⟩, by omega, by omega, by go_num, rfl, (by show _ = _; rw [HX.out, ← hS.out, ByteArray.data_append, Array.toList_append]), HB.out.alloc hsz _⟩
      case measure => simp [intOf]; omega
    · have HF : Hid ((116 :: (z.take k).map letB) = letL z) := letL_min z k (by omega) hk hk30
      have HR : Hid (S = ⟨(letL z).toArray⟩) := by
        show _ = _
        rw [← HF.out, ← hS.out]
      have hn : ¬ ((k : Int) < z.length ∧ (k : Int) < 30) := by omega
      by_cases h1 : (k : Int) < z.length
      · have h2 : ¬ (k : Int) < 30 := by omega
        clear hlt hn
        go_wp2_with fail
        go_ret
        exact ⟨by rw [HR.out]; rfl, hb⟩
      · clear hlt hn
        go_wp2_with fail
        go_ret
        exact ⟨by rw [HR.out]; rfl, hb⟩
end Go.Proofs.YtgaeecphohlmpabDoor
