/- The contracts of layer 2's functions on texts: the program's. -/
import Derived.Test.YteeplfbaflldaaaDoorBuild
import Derived.Test.YteeplfbaflldaaaDoorLists
import Derived.Test.YteeplfbaflldaaaDoorShelf
set_option linter.unusedVariables false
namespace Go.Proofs.YteeplfbaflldaaaDoor
open Go.RowKit

def mk (l : List UInt8) : ByteArray := ⟨l.toArray⟩
theorem mk_toList (s : ByteArray) : mk s.data.toList = s := by simp [mk]

set_option maxHeartbeats 1000000 in
set_option maxRecDepth 100000 in
theorem lowered_any (s : ByteArray) (w : World) (hs : s.size ≤ 1099511627776) :
    Calls Tryd.prog 61 #[.string s] w fun e w' => e = .returned (.string ⟨(lowL s.data.toList).toArray⟩) ∧ Below w.heap.size w w' := by
  go_enter Tryd.func61, Tryd.ntmps61
  go_wp2
  go_loopw [8] (fun i wr => ∃ k : Nat, k ≤ s.size ∧ i = .int .i64 k ∧ IsB w.heap.size w.heap.size (Lib.byteCells (lowL (s.data.toList.take k))) wr ∧ Below w.heap.size w wr) (fun i _ => s.size - (intOf i).toNat)
  case atStart =>
    exact ⟨0, Nat.zero_le _, rfl, Lib.IsBuilderF.of (Lib.fresh_isBuilder 138 5 w), (Below.refl _ w).alloc (Nat.le_refl _) _⟩
  case round =>
    obtain ⟨k, hk, rfl, hI, hb⟩ := hrel
    have hsz := hb.size
    by_cases hlt : k < s.size
    · have HS := Lib.hid (take_snoc s k hlt)
      have hlen : (Lib.byteCells (lowL (s.data.toList.take k))).length ≤ k := by
        rw [Lib.byteCells_length]; simp [lowL]; omega
      by_cases hu : isUp s[k] = true
      · have hu' : upI (s[k].toNat : Int) = true := hu
        have HU := Lib.hid (lowB_up hu)
        have hb2 := (isUp_iff s[k]).1 hu
        go_wp2_with (first
          | (go_at_call 59; refine (upper_any _ _).mono ?_; rintro e w' ⟨rfl, rfl⟩)
          | (go_at_call 83; refine (writeByte_k w.heap.size w.heap.size _ _ _ hI (by omega) hsz).mono ?_))
        rintro e W1 ⟨rfl, h1, b1, k1⟩
        go_wp2
        go_roundw
        case rel =>
          refine ⟨k + 1, by omega, by go_num, ?_, hb.trans b1⟩
          rw [HS.out]
          simp only [lowL, List.map_append, List.map_cons, List.map_nil, Lib.byteCells_append]
          have e : Lib.byteCells [lowB s[k]] = [.int .u8 (s[k].toNat + 32)] := by
            simp only [Lib.byteCells, List.map_cons, List.map_nil]
            rw [HU.out]
          rw [e]
          exact h1
        case measure => simp [intOf]; omega
      · have hu0 : isUp s[k] = false := by simpa using hu
        have hu' : upI (s[k].toNat : Int) = false := hu0
        have HU := Lib.hid (lowB_not hu0)
        clear hu hu0
        go_wp2_with (first
          | (go_at_call 59; refine (upper_any _ _).mono ?_; rintro e w' ⟨rfl, rfl⟩)
          | (go_at_call 83; refine (writeByte_k w.heap.size w.heap.size _ _ _ hI (by omega) hsz).mono ?_))
        rintro e W1 ⟨rfl, h1, b1, k1⟩
        go_wp2
        go_roundw
        case rel =>
          refine ⟨k + 1, by omega, by go_num, ?_, hb.trans b1⟩
          rw [HS.out]
          simp only [lowL, List.map_append, List.map_cons, List.map_nil, Lib.byteCells_append]
          have e : Lib.byteCells [lowB s[k]] = [.int .u8 s[k].toNat] := by
            simp only [Lib.byteCells, List.map_cons, List.map_nil]
            rw [HU.out]
          rw [e]
          exact h1
        case measure => simp [intOf]; omega
    · go_wp2_with (go_at_call 84; refine (Tryd.Builder_String_any_k w.heap.size w.heap.size (lowL (s.data.toList.take k)) _ hI (by omega)).mono ?_)
      rintro e W1 ⟨rfl, _, b1, _⟩
      go_wp2
      go_ret
      have e : s.data.toList.take k = s.data.toList := List.take_of_length_le (by simp; omega)
      rw [e]
      exact ⟨rfl, hb.trans b1⟩

set_option maxHeartbeats 1000000 in
set_option maxRecDepth 100000 in
theorem lower_any (s : ByteArray) (w : World) (hs : s.size ≤ 1099511627776) :
    Calls Tryd.prog 41 #[.string s] w fun e w' => e = .returned (.string ⟨(lowL s.data.toList).toArray⟩) ∧ Below w.heap.size w w' := by
  go_enter Tryd.func41, Tryd.ntmps41
  go_wp2
  go_loop [6] (fun i => ∃ k : Nat, k ≤ s.size ∧ i = .int .i64 k ∧ Hid (∀ x ∈ s.data.toList.take k, isUp x = false)) (fun i => s.size - (intOf i).toNat)
  case atStart => exact ⟨0, Nat.zero_le _, rfl, fun x hx => by simp at hx⟩
  case round =>
    obtain ⟨k, hk, rfl, hno⟩ := hrel
    by_cases hlt : k < s.size
    · have HS := Lib.hid (take_snoc s k hlt)
      by_cases hu : upI (s[k].toNat : Int) = true
      · go_wp2_with (first
          | (go_at_call 59; refine (upper_any _ _).mono ?_; rintro e w' ⟨rfl, rfl⟩)
          | (go_at_call 61; refine (lowered_any s _ hs).mono ?_; rintro e w' ⟨rfl, hb⟩))
        go_ret
        exact ⟨rfl, hb⟩
      · have hu' : upI (s[k].toNat : Int) = false := by simpa using hu
        clear hu
        have HU : Hid (isUp s[k] = false) := hu'
        go_wp2_with (go_at_call 59; refine (upper_any _ _).mono ?_; rintro e w' ⟨rfl, rfl⟩)
        go_round
        case rel =>
          refine ⟨k + 1, by omega, by go_num, fun x hx => ?_⟩
          rw [HS.out] at hx
          rcases List.mem_append.1 hx with hx | hx
          · exact hno.out x hx
          · simp at hx; rw [hx]; exact HU.out
        case measure => simp [intOf]; omega
    · go_wp2
      go_ret
      have e : s.data.toList.take k = s.data.toList := List.take_of_length_le (by simp; omega)
      have h := hno.out
      rw [e] at h
      rw [lowL_id h]
      exact ⟨by simp, Below.refl _ _⟩

end Go.Proofs.YteeplfbaflldaaaDoor
