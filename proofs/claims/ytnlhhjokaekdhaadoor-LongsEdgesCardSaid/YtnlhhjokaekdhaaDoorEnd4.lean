/- digest.ending. -/
import Derived.Test.YtnlhhjokaekdhaaDoorBuild2
import Derived.Test.YtnlhhjokaekdhaaDoorSha
import Derived.Test.YtnlhhjokaekdhaaDoorShelf
import Derived.Deep.LoopGhost
set_option linter.unusedVariables false
set_option linter.unusedSimpArgs false
namespace Go.Proofs.YtnlhhjokaekdhaaDoor
open Go.RowKit

/-- A number's lowest byte. -/
def bI (z : Int) : UInt8 := UInt8.ofNat (z % 256).toNat
theorem bI_val (z : Int) : (((bI z).toNat : Nat) : Int) = z % 256 := by
  unfold bI
  rw [UInt8.toNat_ofNat']
  omega
def bytesBy (x : Int) (ds : List Int) : List UInt8 := ds.map fun d => bI (x / d)
def divs8 : List Int := [72057594037927936, 281474976710656, 1099511627776, 4294967296, 16777216, 65536, 256, 1]
def divs4 : List Int := [16777216, 65536, 256, 1]
theorem cells_bI (o : List UInt8) (z : Int) : Lib.byteCells (o ++ [bI z]) = Lib.byteCells o ++ [.int .u8 (z % 256)] := by
  rw [Lib.byteCells_append]
  simp only [Lib.byteCells, List.map_cons, List.map_nil, bI_val]
/-- How many zeros fill a block up. -/
def zeros (n : Nat) : Nat := (119 - n) % 64
def endL (r : List UInt8) (n : Nat) : List UInt8 := r ++ 128 :: List.replicate (zeros r.length) 0 ++ bytesBy ((n : Int) * 8) divs8

set_option maxHeartbeats 3200000 in
set_option maxRecDepth 100000 in
theorem ending_any (r : ByteArray) (n : Nat) (w : World) (hr : r.size < 64) (hn : n ≤ 1099511627776) :
    Calls Tryd.prog 29 #[.string r, .int .i64 n] w fun e w' => e = .returned (.string ⟨(endL r.data.toList n).toArray⟩) ∧ Below w.heap.size w w' := by
  have hrl : r.data.toList.length = r.size := by simp
  obtain ⟨R, hR⟩ : ∃ R, r.data.toList = R := ⟨_, rfl⟩
  have hR2 : R.length < 64 := by rw [← hR, hrl]; exact hr
  have hrs : r.size = R.length := by rw [← hR, hrl]
  have HSB : Hid (Lib.strCells r = Lib.byteCells R) := by show _ = _; rw [strCells_byte, hR]
  have HR := Lib.hid hR
  have HRS := Lib.hid hrs
  have hn0 : (0 : Int) ≤ n := by omega
  have hn1 : (n : Int) ≤ 1099511627776 := by omega
  clear hR hrl hrs
  go_enter Tryd.func29, Tryd.ntmps29
  go_wp2_with fail
  have hI0 : IsB w.heap.size w.heap.size (Lib.byteCells []) (w.alloc (.cells #[.pointer none, .slice none 0 0] 49)) := Lib.IsBuilderF.of (Lib.fresh_isBuilder 49 5 w)
  have hb0 : Below w.heap.size w (w.alloc (.cells #[.pointer none, .slice none 0 0] 49)) := (Below.refl _ w).alloc (Nat.le_refl _) _
  refine (writeString_k w.heap.size w.heap.size _ r _ hI0 (by simp [Lib.byteCells]; omega) hb0.size).mono ?_
  rintro e w1 ⟨rfl, h1, b1, _⟩
  have I1 : Hid (IsB w.heap.size w.heap.size (Lib.byteCells R) w1) := by rw [HSB.out] at h1; exact h1
  have B1 : Hid (Below w.heap.size w w1) := hb0.trans b1
  clear h1 b1 hI0 hb0
  go_wp2_with fail
  refine (writeByte_k w.heap.size w.heap.size _ 128 _ I1.out (by rw [Lib.byteCells_length]; omega) B1.out.size).mono ?_
  rintro e w2 ⟨rfl, h2, b2, _⟩
  have I2 : Hid (IsB w.heap.size w.heap.size (Lib.byteCells (R ++ [128])) w2) := by rw [Lib.byteCells_append]; exact h2
  have B2 : Hid (Below w.heap.size w w2) := B1.out.trans b2
  clear h2 b2
  go_wp2_with fail
  have hz : (R.length + 1 + zeros R.length) % 64 = 56 ∧ zeros R.length < 64 := by unfold zeros; omega
  obtain ⟨z, hz1⟩ : ∃ z, zeros R.length = z := ⟨_, rfl⟩
  rw [hz1] at hz
  have HZ1 := Lib.hid hz1
  have HZ := Lib.hid hz
  clear hz1 hz
  go_loopg [] z (fun g wx => g ≤ z ∧ IsB w.heap.size w.heap.size (Lib.byteCells (R ++ 128 :: List.replicate (z - g) 0)) wx ∧ Below w.heap.size w wx)
  case atStart => exact ⟨Nat.le_refl _, by rw [Nat.sub_self]; exact I2.out, B2.out⟩
  case round =>
    obtain ⟨hg, hI, hb⟩ := hrel
    have hzz := HZ.out
    have HBL : Hid ((Lib.byteCells (R ++ 128 :: List.replicate (z - gk) 0)).length = R.length + 1 + (z - gk)) := by show _ = _; rw [Lib.byteCells_length]; simp; omega
    have hsz := hb.size
    by_cases hg0 : gk = 0
    · have hq : (((R.length + 1 + (z - gk) : Nat) : Int) % 64 != 56) = false := by simp; omega
      have HIE : Hid (IsB w.heap.size w.heap.size (Lib.byteCells (R ++ 128 :: List.replicate z 0)) wr) := by rw [hg0, Nat.sub_zero] at hI; exact hI
      clear hg0 hzz
      go_wp2_with fail
      refine (Tryd.Builder_Len_f w.heap.size w.heap.size _ _ hI).mono ?_
      rintro e w3 ⟨rfl, rfl⟩
      rw [HBL.out]
      go_wp2_with fail
      obtain ⟨Z, hZ⟩ : ∃ Z, R ++ 128 :: List.replicate z 0 = Z := ⟨_, rfl⟩
      rw [hZ] at HIE
      have hZl : Z.length ≤ 200 := by rw [← hZ]; have := HZ.out.2; simp; omega
      have HZZ := Lib.hid hZ
      have HB3 := Lib.hid hb
      clear hq hI hb hZ hsz HBL
      obtain ⟨bq, hbq⟩ : ∃ bq, (((R.length : Int) + 1 + ((z - gk : Nat) : Int)) % 64 != 56) = bq := ⟨_, rfl⟩
      rw [hbq]
      clear hbq
      go_loopw [7] (fun sh wx => ∃ j : Nat, j ≤ 8 ∧ sh = .int .i64 (56 - 8 * (j : Int)) ∧ IsB w.heap.size w.heap.size (Lib.byteCells (Z ++ (bytesBy ((n : Int) * 8) divs8).take j)) wx ∧ Below w.heap.size w wx) (fun sh _ => (intOf sh + 8).toNat)
      case atStart => exact ⟨0, Nat.zero_le _, rfl, by rw [List.take_zero, List.append_nil]; exact HIE.out, HB3.out⟩
      case round =>
        obtain ⟨j, hj, rfl, hI, hb⟩ := hrel
        have hsz := hb.size
        by_cases hlt : j < 8
        · have hlen : (Lib.byteCells (Z ++ (bytesBy ((n : Int) * 8) divs8).take j)).length + 1 ≤ 140737488355328 := by
            rw [Lib.byteCells_length, List.length_append]
            have := List.length_take_le j (bytesBy ((n : Int) * 8) divs8)
            omega
          rcases (by omega : j = 0 ∨ j = 1 ∨ j = 2 ∨ j = 3 ∨ j = 4 ∨ j = 5 ∨ j = 6 ∨ j = 7) with rfl | rfl | rfl | rfl | rfl | rfl | rfl | rfl
          all_goals
            go_wp2_with fail
            refine (writeByte_k w.heap.size w.heap.size _ _ _ hI hlen hsz).mono ?_
            rintro e w4 ⟨rfl, h4, b4, _⟩
            go_wp2_with fail
            go_roundw
          all_goals first
            | (simp [intOf]; done)
            | (simp [intOf]; omega)
            | (refine ⟨1, by omega, by go_num, ?_, hb.trans b4⟩; have e := cells_bI (Z ++ (bytesBy ((n : Int) * 8) divs8).take 0) ((n : Int) * 8 / 72057594037927936); rw [List.append_assoc] at e; first | exact e.symm ▸ h4 | (rw [Int.emod_eq_of_lt (by omega) (by omega)] at e; exact e.symm ▸ h4))
            | (refine ⟨2, by omega, by go_num, ?_, hb.trans b4⟩; have e := cells_bI (Z ++ (bytesBy ((n : Int) * 8) divs8).take 1) ((n : Int) * 8 / 281474976710656); rw [List.append_assoc] at e; first | exact e.symm ▸ h4 | (rw [Int.emod_eq_of_lt (by omega) (by omega)] at e; exact e.symm ▸ h4))
            | (refine ⟨3, by omega, by go_num, ?_, hb.trans b4⟩; have e := cells_bI (Z ++ (bytesBy ((n : Int) * 8) divs8).take 2) ((n : Int) * 8 / 1099511627776); rw [List.append_assoc] at e; first | exact e.symm ▸ h4 | (rw [Int.emod_eq_of_lt (by omega) (by omega)] at e; exact e.symm ▸ h4))
            | (refine ⟨4, by omega, by go_num, ?_, hb.trans b4⟩; have e := cells_bI (Z ++ (bytesBy ((n : Int) * 8) divs8).take 3) ((n : Int) * 8 / 4294967296); rw [List.append_assoc] at e; first | exact e.symm ▸ h4 | (rw [Int.emod_eq_of_lt (by omega) (by omega)] at e; exact e.symm ▸ h4))
            | (refine ⟨5, by omega, by go_num, ?_, hb.trans b4⟩; have e := cells_bI (Z ++ (bytesBy ((n : Int) * 8) divs8).take 4) ((n : Int) * 8 / 16777216); rw [List.append_assoc] at e; first | exact e.symm ▸ h4 | (rw [Int.emod_eq_of_lt (by omega) (by omega)] at e; exact e.symm ▸ h4))
            | (refine ⟨6, by omega, by go_num, ?_, hb.trans b4⟩; have e := cells_bI (Z ++ (bytesBy ((n : Int) * 8) divs8).take 5) ((n : Int) * 8 / 65536); rw [List.append_assoc] at e; first | exact e.symm ▸ h4 | (rw [Int.emod_eq_of_lt (by omega) (by omega)] at e; exact e.symm ▸ h4))
            | (refine ⟨7, by omega, by go_num, ?_, hb.trans b4⟩; have e := cells_bI (Z ++ (bytesBy ((n : Int) * 8) divs8).take 6) ((n : Int) * 8 / 256); rw [List.append_assoc] at e; first | exact e.symm ▸ h4 | (rw [Int.emod_eq_of_lt (by omega) (by omega)] at e; exact e.symm ▸ h4))
            | (refine ⟨8, by omega, by first | go_num | rfl, ?_, hb.trans b4⟩; have e := cells_bI (Z ++ (bytesBy ((n : Int) * 8) divs8).take 7) ((n : Int) * 8 / 1); rw [List.append_assoc] at e; have h4' : IsB w.heap.size w.heap.size (Lib.byteCells (Z ++ (bytesBy ((n : Int) * 8) divs8).take 7) ++ [.int .u8 ((n : Int) * 8 / 1 % 256)]) w4 := (by rw [Int.ediv_one]; exact h4); exact e.symm ▸ h4')
        · have hj8 : j = 8 := by omega
          rw [hj8] at hI
          have hn8 : ¬ (0 : Int) ≤ 56 - 8 * (j : Int) := by omega
          have htk : (bytesBy ((n : Int) * 8) divs8).take 8 = bytesBy ((n : Int) * 8) divs8 := rfl
          rw [htk] at hI
          have hE : Hid (Z ++ bytesBy ((n : Int) * 8) divs8 = endL R n) := by
            show _ = _
            rw [← HZZ.out, endL, HZ1.out]
          clear hlt hj hj8 htk
          go_wp2_with fail
          refine (Tryd.Builder_String_any_k w.heap.size w.heap.size _ _ hI hsz).mono ?_
          rintro e w4 ⟨rfl, _, b4, _⟩
          go_wp2_with fail
          go_ret
          exact ⟨by rw [hE.out, HR.out]; rfl, hb.trans b4⟩
    · have hq : (((R.length + 1 + (z - gk) : Nat) : Int) % 64 != 56) = true := by simp; omega
      have HN : Hid (R ++ 128 :: List.replicate (z - gk) 0 ++ [0] = R ++ 128 :: List.replicate (z - (gk - 1)) 0) := by
        show _ = _
        obtain ⟨g', rfl⟩ : ∃ g', gk = g' + 1 := ⟨gk - 1, by omega⟩
        have e : z - (g' + 1 - 1) = (z - (g' + 1)) + 1 := by omega
        rw [e, List.replicate_succ']
        simp
      clear hzz
      go_wp2_with fail
      refine (Tryd.Builder_Len_f w.heap.size w.heap.size _ _ hI).mono ?_
      rintro e w3 ⟨rfl, rfl⟩
      rw [HBL.out]
      go_wp2_with fail
      refine (writeByte_k w.heap.size w.heap.size _ 0 _ hI (by rw [HBL.out]; have := HZ.out.2; omega) hsz).mono ?_
      rintro e w3 ⟨rfl, h3, b3, _⟩
      go_wp2_with fail
      go_roundg (gk - 1)
      case rel =>
        refine ⟨by omega, ?_, hb.trans b3⟩
        rw [← HN.out, Lib.byteCells_append]
        exact h3
      case measure => omega
end Go.Proofs.YtnlhhjokaekdhaaDoor
