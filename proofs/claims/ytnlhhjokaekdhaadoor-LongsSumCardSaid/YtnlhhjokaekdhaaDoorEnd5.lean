/- longs.writeNumber, longs.ending, longs.told. -/
import Derived.Test.YtnlhhjokaekdhaaDoorEnd4
import Derived.Test.YtnlhhjokaekdhaaDoorMix5
import Derived.Deep.LoopGhost
import Derived.Deep.Cut
set_option linter.unusedVariables false
set_option linter.unusedSimpArgs false
namespace Go.Proofs.YtnlhhjokaekdhaaDoor.L5
open Go.RowKit

set_option maxHeartbeats 3200000 in
set_option maxRecDepth 100000 in
theorem number_any (B b : Nat) (l : List UInt8) (x : Int) (w : World) (hI : IsB B b (Lib.byteCells l) w) (hl : l.length ≤ 1000) (hB : B ≤ w.heap.size) :
    Calls Tryd.prog 58 #[.pointer (some ⟨b, 0, none⟩), .int .u64 x] w fun e w' => e = .returned (.tuple #[]) ∧ IsB B b (Lib.byteCells (l ++ bytesBy x divs8)) w' ∧ Below B w w' := by
  go_enter Tryd.func58, Tryd.ntmps58
  go_wp2_with fail
  go_loopw [4] (fun sh wx => ∃ j : Nat, j ≤ 8 ∧ sh = .int .i64 (56 - 8 * (j : Int)) ∧ IsB B b (Lib.byteCells (l ++ (bytesBy x divs8).take j)) wx ∧ Below B w wx) (fun sh _ => (intOf sh + 8).toNat)
  case atStart => exact ⟨0, Nat.zero_le _, rfl, by rw [List.take_zero, List.append_nil]; exact hI, Below.refl _ _⟩
  case round =>
    obtain ⟨j, hj, rfl, hI, hb⟩ := hrel
    have hsz : B ≤ wr.heap.size := Nat.le_trans hB hb.size
    by_cases hlt : j < 8
    · have hlen : (Lib.byteCells (l ++ (bytesBy x divs8).take j)).length + 1 ≤ 140737488355328 := by
        rw [Lib.byteCells_length, List.length_append]
        have := List.length_take_le j (bytesBy x divs8)
        omega
      rcases (by omega : j = 0 ∨ j = 1 ∨ j = 2 ∨ j = 3 ∨ j = 4 ∨ j = 5 ∨ j = 6 ∨ j = 7) with rfl | rfl | rfl | rfl | rfl | rfl | rfl | rfl
      all_goals
        go_wp2_with fail
        refine (writeByte_k B b _ _ _ hI hlen hsz).mono ?_
        rintro e w4 ⟨rfl, h4, b4, _⟩
        go_wp2_with fail
        go_roundw
      all_goals first
        | (simp [intOf]; done)
        | (simp [intOf]; omega)
        | (refine ⟨1, by omega, by first | go_num | rfl, ?_, hb.trans b4⟩; have e := cells_bI (l ++ (bytesBy x divs8).take 0) (x / 72057594037927936); rw [List.append_assoc] at e; exact e.symm ▸ h4)
        | (refine ⟨2, by omega, by first | go_num | rfl, ?_, hb.trans b4⟩; have e := cells_bI (l ++ (bytesBy x divs8).take 1) (x / 281474976710656); rw [List.append_assoc] at e; exact e.symm ▸ h4)
        | (refine ⟨3, by omega, by first | go_num | rfl, ?_, hb.trans b4⟩; have e := cells_bI (l ++ (bytesBy x divs8).take 2) (x / 1099511627776); rw [List.append_assoc] at e; exact e.symm ▸ h4)
        | (refine ⟨4, by omega, by first | go_num | rfl, ?_, hb.trans b4⟩; have e := cells_bI (l ++ (bytesBy x divs8).take 3) (x / 4294967296); rw [List.append_assoc] at e; exact e.symm ▸ h4)
        | (refine ⟨5, by omega, by first | go_num | rfl, ?_, hb.trans b4⟩; have e := cells_bI (l ++ (bytesBy x divs8).take 4) (x / 16777216); rw [List.append_assoc] at e; exact e.symm ▸ h4)
        | (refine ⟨6, by omega, by first | go_num | rfl, ?_, hb.trans b4⟩; have e := cells_bI (l ++ (bytesBy x divs8).take 5) (x / 65536); rw [List.append_assoc] at e; exact e.symm ▸ h4)
        | (refine ⟨7, by omega, by first | go_num | rfl, ?_, hb.trans b4⟩; have e := cells_bI (l ++ (bytesBy x divs8).take 6) (x / 256); rw [List.append_assoc] at e; exact e.symm ▸ h4)
        | (refine ⟨8, by omega, by first | go_num | rfl, ?_, hb.trans b4⟩; have e := cells_bI (l ++ (bytesBy x divs8).take 7) (x / 1); rw [List.append_assoc] at e; have h4' : IsB B b (Lib.byteCells (l ++ (bytesBy x divs8).take 7) ++ [.int .u8 (x / 1 % 256)]) w4 := (by rw [Int.ediv_one]; exact h4); exact e.symm ▸ h4')
    · have hj8 : j = 8 := by omega
      rw [hj8] at hI
      have hn8 : ¬ (0 : Int) ≤ 56 - 8 * (j : Int) := by omega
      have htk : (bytesBy x divs8).take 8 = bytesBy x divs8 := rfl
      rw [htk] at hI
      clear hlt hj hj8 htk
      go_wp2_with fail
      go_end0
      exact ⟨rfl, hI, hb⟩

/-- How many zeros fill a block up. -/
def zeros (n : Nat) : Nat := (239 - n) % 128
def endL (r : List UInt8) (n : Nat) : List UInt8 := r ++ 128 :: List.replicate (zeros r.length) 0 ++ bytesBy 0 divs8 ++ bytesBy ((n : Int) * 8) divs8

set_option maxHeartbeats 3200000 in
set_option maxRecDepth 100000 in
theorem ending_any (r : ByteArray) (n : Nat) (w : World) (hr : r.size < 128) (hn : n ≤ 1099511627776) :
    Calls Tryd.prog 60 #[.string r, .int .i64 n] w fun e w' => e = .returned (.string ⟨(endL r.data.toList n).toArray⟩) ∧ Below w.heap.size w w' := by
  have hrl : r.data.toList.length = r.size := by simp
  obtain ⟨R, hR⟩ : ∃ R, r.data.toList = R := ⟨_, rfl⟩
  have hR2 : R.length < 128 := by rw [← hR, hrl]; exact hr
  have hrs : r.size = R.length := by rw [← hR, hrl]
  have HSB : Hid (Lib.strCells r = Lib.byteCells R) := by show _ = _; rw [strCells_byte, hR]
  have HR := Lib.hid hR
  have HRS := Lib.hid hrs
  have hn0 : (0 : Int) ≤ n := by omega
  have hn1 : (n : Int) ≤ 1099511627776 := by omega
  clear hR hrl hrs
  go_enter Tryd.func60, Tryd.ntmps60
  go_wp2_with fail
  have hI0 : IsB w.heap.size w.heap.size (Lib.byteCells []) (w.alloc (.cells #[.pointer none, .slice none 0 0] 49)) := Lib.IsBuilderF.of (Lib.fresh_isBuilder 49 5 w)
  have hb0 : Below w.heap.size w (w.alloc (.cells #[.pointer none, .slice none 0 0] 49)) := (Below.refl _ w).alloc (Nat.le_refl _) _
  refine (writeString_k w.heap.size w.heap.size _ r _ hI0 (by simp [Lib.byteCells]; omega) hb0.size).mono ?_
  rintro e w1 ⟨rfl, h1, b1, _⟩
  have I1 : Hid (IsB w.heap.size w.heap.size (Lib.byteCells R) w1) := by rw [HSB.out] at h1; exact h1
  have B1 : Hid (Below w.heap.size w w1) := hb0.trans b1
  clear h1 b1 hI0 hb0
  go_wp2_with fail
  refine (writeByte_k w.heap.size w.heap.size _ 128 _ I1.out (by rw [Lib.byteCells_length]; omega) B1.out.size).mono ?_
  rintro e w2 ⟨rfl, h2, b2, _⟩
  have I2 : Hid (IsB w.heap.size w.heap.size (Lib.byteCells (R ++ [128])) w2) := by rw [Lib.byteCells_append]; exact h2
  have B2 : Hid (Below w.heap.size w w2) := B1.out.trans b2
  clear h2 b2
  go_wp2_with fail
  have hz : (R.length + 1 + zeros R.length) % 128 = 112 ∧ zeros R.length < 128 := by unfold zeros; omega
  obtain ⟨z, hz1⟩ : ∃ z, zeros R.length = z := ⟨_, rfl⟩
  rw [hz1] at hz
  have HZ1 := Lib.hid hz1
  have HZ := Lib.hid hz
  clear hz1 hz
  go_loopg [] z (fun g wx => g ≤ z ∧ IsB w.heap.size w.heap.size (Lib.byteCells (R ++ 128 :: List.replicate (z - g) 0)) wx ∧ Below w.heap.size w wx)
  case atStart => exact ⟨Nat.le_refl _, by rw [Nat.sub_self]; exact I2.out, B2.out⟩
  case round =>
    obtain ⟨hg, hI, hb⟩ := hrel
    have hzz := HZ.out
    have HBL : Hid ((Lib.byteCells (R ++ 128 :: List.replicate (z - gk) 0)).length = R.length + 1 + (z - gk)) := by show _ = _; rw [Lib.byteCells_length]; simp; omega
    have hsz := hb.size
    by_cases hg0 : gk = 0
    · have hq : (((R.length + 1 + (z - gk) : Nat) : Int) % 128 != 112) = false := by simp; omega
      have HIE : Hid (IsB w.heap.size w.heap.size (Lib.byteCells (R ++ 128 :: List.replicate z 0)) wr) := by rw [hg0, Nat.sub_zero] at hI; exact hI
      clear hg0 hzz
      go_wp2_with fail
      refine (Tryd.Builder_Len_f w.heap.size w.heap.size _ _ hI).mono ?_
      rintro e w3 ⟨rfl, rfl⟩
      rw [HBL.out]
      go_wp2_with fail
      obtain ⟨Z, hZ⟩ : ∃ Z, R ++ 128 :: List.replicate z 0 = Z := ⟨_, rfl⟩
      rw [hZ] at HIE
      have hZl : Z.length ≤ 300 := by rw [← hZ]; have := HZ.out.2; simp; omega
      have HZZ := Lib.hid hZ
      have HB3 := Lib.hid hb
      clear hq hI hb hZ hsz HBL
      obtain ⟨bq, hbq⟩ : ∃ bq, (((R.length : Int) + 1 + ((z - gk : Nat) : Int)) % 128 != 112) = bq := ⟨_, rfl⟩
      rw [hbq]
      clear hbq
      have hlow : n * 8 % 18446744073709551616 = n * 8 := Nat.mod_eq_of_lt (by omega)
      have hhigh : n * 8 / 18446744073709551616 = 0 := Nat.div_eq_of_lt (by omega)
      have HML : Hid (∀ W, Calls Tryd.prog 78 #[.int .u64 n, .int .u64 8] W fun e w' => e = .returned (.tuple #[.int .u64 0, .int .u64 ((n : Int) * 8)]) ∧ w' = W) := fun W => by
        have := Tryd.bits_Mul64 n 8 (by omega) (by omega) W
        rw [hlow, hhigh] at this
        exact this
      have hsz := HB3.out.size
      clear hlow hhigh
      go_wp2_with fail
      refine (HML.out _).mono ?_
      rintro e w3 ⟨rfl, rfl⟩
      go_wp2_with fail
      refine (number_any w.heap.size w.heap.size Z 0 _ HIE.out (by omega) hsz).mono ?_
      rintro e w4 ⟨rfl, h4, b4⟩
      have B4 : Hid (Below w.heap.size w w4) := HB3.out.trans b4
      have H4 := Lib.hid h4
      clear h4 b4
      go_wp2_with fail
      refine (number_any w.heap.size w.heap.size (Z ++ bytesBy 0 divs8) ((n : Int) * 8) _ H4.out (by rw [List.length_append]; have : (bytesBy 0 divs8).length = 8 := rfl; omega) B4.out.size).mono ?_
      rintro e w5 ⟨rfl, h5, b5⟩
      have B5 : Hid (Below w.heap.size w w5) := B4.out.trans b5
      have H5 := Lib.hid h5
      clear h5 b5
      have hE : Hid (Z ++ (bytesBy 0 divs8 ++ bytesBy ((n : Int) * 8) divs8) = endL R n) := by
        show _ = _
        rw [← HZZ.out, endL, HZ1.out, List.append_assoc, List.append_assoc, List.append_assoc]
      go_wp2_with fail
      refine (Tryd.Builder_String_any_k w.heap.size w.heap.size _ _ H5.out B5.out.size).mono ?_
      rintro e w6 ⟨rfl, _, b6, _⟩
      go_wp2_with fail
      go_ret
      exact ⟨by rw [hE.out, HR.out]; rfl, B5.out.trans b6⟩
    · have hq : (((R.length + 1 + (z - gk) : Nat) : Int) % 128 != 112) = true := by simp; omega
      have HN : Hid (R ++ 128 :: List.replicate (z - gk) 0 ++ [0] = R ++ 128 :: List.replicate (z - (gk - 1)) 0) := by
        show _ = _
        obtain ⟨g', rfl⟩ : ∃ g', gk = g' + 1 := ⟨gk - 1, by omega⟩
        have e : z - (g' + 1 - 1) = (z - (g' + 1)) + 1 := by omega
        rw [e, List.replicate_succ']
        simp
      clear hzz
      go_wp2_with fail
      refine (Tryd.Builder_Len_f w.heap.size w.heap.size _ _ hI).mono ?_
      rintro e w3 ⟨rfl, rfl⟩
      rw [HBL.out]
      go_wp2_with fail
      refine (writeByte_k w.heap.size w.heap.size _ 0 _ hI (by rw [HBL.out]; have := HZ.out.2; omega) hsz).mono ?_
      rintro e w3 ⟨rfl, h3, b3, _⟩
      go_wp2_with fail
      go_roundg (gk - 1)
      case rel =>
        refine ⟨by omega, ?_, hb.trans b3⟩
        rw [← HN.out, Lib.byteCells_append]
        exact h3
      case measure => omega

def St.list (s : St) : List Int := [s.a, s.b, s.c, s.d, s.e, s.f, s.g, s.h]
def outL (v : St) (k : Nat) : List UInt8 := (v.list.take k).flatMap fun x => bytesBy x divs8
theorem bytesBy_len (x : Int) (ds : List Int) : (bytesBy x ds).length = ds.length := by unfold bytesBy; simp
theorem flat_len : ∀ l : List Int, (l.flatMap fun x => bytesBy x divs8).length = 8 * l.length
  | [] => rfl
  | x :: l => by rw [List.flatMap_cons, List.length_append, flat_len l, bytesBy_len]; simp [divs8]; omega
theorem outL_len (v : St) (j : Nat) : (outL v j).length ≤ 64 := by
  unfold outL
  rw [flat_len]
  have h1 := List.length_take_le' j v.list
  have h2 : v.list.length = 8 := rfl
  omega

set_option maxHeartbeats 3200000 in
set_option maxRecDepth 100000 in
theorem told_any (v : St) (w : World) :
    Calls Tryd.prog 36 #[.agg v.cells] w fun e w' => e = .returned (.string ⟨(outL v 8).toArray⟩) ∧ Below w.heap.size w w' := by
  obtain ⟨W1, hW1⟩ : ∃ W1, W1 = w.alloc (.cells v.cells 62) := ⟨_, rfl⟩
  have hb1 : Below w.heap.size w W1 := by rw [hW1]; exact (Below.refl _ w).alloc (Nat.le_refl _) _
  have hs1 : W1.heap.size = w.heap.size + 1 := by rw [hW1]; simp
  have kb : W1.heap[w.heap.size]? = some (.cells v.cells 62 (0, 0)) := by rw [hW1]; exact heap_alloc_new w _
  obtain ⟨y0, y1, y2, y3, y4, y5, y6, y7⟩ := cells8 kb
  have hI0 : Hid (IsB W1.heap.size W1.heap.size (Lib.byteCells (outL v 0)) (W1.alloc (.cells #[.pointer none, .slice none 0 0] 49))) := Lib.IsBuilderF.of (Lib.fresh_isBuilder 49 5 W1)
  have hb0 : Hid (Below W1.heap.size W1 (W1.alloc (.cells #[.pointer none, .slice none 0 0] 49))) := (Below.refl _ W1).alloc (Nat.le_refl _) _
  have HB1 := Lib.hid hb1
  have hlt1 : w.heap.size < W1.heap.size := by omega
  unfold St.cells at hW1
  unfold St.cells
  go_enter Tryd.func36, Tryd.ntmps36
  go_upto_region 1 with fail
  rw [← hW1]
  have HS1 := Lib.hid hs1
  clear hW1 hb1 kb hs1
  go_wp2_with fail
  go_loopw [7] (fun t wx => ∃ j : Nat, j ≤ 8 ∧ t = .int .i64 j ∧ IsB W1.heap.size W1.heap.size (Lib.byteCells (outL v j)) wx ∧ Below W1.heap.size W1 wx) (fun t _ => 8 - (intOf t).toNat)
  case atStart => exact ⟨0, Nat.zero_le _, rfl, hI0.out, hb0.out⟩
  case round =>
    obtain ⟨j, hj, rfl, hI, hb⟩ := hrel
    have hsz := hb.size
    by_cases hlt : j < 8
    · have hji : (j : Int) < 8 := by omega
      obtain ⟨X, hX⟩ : ∃ X, v.list.getD j 0 = X := ⟨_, rfl⟩
      have HIX : ∀ W : World, (Instr.index 62 (.agg #[.int .u64 v.a, .int .u64 v.b, .int .u64 v.c, .int .u64 v.d, .int .u64 v.e, .int .u64 v.f, .int .u64 v.g, .int .u64 v.h]) (.int .i64 j)).run Tryd.prog W = .ok (.int .u64 X) W := by
        intro W
        rw [← hX]
        rcases (by omega : j = 0 ∨ j = 1 ∨ j = 2 ∨ j = 3 ∨ j = 4 ∨ j = 5 ∨ j = 6 ∨ j = 7) with rfl | rfl | rfl | rfl | rfl | rfl | rfl | rfl <;> rfl
      have HO : Hid (outL v (j + 1) = outL v j ++ bytesBy X divs8) := by
        show _ = _
        unfold outL
        have hl : j < v.list.length := hlt
        rw [List.take_add_one, List.getElem?_eq_getElem hl, List.flatMap_append]
        have : v.list[j] = X := by rw [← hX]; simp [List.getD, hl]
        rw [this]
        simp
      have hol : (outL v j).length ≤ 64 := outL_len v j
      clear hX hlt y0 y1 y2 y3 y4 y5 y6 y7
      go_wp2_with fail
      refine (number_any W1.heap.size W1.heap.size (outL v j) X _ hI (by omega) hsz).mono ?_
      rintro e w4 ⟨rfl, h4, b4⟩
      rw [← HO.out] at h4
      go_wp2_with fail
      go_roundw
      case rel => exact ⟨j + 1, by omega, by go_num, h4, hb.trans b4⟩
      case measure => simp [intOf]; omega
    · have hj8 : j = 8 := by omega
      rw [hj8] at hI
      have hnj : ¬ (j : Int) < 8 := by omega
      clear hlt hj hj8 y0 y1 y2 y3 y4 y5 y6 y7
      go_wp2_with fail
      refine (Tryd.Builder_String_any_k W1.heap.size W1.heap.size _ _ hI hsz).mono ?_
      rintro e w4 ⟨rfl, _, b4, _⟩
      go_wp2_with fail
      go_ret
      exact ⟨rfl, HB1.out.trans ((hb.trans b4).mono (by omega))⟩
end Go.Proofs.YtnlhhjokaekdhaaDoor.L5
