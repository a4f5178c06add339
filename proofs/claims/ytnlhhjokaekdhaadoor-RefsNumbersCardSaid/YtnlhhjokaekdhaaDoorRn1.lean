/- math/bits.TrailingZeros of 16; internal/strconv.formatBits to the base 16. -/
import Derived.Test.YtnlhhjokaekdhaaDoorRf2
import Derived.Test.YtnlhhjokaekdhaaDoorArr
import Derived.Test.YtnlhhjokaekdhaaDoorLz
set_option linter.unusedVariables false
set_option linter.unusedSimpArgs false
namespace Go.Proofs.YtnlhhjokaekdhaaDoor.R9
open Go.RowKit

/-- The table of the trailing zeros has a 4 at 15. -/
def ZTab (w : World) : Prop := w.cell? ⟨(8 : Nat), 15, none⟩ = some (.int .u8 4) ∧ (8 : Nat) < w.heap.size
set_option maxHeartbeats 1600000 in
set_option maxRecDepth 100000 in
theorem tz_any (w : World) (hc : ZTab w) : Calls Tryd.prog 87 #[.int .u64 16] w fun e w' => e = .returned (.int .i64 4) ∧ w = w' := by
  have hc := hc.1
  have h1 : bits .and .u64 16 (IntKind.u64.wrap (-16)) = 16 := by decide
  have h2 : IntKind.u64.wrap 4573923408821661840 = 4573923408821661840 := by decide
  go_enter Tryd.func87, Tryd.ntmps87
  go_wp2
  all_goals (go_ret; exact ⟨rfl, rfl⟩)
theorem ztab_below {w w' : World} (h : ZTab w) (hb : Below w.heap.size w w') : ZTab w' :=
  ⟨(hb.cell (p := ⟨(8 : Nat), 15, none⟩) h.2).trans h.1, Nat.lt_of_lt_of_le h.2 hb.size⟩
theorem pow_two (w : World) : Calls Tryd.prog 86 #[.int .i64 16] w fun e w' => e = .returned (.bool true) ∧ w = w' := by
  have h0 : bits .and .i64 16 15 = 0 := by decide
  go_enter Tryd.func86, Tryd.ntmps86
  go_wp2
  go_ret
  exact ⟨rfl, rfl⟩
def hx (q : Nat) : UInt8 := if q < 10 then UInt8.ofNat (48 + q) else UInt8.ofNat (87 + q)
def digs36 : ByteArray := ⟨#[48, 49, 50, 51, 52, 53, 54, 55, 56, 57, 97, 98, 99, 100, 101, 102, 103, 104, 105, 106, 107, 108, 109, 110, 111, 112, 113, 114, 115, 116, 117, 118, 119, 120, 121, 122]⟩
/-- A number's digits to the base 16, of at most k + 1. -/
def hexF : Nat → Nat → List UInt8
  | 0, u => [hx (u % 16)]
  | k + 1, u => if u < 16 then [hx u] else hexF k (u / 16) ++ [hx (u % 16)]
theorem hexF_low {k u : Nat} (h : u < 16) : hexF k u = [hx u] := by
  cases k with
  | zero => rw [hexF, Nat.mod_eq_of_lt h]
  | succ k => rw [hexF, if_pos h]
/-- The array's block: the digits stand from i on. -/
structure FB (p i : Nat) (tail : List UInt8) (w wr : World) : Prop where
  ex : ∃ cur : Array Value, wr.heap[p]? = some (.cells cur 103 (0, 0)) ∧ cur.size = 65 ∧ cur.toList.drop i = tail.map fun c => Value.int .u8 (c.toNat : Int)
  len : i + tail.length = 65
  below : Below p w wr
theorem FB.step {p i j : Nat} {tail : List UInt8} {w wr : World} (h : FB p i tail w wr) (hj : j + 1 = i) (c : UInt8) : FB p j (c :: tail) w (wr.setCell ⟨p, j, none⟩ (.int .u8 (c.toNat : Int))) := by
  obtain ⟨cur, h1, h2, h3⟩ := h.ex
  have hl := h.len
  refine ⟨⟨cur.setIfInBounds j (.int .u8 (c.toNat : Int)), heap_setA h1 j _, by simpa using h2, ?_⟩, by simp; omega, h.below.setCell (Nat.le_refl p) _⟩
  subst hj
  have hjl : j < cur.toList.length := by simp; omega
  rw [Array.toList_setIfInBounds, List.drop_eq_getElem_cons (by rw [List.length_set]; exact hjl), List.getElem_set_self, List.drop_set_of_lt (by omega), h3]
  rfl
theorem FB.cell {p i j : Nat} {tail : List UInt8} {w wr : World} (h : FB p i tail w wr) (hj : j < 65) : ∃ v, wr.cell? ⟨p, j, none⟩ = some v := by
  obtain ⟨cur, h1, h2, h3⟩ := h.ex
  refine ⟨cur[j], ?_⟩
  rw [Lib.cell_of_heap h1, Array.getElem?_eq_getElem]
theorem FB.free {p i : Nat} {tail : List UInt8} {w wr : World} (h : FB p i tail w wr) (j : Nat) : wr.frozen? ⟨p, j, none⟩ = false := by
  obtain ⟨cur, h1, h2, h3⟩ := h.ex
  exact Lib.frozen_of_heap h1 j
theorem FB.text {p i : Nat} {tail : List UInt8} {w wr : World} (h : FB p i tail w wr) (n : Nat) (hn : i + n = 65) :
    (convert 26 9 (.slice (some ⟨p, i, none⟩) n n)).run Tryd.prog wr = .ok (.string ⟨tail.toArray⟩) wr := by
  obtain ⟨cur, h1, h2, h3⟩ := h.ex
  have hl := h.len
  have e : tail.length = n := by omega
  have := run_convert_bytes_back (P := Tryd.prog) wr 26 9 5 ⟨p, i, none⟩ n tail Tryd.underlying26 Tryd.underlying5 Tryd.underlying9 (fun j hj => by
    have hadd : (⟨p, i, none⟩ : Addr).add j = ⟨p, i + j, none⟩ := by unfold Addr.add; split <;> simp_all
    rw [hadd, Lib.cell_of_heap h1]
    have h4 : (cur.toList.drop i)[j]? = some (.int .u8 (tail[j].toNat : Int)) := by rw [h3, List.getElem?_map, List.getElem?_eq_getElem hj]; rfl
    rw [List.getElem?_drop, Array.getElem?_toList] at h4
    exact h4)
  rw [e] at this
  exact this
theorem and15 (u : Nat) (hu : u < 2097152) : bits .and .u64 (u : Int) 15 = ((u % 16 : Nat) : Int) := by
  have e : (BitVec.ofInt 64 (u : Int)).toNat = u := by rw [BitVec.toNat_ofInt]; omega
  show IntKind.u64.wrap (((BitVec.ofInt 64 (u : Int) &&& BitVec.ofInt 64 15).toNat : Nat) : Int) = _
  rw [BitVec.toNat_and, e, show (BitVec.ofInt 64 15).toNat = 2 ^ 4 - 1 from rfl, Nat.and_two_pow_sub_one_eq_mod]
  unfold IntKind.wrap
  simp [IntKind.bits, IntKind.signed]
  omega
theorem dig_at : ∀ q : Fin 16, digs36[q.val]'(by have := q.isLt; show q.val < 36; omega) = hx q.val := by decide
set_option maxHeartbeats 3200000 in
set_option maxRecDepth 100000 in
theorem fmt_any (u : Nat) (w : World) (hu : u < 2097152) (hz : ZTab w) :
    Calls Tryd.prog 72 #[.slice none 0 0, .int .u64 u, .int .i64 16, .bool false, .bool false] w fun e w' => e = .returned (.tuple #[.slice none 0 0, .string ⟨(hexF 6 u).toArray⟩]) ∧ Below w.heap.size w w' := by
  have HZ := Lib.hid hz
  clear hz
  go_enter Tryd.func72, Tryd.ntmps72
  go_wp2_with fail
  refine (pow_two _).mono ?_
  rintro e w' ⟨rfl, rfl⟩
  go_wp2_with fail
  refine (tz_any _ (ztab_below HZ.out ((Below.refl _ w).alloc (Nat.le_refl _) _))).mono ?_
  rintro e w' ⟨rfl, rfl⟩
  go_wp2_with fail
  have H0 : Hid (FB w.heap.size 65 [] w (w.alloc (.cells Tryd.zeroCells103 103))) := ⟨⟨_, heap_alloc_new w _, by decide, by rfl⟩, rfl, (Below.refl _ w).alloc (Nat.le_refl _) _⟩
  go_loopw [1, 13] (fun x i wr => ∃ (k v j : Nat) (tail : List UInt8), x = .int .u64 v ∧ i = .int .i64 j ∧ v < 16 ^ k ∧ v < 2097152 ∧ k ≤ 6 ∧ j = 59 + k ∧ Hid (hexF 6 u = hexF k v ++ tail) ∧ Hid (FB w.heap.size j tail w wr)) (fun x _ _ => (intOf x).toNat)
  case atStart => exact ⟨6, u, 65, [], rfl, rfl, by omega, hu, by omega, rfl, by show _ = _; rw [List.append_nil], H0⟩
  case round =>
    clear H0
    obtain ⟨k, v, j, tail, rfl, rfl, hvk, hv2, hk, hj, HX, H⟩ := hrel
    by_cases h16 : v < 16
    · have h16i : ¬ (16 : Int) ≤ v := by omega
      obtain ⟨i, hi⟩ : ∃ i, i + 1 = j := ⟨j - 1, by omega⟩
      have hii : (j : Int) - 1 = (i : Int) := by omega
      have hi65 : (i : Int) < 65 := by omega
      have hi0 : (0 : Int) ≤ i := by omega
      have hv36 : v < 36 := by omega
      have hv36i : (v : Int) < 36 := by omega
      have hD : digs36[v]'hv36 = hx v := dig_at ⟨v, h16⟩
      obtain ⟨c0, c0h⟩ := H.out.cell (j := i) (by omega)
      have f0 := H.out.free i
      have H1 := Lib.hid (H.out.step hi (hx v))
      have HS : Hid (hexF 6 u = hx v :: tail) := by show _ = _; rw [HX.out, hexF_low h16]; rfl
      obtain ⟨n, hn⟩ : ∃ n, i + n = 65 := ⟨65 - i, by omega⟩
      have hni : (65 : Int) - (i : Int) = (n : Int) := by omega
      have hni2 : (65 - i : Nat) = n := by omega
      have hcv := H1.out.text n hn
      have HD := Lib.hid hD
      have hi66 : (i : Int) ≤ 65 := by omega
      have hin : ¬ 65 = i := by omega
      have hvs : ((digs36[v]'hv36).toNat : Int) = ((hx v).toNat : Int) := by rw [hD]
      rw [← hvs] at hcv
      have HVS := Lib.hid hvs
      unfold digs36 at hcv
      clear hvk hk hj hn hi hD hvs
      go_wp2_with fail
      go_ret2
      exact ⟨by rw [HS.out]; rfl, H.out.below.setCell (Nat.le_refl _) _⟩
    · have h16i : (16 : Int) ≤ v := by omega
      obtain ⟨i, hi⟩ : ∃ i, i + 1 = j := ⟨j - 1, by omega⟩
      have hii : (j : Int) - 1 = (i : Int) := by omega
      have hi65 : (i : Int) < 65 := by omega
      have hi0 : (0 : Int) ≤ i := by omega
      obtain ⟨q, hq⟩ : ∃ q, v % 16 = q := ⟨_, rfl⟩
      have ha := and15 v hv2
      rw [hq] at ha
      have hq16 : q < 16 := by omega
      have hq36 : q < 36 := by omega
      have hq36i : (q : Int) < 36 := by omega
      have hD : digs36[q]'hq36 = hx q := dig_at ⟨q, hq16⟩
      obtain ⟨c0, c0h⟩ := H.out.cell (j := i) (by omega)
      have f0 := H.out.free i
      have H1 := Lib.hid (H.out.step hi (hx q))
      obtain ⟨m, hm⟩ : ∃ m, m + 1 = k := ⟨k - 1, by cases k with | zero => simp at hvk; omega | succ k => rfl⟩
      have HS : Hid (hexF 6 u = hexF m (v / 16) ++ hx q :: tail) := by show _ = _; rw [HX.out, ← hm, hexF, if_neg h16, hq, List.append_assoc]; rfl
      have HV : Hid (v / 16 < 16 ^ m) := by
        show _ < _
        rw [← hm, Nat.pow_succ] at hvk
        omega
      have HM : Hid (m + 1 = k) := hm
      have HI : Hid (i + 1 = j) := hi
      have HJ : Hid (j = 59 + k ∧ k ≤ 6 ∧ v < 2097152 ∧ 16 ≤ v) := ⟨hj, hk, hv2, by omega⟩
      have HQV : Hid (((digs36[q]'hq36).toNat : Int) = ((hx q).toNat : Int)) := by show _ = _; rw [hD]
      clear hvk hv2 hk hj hi hD hq hm h16
      go_wp2_with fail
      have e := HQV.out
      unfold digs36 at e
      rw [e]
      go_roundw
      case rel =>
        have h1 := HJ.out
        have h2 := HM.out
        have h3 := HI.out
        exact ⟨m, v / 16, i, hx q :: tail, by go_num, rfl, HV.out, by omega, by omega, by omega, HS.out, H1.out⟩
      case measure =>
        have h1 := HJ.out
        simp [intOf]
        omega
set_option maxRecDepth 100000 in
theorem fmtInner_any (u : Nat) (w : World) (hu : u < 2097152) (hz : ZTab w) :
    Calls Tryd.prog 50 #[.int .u64 u, .int .i64 16] w fun e w' => e = .returned (.string ⟨(hexF 6 u).toArray⟩) ∧ Below w.heap.size w w' := by
  have H := Lib.hid (fmt_any u w hu hz)
  clear hz
  go_enter Tryd.func50, Tryd.ntmps50
  go_wp2_with fail
  refine H.out.mono ?_
  rintro e w1 ⟨rfl, b1⟩
  have B1 := Lib.hid b1
  clear b1
  go_wp2_with fail
  go_ret
  exact ⟨rfl, B1.out⟩
set_option maxRecDepth 100000 in
theorem fmtUint_any (u : Nat) (w : World) (hu : u < 2097152) (hz : ZTab w) :
    Calls Tryd.prog 26 #[.int .u64 u, .int .i64 16] w fun e w' => e = .returned (.string ⟨(hexF 6 u).toArray⟩) ∧ Below w.heap.size w w' := by
  have H := Lib.hid (fmtInner_any u w hu hz)
  clear hz
  go_enter Tryd.func26, Tryd.ntmps26
  go_wp2_with fail
  refine H.out.mono ?_
  rintro e w1 ⟨rfl, b1⟩
  have B1 := Lib.hid b1
  clear b1
  go_wp2_with fail
  go_ret
  exact ⟨rfl, B1.out⟩
end Go.Proofs.YtnlhhjokaekdhaaDoor.R9
