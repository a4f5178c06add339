/- Region 6 of lazaretlaw25.SourcesValues, by itself: a drawn statement with a call. (Made by tools/gen/lva6.py.) -/
import Derived.Test.YteeplfbaflldaaaDoorLRd25
import Derived.Test.YteeplfbaflldaaaDoorSrcZ
import Derived.Test.YteeplfbaflldaaaDoorLVa0
import Derived.Deep.DeepCutAuto
set_option linter.unusedVariables false
set_option linter.unusedSimpArgs false
namespace Go.Proofs.YteeplfbaflldaaaDoor.S25
open Go.RowKit Go.Extern.Stop Go.Stop Go.Extern T10

/-- A statement of a function. -/
def findReg (n : Nat) : Code → Option Code
  | .region m ops d => if m = n then some (.region m ops d) else none
  | .seq x y => match findReg n x with
    | some c => some c
    | none => findReg n y
  | .cond _ x y => match findReg n x with
    | some c => some c
    | none => findReg n y
  | .block _ x => findReg n x
  | .scope x => findReg n x
  | .loop x => findReg n x
  | _ => none
def regOf (n : Nat) (f : Func) : Option Code := f.body.bind (findReg n)
def RegQ (R : Act → World → Prop) : Exit → Act → World → Prop
  | .normal, a, w => R a w
  | _, _, _ => False
theorem reg_out {P : Program} {c : Code} {Q : Exit → Act → World → Prop} {a : Act} {w : World} (h : c.wp P (RegQ fun a w => Q .normal a w) a w) : c.wp P Q a w := by
  refine wp_mono h ?_
  intro e a w he
  cases e with
  | normal => exact he
  | exit i => exact he.elim
  | goto l => exact he.elim
  | ret => exact he.elim
  | panic c => exact he.elim
  | outgrown => exact he.elim
set_option maxHeartbeats 20000000 in
set_option maxRecDepth 100000 in
theorem r6_any (code : Code) (hcode : regOf 6 Tryd.f10 = some code) (N : Act → World → Prop) {x0 x1 x3 x4 x5 x6 x10 x11 x12 x13 x14 x15 x16 x17 x18 x19 x20 x21 x22 x23 x24 x25 x26 x27 x28 x29 x30 x31 x32 x33 x34 x35 x36 x37 x38 x39 x40 x41 x42 x43 x44 x45 x46 x47 x48 x49 x50 x51 x52 x53 x54 x55 x56 x57 x58 x59 x60 x61 x62 x63 x64 x65 x66 x67 x68 x69 x70 x71 x72 x73 x74 x75 x76 x77 x78 x79 x80 x81 x82 x83 x84 x85 x86 x87 x88 x89 x90 x91 x92 x93 x94 x95 x96 x97 x98 x99 x100 x101 x102 x103 x104 x105 x106 x107 x108 x109 x110 x111 x112 x113 x114 x115 x116 x117 x118 x119 x120 x121 x122 x123 x124 x125 x126 x127 x128 x129 x130 x131 x132 x133 x134 x135 x136 x137 x138 x139 x140 x141 x142 x143 x144 x145 x146 x147 x148 x149 : Value} (cb : UInt8) (V Hd : ByteArray) (hb k q : Nat) (w W3 : World) (x2 : SrcL) (f2 : Int)
    (sH : Hd.size ≤ 7) (sV : V.size ≤ 40) (hqi : (V.size : Int) / 2 = (q : Int)) (hqt : (V.size : Int).tdiv 2 = (q : Int)) (hq1 : (q : Int) ≤ V.size) (hq0 : (0 : Int) ≤ q) (hki : (k : Int) < 5) (hki0 : (0 : Int) ≤ k)
    (HB3 : Hid (Below w.heap.size w W3)) (hcell3 : W3.cell? ⟨hb, k, none⟩ = some (.string Hd))
    (HP2 : Hid (∀ W, Below w.heap.size w W → Calls Tryd.prog 18 #[.string ((⟨#[39]⟩ : ByteArray) ++ Hd ++ V.extract 0 q ++ ⟨#[cb]⟩ ++ V.extract q V.size ++ ⟨#[39]⟩)] W fun e w' => e = .returned (.tuple #[.agg #[.int .i64 x2.kind, .string (ba x2.text), .int .i64 x2.bits, .string (ba x2.scheme), .string (ba x2.host), .bool x2.wild, .int .i64 x2.port, .string (ba x2.path)], .int .i64 f2]) ∧ Below W.heap.size W w'))
    (hN : ∀ (u13 u73 u74 u75 u76 u77 u78 u79 u80 u81 u82 u83 u84 u85 u86 u87 u88 u89 u90 u91 u92 u93 u94 u95 u96 u97 u98 : Value) (W' : World), Below W3.heap.size W3 W' → N ⟨List.toArray (x0 :: x1 :: .int .u8 (cb.toNat : Int) :: x3 :: x4 :: x5 :: x6 :: .string V :: .slice (some ⟨hb, 0, none⟩) 5 5 :: .int .i64 (k : Int) :: x10 :: x11 :: x12 :: u13 :: .int .i64 f2 :: x15 :: x16 :: x17 :: x18 :: x19 :: x20 :: x21 :: x22 :: x23 :: x24 :: x25 :: x26 :: x27 :: x28 :: x29 :: x30 :: x31 :: x32 :: x33 :: x34 :: x35 :: x36 :: x37 :: x38 :: x39 :: x40 :: x41 :: x42 :: x43 :: x44 :: x45 :: x46 :: x47 :: x48 :: x49 :: x50 :: x51 :: x52 :: x53 :: x54 :: x55 :: x56 :: x57 :: x58 :: x59 :: x60 :: x61 :: x62 :: x63 :: x64 :: x65 :: x66 :: x67 :: x68 :: x69 :: x70 :: x71 :: x72 :: u73 :: u74 :: u75 :: u76 :: u77 :: u78 :: u79 :: u80 :: u81 :: u82 :: u83 :: u84 :: u85 :: u86 :: u87 :: u88 :: u89 :: u90 :: u91 :: u92 :: u93 :: u94 :: u95 :: u96 :: u97 :: u98 :: x99 :: x100 :: x101 :: x102 :: x103 :: x104 :: x105 :: x106 :: x107 :: x108 :: x109 :: x110 :: x111 :: x112 :: x113 :: x114 :: x115 :: x116 :: x117 :: x118 :: x119 :: x120 :: x121 :: x122 :: x123 :: x124 :: x125 :: x126 :: x127 :: x128 :: x129 :: x130 :: x131 :: x132 :: x133 :: x134 :: x135 :: x136 :: x137 :: x138 :: x139 :: x140 :: x141 :: x142 :: x143 :: x144 :: x145 :: x146 :: x147 :: x148 :: x149 :: []), []⟩ W') :
    code.wp Tryd.prog (RegQ N) ⟨List.toArray (x0 :: x1 :: .int .u8 (cb.toNat : Int) :: x3 :: x4 :: x5 :: x6 :: .string V :: .slice (some ⟨hb, 0, none⟩) 5 5 :: .int .i64 (k : Int) :: x10 :: x11 :: x12 :: x13 :: x14 :: x15 :: x16 :: x17 :: x18 :: x19 :: x20 :: x21 :: x22 :: x23 :: x24 :: x25 :: x26 :: x27 :: x28 :: x29 :: x30 :: x31 :: x32 :: x33 :: x34 :: x35 :: x36 :: x37 :: x38 :: x39 :: x40 :: x41 :: x42 :: x43 :: x44 :: x45 :: x46 :: x47 :: x48 :: x49 :: x50 :: x51 :: x52 :: x53 :: x54 :: x55 :: x56 :: x57 :: x58 :: x59 :: x60 :: x61 :: x62 :: x63 :: x64 :: x65 :: x66 :: x67 :: x68 :: x69 :: x70 :: x71 :: x72 :: x73 :: x74 :: x75 :: x76 :: x77 :: x78 :: x79 :: x80 :: x81 :: x82 :: x83 :: x84 :: x85 :: x86 :: x87 :: x88 :: x89 :: x90 :: x91 :: x92 :: x93 :: x94 :: x95 :: x96 :: x97 :: x98 :: x99 :: x100 :: x101 :: x102 :: x103 :: x104 :: x105 :: x106 :: x107 :: x108 :: x109 :: x110 :: x111 :: x112 :: x113 :: x114 :: x115 :: x116 :: x117 :: x118 :: x119 :: x120 :: x121 :: x122 :: x123 :: x124 :: x125 :: x126 :: x127 :: x128 :: x129 :: x130 :: x131 :: x132 :: x133 :: x134 :: x135 :: x136 :: x137 :: x138 :: x139 :: x140 :: x141 :: x142 :: x143 :: x144 :: x145 :: x146 :: x147 :: x148 :: x149 :: []), []⟩ W3 := by
  have hlit := Option.some.inj hcode.symm
  subst hlit
  have zB : ∀ W : World, (W.alloc (.cells #[.int .u8 (cb.toNat : Int)] 5)).heap[W.heap.size]? = some (.cells #[.int .u8 (cb.toNat : Int)] 5 (0, 0)) := fun W => heap_alloc_new W _
  have zX : ∀ W : World, (W.alloc (.cells #[.int .i64 0, .string ⟨#[]⟩, .int .i64 0, .string ⟨#[]⟩, .string ⟨#[]⟩, .bool false, .int .i64 0, .string ⟨#[]⟩] 41)).heap[W.heap.size]? = some (.cells #[.int .i64 0, .string ⟨#[]⟩, .int .i64 0, .string ⟨#[]⟩, .string ⟨#[]⟩, .bool false, .int .i64 0, .string ⟨#[]⟩] 41 (0, 0)) := fun W => heap_alloc_new W _
  have s1 : (W3.alloc (.cells #[.int .u8 (cb.toNat : Int)] 5)).heap.size = W3.heap.size + 1 := by simp
  have s2 : (W3.alloc (.cells #[.int .i64 0, .string ⟨#[]⟩, .int .i64 0, .string ⟨#[]⟩, .string ⟨#[]⟩, .bool false, .int .i64 0, .string ⟨#[]⟩] 41)).heap.size = W3.heap.size + 1 := by simp
  have kB1 := zB W3
  have kB2 : ((W3.alloc (.cells #[.int .u8 (cb.toNat : Int)] 5)).alloc (.cells #[.int .i64 0, .string ⟨#[]⟩, .int .i64 0, .string ⟨#[]⟩, .string ⟨#[]⟩, .bool false, .int .i64 0, .string ⟨#[]⟩] 41)).heap[W3.heap.size]? = some (.cells #[.int .u8 (cb.toNat : Int)] 5 (0, 0)) := by rw [heap_alloc_old _ _ (by rw [s1]; omega)]; exact kB1
  have kX2 : ((W3.alloc (.cells #[.int .u8 (cb.toNat : Int)] 5)).alloc (.cells #[.int .i64 0, .string ⟨#[]⟩, .int .i64 0, .string ⟨#[]⟩, .string ⟨#[]⟩, .bool false, .int .i64 0, .string ⟨#[]⟩] 41)).heap[W3.heap.size + 1]? = some (.cells #[.int .i64 0, .string ⟨#[]⟩, .int .i64 0, .string ⟨#[]⟩, .string ⟨#[]⟩, .bool false, .int .i64 0, .string ⟨#[]⟩] 41 (0, 0)) := by rw [← s1]; exact zX _
  have kX3 : ((W3.alloc (.cells #[.int .i64 0, .string ⟨#[]⟩, .int .i64 0, .string ⟨#[]⟩, .string ⟨#[]⟩, .bool false, .int .i64 0, .string ⟨#[]⟩] 41)).alloc (.cells #[.int .u8 (cb.toNat : Int)] 5)).heap[W3.heap.size]? = some (.cells #[.int .i64 0, .string ⟨#[]⟩, .int .i64 0, .string ⟨#[]⟩, .string ⟨#[]⟩, .bool false, .int .i64 0, .string ⟨#[]⟩] 41 (0, 0)) := by rw [heap_alloc_old _ _ (by rw [s2]; omega)]; exact zX W3
  have kB3 : ((W3.alloc (.cells #[.int .i64 0, .string ⟨#[]⟩, .int .i64 0, .string ⟨#[]⟩, .string ⟨#[]⟩, .bool false, .int .i64 0, .string ⟨#[]⟩] 41)).alloc (.cells #[.int .u8 (cb.toNat : Int)] 5)).heap[W3.heap.size + 1]? = some (.cells #[.int .u8 (cb.toNat : Int)] 5 (0, 0)) := by rw [← s2]; exact zB _
  have hcv1 := conv_at (W3.alloc (.cells #[.int .u8 (cb.toNat : Int)] 5)).drew W3.heap.size cb kB1
  have hcv2 := conv_at ((W3.alloc (.cells #[.int .u8 (cb.toNat : Int)] 5)).alloc (.cells #[.int .i64 0, .string ⟨#[]⟩, .int .i64 0, .string ⟨#[]⟩, .string ⟨#[]⟩, .bool false, .int .i64 0, .string ⟨#[]⟩] 41)).drew W3.heap.size cb kB2
  have hcv3 := conv_at ((W3.alloc (.cells #[.int .i64 0, .string ⟨#[]⟩, .int .i64 0, .string ⟨#[]⟩, .string ⟨#[]⟩, .bool false, .int .i64 0, .string ⟨#[]⟩] 41)).alloc (.cells #[.int .u8 (cb.toNat : Int)] 5)).drew (W3.heap.size + 1) cb kB3
  have D1 : Below W3.heap.size W3 (W3.alloc (.cells #[.int .u8 (cb.toNat : Int)] 5)).drew := ((Below.refl _ W3).alloc (Nat.le_refl _) _).drew
  have D2 : Below W3.heap.size W3 ((W3.alloc (.cells #[.int .u8 (cb.toNat : Int)] 5)).alloc (.cells #[.int .i64 0, .string ⟨#[]⟩, .int .i64 0, .string ⟨#[]⟩, .string ⟨#[]⟩, .bool false, .int .i64 0, .string ⟨#[]⟩] 41)).drew := (((Below.refl _ W3).alloc (Nat.le_refl _) _).alloc (by rw [s1]; omega) _).drew
  have D3 : Below W3.heap.size W3 ((W3.alloc (.cells #[.int .i64 0, .string ⟨#[]⟩, .int .i64 0, .string ⟨#[]⟩, .string ⟨#[]⟩, .bool false, .int .i64 0, .string ⟨#[]⟩] 41)).alloc (.cells #[.int .u8 (cb.toNat : Int)] 5)).drew := (((Below.refl _ W3).alloc (Nat.le_refl _) _).alloc (by rw [s2]; omega) _).drew
  obtain ⟨E1, hE1⟩ : ∃ E, V.extract 0 q = E := ⟨_, rfl⟩
  obtain ⟨E2, hE2⟩ : ∃ E, V.extract q V.size = E := ⟨_, rfl⟩
  obtain ⟨X1, hX1⟩ : ∃ X, (⟨#[39]⟩ : ByteArray) ++ Hd = X := ⟨_, rfl⟩
  obtain ⟨X2, hX2⟩ : ∃ X, X1 ++ E1 = X := ⟨_, rfl⟩
  obtain ⟨X3, hX3⟩ : ∃ X, X2 ++ ⟨#[cb]⟩ = X := ⟨_, rfl⟩
  obtain ⟨X4, hX4⟩ : ∃ X, X3 ++ E2 = X := ⟨_, rfl⟩
  obtain ⟨X5, hX5⟩ : ∃ X, X4 ++ ⟨#[39]⟩ = X := ⟨_, rfl⟩
  rw [hE1, hE2, hX1, hX2, hX3, hX4, hX5] at HP2
  have zE1 : E1.size ≤ 40 := by rw [← hE1]; simp; omega
  have zE2 : E2.size ≤ 40 := by rw [← hE2]; simp; omega
  have zX1 : X1.size ≤ 8 := by rw [← hX1, ByteArray.size_append]; show 1 + Hd.size ≤ 8; omega
  have zX2 : X2.size ≤ 48 := by rw [← hX2, ByteArray.size_append]; omega
  have zX3 : X3.size ≤ 49 := by rw [← hX3, ByteArray.size_append]; show X2.size + 1 ≤ 49; omega
  have zX4 : X4.size ≤ 89 := by rw [← hX4, ByteArray.size_append]; omega
  have n1 : ¬ 9223372036854775807 < 1 + Hd.size := by omega
  have n2 : ¬ 9223372036854775807 < X1.size + E1.size := by omega
  have n3 : ¬ 9223372036854775807 < X2.size + 1 := by omega
  have n4 : ¬ 9223372036854775807 < X3.size + E2.size := by omega
  have n5 : ¬ 9223372036854775807 < X4.size + 1 := by omega
  have hwq : IntKind.i64.wrap (q : Int) = q := IntWalk.i64_in _ (by omega)
  clear zE1 zE2 zX1 zX2 zX3 zX4 sH sV
  have hlb : hb < W3.heap.size := by
    have := World.block_lt_of_cell? W3 _ hcell3
    exact this
  have qc1 : (W3.alloc (.cells #[.int .u8 (cb.toNat : Int)] 5)).cell? ⟨hb, k, none⟩ = some (.string Hd) := (((Below.refl _ W3).alloc (Nat.le_refl _) _).cell (p := ⟨hb, k, none⟩) hlb).trans hcell3
  have qc2 : (W3.alloc (.cells #[.int .i64 0, .string ⟨#[]⟩, .int .i64 0, .string ⟨#[]⟩, .string ⟨#[]⟩, .bool false, .int .i64 0, .string ⟨#[]⟩] 41)).cell? ⟨hb, k, none⟩ = some (.string Hd) := (((Below.refl _ W3).alloc (Nat.le_refl _) _).cell (p := ⟨hb, k, none⟩) hlb).trans hcell3
  have qc3 : ((W3.alloc (.cells #[.int .u8 (cb.toNat : Int)] 5)).alloc (.cells #[.int .i64 0, .string ⟨#[]⟩, .int .i64 0, .string ⟨#[]⟩, .string ⟨#[]⟩, .bool false, .int .i64 0, .string ⟨#[]⟩] 41)).cell? ⟨hb, k, none⟩ = some (.string Hd) := (D2.cell (p := ⟨hb, k, none⟩) hlb).trans hcell3
  have qc4 : ((W3.alloc (.cells #[.int .i64 0, .string ⟨#[]⟩, .int .i64 0, .string ⟨#[]⟩, .string ⟨#[]⟩, .bool false, .int .i64 0, .string ⟨#[]⟩] 41)).alloc (.cells #[.int .u8 (cb.toNat : Int)] 5)).cell? ⟨hb, k, none⟩ = some (.string Hd) := (D3.cell (p := ⟨hb, k, none⟩) hlb).trans hcell3
  have HD1 := Lib.hid D1
  have HD2 := Lib.hid D2
  have HD3 := Lib.hid D3
  have HU1 := Lib.hid (HB3.out.trans (D1.mono HB3.out.size))
  have HU2 := Lib.hid (HB3.out.trans (D2.mono HB3.out.size))
  have HU3 := Lib.hid (HB3.out.trans (D3.mono HB3.out.size))
  have HKX2 := Lib.hid kX2
  have HKX3 := Lib.hid kX3
  clear zB zX s1 s2 kB1 kB2 kB3 kX2 kX3 D1 D2 D3
  go_region_with (go_at_call 18; first
    | ((with_reducible refine (HP2.out _ ?hA).mono ?_); (case hA => with_reducible exact HU1.out); rintro e v4 ⟨rfl, b4⟩; have HV4 : Hid (Below W3.heap.size W3 v4) := HD1.out.trans (b4.mono HD1.out.size); have HZ4 := Lib.hid HV4.out.size; clear b4)
    | ((with_reducible refine (HP2.out _ ?hA).mono ?_); (case hA => with_reducible exact HU2.out); rintro e v4 ⟨rfl, b4⟩; have HV4 : Hid (Below W3.heap.size W3 v4) := HD2.out.trans (b4.mono HD2.out.size); have HZ4 := Lib.hid HV4.out.size; obtain ⟨⟨m0, m1, m2, m3, m4, m5, m6, m7⟩, n0, n1, n2, n3, n4, n5, n6, n7⟩ := eight ((b4.block _ (lt_of_heap HKX2.out)).trans HKX2.out); clear b4)
    | ((with_reducible refine (HP2.out _ ?hA).mono ?_); (case hA => with_reducible exact HU3.out); rintro e v4 ⟨rfl, b4⟩; have HV4 : Hid (Below W3.heap.size W3 v4) := HD3.out.trans (b4.mono HD3.out.size); have HZ4 := Lib.hid HV4.out.size; obtain ⟨⟨m0, m1, m2, m3, m4, m5, m6, m7⟩, n0, n1, n2, n3, n4, n5, n6, n7⟩ := eight ((b4.block _ (lt_of_heap HKX3.out)).trans HKX3.out); clear b4))
  all_goals
    go_wp2_with fail
    refine hN _ _ _ _ _ _ _ _ _ _ _ _ _ _ _ _ _ _ _ _ _ _ _ _ _ _ _ _ ?_
    show Below _ _ _
    repeat' first
      | with_reducible exact HV4.out
      | with_reducible refine Below.drew ?_
      | with_reducible refine Below.setCell ?_ (by first | exact Nat.le_refl _ | exact Nat.le_succ _) _
      | with_reducible refine Below.alloc ?_ HZ4.out _
end Go.Proofs.YteeplfbaflldaaaDoor.S25
