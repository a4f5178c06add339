/- The first loop of a block of layer 5: its 80 words. -/
import Derived.Test.YtnlhhjokaekdhaaDoorRgtR5
import Derived.Test.YtnlhhjokaekdhaaDoorMix5
import Derived.Test.YtnlhhjokaekdhaaDoorRot5R
import Derived.Test.YtnlhhjokaekdhaaDoorLp
import Derived.Test.YtnlhhjokaekdhaaDoorBuild2
import Derived.Deep.RegionLaw
import Derived.Deep.Cut
import Derived.RegionTactic
set_option linter.unusedVariables false
set_option linter.unusedSimpArgs false
namespace Go.Proofs.YtnlhhjokaekdhaaDoor.L5
open Go.RowKit
open Go.Proofs.YtnlhhjokaekdhaaDoor.R4 (u64V infoU64 owns_base)

theorem wrapJ {J : Nat} (hb : J ≤ 2000000) : IntKind.i64.wrap (J : Int) = (J : Int) := IntWalk.i64_in _ (by omega)
theorem wrapSub {n : Nat} {k : Int} (h : k ≤ (n : Int)) (h0 : 0 ≤ k) (hn : n ≤ 100) : IntKind.i64.wrap ((n : Int) - k) = (n : Int) - k := IntWalk.i64_in _ (by omega)
theorem wrap_nat {x : Int} {J : Nat} (h : x = (J : Int)) (hb : J ≤ 2000000) : wrap64 x = (J : Int) := by unfold wrap64; omega
theorem quiet_2 {P : Program} {f : FuncId} {args : Array Value} {w : World} {n : Nat} {v : Value} (h : Calls P f args (w.drewN n) fun e w' => e = .returned v ∧ w' = (w.drewN n).drew) : Calls P f args (w.drewN n) fun e w' => e = .returned v ∧ ∃ k, w' = w.drewN k :=
  h.mono fun _ _ ⟨he, hw⟩ => ⟨he, n + 1, by rw [hw]; rfl⟩
theorem u64_at {L : List Int} {i : Nat} {a : Int} (h : i < L.length) (ha : L.getD i 0 = a) : (u64V L)[i]? = some (.int .u64 a) := by
  unfold u64V
  rw [List.getElem?_map, List.getElem?_eq_getElem h, ← ha]
  simp [List.getD, h]
theorem wrap_e (x : Int) : IntKind.u64.wrap x = x % 18446744073709551616 := by unfold IntKind.wrap; simp [IntKind.bits, IntKind.signed]
theorem wrap_u {x : Int} (h0 : 0 ≤ x) (h : x < 18446744073709551616) : IntKind.u64.wrap x = x := by rw [wrap_e]; omega
theorem wrap3 (a b c d : Int) : IntKind.u64.wrap (IntKind.u64.wrap (IntKind.u64.wrap (a + b) + c) + d) = w64 (w64 (w64 (a + b) + c) + d) := by
  rw [wrap_e, wrap_e, wrap_e]
theorem byte_of {Ms : ByteArray} {A i J : Nat} {bk : List UInt8} (hbk : (Ms.data.toList.drop A).take 128 = bk) (hi : i < 128) (hJ : A + i = J) (j : J < Ms.size) : byteI bk i = (Ms[J].toNat : Int) := by
  subst hbk hJ
  unfold byteI
  have hl : A + i < Ms.data.toList.length := by simpa using j
  rw [List.getD_eq_getElem?_getD, List.getElem?_take, if_pos hi, List.getElem?_drop, List.getElem?_eq_getElem hl]
  rfl
theorem or_nat (x y : Nat) (hx : x < 18446744073709551616) (hy : y < 18446744073709551616) : or64 (x : Int) (y : Int) = ((x ||| y : Nat) : Int) := by
  have hb : x ||| y < 2 ^ 64 := Nat.or_lt_two_pow hx hy
  have e : ∀ n : Nat, n < 18446744073709551616 → (BitVec.ofInt 64 (n : Int)).toNat = n := fun n hn => by
    rw [BitVec.toNat_ofInt]
    omega
  show IntKind.u64.wrap (((BitVec.ofInt 64 (x : Int) ||| BitVec.ofInt 64 (y : Int)).toNat : Nat) : Int) = _
  rw [BitVec.toNat_or, e x hx, e y hy, wrap_e]
  omega
theorem byteI_lt (l : List UInt8) (i : Nat) : ∃ b : Nat, byteI l i = (b : Int) ∧ b < 256 := ⟨_, rfl, (l.getD i 0).toNat_lt⟩
/-- The first j bytes of a word are a number of j bytes, by sums. -/
theorem part_val (l : List UInt8) (t : Nat) : ∀ j, j ≤ 8 → ∃ p : Nat, part l t j = (p : Int) ∧ p < 256 ^ j
  | 0, _ => ⟨0, rfl, by decide⟩
  | j + 1, h => by
    obtain ⟨p, hp, hlt⟩ := part_val l t j (by omega)
    obtain ⟨b, hb, hb2⟩ := byteI_lt l (8 * t + j)
    have h7 : 256 ^ j ≤ 256 ^ 7 := Nat.pow_le_pow_right (by decide) (by omega)
    have hlt2 : p < 256 ^ 7 := Nat.lt_of_lt_of_le hlt h7
    refine ⟨p * 256 + b, ?_, by rw [Nat.pow_succ]; omega⟩
    have e1 : w64 ((p : Int) * 256) = ((2 ^ 8 * p : Nat) : Int) := by unfold w64; omega
    have e2 : w64 (b : Int) = (b : Int) := by unfold w64; omega
    rw [part, hp, hb, e1, e2, or_nat _ _ (by omega) (by omega), ← Nat.two_pow_add_eq_or_of_lt (by omega : b < 2 ^ 8)]
    omega
theorem part_next (l : List UInt8) (t j : Nat) (h : j < 8) : part l t (j + 1) = part l t j * 256 + byteI l (8 * t + j) := by
  obtain ⟨p, hp, hlt⟩ := part_val l t j (by omega)
  obtain ⟨b, hb, hb2⟩ := byteI_lt l (8 * t + j)
  have h7 : 256 ^ j ≤ 256 ^ 7 := Nat.pow_le_pow_right (by decide) (by omega)
  have hlt2 : p < 256 ^ 7 := Nat.lt_of_lt_of_le hlt h7
  have e1 : w64 ((p : Int) * 256) = ((2 ^ 8 * p : Nat) : Int) := by unfold w64; omega
  have e2 : w64 (b : Int) = (b : Int) := by unfold w64; omega
  rw [part, hp, hb, e1, e2, or_nat _ _ (by omega) (by omega), ← Nat.two_pow_add_eq_or_of_lt (by omega : b < 2 ^ 8)]
  omega
theorem part_lt {l : List UInt8} {t j q : Nat} (h : part l t j = (q : Int)) (hj : j ≤ 8) : (q : Int) < 18446744073709551616 := by
  obtain ⟨p, hp, hlt⟩ := part_val l t j hj
  have h7 : 256 ^ j ≤ 256 ^ 8 := Nat.pow_le_pow_right (by decide) hj
  have hlt2 : p < 256 ^ 8 := Nat.lt_of_lt_of_le hlt h7
  rw [hp] at h
  omega
theorem part_small {l : List UInt8} {t j q : Nat} (h : part l t j = (q : Int)) (hj : j < 8) : (q : Int) < 72057594037927936 := by
  obtain ⟨p, hp, hlt⟩ := part_val l t j (by omega)
  have h7 : 256 ^ j ≤ 256 ^ 7 := Nat.pow_le_pow_right (by decide) (by omega)
  have hlt2 : p < 256 ^ 7 := Nat.lt_of_lt_of_le hlt h7
  rw [hp] at h
  omega
theorem part_step {Ms : ByteArray} {A n i J0 J : Nat} {bk : List UInt8} (hbk : (Ms.data.toList.drop A).take 128 = bk) (hn : n < 16) (hi : i < 8) (hJ0 : A + 8 * n = J0) (hJ : J0 + i = J) (j : J < Ms.size) :
    ∃ p q : Nat, part bk n i = (p : Int) ∧ part bk n (i + 1) = (q : Int) ∧ (p : Int) * 256 + (Ms[J].toNat : Int) = (q : Int) := by
  obtain ⟨p, hp, _⟩ := part_val bk n i (by omega)
  obtain ⟨q, hq, _⟩ := part_val bk n (i + 1) (by omega)
  refine ⟨p, q, hp, hq, ?_⟩
  have := part_next bk n i hi
  rw [hq, hp, byte_of hbk (by omega) (by omega) j] at this
  exact this.symm

set_option maxHeartbeats 3200000 in
set_option maxRecDepth 100000 in
theorem wloop_any (code : Code) (hcode : loopOf 8 Tryd.f38 = some code) (R : Act → World → Prop) {x0 x1 x2 x3 x4 x5 x10 x11 x12 x13 x14 x15 x16 x17 x18 x19 x20 x21 x22 x23 x24 x25 x26 x27 x28 x29 x30 x31 x32 x33 x34 x35 x36 x37 x38 x39 x40 x41 x42 x43 x44 x45 x46 x47 x48 x49 x50 x51 x52 x53 x54 x55 x56 x57 x58 x59 x60 x61 x62 x63 x64 x65 x66 x67 x68 x69 x70 x71 x72 x73 x74 x75 x76 x77 x78 x79 x80 x81 x82 x83 x84 x85 x86 x87 x88 x89 x90 x91 x92 x93 x94 x95 x96 x97 x98 x99 x100 x101 x102 x103 x104 x105 x106 x107 x108 x109 x110 x111 x112 x113 x114 x115 x116 x117 x118 x119 x120 x121 x122 x123 x124 x125 x126 x127 x128 x129 x130 x131 x132 x133 x134 x135 x136 x137 x138 x139 x140 x141 x142 x143 x144 x145 x146 x147 x148 x149 x150 x151 x152 x153 x154 x155 x156 x157 x158 x159 x160 x161 x162 x163 x164 x165 x166 x167 x168 x169 x170 x171 x172 x173 x174 x175 x176 x177 x178 x179 x180 x181 x182 x183 x184 x185 x186 x187 x188 x189 x190 x191 x192 x193 x194 x195 x196 x197 x198 x199 x200 x201 x202 x203 x204 x205 x206 x207 x208 x209 x210 x211 x212 x213 x214 x215 x216 x217 x218 x219 x220 x221 x222 x223 x224 x225 x226 x227 x228 x229 x230 x231 x232 x233 x234 x235 x236 x237 x238 x239 x240 x241 x242 x243 x244 x245 x246 x247 x248 x249 x250 x251 x252 x253 x254 x255 x256 x257 x258 x259 x260 x261 x262 x263 x264 x265 x266 x267 x268 x269 x270 x271 : Value} {ds : List Deferred} {w : World} (Ms : ByteArray) (az : Int) (A : Nat) (hA : az = (A : Int)) (bk : List UInt8) (h1 : A + 128 ≤ Ms.size) (h2 : Ms.size ≤ 1000400) (hbk : (Ms.data.toList.drop A).take 128 = bk)
    (hQ : ∀ (u9 u10 u11 u12 u13 u37 u38 u39 u40 u41 u42 u43 u44 u45 u46 u47 u48 u49 u50 u51 u52 u53 u54 u55 u56 u57 u58 u59 u60 u61 u62 u63 u64 u65 u66 u67 u68 u69 u70 u71 u72 u73 u74 u75 u76 u77 u78 u79 u80 u81 u82 u83 u84 u85 u86 u87 u88 u89 u90 u91 u92 u93 u94 u95 u96 u97 u98 u99 u100 u101 u102 u103 u104 u105 u106 u107 u108 u109 u110 u111 u112 u113 u114 u115 u116 u117 u118 u119 u120 : Value) (v : Value) (wr : World), wr.ownsRow w.heap.size 40 1 v 80 (u64V (sch bk 80)) → Below w.heap.size w wr → R ⟨List.toArray (x0 :: x1 :: x2 :: x3 :: x4 :: x5 :: .string Ms :: .int .i64 az :: v :: u9 :: u10 :: u11 :: u12 :: u13 :: x14 :: x15 :: x16 :: x17 :: x18 :: x19 :: x20 :: x21 :: x22 :: x23 :: x24 :: x25 :: x26 :: x27 :: x28 :: x29 :: x30 :: x31 :: x32 :: x33 :: x34 :: x35 :: x36 :: u37 :: u38 :: u39 :: u40 :: u41 :: u42 :: u43 :: u44 :: u45 :: u46 :: u47 :: u48 :: u49 :: u50 :: u51 :: u52 :: u53 :: u54 :: u55 :: u56 :: u57 :: u58 :: u59 :: u60 :: u61 :: u62 :: u63 :: u64 :: u65 :: u66 :: u67 :: u68 :: u69 :: u70 :: u71 :: u72 :: u73 :: u74 :: u75 :: u76 :: u77 :: u78 :: u79 :: u80 :: u81 :: u82 :: u83 :: u84 :: u85 :: u86 :: u87 :: u88 :: u89 :: u90 :: u91 :: u92 :: u93 :: u94 :: u95 :: u96 :: u97 :: u98 :: u99 :: u100 :: u101 :: u102 :: u103 :: u104 :: u105 :: u106 :: u107 :: u108 :: u109 :: u110 :: u111 :: u112 :: u113 :: u114 :: u115 :: u116 :: u117 :: u118 :: u119 :: u120 :: x121 :: x122 :: x123 :: x124 :: x125 :: x126 :: x127 :: x128 :: x129 :: x130 :: x131 :: x132 :: x133 :: x134 :: x135 :: x136 :: x137 :: x138 :: x139 :: x140 :: x141 :: x142 :: x143 :: x144 :: x145 :: x146 :: x147 :: x148 :: x149 :: x150 :: x151 :: x152 :: x153 :: x154 :: x155 :: x156 :: x157 :: x158 :: x159 :: x160 :: x161 :: x162 :: x163 :: x164 :: x165 :: x166 :: x167 :: x168 :: x169 :: x170 :: x171 :: x172 :: x173 :: x174 :: x175 :: x176 :: x177 :: x178 :: x179 :: x180 :: x181 :: x182 :: x183 :: x184 :: x185 :: x186 :: x187 :: x188 :: x189 :: x190 :: x191 :: x192 :: x193 :: x194 :: x195 :: x196 :: x197 :: x198 :: x199 :: x200 :: x201 :: x202 :: x203 :: x204 :: x205 :: x206 :: x207 :: x208 :: x209 :: x210 :: x211 :: x212 :: x213 :: x214 :: x215 :: x216 :: x217 :: x218 :: x219 :: x220 :: x221 :: x222 :: x223 :: x224 :: x225 :: x226 :: x227 :: x228 :: x229 :: x230 :: x231 :: x232 :: x233 :: x234 :: x235 :: x236 :: x237 :: x238 :: x239 :: x240 :: x241 :: x242 :: x243 :: x244 :: x245 :: x246 :: x247 :: x248 :: x249 :: x250 :: x251 :: x252 :: x253 :: x254 :: x255 :: x256 :: x257 :: x258 :: x259 :: x260 :: x261 :: x262 :: x263 :: x264 :: x265 :: x266 :: x267 :: x268 :: x269 :: x270 :: x271 :: []), ds⟩ wr) :
    code.wp Tryd.prog (LoopQ 2 R) ⟨List.toArray (x0 :: x1 :: x2 :: x3 :: x4 :: x5 :: .string Ms :: .int .i64 az :: .slice none 0 0 :: .int .i64 0 :: x10 :: x11 :: x12 :: x13 :: x14 :: x15 :: x16 :: x17 :: x18 :: x19 :: x20 :: x21 :: x22 :: x23 :: x24 :: x25 :: x26 :: x27 :: x28 :: x29 :: x30 :: x31 :: x32 :: x33 :: x34 :: x35 :: x36 :: x37 :: x38 :: x39 :: x40 :: x41 :: x42 :: x43 :: x44 :: x45 :: x46 :: x47 :: x48 :: x49 :: x50 :: x51 :: x52 :: x53 :: x54 :: x55 :: x56 :: x57 :: x58 :: x59 :: x60 :: x61 :: x62 :: x63 :: x64 :: x65 :: x66 :: x67 :: x68 :: x69 :: x70 :: x71 :: x72 :: x73 :: x74 :: x75 :: x76 :: x77 :: x78 :: x79 :: x80 :: x81 :: x82 :: x83 :: x84 :: x85 :: x86 :: x87 :: x88 :: x89 :: x90 :: x91 :: x92 :: x93 :: x94 :: x95 :: x96 :: x97 :: x98 :: x99 :: x100 :: x101 :: x102 :: x103 :: x104 :: x105 :: x106 :: x107 :: x108 :: x109 :: x110 :: x111 :: x112 :: x113 :: x114 :: x115 :: x116 :: x117 :: x118 :: x119 :: x120 :: x121 :: x122 :: x123 :: x124 :: x125 :: x126 :: x127 :: x128 :: x129 :: x130 :: x131 :: x132 :: x133 :: x134 :: x135 :: x136 :: x137 :: x138 :: x139 :: x140 :: x141 :: x142 :: x143 :: x144 :: x145 :: x146 :: x147 :: x148 :: x149 :: x150 :: x151 :: x152 :: x153 :: x154 :: x155 :: x156 :: x157 :: x158 :: x159 :: x160 :: x161 :: x162 :: x163 :: x164 :: x165 :: x166 :: x167 :: x168 :: x169 :: x170 :: x171 :: x172 :: x173 :: x174 :: x175 :: x176 :: x177 :: x178 :: x179 :: x180 :: x181 :: x182 :: x183 :: x184 :: x185 :: x186 :: x187 :: x188 :: x189 :: x190 :: x191 :: x192 :: x193 :: x194 :: x195 :: x196 :: x197 :: x198 :: x199 :: x200 :: x201 :: x202 :: x203 :: x204 :: x205 :: x206 :: x207 :: x208 :: x209 :: x210 :: x211 :: x212 :: x213 :: x214 :: x215 :: x216 :: x217 :: x218 :: x219 :: x220 :: x221 :: x222 :: x223 :: x224 :: x225 :: x226 :: x227 :: x228 :: x229 :: x230 :: x231 :: x232 :: x233 :: x234 :: x235 :: x236 :: x237 :: x238 :: x239 :: x240 :: x241 :: x242 :: x243 :: x244 :: x245 :: x246 :: x247 :: x248 :: x249 :: x250 :: x251 :: x252 :: x253 :: x254 :: x255 :: x256 :: x257 :: x258 :: x259 :: x260 :: x261 :: x262 :: x263 :: x264 :: x265 :: x266 :: x267 :: x268 :: x269 :: x270 :: x271 :: []), ds⟩ w := by
  have hlit := Option.some.inj hcode.symm
  subst hlit
  subst hA
  have HBK := Lib.hid hbk
  clear hbk
  go_loopw [8, 9] (fun v i wr => ∃ n : Nat, n ≤ 80 ∧ i = .int .i64 n ∧ Hid (wr.ownsRow w.heap.size 40 1 v n (u64V (sch bk n))) ∧ Hid (Below w.heap.size w wr)) (fun _ i _ => 80 - (intOf i).toNat)
  case atStart => exact ⟨0, Nat.zero_le _, rfl, ⟨rfl, .inl ⟨rfl, rfl⟩⟩, Below.refl _ w⟩
  case round =>
    obtain ⟨n, hn, rfl, O, B⟩ := hrel
    by_cases hn80 : n < 80
    · have hni : (n : Int) < 80 := by omega
      by_cases hn16 : n < 16
      · have hni16 : (n : Int) < 16 := by omega
        have hsz := B.out.size
        have HSZ := Lib.hid hsz
        obtain ⟨J0, hJ0⟩ : ∃ J, A + 8 * n = J := ⟨_, rfl⟩
        have e0 : (A : Int) + 8 * (n : Int) = (J0 : Int) := by omega
        have hb0 : J0 + 8 ≤ Ms.size := by omega
        have HJ0 := Lib.hid hJ0
        have HB0 := Lib.hid hb0
        have H2 := Lib.hid h2
        clear hsz hJ0 hb0 h1 h2
        go_wp2_with fail
        go_loop [10, 11] (fun a j => ∃ i : Nat, i ≤ 8 ∧ j = .int .i64 i ∧ a = .int .u64 (part bk n i)) (fun _ j => 8 - (intOf j).toNat)
        case atStart => exact ⟨0, Nat.zero_le _, rfl, rfl⟩
        case round =>
          obtain ⟨i, hi, rfl, rfl⟩ := hrel
          by_cases hi8 : i < 8
          · have hii : (i : Int) < 8 := by omega
            obtain ⟨J, hJ⟩ : ∃ J, J0 + i = J := ⟨_, rfl⟩
            have hb0 := HB0.out
            have h2 := H2.out
            have hj : J < Ms.size := by omega
            have hji : (J : Int) < Ms.size := by omega
            have e1 : (J0 : Int) + (i : Int) = (J : Int) := by omega
            obtain ⟨p, q, hp, hq, hps⟩ := part_step HBK.out hn16 hi8 HJ0.out hJ hj
            rw [hp]
            have HQ : Hid (part bk n (i + 1) = (q : Int)) := hq
            have HS : Hid ((p : Int) * 256 + (Ms[J].toNat : Int) = (q : Int)) := hps
            have hpb : (p : Int) * 256 ≤ 18446744073709551615 := by have := part_small hp hi8; omega
            have hp0 : (0 : Int) ≤ (p : Int) * 256 := by omega
            have hqb : (q : Int) < 18446744073709551616 := part_lt hq (by omega)
            have hwp : IntKind.u64.wrap ((p : Int) * 256) = (p : Int) * 256 := wrap_u hp0 (by omega)
            have hwq : IntKind.u64.wrap ((p : Int) * 256 + (Ms[J].toNat : Int)) = (q : Int) := by rw [HS.out]; exact wrap_u (by omega) hqb
            have hj6 : J ≤ 2000000 := by omega
            have hj06 : J0 ≤ 2000000 := by omega
            have hwb : IntKind.u64.wrap (Ms[J].toNat : Int) = (Ms[J].toNat : Int) := wrap_u (by omega) (by have := Ms[J].toNat_lt; omega)
            have HWB := Lib.hid hwb
            have HWQ := Lib.hid hwq
            have w0 := wrap_nat (x := (J0 : Int)) rfl hj06
            have w1 := wrap_nat (x := (J : Int)) rfl hj6
            clear hp hq hps hpb hp0 hqb hb0 h2 hJ hj6 hj06 hwb hwq
            go_wp2_with fail
            clear w0 w1 hwp
            go_round
            case rel => exact ⟨i + 1, by omega, by go_num, by rw [HQ.out, HWB.out, HWQ.out]⟩
            case measure => simp [intOf]; omega
          · obtain rfl : i = 8 := by omega
            have HX : Hid (u64V (sch bk (n + 1)) = u64V (sch bk n) ++ [.int .u64 (part bk n 8)]) := by
              show _ = _
              rw [sch, if_pos hn16]
              unfold u64V
              rw [List.map_append]
              rfl
            obtain ⟨x, hx⟩ : ∃ x, part bk n 8 = x := ⟨_, rfl⟩
            rw [hx] at HX
            rw [hx]
            clear hx e0
            go_wp2_with (at_builtin; refine app1 rfl _ _ 65 rfl infoU64 Tryd.underlying65 rfl (by decide) O.out rfl rfl rfl (by omega) HSZ.out ?_; intro v6 w6 hown6 hg6 hb6; have HO6 := Lib.hid hown6; have HB6 := Lib.hid hb6; clear hown6 hg6 hb6)
            go_roundw
            case rel => exact ⟨n + 1, by omega, by go_num, by show World.ownsRow _ _ _ _ _ _ _; rw [HX.out]; exact HO6.out, B.out.trans HB6.out⟩
            case measure => simp [intOf]; omega
      · have hk0i : (16 : Int) ≤ n := by omega
        have hnf : ¬ (n : Int) < 16 := by omega
        obtain ⟨L, hL⟩ : ∃ L, sch bk n = L := ⟨_, rfl⟩
        have hlen : L.length = n := by rw [← hL]; exact sch_len _ _
        rw [hL] at O
        obtain ⟨a16, h16⟩ : ∃ a, L.getD (n - 16) 0 = a := ⟨_, rfl⟩
        obtain ⟨a15, h15⟩ : ∃ a, L.getD (n - 15) 0 = a := ⟨_, rfl⟩
        obtain ⟨a7, h7⟩ : ∃ a, L.getD (n - 7) 0 = a := ⟨_, rfl⟩
        obtain ⟨a2, h2'⟩ : ∃ a, L.getD (n - 2) 0 = a := ⟨_, rfl⟩
        obtain ⟨s0, hs0⟩ : ∃ s, sig0 a15 = s := ⟨_, rfl⟩
        obtain ⟨s1, hs1⟩ : ∃ s, sig1 a2 = s := ⟨_, rfl⟩
        have q0 : bits .xor .u64 (bits .xor .u64 (rotF a15 1) (rotF a15 8)) (a15 / 128) = s0 := by rw [← hs0]; rfl
        have q1 : bits .xor .u64 (bits .xor .u64 (rotF a2 19) (rotF a2 61)) (a2 / 64) = s1 := by rw [← hs1]; rfl
        have HX : Hid (u64V (sch bk (n + 1)) = u64V L ++ [.int .u64 (w64 (w64 (w64 (a16 + s0) + a7) + s1))]) := by
          show _ = _
          rw [sch, if_neg hn16, schN, hL, h16, h15, h7, h2', hs0, hs1]
          unfold u64V
          rw [List.map_append]
          rfl
        obtain ⟨g, cap, hv, _, _, hg1, hg2, rr⟩ := owns_cell O.out (j := 0) (by omega)
        subst hv
        have c16 := rr (n - 16) _ (u64_at (by omega) h16)
        have c15 := rr (n - 15) _ (u64_at (by omega) h15)
        have c7 := rr (n - 7) _ (u64_at (by omega) h7)
        have c2 := rr (n - 2) _ (u64_at (by omega) h2')
        have b16 : (16 : Int) ≤ n := hk0i
        have b15 : (15 : Int) ≤ n := by omega
        have b7 : (7 : Int) ≤ n := by omega
        have b2 : (2 : Int) ≤ n := by omega
        have e16 : (n : Int) - 16 < n := by omega
        have e15 : (n : Int) - 15 < n := by omega
        have e7 : (n : Int) - 7 < n := by omega
        have e2 : (n : Int) - 2 < n := by omega
        have hsz := B.out.size
        have HNN : Hid (n + 1 ≤ 1099511627776) := by show _ ≤ _; omega
        have HSZ := Lib.hid hsz
        have HC : Hid (∀ W, Below wr.heap.size wr W → W.cell? ⟨g, n - 16, none⟩ = some (.int .u64 a16) ∧ W.cell? ⟨g, n - 15, none⟩ = some (.int .u64 a15) ∧ W.cell? ⟨g, n - 7, none⟩ = some (.int .u64 a7) ∧ W.cell? ⟨g, n - 2, none⟩ = some (.int .u64 a2)) :=
          fun W hW => ⟨(hW.cell (p := ⟨g, n - 16, none⟩) hg2).trans c16, (hW.cell (p := ⟨g, n - 15, none⟩) hg2).trans c15, (hW.cell (p := ⟨g, n - 7, none⟩) hg2).trans c7, (hW.cell (p := ⟨g, n - 2, none⟩) hg2).trans c2⟩
        clear rr hL hlen h16 h15 h7 h2' hs0 hs1 hsz
        go_wp2_with fail
        go_quiet ((go_at_call 61; exact quiet_2 (rright_k _ _ _ (by decide))))
        obtain ⟨wa, hwa⟩ : ∃ W, wr.drewN nq = W := ⟨_, rfl⟩
        have BA : Hid (Below wr.heap.size wr wa) := by rw [← hwa]; exact below_drewN (Below.refl _ wr) nq
        rw [hwa]
        clear hwa c16 c15 c7 c2
        obtain ⟨c16, c15, c7, c2⟩ := HC.out wa BA.out
        go_wp2_with fail
        clear nq
        go_quiet ((go_at_call 61; exact quiet_2 (rright_k _ _ _ (by decide))))
        obtain ⟨wb, hwb⟩ : ∃ W, wa.drewN nq = W := ⟨_, rfl⟩
        have BB : Hid (Below wr.heap.size wr wb) := by rw [← hwb]; exact below_drewN BA.out nq
        rw [hwb]
        clear hwb c16 c15 c7 c2
        obtain ⟨c16, c15, c7, c2⟩ := HC.out wb BB.out
        have OB : Hid (wb.ownsRow w.heap.size 40 1 (.slice (some ⟨g, 0, none⟩) n cap) n (u64V L)) := owns_below O.out BB.out
        have BW : Hid (Below w.heap.size w wb) := B.out.trans (BB.out.mono HSZ.out)
        have HSB : Hid (w.heap.size ≤ wb.heap.size) := BW.out.size
        have t16 : ((n : Int) - 16).toNat = n - 16 := by omega
        have t7 : ((n : Int) - 7).toNat = n - 7 := by omega
        have h100 : n ≤ 100 := by omega
        have g16 := wrapSub (k := 16) b16 (by decide) h100
        have g7 := wrapSub (k := 7) b7 (by decide) h100
        go_wp2_with fail
        go_region_law (refine step_app1 (by rfl) _ _ _ (by rfl) infoU64 Tryd.underlying65 (by rfl) (by decide) OB.out (by rfl) (by rfl) (by rfl) HNN.out HSB.out ?_; intro v6 w6 hown6 hb6; have HO6 := Lib.hid hown6; have HB6 := Lib.hid hb6; clear hown6 hb6)
        all_goals
          clear g16 g7 t16 t7 h100
          go_wp2_with fail
          go_roundw
          case rel => exact ⟨n + 1, by omega, by go_num, by show World.ownsRow _ _ _ _ _ _ _; rw [HX.out, ← wrap3]; exact HO6.out, BW.out.trans HB6.out⟩
          case measure => simp [intOf]; omega
    · obtain rfl : n = 80 := by omega
      go_wp2_with fail
      exact ⟨rfl, hQ _ _ _ _ _ _ _ _ _ _ _ _ _ _ _ _ _ _ _ _ _ _ _ _ _ _ _ _ _ _ _ _ _ _ _ _ _ _ _ _ _ _ _ _ _ _ _ _ _ _ _ _ _ _ _ _ _ _ _ _ _ _ _ _ _ _ _ _ _ _ _ _ _ _ _ _ _ _ _ _ _ _ _ _ _ _ _ _ _ _ _ O.out B.out⟩
end Go.Proofs.YtnlhhjokaekdhaaDoor.L5
