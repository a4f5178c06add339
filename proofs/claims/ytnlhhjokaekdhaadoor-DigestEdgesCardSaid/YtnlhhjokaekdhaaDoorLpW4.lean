/- The first loop of a block: its 64 words. -/
import Derived.Test.YtnlhhjokaekdhaaDoorRgtR4
import Derived.Test.YtnlhhjokaekdhaaDoorMix4
import Derived.Test.YtnlhhjokaekdhaaDoorWrd4
import Derived.Test.YtnlhhjokaekdhaaDoorLp
import Derived.Deep.RegionLaw
import Derived.Deep.Cut
import Derived.RegionTactic
set_option linter.unusedVariables false
set_option linter.unusedSimpArgs false
namespace Go.Proofs.YtnlhhjokaekdhaaDoor.R4
open Go.RowKit

def u32V (l : List Int) : List Value := l.map (Value.int .u32)
theorem infoU32 : (Tryd.prog.info? 37).map (fun i => (i.zero, i.size, i.bytes)) = some (some (.int .u32 0), 1, 4) := by kernel_rfl
theorem wrapJ {J : Nat} (hb : J ≤ 2000000) : IntKind.i64.wrap (J : Int) = (J : Int) := IntWalk.i64_in _ (by omega)
theorem wrapSub {n : Nat} {k : Int} (h : k ≤ (n : Int)) (h0 : 0 ≤ k) (hn : n ≤ 100) : IntKind.i64.wrap ((n : Int) - k) = (n : Int) - k := IntWalk.i64_in _ (by omega)
theorem wrap3 (a b c d : Int) : IntKind.u32.wrap (IntKind.u32.wrap (IntKind.u32.wrap (a + b) + c) + d) = (a + b + c + d) % 4294967296 := by
  have e : ∀ x : Int, IntKind.u32.wrap x = x % 4294967296 := fun x => by unfold IntKind.wrap; simp [IntKind.bits, IntKind.signed]
  rw [e, e, e]
  omega
theorem wrap_nat {x : Int} {J : Nat} (h : x = (J : Int)) (hb : J ≤ 2000000) : wrap64 x = (J : Int) := by unfold wrap64; omega
theorem byte_of {Ms : ByteArray} {A i J : Nat} {bk : List UInt8} (hbk : (Ms.data.toList.drop A).take 64 = bk) (hi : i < 64) (hJ : A + i = J) (j : J < Ms.size) : byteI bk i = (Ms[J].toNat : Int) := by
  subst hbk hJ
  unfold byteI
  have hl : A + i < Ms.data.toList.length := by simpa using j
  rw [List.getD_eq_getElem?_getD, List.getElem?_take, if_pos hi, List.getElem?_drop, List.getElem?_eq_getElem hl]
  rfl
theorem wd_next {Ms : ByteArray} {A n J J1 J2 J3 : Nat} {bk : List UInt8} (hbk : (Ms.data.toList.drop A).take 64 = bk) (hn : n < 16) (hJ : A + 4 * n = J) (hJ1 : J + 1 = J1) (hJ2 : J + 2 = J2) (hJ3 : J + 3 = J3)
    (j0 : J < Ms.size) (j1 : J1 < Ms.size) (j2 : J2 < Ms.size) (j3 : J3 < Ms.size) :
    u32V (sch bk (n + 1)) = u32V (sch bk n) ++ [.int .u32 (((Ms[J].toNat : Int) % 4294967296 * 16777216 + (Ms[J1].toNat : Int) % 4294967296 * 65536 + (Ms[J2].toNat : Int) % 4294967296 * 256 + (Ms[J3].toNat : Int)) % 4294967296)] := by
  have e : wd bk n = ((Ms[J].toNat : Int) % 4294967296 * 16777216 + (Ms[J1].toNat : Int) % 4294967296 * 65536 + (Ms[J2].toNat : Int) % 4294967296 * 256 + (Ms[J3].toNat : Int)) % 4294967296 := by
    unfold wd
    rw [byte_of hbk (by omega) hJ j0, byte_of hbk (by omega) (by omega) j1, byte_of hbk (by omega) (by omega) j2, byte_of hbk (by omega) (by omega) j3]
    have a0 := Ms[J].toNat_lt
    have a1 := Ms[J1].toNat_lt
    have a2 := Ms[J2].toNat_lt
    have a3 := Ms[J3].toNat_lt
    rw [word_sum _ _ _ _ a0 a1 a2 a3]
    omega
  rw [sch, if_pos hn, e]
  unfold u32V
  rw [List.map_append]
  rfl
theorem u32_at {L : List Int} {i : Nat} {a : Int} (h : i < L.length) (ha : L.getD i 0 = a) : (u32V L)[i]? = some (.int .u32 a) := by
  unfold u32V
  rw [List.getElem?_map, List.getElem?_eq_getElem h, ← ha]
  simp [List.getD, h]
theorem quiet_2 {P : Program} {f : FuncId} {args : Array Value} {w : World} {n : Nat} {v : Value} (h : Calls P f args (w.drewN n) fun e w' => e = .returned v ∧ w' = (w.drewN n).drew) : Calls P f args (w.drewN n) fun e w' => e = .returned v ∧ ∃ k, w' = w.drewN k :=
  h.mono fun _ _ ⟨he, hw⟩ => ⟨he, n + 1, by rw [hw]; rfl⟩

set_option maxHeartbeats 3200000 in
set_option maxRecDepth 100000 in
theorem wloop_any (code : Code) (hcode : loopOf 18 Tryd.f15 = some code) (R : Act → World → Prop) {x0 x1 x2 x3 x4 x5 x6 x7 x12 x13 x14 x15 x16 x17 x18 x19 x20 x21 x22 x23 x24 x25 x26 x27 x28 x29 x30 x31 x32 x33 x34 x35 x36 x37 x38 x39 x40 x41 x42 x43 x44 x45 x46 x47 x48 x49 x50 x51 x52 x53 x54 x55 x56 x57 x58 x59 x60 x61 x62 x63 x64 x65 x66 x67 x68 x69 x70 x71 x72 x73 x74 x75 x76 x77 x78 x79 x80 x81 x82 x83 x84 x85 x86 x87 x88 x89 x90 x91 x92 x93 x94 x95 x96 x97 x98 x99 x100 x101 x102 x103 x104 x105 x106 x107 x108 x109 x110 x111 x112 x113 x114 x115 x116 x117 x118 x119 x120 x121 x122 x123 x124 x125 x126 x127 x128 x129 x130 x131 x132 x133 x134 x135 x136 x137 x138 x139 x140 x141 x142 x143 x144 x145 x146 x147 x148 x149 x150 x151 x152 x153 x154 x155 x156 x157 x158 x159 x160 x161 x162 x163 x164 x165 x166 x167 x168 x169 x170 x171 x172 x173 x174 x175 x176 x177 x178 x179 x180 x181 x182 x183 x184 x185 x186 x187 x188 x189 x190 x191 x192 x193 x194 x195 x196 x197 x198 x199 x200 x201 x202 x203 x204 x205 x206 x207 x208 x209 x210 x211 x212 x213 x214 x215 x216 x217 x218 x219 x220 x221 x222 x223 x224 x225 x226 x227 x228 x229 x230 x231 x232 x233 x234 x235 x236 x237 x238 x239 x240 x241 x242 x243 x244 x245 x246 x247 x248 x249 x250 x251 x252 x253 x254 x255 x256 x257 x258 x259 x260 x261 x262 x263 x264 x265 x266 x267 x268 x269 x270 x271 x272 x273 x274 x275 x276 x277 x278 x279 x280 x281 x282 x283 x284 x285 x286 x287 x288 x289 x290 x291 x292 x293 x294 x295 x296 x297 x298 x299 x300 x301 x302 x303 x304 x305 x306 x307 x308 x309 x310 x311 x312 x313 x314 x315 x316 x317 x318 x319 x320 x321 x322 : Value} {ds : List Deferred} {w : World} (Ms : ByteArray) (az : Int) (A : Nat) (hA : az = (A : Int)) (bk : List UInt8) (h1 : A + 64 ≤ Ms.size) (h2 : Ms.size ≤ 1000080) (hbk : (Ms.data.toList.drop A).take 64 = bk)
    (hQ : ∀ (u11 u12 u13 u14 u65 u66 u67 u68 u69 u70 u71 u72 u73 u74 u75 u76 u77 u78 u79 u80 u81 u82 u83 u84 u85 u86 u87 u88 u89 u90 u91 u92 u93 u94 u95 u96 u97 u98 u99 u100 u101 u102 u103 u104 u105 u106 u107 u108 u109 u110 u111 u112 u113 u114 u115 u116 u117 u118 u119 u120 u121 u122 u123 u124 u125 u126 u127 u128 u129 u130 u131 u132 u133 u134 u135 u136 u137 u138 u139 u140 u141 u142 u143 u144 u145 u146 u147 u148 u149 u150 u151 u152 u153 u154 u155 u156 u157 u158 u159 u160 : Value) (v : Value) (wr : World), wr.ownsRow w.heap.size 37 1 v 64 (u32V (sch bk 64)) → Below w.heap.size w wr → R ⟨List.toArray (x0 :: x1 :: x2 :: x3 :: x4 :: x5 :: x6 :: x7 :: .string Ms :: .int .i64 az :: v :: u11 :: u12 :: u13 :: u14 :: x15 :: x16 :: x17 :: x18 :: x19 :: x20 :: x21 :: x22 :: x23 :: x24 :: x25 :: x26 :: x27 :: x28 :: x29 :: x30 :: x31 :: x32 :: x33 :: x34 :: x35 :: x36 :: x37 :: x38 :: x39 :: x40 :: x41 :: x42 :: x43 :: x44 :: x45 :: x46 :: x47 :: x48 :: x49 :: x50 :: x51 :: x52 :: x53 :: x54 :: x55 :: x56 :: x57 :: x58 :: x59 :: x60 :: x61 :: x62 :: x63 :: x64 :: u65 :: u66 :: u67 :: u68 :: u69 :: u70 :: u71 :: u72 :: u73 :: u74 :: u75 :: u76 :: u77 :: u78 :: u79 :: u80 :: u81 :: u82 :: u83 :: u84 :: u85 :: u86 :: u87 :: u88 :: u89 :: u90 :: u91 :: u92 :: u93 :: u94 :: u95 :: u96 :: u97 :: u98 :: u99 :: u100 :: u101 :: u102 :: u103 :: u104 :: u105 :: u106 :: u107 :: u108 :: u109 :: u110 :: u111 :: u112 :: u113 :: u114 :: u115 :: u116 :: u117 :: u118 :: u119 :: u120 :: u121 :: u122 :: u123 :: u124 :: u125 :: u126 :: u127 :: u128 :: u129 :: u130 :: u131 :: u132 :: u133 :: u134 :: u135 :: u136 :: u137 :: u138 :: u139 :: u140 :: u141 :: u142 :: u143 :: u144 :: u145 :: u146 :: u147 :: u148 :: u149 :: u150 :: u151 :: u152 :: u153 :: u154 :: u155 :: u156 :: u157 :: u158 :: u159 :: u160 :: x161 :: x162 :: x163 :: x164 :: x165 :: x166 :: x167 :: x168 :: x169 :: x170 :: x171 :: x172 :: x173 :: x174 :: x175 :: x176 :: x177 :: x178 :: x179 :: x180 :: x181 :: x182 :: x183 :: x184 :: x185 :: x186 :: x187 :: x188 :: x189 :: x190 :: x191 :: x192 :: x193 :: x194 :: x195 :: x196 :: x197 :: x198 :: x199 :: x200 :: x201 :: x202 :: x203 :: x204 :: x205 :: x206 :: x207 :: x208 :: x209 :: x210 :: x211 :: x212 :: x213 :: x214 :: x215 :: x216 :: x217 :: x218 :: x219 :: x220 :: x221 :: x222 :: x223 :: x224 :: x225 :: x226 :: x227 :: x228 :: x229 :: x230 :: x231 :: x232 :: x233 :: x234 :: x235 :: x236 :: x237 :: x238 :: x239 :: x240 :: x241 :: x242 :: x243 :: x244 :: x245 :: x246 :: x247 :: x248 :: x249 :: x250 :: x251 :: x252 :: x253 :: x254 :: x255 :: x256 :: x257 :: x258 :: x259 :: x260 :: x261 :: x262 :: x263 :: x264 :: x265 :: x266 :: x267 :: x268 :: x269 :: x270 :: x271 :: x272 :: x273 :: x274 :: x275 :: x276 :: x277 :: x278 :: x279 :: x280 :: x281 :: x282 :: x283 :: x284 :: x285 :: x286 :: x287 :: x288 :: x289 :: x290 :: x291 :: x292 :: x293 :: x294 :: x295 :: x296 :: x297 :: x298 :: x299 :: x300 :: x301 :: x302 :: x303 :: x304 :: x305 :: x306 :: x307 :: x308 :: x309 :: x310 :: x311 :: x312 :: x313 :: x314 :: x315 :: x316 :: x317 :: x318 :: x319 :: x320 :: x321 :: x322 :: []), ds⟩ wr) :
    code.wp Tryd.prog (LoopQ 6 R) ⟨List.toArray (x0 :: x1 :: x2 :: x3 :: x4 :: x5 :: x6 :: x7 :: .string Ms :: .int .i64 az :: .slice none 0 0 :: .int .i64 0 :: x12 :: x13 :: x14 :: x15 :: x16 :: x17 :: x18 :: x19 :: x20 :: x21 :: x22 :: x23 :: x24 :: x25 :: x26 :: x27 :: x28 :: x29 :: x30 :: x31 :: x32 :: x33 :: x34 :: x35 :: x36 :: x37 :: x38 :: x39 :: x40 :: x41 :: x42 :: x43 :: x44 :: x45 :: x46 :: x47 :: x48 :: x49 :: x50 :: x51 :: x52 :: x53 :: x54 :: x55 :: x56 :: x57 :: x58 :: x59 :: x60 :: x61 :: x62 :: x63 :: x64 :: x65 :: x66 :: x67 :: x68 :: x69 :: x70 :: x71 :: x72 :: x73 :: x74 :: x75 :: x76 :: x77 :: x78 :: x79 :: x80 :: x81 :: x82 :: x83 :: x84 :: x85 :: x86 :: x87 :: x88 :: x89 :: x90 :: x91 :: x92 :: x93 :: x94 :: x95 :: x96 :: x97 :: x98 :: x99 :: x100 :: x101 :: x102 :: x103 :: x104 :: x105 :: x106 :: x107 :: x108 :: x109 :: x110 :: x111 :: x112 :: x113 :: x114 :: x115 :: x116 :: x117 :: x118 :: x119 :: x120 :: x121 :: x122 :: x123 :: x124 :: x125 :: x126 :: x127 :: x128 :: x129 :: x130 :: x131 :: x132 :: x133 :: x134 :: x135 :: x136 :: x137 :: x138 :: x139 :: x140 :: x141 :: x142 :: x143 :: x144 :: x145 :: x146 :: x147 :: x148 :: x149 :: x150 :: x151 :: x152 :: x153 :: x154 :: x155 :: x156 :: x157 :: x158 :: x159 :: x160 :: x161 :: x162 :: x163 :: x164 :: x165 :: x166 :: x167 :: x168 :: x169 :: x170 :: x171 :: x172 :: x173 :: x174 :: x175 :: x176 :: x177 :: x178 :: x179 :: x180 :: x181 :: x182 :: x183 :: x184 :: x185 :: x186 :: x187 :: x188 :: x189 :: x190 :: x191 :: x192 :: x193 :: x194 :: x195 :: x196 :: x197 :: x198 :: x199 :: x200 :: x201 :: x202 :: x203 :: x204 :: x205 :: x206 :: x207 :: x208 :: x209 :: x210 :: x211 :: x212 :: x213 :: x214 :: x215 :: x216 :: x217 :: x218 :: x219 :: x220 :: x221 :: x222 :: x223 :: x224 :: x225 :: x226 :: x227 :: x228 :: x229 :: x230 :: x231 :: x232 :: x233 :: x234 :: x235 :: x236 :: x237 :: x238 :: x239 :: x240 :: x241 :: x242 :: x243 :: x244 :: x245 :: x246 :: x247 :: x248 :: x249 :: x250 :: x251 :: x252 :: x253 :: x254 :: x255 :: x256 :: x257 :: x258 :: x259 :: x260 :: x261 :: x262 :: x263 :: x264 :: x265 :: x266 :: x267 :: x268 :: x269 :: x270 :: x271 :: x272 :: x273 :: x274 :: x275 :: x276 :: x277 :: x278 :: x279 :: x280 :: x281 :: x282 :: x283 :: x284 :: x285 :: x286 :: x287 :: x288 :: x289 :: x290 :: x291 :: x292 :: x293 :: x294 :: x295 :: x296 :: x297 :: x298 :: x299 :: x300 :: x301 :: x302 :: x303 :: x304 :: x305 :: x306 :: x307 :: x308 :: x309 :: x310 :: x311 :: x312 :: x313 :: x314 :: x315 :: x316 :: x317 :: x318 :: x319 :: x320 :: x321 :: x322 :: []), ds⟩ w := by
  have hlit := Option.some.inj hcode.symm
  subst hlit
  subst hA
  have HBK := Lib.hid hbk
  clear hbk
  go_loopw [10, 11] (fun v i wr => ∃ n : Nat, n ≤ 64 ∧ i = .int .i64 n ∧ Hid (wr.ownsRow w.heap.size 37 1 v n (u32V (sch bk n))) ∧ Hid (Below w.heap.size w wr)) (fun _ i _ => 64 - (intOf i).toNat)
  case atStart => exact ⟨0, Nat.zero_le _, rfl, ⟨rfl, .inl ⟨rfl, rfl⟩⟩, Below.refl _ w⟩
  case round =>
    obtain ⟨n, hn, rfl, O, B⟩ := hrel
    by_cases hn64 : n < 64
    · have hni : (n : Int) < 64 := by omega
      by_cases hn16 : n < 16
      · have hni16 : (n : Int) < 16 := by omega
        obtain ⟨J, hJ⟩ : ∃ J, A + 4 * n = J := ⟨_, rfl⟩
        obtain ⟨J1, hJ1⟩ : ∃ J1, J + 1 = J1 := ⟨_, rfl⟩
        obtain ⟨J2, hJ2⟩ : ∃ J2, J + 2 = J2 := ⟨_, rfl⟩
        obtain ⟨J3, hJ3⟩ : ∃ J3, J + 3 = J3 := ⟨_, rfl⟩
        have j0 : J < Ms.size := by omega
        have j1 : J1 < Ms.size := by omega
        have j2 : J2 < Ms.size := by omega
        have j3 : J3 < Ms.size := by omega
        have i0 : (J : Int) < Ms.size := by omega
        have i1 : (J1 : Int) < Ms.size := by omega
        have i2 : (J2 : Int) < Ms.size := by omega
        have i3 : (J3 : Int) < Ms.size := by omega
        have hsz := B.out.size
        have e0 : (A : Int) + 4 * (n : Int) = (J : Int) := by omega
        have e1 : (J : Int) + 1 = (J1 : Int) := by omega
        have e2 : (J : Int) + 2 = (J2 : Int) := by omega
        have e3 : (J : Int) + 3 = (J3 : Int) := by omega
        have b0 : J ≤ 2000000 := by omega
        have b1 : J1 ≤ 2000000 := by omega
        have b2 : J2 ≤ 2000000 := by omega
        have b3 : J3 ≤ 2000000 := by omega
        have HJ := Lib.hid hJ
        have HJ1 := Lib.hid hJ1
        have HJ2 := Lib.hid hJ2
        have HJ3 := Lib.hid hJ3
        have HX : Hid (u32V (sch bk (n + 1)) = u32V (sch bk n) ++ [.int .u32 (((Ms[J].toNat : Int) % 4294967296 * 16777216 + (Ms[J1].toNat : Int) % 4294967296 * 65536 + (Ms[J2].toNat : Int) % 4294967296 * 256 + (Ms[J3].toNat : Int)) % 4294967296)]) := wd_next HBK.out hn16 hJ hJ1 hJ2 hJ3 j0 j1 j2 j3
        have HNN : Hid (n + 1 ≤ 1099511627776) := by show _ ≤ _; omega
        have HSZ := Lib.hid hsz
        have g0 := wrapJ b0
        have g1 := wrapJ b1
        have g2 := wrapJ b2
        have g3 := wrapJ b3
        clear hJ hJ1 hJ2 hJ3 hsz b0 b1 b2 b3
        obtain ⟨v6, w6, hrun, hown6, hb6⟩ := step_run1 (P := Tryd.prog) (t := 56) (e := 37) (u := .int .u32 (((Ms[J].toNat : Int) % 4294967296 * 16777216 + (Ms[J1].toNat : Int) % 4294967296 * 65536 + (Ms[J2].toNat : Int) % 4294967296 * 256 + (Ms[J3].toNat : Int)) % 4294967296)) infoU32 Tryd.underlying56 (by rfl) (by decide) O.out (by rfl) HNN.out HSZ.out
        simp [go_sem] at hrun
        have HO6 := Lib.hid hown6
        have HB6 := Lib.hid hb6
        clear hown6 hb6
        go_wp2_with fail
        go_region
        clear hrun e0 e1 e2 e3 g0 g1 g2 g3
        go_wp2_with fail
        go_roundw
        case rel => exact ⟨n + 1, by omega, by go_num, by show World.ownsRow _ _ _ _ _ _ _; rw [HX.out]; exact HO6.out, B.out.trans HB6.out⟩
        case measure => simp [intOf]; omega
      · have hk0i : (16 : Int) ≤ n := by omega
        have hnf : ¬ (n : Int) < 16 := by omega
        obtain ⟨L, hL⟩ : ∃ L, sch bk n = L := ⟨_, rfl⟩
        have hlen : L.length = n := by rw [← hL]; exact sch_len _ _
        rw [hL] at O
        obtain ⟨a16, h16⟩ : ∃ a, L.getD (n - 16) 0 = a := ⟨_, rfl⟩
        obtain ⟨a15, h15⟩ : ∃ a, L.getD (n - 15) 0 = a := ⟨_, rfl⟩
        obtain ⟨a7, h7⟩ : ∃ a, L.getD (n - 7) 0 = a := ⟨_, rfl⟩
        obtain ⟨a2, h2'⟩ : ∃ a, L.getD (n - 2) 0 = a := ⟨_, rfl⟩
        obtain ⟨s0, hs0⟩ : ∃ s, sig0 a15 = s := ⟨_, rfl⟩
        obtain ⟨s1, hs1⟩ : ∃ s, sig1 a2 = s := ⟨_, rfl⟩
        have q0 : bits .xor .u32 (bits .xor .u32 (rotF a15 7) (rotF a15 18)) (a15 / 8) = s0 := by rw [← hs0]; rfl
        have q1 : bits .xor .u32 (bits .xor .u32 (rotF a2 17) (rotF a2 19)) (a2 / 1024) = s1 := by rw [← hs1]; rfl
        have HX : Hid (u32V (sch bk (n + 1)) = u32V L ++ [.int .u32 ((a16 + s0 + a7 + s1) % 4294967296)]) := by
          show _ = _
          rw [sch, if_neg hn16, schN, hL, h16, h15, h7, h2', hs0, hs1]
          unfold u32V
          rw [List.map_append]
          rfl
        obtain ⟨g, cap, hv, _, _, hg1, hg2, rr⟩ := owns_cell O.out (j := 0) (by omega)
        subst hv
        have c16 := rr (n - 16) _ (u32_at (by omega) h16)
        have c15 := rr (n - 15) _ (u32_at (by omega) h15)
        have c7 := rr (n - 7) _ (u32_at (by omega) h7)
        have c2 := rr (n - 2) _ (u32_at (by omega) h2')
        have b16 : (16 : Int) ≤ n := hk0i
        have b15 : (15 : Int) ≤ n := by omega
        have b7 : (7 : Int) ≤ n := by omega
        have b2 : (2 : Int) ≤ n := by omega
        have e16 : (n : Int) - 16 < n := by omega
        have e15 : (n : Int) - 15 < n := by omega
        have e7 : (n : Int) - 7 < n := by omega
        have e2 : (n : Int) - 2 < n := by omega
        have hsz := B.out.size
        have HNN : Hid (n + 1 ≤ 1099511627776) := by show _ ≤ _; omega
        have HSZ := Lib.hid hsz
        have HC : Hid (∀ W, Below wr.heap.size wr W → W.cell? ⟨g, n - 16, none⟩ = some (.int .u32 a16) ∧ W.cell? ⟨g, n - 15, none⟩ = some (.int .u32 a15) ∧ W.cell? ⟨g, n - 7, none⟩ = some (.int .u32 a7) ∧ W.cell? ⟨g, n - 2, none⟩ = some (.int .u32 a2)) :=
          fun W hW => ⟨(hW.cell (p := ⟨g, n - 16, none⟩) hg2).trans c16, (hW.cell (p := ⟨g, n - 15, none⟩) hg2).trans c15, (hW.cell (p := ⟨g, n - 7, none⟩) hg2).trans c7, (hW.cell (p := ⟨g, n - 2, none⟩) hg2).trans c2⟩
        clear rr hL hlen h16 h15 h7 h2' hs0 hs1 hsz
        go_wp2_with fail
        go_quiet ((go_at_call 35; exact quiet_2 (rright_k _ _ _ (by decide))))
        obtain ⟨wa, hwa⟩ : ∃ W, wr.drewN nq = W := ⟨_, rfl⟩
        have BA : Hid (Below wr.heap.size wr wa) := by rw [← hwa]; exact below_drewN (Below.refl _ wr) nq
        rw [hwa]
        clear hwa c16 c15 c7 c2
        obtain ⟨c16, c15, c7, c2⟩ := HC.out wa BA.out
        go_wp2_with fail
        clear nq
        go_quiet ((go_at_call 35; exact quiet_2 (rright_k _ _ _ (by decide))))
        obtain ⟨wb, hwb⟩ : ∃ W, wa.drewN nq = W := ⟨_, rfl⟩
        have BB : Hid (Below wr.heap.size wr wb) := by rw [← hwb]; exact below_drewN BA.out nq
        rw [hwb]
        clear hwb c16 c15 c7 c2
        obtain ⟨c16, c15, c7, c2⟩ := HC.out wb BB.out
        have OB : Hid (wb.ownsRow w.heap.size 37 1 (.slice (some ⟨g, 0, none⟩) n cap) n (u32V L)) := owns_below O.out BB.out
        have BW : Hid (Below w.heap.size w wb) := B.out.trans (BB.out.mono HSZ.out)
        have HSB : Hid (w.heap.size ≤ wb.heap.size) := BW.out.size
        have t16 : ((n : Int) - 16).toNat = n - 16 := by omega
        have t7 : ((n : Int) - 7).toNat = n - 7 := by omega
        have h100 : n ≤ 100 := by omega
        have g16 := wrapSub (k := 16) b16 (by decide) h100
        have g7 := wrapSub (k := 7) b7 (by decide) h100
        go_wp2_with fail
        go_region_law (refine step_app1 (by rfl) _ _ _ (by rfl) infoU32 Tryd.underlying56 (by rfl) (by decide) OB.out (by rfl) (by rfl) (by rfl) HNN.out HSB.out ?_; intro v6 w6 hown6 hb6; have HO6 := Lib.hid hown6; have HB6 := Lib.hid hb6; clear hown6 hb6)
        all_goals
          clear g16 g7 t16 t7 h100
          go_wp2_with fail
          go_roundw
          case rel => exact ⟨n + 1, by omega, by go_num, by show World.ownsRow _ _ _ _ _ _ _; rw [HX.out, ← wrap3]; exact HO6.out, BW.out.trans HB6.out⟩
          case measure => simp [intOf]; omega
    · obtain rfl : n = 64 := by omega
      go_wp2_with fail
      refine ⟨rfl, hQ _ _ _ _ _ _ _ _ _ _ _ _ _ _ _ _ _ _ _ _ _ _ _ _ _ _ _ _ _ _ _ _ _ _ _ _ _ _ _ _ _ _ _ _ _ _ _ _ _ _ _ _ _ _ _ _ _ _ _ _ _ _ _ _ _ _ _ _ _ _ _ _ _ _ _ _ _ _ _ _ _ _ _ _ _ _ _ _ _ _ _ _ _ _ _ _ _ _ _ _ _ _ O.out B.out⟩
end Go.Proofs.YtnlhhjokaekdhaaDoor.R4
