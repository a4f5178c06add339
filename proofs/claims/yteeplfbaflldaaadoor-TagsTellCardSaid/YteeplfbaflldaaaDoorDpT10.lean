/- The second loop of lazaretref10.Read: the first attribute of each name. -/
import Derived.Test.YteeplfbaflldaaaDoorTgL
import Derived.Test.YteeplfbaflldaaaDoorLp
import Derived.Test.YteeplfbaflldaaaDoorTg7
import Derived.Deep.Cut
import Derived.Deep.RegionLaw
import Derived.Deep.AppendLies
import Derived.RegionTactic
set_option linter.unusedVariables false
set_option linter.unusedSimpArgs false
namespace Go.Proofs.YteeplfbaflldaaaDoor.T10
open Go.RowKit R9

theorem any_more {l : List At} {n : List UInt8} {j : Nat} {x : At} (h : l[j]? = some x) : (l.take (j + 1)).any (fun y => y.1 == n) = ((l.take j).any (fun y => y.1 == n) || x.1 == n) := by
  obtain ⟨h1, h2⟩ := List.getElem?_eq_some_iff.1 h
  rw [List.take_succ_eq_append_getElem h1, h2]
  simp
theorem take_more {l : List At} {k : Nat} {x : At} (h : l[k]? = some x) : l.take (k + 1) = l.take k ++ [x] := by
  obtain ⟨h1, h2⟩ := List.getElem?_eq_some_iff.1 h
  rw [List.take_succ_eq_append_getElem h1, h2]
/-- The same memory. -/
structure SameH (w w' : World) : Prop where
  os : w'.os = w.os
  tape : w'.tape = w.tape
  output : w'.output = w.output
  heap : w'.heap = w.heap
theorem SameH.drew {w w' : World} (h : SameH w w') : SameH w w'.drew := ⟨h.os, h.tape, h.output, h.heap⟩
theorem SameH.cell {w w' : World} (h : SameH w w') {a : Addr} {u : Value} (hc : w.cell? a = some u) : w'.cell? a = some u := (World.cell?_of_block (by rw [h.heap])).trans hc
theorem SameH.frozen {w w' : World} (h : SameH w w') {a : Addr} {u : Bool} (hc : w.frozen? a = u) : w'.frozen? a = u := (World.frozen?_of_block (by rw [h.heap])).trans hc
/-- The memory of the loop. -/
structure DpAt (p : Nat) (kind from' : Int) (nb : ByteArray) (b : Bool) (w : World) (K : List At × Bool) (oa : Option Addr) (n oc : Nat) (wr : World) : Prop where
  tok : wr.heap[p]? = some (.cells #[.int .i64 kind, .string nb, .string ⟨#[]⟩, .slice oa n oc, .bool K.2, .bool b, .bool false, .int .i64 from', .int .i64 0] 25 (0, 0))
  own : wr.ownsRow w.heap.size 32 2 (.slice oa n oc) n (attC K.1)
  len : K.1.length = n
  size : w.heap.size ≤ wr.heap.size
  grown : w.grownBy wr (some p)
theorem DpAt.same {p : Nat} {kind from' : Int} {nb : ByteArray} {b : Bool} {w : World} {K : List At × Bool} {oa : Option Addr} {n oc : Nat} {wr wq : World} (h : DpAt p kind from' nb b w K oa n oc wr) (hs : SameH wr wq) : DpAt p kind from' nb b w K oa n oc wq :=
  ⟨by rw [hs.heap]; exact h.tok, h.own.kept (row := none) ⟨hs.os, hs.tape, hs.output, Nat.le_of_eq (by rw [hs.heap]), fun j _ _ => by rw [hs.heap]⟩ (by cases (Value.slice oa n oc).ownBlock <;> simp), h.len, by rw [hs.heap]; exact h.size, ⟨hs.os.trans h.grown.os, hs.tape.trans h.grown.tape, hs.output.trans h.grown.output, by rw [hs.heap]; exact h.grown.size, fun j h1 h2 => by rw [hs.heap]; exact h.grown.block j h1 h2⟩⟩

set_option maxHeartbeats 25600000 in
set_option maxRecDepth 100000 in
theorem dloop_any (code : Code) (hcode : loopOf 88 Tryd.f13 = some code) (R : Act → World → Prop) {x0 x1 x2 x3 x4 x5 x6 x7 x8 x9 x12 x13 x14 x15 x16 x17 x19 x20 x21 x22 x23 x24 x25 x26 x27 x28 x29 x30 x31 x32 x33 x34 x35 x36 x37 x38 x39 x40 x41 x42 x43 x44 x45 x46 x47 x48 x49 x50 x51 x52 x53 x54 x55 x56 x57 x58 x59 x60 x61 x62 x63 x64 x65 x66 x67 x68 x69 x70 x71 x72 x73 x74 x75 x76 x77 x78 x79 x80 x81 x82 x83 x84 x85 x86 x87 x88 x89 x90 x91 x92 x93 x94 x95 x96 x97 x98 x99 x100 x101 x102 x103 x104 x105 x106 x107 x108 x109 x110 x111 x112 x113 x114 x115 x116 x117 x118 x119 x120 x121 x122 x123 x124 x125 x126 x127 x128 x129 x130 x131 x132 x133 x134 x135 x136 x137 x138 x139 x140 x141 x142 x143 x144 x145 x146 x147 x148 x149 x150 x151 x152 x153 x154 x155 x156 x157 x158 x159 x160 x161 x162 x163 x164 x165 x166 x167 x168 x169 x170 x171 x172 x173 x174 x175 x176 x177 x178 x179 x180 x181 x182 x183 x184 x185 x186 x187 x188 x189 x190 x191 x192 x193 x194 x195 x196 x197 x198 x199 x200 x201 x202 x203 x204 x205 x206 x207 x208 x209 x210 x211 x212 x213 x214 x215 x216 x217 x218 x219 x220 x221 x222 x223 x224 x225 x226 x227 x228 x229 x230 x231 x232 x233 x234 x235 x236 x237 x238 x239 x240 x241 x242 x243 x244 x245 x246 x247 x248 x249 x250 x251 x252 x253 x254 x255 x256 x257 x258 x259 x260 x261 x262 x263 x264 x265 x266 x267 x268 x269 x270 x271 x272 x273 x274 x275 x276 x277 x278 x279 x280 x281 x282 x283 x284 x285 x286 x287 x288 x289 x290 x291 x292 x293 x294 x295 x296 x297 x298 x299 x300 x301 x302 x303 x304 x305 x306 x307 x308 x309 x310 x311 x312 x313 x314 : Value} {ds : List Deferred} {w : World} (p L oc B : Nat) (oa : Option Addr) (ls : List At) (nb : ByteArray) (b : Bool) (kind from' : Int)
    (hL : L ≤ 3000) (hpB : p < B) (hown : w.ownsRow B 32 2 (.slice oa L oc) L (attC ls)) (hlen : ls.length = L) (hp : w.heap[p]? = some (.cells #[.int .i64 kind, .string nb, .string ⟨#[]⟩, .slice none 0 0, .bool false, .bool b, .bool false, .int .i64 from', .int .i64 0] 25 (0, 0)))
    (hQ : ∀ (u19 u20 u262 u263 u264 u265 u266 u267 u268 u269 u270 u271 u272 u273 u274 u275 u276 u277 u278 u279 u280 u281 u282 u283 u284 u285 u286 u287 u288 u289 u290 u291 u292 u293 u294 u295 u296 u297 u298 u299 u300 u301 u302 u303 u304 u305 u306 v18 : Value) (oa' : Option Addr) (n' oc' : Nat) (wr : World), DpAt p kind from' nb b w (keepL ls) oa' n' oc' wr → R ⟨List.toArray (x0 :: x1 :: x2 :: x3 :: x4 :: x5 :: x6 :: x7 :: x8 :: x9 :: .pointer (some ⟨p, 0, none⟩) :: .slice oa L oc :: x12 :: x13 :: x14 :: x15 :: x16 :: x17 :: v18 :: u19 :: u20 :: x21 :: x22 :: x23 :: x24 :: x25 :: x26 :: x27 :: x28 :: x29 :: x30 :: x31 :: x32 :: x33 :: x34 :: x35 :: x36 :: x37 :: x38 :: x39 :: x40 :: x41 :: x42 :: x43 :: x44 :: x45 :: x46 :: x47 :: x48 :: x49 :: x50 :: x51 :: x52 :: x53 :: x54 :: x55 :: x56 :: x57 :: x58 :: x59 :: x60 :: x61 :: x62 :: x63 :: x64 :: x65 :: x66 :: x67 :: x68 :: x69 :: x70 :: x71 :: x72 :: x73 :: x74 :: x75 :: x76 :: x77 :: x78 :: x79 :: x80 :: x81 :: x82 :: x83 :: x84 :: x85 :: x86 :: x87 :: x88 :: x89 :: x90 :: x91 :: x92 :: x93 :: x94 :: x95 :: x96 :: x97 :: x98 :: x99 :: x100 :: x101 :: x102 :: x103 :: x104 :: x105 :: x106 :: x107 :: x108 :: x109 :: x110 :: x111 :: x112 :: x113 :: x114 :: x115 :: x116 :: x117 :: x118 :: x119 :: x120 :: x121 :: x122 :: x123 :: x124 :: x125 :: x126 :: x127 :: x128 :: x129 :: x130 :: x131 :: x132 :: x133 :: x134 :: x135 :: x136 :: x137 :: x138 :: x139 :: x140 :: x141 :: x142 :: x143 :: x144 :: x145 :: x146 :: x147 :: x148 :: x149 :: x150 :: x151 :: x152 :: x153 :: x154 :: x155 :: x156 :: x157 :: x158 :: x159 :: x160 :: x161 :: x162 :: x163 :: x164 :: x165 :: x166 :: x167 :: x168 :: x169 :: x170 :: x171 :: x172 :: x173 :: x174 :: x175 :: x176 :: x177 :: x178 :: x179 :: x180 :: x181 :: x182 :: x183 :: x184 :: x185 :: x186 :: x187 :: x188 :: x189 :: x190 :: x191 :: x192 :: x193 :: x194 :: x195 :: x196 :: x197 :: x198 :: x199 :: x200 :: x201 :: x202 :: x203 :: x204 :: x205 :: x206 :: x207 :: x208 :: x209 :: x210 :: x211 :: x212 :: x213 :: x214 :: x215 :: x216 :: x217 :: x218 :: x219 :: x220 :: x221 :: x222 :: x223 :: x224 :: x225 :: x226 :: x227 :: x228 :: x229 :: x230 :: x231 :: x232 :: x233 :: x234 :: x235 :: x236 :: x237 :: x238 :: x239 :: x240 :: x241 :: x242 :: x243 :: x244 :: x245 :: x246 :: x247 :: x248 :: x249 :: x250 :: x251 :: x252 :: x253 :: x254 :: x255 :: x256 :: x257 :: x258 :: x259 :: x260 :: x261 :: u262 :: u263 :: u264 :: u265 :: u266 :: u267 :: u268 :: u269 :: u270 :: u271 :: u272 :: u273 :: u274 :: u275 :: u276 :: u277 :: u278 :: u279 :: u280 :: u281 :: u282 :: u283 :: u284 :: u285 :: u286 :: u287 :: u288 :: u289 :: u290 :: u291 :: u292 :: u293 :: u294 :: u295 :: u296 :: u297 :: u298 :: u299 :: u300 :: u301 :: u302 :: u303 :: u304 :: u305 :: u306 :: x307 :: x308 :: x309 :: x310 :: x311 :: x312 :: x313 :: x314 :: []), ds⟩ wr) :
    code.wp Tryd.prog (LoopQ 3 R) ⟨List.toArray (x0 :: x1 :: x2 :: x3 :: x4 :: x5 :: x6 :: x7 :: x8 :: x9 :: .pointer (some ⟨p, 0, none⟩) :: .slice oa L oc :: x12 :: x13 :: x14 :: x15 :: x16 :: x17 :: .int .i64 0 :: x19 :: x20 :: x21 :: x22 :: x23 :: x24 :: x25 :: x26 :: x27 :: x28 :: x29 :: x30 :: x31 :: x32 :: x33 :: x34 :: x35 :: x36 :: x37 :: x38 :: x39 :: x40 :: x41 :: x42 :: x43 :: x44 :: x45 :: x46 :: x47 :: x48 :: x49 :: x50 :: x51 :: x52 :: x53 :: x54 :: x55 :: x56 :: x57 :: x58 :: x59 :: x60 :: x61 :: x62 :: x63 :: x64 :: x65 :: x66 :: x67 :: x68 :: x69 :: x70 :: x71 :: x72 :: x73 :: x74 :: x75 :: x76 :: x77 :: x78 :: x79 :: x80 :: x81 :: x82 :: x83 :: x84 :: x85 :: x86 :: x87 :: x88 :: x89 :: x90 :: x91 :: x92 :: x93 :: x94 :: x95 :: x96 :: x97 :: x98 :: x99 :: x100 :: x101 :: x102 :: x103 :: x104 :: x105 :: x106 :: x107 :: x108 :: x109 :: x110 :: x111 :: x112 :: x113 :: x114 :: x115 :: x116 :: x117 :: x118 :: x119 :: x120 :: x121 :: x122 :: x123 :: x124 :: x125 :: x126 :: x127 :: x128 :: x129 :: x130 :: x131 :: x132 :: x133 :: x134 :: x135 :: x136 :: x137 :: x138 :: x139 :: x140 :: x141 :: x142 :: x143 :: x144 :: x145 :: x146 :: x147 :: x148 :: x149 :: x150 :: x151 :: x152 :: x153 :: x154 :: x155 :: x156 :: x157 :: x158 :: x159 :: x160 :: x161 :: x162 :: x163 :: x164 :: x165 :: x166 :: x167 :: x168 :: x169 :: x170 :: x171 :: x172 :: x173 :: x174 :: x175 :: x176 :: x177 :: x178 :: x179 :: x180 :: x181 :: x182 :: x183 :: x184 :: x185 :: x186 :: x187 :: x188 :: x189 :: x190 :: x191 :: x192 :: x193 :: x194 :: x195 :: x196 :: x197 :: x198 :: x199 :: x200 :: x201 :: x202 :: x203 :: x204 :: x205 :: x206 :: x207 :: x208 :: x209 :: x210 :: x211 :: x212 :: x213 :: x214 :: x215 :: x216 :: x217 :: x218 :: x219 :: x220 :: x221 :: x222 :: x223 :: x224 :: x225 :: x226 :: x227 :: x228 :: x229 :: x230 :: x231 :: x232 :: x233 :: x234 :: x235 :: x236 :: x237 :: x238 :: x239 :: x240 :: x241 :: x242 :: x243 :: x244 :: x245 :: x246 :: x247 :: x248 :: x249 :: x250 :: x251 :: x252 :: x253 :: x254 :: x255 :: x256 :: x257 :: x258 :: x259 :: x260 :: x261 :: x262 :: x263 :: x264 :: x265 :: x266 :: x267 :: x268 :: x269 :: x270 :: x271 :: x272 :: x273 :: x274 :: x275 :: x276 :: x277 :: x278 :: x279 :: x280 :: x281 :: x282 :: x283 :: x284 :: x285 :: x286 :: x287 :: x288 :: x289 :: x290 :: x291 :: x292 :: x293 :: x294 :: x295 :: x296 :: x297 :: x298 :: x299 :: x300 :: x301 :: x302 :: x303 :: x304 :: x305 :: x306 :: x307 :: x308 :: x309 :: x310 :: x311 :: x312 :: x313 :: x314 :: []), ds⟩ w := by
  have hlit := Option.some.inj hcode.symm
  subst hlit
  have HP := Lib.hid hp
  have HO := Lib.hid hown
  have HLN := Lib.hid hlen
  have hpw : p < w.heap.size := (Array.getElem?_eq_some_iff.1 hp).1
  obtain ⟨ao, cap, hv1, hv2, hv3, hv4⟩ := att_in (by rw [hlen]; exact hown : w.ownsRow B 32 2 (.slice oa L oc) ls.length (attC ls))
  have HV4 : Hid (ls ≠ [] → ∃ b off, oa = some ⟨b, off, none⟩ ∧ B ≤ b ∧ b < w.heap.size ∧ ∀ (i : Nat) (h : i < ls.length), w.cell? ⟨b, off + i * 2, none⟩ = some (.string ⟨ls[i].1.toArray⟩) ∧ w.cell? ⟨b, off + i * 2 + 1, none⟩ = some (.string ⟨ls[i].2.toArray⟩)) := by
    intro hne
    obtain ⟨b, off, e1, e2, e3⟩ := hv4 hne
    injection hv1 with f1 _ _
    refine ⟨b, off, f1.trans e1, ?_, e2, e3⟩
    have := (hown.lt b (by rw [f1, e1]; rfl)).1
    exact this
  clear hp hown hlen hv1 hv2 hv3 hv4
  go_loopw [18] (fun i wr => ∃ (k n' oc' : Nat) (oa' : Option Addr), k ≤ L ∧ i = .int .i64 k ∧ n' ≤ k ∧ Hid (DpAt p kind from' nb b w (keepL (ls.take k)) oa' n' oc' wr)) (fun i _ => L - (intOf i).toNat)
  case atStart => exact ⟨0, 0, 0, none, Nat.zero_le _, rfl, Nat.le_refl _, ⟨HP.out, World.ownsRow_nil _ _ _ _, rfl, Nat.le_refl _, ⟨rfl, rfl, rfl, Nat.le_refl _, fun _ _ _ => rfl⟩⟩⟩
  case round =>
    obtain ⟨k, n, oc2, oa2, hk, rfl, hnk, HM⟩ := hrel
    by_cases hlt : k < L
    · have hki : (k : Int) < L := by omega
      obtain ⟨K, hK⟩ : ∃ K, keepL (ls.take k) = K := ⟨_, rfl⟩
      rw [hK] at HM
      have HK := Lib.hid hK
      have hlen : k < ls.length := by rw [HLN.out]; exact hlt
      have hne : ls ≠ [] := by intro e; rw [e] at hlen; simp at hlen
      obtain ⟨g, off, rfl, hgB, hgw, x⟩ := HV4.out hne
      obtain ⟨x0, x1⟩ := x k hlen
      obtain ⟨a, ha⟩ : ∃ a, ls[k] = a := ⟨_, rfl⟩
      have HA : Hid (ls[k]? = some a) := by show _ = _; rw [← ha]; exact List.getElem?_eq_getElem hlen
      rw [ha] at x0 x1
      have HM1 : Hid (keepL (ls.take (k + 1)) = addA K a) := by show _ = _; rw [take_more HA.out, keep_snoc, HK.out]
      obtain ⟨xb, hxb⟩ : ∃ X : ByteArray, (⟨a.1.toArray⟩ : ByteArray) = X := ⟨_, rfl⟩
      obtain ⟨yb, hyb⟩ : ∃ X : ByteArray, (⟨a.2.toArray⟩ : ByteArray) = X := ⟨_, rfl⟩
      have HXB := Lib.hid hxb
      have HYB := Lib.hid hyb
      rw [hxb] at x0
      rw [hyb] at x1
      have hgp : some g ≠ some p := by intro e; injection e with e; omega
      have X0 : wr.cell? ⟨g, off + k * 2, none⟩ = some (.string xb) := (World.cell?_of_block (HM.out.grown.block g hgw hgp)).trans x0
      have X1 : wr.cell? ⟨g, off + k * 2 + 1, none⟩ = some (.string yb) := (World.cell?_of_block (HM.out.grown.block g hgw hgp)).trans x1
      have hgwr : g < wr.heap.size := Nat.lt_of_lt_of_le hgw HM.out.size
      obtain ⟨ao, cap, hv1, hv2, hv3, hv4⟩ := att_in (by rw [HM.out.len]; exact HM.out.own : wr.ownsRow w.heap.size 32 2 (.slice oa2 n oc2) K.1.length (attC K.1))
      have HV5 : Hid (K.1 ≠ [] → ∃ b off, oa2 = some ⟨b, off, none⟩ ∧ b < wr.heap.size ∧ ∀ (i : Nat) (h : i < K.1.length), wr.cell? ⟨b, off + i * 2, none⟩ = some (.string ⟨K.1[i].1.toArray⟩)) := by
        intro hne
        obtain ⟨b, off, e1, e2, e3⟩ := hv4 hne
        injection hv1 with f1 _ _
        exact ⟨b, off, f1.trans e1, e2, fun i hi => (e3 i hi).1⟩
      have hKn : K.1.length = n := HM.out.len
      have HKN := Lib.hid hKn
      have hPE : Hid (∀ y : List UInt8, (((⟨y.toArray⟩ : ByteArray).toList == xb.toList)) = (y == a.1)) := by
        intro y
        rw [ByteArray.toList_eq, ByteArray.toList_eq, ← HXB.out]
      have hn1 : n ≤ 3000 := by omega
      have HX0 := Lib.hid X0
      have HX1 := Lib.hid X1
      obtain ⟨⟨_, _, _, c3, _⟩, _⟩ := nine HM.out.tok
      clear x x0 x1 ha hxb hyb hK hv1 hv2 hv3 hv4 hKn
      go_upto_region 92 with fail
      clear X0 X1 c3
      go_loopw [19, 20] (fun h i wq => ∃ (j : Nat) (H : Bool), j ≤ n ∧ i = .int .i64 j ∧ h = .bool H ∧ Hid (H = (K.1.take j).any fun y => y.1 == a.1) ∧ Hid (SameH wr wq)) (fun _ i _ => n - (intOf i).toNat)
      case atStart => exact ⟨0, false, Nat.zero_le _, rfl, rfl, by show _ = _; simp, ⟨rfl, rfl, rfl, rfl⟩⟩
      case round =>
        rename World => wq
        obtain ⟨j, H, hj, rfl, rfl, HH, HSM⟩ := hrel
        obtain ⟨⟨c0, c1, c2, c3, c4, c5, c6, c7, c8⟩, z0, z1, z2, z3, z4, z5, z6, z7, z8⟩ := nine (HM.out.same HSM.out).tok
        by_cases hjl : j < n
        · have hji : (j : Int) < n := by omega
          have hjk : j < K.1.length := by rw [HKN.out]; exact hjl
          have hKne : K.1 ≠ [] := by intro e; rw [e] at hjk; simp at hjk
          obtain ⟨b2, o2, hoa, hb2, y⟩ := HV5.out hKne
          have y0 := y j hjk
          obtain ⟨r, hr⟩ : ∃ r, K.1[j] = r := ⟨_, rfl⟩
          rw [hr] at y0
          have HNX : Hid ((K.1.take (j + 1)).any (fun y => y.1 == a.1) = ((K.1.take j).any (fun y => y.1 == a.1) || r.1 == a.1)) := any_more (by rw [← hr]; exact List.getElem?_eq_getElem hjk)
          have hpe := hPE.out r.1
          obtain ⟨rb, hrb⟩ : ∃ X : ByteArray, (⟨r.1.toArray⟩ : ByteArray) = X := ⟨_, rfl⟩
          rw [hrb] at hpe y0
          obtain ⟨T, hT⟩ : ∃ T, (r.1 == a.1) = T := ⟨_, rfl⟩
          rw [hT] at hpe HNX
          have Y0 := HSM.out.cell y0
          have X0 := HSM.out.cell HX0.out
          subst hoa
          clear y y0 hr hrb hT
          cases H with
          | true =>
            go_wp2_with fail
            go_region
            all_goals
              go_wp2_with fail
              go_roundw
              case rel => exact ⟨j + 1, true, by omega, by go_num, rfl, by show _ = _; rw [HNX.out, ← HH.out]; rfl, HSM.out.drew⟩
              case measure => simp [intOf]; omega
          | false =>
            go_wp2_with fail
            go_region
            all_goals
              go_wp2_with fail
              go_roundw
              case rel => exact ⟨j + 1, T, by omega, by go_num, rfl, by show _ = _; rw [HNX.out, ← HH.out]; rfl, HSM.out.drew⟩
              case measure => simp [intOf]; omega
        · have hji : ¬ (j : Int) < n := by omega
          have HE : Hid (H = hasA K.1 a.1) := by
            have h := HH.out
            rw [List.take_of_length_le (by rw [HKN.out]; omega)] at h
            exact h
          have HMQ : Hid (DpAt p kind from' nb b w K oa2 n oc2 wq) := HM.out.same HSM.out
          cases H with
          | true =>
            cases hU : K.2 with
            | true =>
              rw [hU] at c4
              have HMT := HMQ.out.tok
              rw [hU] at HMT
              have HMT' := Lib.hid HMT
              have HUU := Lib.hid hU
              clear HMT hU
              have HM2 : Hid (keepL (ls.take (k + 1)) = (K.1, true)) := by
                show _ = _
                rw [HM1.out]
                unfold addA
                rw [if_pos (show (K.1.any fun x => x.1 == a.1) = true from HE.out.symm)]
              go_wp2_with fail
              go_roundw
              case rel =>
                refine ⟨k + 1, n, oc2, oa2, by omega, by go_num, by omega, ?_⟩
                rw [HM2.out]
                refine ⟨?_, ownsRow_setCell_below HMQ.out.own (by show p < _; omega) _, HKN.out, by have := HMQ.out.size; simp [World.setCell]; exact this, ⟨HMQ.out.grown.os, HMQ.out.grown.tape, HMQ.out.grown.output, by have := HMQ.out.size; simp [World.setCell]; exact this, fun j h1 h2 => (Below.heap_setCell wq ⟨p, 4, none⟩ _ j (by intro e; exact h2 (by rw [e]))).trans (HMQ.out.grown.block j h1 h2)⟩⟩
                first | exact hset HMT'.out 4 _ | (rw [HUU.out]; exact hset HMT'.out 4 _)
              case measure => simp [intOf]; omega
            | false =>
              rw [hU] at c4
              have HMT := HMQ.out.tok
              rw [hU] at HMT
              have HMT' := Lib.hid HMT
              have HUU := Lib.hid hU
              clear HMT hU
              have HM2 : Hid (keepL (ls.take (k + 1)) = (K.1, true)) := by
                show _ = _
                rw [HM1.out]
                unfold addA
                rw [if_pos (show (K.1.any fun x => x.1 == a.1) = true from HE.out.symm)]
              go_wp2_with fail
              go_roundw
              case rel =>
                refine ⟨k + 1, n, oc2, oa2, by omega, by go_num, by omega, ?_⟩
                rw [HM2.out]
                refine ⟨?_, ownsRow_setCell_below HMQ.out.own (by show p < _; omega) _, HKN.out, by have := HMQ.out.size; simp [World.setCell]; exact this, ⟨HMQ.out.grown.os, HMQ.out.grown.tape, HMQ.out.grown.output, by have := HMQ.out.size; simp [World.setCell]; exact this, fun j h1 h2 => (Below.heap_setCell wq ⟨p, 4, none⟩ _ j (by intro e; exact h2 (by rw [e]))).trans (HMQ.out.grown.block j h1 h2)⟩⟩
                first | exact hset HMT'.out 4 _ | (rw [HUU.out]; exact hset HMT'.out 4 _)
              case measure => simp [intOf]; omega
          | false =>
            cases hU : K.2 with
            | true =>
              rw [hU] at c4
              have HMT := HMQ.out.tok
              rw [hU] at HMT
              have HMT' := Lib.hid HMT
              have HUU := Lib.hid hU
              clear HMT hU
              have HM2 : Hid (keepL (ls.take (k + 1)) = (K.1 ++ [a], K.2)) := by
                show _ = _
                rw [HM1.out]
                unfold addA
                rw [if_neg (by rw [show (K.1.any fun x => x.1 == a.1) = false from HE.out.symm]; simp)]
              obtain ⟨W5, hW5⟩ : ∃ W5, W5 = wq.setCell ⟨p, 4, none⟩ (.bool true) := ⟨_, rfl⟩
              have HM5 : Hid (DpAt p kind from' nb b w K oa2 n oc2 W5) := by
                show DpAt _ _ _ _ _ _ _ _ _ _ _
                rw [hW5]
                refine ⟨?_, ownsRow_setCell_below HMQ.out.own (by show p < _; omega) _, HKN.out, by have := HMQ.out.size; simp [World.setCell]; exact this, ⟨HMQ.out.grown.os, HMQ.out.grown.tape, HMQ.out.grown.output, by have := HMQ.out.size; simp [World.setCell]; exact this, fun j h1 h2 => (Below.heap_setCell wq ⟨p, 4, none⟩ _ j (by intro e; exact h2 (by rw [e]))).trans (HMQ.out.grown.block j h1 h2)⟩⟩
                first | exact hset HMT'.out 4 _ | (rw [HUU.out]; exact hset HMT'.out 4 _)
              have HT5 : Hid (W5.heap[p]? = some (.cells #[.int .i64 kind, .string nb, .string ⟨#[]⟩, .slice oa2 n oc2, .bool true, .bool b, .bool false, .int .i64 from', .int .i64 0] 25 (0, 0))) := by show _ = _; have h := HM5.out.tok; rw [HUU.out] at h; exact h
              have hgW : g < W5.heap.size := by rw [hW5]; simp [World.setCell]; have := HSM.out.heap; rw [this]; exact hgwr
              have hgp2 : g ≠ p := by intro e; rw [e] at hgp; exact hgp rfl
              have X0 : W5.cell? ⟨g, off + k * 2, none⟩ = some (.string xb) := by
                rw [hW5, World.cell?_of_block (Below.heap_setCell wq ⟨p, 4, none⟩ _ g hgp2)]
                exact HSM.out.cell HX0.out
              have X1 : W5.cell? ⟨g, off + k * 2 + 1, none⟩ = some (.string yb) := by
                rw [hW5, World.cell?_of_block (Below.heap_setCell wq ⟨p, 4, none⟩ _ g hgp2)]
                exact HSM.out.cell HX1.out
              have HW5 := Lib.hid hW5
              clear hW5
              go_upto_region 97 with fail
              rw [← HW5.out]
              clear c0 c1 c2 c3 c4 c5 c6 c7 c8 z0 z1 z2 z3 z4 z5 z6 z7 z8
              obtain ⟨i0, hi0, hz0, hz1, hz2⟩ := info_parts infoAttr
              have hown3 := HM5.out.own
              have hpl3 : p < W5.heap.size := (Array.getElem?_eq_some_iff.1 HT5.out).1
              have N2 : Hid (∀ u ∈ ([.string xb, .string yb] : List Value), u.oneCell' = true) := by
                intro u hu
                simp at hu
                rcases hu with rfl | rfl <;> rfl
              have H63 : Hid (n + 1 ≤ maxLen) := by show _ ≤ _; unfold maxLen; omega
              have HBY : Hid ((n + 1) * 32 ≤ 140737488355328) := by show _ ≤ _; omega
              have y0 : W5.cell? ⟨p, 3, none⟩ = some (.slice oa2 n oc2) := by rw [Lib.cell_of_heap HT5.out]; rfl
              have HOB : Hid (∀ j, (Value.slice oa2 n oc2).ownBlock = some j → w.heap.size ≤ j) := fun j hj => (hown3.lt j hj).1
              have HSZ : Hid (w.heap.size ≤ (W5.alloc (.cells #[.string xb, .string yb] 32)).drew.heap.size) := by show w.heap.size ≤ (W5.alloc _).heap.size; have := HM5.out.size; simp; omega
              have HLPA : Hid (p < (W5.alloc (.cells #[.string xb, .string yb] 32)).drew.heap.size) := by show _ < (W5.alloc _).heap.size; simp; omega
              have HKA : Hid ((W5.alloc (.cells #[.string xb, .string yb] 32)).drew.heap[p]? = some (.cells #[.int .i64 kind, .string nb, .string ⟨#[]⟩, .slice oa2 n oc2, .bool true, .bool b, .bool false, .int .i64 from', .int .i64 0] 25 (0, 0))) := (Below.heap_alloc W5 _ _ hpl3).trans HT5.out
              have HNE : Hid (some p ≠ (Value.slice oa2 n oc2).ownBlock) := fun e => by
                have h1 := HOB.out _ e.symm
                omega
              have N1 : ¬ p = W5.heap.size := by omega
              have N3 : ¬ g = W5.heap.size := by omega
              go_wp2_with fail
              go_region_law (refine step_append_lies _ (by rfl) _ _ _ (by rfl) w.heap.size 32 i0 _ 2 32 Tryd.underlying23 hi0 hz0 hz1 hz2 rfl (by omega) _ _ _ (by rfl) ((hown3.alloc _).drew) ⟨W5.heap.size, 0, none⟩ 1 1 [.string xb, .string yb] (by rfl) (by rfl) (news2 W5 _ _ _) N2.out (by omega) H63.out HBY.out HSZ.out (W5.heap.size + 1) (by simp) ?_; intro gg capg w6 hown6 hgrow hat hlt6; have t0 : w6.heap[p]? = some (.cells #[.int .i64 kind, .string nb, .string ⟨#[]⟩, .slice oa2 n oc2, .bool true, .bool b, .bool false, .int .i64 from', .int .i64 0] 25 (0, 0)) := (hgrow.block _ HLPA.out HNE.out).trans HKA.out; have y6 : w6.cell? ⟨p, 3, none⟩ = some (.slice oa2 n oc2) := (by rw [Lib.cell_of_heap t0]; rfl); have z6 := Lib.frozen_of_heap t0 3)
              all_goals
                go_wp2_with fail
                go_roundw
                case rel =>
                  have hgb : (W5.alloc (.cells #[.string xb, .string yb] 32)).drew.heap.size = W5.heap.size + 1 := by show (W5.alloc (.cells #[.string xb, .string yb] 32)).heap.size = _; simp
                  have hgs : (W5.alloc (.cells #[.string xb, .string yb] 32)).drew.heap.size ≤ w6.heap.size := hgrow.size
                  refine ⟨k + 1, n + 1, capg, some ⟨gg, 0, none⟩, by omega, by go_num, by omega, ?_⟩
                  rw [HM2.out]
                  refine ⟨by rw [HUU.out]; exact hset t0 3 _, ?_, by simp only [List.length_append]; rw [HKN.out]; rfl, by have := HM5.out.size; simp [World.setCell]; omega, ⟨hgrow.os.trans HM5.out.grown.os, hgrow.tape.trans HM5.out.grown.tape, hgrow.output.trans HM5.out.grown.output, by have := HM5.out.size; simp [World.setCell]; omega, fun j h1 h2 => ?_⟩⟩
                  · simp only []
                    rw [attC_snoc]
                    refine ownsRow_setCell_below ?_ (by show p < _; omega) _
                    rw [HXB.out, HYB.out]
                    exact hown6
                  · have h3 : j < W5.heap.size := Nat.lt_of_lt_of_le h1 HM5.out.size
                    refine (Below.heap_setCell w6 ⟨p, 3, none⟩ _ j (by intro e; exact h2 (by rw [e]))).trans ((hgrow.block j (by rw [hgb]; omega) (fun e => by have := HOB.out j e.symm; omega)).trans ((Below.heap_alloc W5 _ _ h3).trans (HM5.out.grown.block j h1 h2)))
                case measure => simp [intOf]; omega
            | false =>
              rw [hU] at c4
              have HMT := HMQ.out.tok
              rw [hU] at HMT
              have HMT' := Lib.hid HMT
              have HUU := Lib.hid hU
              clear HMT hU
              have HM2 : Hid (keepL (ls.take (k + 1)) = (K.1 ++ [a], K.2)) := by
                show _ = _
                rw [HM1.out]
                unfold addA
                rw [if_neg (by rw [show (K.1.any fun x => x.1 == a.1) = false from HE.out.symm]; simp)]
              obtain ⟨W5, hW5⟩ : ∃ W5, W5 = wq.setCell ⟨p, 4, none⟩ (.bool false) := ⟨_, rfl⟩
              have HM5 : Hid (DpAt p kind from' nb b w K oa2 n oc2 W5) := by
                show DpAt _ _ _ _ _ _ _ _ _ _ _
                rw [hW5]
                refine ⟨?_, ownsRow_setCell_below HMQ.out.own (by show p < _; omega) _, HKN.out, by have := HMQ.out.size; simp [World.setCell]; exact this, ⟨HMQ.out.grown.os, HMQ.out.grown.tape, HMQ.out.grown.output, by have := HMQ.out.size; simp [World.setCell]; exact this, fun j h1 h2 => (Below.heap_setCell wq ⟨p, 4, none⟩ _ j (by intro e; exact h2 (by rw [e]))).trans (HMQ.out.grown.block j h1 h2)⟩⟩
                first | exact hset HMT'.out 4 _ | (rw [HUU.out]; exact hset HMT'.out 4 _)
              have HT5 : Hid (W5.heap[p]? = some (.cells #[.int .i64 kind, .string nb, .string ⟨#[]⟩, .slice oa2 n oc2, .bool false, .bool b, .bool false, .int .i64 from', .int .i64 0] 25 (0, 0))) := by show _ = _; have h := HM5.out.tok; rw [HUU.out] at h; exact h
              have hgW : g < W5.heap.size := by rw [hW5]; simp [World.setCell]; have := HSM.out.heap; rw [this]; exact hgwr
              have hgp2 : g ≠ p := by intro e; rw [e] at hgp; exact hgp rfl
              have X0 : W5.cell? ⟨g, off + k * 2, none⟩ = some (.string xb) := by
                rw [hW5, World.cell?_of_block (Below.heap_setCell wq ⟨p, 4, none⟩ _ g hgp2)]
                exact HSM.out.cell HX0.out
              have X1 : W5.cell? ⟨g, off + k * 2 + 1, none⟩ = some (.string yb) := by
                rw [hW5, World.cell?_of_block (Below.heap_setCell wq ⟨p, 4, none⟩ _ g hgp2)]
                exact HSM.out.cell HX1.out
              have HW5 := Lib.hid hW5
              clear hW5
              go_upto_region 97 with fail
              rw [← HW5.out]
              clear c0 c1 c2 c3 c4 c5 c6 c7 c8 z0 z1 z2 z3 z4 z5 z6 z7 z8
              obtain ⟨i0, hi0, hz0, hz1, hz2⟩ := info_parts infoAttr
              have hown3 := HM5.out.own
              have hpl3 : p < W5.heap.size := (Array.getElem?_eq_some_iff.1 HT5.out).1
              have N2 : Hid (∀ u ∈ ([.string xb, .string yb] : List Value), u.oneCell' = true) := by
                intro u hu
                simp at hu
                rcases hu with rfl | rfl <;> rfl
              have H63 : Hid (n + 1 ≤ maxLen) := by show _ ≤ _; unfold maxLen; omega
              have HBY : Hid ((n + 1) * 32 ≤ 140737488355328) := by show _ ≤ _; omega
              have y0 : W5.cell? ⟨p, 3, none⟩ = some (.slice oa2 n oc2) := by rw [Lib.cell_of_heap HT5.out]; rfl
              have HOB : Hid (∀ j, (Value.slice oa2 n oc2).ownBlock = some j → w.heap.size ≤ j) := fun j hj => (hown3.lt j hj).1
              have HSZ : Hid (w.heap.size ≤ (W5.alloc (.cells #[.string xb, .string yb] 32)).drew.heap.size) := by show w.heap.size ≤ (W5.alloc _).heap.size; have := HM5.out.size; simp; omega
              have HLPA : Hid (p < (W5.alloc (.cells #[.string xb, .string yb] 32)).drew.heap.size) := by show _ < (W5.alloc _).heap.size; simp; omega
              have HKA : Hid ((W5.alloc (.cells #[.string xb, .string yb] 32)).drew.heap[p]? = some (.cells #[.int .i64 kind, .string nb, .string ⟨#[]⟩, .slice oa2 n oc2, .bool false, .bool b, .bool false, .int .i64 from', .int .i64 0] 25 (0, 0))) := (Below.heap_alloc W5 _ _ hpl3).trans HT5.out
              have HNE : Hid (some p ≠ (Value.slice oa2 n oc2).ownBlock) := fun e => by
                have h1 := HOB.out _ e.symm
                omega
              have N1 : ¬ p = W5.heap.size := by omega
              have N3 : ¬ g = W5.heap.size := by omega
              go_wp2_with fail
              go_region_law (refine step_append_lies _ (by rfl) _ _ _ (by rfl) w.heap.size 32 i0 _ 2 32 Tryd.underlying23 hi0 hz0 hz1 hz2 rfl (by omega) _ _ _ (by rfl) ((hown3.alloc _).drew) ⟨W5.heap.size, 0, none⟩ 1 1 [.string xb, .string yb] (by rfl) (by rfl) (news2 W5 _ _ _) N2.out (by omega) H63.out HBY.out HSZ.out (W5.heap.size + 1) (by simp) ?_; intro gg capg w6 hown6 hgrow hat hlt6; have t0 : w6.heap[p]? = some (.cells #[.int .i64 kind, .string nb, .string ⟨#[]⟩, .slice oa2 n oc2, .bool false, .bool b, .bool false, .int .i64 from', .int .i64 0] 25 (0, 0)) := (hgrow.block _ HLPA.out HNE.out).trans HKA.out; have y6 : w6.cell? ⟨p, 3, none⟩ = some (.slice oa2 n oc2) := (by rw [Lib.cell_of_heap t0]; rfl); have z6 := Lib.frozen_of_heap t0 3)
              all_goals
                go_wp2_with fail
                go_roundw
                case rel =>
                  have hgb : (W5.alloc (.cells #[.string xb, .string yb] 32)).drew.heap.size = W5.heap.size + 1 := by show (W5.alloc (.cells #[.string xb, .string yb] 32)).heap.size = _; simp
                  have hgs : (W5.alloc (.cells #[.string xb, .string yb] 32)).drew.heap.size ≤ w6.heap.size := hgrow.size
                  refine ⟨k + 1, n + 1, capg, some ⟨gg, 0, none⟩, by omega, by go_num, by omega, ?_⟩
                  rw [HM2.out]
                  refine ⟨by rw [HUU.out]; exact hset t0 3 _, ?_, by simp only [List.length_append]; rw [HKN.out]; rfl, by have := HM5.out.size; simp [World.setCell]; omega, ⟨hgrow.os.trans HM5.out.grown.os, hgrow.tape.trans HM5.out.grown.tape, hgrow.output.trans HM5.out.grown.output, by have := HM5.out.size; simp [World.setCell]; omega, fun j h1 h2 => ?_⟩⟩
                  · simp only []
                    rw [attC_snoc]
                    refine ownsRow_setCell_below ?_ (by show p < _; omega) _
                    rw [HXB.out, HYB.out]
                    exact hown6
                  · have h3 : j < W5.heap.size := Nat.lt_of_lt_of_le h1 HM5.out.size
                    refine (Below.heap_setCell w6 ⟨p, 3, none⟩ _ j (by intro e; exact h2 (by rw [e]))).trans ((hgrow.block j (by rw [hgb]; omega) (fun e => by have := HOB.out j e.symm; omega)).trans ((Below.heap_alloc W5 _ _ h3).trans (HM5.out.grown.block j h1 h2)))
                case measure => simp [intOf]; omega
    · have hki : ¬ (k : Int) < L := by omega
      have HF : Hid (DpAt p kind from' nb b w (keepL ls) oa2 n oc2 wr) := by
        have h := HM.out
        rw [List.take_of_length_le (by rw [HLN.out]; omega)] at h
        exact h
      go_wp2_with fail
      refine ⟨rfl, hQ _ _ _ _ _ _ _ _ _ _ _ _ _ _ _ _ _ _ _ _ _ _ _ _ _ _ _ _ _ _ _ _ _ _ _ _ _ _ _ _ _ _ _ _ _ _ _ _ oa2 n oc2 _ HF.out⟩
end Go.Proofs.YteeplfbaflldaaaDoor.T10
