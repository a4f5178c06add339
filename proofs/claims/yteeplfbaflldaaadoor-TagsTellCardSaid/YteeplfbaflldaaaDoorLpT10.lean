/- The loop of lazaretref10.Read: its states. -/
import Derived.Test.YteeplfbaflldaaaDoorTgL
import Derived.Test.YteeplfbaflldaaaDoorLp
import Derived.Deep.Cut
import Derived.Deep.RegionLaw
import Derived.Deep.AppendLies
import Derived.RegionTactic
set_option linter.unusedVariables false
set_option linter.unusedSimpArgs false
namespace Go.Proofs.YteeplfbaflldaaaDoor.T10
open Go.RowKit R9

theorem conv_oneD (w : World) (x : UInt8) : (convert 47 9 (.slice (some ⟨w.heap.size, 0, none⟩) 1 1)).run Tryd.prog (w.alloc (.cells #[.int .u8 (x.toNat : Int)] 5)).drew = .ok (.string ⟨#[x]⟩) (w.alloc (.cells #[.int .u8 (x.toNat : Int)] 5)).drew := by
  refine run_convert_bytes_back _ 47 9 5 ⟨w.heap.size, 0, none⟩ 1 [x] Tryd.underlying47 Tryd.underlying5 Tryd.underlying9 fun j hj => ?_
  have hj0 : j = 0 := by simp at hj; omega
  subst hj0
  simp [Addr.add]

def bodyOf (n : Nat) (f : Func) : Option Code := match loopOf n f with
  | some (.loop x) => some x
  | _ => none
/-- What a round leaves: by its end, or by the loop's own exit. -/
def RoundQ (N E : Act → World → Prop) : Exit → Act → World → Prop
  | .normal, a, w => N a w
  | .exit i, a, w => i = 0 ∧ E a w
  | _, _, _ => False
theorem round_out {P : Program} {c : Code} {Q : Exit → Act → World → Prop} {a : Act} {w : World} (h : c.wp P (RoundQ (fun a w => Q .normal a w) (fun a w => Q (.exit 0) a w)) a w) : c.wp P Q a w := by
  refine wp_mono h ?_
  intro e a w he
  cases e with
  | exit i => obtain ⟨rfl, hr⟩ := he; exact hr
  | normal => exact he
  | goto l => exact he.elim
  | ret => exact he.elim
  | panic c => exact he.elim
  | outgrown => exact he.elim

set_option maxHeartbeats 25600000 in
set_option maxRecDepth 100000 in
theorem round_tag (code : Code) (hcode : bodyOf 15 Tryd.f13 = some code) (N E : Act → World → Prop) {x1 x2 x3 x4 x5 x6 x7 x9 x13 x14 x15 x16 x17 x18 x19 x20 x21 x22 x23 x24 x25 x26 x27 x28 x29 x30 x31 x32 x33 x34 x35 x36 x37 x38 x39 x40 x41 x42 x43 x44 x45 x46 x47 x48 x49 x50 x51 x52 x53 x54 x55 x56 x57 x58 x59 x60 x61 x62 x63 x64 x65 x66 x67 x68 x69 x70 x71 x72 x73 x74 x75 x76 x77 x78 x79 x80 x81 x82 x83 x84 x85 x86 x87 x88 x89 x90 x91 x92 x93 x94 x95 x96 x97 x98 x99 x100 x101 x102 x103 x104 x105 x106 x107 x108 x109 x110 x111 x112 x113 x114 x115 x116 x117 x118 x119 x120 x121 x122 x123 x124 x125 x126 x127 x128 x129 x130 x131 x132 x133 x134 x135 x136 x137 x138 x139 x140 x141 x142 x143 x144 x145 x146 x147 x148 x149 x150 x151 x152 x153 x154 x155 x156 x157 x158 x159 x160 x161 x162 x163 x164 x165 x166 x167 x168 x169 x170 x171 x172 x173 x174 x175 x176 x177 x178 x179 x180 x181 x182 x183 x184 x185 x186 x187 x188 x189 x190 x191 x192 x193 x194 x195 x196 x197 x198 x199 x200 x201 x202 x203 x204 x205 x206 x207 x208 x209 x210 x211 x212 x213 x214 x215 x216 x217 x218 x219 x220 x221 x222 x223 x224 x225 x226 x227 x228 x229 x230 x231 x232 x233 x234 x235 x236 x237 x238 x239 x240 x241 x242 x243 x244 x245 x246 x247 x248 x249 x250 x251 x252 x253 x254 x255 x256 x257 x258 x259 x260 x261 x262 x263 x264 x265 x266 x267 x268 x269 x270 x271 x272 x273 x274 x275 x276 x277 x278 x279 x280 x281 x282 x283 x284 x285 x286 x287 x288 x289 x290 x291 x292 x293 x294 x295 x296 x297 x298 x299 x300 x301 x302 x303 x304 x305 x306 x307 x308 x309 x310 x311 x312 x313 x314 : Value} {ds : List Deferred} {wr : World} (S : ByteArray) (p k L oc : Nat) (oa : Option Addr) (nm : List UInt8) (ls : List At) (b : Bool) (kind from' : Int) (Z : RS) (w : World)
    (hs : S.size ≤ 2000) (hlt : k < S.size) (hpB : p < w.heap.size) (HR : Hid (runR S.data.toList ⟨.tag, nm, ls, b, k⟩ = Z)) (HW : Hid (Wf S.data.toList ⟨.tag, nm, ls, b, k⟩)) (HM : Hid (RdAt w.heap.size p kind from' w nm b ls oa L oc wr))
    (hN : ∀ (u13 u14 u15 u16 u17 u68 u69 u70 u71 u72 u73 u74 u75 u76 u77 u78 u79 u80 u81 u82 u83 u84 u85 u86 u87 u88 u89 u90 u91 u92 u93 u94 u95 u96 u97 u98 u99 u100 u101 u102 u103 u104 u105 u106 u107 u108 u109 u110 u111 u112 u113 u114 u115 u116 u117 u118 u119 u120 u121 u122 u123 u124 u125 u126 u127 u128 u129 u130 u131 u132 u133 u134 u135 u136 u137 u138 u139 u140 u141 u142 u143 u144 u145 u146 u147 u148 u149 u150 u151 u152 u153 u154 u155 u156 u157 u158 u159 u160 u161 u162 u163 u164 u165 u166 u167 u168 u169 u170 u171 u172 u173 u174 u175 u176 u177 u178 u179 u180 u181 u182 u183 u184 u185 u186 u187 u188 u189 u190 u191 u192 u193 u194 u195 u196 u197 u198 u199 u200 u201 u202 u203 u204 u205 u206 u207 u208 u209 u210 u211 u212 u213 u214 u215 u216 u217 u218 u219 u220 u221 u222 u223 u224 u225 u226 u227 u228 u229 u230 u231 u232 u233 u234 u235 u236 u237 u238 u239 u240 u241 u242 u243 u244 u245 u246 u247 u248 u249 u250 u251 u252 u253 u254 u255 u256 u257 u258 : Value) (s' : St) (nm' : List UInt8) (ls' : List At) (b' : Bool) (k' : Nat) (oa' : Option Addr) (L' oc' : Nat) (w' : World), s' ≠ .done → runR S.data.toList ⟨s', nm', ls', b', k'⟩ = Z → Wf S.data.toList ⟨s', nm', ls', b', k'⟩ → RdAt w.heap.size p kind from' w nm' b' ls' oa' L' oc' w' → 2 * (S.size - k') + rank s' < 2 * (S.size - k) + rank .tag → N ⟨List.toArray (.string S :: x1 :: x2 :: x3 :: x4 :: x5 :: x6 :: x7 :: .int .i64 (k' : Int) :: x9 :: .pointer (some ⟨p, 0, none⟩) :: .slice oa' L' oc' :: .string (stB s') :: u13 :: u14 :: u15 :: u16 :: u17 :: x18 :: x19 :: x20 :: x21 :: x22 :: x23 :: x24 :: x25 :: x26 :: x27 :: x28 :: x29 :: x30 :: x31 :: x32 :: x33 :: x34 :: x35 :: x36 :: x37 :: x38 :: x39 :: x40 :: x41 :: x42 :: x43 :: x44 :: x45 :: x46 :: x47 :: x48 :: x49 :: x50 :: x51 :: x52 :: x53 :: x54 :: x55 :: x56 :: x57 :: x58 :: x59 :: x60 :: x61 :: x62 :: x63 :: x64 :: x65 :: x66 :: x67 :: u68 :: u69 :: u70 :: u71 :: u72 :: u73 :: u74 :: u75 :: u76 :: u77 :: u78 :: u79 :: u80 :: u81 :: u82 :: u83 :: u84 :: u85 :: u86 :: u87 :: u88 :: u89 :: u90 :: u91 :: u92 :: u93 :: u94 :: u95 :: u96 :: u97 :: u98 :: u99 :: u100 :: u101 :: u102 :: u103 :: u104 :: u105 :: u106 :: u107 :: u108 :: u109 :: u110 :: u111 :: u112 :: u113 :: u114 :: u115 :: u116 :: u117 :: u118 :: u119 :: u120 :: u121 :: u122 :: u123 :: u124 :: u125 :: u126 :: u127 :: u128 :: u129 :: u130 :: u131 :: u132 :: u133 :: u134 :: u135 :: u136 :: u137 :: u138 :: u139 :: u140 :: u141 :: u142 :: u143 :: u144 :: u145 :: u146 :: u147 :: u148 :: u149 :: u150 :: u151 :: u152 :: u153 :: u154 :: u155 :: u156 :: u157 :: u158 :: u159 :: u160 :: u161 :: u162 :: u163 :: u164 :: u165 :: u166 :: u167 :: u168 :: u169 :: u170 :: u171 :: u172 :: u173 :: u174 :: u175 :: u176 :: u177 :: u178 :: u179 :: u180 :: u181 :: u182 :: u183 :: u184 :: u185 :: u186 :: u187 :: u188 :: u189 :: u190 :: u191 :: u192 :: u193 :: u194 :: u195 :: u196 :: u197 :: u198 :: u199 :: u200 :: u201 :: u202 :: u203 :: u204 :: u205 :: u206 :: u207 :: u208 :: u209 :: u210 :: u211 :: u212 :: u213 :: u214 :: u215 :: u216 :: u217 :: u218 :: u219 :: u220 :: u221 :: u222 :: u223 :: u224 :: u225 :: u226 :: u227 :: u228 :: u229 :: u230 :: u231 :: u232 :: u233 :: u234 :: u235 :: u236 :: u237 :: u238 :: u239 :: u240 :: u241 :: u242 :: u243 :: u244 :: u245 :: u246 :: u247 :: u248 :: u249 :: u250 :: u251 :: u252 :: u253 :: u254 :: u255 :: u256 :: u257 :: u258 :: x259 :: x260 :: x261 :: x262 :: x263 :: x264 :: x265 :: x266 :: x267 :: x268 :: x269 :: x270 :: x271 :: x272 :: x273 :: x274 :: x275 :: x276 :: x277 :: x278 :: x279 :: x280 :: x281 :: x282 :: x283 :: x284 :: x285 :: x286 :: x287 :: x288 :: x289 :: x290 :: x291 :: x292 :: x293 :: x294 :: x295 :: x296 :: x297 :: x298 :: x299 :: x300 :: x301 :: x302 :: x303 :: x304 :: x305 :: x306 :: x307 :: x308 :: x309 :: x310 :: x311 :: x312 :: x313 :: x314 :: []), ds⟩ w')
    (hE : ∀ (u13 u14 u15 u16 u17 u68 u69 u70 u71 u72 u73 u74 u75 u76 u77 u78 u79 u80 u81 u82 u83 u84 u85 u86 u87 u88 u89 u90 u91 u92 u93 u94 u95 u96 u97 u98 u99 u100 u101 u102 u103 u104 u105 u106 u107 u108 u109 u110 u111 u112 u113 u114 u115 u116 u117 u118 u119 u120 u121 u122 u123 u124 u125 u126 u127 u128 u129 u130 u131 u132 u133 u134 u135 u136 u137 u138 u139 u140 u141 u142 u143 u144 u145 u146 u147 u148 u149 u150 u151 u152 u153 u154 u155 u156 u157 u158 u159 u160 u161 u162 u163 u164 u165 u166 u167 u168 u169 u170 u171 u172 u173 u174 u175 u176 u177 u178 u179 u180 u181 u182 u183 u184 u185 u186 u187 u188 u189 u190 u191 u192 u193 u194 u195 u196 u197 u198 u199 u200 u201 u202 u203 u204 u205 u206 u207 u208 u209 u210 u211 u212 u213 u214 u215 u216 u217 u218 u219 u220 u221 u222 u223 u224 u225 u226 u227 u228 u229 u230 u231 u232 u233 u234 u235 u236 u237 u238 u239 u240 u241 u242 u243 u244 u245 u246 u247 u248 u249 u250 u251 u252 u253 u254 u255 u256 u257 u258 : Value) (z : RS) (oa' : Option Addr) (L' oc' : Nat) (w' : World), z = Z → Wf S.data.toList z → RdAt w.heap.size p kind from' w z.name z.self z.l oa' L' oc' w' → E ⟨List.toArray (.string S :: x1 :: x2 :: x3 :: x4 :: x5 :: x6 :: x7 :: .int .i64 (z.i : Int) :: x9 :: .pointer (some ⟨p, 0, none⟩) :: .slice oa' L' oc' :: .string (stB z.st) :: u13 :: u14 :: u15 :: u16 :: u17 :: x18 :: x19 :: x20 :: x21 :: x22 :: x23 :: x24 :: x25 :: x26 :: x27 :: x28 :: x29 :: x30 :: x31 :: x32 :: x33 :: x34 :: x35 :: x36 :: x37 :: x38 :: x39 :: x40 :: x41 :: x42 :: x43 :: x44 :: x45 :: x46 :: x47 :: x48 :: x49 :: x50 :: x51 :: x52 :: x53 :: x54 :: x55 :: x56 :: x57 :: x58 :: x59 :: x60 :: x61 :: x62 :: x63 :: x64 :: x65 :: x66 :: x67 :: u68 :: u69 :: u70 :: u71 :: u72 :: u73 :: u74 :: u75 :: u76 :: u77 :: u78 :: u79 :: u80 :: u81 :: u82 :: u83 :: u84 :: u85 :: u86 :: u87 :: u88 :: u89 :: u90 :: u91 :: u92 :: u93 :: u94 :: u95 :: u96 :: u97 :: u98 :: u99 :: u100 :: u101 :: u102 :: u103 :: u104 :: u105 :: u106 :: u107 :: u108 :: u109 :: u110 :: u111 :: u112 :: u113 :: u114 :: u115 :: u116 :: u117 :: u118 :: u119 :: u120 :: u121 :: u122 :: u123 :: u124 :: u125 :: u126 :: u127 :: u128 :: u129 :: u130 :: u131 :: u132 :: u133 :: u134 :: u135 :: u136 :: u137 :: u138 :: u139 :: u140 :: u141 :: u142 :: u143 :: u144 :: u145 :: u146 :: u147 :: u148 :: u149 :: u150 :: u151 :: u152 :: u153 :: u154 :: u155 :: u156 :: u157 :: u158 :: u159 :: u160 :: u161 :: u162 :: u163 :: u164 :: u165 :: u166 :: u167 :: u168 :: u169 :: u170 :: u171 :: u172 :: u173 :: u174 :: u175 :: u176 :: u177 :: u178 :: u179 :: u180 :: u181 :: u182 :: u183 :: u184 :: u185 :: u186 :: u187 :: u188 :: u189 :: u190 :: u191 :: u192 :: u193 :: u194 :: u195 :: u196 :: u197 :: u198 :: u199 :: u200 :: u201 :: u202 :: u203 :: u204 :: u205 :: u206 :: u207 :: u208 :: u209 :: u210 :: u211 :: u212 :: u213 :: u214 :: u215 :: u216 :: u217 :: u218 :: u219 :: u220 :: u221 :: u222 :: u223 :: u224 :: u225 :: u226 :: u227 :: u228 :: u229 :: u230 :: u231 :: u232 :: u233 :: u234 :: u235 :: u236 :: u237 :: u238 :: u239 :: u240 :: u241 :: u242 :: u243 :: u244 :: u245 :: u246 :: u247 :: u248 :: u249 :: u250 :: u251 :: u252 :: u253 :: u254 :: u255 :: u256 :: u257 :: u258 :: x259 :: x260 :: x261 :: x262 :: x263 :: x264 :: x265 :: x266 :: x267 :: x268 :: x269 :: x270 :: x271 :: x272 :: x273 :: x274 :: x275 :: x276 :: x277 :: x278 :: x279 :: x280 :: x281 :: x282 :: x283 :: x284 :: x285 :: x286 :: x287 :: x288 :: x289 :: x290 :: x291 :: x292 :: x293 :: x294 :: x295 :: x296 :: x297 :: x298 :: x299 :: x300 :: x301 :: x302 :: x303 :: x304 :: x305 :: x306 :: x307 :: x308 :: x309 :: x310 :: x311 :: x312 :: x313 :: x314 :: []), ds⟩ w') :
    code.wp Tryd.prog (RoundQ N E) ⟨List.toArray (.string S :: x1 :: x2 :: x3 :: x4 :: x5 :: x6 :: x7 :: .int .i64 (k : Int) :: x9 :: .pointer (some ⟨p, 0, none⟩) :: .slice oa L oc :: .string (stB .tag) :: x13 :: x14 :: x15 :: x16 :: x17 :: x18 :: x19 :: x20 :: x21 :: x22 :: x23 :: x24 :: x25 :: x26 :: x27 :: x28 :: x29 :: x30 :: x31 :: x32 :: x33 :: x34 :: x35 :: x36 :: x37 :: x38 :: x39 :: x40 :: x41 :: x42 :: x43 :: x44 :: x45 :: x46 :: x47 :: x48 :: x49 :: x50 :: x51 :: x52 :: x53 :: x54 :: x55 :: x56 :: x57 :: x58 :: x59 :: x60 :: x61 :: x62 :: x63 :: x64 :: x65 :: x66 :: x67 :: x68 :: x69 :: x70 :: x71 :: x72 :: x73 :: x74 :: x75 :: x76 :: x77 :: x78 :: x79 :: x80 :: x81 :: x82 :: x83 :: x84 :: x85 :: x86 :: x87 :: x88 :: x89 :: x90 :: x91 :: x92 :: x93 :: x94 :: x95 :: x96 :: x97 :: x98 :: x99 :: x100 :: x101 :: x102 :: x103 :: x104 :: x105 :: x106 :: x107 :: x108 :: x109 :: x110 :: x111 :: x112 :: x113 :: x114 :: x115 :: x116 :: x117 :: x118 :: x119 :: x120 :: x121 :: x122 :: x123 :: x124 :: x125 :: x126 :: x127 :: x128 :: x129 :: x130 :: x131 :: x132 :: x133 :: x134 :: x135 :: x136 :: x137 :: x138 :: x139 :: x140 :: x141 :: x142 :: x143 :: x144 :: x145 :: x146 :: x147 :: x148 :: x149 :: x150 :: x151 :: x152 :: x153 :: x154 :: x155 :: x156 :: x157 :: x158 :: x159 :: x160 :: x161 :: x162 :: x163 :: x164 :: x165 :: x166 :: x167 :: x168 :: x169 :: x170 :: x171 :: x172 :: x173 :: x174 :: x175 :: x176 :: x177 :: x178 :: x179 :: x180 :: x181 :: x182 :: x183 :: x184 :: x185 :: x186 :: x187 :: x188 :: x189 :: x190 :: x191 :: x192 :: x193 :: x194 :: x195 :: x196 :: x197 :: x198 :: x199 :: x200 :: x201 :: x202 :: x203 :: x204 :: x205 :: x206 :: x207 :: x208 :: x209 :: x210 :: x211 :: x212 :: x213 :: x214 :: x215 :: x216 :: x217 :: x218 :: x219 :: x220 :: x221 :: x222 :: x223 :: x224 :: x225 :: x226 :: x227 :: x228 :: x229 :: x230 :: x231 :: x232 :: x233 :: x234 :: x235 :: x236 :: x237 :: x238 :: x239 :: x240 :: x241 :: x242 :: x243 :: x244 :: x245 :: x246 :: x247 :: x248 :: x249 :: x250 :: x251 :: x252 :: x253 :: x254 :: x255 :: x256 :: x257 :: x258 :: x259 :: x260 :: x261 :: x262 :: x263 :: x264 :: x265 :: x266 :: x267 :: x268 :: x269 :: x270 :: x271 :: x272 :: x273 :: x274 :: x275 :: x276 :: x277 :: x278 :: x279 :: x280 :: x281 :: x282 :: x283 :: x284 :: x285 :: x286 :: x287 :: x288 :: x289 :: x290 :: x291 :: x292 :: x293 :: x294 :: x295 :: x296 :: x297 :: x298 :: x299 :: x300 :: x301 :: x302 :: x303 :: x304 :: x305 :: x306 :: x307 :: x308 :: x309 :: x310 :: x311 :: x312 :: x313 :: x314 :: []), ds⟩ wr := by
  have hlit := Option.some.inj hcode.symm
  subst hlit
  have hsl : Hid (S.data.toList.length = S.size) := by show _ = _; simp
  have hkS : k ≤ S.size := by omega
  have hki : (k : Int) < S.size := by omega
  obtain ⟨c, hc⟩ : ∃ c, S[k] = c := ⟨_, rfl⟩
  have hg := at_get hlt
  rw [hc] at hg
  obtain ⟨J, hJ⟩ : ∃ J, k + 1 = J := ⟨_, rfl⟩
  have hJi : (k : Int) + 1 = J := by omega
  have hJk : (J : Int) - 1 = k := by omega
  have hJS : J ≤ S.size := by omega
  have hJl : J ≤ S.data.toList.length := by rw [hsl.out]; exact hJS
  rw [show stB .tag = ⟨#[116, 97, 103]⟩ from rfl]
  by_cases hb : blB c = true
  · have HS : Hid (runR S.data.toList ⟨.ahead, nm, ls, b, J⟩ = Z) := by
      show _ = _
      rw [← HR.out, run_step (s := ⟨.tag, nm, ls, b, k⟩) hg (by simp)]
      congr 1
      unfold stepC
      simp only []
      rw [if_pos hb, hJ]
    have HBL := Lib.hid (fun W => rblank_any (c.toNat : Int) W)
    rw [show blI (c.toNat : Int) = true from hb] at HBL
    clear hb hg
    go_wp2_with fail
    refine (HBL.out _).mono ?_
    rintro e w' ⟨rfl, rfl⟩
    go_wp2_with fail
    refine hN _ _ _ _ _ _ _ _ _ _ _ _ _ _ _ _ _ _ _ _ _ _ _ _ _ _ _ _ _ _ _ _ _ _ _ _ _ _ _ _ _ _ _ _ _ _ _ _ _ _ _ _ _ _ _ _ _ _ _ _ _ _ _ _ _ _ _ _ _ _ _ _ _ _ _ _ _ _ _ _ _ _ _ _ _ _ _ _ _ _ _ _ _ _ _ _ _ _ _ _ _ _ _ _ _ _ _ _ _ _ _ _ _ _ _ _ _ _ _ _ _ _ _ _ _ _ _ _ _ _ _ _ _ _ _ _ _ _ _ _ _ _ _ _ _ _ _ _ _ _ _ _ _ _ _ _ _ _ _ _ _ _ _ _ _ _ _ _ _ _ _ _ _ _ _ _ _ _ _ _ _ _ _ _ _ _ _ _ _ _ _ _ _ _ _ _ (.ahead) (nm) (ls) (b) (J) (oa) (L) (oc) _ (by simp) HS.out (HW.out.more (by omega) (by omega) (by simp [needs])) (HM.out) ?_
    simp only [rank]
    omega
  · by_cases h47 : c = 47
    · have HS : Hid (runR S.data.toList ⟨.slash, nm, ls, b, J⟩ = Z) := by
        show _ = _
        rw [← HR.out, run_step (s := ⟨.tag, nm, ls, b, k⟩) hg (by simp)]
        congr 1
        unfold stepC
        simp only []
        rw [if_neg hb, if_pos h47, hJ]
      have HBL := Lib.hid (fun W => rblank_any (c.toNat : Int) W)
      rw [show blI (c.toNat : Int) = false by simpa [blB] using hb] at HBL
      have t47 := byte_is (z := 47) h47 rfl
      have n47 := byte_is' (z := 47) h47 rfl
      clear hb hg h47
      go_wp2_with fail
      refine (HBL.out _).mono ?_
      rintro e w' ⟨rfl, rfl⟩
      go_wp2_with fail
      refine hN _ _ _ _ _ _ _ _ _ _ _ _ _ _ _ _ _ _ _ _ _ _ _ _ _ _ _ _ _ _ _ _ _ _ _ _ _ _ _ _ _ _ _ _ _ _ _ _ _ _ _ _ _ _ _ _ _ _ _ _ _ _ _ _ _ _ _ _ _ _ _ _ _ _ _ _ _ _ _ _ _ _ _ _ _ _ _ _ _ _ _ _ _ _ _ _ _ _ _ _ _ _ _ _ _ _ _ _ _ _ _ _ _ _ _ _ _ _ _ _ _ _ _ _ _ _ _ _ _ _ _ _ _ _ _ _ _ _ _ _ _ _ _ _ _ _ _ _ _ _ _ _ _ _ _ _ _ _ _ _ _ _ _ _ _ _ _ _ _ _ _ _ _ _ _ _ _ _ _ _ _ _ _ _ _ _ _ _ _ _ _ _ _ _ _ _ (.slash) (nm) (ls) (b) (J) (oa) (L) (oc) _ (by simp) HS.out (HW.out.more (by omega) (by omega) (by simp [needs])) (HM.out) ?_
      simp only [rank]
      omega
    · by_cases h62 : c = 62
      · have HS : Hid (runR S.data.toList ⟨.done, nm, ls, b, J⟩ = Z) := by
          show _ = _
          rw [← HR.out, run_step (s := ⟨.tag, nm, ls, b, k⟩) hg (by simp)]
          congr 1
          unfold stepC
          simp only []
          rw [if_neg hb, if_neg h47, if_pos h62, hJ]
        have HBL := Lib.hid (fun W => rblank_any (c.toNat : Int) W)
        rw [show blI (c.toNat : Int) = false by simpa [blB] using hb] at HBL
        have t47 := byte_not (z := 47) h47 rfl
        have n47 := byte_not' (z := 47) h47 rfl
        have t62 := byte_is (z := 62) h62 rfl
        have n62 := byte_is' (z := 62) h62 rfl
        clear hb hg h47 h62
        go_wp2_with fail
        refine (HBL.out _).mono ?_
        rintro e w' ⟨rfl, rfl⟩
        go_wp2_with fail
        refine ⟨rfl, hE _ _ _ _ _ _ _ _ _ _ _ _ _ _ _ _ _ _ _ _ _ _ _ _ _ _ _ _ _ _ _ _ _ _ _ _ _ _ _ _ _ _ _ _ _ _ _ _ _ _ _ _ _ _ _ _ _ _ _ _ _ _ _ _ _ _ _ _ _ _ _ _ _ _ _ _ _ _ _ _ _ _ _ _ _ _ _ _ _ _ _ _ _ _ _ _ _ _ _ _ _ _ _ _ _ _ _ _ _ _ _ _ _ _ _ _ _ _ _ _ _ _ _ _ _ _ _ _ _ _ _ _ _ _ _ _ _ _ _ _ _ _ _ _ _ _ _ _ _ _ _ _ _ _ _ _ _ _ _ _ _ _ _ _ _ _ _ _ _ _ _ _ _ _ _ _ _ _ _ _ _ _ _ _ _ _ _ _ _ _ _ _ _ _ _ _ ⟨.done, nm, ls, b, J⟩ oa L oc _ (by rw [← HS.out, run_done rfl]) (HW.out.more (by omega) (by omega) (by simp [needs])) HM.out⟩
      · have HS : Hid (runR S.data.toList ⟨.tag, (nm ++ cleanB c), ls, b, J⟩ = Z) := by
          show _ = _
          rw [← HR.out, run_step (s := ⟨.tag, nm, ls, b, k⟩) hg (by simp)]
          congr 1
          unfold stepC
          simp only []
          rw [if_neg hb, if_neg h47, if_neg h62, hJ]
        have HBL := Lib.hid (fun W => rblank_any (c.toNat : Int) W)
        rw [show blI (c.toNat : Int) = false by simpa [blB] using hb] at HBL
        have t47 := byte_not (z := 47) h47 rfl
        have n47 := byte_not' (z := 47) h47 rfl
        have t62 := byte_not (z := 62) h62 rfl
        have n62 := byte_not' (z := 62) h62 rfl
        have HLOW := Lib.hid (fun W => rlow_any c W)
        obtain ⟨x, hx⟩ : ∃ X : ByteArray, (⟨(cleanB c).toArray⟩ : ByteArray) = X := ⟨_, rfl⟩
        obtain ⟨nb, hnb⟩ : ∃ X : ByteArray, (⟨nm.toArray⟩ : ByteArray) = X := ⟨_, rfl⟩
        obtain ⟨nx, hnx⟩ : ∃ X, nb ++ x = X := ⟨_, rfl⟩
        have HNX : Hid (nx = ⟨(nm ++ cleanB c).toArray⟩) := by
          show _ = _
          rw [← hnx, ← hnb, ← hx]
          apply ByteArray.ext
          apply Array.ext'
          simp [ByteArray.data_append]
        have hxs : x.size ≤ 3 := by rw [← hx]; show (cleanB c).toArray.size ≤ _; rw [List.size_toArray]; exact cleanB_len c
        have hns : nb.size ≤ 6000 := by
          have h1 := HW.out.nm
          simp only [] at h1
          rw [← hnb]; show nm.toArray.size ≤ _; rw [List.size_toArray]; omega
        rw [hx] at HLOW
        have hpl := (Array.getElem?_eq_some_iff.1 HM.out.tok).1
        have htok : wr.heap[p]? = some (.cells #[.int .i64 kind, .string nb, .string ⟨#[]⟩, .slice none 0 0, .bool false, .bool b, .bool false, .int .i64 from', .int .i64 0] 25 (0, 0)) := by rw [← hnb]; exact HM.out.tok
        have y0 : wr.cell? ⟨p, 1, none⟩ = some (.string nb) := by rw [Lib.cell_of_heap htok]; rfl
        have f0 := Lib.frozen_of_heap htok 1
        have HTK := Lib.hid htok
        clear hx hnb htok
        have HWN : Hid (Wf S.data.toList ⟨.tag, nm ++ cleanB c, ls, b, J⟩) := ⟨by have := HW.out.i; simp only [] at this ⊢; omega, by have := HW.out.l; simp only [] at this ⊢; omega, by have := HW.out.nm; have := cleanB_len c; simp only [List.length_append] at *; omega, fun a ha => by have := HW.out.at' a ha; simp only [] at this ⊢; omega, by simp [needs]⟩
        clear hb hg h47 h62
        go_wp2_with fail
        refine (HBL.out _).mono ?_
        rintro e w' ⟨rfl, rfl⟩
        go_wp2_with fail
        go_region_with (go_at_call 31; refine (HLOW.out _).mono ?_; rintro e w1 ⟨rfl, b1⟩; have HB1 : Hid (Below wr.heap.size wr w1) := (by first | exact b1 | exact ((Below.refl wr.heap.size wr).drew).trans b1 | exact (below_drewN (Below.refl wr.heap.size wr) _).trans b1); have k1 := (HB1.out.block p hpl).trans HTK.out; have y1 : w1.cell? ⟨p, 1, none⟩ = some (.string nb) := (by rw [Lib.cell_of_heap k1]; rfl); have f1 := Lib.frozen_of_heap k1 1; have HK1 := Lib.hid k1; clear k1 b1)
        all_goals
          go_wp2_with fail
          refine hN _ _ _ _ _ _ _ _ _ _ _ _ _ _ _ _ _ _ _ _ _ _ _ _ _ _ _ _ _ _ _ _ _ _ _ _ _ _ _ _ _ _ _ _ _ _ _ _ _ _ _ _ _ _ _ _ _ _ _ _ _ _ _ _ _ _ _ _ _ _ _ _ _ _ _ _ _ _ _ _ _ _ _ _ _ _ _ _ _ _ _ _ _ _ _ _ _ _ _ _ _ _ _ _ _ _ _ _ _ _ _ _ _ _ _ _ _ _ _ _ _ _ _ _ _ _ _ _ _ _ _ _ _ _ _ _ _ _ _ _ _ _ _ _ _ _ _ _ _ _ _ _ _ _ _ _ _ _ _ _ _ _ _ _ _ _ _ _ _ _ _ _ _ _ _ _ _ _ _ _ _ _ _ _ _ _ _ _ _ _ _ _ _ _ _ _ (.tag) (nm ++ cleanB c) (ls) (b) (J) (oa) (L) (oc) _ (by simp) HS.out (HWN.out) ?_ ?_
          · have hm := HM.out.below' HB1.out
            refine ⟨?_, ownsRow_setCell_below (by exact hm.own) (by show p < _; omega) _, hm.len, by have := hm.size; simp [World.setCell]; exact this, Below.setCell (by first | exact hm.below | exact hm.below.drew) (by exact Nat.le_refl _) _⟩
            rw [← HNX.out]
            exact hset (by exact HK1.out) 1 _
          · simp only [rank]
            omega

set_option maxHeartbeats 25600000 in
set_option maxRecDepth 100000 in
theorem round_slash (code : Code) (hcode : bodyOf 15 Tryd.f13 = some code) (N E : Act → World → Prop) {x1 x2 x3 x4 x5 x6 x7 x9 x13 x14 x15 x16 x17 x18 x19 x20 x21 x22 x23 x24 x25 x26 x27 x28 x29 x30 x31 x32 x33 x34 x35 x36 x37 x38 x39 x40 x41 x42 x43 x44 x45 x46 x47 x48 x49 x50 x51 x52 x53 x54 x55 x56 x57 x58 x59 x60 x61 x62 x63 x64 x65 x66 x67 x68 x69 x70 x71 x72 x73 x74 x75 x76 x77 x78 x79 x80 x81 x82 x83 x84 x85 x86 x87 x88 x89 x90 x91 x92 x93 x94 x95 x96 x97 x98 x99 x100 x101 x102 x103 x104 x105 x106 x107 x108 x109 x110 x111 x112 x113 x114 x115 x116 x117 x118 x119 x120 x121 x122 x123 x124 x125 x126 x127 x128 x129 x130 x131 x132 x133 x134 x135 x136 x137 x138 x139 x140 x141 x142 x143 x144 x145 x146 x147 x148 x149 x150 x151 x152 x153 x154 x155 x156 x157 x158 x159 x160 x161 x162 x163 x164 x165 x166 x167 x168 x169 x170 x171 x172 x173 x174 x175 x176 x177 x178 x179 x180 x181 x182 x183 x184 x185 x186 x187 x188 x189 x190 x191 x192 x193 x194 x195 x196 x197 x198 x199 x200 x201 x202 x203 x204 x205 x206 x207 x208 x209 x210 x211 x212 x213 x214 x215 x216 x217 x218 x219 x220 x221 x222 x223 x224 x225 x226 x227 x228 x229 x230 x231 x232 x233 x234 x235 x236 x237 x238 x239 x240 x241 x242 x243 x244 x245 x246 x247 x248 x249 x250 x251 x252 x253 x254 x255 x256 x257 x258 x259 x260 x261 x262 x263 x264 x265 x266 x267 x268 x269 x270 x271 x272 x273 x274 x275 x276 x277 x278 x279 x280 x281 x282 x283 x284 x285 x286 x287 x288 x289 x290 x291 x292 x293 x294 x295 x296 x297 x298 x299 x300 x301 x302 x303 x304 x305 x306 x307 x308 x309 x310 x311 x312 x313 x314 : Value} {ds : List Deferred} {wr : World} (S : ByteArray) (p k L oc : Nat) (oa : Option Addr) (nm : List UInt8) (ls : List At) (b : Bool) (kind from' : Int) (Z : RS) (w : World)
    (hs : S.size ≤ 2000) (hlt : k < S.size) (hpB : p < w.heap.size) (HR : Hid (runR S.data.toList ⟨.slash, nm, ls, b, k⟩ = Z)) (HW : Hid (Wf S.data.toList ⟨.slash, nm, ls, b, k⟩)) (HM : Hid (RdAt w.heap.size p kind from' w nm b ls oa L oc wr))
    (hN : ∀ (u13 u14 u15 u16 u17 u68 u69 u70 u71 u72 u73 u74 u75 u76 u77 u78 u79 u80 u81 u82 u83 u84 u85 u86 u87 u88 u89 u90 u91 u92 u93 u94 u95 u96 u97 u98 u99 u100 u101 u102 u103 u104 u105 u106 u107 u108 u109 u110 u111 u112 u113 u114 u115 u116 u117 u118 u119 u120 u121 u122 u123 u124 u125 u126 u127 u128 u129 u130 u131 u132 u133 u134 u135 u136 u137 u138 u139 u140 u141 u142 u143 u144 u145 u146 u147 u148 u149 u150 u151 u152 u153 u154 u155 u156 u157 u158 u159 u160 u161 u162 u163 u164 u165 u166 u167 u168 u169 u170 u171 u172 u173 u174 u175 u176 u177 u178 u179 u180 u181 u182 u183 u184 u185 u186 u187 u188 u189 u190 u191 u192 u193 u194 u195 u196 u197 u198 u199 u200 u201 u202 u203 u204 u205 u206 u207 u208 u209 u210 u211 u212 u213 u214 u215 u216 u217 u218 u219 u220 u221 u222 u223 u224 u225 u226 u227 u228 u229 u230 u231 u232 u233 u234 u235 u236 u237 u238 u239 u240 u241 u242 u243 u244 u245 u246 u247 u248 u249 u250 u251 u252 u253 u254 u255 u256 u257 u258 : Value) (s' : St) (nm' : List UInt8) (ls' : List At) (b' : Bool) (k' : Nat) (oa' : Option Addr) (L' oc' : Nat) (w' : World), s' ≠ .done → runR S.data.toList ⟨s', nm', ls', b', k'⟩ = Z → Wf S.data.toList ⟨s', nm', ls', b', k'⟩ → RdAt w.heap.size p kind from' w nm' b' ls' oa' L' oc' w' → 2 * (S.size - k') + rank s' < 2 * (S.size - k) + rank .slash → N ⟨List.toArray (.string S :: x1 :: x2 :: x3 :: x4 :: x5 :: x6 :: x7 :: .int .i64 (k' : Int) :: x9 :: .pointer (some ⟨p, 0, none⟩) :: .slice oa' L' oc' :: .string (stB s') :: u13 :: u14 :: u15 :: u16 :: u17 :: x18 :: x19 :: x20 :: x21 :: x22 :: x23 :: x24 :: x25 :: x26 :: x27 :: x28 :: x29 :: x30 :: x31 :: x32 :: x33 :: x34 :: x35 :: x36 :: x37 :: x38 :: x39 :: x40 :: x41 :: x42 :: x43 :: x44 :: x45 :: x46 :: x47 :: x48 :: x49 :: x50 :: x51 :: x52 :: x53 :: x54 :: x55 :: x56 :: x57 :: x58 :: x59 :: x60 :: x61 :: x62 :: x63 :: x64 :: x65 :: x66 :: x67 :: u68 :: u69 :: u70 :: u71 :: u72 :: u73 :: u74 :: u75 :: u76 :: u77 :: u78 :: u79 :: u80 :: u81 :: u82 :: u83 :: u84 :: u85 :: u86 :: u87 :: u88 :: u89 :: u90 :: u91 :: u92 :: u93 :: u94 :: u95 :: u96 :: u97 :: u98 :: u99 :: u100 :: u101 :: u102 :: u103 :: u104 :: u105 :: u106 :: u107 :: u108 :: u109 :: u110 :: u111 :: u112 :: u113 :: u114 :: u115 :: u116 :: u117 :: u118 :: u119 :: u120 :: u121 :: u122 :: u123 :: u124 :: u125 :: u126 :: u127 :: u128 :: u129 :: u130 :: u131 :: u132 :: u133 :: u134 :: u135 :: u136 :: u137 :: u138 :: u139 :: u140 :: u141 :: u142 :: u143 :: u144 :: u145 :: u146 :: u147 :: u148 :: u149 :: u150 :: u151 :: u152 :: u153 :: u154 :: u155 :: u156 :: u157 :: u158 :: u159 :: u160 :: u161 :: u162 :: u163 :: u164 :: u165 :: u166 :: u167 :: u168 :: u169 :: u170 :: u171 :: u172 :: u173 :: u174 :: u175 :: u176 :: u177 :: u178 :: u179 :: u180 :: u181 :: u182 :: u183 :: u184 :: u185 :: u186 :: u187 :: u188 :: u189 :: u190 :: u191 :: u192 :: u193 :: u194 :: u195 :: u196 :: u197 :: u198 :: u199 :: u200 :: u201 :: u202 :: u203 :: u204 :: u205 :: u206 :: u207 :: u208 :: u209 :: u210 :: u211 :: u212 :: u213 :: u214 :: u215 :: u216 :: u217 :: u218 :: u219 :: u220 :: u221 :: u222 :: u223 :: u224 :: u225 :: u226 :: u227 :: u228 :: u229 :: u230 :: u231 :: u232 :: u233 :: u234 :: u235 :: u236 :: u237 :: u238 :: u239 :: u240 :: u241 :: u242 :: u243 :: u244 :: u245 :: u246 :: u247 :: u248 :: u249 :: u250 :: u251 :: u252 :: u253 :: u254 :: u255 :: u256 :: u257 :: u258 :: x259 :: x260 :: x261 :: x262 :: x263 :: x264 :: x265 :: x266 :: x267 :: x268 :: x269 :: x270 :: x271 :: x272 :: x273 :: x274 :: x275 :: x276 :: x277 :: x278 :: x279 :: x280 :: x281 :: x282 :: x283 :: x284 :: x285 :: x286 :: x287 :: x288 :: x289 :: x290 :: x291 :: x292 :: x293 :: x294 :: x295 :: x296 :: x297 :: x298 :: x299 :: x300 :: x301 :: x302 :: x303 :: x304 :: x305 :: x306 :: x307 :: x308 :: x309 :: x310 :: x311 :: x312 :: x313 :: x314 :: []), ds⟩ w')
    (hE : ∀ (u13 u14 u15 u16 u17 u68 u69 u70 u71 u72 u73 u74 u75 u76 u77 u78 u79 u80 u81 u82 u83 u84 u85 u86 u87 u88 u89 u90 u91 u92 u93 u94 u95 u96 u97 u98 u99 u100 u101 u102 u103 u104 u105 u106 u107 u108 u109 u110 u111 u112 u113 u114 u115 u116 u117 u118 u119 u120 u121 u122 u123 u124 u125 u126 u127 u128 u129 u130 u131 u132 u133 u134 u135 u136 u137 u138 u139 u140 u141 u142 u143 u144 u145 u146 u147 u148 u149 u150 u151 u152 u153 u154 u155 u156 u157 u158 u159 u160 u161 u162 u163 u164 u165 u166 u167 u168 u169 u170 u171 u172 u173 u174 u175 u176 u177 u178 u179 u180 u181 u182 u183 u184 u185 u186 u187 u188 u189 u190 u191 u192 u193 u194 u195 u196 u197 u198 u199 u200 u201 u202 u203 u204 u205 u206 u207 u208 u209 u210 u211 u212 u213 u214 u215 u216 u217 u218 u219 u220 u221 u222 u223 u224 u225 u226 u227 u228 u229 u230 u231 u232 u233 u234 u235 u236 u237 u238 u239 u240 u241 u242 u243 u244 u245 u246 u247 u248 u249 u250 u251 u252 u253 u254 u255 u256 u257 u258 : Value) (z : RS) (oa' : Option Addr) (L' oc' : Nat) (w' : World), z = Z → Wf S.data.toList z → RdAt w.heap.size p kind from' w z.name z.self z.l oa' L' oc' w' → E ⟨List.toArray (.string S :: x1 :: x2 :: x3 :: x4 :: x5 :: x6 :: x7 :: .int .i64 (z.i : Int) :: x9 :: .pointer (some ⟨p, 0, none⟩) :: .slice oa' L' oc' :: .string (stB z.st) :: u13 :: u14 :: u15 :: u16 :: u17 :: x18 :: x19 :: x20 :: x21 :: x22 :: x23 :: x24 :: x25 :: x26 :: x27 :: x28 :: x29 :: x30 :: x31 :: x32 :: x33 :: x34 :: x35 :: x36 :: x37 :: x38 :: x39 :: x40 :: x41 :: x42 :: x43 :: x44 :: x45 :: x46 :: x47 :: x48 :: x49 :: x50 :: x51 :: x52 :: x53 :: x54 :: x55 :: x56 :: x57 :: x58 :: x59 :: x60 :: x61 :: x62 :: x63 :: x64 :: x65 :: x66 :: x67 :: u68 :: u69 :: u70 :: u71 :: u72 :: u73 :: u74 :: u75 :: u76 :: u77 :: u78 :: u79 :: u80 :: u81 :: u82 :: u83 :: u84 :: u85 :: u86 :: u87 :: u88 :: u89 :: u90 :: u91 :: u92 :: u93 :: u94 :: u95 :: u96 :: u97 :: u98 :: u99 :: u100 :: u101 :: u102 :: u103 :: u104 :: u105 :: u106 :: u107 :: u108 :: u109 :: u110 :: u111 :: u112 :: u113 :: u114 :: u115 :: u116 :: u117 :: u118 :: u119 :: u120 :: u121 :: u122 :: u123 :: u124 :: u125 :: u126 :: u127 :: u128 :: u129 :: u130 :: u131 :: u132 :: u133 :: u134 :: u135 :: u136 :: u137 :: u138 :: u139 :: u140 :: u141 :: u142 :: u143 :: u144 :: u145 :: u146 :: u147 :: u148 :: u149 :: u150 :: u151 :: u152 :: u153 :: u154 :: u155 :: u156 :: u157 :: u158 :: u159 :: u160 :: u161 :: u162 :: u163 :: u164 :: u165 :: u166 :: u167 :: u168 :: u169 :: u170 :: u171 :: u172 :: u173 :: u174 :: u175 :: u176 :: u177 :: u178 :: u179 :: u180 :: u181 :: u182 :: u183 :: u184 :: u185 :: u186 :: u187 :: u188 :: u189 :: u190 :: u191 :: u192 :: u193 :: u194 :: u195 :: u196 :: u197 :: u198 :: u199 :: u200 :: u201 :: u202 :: u203 :: u204 :: u205 :: u206 :: u207 :: u208 :: u209 :: u210 :: u211 :: u212 :: u213 :: u214 :: u215 :: u216 :: u217 :: u218 :: u219 :: u220 :: u221 :: u222 :: u223 :: u224 :: u225 :: u226 :: u227 :: u228 :: u229 :: u230 :: u231 :: u232 :: u233 :: u234 :: u235 :: u236 :: u237 :: u238 :: u239 :: u240 :: u241 :: u242 :: u243 :: u244 :: u245 :: u246 :: u247 :: u248 :: u249 :: u250 :: u251 :: u252 :: u253 :: u254 :: u255 :: u256 :: u257 :: u258 :: x259 :: x260 :: x261 :: x262 :: x263 :: x264 :: x265 :: x266 :: x267 :: x268 :: x269 :: x270 :: x271 :: x272 :: x273 :: x274 :: x275 :: x276 :: x277 :: x278 :: x279 :: x280 :: x281 :: x282 :: x283 :: x284 :: x285 :: x286 :: x287 :: x288 :: x289 :: x290 :: x291 :: x292 :: x293 :: x294 :: x295 :: x296 :: x297 :: x298 :: x299 :: x300 :: x301 :: x302 :: x303 :: x304 :: x305 :: x306 :: x307 :: x308 :: x309 :: x310 :: x311 :: x312 :: x313 :: x314 :: []), ds⟩ w') :
    code.wp Tryd.prog (RoundQ N E) ⟨List.toArray (.string S :: x1 :: x2 :: x3 :: x4 :: x5 :: x6 :: x7 :: .int .i64 (k : Int) :: x9 :: .pointer (some ⟨p, 0, none⟩) :: .slice oa L oc :: .string (stB .slash) :: x13 :: x14 :: x15 :: x16 :: x17 :: x18 :: x19 :: x20 :: x21 :: x22 :: x23 :: x24 :: x25 :: x26 :: x27 :: x28 :: x29 :: x30 :: x31 :: x32 :: x33 :: x34 :: x35 :: x36 :: x37 :: x38 :: x39 :: x40 :: x41 :: x42 :: x43 :: x44 :: x45 :: x46 :: x47 :: x48 :: x49 :: x50 :: x51 :: x52 :: x53 :: x54 :: x55 :: x56 :: x57 :: x58 :: x59 :: x60 :: x61 :: x62 :: x63 :: x64 :: x65 :: x66 :: x67 :: x68 :: x69 :: x70 :: x71 :: x72 :: x73 :: x74 :: x75 :: x76 :: x77 :: x78 :: x79 :: x80 :: x81 :: x82 :: x83 :: x84 :: x85 :: x86 :: x87 :: x88 :: x89 :: x90 :: x91 :: x92 :: x93 :: x94 :: x95 :: x96 :: x97 :: x98 :: x99 :: x100 :: x101 :: x102 :: x103 :: x104 :: x105 :: x106 :: x107 :: x108 :: x109 :: x110 :: x111 :: x112 :: x113 :: x114 :: x115 :: x116 :: x117 :: x118 :: x119 :: x120 :: x121 :: x122 :: x123 :: x124 :: x125 :: x126 :: x127 :: x128 :: x129 :: x130 :: x131 :: x132 :: x133 :: x134 :: x135 :: x136 :: x137 :: x138 :: x139 :: x140 :: x141 :: x142 :: x143 :: x144 :: x145 :: x146 :: x147 :: x148 :: x149 :: x150 :: x151 :: x152 :: x153 :: x154 :: x155 :: x156 :: x157 :: x158 :: x159 :: x160 :: x161 :: x162 :: x163 :: x164 :: x165 :: x166 :: x167 :: x168 :: x169 :: x170 :: x171 :: x172 :: x173 :: x174 :: x175 :: x176 :: x177 :: x178 :: x179 :: x180 :: x181 :: x182 :: x183 :: x184 :: x185 :: x186 :: x187 :: x188 :: x189 :: x190 :: x191 :: x192 :: x193 :: x194 :: x195 :: x196 :: x197 :: x198 :: x199 :: x200 :: x201 :: x202 :: x203 :: x204 :: x205 :: x206 :: x207 :: x208 :: x209 :: x210 :: x211 :: x212 :: x213 :: x214 :: x215 :: x216 :: x217 :: x218 :: x219 :: x220 :: x221 :: x222 :: x223 :: x224 :: x225 :: x226 :: x227 :: x228 :: x229 :: x230 :: x231 :: x232 :: x233 :: x234 :: x235 :: x236 :: x237 :: x238 :: x239 :: x240 :: x241 :: x242 :: x243 :: x244 :: x245 :: x246 :: x247 :: x248 :: x249 :: x250 :: x251 :: x252 :: x253 :: x254 :: x255 :: x256 :: x257 :: x258 :: x259 :: x260 :: x261 :: x262 :: x263 :: x264 :: x265 :: x266 :: x267 :: x268 :: x269 :: x270 :: x271 :: x272 :: x273 :: x274 :: x275 :: x276 :: x277 :: x278 :: x279 :: x280 :: x281 :: x282 :: x283 :: x284 :: x285 :: x286 :: x287 :: x288 :: x289 :: x290 :: x291 :: x292 :: x293 :: x294 :: x295 :: x296 :: x297 :: x298 :: x299 :: x300 :: x301 :: x302 :: x303 :: x304 :: x305 :: x306 :: x307 :: x308 :: x309 :: x310 :: x311 :: x312 :: x313 :: x314 :: []), ds⟩ wr := by
  have hlit := Option.some.inj hcode.symm
  subst hlit
  have hsl : Hid (S.data.toList.length = S.size) := by show _ = _; simp
  have hkS : k ≤ S.size := by omega
  have hki : (k : Int) < S.size := by omega
  obtain ⟨c, hc⟩ : ∃ c, S[k] = c := ⟨_, rfl⟩
  have hg := at_get hlt
  rw [hc] at hg
  obtain ⟨J, hJ⟩ : ∃ J, k + 1 = J := ⟨_, rfl⟩
  have hJi : (k : Int) + 1 = J := by omega
  have hJk : (J : Int) - 1 = k := by omega
  have hJS : J ≤ S.size := by omega
  have hJl : J ≤ S.data.toList.length := by rw [hsl.out]; exact hJS
  rw [show stB .slash = ⟨#[115, 108, 97, 115, 104]⟩ from rfl]
  by_cases h62 : c = 62
  · have HS : Hid (runR S.data.toList ⟨.done, nm, ls, true, J⟩ = Z) := by
      show _ = _
      rw [← HR.out, run_step (s := ⟨.slash, nm, ls, b, k⟩) hg (by simp)]
      congr 1
      unfold stepC
      simp only []
      rw [if_pos h62, hJ]
    have t62 := byte_is (z := 62) h62 rfl
    have n62 := byte_is' (z := 62) h62 rfl
    have y5 : wr.cell? ⟨p, 5, none⟩ = some (.bool b) := by rw [Lib.cell_of_heap HM.out.tok]; rfl
    have f5 := Lib.frozen_of_heap HM.out.tok 5
    clear hg h62
    go_wp2_with fail
    refine ⟨rfl, hE _ _ _ _ _ _ _ _ _ _ _ _ _ _ _ _ _ _ _ _ _ _ _ _ _ _ _ _ _ _ _ _ _ _ _ _ _ _ _ _ _ _ _ _ _ _ _ _ _ _ _ _ _ _ _ _ _ _ _ _ _ _ _ _ _ _ _ _ _ _ _ _ _ _ _ _ _ _ _ _ _ _ _ _ _ _ _ _ _ _ _ _ _ _ _ _ _ _ _ _ _ _ _ _ _ _ _ _ _ _ _ _ _ _ _ _ _ _ _ _ _ _ _ _ _ _ _ _ _ _ _ _ _ _ _ _ _ _ _ _ _ _ _ _ _ _ _ _ _ _ _ _ _ _ _ _ _ _ _ _ _ _ _ _ _ _ _ _ _ _ _ _ _ _ _ _ _ _ _ _ _ _ _ _ _ _ _ _ _ _ _ _ _ _ _ _ ⟨.done, nm, ls, true, J⟩ oa L oc _ (by rw [← HS.out, run_done rfl]) (HW.out.more (by omega) (by omega) (by simp [needs])) ⟨hset HM.out.tok 5 _, ownsRow_setCell_below HM.out.own (by show p < _; omega) _, HM.out.len, by have := HM.out.size; simp [World.setCell]; exact this, HM.out.below.setCell (by exact Nat.le_refl _) _⟩⟩
  · have HS : Hid (runR S.data.toList ⟨.ahead, nm, ls, b, k⟩ = Z) := by
      show _ = _
      rw [← HR.out, run_step (s := ⟨.slash, nm, ls, b, k⟩) hg (by simp)]
      congr 1
      unfold stepC
      simp only []
      rw [if_neg h62]
    have t62 := byte_not (z := 62) h62 rfl
    have n62 := byte_not' (z := 62) h62 rfl
    clear hg h62
    go_wp2_with fail
    refine hN _ _ _ _ _ _ _ _ _ _ _ _ _ _ _ _ _ _ _ _ _ _ _ _ _ _ _ _ _ _ _ _ _ _ _ _ _ _ _ _ _ _ _ _ _ _ _ _ _ _ _ _ _ _ _ _ _ _ _ _ _ _ _ _ _ _ _ _ _ _ _ _ _ _ _ _ _ _ _ _ _ _ _ _ _ _ _ _ _ _ _ _ _ _ _ _ _ _ _ _ _ _ _ _ _ _ _ _ _ _ _ _ _ _ _ _ _ _ _ _ _ _ _ _ _ _ _ _ _ _ _ _ _ _ _ _ _ _ _ _ _ _ _ _ _ _ _ _ _ _ _ _ _ _ _ _ _ _ _ _ _ _ _ _ _ _ _ _ _ _ _ _ _ _ _ _ _ _ _ _ _ _ _ _ _ _ _ _ _ _ _ _ _ _ _ _ (.ahead) (nm) (ls) (b) (k) (oa) (L) (oc) _ (by simp) HS.out (HW.out.more (by omega) (by omega) (by simp [needs])) (HM.out) ?_
    simp only [rank]
    omega

set_option maxHeartbeats 25600000 in
set_option maxRecDepth 100000 in
theorem round_ahead (code : Code) (hcode : bodyOf 15 Tryd.f13 = some code) (N E : Act → World → Prop) {x1 x2 x3 x4 x5 x6 x7 x9 x13 x14 x15 x16 x17 x18 x19 x20 x21 x22 x23 x24 x25 x26 x27 x28 x29 x30 x31 x32 x33 x34 x35 x36 x37 x38 x39 x40 x41 x42 x43 x44 x45 x46 x47 x48 x49 x50 x51 x52 x53 x54 x55 x56 x57 x58 x59 x60 x61 x62 x63 x64 x65 x66 x67 x68 x69 x70 x71 x72 x73 x74 x75 x76 x77 x78 x79 x80 x81 x82 x83 x84 x85 x86 x87 x88 x89 x90 x91 x92 x93 x94 x95 x96 x97 x98 x99 x100 x101 x102 x103 x104 x105 x106 x107 x108 x109 x110 x111 x112 x113 x114 x115 x116 x117 x118 x119 x120 x121 x122 x123 x124 x125 x126 x127 x128 x129 x130 x131 x132 x133 x134 x135 x136 x137 x138 x139 x140 x141 x142 x143 x144 x145 x146 x147 x148 x149 x150 x151 x152 x153 x154 x155 x156 x157 x158 x159 x160 x161 x162 x163 x164 x165 x166 x167 x168 x169 x170 x171 x172 x173 x174 x175 x176 x177 x178 x179 x180 x181 x182 x183 x184 x185 x186 x187 x188 x189 x190 x191 x192 x193 x194 x195 x196 x197 x198 x199 x200 x201 x202 x203 x204 x205 x206 x207 x208 x209 x210 x211 x212 x213 x214 x215 x216 x217 x218 x219 x220 x221 x222 x223 x224 x225 x226 x227 x228 x229 x230 x231 x232 x233 x234 x235 x236 x237 x238 x239 x240 x241 x242 x243 x244 x245 x246 x247 x248 x249 x250 x251 x252 x253 x254 x255 x256 x257 x258 x259 x260 x261 x262 x263 x264 x265 x266 x267 x268 x269 x270 x271 x272 x273 x274 x275 x276 x277 x278 x279 x280 x281 x282 x283 x284 x285 x286 x287 x288 x289 x290 x291 x292 x293 x294 x295 x296 x297 x298 x299 x300 x301 x302 x303 x304 x305 x306 x307 x308 x309 x310 x311 x312 x313 x314 : Value} {ds : List Deferred} {wr : World} (S : ByteArray) (p k L oc : Nat) (oa : Option Addr) (nm : List UInt8) (ls : List At) (b : Bool) (kind from' : Int) (Z : RS) (w : World)
    (hs : S.size ≤ 2000) (hlt : k < S.size) (hpB : p < w.heap.size) (HR : Hid (runR S.data.toList ⟨.ahead, nm, ls, b, k⟩ = Z)) (HW : Hid (Wf S.data.toList ⟨.ahead, nm, ls, b, k⟩)) (HM : Hid (RdAt w.heap.size p kind from' w nm b ls oa L oc wr))
    (hN : ∀ (u13 u14 u15 u16 u17 u68 u69 u70 u71 u72 u73 u74 u75 u76 u77 u78 u79 u80 u81 u82 u83 u84 u85 u86 u87 u88 u89 u90 u91 u92 u93 u94 u95 u96 u97 u98 u99 u100 u101 u102 u103 u104 u105 u106 u107 u108 u109 u110 u111 u112 u113 u114 u115 u116 u117 u118 u119 u120 u121 u122 u123 u124 u125 u126 u127 u128 u129 u130 u131 u132 u133 u134 u135 u136 u137 u138 u139 u140 u141 u142 u143 u144 u145 u146 u147 u148 u149 u150 u151 u152 u153 u154 u155 u156 u157 u158 u159 u160 u161 u162 u163 u164 u165 u166 u167 u168 u169 u170 u171 u172 u173 u174 u175 u176 u177 u178 u179 u180 u181 u182 u183 u184 u185 u186 u187 u188 u189 u190 u191 u192 u193 u194 u195 u196 u197 u198 u199 u200 u201 u202 u203 u204 u205 u206 u207 u208 u209 u210 u211 u212 u213 u214 u215 u216 u217 u218 u219 u220 u221 u222 u223 u224 u225 u226 u227 u228 u229 u230 u231 u232 u233 u234 u235 u236 u237 u238 u239 u240 u241 u242 u243 u244 u245 u246 u247 u248 u249 u250 u251 u252 u253 u254 u255 u256 u257 u258 : Value) (s' : St) (nm' : List UInt8) (ls' : List At) (b' : Bool) (k' : Nat) (oa' : Option Addr) (L' oc' : Nat) (w' : World), s' ≠ .done → runR S.data.toList ⟨s', nm', ls', b', k'⟩ = Z → Wf S.data.toList ⟨s', nm', ls', b', k'⟩ → RdAt w.heap.size p kind from' w nm' b' ls' oa' L' oc' w' → 2 * (S.size - k') + rank s' < 2 * (S.size - k) + rank .ahead → N ⟨List.toArray (.string S :: x1 :: x2 :: x3 :: x4 :: x5 :: x6 :: x7 :: .int .i64 (k' : Int) :: x9 :: .pointer (some ⟨p, 0, none⟩) :: .slice oa' L' oc' :: .string (stB s') :: u13 :: u14 :: u15 :: u16 :: u17 :: x18 :: x19 :: x20 :: x21 :: x22 :: x23 :: x24 :: x25 :: x26 :: x27 :: x28 :: x29 :: x30 :: x31 :: x32 :: x33 :: x34 :: x35 :: x36 :: x37 :: x38 :: x39 :: x40 :: x41 :: x42 :: x43 :: x44 :: x45 :: x46 :: x47 :: x48 :: x49 :: x50 :: x51 :: x52 :: x53 :: x54 :: x55 :: x56 :: x57 :: x58 :: x59 :: x60 :: x61 :: x62 :: x63 :: x64 :: x65 :: x66 :: x67 :: u68 :: u69 :: u70 :: u71 :: u72 :: u73 :: u74 :: u75 :: u76 :: u77 :: u78 :: u79 :: u80 :: u81 :: u82 :: u83 :: u84 :: u85 :: u86 :: u87 :: u88 :: u89 :: u90 :: u91 :: u92 :: u93 :: u94 :: u95 :: u96 :: u97 :: u98 :: u99 :: u100 :: u101 :: u102 :: u103 :: u104 :: u105 :: u106 :: u107 :: u108 :: u109 :: u110 :: u111 :: u112 :: u113 :: u114 :: u115 :: u116 :: u117 :: u118 :: u119 :: u120 :: u121 :: u122 :: u123 :: u124 :: u125 :: u126 :: u127 :: u128 :: u129 :: u130 :: u131 :: u132 :: u133 :: u134 :: u135 :: u136 :: u137 :: u138 :: u139 :: u140 :: u141 :: u142 :: u143 :: u144 :: u145 :: u146 :: u147 :: u148 :: u149 :: u150 :: u151 :: u152 :: u153 :: u154 :: u155 :: u156 :: u157 :: u158 :: u159 :: u160 :: u161 :: u162 :: u163 :: u164 :: u165 :: u166 :: u167 :: u168 :: u169 :: u170 :: u171 :: u172 :: u173 :: u174 :: u175 :: u176 :: u177 :: u178 :: u179 :: u180 :: u181 :: u182 :: u183 :: u184 :: u185 :: u186 :: u187 :: u188 :: u189 :: u190 :: u191 :: u192 :: u193 :: u194 :: u195 :: u196 :: u197 :: u198 :: u199 :: u200 :: u201 :: u202 :: u203 :: u204 :: u205 :: u206 :: u207 :: u208 :: u209 :: u210 :: u211 :: u212 :: u213 :: u214 :: u215 :: u216 :: u217 :: u218 :: u219 :: u220 :: u221 :: u222 :: u223 :: u224 :: u225 :: u226 :: u227 :: u228 :: u229 :: u230 :: u231 :: u232 :: u233 :: u234 :: u235 :: u236 :: u237 :: u238 :: u239 :: u240 :: u241 :: u242 :: u243 :: u244 :: u245 :: u246 :: u247 :: u248 :: u249 :: u250 :: u251 :: u252 :: u253 :: u254 :: u255 :: u256 :: u257 :: u258 :: x259 :: x260 :: x261 :: x262 :: x263 :: x264 :: x265 :: x266 :: x267 :: x268 :: x269 :: x270 :: x271 :: x272 :: x273 :: x274 :: x275 :: x276 :: x277 :: x278 :: x279 :: x280 :: x281 :: x282 :: x283 :: x284 :: x285 :: x286 :: x287 :: x288 :: x289 :: x290 :: x291 :: x292 :: x293 :: x294 :: x295 :: x296 :: x297 :: x298 :: x299 :: x300 :: x301 :: x302 :: x303 :: x304 :: x305 :: x306 :: x307 :: x308 :: x309 :: x310 :: x311 :: x312 :: x313 :: x314 :: []), ds⟩ w')
    (hE : ∀ (u13 u14 u15 u16 u17 u68 u69 u70 u71 u72 u73 u74 u75 u76 u77 u78 u79 u80 u81 u82 u83 u84 u85 u86 u87 u88 u89 u90 u91 u92 u93 u94 u95 u96 u97 u98 u99 u100 u101 u102 u103 u104 u105 u106 u107 u108 u109 u110 u111 u112 u113 u114 u115 u116 u117 u118 u119 u120 u121 u122 u123 u124 u125 u126 u127 u128 u129 u130 u131 u132 u133 u134 u135 u136 u137 u138 u139 u140 u141 u142 u143 u144 u145 u146 u147 u148 u149 u150 u151 u152 u153 u154 u155 u156 u157 u158 u159 u160 u161 u162 u163 u164 u165 u166 u167 u168 u169 u170 u171 u172 u173 u174 u175 u176 u177 u178 u179 u180 u181 u182 u183 u184 u185 u186 u187 u188 u189 u190 u191 u192 u193 u194 u195 u196 u197 u198 u199 u200 u201 u202 u203 u204 u205 u206 u207 u208 u209 u210 u211 u212 u213 u214 u215 u216 u217 u218 u219 u220 u221 u222 u223 u224 u225 u226 u227 u228 u229 u230 u231 u232 u233 u234 u235 u236 u237 u238 u239 u240 u241 u242 u243 u244 u245 u246 u247 u248 u249 u250 u251 u252 u253 u254 u255 u256 u257 u258 : Value) (z : RS) (oa' : Option Addr) (L' oc' : Nat) (w' : World), z = Z → Wf S.data.toList z → RdAt w.heap.size p kind from' w z.name z.self z.l oa' L' oc' w' → E ⟨List.toArray (.string S :: x1 :: x2 :: x3 :: x4 :: x5 :: x6 :: x7 :: .int .i64 (z.i : Int) :: x9 :: .pointer (some ⟨p, 0, none⟩) :: .slice oa' L' oc' :: .string (stB z.st) :: u13 :: u14 :: u15 :: u16 :: u17 :: x18 :: x19 :: x20 :: x21 :: x22 :: x23 :: x24 :: x25 :: x26 :: x27 :: x28 :: x29 :: x30 :: x31 :: x32 :: x33 :: x34 :: x35 :: x36 :: x37 :: x38 :: x39 :: x40 :: x41 :: x42 :: x43 :: x44 :: x45 :: x46 :: x47 :: x48 :: x49 :: x50 :: x51 :: x52 :: x53 :: x54 :: x55 :: x56 :: x57 :: x58 :: x59 :: x60 :: x61 :: x62 :: x63 :: x64 :: x65 :: x66 :: x67 :: u68 :: u69 :: u70 :: u71 :: u72 :: u73 :: u74 :: u75 :: u76 :: u77 :: u78 :: u79 :: u80 :: u81 :: u82 :: u83 :: u84 :: u85 :: u86 :: u87 :: u88 :: u89 :: u90 :: u91 :: u92 :: u93 :: u94 :: u95 :: u96 :: u97 :: u98 :: u99 :: u100 :: u101 :: u102 :: u103 :: u104 :: u105 :: u106 :: u107 :: u108 :: u109 :: u110 :: u111 :: u112 :: u113 :: u114 :: u115 :: u116 :: u117 :: u118 :: u119 :: u120 :: u121 :: u122 :: u123 :: u124 :: u125 :: u126 :: u127 :: u128 :: u129 :: u130 :: u131 :: u132 :: u133 :: u134 :: u135 :: u136 :: u137 :: u138 :: u139 :: u140 :: u141 :: u142 :: u143 :: u144 :: u145 :: u146 :: u147 :: u148 :: u149 :: u150 :: u151 :: u152 :: u153 :: u154 :: u155 :: u156 :: u157 :: u158 :: u159 :: u160 :: u161 :: u162 :: u163 :: u164 :: u165 :: u166 :: u167 :: u168 :: u169 :: u170 :: u171 :: u172 :: u173 :: u174 :: u175 :: u176 :: u177 :: u178 :: u179 :: u180 :: u181 :: u182 :: u183 :: u184 :: u185 :: u186 :: u187 :: u188 :: u189 :: u190 :: u191 :: u192 :: u193 :: u194 :: u195 :: u196 :: u197 :: u198 :: u199 :: u200 :: u201 :: u202 :: u203 :: u204 :: u205 :: u206 :: u207 :: u208 :: u209 :: u210 :: u211 :: u212 :: u213 :: u214 :: u215 :: u216 :: u217 :: u218 :: u219 :: u220 :: u221 :: u222 :: u223 :: u224 :: u225 :: u226 :: u227 :: u228 :: u229 :: u230 :: u231 :: u232 :: u233 :: u234 :: u235 :: u236 :: u237 :: u238 :: u239 :: u240 :: u241 :: u242 :: u243 :: u244 :: u245 :: u246 :: u247 :: u248 :: u249 :: u250 :: u251 :: u252 :: u253 :: u254 :: u255 :: u256 :: u257 :: u258 :: x259 :: x260 :: x261 :: x262 :: x263 :: x264 :: x265 :: x266 :: x267 :: x268 :: x269 :: x270 :: x271 :: x272 :: x273 :: x274 :: x275 :: x276 :: x277 :: x278 :: x279 :: x280 :: x281 :: x282 :: x283 :: x284 :: x285 :: x286 :: x287 :: x288 :: x289 :: x290 :: x291 :: x292 :: x293 :: x294 :: x295 :: x296 :: x297 :: x298 :: x299 :: x300 :: x301 :: x302 :: x303 :: x304 :: x305 :: x306 :: x307 :: x308 :: x309 :: x310 :: x311 :: x312 :: x313 :: x314 :: []), ds⟩ w') :
    code.wp Tryd.prog (RoundQ N E) ⟨List.toArray (.string S :: x1 :: x2 :: x3 :: x4 :: x5 :: x6 :: x7 :: .int .i64 (k : Int) :: x9 :: .pointer (some ⟨p, 0, none⟩) :: .slice oa L oc :: .string (stB .ahead) :: x13 :: x14 :: x15 :: x16 :: x17 :: x18 :: x19 :: x20 :: x21 :: x22 :: x23 :: x24 :: x25 :: x26 :: x27 :: x28 :: x29 :: x30 :: x31 :: x32 :: x33 :: x34 :: x35 :: x36 :: x37 :: x38 :: x39 :: x40 :: x41 :: x42 :: x43 :: x44 :: x45 :: x46 :: x47 :: x48 :: x49 :: x50 :: x51 :: x52 :: x53 :: x54 :: x55 :: x56 :: x57 :: x58 :: x59 :: x60 :: x61 :: x62 :: x63 :: x64 :: x65 :: x66 :: x67 :: x68 :: x69 :: x70 :: x71 :: x72 :: x73 :: x74 :: x75 :: x76 :: x77 :: x78 :: x79 :: x80 :: x81 :: x82 :: x83 :: x84 :: x85 :: x86 :: x87 :: x88 :: x89 :: x90 :: x91 :: x92 :: x93 :: x94 :: x95 :: x96 :: x97 :: x98 :: x99 :: x100 :: x101 :: x102 :: x103 :: x104 :: x105 :: x106 :: x107 :: x108 :: x109 :: x110 :: x111 :: x112 :: x113 :: x114 :: x115 :: x116 :: x117 :: x118 :: x119 :: x120 :: x121 :: x122 :: x123 :: x124 :: x125 :: x126 :: x127 :: x128 :: x129 :: x130 :: x131 :: x132 :: x133 :: x134 :: x135 :: x136 :: x137 :: x138 :: x139 :: x140 :: x141 :: x142 :: x143 :: x144 :: x145 :: x146 :: x147 :: x148 :: x149 :: x150 :: x151 :: x152 :: x153 :: x154 :: x155 :: x156 :: x157 :: x158 :: x159 :: x160 :: x161 :: x162 :: x163 :: x164 :: x165 :: x166 :: x167 :: x168 :: x169 :: x170 :: x171 :: x172 :: x173 :: x174 :: x175 :: x176 :: x177 :: x178 :: x179 :: x180 :: x181 :: x182 :: x183 :: x184 :: x185 :: x186 :: x187 :: x188 :: x189 :: x190 :: x191 :: x192 :: x193 :: x194 :: x195 :: x196 :: x197 :: x198 :: x199 :: x200 :: x201 :: x202 :: x203 :: x204 :: x205 :: x206 :: x207 :: x208 :: x209 :: x210 :: x211 :: x212 :: x213 :: x214 :: x215 :: x216 :: x217 :: x218 :: x219 :: x220 :: x221 :: x222 :: x223 :: x224 :: x225 :: x226 :: x227 :: x228 :: x229 :: x230 :: x231 :: x232 :: x233 :: x234 :: x235 :: x236 :: x237 :: x238 :: x239 :: x240 :: x241 :: x242 :: x243 :: x244 :: x245 :: x246 :: x247 :: x248 :: x249 :: x250 :: x251 :: x252 :: x253 :: x254 :: x255 :: x256 :: x257 :: x258 :: x259 :: x260 :: x261 :: x262 :: x263 :: x264 :: x265 :: x266 :: x267 :: x268 :: x269 :: x270 :: x271 :: x272 :: x273 :: x274 :: x275 :: x276 :: x277 :: x278 :: x279 :: x280 :: x281 :: x282 :: x283 :: x284 :: x285 :: x286 :: x287 :: x288 :: x289 :: x290 :: x291 :: x292 :: x293 :: x294 :: x295 :: x296 :: x297 :: x298 :: x299 :: x300 :: x301 :: x302 :: x303 :: x304 :: x305 :: x306 :: x307 :: x308 :: x309 :: x310 :: x311 :: x312 :: x313 :: x314 :: []), ds⟩ wr := by
  have hlit := Option.some.inj hcode.symm
  subst hlit
  have hsl : Hid (S.data.toList.length = S.size) := by show _ = _; simp
  have hkS : k ≤ S.size := by omega
  have hki : (k : Int) < S.size := by omega
  obtain ⟨c, hc⟩ : ∃ c, S[k] = c := ⟨_, rfl⟩
  have hg := at_get hlt
  rw [hc] at hg
  obtain ⟨J, hJ⟩ : ∃ J, k + 1 = J := ⟨_, rfl⟩
  have hJi : (k : Int) + 1 = J := by omega
  have hJk : (J : Int) - 1 = k := by omega
  have hJS : J ≤ S.size := by omega
  have hJl : J ≤ S.data.toList.length := by rw [hsl.out]; exact hJS
  rw [show stB .ahead = ⟨#[97, 104, 101, 97, 100]⟩ from rfl]
  by_cases h47 : c = 47
  · have HS : Hid (runR S.data.toList ⟨.slash, nm, ls, b, J⟩ = Z) := by
      show _ = _
      rw [← HR.out, run_step (s := ⟨.ahead, nm, ls, b, k⟩) hg (by simp)]
      congr 1
      unfold stepC
      simp only []
      rw [if_pos h47, hJ]
    have t47 := byte_is (z := 47) h47 rfl
    have n47 := byte_is' (z := 47) h47 rfl
    clear hg h47
    go_wp2_with fail
    refine hN _ _ _ _ _ _ _ _ _ _ _ _ _ _ _ _ _ _ _ _ _ _ _ _ _ _ _ _ _ _ _ _ _ _ _ _ _ _ _ _ _ _ _ _ _ _ _ _ _ _ _ _ _ _ _ _ _ _ _ _ _ _ _ _ _ _ _ _ _ _ _ _ _ _ _ _ _ _ _ _ _ _ _ _ _ _ _ _ _ _ _ _ _ _ _ _ _ _ _ _ _ _ _ _ _ _ _ _ _ _ _ _ _ _ _ _ _ _ _ _ _ _ _ _ _ _ _ _ _ _ _ _ _ _ _ _ _ _ _ _ _ _ _ _ _ _ _ _ _ _ _ _ _ _ _ _ _ _ _ _ _ _ _ _ _ _ _ _ _ _ _ _ _ _ _ _ _ _ _ _ _ _ _ _ _ _ _ _ _ _ _ _ _ _ _ _ (.slash) (nm) (ls) (b) (J) (oa) (L) (oc) _ (by simp) HS.out (HW.out.more (by omega) (by omega) (by simp [needs])) (HM.out) ?_
    simp only [rank]
    omega
  · by_cases h62 : c = 62
    · have HS : Hid (runR S.data.toList ⟨.done, nm, ls, b, J⟩ = Z) := by
        show _ = _
        rw [← HR.out, run_step (s := ⟨.ahead, nm, ls, b, k⟩) hg (by simp)]
        congr 1
        unfold stepC
        simp only []
        rw [if_neg h47, if_pos h62, hJ]
      have t47 := byte_not (z := 47) h47 rfl
      have n47 := byte_not' (z := 47) h47 rfl
      have t62 := byte_is (z := 62) h62 rfl
      have n62 := byte_is' (z := 62) h62 rfl
      clear hg h47 h62
      go_wp2_with fail
      refine ⟨rfl, hE _ _ _ _ _ _ _ _ _ _ _ _ _ _ _ _ _ _ _ _ _ _ _ _ _ _ _ _ _ _ _ _ _ _ _ _ _ _ _ _ _ _ _ _ _ _ _ _ _ _ _ _ _ _ _ _ _ _ _ _ _ _ _ _ _ _ _ _ _ _ _ _ _ _ _ _ _ _ _ _ _ _ _ _ _ _ _ _ _ _ _ _ _ _ _ _ _ _ _ _ _ _ _ _ _ _ _ _ _ _ _ _ _ _ _ _ _ _ _ _ _ _ _ _ _ _ _ _ _ _ _ _ _ _ _ _ _ _ _ _ _ _ _ _ _ _ _ _ _ _ _ _ _ _ _ _ _ _ _ _ _ _ _ _ _ _ _ _ _ _ _ _ _ _ _ _ _ _ _ _ _ _ _ _ _ _ _ _ _ _ _ _ _ _ _ _ ⟨.done, nm, ls, b, J⟩ oa L oc _ (by rw [← HS.out, run_done rfl]) (HW.out.more (by omega) (by omega) (by simp [needs])) HM.out⟩
    · by_cases hb : blB c = true
      · have HS : Hid (runR S.data.toList ⟨.ahead, nm, ls, b, J⟩ = Z) := by
          show _ = _
          rw [← HR.out, run_step (s := ⟨.ahead, nm, ls, b, k⟩) hg (by simp)]
          congr 1
          unfold stepC
          simp only []
          rw [if_neg h47, if_neg h62, if_pos hb, hJ]
        have t47 := byte_not (z := 47) h47 rfl
        have n47 := byte_not' (z := 47) h47 rfl
        have t62 := byte_not (z := 62) h62 rfl
        have n62 := byte_not' (z := 62) h62 rfl
        have HBL := Lib.hid (fun W => rblank_any (c.toNat : Int) W)
        rw [show blI (c.toNat : Int) = true from hb] at HBL
        clear hg h47 h62 hb
        go_wp2_with fail
        refine (HBL.out _).mono ?_
        rintro e w' ⟨rfl, rfl⟩
        go_wp2_with fail
        refine hN _ _ _ _ _ _ _ _ _ _ _ _ _ _ _ _ _ _ _ _ _ _ _ _ _ _ _ _ _ _ _ _ _ _ _ _ _ _ _ _ _ _ _ _ _ _ _ _ _ _ _ _ _ _ _ _ _ _ _ _ _ _ _ _ _ _ _ _ _ _ _ _ _ _ _ _ _ _ _ _ _ _ _ _ _ _ _ _ _ _ _ _ _ _ _ _ _ _ _ _ _ _ _ _ _ _ _ _ _ _ _ _ _ _ _ _ _ _ _ _ _ _ _ _ _ _ _ _ _ _ _ _ _ _ _ _ _ _ _ _ _ _ _ _ _ _ _ _ _ _ _ _ _ _ _ _ _ _ _ _ _ _ _ _ _ _ _ _ _ _ _ _ _ _ _ _ _ _ _ _ _ _ _ _ _ _ _ _ _ _ _ _ _ _ _ _ (.ahead) (nm) (ls) (b) (J) (oa) (L) (oc) _ (by simp) HS.out (HW.out.more (by omega) (by omega) (by simp [needs])) (HM.out) ?_
        simp only [rank]
        omega
      · have HS : Hid (runR S.data.toList ⟨.name, nm, (ls ++ [(cleanB c, [])]), b, J⟩ = Z) := by
          show _ = _
          rw [← HR.out, run_step (s := ⟨.ahead, nm, ls, b, k⟩) hg (by simp)]
          congr 1
          unfold stepC
          simp only []
          rw [if_neg h47, if_neg h62, if_neg hb, hJ]
        have t47 := byte_not (z := 47) h47 rfl
        have n47 := byte_not' (z := 47) h47 rfl
        have t62 := byte_not (z := 62) h62 rfl
        have n62 := byte_not' (z := 62) h62 rfl
        have HBL := Lib.hid (fun W => rblank_any (c.toNat : Int) W)
        rw [show blI (c.toNat : Int) = false by simpa [blB] using hb] at HBL
        have HLOW := Lib.hid (fun W => rlow_any c W)
        obtain ⟨x, hx⟩ : ∃ X : ByteArray, (⟨(cleanB c).toArray⟩ : ByteArray) = X := ⟨_, rfl⟩
        have HX := Lib.hid hx
        rw [hx] at HLOW
        have HWN : Hid (Wf S.data.toList ⟨.name, nm, ls ++ [(cleanB c, [])], b, J⟩) := by
          have := HW.out.add (by omega) c
          rw [hJ] at this
          exact this
        have HJ := Lib.hid hJ
        clear hg h47 h62 hb
        clear hx hJ
        go_wp2_with fail
        refine (HBL.out _).mono ?_
        rintro e w' ⟨rfl, rfl⟩
        go_wp2_with fail
        refine (HLOW.out _).mono ?_
        rintro e w1 ⟨rfl, b1⟩
        have hm := HM.out.below' b1
        have HM1 := Lib.hid hm
        have hown := hm.own
        have hsz := hm.size
        have hLk : L ≤ 2000 := by have h1 := HW.out.l; have h2 := hm.len; simp only [] at h1; omega
        obtain ⟨i0, hi0, hz0', hz1', hz2'⟩ := info_parts infoAttr
        have N2 : Hid (∀ u ∈ ([.string x, .string ⟨#[]⟩] : List Value), u.oneCell' = true) := by
          intro u hu
          simp at hu
          rcases hu with rfl | rfl <;> rfl
        have HOBK : Hid (∀ j, (Value.slice oa L oc).ownBlock = some j → w.heap.size ≤ j) := fun j hj => (HM1.out.own.lt j hj).1
        clear b1 hm
        go_wp2_with (at_builtin; refine wpList_append_own _ rfl _ _ 23 rfl w.heap.size 32 i0 _ 2 32 Tryd.underlying23 hi0 hz0' hz1' hz2' rfl (by decide) _ _ _ rfl (hown.alloc _) ⟨w1.heap.size, 0, none⟩ 1 1 [.string x, .string ⟨#[]⟩] rfl rfl (news2 w1 _ _ _) N2.out (by unfold maxLen; omega) (by omega) (by simp; omega) ?_; intro v' w4 hown4 hg4 hnil4; clear hnil4; obtain ⟨o4, p4, hv4'⟩ := owns_shape hown4; subst hv4')
        refine hN _ _ _ _ _ _ _ _ _ _ _ _ _ _ _ _ _ _ _ _ _ _ _ _ _ _ _ _ _ _ _ _ _ _ _ _ _ _ _ _ _ _ _ _ _ _ _ _ _ _ _ _ _ _ _ _ _ _ _ _ _ _ _ _ _ _ _ _ _ _ _ _ _ _ _ _ _ _ _ _ _ _ _ _ _ _ _ _ _ _ _ _ _ _ _ _ _ _ _ _ _ _ _ _ _ _ _ _ _ _ _ _ _ _ _ _ _ _ _ _ _ _ _ _ _ _ _ _ _ _ _ _ _ _ _ _ _ _ _ _ _ _ _ _ _ _ _ _ _ _ _ _ _ _ _ _ _ _ _ _ _ _ _ _ _ _ _ _ _ _ _ _ _ _ _ _ _ _ _ _ _ _ _ _ _ _ _ _ _ _ _ _ _ _ _ _ (.name) (nm) (ls ++ [(cleanB c, [])]) (b) (J) (o4) (L + 1) (p4) _ (by simp) HS.out (HWN.out) ?_ ?_
        · have hpl := (Array.getElem?_eq_some_iff.1 HM1.out.tok).1
          refine ⟨(hg4.block p (by simp; omega) (fun e => by have := HOBK.out p e.symm; omega)).trans ((Below.heap_alloc w1 _ _ hpl).trans HM1.out.tok), ?_, by rw [List.length_append, HM1.out.len]; rfl, by have := hg4.size; simp at this; omega, (HM1.out.below.alloc (by omega) _).grown hg4 (by simp; omega) (fun j hj => by have := HOBK.out j hj; omega)⟩
          rw [attC_snoc, HX.out]
          exact hown4
        · have := HJ.out
          simp only [rank]
          omega

set_option maxHeartbeats 25600000 in
set_option maxRecDepth 100000 in
theorem round_name (code : Code) (hcode : bodyOf 15 Tryd.f13 = some code) (N E : Act → World → Prop) {x1 x2 x3 x4 x5 x6 x7 x9 x13 x14 x15 x16 x17 x18 x19 x20 x21 x22 x23 x24 x25 x26 x27 x28 x29 x30 x31 x32 x33 x34 x35 x36 x37 x38 x39 x40 x41 x42 x43 x44 x45 x46 x47 x48 x49 x50 x51 x52 x53 x54 x55 x56 x57 x58 x59 x60 x61 x62 x63 x64 x65 x66 x67 x68 x69 x70 x71 x72 x73 x74 x75 x76 x77 x78 x79 x80 x81 x82 x83 x84 x85 x86 x87 x88 x89 x90 x91 x92 x93 x94 x95 x96 x97 x98 x99 x100 x101 x102 x103 x104 x105 x106 x107 x108 x109 x110 x111 x112 x113 x114 x115 x116 x117 x118 x119 x120 x121 x122 x123 x124 x125 x126 x127 x128 x129 x130 x131 x132 x133 x134 x135 x136 x137 x138 x139 x140 x141 x142 x143 x144 x145 x146 x147 x148 x149 x150 x151 x152 x153 x154 x155 x156 x157 x158 x159 x160 x161 x162 x163 x164 x165 x166 x167 x168 x169 x170 x171 x172 x173 x174 x175 x176 x177 x178 x179 x180 x181 x182 x183 x184 x185 x186 x187 x188 x189 x190 x191 x192 x193 x194 x195 x196 x197 x198 x199 x200 x201 x202 x203 x204 x205 x206 x207 x208 x209 x210 x211 x212 x213 x214 x215 x216 x217 x218 x219 x220 x221 x222 x223 x224 x225 x226 x227 x228 x229 x230 x231 x232 x233 x234 x235 x236 x237 x238 x239 x240 x241 x242 x243 x244 x245 x246 x247 x248 x249 x250 x251 x252 x253 x254 x255 x256 x257 x258 x259 x260 x261 x262 x263 x264 x265 x266 x267 x268 x269 x270 x271 x272 x273 x274 x275 x276 x277 x278 x279 x280 x281 x282 x283 x284 x285 x286 x287 x288 x289 x290 x291 x292 x293 x294 x295 x296 x297 x298 x299 x300 x301 x302 x303 x304 x305 x306 x307 x308 x309 x310 x311 x312 x313 x314 : Value} {ds : List Deferred} {wr : World} (S : ByteArray) (p k L oc : Nat) (oa : Option Addr) (nm : List UInt8) (ls : List At) (b : Bool) (kind from' : Int) (Z : RS) (w : World)
    (hs : S.size ≤ 2000) (hlt : k < S.size) (hpB : p < w.heap.size) (HR : Hid (runR S.data.toList ⟨.name, nm, ls, b, k⟩ = Z)) (HW : Hid (Wf S.data.toList ⟨.name, nm, ls, b, k⟩)) (HM : Hid (RdAt w.heap.size p kind from' w nm b ls oa L oc wr))
    (hN : ∀ (u13 u14 u15 u16 u17 u68 u69 u70 u71 u72 u73 u74 u75 u76 u77 u78 u79 u80 u81 u82 u83 u84 u85 u86 u87 u88 u89 u90 u91 u92 u93 u94 u95 u96 u97 u98 u99 u100 u101 u102 u103 u104 u105 u106 u107 u108 u109 u110 u111 u112 u113 u114 u115 u116 u117 u118 u119 u120 u121 u122 u123 u124 u125 u126 u127 u128 u129 u130 u131 u132 u133 u134 u135 u136 u137 u138 u139 u140 u141 u142 u143 u144 u145 u146 u147 u148 u149 u150 u151 u152 u153 u154 u155 u156 u157 u158 u159 u160 u161 u162 u163 u164 u165 u166 u167 u168 u169 u170 u171 u172 u173 u174 u175 u176 u177 u178 u179 u180 u181 u182 u183 u184 u185 u186 u187 u188 u189 u190 u191 u192 u193 u194 u195 u196 u197 u198 u199 u200 u201 u202 u203 u204 u205 u206 u207 u208 u209 u210 u211 u212 u213 u214 u215 u216 u217 u218 u219 u220 u221 u222 u223 u224 u225 u226 u227 u228 u229 u230 u231 u232 u233 u234 u235 u236 u237 u238 u239 u240 u241 u242 u243 u244 u245 u246 u247 u248 u249 u250 u251 u252 u253 u254 u255 u256 u257 u258 : Value) (s' : St) (nm' : List UInt8) (ls' : List At) (b' : Bool) (k' : Nat) (oa' : Option Addr) (L' oc' : Nat) (w' : World), s' ≠ .done → runR S.data.toList ⟨s', nm', ls', b', k'⟩ = Z → Wf S.data.toList ⟨s', nm', ls', b', k'⟩ → RdAt w.heap.size p kind from' w nm' b' ls' oa' L' oc' w' → 2 * (S.size - k') + rank s' < 2 * (S.size - k) + rank .name → N ⟨List.toArray (.string S :: x1 :: x2 :: x3 :: x4 :: x5 :: x6 :: x7 :: .int .i64 (k' : Int) :: x9 :: .pointer (some ⟨p, 0, none⟩) :: .slice oa' L' oc' :: .string (stB s') :: u13 :: u14 :: u15 :: u16 :: u17 :: x18 :: x19 :: x20 :: x21 :: x22 :: x23 :: x24 :: x25 :: x26 :: x27 :: x28 :: x29 :: x30 :: x31 :: x32 :: x33 :: x34 :: x35 :: x36 :: x37 :: x38 :: x39 :: x40 :: x41 :: x42 :: x43 :: x44 :: x45 :: x46 :: x47 :: x48 :: x49 :: x50 :: x51 :: x52 :: x53 :: x54 :: x55 :: x56 :: x57 :: x58 :: x59 :: x60 :: x61 :: x62 :: x63 :: x64 :: x65 :: x66 :: x67 :: u68 :: u69 :: u70 :: u71 :: u72 :: u73 :: u74 :: u75 :: u76 :: u77 :: u78 :: u79 :: u80 :: u81 :: u82 :: u83 :: u84 :: u85 :: u86 :: u87 :: u88 :: u89 :: u90 :: u91 :: u92 :: u93 :: u94 :: u95 :: u96 :: u97 :: u98 :: u99 :: u100 :: u101 :: u102 :: u103 :: u104 :: u105 :: u106 :: u107 :: u108 :: u109 :: u110 :: u111 :: u112 :: u113 :: u114 :: u115 :: u116 :: u117 :: u118 :: u119 :: u120 :: u121 :: u122 :: u123 :: u124 :: u125 :: u126 :: u127 :: u128 :: u129 :: u130 :: u131 :: u132 :: u133 :: u134 :: u135 :: u136 :: u137 :: u138 :: u139 :: u140 :: u141 :: u142 :: u143 :: u144 :: u145 :: u146 :: u147 :: u148 :: u149 :: u150 :: u151 :: u152 :: u153 :: u154 :: u155 :: u156 :: u157 :: u158 :: u159 :: u160 :: u161 :: u162 :: u163 :: u164 :: u165 :: u166 :: u167 :: u168 :: u169 :: u170 :: u171 :: u172 :: u173 :: u174 :: u175 :: u176 :: u177 :: u178 :: u179 :: u180 :: u181 :: u182 :: u183 :: u184 :: u185 :: u186 :: u187 :: u188 :: u189 :: u190 :: u191 :: u192 :: u193 :: u194 :: u195 :: u196 :: u197 :: u198 :: u199 :: u200 :: u201 :: u202 :: u203 :: u204 :: u205 :: u206 :: u207 :: u208 :: u209 :: u210 :: u211 :: u212 :: u213 :: u214 :: u215 :: u216 :: u217 :: u218 :: u219 :: u220 :: u221 :: u222 :: u223 :: u224 :: u225 :: u226 :: u227 :: u228 :: u229 :: u230 :: u231 :: u232 :: u233 :: u234 :: u235 :: u236 :: u237 :: u238 :: u239 :: u240 :: u241 :: u242 :: u243 :: u244 :: u245 :: u246 :: u247 :: u248 :: u249 :: u250 :: u251 :: u252 :: u253 :: u254 :: u255 :: u256 :: u257 :: u258 :: x259 :: x260 :: x261 :: x262 :: x263 :: x264 :: x265 :: x266 :: x267 :: x268 :: x269 :: x270 :: x271 :: x272 :: x273 :: x274 :: x275 :: x276 :: x277 :: x278 :: x279 :: x280 :: x281 :: x282 :: x283 :: x284 :: x285 :: x286 :: x287 :: x288 :: x289 :: x290 :: x291 :: x292 :: x293 :: x294 :: x295 :: x296 :: x297 :: x298 :: x299 :: x300 :: x301 :: x302 :: x303 :: x304 :: x305 :: x306 :: x307 :: x308 :: x309 :: x310 :: x311 :: x312 :: x313 :: x314 :: []), ds⟩ w')
    (hE : ∀ (u13 u14 u15 u16 u17 u68 u69 u70 u71 u72 u73 u74 u75 u76 u77 u78 u79 u80 u81 u82 u83 u84 u85 u86 u87 u88 u89 u90 u91 u92 u93 u94 u95 u96 u97 u98 u99 u100 u101 u102 u103 u104 u105 u106 u107 u108 u109 u110 u111 u112 u113 u114 u115 u116 u117 u118 u119 u120 u121 u122 u123 u124 u125 u126 u127 u128 u129 u130 u131 u132 u133 u134 u135 u136 u137 u138 u139 u140 u141 u142 u143 u144 u145 u146 u147 u148 u149 u150 u151 u152 u153 u154 u155 u156 u157 u158 u159 u160 u161 u162 u163 u164 u165 u166 u167 u168 u169 u170 u171 u172 u173 u174 u175 u176 u177 u178 u179 u180 u181 u182 u183 u184 u185 u186 u187 u188 u189 u190 u191 u192 u193 u194 u195 u196 u197 u198 u199 u200 u201 u202 u203 u204 u205 u206 u207 u208 u209 u210 u211 u212 u213 u214 u215 u216 u217 u218 u219 u220 u221 u222 u223 u224 u225 u226 u227 u228 u229 u230 u231 u232 u233 u234 u235 u236 u237 u238 u239 u240 u241 u242 u243 u244 u245 u246 u247 u248 u249 u250 u251 u252 u253 u254 u255 u256 u257 u258 : Value) (z : RS) (oa' : Option Addr) (L' oc' : Nat) (w' : World), z = Z → Wf S.data.toList z → RdAt w.heap.size p kind from' w z.name z.self z.l oa' L' oc' w' → E ⟨List.toArray (.string S :: x1 :: x2 :: x3 :: x4 :: x5 :: x6 :: x7 :: .int .i64 (z.i : Int) :: x9 :: .pointer (some ⟨p, 0, none⟩) :: .slice oa' L' oc' :: .string (stB z.st) :: u13 :: u14 :: u15 :: u16 :: u17 :: x18 :: x19 :: x20 :: x21 :: x22 :: x23 :: x24 :: x25 :: x26 :: x27 :: x28 :: x29 :: x30 :: x31 :: x32 :: x33 :: x34 :: x35 :: x36 :: x37 :: x38 :: x39 :: x40 :: x41 :: x42 :: x43 :: x44 :: x45 :: x46 :: x47 :: x48 :: x49 :: x50 :: x51 :: x52 :: x53 :: x54 :: x55 :: x56 :: x57 :: x58 :: x59 :: x60 :: x61 :: x62 :: x63 :: x64 :: x65 :: x66 :: x67 :: u68 :: u69 :: u70 :: u71 :: u72 :: u73 :: u74 :: u75 :: u76 :: u77 :: u78 :: u79 :: u80 :: u81 :: u82 :: u83 :: u84 :: u85 :: u86 :: u87 :: u88 :: u89 :: u90 :: u91 :: u92 :: u93 :: u94 :: u95 :: u96 :: u97 :: u98 :: u99 :: u100 :: u101 :: u102 :: u103 :: u104 :: u105 :: u106 :: u107 :: u108 :: u109 :: u110 :: u111 :: u112 :: u113 :: u114 :: u115 :: u116 :: u117 :: u118 :: u119 :: u120 :: u121 :: u122 :: u123 :: u124 :: u125 :: u126 :: u127 :: u128 :: u129 :: u130 :: u131 :: u132 :: u133 :: u134 :: u135 :: u136 :: u137 :: u138 :: u139 :: u140 :: u141 :: u142 :: u143 :: u144 :: u145 :: u146 :: u147 :: u148 :: u149 :: u150 :: u151 :: u152 :: u153 :: u154 :: u155 :: u156 :: u157 :: u158 :: u159 :: u160 :: u161 :: u162 :: u163 :: u164 :: u165 :: u166 :: u167 :: u168 :: u169 :: u170 :: u171 :: u172 :: u173 :: u174 :: u175 :: u176 :: u177 :: u178 :: u179 :: u180 :: u181 :: u182 :: u183 :: u184 :: u185 :: u186 :: u187 :: u188 :: u189 :: u190 :: u191 :: u192 :: u193 :: u194 :: u195 :: u196 :: u197 :: u198 :: u199 :: u200 :: u201 :: u202 :: u203 :: u204 :: u205 :: u206 :: u207 :: u208 :: u209 :: u210 :: u211 :: u212 :: u213 :: u214 :: u215 :: u216 :: u217 :: u218 :: u219 :: u220 :: u221 :: u222 :: u223 :: u224 :: u225 :: u226 :: u227 :: u228 :: u229 :: u230 :: u231 :: u232 :: u233 :: u234 :: u235 :: u236 :: u237 :: u238 :: u239 :: u240 :: u241 :: u242 :: u243 :: u244 :: u245 :: u246 :: u247 :: u248 :: u249 :: u250 :: u251 :: u252 :: u253 :: u254 :: u255 :: u256 :: u257 :: u258 :: x259 :: x260 :: x261 :: x262 :: x263 :: x264 :: x265 :: x266 :: x267 :: x268 :: x269 :: x270 :: x271 :: x272 :: x273 :: x274 :: x275 :: x276 :: x277 :: x278 :: x279 :: x280 :: x281 :: x282 :: x283 :: x284 :: x285 :: x286 :: x287 :: x288 :: x289 :: x290 :: x291 :: x292 :: x293 :: x294 :: x295 :: x296 :: x297 :: x298 :: x299 :: x300 :: x301 :: x302 :: x303 :: x304 :: x305 :: x306 :: x307 :: x308 :: x309 :: x310 :: x311 :: x312 :: x313 :: x314 :: []), ds⟩ w') :
    code.wp Tryd.prog (RoundQ N E) ⟨List.toArray (.string S :: x1 :: x2 :: x3 :: x4 :: x5 :: x6 :: x7 :: .int .i64 (k : Int) :: x9 :: .pointer (some ⟨p, 0, none⟩) :: .slice oa L oc :: .string (stB .name) :: x13 :: x14 :: x15 :: x16 :: x17 :: x18 :: x19 :: x20 :: x21 :: x22 :: x23 :: x24 :: x25 :: x26 :: x27 :: x28 :: x29 :: x30 :: x31 :: x32 :: x33 :: x34 :: x35 :: x36 :: x37 :: x38 :: x39 :: x40 :: x41 :: x42 :: x43 :: x44 :: x45 :: x46 :: x47 :: x48 :: x49 :: x50 :: x51 :: x52 :: x53 :: x54 :: x55 :: x56 :: x57 :: x58 :: x59 :: x60 :: x61 :: x62 :: x63 :: x64 :: x65 :: x66 :: x67 :: x68 :: x69 :: x70 :: x71 :: x72 :: x73 :: x74 :: x75 :: x76 :: x77 :: x78 :: x79 :: x80 :: x81 :: x82 :: x83 :: x84 :: x85 :: x86 :: x87 :: x88 :: x89 :: x90 :: x91 :: x92 :: x93 :: x94 :: x95 :: x96 :: x97 :: x98 :: x99 :: x100 :: x101 :: x102 :: x103 :: x104 :: x105 :: x106 :: x107 :: x108 :: x109 :: x110 :: x111 :: x112 :: x113 :: x114 :: x115 :: x116 :: x117 :: x118 :: x119 :: x120 :: x121 :: x122 :: x123 :: x124 :: x125 :: x126 :: x127 :: x128 :: x129 :: x130 :: x131 :: x132 :: x133 :: x134 :: x135 :: x136 :: x137 :: x138 :: x139 :: x140 :: x141 :: x142 :: x143 :: x144 :: x145 :: x146 :: x147 :: x148 :: x149 :: x150 :: x151 :: x152 :: x153 :: x154 :: x155 :: x156 :: x157 :: x158 :: x159 :: x160 :: x161 :: x162 :: x163 :: x164 :: x165 :: x166 :: x167 :: x168 :: x169 :: x170 :: x171 :: x172 :: x173 :: x174 :: x175 :: x176 :: x177 :: x178 :: x179 :: x180 :: x181 :: x182 :: x183 :: x184 :: x185 :: x186 :: x187 :: x188 :: x189 :: x190 :: x191 :: x192 :: x193 :: x194 :: x195 :: x196 :: x197 :: x198 :: x199 :: x200 :: x201 :: x202 :: x203 :: x204 :: x205 :: x206 :: x207 :: x208 :: x209 :: x210 :: x211 :: x212 :: x213 :: x214 :: x215 :: x216 :: x217 :: x218 :: x219 :: x220 :: x221 :: x222 :: x223 :: x224 :: x225 :: x226 :: x227 :: x228 :: x229 :: x230 :: x231 :: x232 :: x233 :: x234 :: x235 :: x236 :: x237 :: x238 :: x239 :: x240 :: x241 :: x242 :: x243 :: x244 :: x245 :: x246 :: x247 :: x248 :: x249 :: x250 :: x251 :: x252 :: x253 :: x254 :: x255 :: x256 :: x257 :: x258 :: x259 :: x260 :: x261 :: x262 :: x263 :: x264 :: x265 :: x266 :: x267 :: x268 :: x269 :: x270 :: x271 :: x272 :: x273 :: x274 :: x275 :: x276 :: x277 :: x278 :: x279 :: x280 :: x281 :: x282 :: x283 :: x284 :: x285 :: x286 :: x287 :: x288 :: x289 :: x290 :: x291 :: x292 :: x293 :: x294 :: x295 :: x296 :: x297 :: x298 :: x299 :: x300 :: x301 :: x302 :: x303 :: x304 :: x305 :: x306 :: x307 :: x308 :: x309 :: x310 :: x311 :: x312 :: x313 :: x314 :: []), ds⟩ wr := by
  have hlit := Option.some.inj hcode.symm
  subst hlit
  have hsl : Hid (S.data.toList.length = S.size) := by show _ = _; simp
  have hkS : k ≤ S.size := by omega
  have hki : (k : Int) < S.size := by omega
  obtain ⟨c, hc⟩ : ∃ c, S[k] = c := ⟨_, rfl⟩
  have hg := at_get hlt
  rw [hc] at hg
  obtain ⟨J, hJ⟩ : ∃ J, k + 1 = J := ⟨_, rfl⟩
  have hJi : (k : Int) + 1 = J := by omega
  have hJk : (J : Int) - 1 = k := by omega
  have hJS : J ≤ S.size := by omega
  have hJl : J ≤ S.data.toList.length := by rw [hsl.out]; exact hJS
  rw [show stB .name = ⟨#[110, 97, 109, 101]⟩ from rfl]
  by_cases hb : blB c = true
  · have HS : Hid (runR S.data.toList ⟨.behind, nm, ls, b, J⟩ = Z) := by
      show _ = _
      rw [← HR.out, run_step (s := ⟨.name, nm, ls, b, k⟩) hg (by simp)]
      congr 1
      unfold stepC
      simp only []
      rw [if_pos hb, hJ]
    have HBL := Lib.hid (fun W => rblank_any (c.toNat : Int) W)
    rw [show blI (c.toNat : Int) = true from hb] at HBL
    have hnn := HW.out.ne rfl
    have HNN := Lib.hid hnn
    clear hb hg hnn
    go_wp2_with fail
    refine (HBL.out _).mono ?_
    rintro e w' ⟨rfl, rfl⟩
    go_wp2_with fail
    refine hN _ _ _ _ _ _ _ _ _ _ _ _ _ _ _ _ _ _ _ _ _ _ _ _ _ _ _ _ _ _ _ _ _ _ _ _ _ _ _ _ _ _ _ _ _ _ _ _ _ _ _ _ _ _ _ _ _ _ _ _ _ _ _ _ _ _ _ _ _ _ _ _ _ _ _ _ _ _ _ _ _ _ _ _ _ _ _ _ _ _ _ _ _ _ _ _ _ _ _ _ _ _ _ _ _ _ _ _ _ _ _ _ _ _ _ _ _ _ _ _ _ _ _ _ _ _ _ _ _ _ _ _ _ _ _ _ _ _ _ _ _ _ _ _ _ _ _ _ _ _ _ _ _ _ _ _ _ _ _ _ _ _ _ _ _ _ _ _ _ _ _ _ _ _ _ _ _ _ _ _ _ _ _ _ _ _ _ _ _ _ _ _ _ _ _ _ (.behind) (nm) (ls) (b) (J) (oa) (L) (oc) _ (by simp) HS.out (HW.out.more (by omega) (by omega) (fun _ => HNN.out)) (HM.out) ?_
    simp only [rank]
    omega
  · by_cases hs : c = 47 ∨ c = 62
    · have HS : Hid (runR S.data.toList ⟨.ahead, nm, ls, b, k⟩ = Z) := by
        show _ = _
        rw [← HR.out, run_step (s := ⟨.name, nm, ls, b, k⟩) hg (by simp)]
        congr 1
        unfold stepC
        simp only []
        rw [if_neg hb, if_pos hs]
      have HBL := Lib.hid (fun W => rblank_any (c.toNat : Int) W)
      rw [show blI (c.toNat : Int) = false by simpa [blB] using hb] at HBL
      have hor : (((c.toNat : Int) == 47) || ((c.toNat : Int) == 62)) = true := by rcases hs with h | h <;> (rw [h]; rfl)
      rcases hs with h47 | h62
      · have t47 := byte_is (z := 47) h47 rfl
        have n47 := byte_is' (z := 47) h47 rfl
        clear hb hg h47 hor
        go_wp2_with fail
        refine (HBL.out _).mono ?_
        rintro e w' ⟨rfl, rfl⟩
        go_wp2_with fail
        refine hN _ _ _ _ _ _ _ _ _ _ _ _ _ _ _ _ _ _ _ _ _ _ _ _ _ _ _ _ _ _ _ _ _ _ _ _ _ _ _ _ _ _ _ _ _ _ _ _ _ _ _ _ _ _ _ _ _ _ _ _ _ _ _ _ _ _ _ _ _ _ _ _ _ _ _ _ _ _ _ _ _ _ _ _ _ _ _ _ _ _ _ _ _ _ _ _ _ _ _ _ _ _ _ _ _ _ _ _ _ _ _ _ _ _ _ _ _ _ _ _ _ _ _ _ _ _ _ _ _ _ _ _ _ _ _ _ _ _ _ _ _ _ _ _ _ _ _ _ _ _ _ _ _ _ _ _ _ _ _ _ _ _ _ _ _ _ _ _ _ _ _ _ _ _ _ _ _ _ _ _ _ _ _ _ _ _ _ _ _ _ _ _ _ _ _ _ (.ahead) (nm) (ls) (b) (k) (oa) (L) (oc) _ (by simp) HS.out (HW.out.more (by omega) (by omega) (by simp [needs])) (HM.out) ?_
        simp only [rank]
        omega
      · have h47 : ¬ c = 47 := by rw [h62]; decide
        have t47 := byte_not (z := 47) h47 rfl
        have n47 := byte_not' (z := 47) h47 rfl
        have t62 := byte_is (z := 62) h62 rfl
        have n62 := byte_is' (z := 62) h62 rfl
        clear hb hg h47 h62 hor
        go_wp2_with fail
        refine (HBL.out _).mono ?_
        rintro e w' ⟨rfl, rfl⟩
        go_wp2_with fail
        refine hN _ _ _ _ _ _ _ _ _ _ _ _ _ _ _ _ _ _ _ _ _ _ _ _ _ _ _ _ _ _ _ _ _ _ _ _ _ _ _ _ _ _ _ _ _ _ _ _ _ _ _ _ _ _ _ _ _ _ _ _ _ _ _ _ _ _ _ _ _ _ _ _ _ _ _ _ _ _ _ _ _ _ _ _ _ _ _ _ _ _ _ _ _ _ _ _ _ _ _ _ _ _ _ _ _ _ _ _ _ _ _ _ _ _ _ _ _ _ _ _ _ _ _ _ _ _ _ _ _ _ _ _ _ _ _ _ _ _ _ _ _ _ _ _ _ _ _ _ _ _ _ _ _ _ _ _ _ _ _ _ _ _ _ _ _ _ _ _ _ _ _ _ _ _ _ _ _ _ _ _ _ _ _ _ _ _ _ _ _ _ _ _ _ _ _ _ (.ahead) (nm) (ls) (b) (k) (oa) (L) (oc) _ (by simp) HS.out (HW.out.more (by omega) (by omega) (by simp [needs])) (HM.out) ?_
        simp only [rank]
        omega
    · have h47 : ¬ c = 47 := fun h => hs (.inl h)
      have h62 : ¬ c = 62 := fun h => hs (.inr h)
      by_cases h61 : c = 61
      · have HS : Hid (runR S.data.toList ⟨.value, nm, ls, b, J⟩ = Z) := by
          show _ = _
          rw [← HR.out, run_step (s := ⟨.name, nm, ls, b, k⟩) hg (by simp)]
          congr 1
          unfold stepC
          simp only []
          rw [if_neg hb, if_neg hs, if_pos h61, hJ]
        have HBL := Lib.hid (fun W => rblank_any (c.toNat : Int) W)
        rw [show blI (c.toNat : Int) = false by simpa [blB] using hb] at HBL
        have t47 := byte_not (z := 47) h47 rfl
        have n47 := byte_not' (z := 47) h47 rfl
        have t62 := byte_not (z := 62) h62 rfl
        have n62 := byte_not' (z := 62) h62 rfl
        have t61 := byte_is (z := 61) h61 rfl
        have n61 := byte_is' (z := 61) h61 rfl
        have hnn := HW.out.ne rfl
        have HNN := Lib.hid hnn
        clear hb hg h47 h62 h61 hs hnn
        go_wp2_with fail
        refine (HBL.out _).mono ?_
        rintro e w' ⟨rfl, rfl⟩
        go_wp2_with fail
        refine hN _ _ _ _ _ _ _ _ _ _ _ _ _ _ _ _ _ _ _ _ _ _ _ _ _ _ _ _ _ _ _ _ _ _ _ _ _ _ _ _ _ _ _ _ _ _ _ _ _ _ _ _ _ _ _ _ _ _ _ _ _ _ _ _ _ _ _ _ _ _ _ _ _ _ _ _ _ _ _ _ _ _ _ _ _ _ _ _ _ _ _ _ _ _ _ _ _ _ _ _ _ _ _ _ _ _ _ _ _ _ _ _ _ _ _ _ _ _ _ _ _ _ _ _ _ _ _ _ _ _ _ _ _ _ _ _ _ _ _ _ _ _ _ _ _ _ _ _ _ _ _ _ _ _ _ _ _ _ _ _ _ _ _ _ _ _ _ _ _ _ _ _ _ _ _ _ _ _ _ _ _ _ _ _ _ _ _ _ _ _ _ _ _ _ _ _ (.value) (nm) (ls) (b) (J) (oa) (L) (oc) _ (by simp) HS.out (HW.out.more (by omega) (by omega) (fun _ => HNN.out)) (HM.out) ?_
        simp only [rank]
        omega
      · have HS : Hid (runR S.data.toList ⟨.name, nm, (addN ls (cleanB c)), b, J⟩ = Z) := by
          show _ = _
          rw [← HR.out, run_step (s := ⟨.name, nm, ls, b, k⟩) hg (by simp)]
          congr 1
          unfold stepC
          simp only []
          rw [if_neg hb, if_neg hs, if_neg h61, hJ]
        have HBL := Lib.hid (fun W => rblank_any (c.toNat : Int) W)
        rw [show blI (c.toNat : Int) = false by simpa [blB] using hb] at HBL
        have t47 := byte_not (z := 47) h47 rfl
        have n47 := byte_not' (z := 47) h47 rfl
        have t62 := byte_not (z := 62) h62 rfl
        have n62 := byte_not' (z := 62) h62 rfl
        have t61 := byte_not (z := 61) h61 rfl
        have n61 := byte_not' (z := 61) h61 rfl
        have HWN : Hid (Wf S.data.toList ⟨.name, nm, addN ls (cleanB c), b, J⟩) := by
          have := HW.out.addN (by omega) (HW.out.ne rfl) c
          rw [hJ] at this
          exact this
        have hne : ls ≠ [] := HW.out.ne rfl
        obtain ⟨pre, ⟨an, av⟩, hls⟩ := split_last hne
        obtain ⟨P, hP⟩ : ∃ P, pre.length = P := ⟨_, rfl⟩
        have hLP : L = P + 1 := by rw [← HM.out.len, hls, List.length_append, hP]; rfl
        have HLS := Lib.hid hls
        have HPP := Lib.hid hP
        obtain ⟨g, hoa, hgB, hgl, ya, yv, yf⟩ := last_at (p := pre) (an := an) (av := av) (by have := HM.out.own; rw [hls] at this; exact this) (by rw [hP]; exact hLP)
        rw [hP] at ya yv
        have hPi : (L : Int) - 1 = P := by omega
        have hPl : (P : Int) < L := by omega
        have hPL : P < L := by omega
        have hP0 : (0 : Int) ≤ (P : Int) := by omega
        have hLb : L ≤ 3000 := by have h1 := HW.out.l; have h2 := HM.out.len; simp only [] at h1; omega
        have hbnd := HW.out.at' (an, av) (by rw [hls]; simp)
        simp only [] at hbnd
        obtain ⟨anb, hanb⟩ : ∃ X : ByteArray, (⟨an.toArray⟩ : ByteArray) = X := ⟨_, rfl⟩
        obtain ⟨avb, havb⟩ : ∃ X : ByteArray, (⟨av.toArray⟩ : ByteArray) = X := ⟨_, rfl⟩
        have hans : anb.size ≤ 6000 := by rw [← hanb]; show an.toArray.size ≤ _; rw [List.size_toArray]; omega
        have havs : avb.size ≤ 8000 := by rw [← havb]; show av.toArray.size ≤ _; rw [List.size_toArray]; omega
        rw [hanb] at ya
        rw [havb] at yv
        have yfn := yf (P * 2)
        have yfv := yf (P * 2 + 1)
        have HANB := Lib.hid hanb
        have HAVB := Lib.hid havb
        have HGB := Lib.hid hgB
        have HYF := Lib.hid yf
        subst hoa
        have hgw := hgl
        clear hls hP hanb havb yf hbnd
        have HLOW := Lib.hid (fun W => rlow_any c W)
        obtain ⟨x, hx⟩ : ∃ X : ByteArray, (⟨(cleanB c).toArray⟩ : ByteArray) = X := ⟨_, rfl⟩
        have hxs : x.size ≤ 3 := by rw [← hx]; show (cleanB c).toArray.size ≤ _; rw [List.size_toArray]; exact cleanB_len c
        obtain ⟨nx, hnx⟩ : ∃ X, anb ++ x = X := ⟨_, rfl⟩
        have HNX : Hid (nx = ⟨(an ++ cleanB c).toArray⟩) := by
          show _ = _
          rw [← hnx, ← HANB.out, ← hx]
          apply ByteArray.ext
          apply Array.ext'
          simp [ByteArray.data_append]
        rw [hx] at HLOW
        have HYA := Lib.hid ya
        have HPL2 := Lib.hid hLP
        have HWL : Hid (IntKind.i64.wrap ((L : Int) - 1) = (P : Int)) := by show _ = _; rw [IntWalk.i64_in _ (by omega)]; exact hPi
        have HWP : Hid (IntKind.i64.wrap (P : Int) = (P : Int)) := by show _ = _; exact IntWalk.i64_in _ (by omega)
        clear hb hg h47 h62 h61 hs hx yv yfv hne hLP
        go_wp2_with fail
        refine (HBL.out _).mono ?_
        rintro e w' ⟨rfl, rfl⟩
        go_wp2_with fail
        have hwl := HWL.out
        have hwp := HWP.out
        go_region_with (go_at_call 31; refine (HLOW.out _).mono ?_; rintro e w1 ⟨rfl, b1⟩; have HB1 : Hid (Below wr.heap.size wr w1) := (by first | exact b1 | exact ((Below.refl wr.heap.size wr).drew).trans b1 | exact (below_drewN (Below.refl wr.heap.size wr) _).trans b1); have y1 : w1.cell? ⟨g, P * 2, none⟩ = some (.string anb) := (HB1.out.cell (p := ⟨g, P * 2, none⟩) (by exact hgw)).trans HYA.out; have f1 : w1.frozen? ⟨g, P * 2, none⟩ = false := (HB1.out.frozen (p := ⟨g, P * 2, none⟩) (by exact hgw)).trans (HYF.out _); clear b1)
        all_goals
          clear hwl hwp
          go_wp2_with fail
          refine hN _ _ _ _ _ _ _ _ _ _ _ _ _ _ _ _ _ _ _ _ _ _ _ _ _ _ _ _ _ _ _ _ _ _ _ _ _ _ _ _ _ _ _ _ _ _ _ _ _ _ _ _ _ _ _ _ _ _ _ _ _ _ _ _ _ _ _ _ _ _ _ _ _ _ _ _ _ _ _ _ _ _ _ _ _ _ _ _ _ _ _ _ _ _ _ _ _ _ _ _ _ _ _ _ _ _ _ _ _ _ _ _ _ _ _ _ _ _ _ _ _ _ _ _ _ _ _ _ _ _ _ _ _ _ _ _ _ _ _ _ _ _ _ _ _ _ _ _ _ _ _ _ _ _ _ _ _ _ _ _ _ _ _ _ _ _ _ _ _ _ _ _ _ _ _ _ _ _ _ _ _ _ _ _ _ _ _ _ _ _ _ _ _ _ _ _ (.name) (nm) (addN ls (cleanB c)) (b) (J) (some ⟨g, 0, none⟩) (L) (oc) _ (by simp) HS.out (HWN.out) ?_ ?_
          · have hm := HM.out.below' HB1.out
            have ho := owns_set (k := P * 2) hm.own rfl (.string nx)
            rw [HLS.out, HNX.out, ← HPP.out, attC_setN] at ho
            refine ⟨(Below.heap_setCell _ ⟨g, P * 2, none⟩ _ p (by show p ≠ g; have := HGB.out; omega)).trans hm.tok, ?_, by rw [HLS.out, addN_snoc, ← hm.len, HLS.out]; simp, by have := hm.size; simp [World.setCell]; exact this, Below.setCell (by first | exact hm.below | exact hm.below.drew) (by show p ≤ g; have := HGB.out; omega) _⟩
            rw [HLS.out, addN_snoc, HNX.out, ← HPP.out]
            exact ho
          · simp only [rank]
            omega

set_option maxHeartbeats 25600000 in
set_option maxRecDepth 100000 in
theorem round_behind (code : Code) (hcode : bodyOf 15 Tryd.f13 = some code) (N E : Act → World → Prop) {x1 x2 x3 x4 x5 x6 x7 x9 x13 x14 x15 x16 x17 x18 x19 x20 x21 x22 x23 x24 x25 x26 x27 x28 x29 x30 x31 x32 x33 x34 x35 x36 x37 x38 x39 x40 x41 x42 x43 x44 x45 x46 x47 x48 x49 x50 x51 x52 x53 x54 x55 x56 x57 x58 x59 x60 x61 x62 x63 x64 x65 x66 x67 x68 x69 x70 x71 x72 x73 x74 x75 x76 x77 x78 x79 x80 x81 x82 x83 x84 x85 x86 x87 x88 x89 x90 x91 x92 x93 x94 x95 x96 x97 x98 x99 x100 x101 x102 x103 x104 x105 x106 x107 x108 x109 x110 x111 x112 x113 x114 x115 x116 x117 x118 x119 x120 x121 x122 x123 x124 x125 x126 x127 x128 x129 x130 x131 x132 x133 x134 x135 x136 x137 x138 x139 x140 x141 x142 x143 x144 x145 x146 x147 x148 x149 x150 x151 x152 x153 x154 x155 x156 x157 x158 x159 x160 x161 x162 x163 x164 x165 x166 x167 x168 x169 x170 x171 x172 x173 x174 x175 x176 x177 x178 x179 x180 x181 x182 x183 x184 x185 x186 x187 x188 x189 x190 x191 x192 x193 x194 x195 x196 x197 x198 x199 x200 x201 x202 x203 x204 x205 x206 x207 x208 x209 x210 x211 x212 x213 x214 x215 x216 x217 x218 x219 x220 x221 x222 x223 x224 x225 x226 x227 x228 x229 x230 x231 x232 x233 x234 x235 x236 x237 x238 x239 x240 x241 x242 x243 x244 x245 x246 x247 x248 x249 x250 x251 x252 x253 x254 x255 x256 x257 x258 x259 x260 x261 x262 x263 x264 x265 x266 x267 x268 x269 x270 x271 x272 x273 x274 x275 x276 x277 x278 x279 x280 x281 x282 x283 x284 x285 x286 x287 x288 x289 x290 x291 x292 x293 x294 x295 x296 x297 x298 x299 x300 x301 x302 x303 x304 x305 x306 x307 x308 x309 x310 x311 x312 x313 x314 : Value} {ds : List Deferred} {wr : World} (S : ByteArray) (p k L oc : Nat) (oa : Option Addr) (nm : List UInt8) (ls : List At) (b : Bool) (kind from' : Int) (Z : RS) (w : World)
    (hs : S.size ≤ 2000) (hlt : k < S.size) (hpB : p < w.heap.size) (HR : Hid (runR S.data.toList ⟨.behind, nm, ls, b, k⟩ = Z)) (HW : Hid (Wf S.data.toList ⟨.behind, nm, ls, b, k⟩)) (HM : Hid (RdAt w.heap.size p kind from' w nm b ls oa L oc wr))
    (hN : ∀ (u13 u14 u15 u16 u17 u68 u69 u70 u71 u72 u73 u74 u75 u76 u77 u78 u79 u80 u81 u82 u83 u84 u85 u86 u87 u88 u89 u90 u91 u92 u93 u94 u95 u96 u97 u98 u99 u100 u101 u102 u103 u104 u105 u106 u107 u108 u109 u110 u111 u112 u113 u114 u115 u116 u117 u118 u119 u120 u121 u122 u123 u124 u125 u126 u127 u128 u129 u130 u131 u132 u133 u134 u135 u136 u137 u138 u139 u140 u141 u142 u143 u144 u145 u146 u147 u148 u149 u150 u151 u152 u153 u154 u155 u156 u157 u158 u159 u160 u161 u162 u163 u164 u165 u166 u167 u168 u169 u170 u171 u172 u173 u174 u175 u176 u177 u178 u179 u180 u181 u182 u183 u184 u185 u186 u187 u188 u189 u190 u191 u192 u193 u194 u195 u196 u197 u198 u199 u200 u201 u202 u203 u204 u205 u206 u207 u208 u209 u210 u211 u212 u213 u214 u215 u216 u217 u218 u219 u220 u221 u222 u223 u224 u225 u226 u227 u228 u229 u230 u231 u232 u233 u234 u235 u236 u237 u238 u239 u240 u241 u242 u243 u244 u245 u246 u247 u248 u249 u250 u251 u252 u253 u254 u255 u256 u257 u258 : Value) (s' : St) (nm' : List UInt8) (ls' : List At) (b' : Bool) (k' : Nat) (oa' : Option Addr) (L' oc' : Nat) (w' : World), s' ≠ .done → runR S.data.toList ⟨s', nm', ls', b', k'⟩ = Z → Wf S.data.toList ⟨s', nm', ls', b', k'⟩ → RdAt w.heap.size p kind from' w nm' b' ls' oa' L' oc' w' → 2 * (S.size - k') + rank s' < 2 * (S.size - k) + rank .behind → N ⟨List.toArray (.string S :: x1 :: x2 :: x3 :: x4 :: x5 :: x6 :: x7 :: .int .i64 (k' : Int) :: x9 :: .pointer (some ⟨p, 0, none⟩) :: .slice oa' L' oc' :: .string (stB s') :: u13 :: u14 :: u15 :: u16 :: u17 :: x18 :: x19 :: x20 :: x21 :: x22 :: x23 :: x24 :: x25 :: x26 :: x27 :: x28 :: x29 :: x30 :: x31 :: x32 :: x33 :: x34 :: x35 :: x36 :: x37 :: x38 :: x39 :: x40 :: x41 :: x42 :: x43 :: x44 :: x45 :: x46 :: x47 :: x48 :: x49 :: x50 :: x51 :: x52 :: x53 :: x54 :: x55 :: x56 :: x57 :: x58 :: x59 :: x60 :: x61 :: x62 :: x63 :: x64 :: x65 :: x66 :: x67 :: u68 :: u69 :: u70 :: u71 :: u72 :: u73 :: u74 :: u75 :: u76 :: u77 :: u78 :: u79 :: u80 :: u81 :: u82 :: u83 :: u84 :: u85 :: u86 :: u87 :: u88 :: u89 :: u90 :: u91 :: u92 :: u93 :: u94 :: u95 :: u96 :: u97 :: u98 :: u99 :: u100 :: u101 :: u102 :: u103 :: u104 :: u105 :: u106 :: u107 :: u108 :: u109 :: u110 :: u111 :: u112 :: u113 :: u114 :: u115 :: u116 :: u117 :: u118 :: u119 :: u120 :: u121 :: u122 :: u123 :: u124 :: u125 :: u126 :: u127 :: u128 :: u129 :: u130 :: u131 :: u132 :: u133 :: u134 :: u135 :: u136 :: u137 :: u138 :: u139 :: u140 :: u141 :: u142 :: u143 :: u144 :: u145 :: u146 :: u147 :: u148 :: u149 :: u150 :: u151 :: u152 :: u153 :: u154 :: u155 :: u156 :: u157 :: u158 :: u159 :: u160 :: u161 :: u162 :: u163 :: u164 :: u165 :: u166 :: u167 :: u168 :: u169 :: u170 :: u171 :: u172 :: u173 :: u174 :: u175 :: u176 :: u177 :: u178 :: u179 :: u180 :: u181 :: u182 :: u183 :: u184 :: u185 :: u186 :: u187 :: u188 :: u189 :: u190 :: u191 :: u192 :: u193 :: u194 :: u195 :: u196 :: u197 :: u198 :: u199 :: u200 :: u201 :: u202 :: u203 :: u204 :: u205 :: u206 :: u207 :: u208 :: u209 :: u210 :: u211 :: u212 :: u213 :: u214 :: u215 :: u216 :: u217 :: u218 :: u219 :: u220 :: u221 :: u222 :: u223 :: u224 :: u225 :: u226 :: u227 :: u228 :: u229 :: u230 :: u231 :: u232 :: u233 :: u234 :: u235 :: u236 :: u237 :: u238 :: u239 :: u240 :: u241 :: u242 :: u243 :: u244 :: u245 :: u246 :: u247 :: u248 :: u249 :: u250 :: u251 :: u252 :: u253 :: u254 :: u255 :: u256 :: u257 :: u258 :: x259 :: x260 :: x261 :: x262 :: x263 :: x264 :: x265 :: x266 :: x267 :: x268 :: x269 :: x270 :: x271 :: x272 :: x273 :: x274 :: x275 :: x276 :: x277 :: x278 :: x279 :: x280 :: x281 :: x282 :: x283 :: x284 :: x285 :: x286 :: x287 :: x288 :: x289 :: x290 :: x291 :: x292 :: x293 :: x294 :: x295 :: x296 :: x297 :: x298 :: x299 :: x300 :: x301 :: x302 :: x303 :: x304 :: x305 :: x306 :: x307 :: x308 :: x309 :: x310 :: x311 :: x312 :: x313 :: x314 :: []), ds⟩ w')
    (hE : ∀ (u13 u14 u15 u16 u17 u68 u69 u70 u71 u72 u73 u74 u75 u76 u77 u78 u79 u80 u81 u82 u83 u84 u85 u86 u87 u88 u89 u90 u91 u92 u93 u94 u95 u96 u97 u98 u99 u100 u101 u102 u103 u104 u105 u106 u107 u108 u109 u110 u111 u112 u113 u114 u115 u116 u117 u118 u119 u120 u121 u122 u123 u124 u125 u126 u127 u128 u129 u130 u131 u132 u133 u134 u135 u136 u137 u138 u139 u140 u141 u142 u143 u144 u145 u146 u147 u148 u149 u150 u151 u152 u153 u154 u155 u156 u157 u158 u159 u160 u161 u162 u163 u164 u165 u166 u167 u168 u169 u170 u171 u172 u173 u174 u175 u176 u177 u178 u179 u180 u181 u182 u183 u184 u185 u186 u187 u188 u189 u190 u191 u192 u193 u194 u195 u196 u197 u198 u199 u200 u201 u202 u203 u204 u205 u206 u207 u208 u209 u210 u211 u212 u213 u214 u215 u216 u217 u218 u219 u220 u221 u222 u223 u224 u225 u226 u227 u228 u229 u230 u231 u232 u233 u234 u235 u236 u237 u238 u239 u240 u241 u242 u243 u244 u245 u246 u247 u248 u249 u250 u251 u252 u253 u254 u255 u256 u257 u258 : Value) (z : RS) (oa' : Option Addr) (L' oc' : Nat) (w' : World), z = Z → Wf S.data.toList z → RdAt w.heap.size p kind from' w z.name z.self z.l oa' L' oc' w' → E ⟨List.toArray (.string S :: x1 :: x2 :: x3 :: x4 :: x5 :: x6 :: x7 :: .int .i64 (z.i : Int) :: x9 :: .pointer (some ⟨p, 0, none⟩) :: .slice oa' L' oc' :: .string (stB z.st) :: u13 :: u14 :: u15 :: u16 :: u17 :: x18 :: x19 :: x20 :: x21 :: x22 :: x23 :: x24 :: x25 :: x26 :: x27 :: x28 :: x29 :: x30 :: x31 :: x32 :: x33 :: x34 :: x35 :: x36 :: x37 :: x38 :: x39 :: x40 :: x41 :: x42 :: x43 :: x44 :: x45 :: x46 :: x47 :: x48 :: x49 :: x50 :: x51 :: x52 :: x53 :: x54 :: x55 :: x56 :: x57 :: x58 :: x59 :: x60 :: x61 :: x62 :: x63 :: x64 :: x65 :: x66 :: x67 :: u68 :: u69 :: u70 :: u71 :: u72 :: u73 :: u74 :: u75 :: u76 :: u77 :: u78 :: u79 :: u80 :: u81 :: u82 :: u83 :: u84 :: u85 :: u86 :: u87 :: u88 :: u89 :: u90 :: u91 :: u92 :: u93 :: u94 :: u95 :: u96 :: u97 :: u98 :: u99 :: u100 :: u101 :: u102 :: u103 :: u104 :: u105 :: u106 :: u107 :: u108 :: u109 :: u110 :: u111 :: u112 :: u113 :: u114 :: u115 :: u116 :: u117 :: u118 :: u119 :: u120 :: u121 :: u122 :: u123 :: u124 :: u125 :: u126 :: u127 :: u128 :: u129 :: u130 :: u131 :: u132 :: u133 :: u134 :: u135 :: u136 :: u137 :: u138 :: u139 :: u140 :: u141 :: u142 :: u143 :: u144 :: u145 :: u146 :: u147 :: u148 :: u149 :: u150 :: u151 :: u152 :: u153 :: u154 :: u155 :: u156 :: u157 :: u158 :: u159 :: u160 :: u161 :: u162 :: u163 :: u164 :: u165 :: u166 :: u167 :: u168 :: u169 :: u170 :: u171 :: u172 :: u173 :: u174 :: u175 :: u176 :: u177 :: u178 :: u179 :: u180 :: u181 :: u182 :: u183 :: u184 :: u185 :: u186 :: u187 :: u188 :: u189 :: u190 :: u191 :: u192 :: u193 :: u194 :: u195 :: u196 :: u197 :: u198 :: u199 :: u200 :: u201 :: u202 :: u203 :: u204 :: u205 :: u206 :: u207 :: u208 :: u209 :: u210 :: u211 :: u212 :: u213 :: u214 :: u215 :: u216 :: u217 :: u218 :: u219 :: u220 :: u221 :: u222 :: u223 :: u224 :: u225 :: u226 :: u227 :: u228 :: u229 :: u230 :: u231 :: u232 :: u233 :: u234 :: u235 :: u236 :: u237 :: u238 :: u239 :: u240 :: u241 :: u242 :: u243 :: u244 :: u245 :: u246 :: u247 :: u248 :: u249 :: u250 :: u251 :: u252 :: u253 :: u254 :: u255 :: u256 :: u257 :: u258 :: x259 :: x260 :: x261 :: x262 :: x263 :: x264 :: x265 :: x266 :: x267 :: x268 :: x269 :: x270 :: x271 :: x272 :: x273 :: x274 :: x275 :: x276 :: x277 :: x278 :: x279 :: x280 :: x281 :: x282 :: x283 :: x284 :: x285 :: x286 :: x287 :: x288 :: x289 :: x290 :: x291 :: x292 :: x293 :: x294 :: x295 :: x296 :: x297 :: x298 :: x299 :: x300 :: x301 :: x302 :: x303 :: x304 :: x305 :: x306 :: x307 :: x308 :: x309 :: x310 :: x311 :: x312 :: x313 :: x314 :: []), ds⟩ w') :
    code.wp Tryd.prog (RoundQ N E) ⟨List.toArray (.string S :: x1 :: x2 :: x3 :: x4 :: x5 :: x6 :: x7 :: .int .i64 (k : Int) :: x9 :: .pointer (some ⟨p, 0, none⟩) :: .slice oa L oc :: .string (stB .behind) :: x13 :: x14 :: x15 :: x16 :: x17 :: x18 :: x19 :: x20 :: x21 :: x22 :: x23 :: x24 :: x25 :: x26 :: x27 :: x28 :: x29 :: x30 :: x31 :: x32 :: x33 :: x34 :: x35 :: x36 :: x37 :: x38 :: x39 :: x40 :: x41 :: x42 :: x43 :: x44 :: x45 :: x46 :: x47 :: x48 :: x49 :: x50 :: x51 :: x52 :: x53 :: x54 :: x55 :: x56 :: x57 :: x58 :: x59 :: x60 :: x61 :: x62 :: x63 :: x64 :: x65 :: x66 :: x67 :: x68 :: x69 :: x70 :: x71 :: x72 :: x73 :: x74 :: x75 :: x76 :: x77 :: x78 :: x79 :: x80 :: x81 :: x82 :: x83 :: x84 :: x85 :: x86 :: x87 :: x88 :: x89 :: x90 :: x91 :: x92 :: x93 :: x94 :: x95 :: x96 :: x97 :: x98 :: x99 :: x100 :: x101 :: x102 :: x103 :: x104 :: x105 :: x106 :: x107 :: x108 :: x109 :: x110 :: x111 :: x112 :: x113 :: x114 :: x115 :: x116 :: x117 :: x118 :: x119 :: x120 :: x121 :: x122 :: x123 :: x124 :: x125 :: x126 :: x127 :: x128 :: x129 :: x130 :: x131 :: x132 :: x133 :: x134 :: x135 :: x136 :: x137 :: x138 :: x139 :: x140 :: x141 :: x142 :: x143 :: x144 :: x145 :: x146 :: x147 :: x148 :: x149 :: x150 :: x151 :: x152 :: x153 :: x154 :: x155 :: x156 :: x157 :: x158 :: x159 :: x160 :: x161 :: x162 :: x163 :: x164 :: x165 :: x166 :: x167 :: x168 :: x169 :: x170 :: x171 :: x172 :: x173 :: x174 :: x175 :: x176 :: x177 :: x178 :: x179 :: x180 :: x181 :: x182 :: x183 :: x184 :: x185 :: x186 :: x187 :: x188 :: x189 :: x190 :: x191 :: x192 :: x193 :: x194 :: x195 :: x196 :: x197 :: x198 :: x199 :: x200 :: x201 :: x202 :: x203 :: x204 :: x205 :: x206 :: x207 :: x208 :: x209 :: x210 :: x211 :: x212 :: x213 :: x214 :: x215 :: x216 :: x217 :: x218 :: x219 :: x220 :: x221 :: x222 :: x223 :: x224 :: x225 :: x226 :: x227 :: x228 :: x229 :: x230 :: x231 :: x232 :: x233 :: x234 :: x235 :: x236 :: x237 :: x238 :: x239 :: x240 :: x241 :: x242 :: x243 :: x244 :: x245 :: x246 :: x247 :: x248 :: x249 :: x250 :: x251 :: x252 :: x253 :: x254 :: x255 :: x256 :: x257 :: x258 :: x259 :: x260 :: x261 :: x262 :: x263 :: x264 :: x265 :: x266 :: x267 :: x268 :: x269 :: x270 :: x271 :: x272 :: x273 :: x274 :: x275 :: x276 :: x277 :: x278 :: x279 :: x280 :: x281 :: x282 :: x283 :: x284 :: x285 :: x286 :: x287 :: x288 :: x289 :: x290 :: x291 :: x292 :: x293 :: x294 :: x295 :: x296 :: x297 :: x298 :: x299 :: x300 :: x301 :: x302 :: x303 :: x304 :: x305 :: x306 :: x307 :: x308 :: x309 :: x310 :: x311 :: x312 :: x313 :: x314 :: []), ds⟩ wr := by
  have hlit := Option.some.inj hcode.symm
  subst hlit
  have hsl : Hid (S.data.toList.length = S.size) := by show _ = _; simp
  have hkS : k ≤ S.size := by omega
  have hki : (k : Int) < S.size := by omega
  obtain ⟨c, hc⟩ : ∃ c, S[k] = c := ⟨_, rfl⟩
  have hg := at_get hlt
  rw [hc] at hg
  obtain ⟨J, hJ⟩ : ∃ J, k + 1 = J := ⟨_, rfl⟩
  have hJi : (k : Int) + 1 = J := by omega
  have hJk : (J : Int) - 1 = k := by omega
  have hJS : J ≤ S.size := by omega
  have hJl : J ≤ S.data.toList.length := by rw [hsl.out]; exact hJS
  rw [show stB .behind = ⟨#[98, 101, 104, 105, 110, 100]⟩ from rfl]
  by_cases h61 : c = 61
  · have HS : Hid (runR S.data.toList ⟨.value, nm, ls, b, J⟩ = Z) := by
      show _ = _
      rw [← HR.out, run_step (s := ⟨.behind, nm, ls, b, k⟩) hg (by simp)]
      congr 1
      unfold stepC
      simp only []
      rw [if_pos h61, hJ]
    have t61 := byte_is (z := 61) h61 rfl
    have n61 := byte_is' (z := 61) h61 rfl
    have hnn := HW.out.ne rfl
    have HNN := Lib.hid hnn
    clear hg h61 hnn
    go_wp2_with fail
    refine hN _ _ _ _ _ _ _ _ _ _ _ _ _ _ _ _ _ _ _ _ _ _ _ _ _ _ _ _ _ _ _ _ _ _ _ _ _ _ _ _ _ _ _ _ _ _ _ _ _ _ _ _ _ _ _ _ _ _ _ _ _ _ _ _ _ _ _ _ _ _ _ _ _ _ _ _ _ _ _ _ _ _ _ _ _ _ _ _ _ _ _ _ _ _ _ _ _ _ _ _ _ _ _ _ _ _ _ _ _ _ _ _ _ _ _ _ _ _ _ _ _ _ _ _ _ _ _ _ _ _ _ _ _ _ _ _ _ _ _ _ _ _ _ _ _ _ _ _ _ _ _ _ _ _ _ _ _ _ _ _ _ _ _ _ _ _ _ _ _ _ _ _ _ _ _ _ _ _ _ _ _ _ _ _ _ _ _ _ _ _ _ _ _ _ _ _ (.value) (nm) (ls) (b) (J) (oa) (L) (oc) _ (by simp) HS.out (HW.out.more (by omega) (by omega) (fun _ => HNN.out)) (HM.out) ?_
    simp only [rank]
    omega
  · by_cases hb : blB c = true
    · have HS : Hid (runR S.data.toList ⟨.behind, nm, ls, b, J⟩ = Z) := by
        show _ = _
        rw [← HR.out, run_step (s := ⟨.behind, nm, ls, b, k⟩) hg (by simp)]
        congr 1
        unfold stepC
        simp only []
        rw [if_neg h61, if_pos hb, hJ]
      have t61 := byte_not (z := 61) h61 rfl
      have n61 := byte_not' (z := 61) h61 rfl
      have HBL := Lib.hid (fun W => rblank_any (c.toNat : Int) W)
      rw [show blI (c.toNat : Int) = true from hb] at HBL
      have hnn := HW.out.ne rfl
      have HNN := Lib.hid hnn
      clear hg h61 hb hnn
      go_wp2_with fail
      refine (HBL.out _).mono ?_
      rintro e w' ⟨rfl, rfl⟩
      go_wp2_with fail
      refine hN _ _ _ _ _ _ _ _ _ _ _ _ _ _ _ _ _ _ _ _ _ _ _ _ _ _ _ _ _ _ _ _ _ _ _ _ _ _ _ _ _ _ _ _ _ _ _ _ _ _ _ _ _ _ _ _ _ _ _ _ _ _ _ _ _ _ _ _ _ _ _ _ _ _ _ _ _ _ _ _ _ _ _ _ _ _ _ _ _ _ _ _ _ _ _ _ _ _ _ _ _ _ _ _ _ _ _ _ _ _ _ _ _ _ _ _ _ _ _ _ _ _ _ _ _ _ _ _ _ _ _ _ _ _ _ _ _ _ _ _ _ _ _ _ _ _ _ _ _ _ _ _ _ _ _ _ _ _ _ _ _ _ _ _ _ _ _ _ _ _ _ _ _ _ _ _ _ _ _ _ _ _ _ _ _ _ _ _ _ _ _ _ _ _ _ _ (.behind) (nm) (ls) (b) (J) (oa) (L) (oc) _ (by simp) HS.out (HW.out.more (by omega) (by omega) (fun _ => HNN.out)) (HM.out) ?_
      simp only [rank]
      omega
    · by_cases hs : c = 47 ∨ c = 62
      · have HS : Hid (runR S.data.toList ⟨.ahead, nm, ls, b, k⟩ = Z) := by
          show _ = _
          rw [← HR.out, run_step (s := ⟨.behind, nm, ls, b, k⟩) hg (by simp)]
          congr 1
          unfold stepC
          simp only []
          rw [if_neg h61, if_neg hb, if_pos hs]
        have t61 := byte_not (z := 61) h61 rfl
        have n61 := byte_not' (z := 61) h61 rfl
        have HBL := Lib.hid (fun W => rblank_any (c.toNat : Int) W)
        rw [show blI (c.toNat : Int) = false by simpa [blB] using hb] at HBL
        rcases hs with h47 | h62
        · have t47 := byte_is (z := 47) h47 rfl
          have n47 := byte_is' (z := 47) h47 rfl
          clear hb hg h47 h61
          go_wp2_with fail
          refine (HBL.out _).mono ?_
          rintro e w' ⟨rfl, rfl⟩
          go_wp2_with fail
          refine hN _ _ _ _ _ _ _ _ _ _ _ _ _ _ _ _ _ _ _ _ _ _ _ _ _ _ _ _ _ _ _ _ _ _ _ _ _ _ _ _ _ _ _ _ _ _ _ _ _ _ _ _ _ _ _ _ _ _ _ _ _ _ _ _ _ _ _ _ _ _ _ _ _ _ _ _ _ _ _ _ _ _ _ _ _ _ _ _ _ _ _ _ _ _ _ _ _ _ _ _ _ _ _ _ _ _ _ _ _ _ _ _ _ _ _ _ _ _ _ _ _ _ _ _ _ _ _ _ _ _ _ _ _ _ _ _ _ _ _ _ _ _ _ _ _ _ _ _ _ _ _ _ _ _ _ _ _ _ _ _ _ _ _ _ _ _ _ _ _ _ _ _ _ _ _ _ _ _ _ _ _ _ _ _ _ _ _ _ _ _ _ _ _ _ _ _ (.ahead) (nm) (ls) (b) (k) (oa) (L) (oc) _ (by simp) HS.out (HW.out.more (by omega) (by omega) (by simp [needs])) (HM.out) ?_
          simp only [rank]
          omega
        · have h47 : ¬ c = 47 := by rw [h62]; decide
          have t47 := byte_not (z := 47) h47 rfl
          have n47 := byte_not' (z := 47) h47 rfl
          have t62 := byte_is (z := 62) h62 rfl
          have n62 := byte_is' (z := 62) h62 rfl
          clear hb hg h47 h62 h61
          go_wp2_with fail
          refine (HBL.out _).mono ?_
          rintro e w' ⟨rfl, rfl⟩
          go_wp2_with fail
          refine hN _ _ _ _ _ _ _ _ _ _ _ _ _ _ _ _ _ _ _ _ _ _ _ _ _ _ _ _ _ _ _ _ _ _ _ _ _ _ _ _ _ _ _ _ _ _ _ _ _ _ _ _ _ _ _ _ _ _ _ _ _ _ _ _ _ _ _ _ _ _ _ _ _ _ _ _ _ _ _ _ _ _ _ _ _ _ _ _ _ _ _ _ _ _ _ _ _ _ _ _ _ _ _ _ _ _ _ _ _ _ _ _ _ _ _ _ _ _ _ _ _ _ _ _ _ _ _ _ _ _ _ _ _ _ _ _ _ _ _ _ _ _ _ _ _ _ _ _ _ _ _ _ _ _ _ _ _ _ _ _ _ _ _ _ _ _ _ _ _ _ _ _ _ _ _ _ _ _ _ _ _ _ _ _ _ _ _ _ _ _ _ _ _ _ _ _ (.ahead) (nm) (ls) (b) (k) (oa) (L) (oc) _ (by simp) HS.out (HW.out.more (by omega) (by omega) (by simp [needs])) (HM.out) ?_
          simp only [rank]
          omega
      · have h47 : ¬ c = 47 := fun h => hs (.inl h)
        have h62 : ¬ c = 62 := fun h => hs (.inr h)
        have HS : Hid (runR S.data.toList ⟨.name, nm, (ls ++ [(cleanB c, [])]), b, J⟩ = Z) := by
          show _ = _
          rw [← HR.out, run_step (s := ⟨.behind, nm, ls, b, k⟩) hg (by simp)]
          congr 1
          unfold stepC
          simp only []
          rw [if_neg h61, if_neg hb, if_neg hs, hJ]
        have t61 := byte_not (z := 61) h61 rfl
        have n61 := byte_not' (z := 61) h61 rfl
        have t47 := byte_not (z := 47) h47 rfl
        have n47 := byte_not' (z := 47) h47 rfl
        have t62 := byte_not (z := 62) h62 rfl
        have n62 := byte_not' (z := 62) h62 rfl
        have HBL := Lib.hid (fun W => rblank_any (c.toNat : Int) W)
        rw [show blI (c.toNat : Int) = false by simpa [blB] using hb] at HBL
        have HLOW := Lib.hid (fun W => rlow_any c W)
        obtain ⟨x, hx⟩ : ∃ X : ByteArray, (⟨(cleanB c).toArray⟩ : ByteArray) = X := ⟨_, rfl⟩
        have HX := Lib.hid hx
        rw [hx] at HLOW
        have HWN : Hid (Wf S.data.toList ⟨.name, nm, ls ++ [(cleanB c, [])], b, J⟩) := by
          have := HW.out.add (by omega) c
          rw [hJ] at this
          exact this
        have HJ := Lib.hid hJ
        clear hg h47 h62 hb h61 hs
        clear hx hJ
        go_wp2_with fail
        refine (HBL.out _).mono ?_
        rintro e w' ⟨rfl, rfl⟩
        go_wp2_with fail
        refine (HLOW.out _).mono ?_
        rintro e w1 ⟨rfl, b1⟩
        have hm := HM.out.below' b1
        have HM1 := Lib.hid hm
        have hown := hm.own
        have hsz := hm.size
        have hLk : L ≤ 2000 := by have h1 := HW.out.l; have h2 := hm.len; simp only [] at h1; omega
        obtain ⟨i0, hi0, hz0', hz1', hz2'⟩ := info_parts infoAttr
        have N2 : Hid (∀ u ∈ ([.string x, .string ⟨#[]⟩] : List Value), u.oneCell' = true) := by
          intro u hu
          simp at hu
          rcases hu with rfl | rfl <;> rfl
        have HOBK : Hid (∀ j, (Value.slice oa L oc).ownBlock = some j → w.heap.size ≤ j) := fun j hj => (HM1.out.own.lt j hj).1
        clear b1 hm
        go_wp2_with (at_builtin; refine wpList_append_own _ rfl _ _ 23 rfl w.heap.size 32 i0 _ 2 32 Tryd.underlying23 hi0 hz0' hz1' hz2' rfl (by decide) _ _ _ rfl (hown.alloc _) ⟨w1.heap.size, 0, none⟩ 1 1 [.string x, .string ⟨#[]⟩] rfl rfl (news2 w1 _ _ _) N2.out (by unfold maxLen; omega) (by omega) (by simp; omega) ?_; intro v' w4 hown4 hg4 hnil4; clear hnil4; obtain ⟨o4, p4, hv4'⟩ := owns_shape hown4; subst hv4')
        refine hN _ _ _ _ _ _ _ _ _ _ _ _ _ _ _ _ _ _ _ _ _ _ _ _ _ _ _ _ _ _ _ _ _ _ _ _ _ _ _ _ _ _ _ _ _ _ _ _ _ _ _ _ _ _ _ _ _ _ _ _ _ _ _ _ _ _ _ _ _ _ _ _ _ _ _ _ _ _ _ _ _ _ _ _ _ _ _ _ _ _ _ _ _ _ _ _ _ _ _ _ _ _ _ _ _ _ _ _ _ _ _ _ _ _ _ _ _ _ _ _ _ _ _ _ _ _ _ _ _ _ _ _ _ _ _ _ _ _ _ _ _ _ _ _ _ _ _ _ _ _ _ _ _ _ _ _ _ _ _ _ _ _ _ _ _ _ _ _ _ _ _ _ _ _ _ _ _ _ _ _ _ _ _ _ _ _ _ _ _ _ _ _ _ _ _ _ (.name) (nm) (ls ++ [(cleanB c, [])]) (b) (J) (o4) (L + 1) (p4) _ (by simp) HS.out (HWN.out) ?_ ?_
        · have hpl := (Array.getElem?_eq_some_iff.1 HM1.out.tok).1
          refine ⟨(hg4.block p (by simp; omega) (fun e => by have := HOBK.out p e.symm; omega)).trans ((Below.heap_alloc w1 _ _ hpl).trans HM1.out.tok), ?_, by rw [List.length_append, HM1.out.len]; rfl, by have := hg4.size; simp at this; omega, (HM1.out.below.alloc (by omega) _).grown hg4 (by simp; omega) (fun j hj => by have := HOBK.out j hj; omega)⟩
          rw [attC_snoc, HX.out]
          exact hown4
        · have := HJ.out
          simp only [rank]
          omega

set_option maxHeartbeats 25600000 in
set_option maxRecDepth 100000 in
theorem round_value (code : Code) (hcode : bodyOf 15 Tryd.f13 = some code) (N E : Act → World → Prop) {x1 x2 x3 x4 x5 x6 x7 x9 x13 x14 x15 x16 x17 x18 x19 x20 x21 x22 x23 x24 x25 x26 x27 x28 x29 x30 x31 x32 x33 x34 x35 x36 x37 x38 x39 x40 x41 x42 x43 x44 x45 x46 x47 x48 x49 x50 x51 x52 x53 x54 x55 x56 x57 x58 x59 x60 x61 x62 x63 x64 x65 x66 x67 x68 x69 x70 x71 x72 x73 x74 x75 x76 x77 x78 x79 x80 x81 x82 x83 x84 x85 x86 x87 x88 x89 x90 x91 x92 x93 x94 x95 x96 x97 x98 x99 x100 x101 x102 x103 x104 x105 x106 x107 x108 x109 x110 x111 x112 x113 x114 x115 x116 x117 x118 x119 x120 x121 x122 x123 x124 x125 x126 x127 x128 x129 x130 x131 x132 x133 x134 x135 x136 x137 x138 x139 x140 x141 x142 x143 x144 x145 x146 x147 x148 x149 x150 x151 x152 x153 x154 x155 x156 x157 x158 x159 x160 x161 x162 x163 x164 x165 x166 x167 x168 x169 x170 x171 x172 x173 x174 x175 x176 x177 x178 x179 x180 x181 x182 x183 x184 x185 x186 x187 x188 x189 x190 x191 x192 x193 x194 x195 x196 x197 x198 x199 x200 x201 x202 x203 x204 x205 x206 x207 x208 x209 x210 x211 x212 x213 x214 x215 x216 x217 x218 x219 x220 x221 x222 x223 x224 x225 x226 x227 x228 x229 x230 x231 x232 x233 x234 x235 x236 x237 x238 x239 x240 x241 x242 x243 x244 x245 x246 x247 x248 x249 x250 x251 x252 x253 x254 x255 x256 x257 x258 x259 x260 x261 x262 x263 x264 x265 x266 x267 x268 x269 x270 x271 x272 x273 x274 x275 x276 x277 x278 x279 x280 x281 x282 x283 x284 x285 x286 x287 x288 x289 x290 x291 x292 x293 x294 x295 x296 x297 x298 x299 x300 x301 x302 x303 x304 x305 x306 x307 x308 x309 x310 x311 x312 x313 x314 : Value} {ds : List Deferred} {wr : World} (S : ByteArray) (p k L oc : Nat) (oa : Option Addr) (nm : List UInt8) (ls : List At) (b : Bool) (kind from' : Int) (Z : RS) (w : World)
    (hs : S.size ≤ 2000) (hlt : k < S.size) (hpB : p < w.heap.size) (HR : Hid (runR S.data.toList ⟨.value, nm, ls, b, k⟩ = Z)) (HW : Hid (Wf S.data.toList ⟨.value, nm, ls, b, k⟩)) (HM : Hid (RdAt w.heap.size p kind from' w nm b ls oa L oc wr))
    (hN : ∀ (u13 u14 u15 u16 u17 u68 u69 u70 u71 u72 u73 u74 u75 u76 u77 u78 u79 u80 u81 u82 u83 u84 u85 u86 u87 u88 u89 u90 u91 u92 u93 u94 u95 u96 u97 u98 u99 u100 u101 u102 u103 u104 u105 u106 u107 u108 u109 u110 u111 u112 u113 u114 u115 u116 u117 u118 u119 u120 u121 u122 u123 u124 u125 u126 u127 u128 u129 u130 u131 u132 u133 u134 u135 u136 u137 u138 u139 u140 u141 u142 u143 u144 u145 u146 u147 u148 u149 u150 u151 u152 u153 u154 u155 u156 u157 u158 u159 u160 u161 u162 u163 u164 u165 u166 u167 u168 u169 u170 u171 u172 u173 u174 u175 u176 u177 u178 u179 u180 u181 u182 u183 u184 u185 u186 u187 u188 u189 u190 u191 u192 u193 u194 u195 u196 u197 u198 u199 u200 u201 u202 u203 u204 u205 u206 u207 u208 u209 u210 u211 u212 u213 u214 u215 u216 u217 u218 u219 u220 u221 u222 u223 u224 u225 u226 u227 u228 u229 u230 u231 u232 u233 u234 u235 u236 u237 u238 u239 u240 u241 u242 u243 u244 u245 u246 u247 u248 u249 u250 u251 u252 u253 u254 u255 u256 u257 u258 : Value) (s' : St) (nm' : List UInt8) (ls' : List At) (b' : Bool) (k' : Nat) (oa' : Option Addr) (L' oc' : Nat) (w' : World), s' ≠ .done → runR S.data.toList ⟨s', nm', ls', b', k'⟩ = Z → Wf S.data.toList ⟨s', nm', ls', b', k'⟩ → RdAt w.heap.size p kind from' w nm' b' ls' oa' L' oc' w' → 2 * (S.size - k') + rank s' < 2 * (S.size - k) + rank .value → N ⟨List.toArray (.string S :: x1 :: x2 :: x3 :: x4 :: x5 :: x6 :: x7 :: .int .i64 (k' : Int) :: x9 :: .pointer (some ⟨p, 0, none⟩) :: .slice oa' L' oc' :: .string (stB s') :: u13 :: u14 :: u15 :: u16 :: u17 :: x18 :: x19 :: x20 :: x21 :: x22 :: x23 :: x24 :: x25 :: x26 :: x27 :: x28 :: x29 :: x30 :: x31 :: x32 :: x33 :: x34 :: x35 :: x36 :: x37 :: x38 :: x39 :: x40 :: x41 :: x42 :: x43 :: x44 :: x45 :: x46 :: x47 :: x48 :: x49 :: x50 :: x51 :: x52 :: x53 :: x54 :: x55 :: x56 :: x57 :: x58 :: x59 :: x60 :: x61 :: x62 :: x63 :: x64 :: x65 :: x66 :: x67 :: u68 :: u69 :: u70 :: u71 :: u72 :: u73 :: u74 :: u75 :: u76 :: u77 :: u78 :: u79 :: u80 :: u81 :: u82 :: u83 :: u84 :: u85 :: u86 :: u87 :: u88 :: u89 :: u90 :: u91 :: u92 :: u93 :: u94 :: u95 :: u96 :: u97 :: u98 :: u99 :: u100 :: u101 :: u102 :: u103 :: u104 :: u105 :: u106 :: u107 :: u108 :: u109 :: u110 :: u111 :: u112 :: u113 :: u114 :: u115 :: u116 :: u117 :: u118 :: u119 :: u120 :: u121 :: u122 :: u123 :: u124 :: u125 :: u126 :: u127 :: u128 :: u129 :: u130 :: u131 :: u132 :: u133 :: u134 :: u135 :: u136 :: u137 :: u138 :: u139 :: u140 :: u141 :: u142 :: u143 :: u144 :: u145 :: u146 :: u147 :: u148 :: u149 :: u150 :: u151 :: u152 :: u153 :: u154 :: u155 :: u156 :: u157 :: u158 :: u159 :: u160 :: u161 :: u162 :: u163 :: u164 :: u165 :: u166 :: u167 :: u168 :: u169 :: u170 :: u171 :: u172 :: u173 :: u174 :: u175 :: u176 :: u177 :: u178 :: u179 :: u180 :: u181 :: u182 :: u183 :: u184 :: u185 :: u186 :: u187 :: u188 :: u189 :: u190 :: u191 :: u192 :: u193 :: u194 :: u195 :: u196 :: u197 :: u198 :: u199 :: u200 :: u201 :: u202 :: u203 :: u204 :: u205 :: u206 :: u207 :: u208 :: u209 :: u210 :: u211 :: u212 :: u213 :: u214 :: u215 :: u216 :: u217 :: u218 :: u219 :: u220 :: u221 :: u222 :: u223 :: u224 :: u225 :: u226 :: u227 :: u228 :: u229 :: u230 :: u231 :: u232 :: u233 :: u234 :: u235 :: u236 :: u237 :: u238 :: u239 :: u240 :: u241 :: u242 :: u243 :: u244 :: u245 :: u246 :: u247 :: u248 :: u249 :: u250 :: u251 :: u252 :: u253 :: u254 :: u255 :: u256 :: u257 :: u258 :: x259 :: x260 :: x261 :: x262 :: x263 :: x264 :: x265 :: x266 :: x267 :: x268 :: x269 :: x270 :: x271 :: x272 :: x273 :: x274 :: x275 :: x276 :: x277 :: x278 :: x279 :: x280 :: x281 :: x282 :: x283 :: x284 :: x285 :: x286 :: x287 :: x288 :: x289 :: x290 :: x291 :: x292 :: x293 :: x294 :: x295 :: x296 :: x297 :: x298 :: x299 :: x300 :: x301 :: x302 :: x303 :: x304 :: x305 :: x306 :: x307 :: x308 :: x309 :: x310 :: x311 :: x312 :: x313 :: x314 :: []), ds⟩ w')
    (hE : ∀ (u13 u14 u15 u16 u17 u68 u69 u70 u71 u72 u73 u74 u75 u76 u77 u78 u79 u80 u81 u82 u83 u84 u85 u86 u87 u88 u89 u90 u91 u92 u93 u94 u95 u96 u97 u98 u99 u100 u101 u102 u103 u104 u105 u106 u107 u108 u109 u110 u111 u112 u113 u114 u115 u116 u117 u118 u119 u120 u121 u122 u123 u124 u125 u126 u127 u128 u129 u130 u131 u132 u133 u134 u135 u136 u137 u138 u139 u140 u141 u142 u143 u144 u145 u146 u147 u148 u149 u150 u151 u152 u153 u154 u155 u156 u157 u158 u159 u160 u161 u162 u163 u164 u165 u166 u167 u168 u169 u170 u171 u172 u173 u174 u175 u176 u177 u178 u179 u180 u181 u182 u183 u184 u185 u186 u187 u188 u189 u190 u191 u192 u193 u194 u195 u196 u197 u198 u199 u200 u201 u202 u203 u204 u205 u206 u207 u208 u209 u210 u211 u212 u213 u214 u215 u216 u217 u218 u219 u220 u221 u222 u223 u224 u225 u226 u227 u228 u229 u230 u231 u232 u233 u234 u235 u236 u237 u238 u239 u240 u241 u242 u243 u244 u245 u246 u247 u248 u249 u250 u251 u252 u253 u254 u255 u256 u257 u258 : Value) (z : RS) (oa' : Option Addr) (L' oc' : Nat) (w' : World), z = Z → Wf S.data.toList z → RdAt w.heap.size p kind from' w z.name z.self z.l oa' L' oc' w' → E ⟨List.toArray (.string S :: x1 :: x2 :: x3 :: x4 :: x5 :: x6 :: x7 :: .int .i64 (z.i : Int) :: x9 :: .pointer (some ⟨p, 0, none⟩) :: .slice oa' L' oc' :: .string (stB z.st) :: u13 :: u14 :: u15 :: u16 :: u17 :: x18 :: x19 :: x20 :: x21 :: x22 :: x23 :: x24 :: x25 :: x26 :: x27 :: x28 :: x29 :: x30 :: x31 :: x32 :: x33 :: x34 :: x35 :: x36 :: x37 :: x38 :: x39 :: x40 :: x41 :: x42 :: x43 :: x44 :: x45 :: x46 :: x47 :: x48 :: x49 :: x50 :: x51 :: x52 :: x53 :: x54 :: x55 :: x56 :: x57 :: x58 :: x59 :: x60 :: x61 :: x62 :: x63 :: x64 :: x65 :: x66 :: x67 :: u68 :: u69 :: u70 :: u71 :: u72 :: u73 :: u74 :: u75 :: u76 :: u77 :: u78 :: u79 :: u80 :: u81 :: u82 :: u83 :: u84 :: u85 :: u86 :: u87 :: u88 :: u89 :: u90 :: u91 :: u92 :: u93 :: u94 :: u95 :: u96 :: u97 :: u98 :: u99 :: u100 :: u101 :: u102 :: u103 :: u104 :: u105 :: u106 :: u107 :: u108 :: u109 :: u110 :: u111 :: u112 :: u113 :: u114 :: u115 :: u116 :: u117 :: u118 :: u119 :: u120 :: u121 :: u122 :: u123 :: u124 :: u125 :: u126 :: u127 :: u128 :: u129 :: u130 :: u131 :: u132 :: u133 :: u134 :: u135 :: u136 :: u137 :: u138 :: u139 :: u140 :: u141 :: u142 :: u143 :: u144 :: u145 :: u146 :: u147 :: u148 :: u149 :: u150 :: u151 :: u152 :: u153 :: u154 :: u155 :: u156 :: u157 :: u158 :: u159 :: u160 :: u161 :: u162 :: u163 :: u164 :: u165 :: u166 :: u167 :: u168 :: u169 :: u170 :: u171 :: u172 :: u173 :: u174 :: u175 :: u176 :: u177 :: u178 :: u179 :: u180 :: u181 :: u182 :: u183 :: u184 :: u185 :: u186 :: u187 :: u188 :: u189 :: u190 :: u191 :: u192 :: u193 :: u194 :: u195 :: u196 :: u197 :: u198 :: u199 :: u200 :: u201 :: u202 :: u203 :: u204 :: u205 :: u206 :: u207 :: u208 :: u209 :: u210 :: u211 :: u212 :: u213 :: u214 :: u215 :: u216 :: u217 :: u218 :: u219 :: u220 :: u221 :: u222 :: u223 :: u224 :: u225 :: u226 :: u227 :: u228 :: u229 :: u230 :: u231 :: u232 :: u233 :: u234 :: u235 :: u236 :: u237 :: u238 :: u239 :: u240 :: u241 :: u242 :: u243 :: u244 :: u245 :: u246 :: u247 :: u248 :: u249 :: u250 :: u251 :: u252 :: u253 :: u254 :: u255 :: u256 :: u257 :: u258 :: x259 :: x260 :: x261 :: x262 :: x263 :: x264 :: x265 :: x266 :: x267 :: x268 :: x269 :: x270 :: x271 :: x272 :: x273 :: x274 :: x275 :: x276 :: x277 :: x278 :: x279 :: x280 :: x281 :: x282 :: x283 :: x284 :: x285 :: x286 :: x287 :: x288 :: x289 :: x290 :: x291 :: x292 :: x293 :: x294 :: x295 :: x296 :: x297 :: x298 :: x299 :: x300 :: x301 :: x302 :: x303 :: x304 :: x305 :: x306 :: x307 :: x308 :: x309 :: x310 :: x311 :: x312 :: x313 :: x314 :: []), ds⟩ w') :
    code.wp Tryd.prog (RoundQ N E) ⟨List.toArray (.string S :: x1 :: x2 :: x3 :: x4 :: x5 :: x6 :: x7 :: .int .i64 (k : Int) :: x9 :: .pointer (some ⟨p, 0, none⟩) :: .slice oa L oc :: .string (stB .value) :: x13 :: x14 :: x15 :: x16 :: x17 :: x18 :: x19 :: x20 :: x21 :: x22 :: x23 :: x24 :: x25 :: x26 :: x27 :: x28 :: x29 :: x30 :: x31 :: x32 :: x33 :: x34 :: x35 :: x36 :: x37 :: x38 :: x39 :: x40 :: x41 :: x42 :: x43 :: x44 :: x45 :: x46 :: x47 :: x48 :: x49 :: x50 :: x51 :: x52 :: x53 :: x54 :: x55 :: x56 :: x57 :: x58 :: x59 :: x60 :: x61 :: x62 :: x63 :: x64 :: x65 :: x66 :: x67 :: x68 :: x69 :: x70 :: x71 :: x72 :: x73 :: x74 :: x75 :: x76 :: x77 :: x78 :: x79 :: x80 :: x81 :: x82 :: x83 :: x84 :: x85 :: x86 :: x87 :: x88 :: x89 :: x90 :: x91 :: x92 :: x93 :: x94 :: x95 :: x96 :: x97 :: x98 :: x99 :: x100 :: x101 :: x102 :: x103 :: x104 :: x105 :: x106 :: x107 :: x108 :: x109 :: x110 :: x111 :: x112 :: x113 :: x114 :: x115 :: x116 :: x117 :: x118 :: x119 :: x120 :: x121 :: x122 :: x123 :: x124 :: x125 :: x126 :: x127 :: x128 :: x129 :: x130 :: x131 :: x132 :: x133 :: x134 :: x135 :: x136 :: x137 :: x138 :: x139 :: x140 :: x141 :: x142 :: x143 :: x144 :: x145 :: x146 :: x147 :: x148 :: x149 :: x150 :: x151 :: x152 :: x153 :: x154 :: x155 :: x156 :: x157 :: x158 :: x159 :: x160 :: x161 :: x162 :: x163 :: x164 :: x165 :: x166 :: x167 :: x168 :: x169 :: x170 :: x171 :: x172 :: x173 :: x174 :: x175 :: x176 :: x177 :: x178 :: x179 :: x180 :: x181 :: x182 :: x183 :: x184 :: x185 :: x186 :: x187 :: x188 :: x189 :: x190 :: x191 :: x192 :: x193 :: x194 :: x195 :: x196 :: x197 :: x198 :: x199 :: x200 :: x201 :: x202 :: x203 :: x204 :: x205 :: x206 :: x207 :: x208 :: x209 :: x210 :: x211 :: x212 :: x213 :: x214 :: x215 :: x216 :: x217 :: x218 :: x219 :: x220 :: x221 :: x222 :: x223 :: x224 :: x225 :: x226 :: x227 :: x228 :: x229 :: x230 :: x231 :: x232 :: x233 :: x234 :: x235 :: x236 :: x237 :: x238 :: x239 :: x240 :: x241 :: x242 :: x243 :: x244 :: x245 :: x246 :: x247 :: x248 :: x249 :: x250 :: x251 :: x252 :: x253 :: x254 :: x255 :: x256 :: x257 :: x258 :: x259 :: x260 :: x261 :: x262 :: x263 :: x264 :: x265 :: x266 :: x267 :: x268 :: x269 :: x270 :: x271 :: x272 :: x273 :: x274 :: x275 :: x276 :: x277 :: x278 :: x279 :: x280 :: x281 :: x282 :: x283 :: x284 :: x285 :: x286 :: x287 :: x288 :: x289 :: x290 :: x291 :: x292 :: x293 :: x294 :: x295 :: x296 :: x297 :: x298 :: x299 :: x300 :: x301 :: x302 :: x303 :: x304 :: x305 :: x306 :: x307 :: x308 :: x309 :: x310 :: x311 :: x312 :: x313 :: x314 :: []), ds⟩ wr := by
  have hlit := Option.some.inj hcode.symm
  subst hlit
  have hsl : Hid (S.data.toList.length = S.size) := by show _ = _; simp
  have hkS : k ≤ S.size := by omega
  have hki : (k : Int) < S.size := by omega
  obtain ⟨c, hc⟩ : ∃ c, S[k] = c := ⟨_, rfl⟩
  have hg := at_get hlt
  rw [hc] at hg
  obtain ⟨J, hJ⟩ : ∃ J, k + 1 = J := ⟨_, rfl⟩
  have hJi : (k : Int) + 1 = J := by omega
  have hJk : (J : Int) - 1 = k := by omega
  have hJS : J ≤ S.size := by omega
  have hJl : J ≤ S.data.toList.length := by rw [hsl.out]; exact hJS
  rw [show stB .value = ⟨#[118, 97, 108, 117, 101]⟩ from rfl]
  have hnn := HW.out.ne rfl
  have HNN := Lib.hid hnn
  clear hnn
  by_cases h34 : c = 34
  · have HS : Hid (runR S.data.toList ⟨.double, nm, ls, b, J⟩ = Z) := by
      show _ = _
      rw [← HR.out, run_step (s := ⟨.value, nm, ls, b, k⟩) hg (by simp)]
      congr 1
      unfold stepC
      simp only []
      rw [if_pos h34, hJ]
    have t34 := byte_is (z := 34) h34 rfl
    have n34 := byte_is' (z := 34) h34 rfl
    clear hg h34
    go_wp2_with fail
    refine hN _ _ _ _ _ _ _ _ _ _ _ _ _ _ _ _ _ _ _ _ _ _ _ _ _ _ _ _ _ _ _ _ _ _ _ _ _ _ _ _ _ _ _ _ _ _ _ _ _ _ _ _ _ _ _ _ _ _ _ _ _ _ _ _ _ _ _ _ _ _ _ _ _ _ _ _ _ _ _ _ _ _ _ _ _ _ _ _ _ _ _ _ _ _ _ _ _ _ _ _ _ _ _ _ _ _ _ _ _ _ _ _ _ _ _ _ _ _ _ _ _ _ _ _ _ _ _ _ _ _ _ _ _ _ _ _ _ _ _ _ _ _ _ _ _ _ _ _ _ _ _ _ _ _ _ _ _ _ _ _ _ _ _ _ _ _ _ _ _ _ _ _ _ _ _ _ _ _ _ _ _ _ _ _ _ _ _ _ _ _ _ _ _ _ _ _ (.double) (nm) (ls) (b) (J) (oa) (L) (oc) _ (by simp) HS.out (HW.out.more (by omega) (by omega) (fun _ => HNN.out)) (HM.out) ?_
    simp only [rank]
    omega
  · by_cases h39 : c = 39
    · have HS : Hid (runR S.data.toList ⟨.single, nm, ls, b, J⟩ = Z) := by
        show _ = _
        rw [← HR.out, run_step (s := ⟨.value, nm, ls, b, k⟩) hg (by simp)]
        congr 1
        unfold stepC
        simp only []
        rw [if_neg h34, if_pos h39, hJ]
      have t34 := byte_not (z := 34) h34 rfl
      have n34 := byte_not' (z := 34) h34 rfl
      have t39 := byte_is (z := 39) h39 rfl
      have n39 := byte_is' (z := 39) h39 rfl
      clear hg h34 h39
      go_wp2_with fail
      refine hN _ _ _ _ _ _ _ _ _ _ _ _ _ _ _ _ _ _ _ _ _ _ _ _ _ _ _ _ _ _ _ _ _ _ _ _ _ _ _ _ _ _ _ _ _ _ _ _ _ _ _ _ _ _ _ _ _ _ _ _ _ _ _ _ _ _ _ _ _ _ _ _ _ _ _ _ _ _ _ _ _ _ _ _ _ _ _ _ _ _ _ _ _ _ _ _ _ _ _ _ _ _ _ _ _ _ _ _ _ _ _ _ _ _ _ _ _ _ _ _ _ _ _ _ _ _ _ _ _ _ _ _ _ _ _ _ _ _ _ _ _ _ _ _ _ _ _ _ _ _ _ _ _ _ _ _ _ _ _ _ _ _ _ _ _ _ _ _ _ _ _ _ _ _ _ _ _ _ _ _ _ _ _ _ _ _ _ _ _ _ _ _ _ _ _ _ (.single) (nm) (ls) (b) (J) (oa) (L) (oc) _ (by simp) HS.out (HW.out.more (by omega) (by omega) (fun _ => HNN.out)) (HM.out) ?_
      simp only [rank]
      omega
    · by_cases h62 : c = 62
      · have HS : Hid (runR S.data.toList ⟨.done, nm, ls, b, J⟩ = Z) := by
          show _ = _
          rw [← HR.out, run_step (s := ⟨.value, nm, ls, b, k⟩) hg (by simp)]
          congr 1
          unfold stepC
          simp only []
          rw [if_neg h34, if_neg h39, if_pos h62, hJ]
        have t34 := byte_not (z := 34) h34 rfl
        have n34 := byte_not' (z := 34) h34 rfl
        have t39 := byte_not (z := 39) h39 rfl
        have n39 := byte_not' (z := 39) h39 rfl
        have t62 := byte_is (z := 62) h62 rfl
        have n62 := byte_is' (z := 62) h62 rfl
        clear hg h34 h39 h62
        go_wp2_with fail
        refine ⟨rfl, hE _ _ _ _ _ _ _ _ _ _ _ _ _ _ _ _ _ _ _ _ _ _ _ _ _ _ _ _ _ _ _ _ _ _ _ _ _ _ _ _ _ _ _ _ _ _ _ _ _ _ _ _ _ _ _ _ _ _ _ _ _ _ _ _ _ _ _ _ _ _ _ _ _ _ _ _ _ _ _ _ _ _ _ _ _ _ _ _ _ _ _ _ _ _ _ _ _ _ _ _ _ _ _ _ _ _ _ _ _ _ _ _ _ _ _ _ _ _ _ _ _ _ _ _ _ _ _ _ _ _ _ _ _ _ _ _ _ _ _ _ _ _ _ _ _ _ _ _ _ _ _ _ _ _ _ _ _ _ _ _ _ _ _ _ _ _ _ _ _ _ _ _ _ _ _ _ _ _ _ _ _ _ _ _ _ _ _ _ _ _ _ _ _ _ _ _ ⟨.done, nm, ls, b, J⟩ oa L oc _ (by rw [← HS.out, run_done rfl]) (HW.out.more (by omega) (by omega) (by simp [needs])) HM.out⟩
      · by_cases hb : blB c = true
        · have HS : Hid (runR S.data.toList ⟨.value, nm, ls, b, J⟩ = Z) := by
            show _ = _
            rw [← HR.out, run_step (s := ⟨.value, nm, ls, b, k⟩) hg (by simp)]
            congr 1
            unfold stepC
            simp only []
            rw [if_neg h34, if_neg h39, if_neg h62, if_pos hb, hJ]
          have t34 := byte_not (z := 34) h34 rfl
          have n34 := byte_not' (z := 34) h34 rfl
          have t39 := byte_not (z := 39) h39 rfl
          have n39 := byte_not' (z := 39) h39 rfl
          have t62 := byte_not (z := 62) h62 rfl
          have n62 := byte_not' (z := 62) h62 rfl
          have HBL := Lib.hid (fun W => rblank_any (c.toNat : Int) W)
          rw [show blI (c.toNat : Int) = true from hb] at HBL
          clear hg h34 h39 h62 hb
          go_wp2_with fail
          refine (HBL.out _).mono ?_
          rintro e w' ⟨rfl, rfl⟩
          go_wp2_with fail
          refine hN _ _ _ _ _ _ _ _ _ _ _ _ _ _ _ _ _ _ _ _ _ _ _ _ _ _ _ _ _ _ _ _ _ _ _ _ _ _ _ _ _ _ _ _ _ _ _ _ _ _ _ _ _ _ _ _ _ _ _ _ _ _ _ _ _ _ _ _ _ _ _ _ _ _ _ _ _ _ _ _ _ _ _ _ _ _ _ _ _ _ _ _ _ _ _ _ _ _ _ _ _ _ _ _ _ _ _ _ _ _ _ _ _ _ _ _ _ _ _ _ _ _ _ _ _ _ _ _ _ _ _ _ _ _ _ _ _ _ _ _ _ _ _ _ _ _ _ _ _ _ _ _ _ _ _ _ _ _ _ _ _ _ _ _ _ _ _ _ _ _ _ _ _ _ _ _ _ _ _ _ _ _ _ _ _ _ _ _ _ _ _ _ _ _ _ _ (.value) (nm) (ls) (b) (J) (oa) (L) (oc) _ (by simp) HS.out (HW.out.more (by omega) (by omega) (fun _ => HNN.out)) (HM.out) ?_
          simp only [rank]
          omega
        · have HS : Hid (runR S.data.toList ⟨.bare, nm, ls, b, k⟩ = Z) := by
            show _ = _
            rw [← HR.out, run_step (s := ⟨.value, nm, ls, b, k⟩) hg (by simp)]
            congr 1
            unfold stepC
            simp only []
            rw [if_neg h34, if_neg h39, if_neg h62, if_neg hb]
          have t34 := byte_not (z := 34) h34 rfl
          have n34 := byte_not' (z := 34) h34 rfl
          have t39 := byte_not (z := 39) h39 rfl
          have n39 := byte_not' (z := 39) h39 rfl
          have t62 := byte_not (z := 62) h62 rfl
          have n62 := byte_not' (z := 62) h62 rfl
          have HBL := Lib.hid (fun W => rblank_any (c.toNat : Int) W)
          rw [show blI (c.toNat : Int) = false by simpa [blB] using hb] at HBL
          clear hg h34 h39 h62 hb
          go_wp2_with fail
          refine (HBL.out _).mono ?_
          rintro e w' ⟨rfl, rfl⟩
          go_wp2_with fail
          refine hN _ _ _ _ _ _ _ _ _ _ _ _ _ _ _ _ _ _ _ _ _ _ _ _ _ _ _ _ _ _ _ _ _ _ _ _ _ _ _ _ _ _ _ _ _ _ _ _ _ _ _ _ _ _ _ _ _ _ _ _ _ _ _ _ _ _ _ _ _ _ _ _ _ _ _ _ _ _ _ _ _ _ _ _ _ _ _ _ _ _ _ _ _ _ _ _ _ _ _ _ _ _ _ _ _ _ _ _ _ _ _ _ _ _ _ _ _ _ _ _ _ _ _ _ _ _ _ _ _ _ _ _ _ _ _ _ _ _ _ _ _ _ _ _ _ _ _ _ _ _ _ _ _ _ _ _ _ _ _ _ _ _ _ _ _ _ _ _ _ _ _ _ _ _ _ _ _ _ _ _ _ _ _ _ _ _ _ _ _ _ _ _ _ _ _ _ (.bare) (nm) (ls) (b) (k) (oa) (L) (oc) _ (by simp) HS.out (HW.out.more (by omega) (by omega) (fun _ => HNN.out)) (HM.out) ?_
          simp only [rank]
          omega

set_option maxHeartbeats 25600000 in
set_option maxRecDepth 100000 in
theorem round_double (code : Code) (hcode : bodyOf 15 Tryd.f13 = some code) (N E : Act → World → Prop) {x1 x2 x3 x4 x5 x6 x7 x9 x13 x14 x15 x16 x17 x18 x19 x20 x21 x22 x23 x24 x25 x26 x27 x28 x29 x30 x31 x32 x33 x34 x35 x36 x37 x38 x39 x40 x41 x42 x43 x44 x45 x46 x47 x48 x49 x50 x51 x52 x53 x54 x55 x56 x57 x58 x59 x60 x61 x62 x63 x64 x65 x66 x67 x68 x69 x70 x71 x72 x73 x74 x75 x76 x77 x78 x79 x80 x81 x82 x83 x84 x85 x86 x87 x88 x89 x90 x91 x92 x93 x94 x95 x96 x97 x98 x99 x100 x101 x102 x103 x104 x105 x106 x107 x108 x109 x110 x111 x112 x113 x114 x115 x116 x117 x118 x119 x120 x121 x122 x123 x124 x125 x126 x127 x128 x129 x130 x131 x132 x133 x134 x135 x136 x137 x138 x139 x140 x141 x142 x143 x144 x145 x146 x147 x148 x149 x150 x151 x152 x153 x154 x155 x156 x157 x158 x159 x160 x161 x162 x163 x164 x165 x166 x167 x168 x169 x170 x171 x172 x173 x174 x175 x176 x177 x178 x179 x180 x181 x182 x183 x184 x185 x186 x187 x188 x189 x190 x191 x192 x193 x194 x195 x196 x197 x198 x199 x200 x201 x202 x203 x204 x205 x206 x207 x208 x209 x210 x211 x212 x213 x214 x215 x216 x217 x218 x219 x220 x221 x222 x223 x224 x225 x226 x227 x228 x229 x230 x231 x232 x233 x234 x235 x236 x237 x238 x239 x240 x241 x242 x243 x244 x245 x246 x247 x248 x249 x250 x251 x252 x253 x254 x255 x256 x257 x258 x259 x260 x261 x262 x263 x264 x265 x266 x267 x268 x269 x270 x271 x272 x273 x274 x275 x276 x277 x278 x279 x280 x281 x282 x283 x284 x285 x286 x287 x288 x289 x290 x291 x292 x293 x294 x295 x296 x297 x298 x299 x300 x301 x302 x303 x304 x305 x306 x307 x308 x309 x310 x311 x312 x313 x314 : Value} {ds : List Deferred} {wr : World} (S : ByteArray) (p k L oc : Nat) (oa : Option Addr) (nm : List UInt8) (ls : List At) (b : Bool) (kind from' : Int) (Z : RS) (w : World)
    (hs : S.size ≤ 2000) (hlt : k < S.size) (hpB : p < w.heap.size) (HR : Hid (runR S.data.toList ⟨.double, nm, ls, b, k⟩ = Z)) (HW : Hid (Wf S.data.toList ⟨.double, nm, ls, b, k⟩)) (HM : Hid (RdAt w.heap.size p kind from' w nm b ls oa L oc wr))
    (hN : ∀ (u13 u14 u15 u16 u17 u68 u69 u70 u71 u72 u73 u74 u75 u76 u77 u78 u79 u80 u81 u82 u83 u84 u85 u86 u87 u88 u89 u90 u91 u92 u93 u94 u95 u96 u97 u98 u99 u100 u101 u102 u103 u104 u105 u106 u107 u108 u109 u110 u111 u112 u113 u114 u115 u116 u117 u118 u119 u120 u121 u122 u123 u124 u125 u126 u127 u128 u129 u130 u131 u132 u133 u134 u135 u136 u137 u138 u139 u140 u141 u142 u143 u144 u145 u146 u147 u148 u149 u150 u151 u152 u153 u154 u155 u156 u157 u158 u159 u160 u161 u162 u163 u164 u165 u166 u167 u168 u169 u170 u171 u172 u173 u174 u175 u176 u177 u178 u179 u180 u181 u182 u183 u184 u185 u186 u187 u188 u189 u190 u191 u192 u193 u194 u195 u196 u197 u198 u199 u200 u201 u202 u203 u204 u205 u206 u207 u208 u209 u210 u211 u212 u213 u214 u215 u216 u217 u218 u219 u220 u221 u222 u223 u224 u225 u226 u227 u228 u229 u230 u231 u232 u233 u234 u235 u236 u237 u238 u239 u240 u241 u242 u243 u244 u245 u246 u247 u248 u249 u250 u251 u252 u253 u254 u255 u256 u257 u258 : Value) (s' : St) (nm' : List UInt8) (ls' : List At) (b' : Bool) (k' : Nat) (oa' : Option Addr) (L' oc' : Nat) (w' : World), s' ≠ .done → runR S.data.toList ⟨s', nm', ls', b', k'⟩ = Z → Wf S.data.toList ⟨s', nm', ls', b', k'⟩ → RdAt w.heap.size p kind from' w nm' b' ls' oa' L' oc' w' → 2 * (S.size - k') + rank s' < 2 * (S.size - k) + rank .double → N ⟨List.toArray (.string S :: x1 :: x2 :: x3 :: x4 :: x5 :: x6 :: x7 :: .int .i64 (k' : Int) :: x9 :: .pointer (some ⟨p, 0, none⟩) :: .slice oa' L' oc' :: .string (stB s') :: u13 :: u14 :: u15 :: u16 :: u17 :: x18 :: x19 :: x20 :: x21 :: x22 :: x23 :: x24 :: x25 :: x26 :: x27 :: x28 :: x29 :: x30 :: x31 :: x32 :: x33 :: x34 :: x35 :: x36 :: x37 :: x38 :: x39 :: x40 :: x41 :: x42 :: x43 :: x44 :: x45 :: x46 :: x47 :: x48 :: x49 :: x50 :: x51 :: x52 :: x53 :: x54 :: x55 :: x56 :: x57 :: x58 :: x59 :: x60 :: x61 :: x62 :: x63 :: x64 :: x65 :: x66 :: x67 :: u68 :: u69 :: u70 :: u71 :: u72 :: u73 :: u74 :: u75 :: u76 :: u77 :: u78 :: u79 :: u80 :: u81 :: u82 :: u83 :: u84 :: u85 :: u86 :: u87 :: u88 :: u89 :: u90 :: u91 :: u92 :: u93 :: u94 :: u95 :: u96 :: u97 :: u98 :: u99 :: u100 :: u101 :: u102 :: u103 :: u104 :: u105 :: u106 :: u107 :: u108 :: u109 :: u110 :: u111 :: u112 :: u113 :: u114 :: u115 :: u116 :: u117 :: u118 :: u119 :: u120 :: u121 :: u122 :: u123 :: u124 :: u125 :: u126 :: u127 :: u128 :: u129 :: u130 :: u131 :: u132 :: u133 :: u134 :: u135 :: u136 :: u137 :: u138 :: u139 :: u140 :: u141 :: u142 :: u143 :: u144 :: u145 :: u146 :: u147 :: u148 :: u149 :: u150 :: u151 :: u152 :: u153 :: u154 :: u155 :: u156 :: u157 :: u158 :: u159 :: u160 :: u161 :: u162 :: u163 :: u164 :: u165 :: u166 :: u167 :: u168 :: u169 :: u170 :: u171 :: u172 :: u173 :: u174 :: u175 :: u176 :: u177 :: u178 :: u179 :: u180 :: u181 :: u182 :: u183 :: u184 :: u185 :: u186 :: u187 :: u188 :: u189 :: u190 :: u191 :: u192 :: u193 :: u194 :: u195 :: u196 :: u197 :: u198 :: u199 :: u200 :: u201 :: u202 :: u203 :: u204 :: u205 :: u206 :: u207 :: u208 :: u209 :: u210 :: u211 :: u212 :: u213 :: u214 :: u215 :: u216 :: u217 :: u218 :: u219 :: u220 :: u221 :: u222 :: u223 :: u224 :: u225 :: u226 :: u227 :: u228 :: u229 :: u230 :: u231 :: u232 :: u233 :: u234 :: u235 :: u236 :: u237 :: u238 :: u239 :: u240 :: u241 :: u242 :: u243 :: u244 :: u245 :: u246 :: u247 :: u248 :: u249 :: u250 :: u251 :: u252 :: u253 :: u254 :: u255 :: u256 :: u257 :: u258 :: x259 :: x260 :: x261 :: x262 :: x263 :: x264 :: x265 :: x266 :: x267 :: x268 :: x269 :: x270 :: x271 :: x272 :: x273 :: x274 :: x275 :: x276 :: x277 :: x278 :: x279 :: x280 :: x281 :: x282 :: x283 :: x284 :: x285 :: x286 :: x287 :: x288 :: x289 :: x290 :: x291 :: x292 :: x293 :: x294 :: x295 :: x296 :: x297 :: x298 :: x299 :: x300 :: x301 :: x302 :: x303 :: x304 :: x305 :: x306 :: x307 :: x308 :: x309 :: x310 :: x311 :: x312 :: x313 :: x314 :: []), ds⟩ w')
    (hE : ∀ (u13 u14 u15 u16 u17 u68 u69 u70 u71 u72 u73 u74 u75 u76 u77 u78 u79 u80 u81 u82 u83 u84 u85 u86 u87 u88 u89 u90 u91 u92 u93 u94 u95 u96 u97 u98 u99 u100 u101 u102 u103 u104 u105 u106 u107 u108 u109 u110 u111 u112 u113 u114 u115 u116 u117 u118 u119 u120 u121 u122 u123 u124 u125 u126 u127 u128 u129 u130 u131 u132 u133 u134 u135 u136 u137 u138 u139 u140 u141 u142 u143 u144 u145 u146 u147 u148 u149 u150 u151 u152 u153 u154 u155 u156 u157 u158 u159 u160 u161 u162 u163 u164 u165 u166 u167 u168 u169 u170 u171 u172 u173 u174 u175 u176 u177 u178 u179 u180 u181 u182 u183 u184 u185 u186 u187 u188 u189 u190 u191 u192 u193 u194 u195 u196 u197 u198 u199 u200 u201 u202 u203 u204 u205 u206 u207 u208 u209 u210 u211 u212 u213 u214 u215 u216 u217 u218 u219 u220 u221 u222 u223 u224 u225 u226 u227 u228 u229 u230 u231 u232 u233 u234 u235 u236 u237 u238 u239 u240 u241 u242 u243 u244 u245 u246 u247 u248 u249 u250 u251 u252 u253 u254 u255 u256 u257 u258 : Value) (z : RS) (oa' : Option Addr) (L' oc' : Nat) (w' : World), z = Z → Wf S.data.toList z → RdAt w.heap.size p kind from' w z.name z.self z.l oa' L' oc' w' → E ⟨List.toArray (.string S :: x1 :: x2 :: x3 :: x4 :: x5 :: x6 :: x7 :: .int .i64 (z.i : Int) :: x9 :: .pointer (some ⟨p, 0, none⟩) :: .slice oa' L' oc' :: .string (stB z.st) :: u13 :: u14 :: u15 :: u16 :: u17 :: x18 :: x19 :: x20 :: x21 :: x22 :: x23 :: x24 :: x25 :: x26 :: x27 :: x28 :: x29 :: x30 :: x31 :: x32 :: x33 :: x34 :: x35 :: x36 :: x37 :: x38 :: x39 :: x40 :: x41 :: x42 :: x43 :: x44 :: x45 :: x46 :: x47 :: x48 :: x49 :: x50 :: x51 :: x52 :: x53 :: x54 :: x55 :: x56 :: x57 :: x58 :: x59 :: x60 :: x61 :: x62 :: x63 :: x64 :: x65 :: x66 :: x67 :: u68 :: u69 :: u70 :: u71 :: u72 :: u73 :: u74 :: u75 :: u76 :: u77 :: u78 :: u79 :: u80 :: u81 :: u82 :: u83 :: u84 :: u85 :: u86 :: u87 :: u88 :: u89 :: u90 :: u91 :: u92 :: u93 :: u94 :: u95 :: u96 :: u97 :: u98 :: u99 :: u100 :: u101 :: u102 :: u103 :: u104 :: u105 :: u106 :: u107 :: u108 :: u109 :: u110 :: u111 :: u112 :: u113 :: u114 :: u115 :: u116 :: u117 :: u118 :: u119 :: u120 :: u121 :: u122 :: u123 :: u124 :: u125 :: u126 :: u127 :: u128 :: u129 :: u130 :: u131 :: u132 :: u133 :: u134 :: u135 :: u136 :: u137 :: u138 :: u139 :: u140 :: u141 :: u142 :: u143 :: u144 :: u145 :: u146 :: u147 :: u148 :: u149 :: u150 :: u151 :: u152 :: u153 :: u154 :: u155 :: u156 :: u157 :: u158 :: u159 :: u160 :: u161 :: u162 :: u163 :: u164 :: u165 :: u166 :: u167 :: u168 :: u169 :: u170 :: u171 :: u172 :: u173 :: u174 :: u175 :: u176 :: u177 :: u178 :: u179 :: u180 :: u181 :: u182 :: u183 :: u184 :: u185 :: u186 :: u187 :: u188 :: u189 :: u190 :: u191 :: u192 :: u193 :: u194 :: u195 :: u196 :: u197 :: u198 :: u199 :: u200 :: u201 :: u202 :: u203 :: u204 :: u205 :: u206 :: u207 :: u208 :: u209 :: u210 :: u211 :: u212 :: u213 :: u214 :: u215 :: u216 :: u217 :: u218 :: u219 :: u220 :: u221 :: u222 :: u223 :: u224 :: u225 :: u226 :: u227 :: u228 :: u229 :: u230 :: u231 :: u232 :: u233 :: u234 :: u235 :: u236 :: u237 :: u238 :: u239 :: u240 :: u241 :: u242 :: u243 :: u244 :: u245 :: u246 :: u247 :: u248 :: u249 :: u250 :: u251 :: u252 :: u253 :: u254 :: u255 :: u256 :: u257 :: u258 :: x259 :: x260 :: x261 :: x262 :: x263 :: x264 :: x265 :: x266 :: x267 :: x268 :: x269 :: x270 :: x271 :: x272 :: x273 :: x274 :: x275 :: x276 :: x277 :: x278 :: x279 :: x280 :: x281 :: x282 :: x283 :: x284 :: x285 :: x286 :: x287 :: x288 :: x289 :: x290 :: x291 :: x292 :: x293 :: x294 :: x295 :: x296 :: x297 :: x298 :: x299 :: x300 :: x301 :: x302 :: x303 :: x304 :: x305 :: x306 :: x307 :: x308 :: x309 :: x310 :: x311 :: x312 :: x313 :: x314 :: []), ds⟩ w') :
    code.wp Tryd.prog (RoundQ N E) ⟨List.toArray (.string S :: x1 :: x2 :: x3 :: x4 :: x5 :: x6 :: x7 :: .int .i64 (k : Int) :: x9 :: .pointer (some ⟨p, 0, none⟩) :: .slice oa L oc :: .string (stB .double) :: x13 :: x14 :: x15 :: x16 :: x17 :: x18 :: x19 :: x20 :: x21 :: x22 :: x23 :: x24 :: x25 :: x26 :: x27 :: x28 :: x29 :: x30 :: x31 :: x32 :: x33 :: x34 :: x35 :: x36 :: x37 :: x38 :: x39 :: x40 :: x41 :: x42 :: x43 :: x44 :: x45 :: x46 :: x47 :: x48 :: x49 :: x50 :: x51 :: x52 :: x53 :: x54 :: x55 :: x56 :: x57 :: x58 :: x59 :: x60 :: x61 :: x62 :: x63 :: x64 :: x65 :: x66 :: x67 :: x68 :: x69 :: x70 :: x71 :: x72 :: x73 :: x74 :: x75 :: x76 :: x77 :: x78 :: x79 :: x80 :: x81 :: x82 :: x83 :: x84 :: x85 :: x86 :: x87 :: x88 :: x89 :: x90 :: x91 :: x92 :: x93 :: x94 :: x95 :: x96 :: x97 :: x98 :: x99 :: x100 :: x101 :: x102 :: x103 :: x104 :: x105 :: x106 :: x107 :: x108 :: x109 :: x110 :: x111 :: x112 :: x113 :: x114 :: x115 :: x116 :: x117 :: x118 :: x119 :: x120 :: x121 :: x122 :: x123 :: x124 :: x125 :: x126 :: x127 :: x128 :: x129 :: x130 :: x131 :: x132 :: x133 :: x134 :: x135 :: x136 :: x137 :: x138 :: x139 :: x140 :: x141 :: x142 :: x143 :: x144 :: x145 :: x146 :: x147 :: x148 :: x149 :: x150 :: x151 :: x152 :: x153 :: x154 :: x155 :: x156 :: x157 :: x158 :: x159 :: x160 :: x161 :: x162 :: x163 :: x164 :: x165 :: x166 :: x167 :: x168 :: x169 :: x170 :: x171 :: x172 :: x173 :: x174 :: x175 :: x176 :: x177 :: x178 :: x179 :: x180 :: x181 :: x182 :: x183 :: x184 :: x185 :: x186 :: x187 :: x188 :: x189 :: x190 :: x191 :: x192 :: x193 :: x194 :: x195 :: x196 :: x197 :: x198 :: x199 :: x200 :: x201 :: x202 :: x203 :: x204 :: x205 :: x206 :: x207 :: x208 :: x209 :: x210 :: x211 :: x212 :: x213 :: x214 :: x215 :: x216 :: x217 :: x218 :: x219 :: x220 :: x221 :: x222 :: x223 :: x224 :: x225 :: x226 :: x227 :: x228 :: x229 :: x230 :: x231 :: x232 :: x233 :: x234 :: x235 :: x236 :: x237 :: x238 :: x239 :: x240 :: x241 :: x242 :: x243 :: x244 :: x245 :: x246 :: x247 :: x248 :: x249 :: x250 :: x251 :: x252 :: x253 :: x254 :: x255 :: x256 :: x257 :: x258 :: x259 :: x260 :: x261 :: x262 :: x263 :: x264 :: x265 :: x266 :: x267 :: x268 :: x269 :: x270 :: x271 :: x272 :: x273 :: x274 :: x275 :: x276 :: x277 :: x278 :: x279 :: x280 :: x281 :: x282 :: x283 :: x284 :: x285 :: x286 :: x287 :: x288 :: x289 :: x290 :: x291 :: x292 :: x293 :: x294 :: x295 :: x296 :: x297 :: x298 :: x299 :: x300 :: x301 :: x302 :: x303 :: x304 :: x305 :: x306 :: x307 :: x308 :: x309 :: x310 :: x311 :: x312 :: x313 :: x314 :: []), ds⟩ wr := by
  have hlit := Option.some.inj hcode.symm
  subst hlit
  have hsl : Hid (S.data.toList.length = S.size) := by show _ = _; simp
  have hkS : k ≤ S.size := by omega
  have hki : (k : Int) < S.size := by omega
  obtain ⟨c, hc⟩ : ∃ c, S[k] = c := ⟨_, rfl⟩
  have hg := at_get hlt
  rw [hc] at hg
  obtain ⟨J, hJ⟩ : ∃ J, k + 1 = J := ⟨_, rfl⟩
  have hJi : (k : Int) + 1 = J := by omega
  have hJk : (J : Int) - 1 = k := by omega
  have hJS : J ≤ S.size := by omega
  have hJl : J ≤ S.data.toList.length := by rw [hsl.out]; exact hJS
  rw [show stB .double = ⟨#[100, 111, 117, 98, 108, 101]⟩ from rfl]
  by_cases h34 : c = 34
  · have HS : Hid (runR S.data.toList ⟨.ahead, nm, ls, b, J⟩ = Z) := by
      show _ = _
      rw [← HR.out, run_step (s := ⟨.double, nm, ls, b, k⟩) hg (by simp), step_val (.inl rfl)]
      rw [if_pos (by rw [h34]; rfl), if_neg (by rw [h34]; decide), hJ]
    have t34 := byte_is (z := 34) h34 rfl
    have n34 := byte_is' (z := 34) h34 rfl
    have hne : ls ≠ [] := HW.out.ne rfl
    obtain ⟨pre, ⟨an, av⟩, hls⟩ := split_last hne
    obtain ⟨P, hP⟩ : ∃ P, pre.length = P := ⟨_, rfl⟩
    have hLP : L = P + 1 := by rw [← HM.out.len, hls, List.length_append, hP]; rfl
    have HLS := Lib.hid hls
    have HPP := Lib.hid hP
    obtain ⟨g, hoa, hgB, hgl, ya, yv, yf⟩ := last_at (p := pre) (an := an) (av := av) (by have := HM.out.own; rw [hls] at this; exact this) (by rw [hP]; exact hLP)
    rw [hP] at ya yv
    have hPi : (L : Int) - 1 = P := by omega
    have hPl : (P : Int) < L := by omega
    have hPL : P < L := by omega
    have hP0 : (0 : Int) ≤ (P : Int) := by omega
    have hLb : L ≤ 3000 := by have h1 := HW.out.l; have h2 := HM.out.len; simp only [] at h1; omega
    have hbnd := HW.out.at' (an, av) (by rw [hls]; simp)
    simp only [] at hbnd
    obtain ⟨anb, hanb⟩ : ∃ X : ByteArray, (⟨an.toArray⟩ : ByteArray) = X := ⟨_, rfl⟩
    obtain ⟨avb, havb⟩ : ∃ X : ByteArray, (⟨av.toArray⟩ : ByteArray) = X := ⟨_, rfl⟩
    have hans : anb.size ≤ 6000 := by rw [← hanb]; show an.toArray.size ≤ _; rw [List.size_toArray]; omega
    have havs : avb.size ≤ 8000 := by rw [← havb]; show av.toArray.size ≤ _; rw [List.size_toArray]; omega
    rw [hanb] at ya
    rw [havb] at yv
    have yfn := yf (P * 2)
    have yfv := yf (P * 2 + 1)
    have HANB := Lib.hid hanb
    have HAVB := Lib.hid havb
    have HGB := Lib.hid hgB
    have HYF := Lib.hid yf
    subst hoa
    have hgw := hgl
    clear hls hP hanb havb yf hbnd
    clear hg h34 ya yv yfn yfv hne hLP hans havs
    go_wp2_with fail
    refine hN _ _ _ _ _ _ _ _ _ _ _ _ _ _ _ _ _ _ _ _ _ _ _ _ _ _ _ _ _ _ _ _ _ _ _ _ _ _ _ _ _ _ _ _ _ _ _ _ _ _ _ _ _ _ _ _ _ _ _ _ _ _ _ _ _ _ _ _ _ _ _ _ _ _ _ _ _ _ _ _ _ _ _ _ _ _ _ _ _ _ _ _ _ _ _ _ _ _ _ _ _ _ _ _ _ _ _ _ _ _ _ _ _ _ _ _ _ _ _ _ _ _ _ _ _ _ _ _ _ _ _ _ _ _ _ _ _ _ _ _ _ _ _ _ _ _ _ _ _ _ _ _ _ _ _ _ _ _ _ _ _ _ _ _ _ _ _ _ _ _ _ _ _ _ _ _ _ _ _ _ _ _ _ _ _ _ _ _ _ _ _ _ _ _ _ _ (.ahead) (nm) (ls) (b) (J) (some ⟨g, 0, none⟩) (L) (oc) _ (by simp) HS.out (HW.out.more (by omega) (by omega) (by simp [needs])) (HM.out) ?_
    simp only [rank]
    omega
  · have hend : ends .double c = false := by simpa [ends] using h34
    have t34 := byte_not (z := 34) h34 rfl
    have n34 := byte_not' (z := 34) h34 rfl
    have HFI := Lib.hid (fun W => rfind_in S k true W hlt (by omega))
    have hne : ls ≠ [] := HW.out.ne rfl
    obtain ⟨pre, ⟨an, av⟩, hls⟩ := split_last hne
    obtain ⟨P, hP⟩ : ∃ P, pre.length = P := ⟨_, rfl⟩
    have hLP : L = P + 1 := by rw [← HM.out.len, hls, List.length_append, hP]; rfl
    have HLS := Lib.hid hls
    have HPP := Lib.hid hP
    obtain ⟨g, hoa, hgB, hgl, ya, yv, yf⟩ := last_at (p := pre) (an := an) (av := av) (by have := HM.out.own; rw [hls] at this; exact this) (by rw [hP]; exact hLP)
    rw [hP] at ya yv
    have hPi : (L : Int) - 1 = P := by omega
    have hPl : (P : Int) < L := by omega
    have hPL : P < L := by omega
    have hP0 : (0 : Int) ≤ (P : Int) := by omega
    have hLb : L ≤ 3000 := by have h1 := HW.out.l; have h2 := HM.out.len; simp only [] at h1; omega
    have hbnd := HW.out.at' (an, av) (by rw [hls]; simp)
    simp only [] at hbnd
    obtain ⟨anb, hanb⟩ : ∃ X : ByteArray, (⟨an.toArray⟩ : ByteArray) = X := ⟨_, rfl⟩
    obtain ⟨avb, havb⟩ : ∃ X : ByteArray, (⟨av.toArray⟩ : ByteArray) = X := ⟨_, rfl⟩
    have hans : anb.size ≤ 6000 := by rw [← hanb]; show an.toArray.size ≤ _; rw [List.size_toArray]; omega
    have havs : avb.size ≤ 8000 := by rw [← havb]; show av.toArray.size ≤ _; rw [List.size_toArray]; omega
    rw [hanb] at ya
    rw [havb] at yv
    have yfn := yf (P * 2)
    have yfv := yf (P * 2 + 1)
    have HANB := Lib.hid hanb
    have HAVB := Lib.hid havb
    have HGB := Lib.hid hgB
    have HYF := Lib.hid yf
    subst hoa
    have hgw := hgl
    clear hls hP hanb havb yf hbnd
    cases hf : findS (S.data.toList.drop k) true with
    | some xx =>
      obtain ⟨ch, j⟩ := xx
      have hbd := find_bounds hf
      rw [List.length_drop, hsl.out] at hbd
      obtain ⟨J2, hJ2⟩ : ∃ J2, k + j = J2 := ⟨_, rfl⟩
      have hec := enc_len ch
      have e1 : ret3 k (some (ch, j)) = .tuple #[.string (Utf8.encode ch), .int .i64 (J2 : Int), .bool true] := by rw [← hJ2]; rfl
      rw [hf, e1] at HFI
      obtain ⟨x, hx⟩ : ∃ x, Utf8.encode ch = x := ⟨_, rfl⟩
      rw [hx] at HFI hec
      have hxs : x.size ≤ 4 := by simpa using hec
      have HS : Hid (runR S.data.toList ⟨.double, nm, (addV ls x.data.toList), b, J2⟩ = Z) := by
        show _ = _
        rw [← HR.out, run_step (s := ⟨.double, nm, ls, b, k⟩) hg (by simp), step_val (.inl rfl)]
        rw [if_neg (by rw [hend]; simp), hf]
        simp only []
        rw [hx, hJ2]
      have HWN : Hid (Wf S.data.toList ⟨.double, nm, addV ls x.data.toList, b, J2⟩) := by
        have := HW.out.addV (k := j) (by rw [hsl.out]; omega) (HW.out.ne rfl) (x := x.data.toList) (by omega)
        rw [hJ2] at this
        exact this
      obtain ⟨nx, hnx⟩ : ∃ X, avb ++ x = X := ⟨_, rfl⟩
      have HNX : Hid (nx = ⟨(av ++ x.data.toList).toArray⟩) := by
        show _ = _
        rw [← hnx, ← HAVB.out]
        apply ByteArray.ext
        apply Array.ext'
        simp [ByteArray.data_append]
      have HYV := Lib.hid yv
      have HJ2 : Hid (k + 3 ≤ J2 ∧ J2 ≤ S.size) := by show _ ∧ _; omega
      clear hf hbd hec hg hend ya yfn hne hx hJ2 hLP h34
      go_wp2_with fail
      refine (HFI.out _).mono ?_
      rintro e w1 ⟨rfl, b1⟩
      have y1 : w1.cell? ⟨g, P * 2 + 1, none⟩ = some (.string avb) := (b1.cell (p := ⟨g, P * 2 + 1, none⟩) (by exact hgw)).trans HYV.out
      have f1 : w1.frozen? ⟨g, P * 2 + 1, none⟩ = false := (b1.frozen (p := ⟨g, P * 2 + 1, none⟩) (by exact hgw)).trans (HYF.out _)
      have HB1 := Lib.hid b1
      clear b1
      go_wp2_with fail
      refine hN _ _ _ _ _ _ _ _ _ _ _ _ _ _ _ _ _ _ _ _ _ _ _ _ _ _ _ _ _ _ _ _ _ _ _ _ _ _ _ _ _ _ _ _ _ _ _ _ _ _ _ _ _ _ _ _ _ _ _ _ _ _ _ _ _ _ _ _ _ _ _ _ _ _ _ _ _ _ _ _ _ _ _ _ _ _ _ _ _ _ _ _ _ _ _ _ _ _ _ _ _ _ _ _ _ _ _ _ _ _ _ _ _ _ _ _ _ _ _ _ _ _ _ _ _ _ _ _ _ _ _ _ _ _ _ _ _ _ _ _ _ _ _ _ _ _ _ _ _ _ _ _ _ _ _ _ _ _ _ _ _ _ _ _ _ _ _ _ _ _ _ _ _ _ _ _ _ _ _ _ _ _ _ _ _ _ _ _ _ _ _ _ _ _ _ _ (.double) (nm) (addV ls x.data.toList) (b) (J2) (some ⟨g, 0, none⟩) (L) (oc) _ (by simp) HS.out (HWN.out) ?_ ?_
      · have hm := HM.out.below' HB1.out
        have ho := owns_set (k := P * 2 + 1) hm.own rfl (.string nx)
        rw [HLS.out, HNX.out, ← HPP.out, attC_setV] at ho
        refine ⟨(Below.heap_setCell _ ⟨g, P * 2 + 1, none⟩ _ p (by show p ≠ g; have := HGB.out; omega)).trans hm.tok, ?_, by rw [HLS.out, addV_snoc, ← hm.len, HLS.out]; simp, by have := hm.size; simp [World.setCell]; exact this, Below.setCell (by first | exact hm.below | exact hm.below.drew) (by show p ≤ g; have := HGB.out; omega) _⟩
        rw [HLS.out, addV_snoc, HNX.out, ← HPP.out]
        exact ho
      · have := HJ2.out
        simp only [rank]
        omega
    | none =>
      have e1 : ret3 k none = .tuple #[.string ⟨#[]⟩, .int .i64 0, .bool false] := rfl
      rw [hf, e1] at HFI
      by_cases h0 : c = 0
      · have t0 := byte_is (z := 0) h0 rfl
        have HS : Hid (runR S.data.toList ⟨.double, nm, (addV ls fffd), b, J⟩ = Z) := by
          show _ = _
          rw [← HR.out, run_step (s := ⟨.double, nm, ls, b, k⟩) hg (by simp), step_val (.inl rfl)]
          rw [if_neg (by rw [hend]; simp), hf]
          simp only []
          rw [if_pos h0, hJ]
        have HWN : Hid (Wf S.data.toList ⟨.double, nm, addV ls fffd, b, J⟩) := by
          have := HW.out.addV (k := 1) (by rw [hsl.out]; omega) (HW.out.ne rfl) (x := fffd) (by decide)
          rw [hJ] at this
          exact this
        obtain ⟨nx, hnx⟩ : ∃ X, avb ++ (⟨#[239, 191, 189]⟩ : ByteArray) = X := ⟨_, rfl⟩
        have HNX : Hid (nx = ⟨(av ++ fffd).toArray⟩) := by
          show _ = _
          rw [← hnx, ← HAVB.out]
          apply ByteArray.ext
          apply Array.ext'
          simp [ByteArray.data_append, fffd]
        have HYV := Lib.hid yv
        clear hf hg hend ya yfn hne h0 hLP h34
        go_wp2_with fail
        refine (HFI.out _).mono ?_
        rintro e w1 ⟨rfl, b1⟩
        have y1 : w1.cell? ⟨g, P * 2 + 1, none⟩ = some (.string avb) := (b1.cell (p := ⟨g, P * 2 + 1, none⟩) (by exact hgw)).trans HYV.out
        have f1 : w1.frozen? ⟨g, P * 2 + 1, none⟩ = false := (b1.frozen (p := ⟨g, P * 2 + 1, none⟩) (by exact hgw)).trans (HYF.out _)
        have HB1 := Lib.hid b1
        clear b1
        go_wp2_with fail
        refine hN _ _ _ _ _ _ _ _ _ _ _ _ _ _ _ _ _ _ _ _ _ _ _ _ _ _ _ _ _ _ _ _ _ _ _ _ _ _ _ _ _ _ _ _ _ _ _ _ _ _ _ _ _ _ _ _ _ _ _ _ _ _ _ _ _ _ _ _ _ _ _ _ _ _ _ _ _ _ _ _ _ _ _ _ _ _ _ _ _ _ _ _ _ _ _ _ _ _ _ _ _ _ _ _ _ _ _ _ _ _ _ _ _ _ _ _ _ _ _ _ _ _ _ _ _ _ _ _ _ _ _ _ _ _ _ _ _ _ _ _ _ _ _ _ _ _ _ _ _ _ _ _ _ _ _ _ _ _ _ _ _ _ _ _ _ _ _ _ _ _ _ _ _ _ _ _ _ _ _ _ _ _ _ _ _ _ _ _ _ _ _ _ _ _ _ _ (.double) (nm) (addV ls fffd) (b) (J) (some ⟨g, 0, none⟩) (L) (oc) _ (by simp) HS.out (HWN.out) ?_ ?_
        · have hm := HM.out.below' HB1.out
          have ho := owns_set (k := P * 2 + 1) hm.own rfl (.string nx)
          rw [HLS.out, HNX.out, ← HPP.out, attC_setV] at ho
          refine ⟨(Below.heap_setCell _ ⟨g, P * 2 + 1, none⟩ _ p (by show p ≠ g; have := HGB.out; omega)).trans hm.tok, ?_, by rw [HLS.out, addV_snoc, ← hm.len, HLS.out]; simp, by have := hm.size; simp [World.setCell]; exact this, Below.setCell (by first | exact hm.below | exact hm.below.drew) (by show p ≤ g; have := HGB.out; omega) _⟩
          rw [HLS.out, addV_snoc, HNX.out, ← HPP.out]
          exact ho
        · simp only [rank]
          omega
      · have t0 := byte_not (z := 0) h0 rfl
        have HS : Hid (runR S.data.toList ⟨.double, nm, (addV ls [c]), b, J⟩ = Z) := by
          show _ = _
          rw [← HR.out, run_step (s := ⟨.double, nm, ls, b, k⟩) hg (by simp), step_val (.inl rfl)]
          rw [if_neg (by rw [hend]; simp), hf]
          simp only []
          rw [if_neg h0, hJ]
        have HWN : Hid (Wf S.data.toList ⟨.double, nm, addV ls [c], b, J⟩) := by
          have := HW.out.addV (k := 1) (by rw [hsl.out]; omega) (HW.out.ne rfl) (x := [c]) (by simp)
          rw [hJ] at this
          exact this
        obtain ⟨nx, hnx⟩ : ∃ X, avb ++ (⟨#[c]⟩ : ByteArray) = X := ⟨_, rfl⟩
        have hcs : (⟨#[c]⟩ : ByteArray).size = 1 := rfl
        have HNX : Hid (nx = ⟨(av ++ [c]).toArray⟩) := by
          show _ = _
          rw [← hnx, ← HAVB.out]
          apply ByteArray.ext
          apply Array.ext'
          simp [ByteArray.data_append]
        have HYV := Lib.hid yv
        clear hf hg hend ya yfn hne h0 hLP h34
        go_wp2_with fail
        refine (HFI.out _).mono ?_
        rintro e w1 ⟨rfl, b1⟩
        have y1 : w1.cell? ⟨g, P * 2 + 1, none⟩ = some (.string avb) := (b1.cell (p := ⟨g, P * 2 + 1, none⟩) (by exact hgw)).trans HYV.out
        have f1 : w1.frozen? ⟨g, P * 2 + 1, none⟩ = false := (b1.frozen (p := ⟨g, P * 2 + 1, none⟩) (by exact hgw)).trans (HYF.out _)
        have hg1 : g < w1.heap.size := Nat.lt_of_lt_of_le hgw b1.size
        have hng : ¬ g = w1.heap.size := by omega
        have hcv := conv_oneD w1 c
        have hba : Below w1.heap.size w1 (w1.alloc (.cells #[.int .u8 (c.toNat : Int)] 5)).drew := ((Below.refl w1.heap.size w1).alloc (Nat.le_refl _) _).drew
        have y2 : (w1.alloc (.cells #[.int .u8 (c.toNat : Int)] 5)).drew.cell? ⟨g, P * 2 + 1, none⟩ = some (.string avb) := (hba.cell (p := ⟨g, P * 2 + 1, none⟩) (by exact hg1)).trans y1
        have f2 : (w1.alloc (.cells #[.int .u8 (c.toNat : Int)] 5)).drew.frozen? ⟨g, P * 2 + 1, none⟩ = false := (hba.frozen (p := ⟨g, P * 2 + 1, none⟩) (by exact hg1)).trans f1
        have hlim : ¬ 9223372036854775807 < avb.size + 1 := by omega
        clear hba
        have HB1 := Lib.hid b1
        have HG1 := Lib.hid hg1
        clear b1 hg1
        go_wp2_with fail
        go_region
        all_goals
          go_wp2_with fail
          refine hN _ _ _ _ _ _ _ _ _ _ _ _ _ _ _ _ _ _ _ _ _ _ _ _ _ _ _ _ _ _ _ _ _ _ _ _ _ _ _ _ _ _ _ _ _ _ _ _ _ _ _ _ _ _ _ _ _ _ _ _ _ _ _ _ _ _ _ _ _ _ _ _ _ _ _ _ _ _ _ _ _ _ _ _ _ _ _ _ _ _ _ _ _ _ _ _ _ _ _ _ _ _ _ _ _ _ _ _ _ _ _ _ _ _ _ _ _ _ _ _ _ _ _ _ _ _ _ _ _ _ _ _ _ _ _ _ _ _ _ _ _ _ _ _ _ _ _ _ _ _ _ _ _ _ _ _ _ _ _ _ _ _ _ _ _ _ _ _ _ _ _ _ _ _ _ _ _ _ _ _ _ _ _ _ _ _ _ _ _ _ _ _ _ _ _ _ (.double) (nm) (addV ls [c]) (b) (J) (some ⟨g, 0, none⟩) (L) (oc) _ (by simp) HS.out (HWN.out) ?_ ?_
          · have hm0 := HM.out.below' HB1.out
            have hm := hm0.below' ((Below.refl w1.heap.size w1).alloc (Nat.le_refl _) (.cells #[.int .u8 (c.toNat : Int)] 5))
            have ho := owns_set (k := P * 2 + 1) hm.own rfl (.string nx)
            rw [HLS.out, HNX.out, ← HPP.out, attC_setV] at ho
            refine ⟨(Below.heap_setCell _ ⟨g, P * 2 + 1, none⟩ _ p (by show p ≠ g; have := HGB.out; omega)).trans (by exact hm.tok), ?_, by rw [HLS.out, addV_snoc, ← hm.len, HLS.out]; simp, by have := hm.size; simp [World.setCell] at this ⊢; exact this, (by first | exact hm.below.drew.setCell (by show p ≤ g; have := HGB.out; omega) _ | exact (hm.below.setCell (by show p ≤ g; have := HGB.out; omega) _).drew | exact hm.below.setCell (by show p ≤ g; have := HGB.out; omega) _)⟩
            rw [HLS.out, addV_snoc, HNX.out, ← HPP.out]
            exact ho
          · simp only [rank]
            omega

set_option maxHeartbeats 25600000 in
set_option maxRecDepth 100000 in
theorem round_single (code : Code) (hcode : bodyOf 15 Tryd.f13 = some code) (N E : Act → World → Prop) {x1 x2 x3 x4 x5 x6 x7 x9 x13 x14 x15 x16 x17 x18 x19 x20 x21 x22 x23 x24 x25 x26 x27 x28 x29 x30 x31 x32 x33 x34 x35 x36 x37 x38 x39 x40 x41 x42 x43 x44 x45 x46 x47 x48 x49 x50 x51 x52 x53 x54 x55 x56 x57 x58 x59 x60 x61 x62 x63 x64 x65 x66 x67 x68 x69 x70 x71 x72 x73 x74 x75 x76 x77 x78 x79 x80 x81 x82 x83 x84 x85 x86 x87 x88 x89 x90 x91 x92 x93 x94 x95 x96 x97 x98 x99 x100 x101 x102 x103 x104 x105 x106 x107 x108 x109 x110 x111 x112 x113 x114 x115 x116 x117 x118 x119 x120 x121 x122 x123 x124 x125 x126 x127 x128 x129 x130 x131 x132 x133 x134 x135 x136 x137 x138 x139 x140 x141 x142 x143 x144 x145 x146 x147 x148 x149 x150 x151 x152 x153 x154 x155 x156 x157 x158 x159 x160 x161 x162 x163 x164 x165 x166 x167 x168 x169 x170 x171 x172 x173 x174 x175 x176 x177 x178 x179 x180 x181 x182 x183 x184 x185 x186 x187 x188 x189 x190 x191 x192 x193 x194 x195 x196 x197 x198 x199 x200 x201 x202 x203 x204 x205 x206 x207 x208 x209 x210 x211 x212 x213 x214 x215 x216 x217 x218 x219 x220 x221 x222 x223 x224 x225 x226 x227 x228 x229 x230 x231 x232 x233 x234 x235 x236 x237 x238 x239 x240 x241 x242 x243 x244 x245 x246 x247 x248 x249 x250 x251 x252 x253 x254 x255 x256 x257 x258 x259 x260 x261 x262 x263 x264 x265 x266 x267 x268 x269 x270 x271 x272 x273 x274 x275 x276 x277 x278 x279 x280 x281 x282 x283 x284 x285 x286 x287 x288 x289 x290 x291 x292 x293 x294 x295 x296 x297 x298 x299 x300 x301 x302 x303 x304 x305 x306 x307 x308 x309 x310 x311 x312 x313 x314 : Value} {ds : List Deferred} {wr : World} (S : ByteArray) (p k L oc : Nat) (oa : Option Addr) (nm : List UInt8) (ls : List At) (b : Bool) (kind from' : Int) (Z : RS) (w : World)
    (hs : S.size ≤ 2000) (hlt : k < S.size) (hpB : p < w.heap.size) (HR : Hid (runR S.data.toList ⟨.single, nm, ls, b, k⟩ = Z)) (HW : Hid (Wf S.data.toList ⟨.single, nm, ls, b, k⟩)) (HM : Hid (RdAt w.heap.size p kind from' w nm b ls oa L oc wr))
    (hN : ∀ (u13 u14 u15 u16 u17 u68 u69 u70 u71 u72 u73 u74 u75 u76 u77 u78 u79 u80 u81 u82 u83 u84 u85 u86 u87 u88 u89 u90 u91 u92 u93 u94 u95 u96 u97 u98 u99 u100 u101 u102 u103 u104 u105 u106 u107 u108 u109 u110 u111 u112 u113 u114 u115 u116 u117 u118 u119 u120 u121 u122 u123 u124 u125 u126 u127 u128 u129 u130 u131 u132 u133 u134 u135 u136 u137 u138 u139 u140 u141 u142 u143 u144 u145 u146 u147 u148 u149 u150 u151 u152 u153 u154 u155 u156 u157 u158 u159 u160 u161 u162 u163 u164 u165 u166 u167 u168 u169 u170 u171 u172 u173 u174 u175 u176 u177 u178 u179 u180 u181 u182 u183 u184 u185 u186 u187 u188 u189 u190 u191 u192 u193 u194 u195 u196 u197 u198 u199 u200 u201 u202 u203 u204 u205 u206 u207 u208 u209 u210 u211 u212 u213 u214 u215 u216 u217 u218 u219 u220 u221 u222 u223 u224 u225 u226 u227 u228 u229 u230 u231 u232 u233 u234 u235 u236 u237 u238 u239 u240 u241 u242 u243 u244 u245 u246 u247 u248 u249 u250 u251 u252 u253 u254 u255 u256 u257 u258 : Value) (s' : St) (nm' : List UInt8) (ls' : List At) (b' : Bool) (k' : Nat) (oa' : Option Addr) (L' oc' : Nat) (w' : World), s' ≠ .done → runR S.data.toList ⟨s', nm', ls', b', k'⟩ = Z → Wf S.data.toList ⟨s', nm', ls', b', k'⟩ → RdAt w.heap.size p kind from' w nm' b' ls' oa' L' oc' w' → 2 * (S.size - k') + rank s' < 2 * (S.size - k) + rank .single → N ⟨List.toArray (.string S :: x1 :: x2 :: x3 :: x4 :: x5 :: x6 :: x7 :: .int .i64 (k' : Int) :: x9 :: .pointer (some ⟨p, 0, none⟩) :: .slice oa' L' oc' :: .string (stB s') :: u13 :: u14 :: u15 :: u16 :: u17 :: x18 :: x19 :: x20 :: x21 :: x22 :: x23 :: x24 :: x25 :: x26 :: x27 :: x28 :: x29 :: x30 :: x31 :: x32 :: x33 :: x34 :: x35 :: x36 :: x37 :: x38 :: x39 :: x40 :: x41 :: x42 :: x43 :: x44 :: x45 :: x46 :: x47 :: x48 :: x49 :: x50 :: x51 :: x52 :: x53 :: x54 :: x55 :: x56 :: x57 :: x58 :: x59 :: x60 :: x61 :: x62 :: x63 :: x64 :: x65 :: x66 :: x67 :: u68 :: u69 :: u70 :: u71 :: u72 :: u73 :: u74 :: u75 :: u76 :: u77 :: u78 :: u79 :: u80 :: u81 :: u82 :: u83 :: u84 :: u85 :: u86 :: u87 :: u88 :: u89 :: u90 :: u91 :: u92 :: u93 :: u94 :: u95 :: u96 :: u97 :: u98 :: u99 :: u100 :: u101 :: u102 :: u103 :: u104 :: u105 :: u106 :: u107 :: u108 :: u109 :: u110 :: u111 :: u112 :: u113 :: u114 :: u115 :: u116 :: u117 :: u118 :: u119 :: u120 :: u121 :: u122 :: u123 :: u124 :: u125 :: u126 :: u127 :: u128 :: u129 :: u130 :: u131 :: u132 :: u133 :: u134 :: u135 :: u136 :: u137 :: u138 :: u139 :: u140 :: u141 :: u142 :: u143 :: u144 :: u145 :: u146 :: u147 :: u148 :: u149 :: u150 :: u151 :: u152 :: u153 :: u154 :: u155 :: u156 :: u157 :: u158 :: u159 :: u160 :: u161 :: u162 :: u163 :: u164 :: u165 :: u166 :: u167 :: u168 :: u169 :: u170 :: u171 :: u172 :: u173 :: u174 :: u175 :: u176 :: u177 :: u178 :: u179 :: u180 :: u181 :: u182 :: u183 :: u184 :: u185 :: u186 :: u187 :: u188 :: u189 :: u190 :: u191 :: u192 :: u193 :: u194 :: u195 :: u196 :: u197 :: u198 :: u199 :: u200 :: u201 :: u202 :: u203 :: u204 :: u205 :: u206 :: u207 :: u208 :: u209 :: u210 :: u211 :: u212 :: u213 :: u214 :: u215 :: u216 :: u217 :: u218 :: u219 :: u220 :: u221 :: u222 :: u223 :: u224 :: u225 :: u226 :: u227 :: u228 :: u229 :: u230 :: u231 :: u232 :: u233 :: u234 :: u235 :: u236 :: u237 :: u238 :: u239 :: u240 :: u241 :: u242 :: u243 :: u244 :: u245 :: u246 :: u247 :: u248 :: u249 :: u250 :: u251 :: u252 :: u253 :: u254 :: u255 :: u256 :: u257 :: u258 :: x259 :: x260 :: x261 :: x262 :: x263 :: x264 :: x265 :: x266 :: x267 :: x268 :: x269 :: x270 :: x271 :: x272 :: x273 :: x274 :: x275 :: x276 :: x277 :: x278 :: x279 :: x280 :: x281 :: x282 :: x283 :: x284 :: x285 :: x286 :: x287 :: x288 :: x289 :: x290 :: x291 :: x292 :: x293 :: x294 :: x295 :: x296 :: x297 :: x298 :: x299 :: x300 :: x301 :: x302 :: x303 :: x304 :: x305 :: x306 :: x307 :: x308 :: x309 :: x310 :: x311 :: x312 :: x313 :: x314 :: []), ds⟩ w')
    (hE : ∀ (u13 u14 u15 u16 u17 u68 u69 u70 u71 u72 u73 u74 u75 u76 u77 u78 u79 u80 u81 u82 u83 u84 u85 u86 u87 u88 u89 u90 u91 u92 u93 u94 u95 u96 u97 u98 u99 u100 u101 u102 u103 u104 u105 u106 u107 u108 u109 u110 u111 u112 u113 u114 u115 u116 u117 u118 u119 u120 u121 u122 u123 u124 u125 u126 u127 u128 u129 u130 u131 u132 u133 u134 u135 u136 u137 u138 u139 u140 u141 u142 u143 u144 u145 u146 u147 u148 u149 u150 u151 u152 u153 u154 u155 u156 u157 u158 u159 u160 u161 u162 u163 u164 u165 u166 u167 u168 u169 u170 u171 u172 u173 u174 u175 u176 u177 u178 u179 u180 u181 u182 u183 u184 u185 u186 u187 u188 u189 u190 u191 u192 u193 u194 u195 u196 u197 u198 u199 u200 u201 u202 u203 u204 u205 u206 u207 u208 u209 u210 u211 u212 u213 u214 u215 u216 u217 u218 u219 u220 u221 u222 u223 u224 u225 u226 u227 u228 u229 u230 u231 u232 u233 u234 u235 u236 u237 u238 u239 u240 u241 u242 u243 u244 u245 u246 u247 u248 u249 u250 u251 u252 u253 u254 u255 u256 u257 u258 : Value) (z : RS) (oa' : Option Addr) (L' oc' : Nat) (w' : World), z = Z → Wf S.data.toList z → RdAt w.heap.size p kind from' w z.name z.self z.l oa' L' oc' w' → E ⟨List.toArray (.string S :: x1 :: x2 :: x3 :: x4 :: x5 :: x6 :: x7 :: .int .i64 (z.i : Int) :: x9 :: .pointer (some ⟨p, 0, none⟩) :: .slice oa' L' oc' :: .string (stB z.st) :: u13 :: u14 :: u15 :: u16 :: u17 :: x18 :: x19 :: x20 :: x21 :: x22 :: x23 :: x24 :: x25 :: x26 :: x27 :: x28 :: x29 :: x30 :: x31 :: x32 :: x33 :: x34 :: x35 :: x36 :: x37 :: x38 :: x39 :: x40 :: x41 :: x42 :: x43 :: x44 :: x45 :: x46 :: x47 :: x48 :: x49 :: x50 :: x51 :: x52 :: x53 :: x54 :: x55 :: x56 :: x57 :: x58 :: x59 :: x60 :: x61 :: x62 :: x63 :: x64 :: x65 :: x66 :: x67 :: u68 :: u69 :: u70 :: u71 :: u72 :: u73 :: u74 :: u75 :: u76 :: u77 :: u78 :: u79 :: u80 :: u81 :: u82 :: u83 :: u84 :: u85 :: u86 :: u87 :: u88 :: u89 :: u90 :: u91 :: u92 :: u93 :: u94 :: u95 :: u96 :: u97 :: u98 :: u99 :: u100 :: u101 :: u102 :: u103 :: u104 :: u105 :: u106 :: u107 :: u108 :: u109 :: u110 :: u111 :: u112 :: u113 :: u114 :: u115 :: u116 :: u117 :: u118 :: u119 :: u120 :: u121 :: u122 :: u123 :: u124 :: u125 :: u126 :: u127 :: u128 :: u129 :: u130 :: u131 :: u132 :: u133 :: u134 :: u135 :: u136 :: u137 :: u138 :: u139 :: u140 :: u141 :: u142 :: u143 :: u144 :: u145 :: u146 :: u147 :: u148 :: u149 :: u150 :: u151 :: u152 :: u153 :: u154 :: u155 :: u156 :: u157 :: u158 :: u159 :: u160 :: u161 :: u162 :: u163 :: u164 :: u165 :: u166 :: u167 :: u168 :: u169 :: u170 :: u171 :: u172 :: u173 :: u174 :: u175 :: u176 :: u177 :: u178 :: u179 :: u180 :: u181 :: u182 :: u183 :: u184 :: u185 :: u186 :: u187 :: u188 :: u189 :: u190 :: u191 :: u192 :: u193 :: u194 :: u195 :: u196 :: u197 :: u198 :: u199 :: u200 :: u201 :: u202 :: u203 :: u204 :: u205 :: u206 :: u207 :: u208 :: u209 :: u210 :: u211 :: u212 :: u213 :: u214 :: u215 :: u216 :: u217 :: u218 :: u219 :: u220 :: u221 :: u222 :: u223 :: u224 :: u225 :: u226 :: u227 :: u228 :: u229 :: u230 :: u231 :: u232 :: u233 :: u234 :: u235 :: u236 :: u237 :: u238 :: u239 :: u240 :: u241 :: u242 :: u243 :: u244 :: u245 :: u246 :: u247 :: u248 :: u249 :: u250 :: u251 :: u252 :: u253 :: u254 :: u255 :: u256 :: u257 :: u258 :: x259 :: x260 :: x261 :: x262 :: x263 :: x264 :: x265 :: x266 :: x267 :: x268 :: x269 :: x270 :: x271 :: x272 :: x273 :: x274 :: x275 :: x276 :: x277 :: x278 :: x279 :: x280 :: x281 :: x282 :: x283 :: x284 :: x285 :: x286 :: x287 :: x288 :: x289 :: x290 :: x291 :: x292 :: x293 :: x294 :: x295 :: x296 :: x297 :: x298 :: x299 :: x300 :: x301 :: x302 :: x303 :: x304 :: x305 :: x306 :: x307 :: x308 :: x309 :: x310 :: x311 :: x312 :: x313 :: x314 :: []), ds⟩ w') :
    code.wp Tryd.prog (RoundQ N E) ⟨List.toArray (.string S :: x1 :: x2 :: x3 :: x4 :: x5 :: x6 :: x7 :: .int .i64 (k : Int) :: x9 :: .pointer (some ⟨p, 0, none⟩) :: .slice oa L oc :: .string (stB .single) :: x13 :: x14 :: x15 :: x16 :: x17 :: x18 :: x19 :: x20 :: x21 :: x22 :: x23 :: x24 :: x25 :: x26 :: x27 :: x28 :: x29 :: x30 :: x31 :: x32 :: x33 :: x34 :: x35 :: x36 :: x37 :: x38 :: x39 :: x40 :: x41 :: x42 :: x43 :: x44 :: x45 :: x46 :: x47 :: x48 :: x49 :: x50 :: x51 :: x52 :: x53 :: x54 :: x55 :: x56 :: x57 :: x58 :: x59 :: x60 :: x61 :: x62 :: x63 :: x64 :: x65 :: x66 :: x67 :: x68 :: x69 :: x70 :: x71 :: x72 :: x73 :: x74 :: x75 :: x76 :: x77 :: x78 :: x79 :: x80 :: x81 :: x82 :: x83 :: x84 :: x85 :: x86 :: x87 :: x88 :: x89 :: x90 :: x91 :: x92 :: x93 :: x94 :: x95 :: x96 :: x97 :: x98 :: x99 :: x100 :: x101 :: x102 :: x103 :: x104 :: x105 :: x106 :: x107 :: x108 :: x109 :: x110 :: x111 :: x112 :: x113 :: x114 :: x115 :: x116 :: x117 :: x118 :: x119 :: x120 :: x121 :: x122 :: x123 :: x124 :: x125 :: x126 :: x127 :: x128 :: x129 :: x130 :: x131 :: x132 :: x133 :: x134 :: x135 :: x136 :: x137 :: x138 :: x139 :: x140 :: x141 :: x142 :: x143 :: x144 :: x145 :: x146 :: x147 :: x148 :: x149 :: x150 :: x151 :: x152 :: x153 :: x154 :: x155 :: x156 :: x157 :: x158 :: x159 :: x160 :: x161 :: x162 :: x163 :: x164 :: x165 :: x166 :: x167 :: x168 :: x169 :: x170 :: x171 :: x172 :: x173 :: x174 :: x175 :: x176 :: x177 :: x178 :: x179 :: x180 :: x181 :: x182 :: x183 :: x184 :: x185 :: x186 :: x187 :: x188 :: x189 :: x190 :: x191 :: x192 :: x193 :: x194 :: x195 :: x196 :: x197 :: x198 :: x199 :: x200 :: x201 :: x202 :: x203 :: x204 :: x205 :: x206 :: x207 :: x208 :: x209 :: x210 :: x211 :: x212 :: x213 :: x214 :: x215 :: x216 :: x217 :: x218 :: x219 :: x220 :: x221 :: x222 :: x223 :: x224 :: x225 :: x226 :: x227 :: x228 :: x229 :: x230 :: x231 :: x232 :: x233 :: x234 :: x235 :: x236 :: x237 :: x238 :: x239 :: x240 :: x241 :: x242 :: x243 :: x244 :: x245 :: x246 :: x247 :: x248 :: x249 :: x250 :: x251 :: x252 :: x253 :: x254 :: x255 :: x256 :: x257 :: x258 :: x259 :: x260 :: x261 :: x262 :: x263 :: x264 :: x265 :: x266 :: x267 :: x268 :: x269 :: x270 :: x271 :: x272 :: x273 :: x274 :: x275 :: x276 :: x277 :: x278 :: x279 :: x280 :: x281 :: x282 :: x283 :: x284 :: x285 :: x286 :: x287 :: x288 :: x289 :: x290 :: x291 :: x292 :: x293 :: x294 :: x295 :: x296 :: x297 :: x298 :: x299 :: x300 :: x301 :: x302 :: x303 :: x304 :: x305 :: x306 :: x307 :: x308 :: x309 :: x310 :: x311 :: x312 :: x313 :: x314 :: []), ds⟩ wr := by
  have hlit := Option.some.inj hcode.symm
  subst hlit
  have hsl : Hid (S.data.toList.length = S.size) := by show _ = _; simp
  have hkS : k ≤ S.size := by omega
  have hki : (k : Int) < S.size := by omega
  obtain ⟨c, hc⟩ : ∃ c, S[k] = c := ⟨_, rfl⟩
  have hg := at_get hlt
  rw [hc] at hg
  obtain ⟨J, hJ⟩ : ∃ J, k + 1 = J := ⟨_, rfl⟩
  have hJi : (k : Int) + 1 = J := by omega
  have hJk : (J : Int) - 1 = k := by omega
  have hJS : J ≤ S.size := by omega
  have hJl : J ≤ S.data.toList.length := by rw [hsl.out]; exact hJS
  rw [show stB .single = ⟨#[115, 105, 110, 103, 108, 101]⟩ from rfl]
  by_cases h39 : c = 39
  · have HS : Hid (runR S.data.toList ⟨.ahead, nm, ls, b, J⟩ = Z) := by
      show _ = _
      rw [← HR.out, run_step (s := ⟨.single, nm, ls, b, k⟩) hg (by simp), step_val (.inr (.inl rfl))]
      rw [if_pos (by rw [h39]; rfl), if_neg (by rw [h39]; decide), hJ]
    have t39 := byte_is (z := 39) h39 rfl
    have n39 := byte_is' (z := 39) h39 rfl
    have hne : ls ≠ [] := HW.out.ne rfl
    obtain ⟨pre, ⟨an, av⟩, hls⟩ := split_last hne
    obtain ⟨P, hP⟩ : ∃ P, pre.length = P := ⟨_, rfl⟩
    have hLP : L = P + 1 := by rw [← HM.out.len, hls, List.length_append, hP]; rfl
    have HLS := Lib.hid hls
    have HPP := Lib.hid hP
    obtain ⟨g, hoa, hgB, hgl, ya, yv, yf⟩ := last_at (p := pre) (an := an) (av := av) (by have := HM.out.own; rw [hls] at this; exact this) (by rw [hP]; exact hLP)
    rw [hP] at ya yv
    have hPi : (L : Int) - 1 = P := by omega
    have hPl : (P : Int) < L := by omega
    have hPL : P < L := by omega
    have hP0 : (0 : Int) ≤ (P : Int) := by omega
    have hLb : L ≤ 3000 := by have h1 := HW.out.l; have h2 := HM.out.len; simp only [] at h1; omega
    have hbnd := HW.out.at' (an, av) (by rw [hls]; simp)
    simp only [] at hbnd
    obtain ⟨anb, hanb⟩ : ∃ X : ByteArray, (⟨an.toArray⟩ : ByteArray) = X := ⟨_, rfl⟩
    obtain ⟨avb, havb⟩ : ∃ X : ByteArray, (⟨av.toArray⟩ : ByteArray) = X := ⟨_, rfl⟩
    have hans : anb.size ≤ 6000 := by rw [← hanb]; show an.toArray.size ≤ _; rw [List.size_toArray]; omega
    have havs : avb.size ≤ 8000 := by rw [← havb]; show av.toArray.size ≤ _; rw [List.size_toArray]; omega
    rw [hanb] at ya
    rw [havb] at yv
    have yfn := yf (P * 2)
    have yfv := yf (P * 2 + 1)
    have HANB := Lib.hid hanb
    have HAVB := Lib.hid havb
    have HGB := Lib.hid hgB
    have HYF := Lib.hid yf
    subst hoa
    have hgw := hgl
    clear hls hP hanb havb yf hbnd
    clear hg h39 ya yv yfn yfv hne hLP hans havs
    go_wp2_with fail
    refine hN _ _ _ _ _ _ _ _ _ _ _ _ _ _ _ _ _ _ _ _ _ _ _ _ _ _ _ _ _ _ _ _ _ _ _ _ _ _ _ _ _ _ _ _ _ _ _ _ _ _ _ _ _ _ _ _ _ _ _ _ _ _ _ _ _ _ _ _ _ _ _ _ _ _ _ _ _ _ _ _ _ _ _ _ _ _ _ _ _ _ _ _ _ _ _ _ _ _ _ _ _ _ _ _ _ _ _ _ _ _ _ _ _ _ _ _ _ _ _ _ _ _ _ _ _ _ _ _ _ _ _ _ _ _ _ _ _ _ _ _ _ _ _ _ _ _ _ _ _ _ _ _ _ _ _ _ _ _ _ _ _ _ _ _ _ _ _ _ _ _ _ _ _ _ _ _ _ _ _ _ _ _ _ _ _ _ _ _ _ _ _ _ _ _ _ _ (.ahead) (nm) (ls) (b) (J) (some ⟨g, 0, none⟩) (L) (oc) _ (by simp) HS.out (HW.out.more (by omega) (by omega) (by simp [needs])) (HM.out) ?_
    simp only [rank]
    omega
  · have hend : ends .single c = false := by simpa [ends] using h39
    have t39 := byte_not (z := 39) h39 rfl
    have n39 := byte_not' (z := 39) h39 rfl
    have HFI := Lib.hid (fun W => rfind_in S k true W hlt (by omega))
    have hne : ls ≠ [] := HW.out.ne rfl
    obtain ⟨pre, ⟨an, av⟩, hls⟩ := split_last hne
    obtain ⟨P, hP⟩ : ∃ P, pre.length = P := ⟨_, rfl⟩
    have hLP : L = P + 1 := by rw [← HM.out.len, hls, List.length_append, hP]; rfl
    have HLS := Lib.hid hls
    have HPP := Lib.hid hP
    obtain ⟨g, hoa, hgB, hgl, ya, yv, yf⟩ := last_at (p := pre) (an := an) (av := av) (by have := HM.out.own; rw [hls] at this; exact this) (by rw [hP]; exact hLP)
    rw [hP] at ya yv
    have hPi : (L : Int) - 1 = P := by omega
    have hPl : (P : Int) < L := by omega
    have hPL : P < L := by omega
    have hP0 : (0 : Int) ≤ (P : Int) := by omega
    have hLb : L ≤ 3000 := by have h1 := HW.out.l; have h2 := HM.out.len; simp only [] at h1; omega
    have hbnd := HW.out.at' (an, av) (by rw [hls]; simp)
    simp only [] at hbnd
    obtain ⟨anb, hanb⟩ : ∃ X : ByteArray, (⟨an.toArray⟩ : ByteArray) = X := ⟨_, rfl⟩
    obtain ⟨avb, havb⟩ : ∃ X : ByteArray, (⟨av.toArray⟩ : ByteArray) = X := ⟨_, rfl⟩
    have hans : anb.size ≤ 6000 := by rw [← hanb]; show an.toArray.size ≤ _; rw [List.size_toArray]; omega
    have havs : avb.size ≤ 8000 := by rw [← havb]; show av.toArray.size ≤ _; rw [List.size_toArray]; omega
    rw [hanb] at ya
    rw [havb] at yv
    have yfn := yf (P * 2)
    have yfv := yf (P * 2 + 1)
    have HANB := Lib.hid hanb
    have HAVB := Lib.hid havb
    have HGB := Lib.hid hgB
    have HYF := Lib.hid yf
    subst hoa
    have hgw := hgl
    clear hls hP hanb havb yf hbnd
    cases hf : findS (S.data.toList.drop k) true with
    | some xx =>
      obtain ⟨ch, j⟩ := xx
      have hbd := find_bounds hf
      rw [List.length_drop, hsl.out] at hbd
      obtain ⟨J2, hJ2⟩ : ∃ J2, k + j = J2 := ⟨_, rfl⟩
      have hec := enc_len ch
      have e1 : ret3 k (some (ch, j)) = .tuple #[.string (Utf8.encode ch), .int .i64 (J2 : Int), .bool true] := by rw [← hJ2]; rfl
      rw [hf, e1] at HFI
      obtain ⟨x, hx⟩ : ∃ x, Utf8.encode ch = x := ⟨_, rfl⟩
      rw [hx] at HFI hec
      have hxs : x.size ≤ 4 := by simpa using hec
      have HS : Hid (runR S.data.toList ⟨.single, nm, (addV ls x.data.toList), b, J2⟩ = Z) := by
        show _ = _
        rw [← HR.out, run_step (s := ⟨.single, nm, ls, b, k⟩) hg (by simp), step_val (.inr (.inl rfl))]
        rw [if_neg (by rw [hend]; simp), hf]
        simp only []
        rw [hx, hJ2]
      have HWN : Hid (Wf S.data.toList ⟨.single, nm, addV ls x.data.toList, b, J2⟩) := by
        have := HW.out.addV (k := j) (by rw [hsl.out]; omega) (HW.out.ne rfl) (x := x.data.toList) (by omega)
        rw [hJ2] at this
        exact this
      obtain ⟨nx, hnx⟩ : ∃ X, avb ++ x = X := ⟨_, rfl⟩
      have HNX : Hid (nx = ⟨(av ++ x.data.toList).toArray⟩) := by
        show _ = _
        rw [← hnx, ← HAVB.out]
        apply ByteArray.ext
        apply Array.ext'
        simp [ByteArray.data_append]
      have HYV := Lib.hid yv
      have HJ2 : Hid (k + 3 ≤ J2 ∧ J2 ≤ S.size) := by show _ ∧ _; omega
      clear hf hbd hec hg hend ya yfn hne hx hJ2 hLP h39
      go_wp2_with fail
      refine (HFI.out _).mono ?_
      rintro e w1 ⟨rfl, b1⟩
      have y1 : w1.cell? ⟨g, P * 2 + 1, none⟩ = some (.string avb) := (b1.cell (p := ⟨g, P * 2 + 1, none⟩) (by exact hgw)).trans HYV.out
      have f1 : w1.frozen? ⟨g, P * 2 + 1, none⟩ = false := (b1.frozen (p := ⟨g, P * 2 + 1, none⟩) (by exact hgw)).trans (HYF.out _)
      have HB1 := Lib.hid b1
      clear b1
      go_wp2_with fail
      refine hN _ _ _ _ _ _ _ _ _ _ _ _ _ _ _ _ _ _ _ _ _ _ _ _ _ _ _ _ _ _ _ _ _ _ _ _ _ _ _ _ _ _ _ _ _ _ _ _ _ _ _ _ _ _ _ _ _ _ _ _ _ _ _ _ _ _ _ _ _ _ _ _ _ _ _ _ _ _ _ _ _ _ _ _ _ _ _ _ _ _ _ _ _ _ _ _ _ _ _ _ _ _ _ _ _ _ _ _ _ _ _ _ _ _ _ _ _ _ _ _ _ _ _ _ _ _ _ _ _ _ _ _ _ _ _ _ _ _ _ _ _ _ _ _ _ _ _ _ _ _ _ _ _ _ _ _ _ _ _ _ _ _ _ _ _ _ _ _ _ _ _ _ _ _ _ _ _ _ _ _ _ _ _ _ _ _ _ _ _ _ _ _ _ _ _ _ (.single) (nm) (addV ls x.data.toList) (b) (J2) (some ⟨g, 0, none⟩) (L) (oc) _ (by simp) HS.out (HWN.out) ?_ ?_
      · have hm := HM.out.below' HB1.out
        have ho := owns_set (k := P * 2 + 1) hm.own rfl (.string nx)
        rw [HLS.out, HNX.out, ← HPP.out, attC_setV] at ho
        refine ⟨(Below.heap_setCell _ ⟨g, P * 2 + 1, none⟩ _ p (by show p ≠ g; have := HGB.out; omega)).trans hm.tok, ?_, by rw [HLS.out, addV_snoc, ← hm.len, HLS.out]; simp, by have := hm.size; simp [World.setCell]; exact this, Below.setCell (by first | exact hm.below | exact hm.below.drew) (by show p ≤ g; have := HGB.out; omega) _⟩
        rw [HLS.out, addV_snoc, HNX.out, ← HPP.out]
        exact ho
      · have := HJ2.out
        simp only [rank]
        omega
    | none =>
      have e1 : ret3 k none = .tuple #[.string ⟨#[]⟩, .int .i64 0, .bool false] := rfl
      rw [hf, e1] at HFI
      by_cases h0 : c = 0
      · have t0 := byte_is (z := 0) h0 rfl
        have HS : Hid (runR S.data.toList ⟨.single, nm, (addV ls fffd), b, J⟩ = Z) := by
          show _ = _
          rw [← HR.out, run_step (s := ⟨.single, nm, ls, b, k⟩) hg (by simp), step_val (.inr (.inl rfl))]
          rw [if_neg (by rw [hend]; simp), hf]
          simp only []
          rw [if_pos h0, hJ]
        have HWN : Hid (Wf S.data.toList ⟨.single, nm, addV ls fffd, b, J⟩) := by
          have := HW.out.addV (k := 1) (by rw [hsl.out]; omega) (HW.out.ne rfl) (x := fffd) (by decide)
          rw [hJ] at this
          exact this
        obtain ⟨nx, hnx⟩ : ∃ X, avb ++ (⟨#[239, 191, 189]⟩ : ByteArray) = X := ⟨_, rfl⟩
        have HNX : Hid (nx = ⟨(av ++ fffd).toArray⟩) := by
          show _ = _
          rw [← hnx, ← HAVB.out]
          apply ByteArray.ext
          apply Array.ext'
          simp [ByteArray.data_append, fffd]
        have HYV := Lib.hid yv
        clear hf hg hend ya yfn hne h0 hLP h39
        go_wp2_with fail
        refine (HFI.out _).mono ?_
        rintro e w1 ⟨rfl, b1⟩
        have y1 : w1.cell? ⟨g, P * 2 + 1, none⟩ = some (.string avb) := (b1.cell (p := ⟨g, P * 2 + 1, none⟩) (by exact hgw)).trans HYV.out
        have f1 : w1.frozen? ⟨g, P * 2 + 1, none⟩ = false := (b1.frozen (p := ⟨g, P * 2 + 1, none⟩) (by exact hgw)).trans (HYF.out _)
        have HB1 := Lib.hid b1
        clear b1
        go_wp2_with fail
        refine hN _ _ _ _ _ _ _ _ _ _ _ _ _ _ _ _ _ _ _ _ _ _ _ _ _ _ _ _ _ _ _ _ _ _ _ _ _ _ _ _ _ _ _ _ _ _ _ _ _ _ _ _ _ _ _ _ _ _ _ _ _ _ _ _ _ _ _ _ _ _ _ _ _ _ _ _ _ _ _ _ _ _ _ _ _ _ _ _ _ _ _ _ _ _ _ _ _ _ _ _ _ _ _ _ _ _ _ _ _ _ _ _ _ _ _ _ _ _ _ _ _ _ _ _ _ _ _ _ _ _ _ _ _ _ _ _ _ _ _ _ _ _ _ _ _ _ _ _ _ _ _ _ _ _ _ _ _ _ _ _ _ _ _ _ _ _ _ _ _ _ _ _ _ _ _ _ _ _ _ _ _ _ _ _ _ _ _ _ _ _ _ _ _ _ _ _ (.single) (nm) (addV ls fffd) (b) (J) (some ⟨g, 0, none⟩) (L) (oc) _ (by simp) HS.out (HWN.out) ?_ ?_
        · have hm := HM.out.below' HB1.out
          have ho := owns_set (k := P * 2 + 1) hm.own rfl (.string nx)
          rw [HLS.out, HNX.out, ← HPP.out, attC_setV] at ho
          refine ⟨(Below.heap_setCell _ ⟨g, P * 2 + 1, none⟩ _ p (by show p ≠ g; have := HGB.out; omega)).trans hm.tok, ?_, by rw [HLS.out, addV_snoc, ← hm.len, HLS.out]; simp, by have := hm.size; simp [World.setCell]; exact this, Below.setCell (by first | exact hm.below | exact hm.below.drew) (by show p ≤ g; have := HGB.out; omega) _⟩
          rw [HLS.out, addV_snoc, HNX.out, ← HPP.out]
          exact ho
        · simp only [rank]
          omega
      · have t0 := byte_not (z := 0) h0 rfl
        have HS : Hid (runR S.data.toList ⟨.single, nm, (addV ls [c]), b, J⟩ = Z) := by
          show _ = _
          rw [← HR.out, run_step (s := ⟨.single, nm, ls, b, k⟩) hg (by simp), step_val (.inr (.inl rfl))]
          rw [if_neg (by rw [hend]; simp), hf]
          simp only []
          rw [if_neg h0, hJ]
        have HWN : Hid (Wf S.data.toList ⟨.single, nm, addV ls [c], b, J⟩) := by
          have := HW.out.addV (k := 1) (by rw [hsl.out]; omega) (HW.out.ne rfl) (x := [c]) (by simp)
          rw [hJ] at this
          exact this
        obtain ⟨nx, hnx⟩ : ∃ X, avb ++ (⟨#[c]⟩ : ByteArray) = X := ⟨_, rfl⟩
        have hcs : (⟨#[c]⟩ : ByteArray).size = 1 := rfl
        have HNX : Hid (nx = ⟨(av ++ [c]).toArray⟩) := by
          show _ = _
          rw [← hnx, ← HAVB.out]
          apply ByteArray.ext
          apply Array.ext'
          simp [ByteArray.data_append]
        have HYV := Lib.hid yv
        clear hf hg hend ya yfn hne h0 hLP h39
        go_wp2_with fail
        refine (HFI.out _).mono ?_
        rintro e w1 ⟨rfl, b1⟩
        have y1 : w1.cell? ⟨g, P * 2 + 1, none⟩ = some (.string avb) := (b1.cell (p := ⟨g, P * 2 + 1, none⟩) (by exact hgw)).trans HYV.out
        have f1 : w1.frozen? ⟨g, P * 2 + 1, none⟩ = false := (b1.frozen (p := ⟨g, P * 2 + 1, none⟩) (by exact hgw)).trans (HYF.out _)
        have hg1 : g < w1.heap.size := Nat.lt_of_lt_of_le hgw b1.size
        have hng : ¬ g = w1.heap.size := by omega
        have hcv := conv_oneD w1 c
        have hba : Below w1.heap.size w1 (w1.alloc (.cells #[.int .u8 (c.toNat : Int)] 5)).drew := ((Below.refl w1.heap.size w1).alloc (Nat.le_refl _) _).drew
        have y2 : (w1.alloc (.cells #[.int .u8 (c.toNat : Int)] 5)).drew.cell? ⟨g, P * 2 + 1, none⟩ = some (.string avb) := (hba.cell (p := ⟨g, P * 2 + 1, none⟩) (by exact hg1)).trans y1
        have f2 : (w1.alloc (.cells #[.int .u8 (c.toNat : Int)] 5)).drew.frozen? ⟨g, P * 2 + 1, none⟩ = false := (hba.frozen (p := ⟨g, P * 2 + 1, none⟩) (by exact hg1)).trans f1
        have hlim : ¬ 9223372036854775807 < avb.size + 1 := by omega
        clear hba
        have HB1 := Lib.hid b1
        have HG1 := Lib.hid hg1
        clear b1 hg1
        go_wp2_with fail
        go_region
        all_goals
          go_wp2_with fail
          refine hN _ _ _ _ _ _ _ _ _ _ _ _ _ _ _ _ _ _ _ _ _ _ _ _ _ _ _ _ _ _ _ _ _ _ _ _ _ _ _ _ _ _ _ _ _ _ _ _ _ _ _ _ _ _ _ _ _ _ _ _ _ _ _ _ _ _ _ _ _ _ _ _ _ _ _ _ _ _ _ _ _ _ _ _ _ _ _ _ _ _ _ _ _ _ _ _ _ _ _ _ _ _ _ _ _ _ _ _ _ _ _ _ _ _ _ _ _ _ _ _ _ _ _ _ _ _ _ _ _ _ _ _ _ _ _ _ _ _ _ _ _ _ _ _ _ _ _ _ _ _ _ _ _ _ _ _ _ _ _ _ _ _ _ _ _ _ _ _ _ _ _ _ _ _ _ _ _ _ _ _ _ _ _ _ _ _ _ _ _ _ _ _ _ _ _ _ (.single) (nm) (addV ls [c]) (b) (J) (some ⟨g, 0, none⟩) (L) (oc) _ (by simp) HS.out (HWN.out) ?_ ?_
          · have hm0 := HM.out.below' HB1.out
            have hm := hm0.below' ((Below.refl w1.heap.size w1).alloc (Nat.le_refl _) (.cells #[.int .u8 (c.toNat : Int)] 5))
            have ho := owns_set (k := P * 2 + 1) hm.own rfl (.string nx)
            rw [HLS.out, HNX.out, ← HPP.out, attC_setV] at ho
            refine ⟨(Below.heap_setCell _ ⟨g, P * 2 + 1, none⟩ _ p (by show p ≠ g; have := HGB.out; omega)).trans (by exact hm.tok), ?_, by rw [HLS.out, addV_snoc, ← hm.len, HLS.out]; simp, by have := hm.size; simp [World.setCell] at this ⊢; exact this, (by first | exact hm.below.drew.setCell (by show p ≤ g; have := HGB.out; omega) _ | exact (hm.below.setCell (by show p ≤ g; have := HGB.out; omega) _).drew | exact hm.below.setCell (by show p ≤ g; have := HGB.out; omega) _)⟩
            rw [HLS.out, addV_snoc, HNX.out, ← HPP.out]
            exact ho
          · simp only [rank]
            omega

set_option maxHeartbeats 25600000 in
set_option maxRecDepth 100000 in
theorem round_bare (code : Code) (hcode : bodyOf 15 Tryd.f13 = some code) (N E : Act → World → Prop) {x1 x2 x3 x4 x5 x6 x7 x9 x13 x14 x15 x16 x17 x18 x19 x20 x21 x22 x23 x24 x25 x26 x27 x28 x29 x30 x31 x32 x33 x34 x35 x36 x37 x38 x39 x40 x41 x42 x43 x44 x45 x46 x47 x48 x49 x50 x51 x52 x53 x54 x55 x56 x57 x58 x59 x60 x61 x62 x63 x64 x65 x66 x67 x68 x69 x70 x71 x72 x73 x74 x75 x76 x77 x78 x79 x80 x81 x82 x83 x84 x85 x86 x87 x88 x89 x90 x91 x92 x93 x94 x95 x96 x97 x98 x99 x100 x101 x102 x103 x104 x105 x106 x107 x108 x109 x110 x111 x112 x113 x114 x115 x116 x117 x118 x119 x120 x121 x122 x123 x124 x125 x126 x127 x128 x129 x130 x131 x132 x133 x134 x135 x136 x137 x138 x139 x140 x141 x142 x143 x144 x145 x146 x147 x148 x149 x150 x151 x152 x153 x154 x155 x156 x157 x158 x159 x160 x161 x162 x163 x164 x165 x166 x167 x168 x169 x170 x171 x172 x173 x174 x175 x176 x177 x178 x179 x180 x181 x182 x183 x184 x185 x186 x187 x188 x189 x190 x191 x192 x193 x194 x195 x196 x197 x198 x199 x200 x201 x202 x203 x204 x205 x206 x207 x208 x209 x210 x211 x212 x213 x214 x215 x216 x217 x218 x219 x220 x221 x222 x223 x224 x225 x226 x227 x228 x229 x230 x231 x232 x233 x234 x235 x236 x237 x238 x239 x240 x241 x242 x243 x244 x245 x246 x247 x248 x249 x250 x251 x252 x253 x254 x255 x256 x257 x258 x259 x260 x261 x262 x263 x264 x265 x266 x267 x268 x269 x270 x271 x272 x273 x274 x275 x276 x277 x278 x279 x280 x281 x282 x283 x284 x285 x286 x287 x288 x289 x290 x291 x292 x293 x294 x295 x296 x297 x298 x299 x300 x301 x302 x303 x304 x305 x306 x307 x308 x309 x310 x311 x312 x313 x314 : Value} {ds : List Deferred} {wr : World} (S : ByteArray) (p k L oc : Nat) (oa : Option Addr) (nm : List UInt8) (ls : List At) (b : Bool) (kind from' : Int) (Z : RS) (w : World)
    (hs : S.size ≤ 2000) (hlt : k < S.size) (hpB : p < w.heap.size) (HR : Hid (runR S.data.toList ⟨.bare, nm, ls, b, k⟩ = Z)) (HW : Hid (Wf S.data.toList ⟨.bare, nm, ls, b, k⟩)) (HM : Hid (RdAt w.heap.size p kind from' w nm b ls oa L oc wr))
    (hN : ∀ (u13 u14 u15 u16 u17 u68 u69 u70 u71 u72 u73 u74 u75 u76 u77 u78 u79 u80 u81 u82 u83 u84 u85 u86 u87 u88 u89 u90 u91 u92 u93 u94 u95 u96 u97 u98 u99 u100 u101 u102 u103 u104 u105 u106 u107 u108 u109 u110 u111 u112 u113 u114 u115 u116 u117 u118 u119 u120 u121 u122 u123 u124 u125 u126 u127 u128 u129 u130 u131 u132 u133 u134 u135 u136 u137 u138 u139 u140 u141 u142 u143 u144 u145 u146 u147 u148 u149 u150 u151 u152 u153 u154 u155 u156 u157 u158 u159 u160 u161 u162 u163 u164 u165 u166 u167 u168 u169 u170 u171 u172 u173 u174 u175 u176 u177 u178 u179 u180 u181 u182 u183 u184 u185 u186 u187 u188 u189 u190 u191 u192 u193 u194 u195 u196 u197 u198 u199 u200 u201 u202 u203 u204 u205 u206 u207 u208 u209 u210 u211 u212 u213 u214 u215 u216 u217 u218 u219 u220 u221 u222 u223 u224 u225 u226 u227 u228 u229 u230 u231 u232 u233 u234 u235 u236 u237 u238 u239 u240 u241 u242 u243 u244 u245 u246 u247 u248 u249 u250 u251 u252 u253 u254 u255 u256 u257 u258 : Value) (s' : St) (nm' : List UInt8) (ls' : List At) (b' : Bool) (k' : Nat) (oa' : Option Addr) (L' oc' : Nat) (w' : World), s' ≠ .done → runR S.data.toList ⟨s', nm', ls', b', k'⟩ = Z → Wf S.data.toList ⟨s', nm', ls', b', k'⟩ → RdAt w.heap.size p kind from' w nm' b' ls' oa' L' oc' w' → 2 * (S.size - k') + rank s' < 2 * (S.size - k) + rank .bare → N ⟨List.toArray (.string S :: x1 :: x2 :: x3 :: x4 :: x5 :: x6 :: x7 :: .int .i64 (k' : Int) :: x9 :: .pointer (some ⟨p, 0, none⟩) :: .slice oa' L' oc' :: .string (stB s') :: u13 :: u14 :: u15 :: u16 :: u17 :: x18 :: x19 :: x20 :: x21 :: x22 :: x23 :: x24 :: x25 :: x26 :: x27 :: x28 :: x29 :: x30 :: x31 :: x32 :: x33 :: x34 :: x35 :: x36 :: x37 :: x38 :: x39 :: x40 :: x41 :: x42 :: x43 :: x44 :: x45 :: x46 :: x47 :: x48 :: x49 :: x50 :: x51 :: x52 :: x53 :: x54 :: x55 :: x56 :: x57 :: x58 :: x59 :: x60 :: x61 :: x62 :: x63 :: x64 :: x65 :: x66 :: x67 :: u68 :: u69 :: u70 :: u71 :: u72 :: u73 :: u74 :: u75 :: u76 :: u77 :: u78 :: u79 :: u80 :: u81 :: u82 :: u83 :: u84 :: u85 :: u86 :: u87 :: u88 :: u89 :: u90 :: u91 :: u92 :: u93 :: u94 :: u95 :: u96 :: u97 :: u98 :: u99 :: u100 :: u101 :: u102 :: u103 :: u104 :: u105 :: u106 :: u107 :: u108 :: u109 :: u110 :: u111 :: u112 :: u113 :: u114 :: u115 :: u116 :: u117 :: u118 :: u119 :: u120 :: u121 :: u122 :: u123 :: u124 :: u125 :: u126 :: u127 :: u128 :: u129 :: u130 :: u131 :: u132 :: u133 :: u134 :: u135 :: u136 :: u137 :: u138 :: u139 :: u140 :: u141 :: u142 :: u143 :: u144 :: u145 :: u146 :: u147 :: u148 :: u149 :: u150 :: u151 :: u152 :: u153 :: u154 :: u155 :: u156 :: u157 :: u158 :: u159 :: u160 :: u161 :: u162 :: u163 :: u164 :: u165 :: u166 :: u167 :: u168 :: u169 :: u170 :: u171 :: u172 :: u173 :: u174 :: u175 :: u176 :: u177 :: u178 :: u179 :: u180 :: u181 :: u182 :: u183 :: u184 :: u185 :: u186 :: u187 :: u188 :: u189 :: u190 :: u191 :: u192 :: u193 :: u194 :: u195 :: u196 :: u197 :: u198 :: u199 :: u200 :: u201 :: u202 :: u203 :: u204 :: u205 :: u206 :: u207 :: u208 :: u209 :: u210 :: u211 :: u212 :: u213 :: u214 :: u215 :: u216 :: u217 :: u218 :: u219 :: u220 :: u221 :: u222 :: u223 :: u224 :: u225 :: u226 :: u227 :: u228 :: u229 :: u230 :: u231 :: u232 :: u233 :: u234 :: u235 :: u236 :: u237 :: u238 :: u239 :: u240 :: u241 :: u242 :: u243 :: u244 :: u245 :: u246 :: u247 :: u248 :: u249 :: u250 :: u251 :: u252 :: u253 :: u254 :: u255 :: u256 :: u257 :: u258 :: x259 :: x260 :: x261 :: x262 :: x263 :: x264 :: x265 :: x266 :: x267 :: x268 :: x269 :: x270 :: x271 :: x272 :: x273 :: x274 :: x275 :: x276 :: x277 :: x278 :: x279 :: x280 :: x281 :: x282 :: x283 :: x284 :: x285 :: x286 :: x287 :: x288 :: x289 :: x290 :: x291 :: x292 :: x293 :: x294 :: x295 :: x296 :: x297 :: x298 :: x299 :: x300 :: x301 :: x302 :: x303 :: x304 :: x305 :: x306 :: x307 :: x308 :: x309 :: x310 :: x311 :: x312 :: x313 :: x314 :: []), ds⟩ w')
    (hE : ∀ (u13 u14 u15 u16 u17 u68 u69 u70 u71 u72 u73 u74 u75 u76 u77 u78 u79 u80 u81 u82 u83 u84 u85 u86 u87 u88 u89 u90 u91 u92 u93 u94 u95 u96 u97 u98 u99 u100 u101 u102 u103 u104 u105 u106 u107 u108 u109 u110 u111 u112 u113 u114 u115 u116 u117 u118 u119 u120 u121 u122 u123 u124 u125 u126 u127 u128 u129 u130 u131 u132 u133 u134 u135 u136 u137 u138 u139 u140 u141 u142 u143 u144 u145 u146 u147 u148 u149 u150 u151 u152 u153 u154 u155 u156 u157 u158 u159 u160 u161 u162 u163 u164 u165 u166 u167 u168 u169 u170 u171 u172 u173 u174 u175 u176 u177 u178 u179 u180 u181 u182 u183 u184 u185 u186 u187 u188 u189 u190 u191 u192 u193 u194 u195 u196 u197 u198 u199 u200 u201 u202 u203 u204 u205 u206 u207 u208 u209 u210 u211 u212 u213 u214 u215 u216 u217 u218 u219 u220 u221 u222 u223 u224 u225 u226 u227 u228 u229 u230 u231 u232 u233 u234 u235 u236 u237 u238 u239 u240 u241 u242 u243 u244 u245 u246 u247 u248 u249 u250 u251 u252 u253 u254 u255 u256 u257 u258 : Value) (z : RS) (oa' : Option Addr) (L' oc' : Nat) (w' : World), z = Z → Wf S.data.toList z → RdAt w.heap.size p kind from' w z.name z.self z.l oa' L' oc' w' → E ⟨List.toArray (.string S :: x1 :: x2 :: x3 :: x4 :: x5 :: x6 :: x7 :: .int .i64 (z.i : Int) :: x9 :: .pointer (some ⟨p, 0, none⟩) :: .slice oa' L' oc' :: .string (stB z.st) :: u13 :: u14 :: u15 :: u16 :: u17 :: x18 :: x19 :: x20 :: x21 :: x22 :: x23 :: x24 :: x25 :: x26 :: x27 :: x28 :: x29 :: x30 :: x31 :: x32 :: x33 :: x34 :: x35 :: x36 :: x37 :: x38 :: x39 :: x40 :: x41 :: x42 :: x43 :: x44 :: x45 :: x46 :: x47 :: x48 :: x49 :: x50 :: x51 :: x52 :: x53 :: x54 :: x55 :: x56 :: x57 :: x58 :: x59 :: x60 :: x61 :: x62 :: x63 :: x64 :: x65 :: x66 :: x67 :: u68 :: u69 :: u70 :: u71 :: u72 :: u73 :: u74 :: u75 :: u76 :: u77 :: u78 :: u79 :: u80 :: u81 :: u82 :: u83 :: u84 :: u85 :: u86 :: u87 :: u88 :: u89 :: u90 :: u91 :: u92 :: u93 :: u94 :: u95 :: u96 :: u97 :: u98 :: u99 :: u100 :: u101 :: u102 :: u103 :: u104 :: u105 :: u106 :: u107 :: u108 :: u109 :: u110 :: u111 :: u112 :: u113 :: u114 :: u115 :: u116 :: u117 :: u118 :: u119 :: u120 :: u121 :: u122 :: u123 :: u124 :: u125 :: u126 :: u127 :: u128 :: u129 :: u130 :: u131 :: u132 :: u133 :: u134 :: u135 :: u136 :: u137 :: u138 :: u139 :: u140 :: u141 :: u142 :: u143 :: u144 :: u145 :: u146 :: u147 :: u148 :: u149 :: u150 :: u151 :: u152 :: u153 :: u154 :: u155 :: u156 :: u157 :: u158 :: u159 :: u160 :: u161 :: u162 :: u163 :: u164 :: u165 :: u166 :: u167 :: u168 :: u169 :: u170 :: u171 :: u172 :: u173 :: u174 :: u175 :: u176 :: u177 :: u178 :: u179 :: u180 :: u181 :: u182 :: u183 :: u184 :: u185 :: u186 :: u187 :: u188 :: u189 :: u190 :: u191 :: u192 :: u193 :: u194 :: u195 :: u196 :: u197 :: u198 :: u199 :: u200 :: u201 :: u202 :: u203 :: u204 :: u205 :: u206 :: u207 :: u208 :: u209 :: u210 :: u211 :: u212 :: u213 :: u214 :: u215 :: u216 :: u217 :: u218 :: u219 :: u220 :: u221 :: u222 :: u223 :: u224 :: u225 :: u226 :: u227 :: u228 :: u229 :: u230 :: u231 :: u232 :: u233 :: u234 :: u235 :: u236 :: u237 :: u238 :: u239 :: u240 :: u241 :: u242 :: u243 :: u244 :: u245 :: u246 :: u247 :: u248 :: u249 :: u250 :: u251 :: u252 :: u253 :: u254 :: u255 :: u256 :: u257 :: u258 :: x259 :: x260 :: x261 :: x262 :: x263 :: x264 :: x265 :: x266 :: x267 :: x268 :: x269 :: x270 :: x271 :: x272 :: x273 :: x274 :: x275 :: x276 :: x277 :: x278 :: x279 :: x280 :: x281 :: x282 :: x283 :: x284 :: x285 :: x286 :: x287 :: x288 :: x289 :: x290 :: x291 :: x292 :: x293 :: x294 :: x295 :: x296 :: x297 :: x298 :: x299 :: x300 :: x301 :: x302 :: x303 :: x304 :: x305 :: x306 :: x307 :: x308 :: x309 :: x310 :: x311 :: x312 :: x313 :: x314 :: []), ds⟩ w') :
    code.wp Tryd.prog (RoundQ N E) ⟨List.toArray (.string S :: x1 :: x2 :: x3 :: x4 :: x5 :: x6 :: x7 :: .int .i64 (k : Int) :: x9 :: .pointer (some ⟨p, 0, none⟩) :: .slice oa L oc :: .string (stB .bare) :: x13 :: x14 :: x15 :: x16 :: x17 :: x18 :: x19 :: x20 :: x21 :: x22 :: x23 :: x24 :: x25 :: x26 :: x27 :: x28 :: x29 :: x30 :: x31 :: x32 :: x33 :: x34 :: x35 :: x36 :: x37 :: x38 :: x39 :: x40 :: x41 :: x42 :: x43 :: x44 :: x45 :: x46 :: x47 :: x48 :: x49 :: x50 :: x51 :: x52 :: x53 :: x54 :: x55 :: x56 :: x57 :: x58 :: x59 :: x60 :: x61 :: x62 :: x63 :: x64 :: x65 :: x66 :: x67 :: x68 :: x69 :: x70 :: x71 :: x72 :: x73 :: x74 :: x75 :: x76 :: x77 :: x78 :: x79 :: x80 :: x81 :: x82 :: x83 :: x84 :: x85 :: x86 :: x87 :: x88 :: x89 :: x90 :: x91 :: x92 :: x93 :: x94 :: x95 :: x96 :: x97 :: x98 :: x99 :: x100 :: x101 :: x102 :: x103 :: x104 :: x105 :: x106 :: x107 :: x108 :: x109 :: x110 :: x111 :: x112 :: x113 :: x114 :: x115 :: x116 :: x117 :: x118 :: x119 :: x120 :: x121 :: x122 :: x123 :: x124 :: x125 :: x126 :: x127 :: x128 :: x129 :: x130 :: x131 :: x132 :: x133 :: x134 :: x135 :: x136 :: x137 :: x138 :: x139 :: x140 :: x141 :: x142 :: x143 :: x144 :: x145 :: x146 :: x147 :: x148 :: x149 :: x150 :: x151 :: x152 :: x153 :: x154 :: x155 :: x156 :: x157 :: x158 :: x159 :: x160 :: x161 :: x162 :: x163 :: x164 :: x165 :: x166 :: x167 :: x168 :: x169 :: x170 :: x171 :: x172 :: x173 :: x174 :: x175 :: x176 :: x177 :: x178 :: x179 :: x180 :: x181 :: x182 :: x183 :: x184 :: x185 :: x186 :: x187 :: x188 :: x189 :: x190 :: x191 :: x192 :: x193 :: x194 :: x195 :: x196 :: x197 :: x198 :: x199 :: x200 :: x201 :: x202 :: x203 :: x204 :: x205 :: x206 :: x207 :: x208 :: x209 :: x210 :: x211 :: x212 :: x213 :: x214 :: x215 :: x216 :: x217 :: x218 :: x219 :: x220 :: x221 :: x222 :: x223 :: x224 :: x225 :: x226 :: x227 :: x228 :: x229 :: x230 :: x231 :: x232 :: x233 :: x234 :: x235 :: x236 :: x237 :: x238 :: x239 :: x240 :: x241 :: x242 :: x243 :: x244 :: x245 :: x246 :: x247 :: x248 :: x249 :: x250 :: x251 :: x252 :: x253 :: x254 :: x255 :: x256 :: x257 :: x258 :: x259 :: x260 :: x261 :: x262 :: x263 :: x264 :: x265 :: x266 :: x267 :: x268 :: x269 :: x270 :: x271 :: x272 :: x273 :: x274 :: x275 :: x276 :: x277 :: x278 :: x279 :: x280 :: x281 :: x282 :: x283 :: x284 :: x285 :: x286 :: x287 :: x288 :: x289 :: x290 :: x291 :: x292 :: x293 :: x294 :: x295 :: x296 :: x297 :: x298 :: x299 :: x300 :: x301 :: x302 :: x303 :: x304 :: x305 :: x306 :: x307 :: x308 :: x309 :: x310 :: x311 :: x312 :: x313 :: x314 :: []), ds⟩ wr := by
  have hlit := Option.some.inj hcode.symm
  subst hlit
  have hsl : Hid (S.data.toList.length = S.size) := by show _ = _; simp
  have hkS : k ≤ S.size := by omega
  have hki : (k : Int) < S.size := by omega
  obtain ⟨c, hc⟩ : ∃ c, S[k] = c := ⟨_, rfl⟩
  have hg := at_get hlt
  rw [hc] at hg
  obtain ⟨J, hJ⟩ : ∃ J, k + 1 = J := ⟨_, rfl⟩
  have hJi : (k : Int) + 1 = J := by omega
  have hJk : (J : Int) - 1 = k := by omega
  have hJS : J ≤ S.size := by omega
  have hJl : J ≤ S.data.toList.length := by rw [hsl.out]; exact hJS
  rw [show stB .bare = ⟨#[98, 97, 114, 101]⟩ from rfl]
  by_cases hb : blB c = true
  · have HS : Hid (runR S.data.toList ⟨.ahead, nm, ls, b, J⟩ = Z) := by
      show _ = _
      rw [← HR.out, run_step (s := ⟨.bare, nm, ls, b, k⟩) hg (by simp), step_val (.inr (.inr rfl))]
      rw [if_pos (by simp [ends, hb]), if_neg (blank_is hb).2.1, hJ]
    have HBL := Lib.hid (fun W => rblank_any (c.toNat : Int) W)
    rw [show blI (c.toNat : Int) = true from hb] at HBL
    have hne : ls ≠ [] := HW.out.ne rfl
    obtain ⟨pre, ⟨an, av⟩, hls⟩ := split_last hne
    obtain ⟨P, hP⟩ : ∃ P, pre.length = P := ⟨_, rfl⟩
    have hLP : L = P + 1 := by rw [← HM.out.len, hls, List.length_append, hP]; rfl
    have HLS := Lib.hid hls
    have HPP := Lib.hid hP
    obtain ⟨g, hoa, hgB, hgl, ya, yv, yf⟩ := last_at (p := pre) (an := an) (av := av) (by have := HM.out.own; rw [hls] at this; exact this) (by rw [hP]; exact hLP)
    rw [hP] at ya yv
    have hPi : (L : Int) - 1 = P := by omega
    have hPl : (P : Int) < L := by omega
    have hPL : P < L := by omega
    have hP0 : (0 : Int) ≤ (P : Int) := by omega
    have hLb : L ≤ 3000 := by have h1 := HW.out.l; have h2 := HM.out.len; simp only [] at h1; omega
    have hbnd := HW.out.at' (an, av) (by rw [hls]; simp)
    simp only [] at hbnd
    obtain ⟨anb, hanb⟩ : ∃ X : ByteArray, (⟨an.toArray⟩ : ByteArray) = X := ⟨_, rfl⟩
    obtain ⟨avb, havb⟩ : ∃ X : ByteArray, (⟨av.toArray⟩ : ByteArray) = X := ⟨_, rfl⟩
    have hans : anb.size ≤ 6000 := by rw [← hanb]; show an.toArray.size ≤ _; rw [List.size_toArray]; omega
    have havs : avb.size ≤ 8000 := by rw [← havb]; show av.toArray.size ≤ _; rw [List.size_toArray]; omega
    rw [hanb] at ya
    rw [havb] at yv
    have yfn := yf (P * 2)
    have yfv := yf (P * 2 + 1)
    have HANB := Lib.hid hanb
    have HAVB := Lib.hid havb
    have HGB := Lib.hid hgB
    have HYF := Lib.hid yf
    subst hoa
    have hgw := hgl
    clear hls hP hanb havb yf hbnd
    clear hg hb ya yv yfn yfv hne hLP hans havs
    go_wp2_with fail
    refine (HBL.out _).mono ?_
    rintro e w' ⟨rfl, rfl⟩
    go_wp2_with fail
    refine hN _ _ _ _ _ _ _ _ _ _ _ _ _ _ _ _ _ _ _ _ _ _ _ _ _ _ _ _ _ _ _ _ _ _ _ _ _ _ _ _ _ _ _ _ _ _ _ _ _ _ _ _ _ _ _ _ _ _ _ _ _ _ _ _ _ _ _ _ _ _ _ _ _ _ _ _ _ _ _ _ _ _ _ _ _ _ _ _ _ _ _ _ _ _ _ _ _ _ _ _ _ _ _ _ _ _ _ _ _ _ _ _ _ _ _ _ _ _ _ _ _ _ _ _ _ _ _ _ _ _ _ _ _ _ _ _ _ _ _ _ _ _ _ _ _ _ _ _ _ _ _ _ _ _ _ _ _ _ _ _ _ _ _ _ _ _ _ _ _ _ _ _ _ _ _ _ _ _ _ _ _ _ _ _ _ _ _ _ _ _ _ _ _ _ _ _ (.ahead) (nm) (ls) (b) (J) (some ⟨g, 0, none⟩) (L) (oc) _ (by simp) HS.out (HW.out.more (by omega) (by omega) (by simp [needs])) (HM.out) ?_
    simp only [rank]
    omega
  · by_cases h62 : c = 62
    · have HS : Hid (runR S.data.toList ⟨.done, nm, ls, b, J⟩ = Z) := by
        show _ = _
        rw [← HR.out, run_step (s := ⟨.bare, nm, ls, b, k⟩) hg (by simp), step_val (.inr (.inr rfl))]
        rw [if_pos (by rw [h62]; rfl), if_pos h62, hJ]
      have HBL := Lib.hid (fun W => rblank_any (c.toNat : Int) W)
      rw [show blI (c.toNat : Int) = false by simpa [blB] using hb] at HBL
      have t62 := byte_is (z := 62) h62 rfl
      have n62 := byte_is' (z := 62) h62 rfl
      have hne : ls ≠ [] := HW.out.ne rfl
      obtain ⟨pre, ⟨an, av⟩, hls⟩ := split_last hne
      obtain ⟨P, hP⟩ : ∃ P, pre.length = P := ⟨_, rfl⟩
      have hLP : L = P + 1 := by rw [← HM.out.len, hls, List.length_append, hP]; rfl
      have HLS := Lib.hid hls
      have HPP := Lib.hid hP
      obtain ⟨g, hoa, hgB, hgl, ya, yv, yf⟩ := last_at (p := pre) (an := an) (av := av) (by have := HM.out.own; rw [hls] at this; exact this) (by rw [hP]; exact hLP)
      rw [hP] at ya yv
      have hPi : (L : Int) - 1 = P := by omega
      have hPl : (P : Int) < L := by omega
      have hPL : P < L := by omega
      have hP0 : (0 : Int) ≤ (P : Int) := by omega
      have hLb : L ≤ 3000 := by have h1 := HW.out.l; have h2 := HM.out.len; simp only [] at h1; omega
      have hbnd := HW.out.at' (an, av) (by rw [hls]; simp)
      simp only [] at hbnd
      obtain ⟨anb, hanb⟩ : ∃ X : ByteArray, (⟨an.toArray⟩ : ByteArray) = X := ⟨_, rfl⟩
      obtain ⟨avb, havb⟩ : ∃ X : ByteArray, (⟨av.toArray⟩ : ByteArray) = X := ⟨_, rfl⟩
      have hans : anb.size ≤ 6000 := by rw [← hanb]; show an.toArray.size ≤ _; rw [List.size_toArray]; omega
      have havs : avb.size ≤ 8000 := by rw [← havb]; show av.toArray.size ≤ _; rw [List.size_toArray]; omega
      rw [hanb] at ya
      rw [havb] at yv
      have yfn := yf (P * 2)
      have yfv := yf (P * 2 + 1)
      have HANB := Lib.hid hanb
      have HAVB := Lib.hid havb
      have HGB := Lib.hid hgB
      have HYF := Lib.hid yf
      subst hoa
      have hgw := hgl
      clear hls hP hanb havb yf hbnd
      clear hg hb h62 ya yv yfn yfv hne hLP hans havs
      go_wp2_with fail
      refine (HBL.out _).mono ?_
      rintro e w' ⟨rfl, rfl⟩
      go_wp2_with fail
      refine ⟨rfl, hE _ _ _ _ _ _ _ _ _ _ _ _ _ _ _ _ _ _ _ _ _ _ _ _ _ _ _ _ _ _ _ _ _ _ _ _ _ _ _ _ _ _ _ _ _ _ _ _ _ _ _ _ _ _ _ _ _ _ _ _ _ _ _ _ _ _ _ _ _ _ _ _ _ _ _ _ _ _ _ _ _ _ _ _ _ _ _ _ _ _ _ _ _ _ _ _ _ _ _ _ _ _ _ _ _ _ _ _ _ _ _ _ _ _ _ _ _ _ _ _ _ _ _ _ _ _ _ _ _ _ _ _ _ _ _ _ _ _ _ _ _ _ _ _ _ _ _ _ _ _ _ _ _ _ _ _ _ _ _ _ _ _ _ _ _ _ _ _ _ _ _ _ _ _ _ _ _ _ _ _ _ _ _ _ _ _ _ _ _ _ _ _ _ _ _ _ ⟨.done, nm, ls, b, J⟩ (some ⟨g, 0, none⟩) L oc _ (by rw [← HS.out, run_done rfl]) (HW.out.more (by omega) (by omega) (by simp [needs])) HM.out⟩
    · have hend : ends .bare c = false := by simp [ends, h62]; simpa using hb
      have HBL := Lib.hid (fun W => rblank_any (c.toNat : Int) W)
      rw [show blI (c.toNat : Int) = false by simpa [blB] using hb] at HBL
      have t62 := byte_not (z := 62) h62 rfl
      have n62 := byte_not' (z := 62) h62 rfl
      have HFI := Lib.hid (fun W => rfind_in S k true W hlt (by omega))
      have hne : ls ≠ [] := HW.out.ne rfl
      obtain ⟨pre, ⟨an, av⟩, hls⟩ := split_last hne
      obtain ⟨P, hP⟩ : ∃ P, pre.length = P := ⟨_, rfl⟩
      have hLP : L = P + 1 := by rw [← HM.out.len, hls, List.length_append, hP]; rfl
      have HLS := Lib.hid hls
      have HPP := Lib.hid hP
      obtain ⟨g, hoa, hgB, hgl, ya, yv, yf⟩ := last_at (p := pre) (an := an) (av := av) (by have := HM.out.own; rw [hls] at this; exact this) (by rw [hP]; exact hLP)
      rw [hP] at ya yv
      have hPi : (L : Int) - 1 = P := by omega
      have hPl : (P : Int) < L := by omega
      have hPL : P < L := by omega
      have hP0 : (0 : Int) ≤ (P : Int) := by omega
      have hLb : L ≤ 3000 := by have h1 := HW.out.l; have h2 := HM.out.len; simp only [] at h1; omega
      have hbnd := HW.out.at' (an, av) (by rw [hls]; simp)
      simp only [] at hbnd
      obtain ⟨anb, hanb⟩ : ∃ X : ByteArray, (⟨an.toArray⟩ : ByteArray) = X := ⟨_, rfl⟩
      obtain ⟨avb, havb⟩ : ∃ X : ByteArray, (⟨av.toArray⟩ : ByteArray) = X := ⟨_, rfl⟩
      have hans : anb.size ≤ 6000 := by rw [← hanb]; show an.toArray.size ≤ _; rw [List.size_toArray]; omega
      have havs : avb.size ≤ 8000 := by rw [← havb]; show av.toArray.size ≤ _; rw [List.size_toArray]; omega
      rw [hanb] at ya
      rw [havb] at yv
      have yfn := yf (P * 2)
      have yfv := yf (P * 2 + 1)
      have HANB := Lib.hid hanb
      have HAVB := Lib.hid havb
      have HGB := Lib.hid hgB
      have HYF := Lib.hid yf
      subst hoa
      have hgw := hgl
      clear hls hP hanb havb yf hbnd
      cases hf : findS (S.data.toList.drop k) true with
      | some xx =>
        obtain ⟨ch, j⟩ := xx
        have hbd := find_bounds hf
        rw [List.length_drop, hsl.out] at hbd
        obtain ⟨J2, hJ2⟩ : ∃ J2, k + j = J2 := ⟨_, rfl⟩
        have hec := enc_len ch
        have e1 : ret3 k (some (ch, j)) = .tuple #[.string (Utf8.encode ch), .int .i64 (J2 : Int), .bool true] := by rw [← hJ2]; rfl
        rw [hf, e1] at HFI
        obtain ⟨x, hx⟩ : ∃ x, Utf8.encode ch = x := ⟨_, rfl⟩
        rw [hx] at HFI hec
        have hxs : x.size ≤ 4 := by simpa using hec
        have HS : Hid (runR S.data.toList ⟨.bare, nm, (addV ls x.data.toList), b, J2⟩ = Z) := by
          show _ = _
          rw [← HR.out, run_step (s := ⟨.bare, nm, ls, b, k⟩) hg (by simp), step_val (.inr (.inr rfl))]
          rw [if_neg (by rw [hend]; simp), hf]
          simp only []
          rw [hx, hJ2]
        have HWN : Hid (Wf S.data.toList ⟨.bare, nm, addV ls x.data.toList, b, J2⟩) := by
          have := HW.out.addV (k := j) (by rw [hsl.out]; omega) (HW.out.ne rfl) (x := x.data.toList) (by omega)
          rw [hJ2] at this
          exact this
        obtain ⟨nx, hnx⟩ : ∃ X, avb ++ x = X := ⟨_, rfl⟩
        have HNX : Hid (nx = ⟨(av ++ x.data.toList).toArray⟩) := by
          show _ = _
          rw [← hnx, ← HAVB.out]
          apply ByteArray.ext
          apply Array.ext'
          simp [ByteArray.data_append]
        have HYV := Lib.hid yv
        have HJ2 : Hid (k + 3 ≤ J2 ∧ J2 ≤ S.size) := by show _ ∧ _; omega
        clear hf hbd hec hg hend ya yfn hne hx hJ2 hLP hb h62
        go_wp2_with fail
        refine (HBL.out _).mono ?_
        rintro e w' ⟨rfl, rfl⟩
        go_wp2_with fail
        refine (HFI.out _).mono ?_
        rintro e w1 ⟨rfl, b1⟩
        have y1 : w1.cell? ⟨g, P * 2 + 1, none⟩ = some (.string avb) := (b1.cell (p := ⟨g, P * 2 + 1, none⟩) (by exact hgw)).trans HYV.out
        have f1 : w1.frozen? ⟨g, P * 2 + 1, none⟩ = false := (b1.frozen (p := ⟨g, P * 2 + 1, none⟩) (by exact hgw)).trans (HYF.out _)
        have HB1 := Lib.hid b1
        clear b1
        go_wp2_with fail
        refine hN _ _ _ _ _ _ _ _ _ _ _ _ _ _ _ _ _ _ _ _ _ _ _ _ _ _ _ _ _ _ _ _ _ _ _ _ _ _ _ _ _ _ _ _ _ _ _ _ _ _ _ _ _ _ _ _ _ _ _ _ _ _ _ _ _ _ _ _ _ _ _ _ _ _ _ _ _ _ _ _ _ _ _ _ _ _ _ _ _ _ _ _ _ _ _ _ _ _ _ _ _ _ _ _ _ _ _ _ _ _ _ _ _ _ _ _ _ _ _ _ _ _ _ _ _ _ _ _ _ _ _ _ _ _ _ _ _ _ _ _ _ _ _ _ _ _ _ _ _ _ _ _ _ _ _ _ _ _ _ _ _ _ _ _ _ _ _ _ _ _ _ _ _ _ _ _ _ _ _ _ _ _ _ _ _ _ _ _ _ _ _ _ _ _ _ _ (.bare) (nm) (addV ls x.data.toList) (b) (J2) (some ⟨g, 0, none⟩) (L) (oc) _ (by simp) HS.out (HWN.out) ?_ ?_
        · have hm := HM.out.below' HB1.out
          have ho := owns_set (k := P * 2 + 1) hm.own rfl (.string nx)
          rw [HLS.out, HNX.out, ← HPP.out, attC_setV] at ho
          refine ⟨(Below.heap_setCell _ ⟨g, P * 2 + 1, none⟩ _ p (by show p ≠ g; have := HGB.out; omega)).trans hm.tok, ?_, by rw [HLS.out, addV_snoc, ← hm.len, HLS.out]; simp, by have := hm.size; simp [World.setCell]; exact this, Below.setCell (by first | exact hm.below | exact hm.below.drew) (by show p ≤ g; have := HGB.out; omega) _⟩
          rw [HLS.out, addV_snoc, HNX.out, ← HPP.out]
          exact ho
        · have := HJ2.out
          simp only [rank]
          omega
      | none =>
        have e1 : ret3 k none = .tuple #[.string ⟨#[]⟩, .int .i64 0, .bool false] := rfl
        rw [hf, e1] at HFI
        by_cases h0 : c = 0
        · have t0 := byte_is (z := 0) h0 rfl
          have HS : Hid (runR S.data.toList ⟨.bare, nm, (addV ls fffd), b, J⟩ = Z) := by
            show _ = _
            rw [← HR.out, run_step (s := ⟨.bare, nm, ls, b, k⟩) hg (by simp), step_val (.inr (.inr rfl))]
            rw [if_neg (by rw [hend]; simp), hf]
            simp only []
            rw [if_pos h0, hJ]
          have HWN : Hid (Wf S.data.toList ⟨.bare, nm, addV ls fffd, b, J⟩) := by
            have := HW.out.addV (k := 1) (by rw [hsl.out]; omega) (HW.out.ne rfl) (x := fffd) (by decide)
            rw [hJ] at this
            exact this
          obtain ⟨nx, hnx⟩ : ∃ X, avb ++ (⟨#[239, 191, 189]⟩ : ByteArray) = X := ⟨_, rfl⟩
          have HNX : Hid (nx = ⟨(av ++ fffd).toArray⟩) := by
            show _ = _
            rw [← hnx, ← HAVB.out]
            apply ByteArray.ext
            apply Array.ext'
            simp [ByteArray.data_append, fffd]
          have HYV := Lib.hid yv
          clear hf hg hend ya yfn hne h0 hLP hb h62
          go_wp2_with fail
          refine (HBL.out _).mono ?_
          rintro e w' ⟨rfl, rfl⟩
          go_wp2_with fail
          refine (HFI.out _).mono ?_
          rintro e w1 ⟨rfl, b1⟩
          have y1 : w1.cell? ⟨g, P * 2 + 1, none⟩ = some (.string avb) := (b1.cell (p := ⟨g, P * 2 + 1, none⟩) (by exact hgw)).trans HYV.out
          have f1 : w1.frozen? ⟨g, P * 2 + 1, none⟩ = false := (b1.frozen (p := ⟨g, P * 2 + 1, none⟩) (by exact hgw)).trans (HYF.out _)
          have HB1 := Lib.hid b1
          clear b1
          go_wp2_with fail
          refine hN _ _ _ _ _ _ _ _ _ _ _ _ _ _ _ _ _ _ _ _ _ _ _ _ _ _ _ _ _ _ _ _ _ _ _ _ _ _ _ _ _ _ _ _ _ _ _ _ _ _ _ _ _ _ _ _ _ _ _ _ _ _ _ _ _ _ _ _ _ _ _ _ _ _ _ _ _ _ _ _ _ _ _ _ _ _ _ _ _ _ _ _ _ _ _ _ _ _ _ _ _ _ _ _ _ _ _ _ _ _ _ _ _ _ _ _ _ _ _ _ _ _ _ _ _ _ _ _ _ _ _ _ _ _ _ _ _ _ _ _ _ _ _ _ _ _ _ _ _ _ _ _ _ _ _ _ _ _ _ _ _ _ _ _ _ _ _ _ _ _ _ _ _ _ _ _ _ _ _ _ _ _ _ _ _ _ _ _ _ _ _ _ _ _ _ _ (.bare) (nm) (addV ls fffd) (b) (J) (some ⟨g, 0, none⟩) (L) (oc) _ (by simp) HS.out (HWN.out) ?_ ?_
          · have hm := HM.out.below' HB1.out
            have ho := owns_set (k := P * 2 + 1) hm.own rfl (.string nx)
            rw [HLS.out, HNX.out, ← HPP.out, attC_setV] at ho
            refine ⟨(Below.heap_setCell _ ⟨g, P * 2 + 1, none⟩ _ p (by show p ≠ g; have := HGB.out; omega)).trans hm.tok, ?_, by rw [HLS.out, addV_snoc, ← hm.len, HLS.out]; simp, by have := hm.size; simp [World.setCell]; exact this, Below.setCell (by first | exact hm.below | exact hm.below.drew) (by show p ≤ g; have := HGB.out; omega) _⟩
            rw [HLS.out, addV_snoc, HNX.out, ← HPP.out]
            exact ho
          · simp only [rank]
            omega
        · have t0 := byte_not (z := 0) h0 rfl
          have HS : Hid (runR S.data.toList ⟨.bare, nm, (addV ls [c]), b, J⟩ = Z) := by
            show _ = _
            rw [← HR.out, run_step (s := ⟨.bare, nm, ls, b, k⟩) hg (by simp), step_val (.inr (.inr rfl))]
            rw [if_neg (by rw [hend]; simp), hf]
            simp only []
            rw [if_neg h0, hJ]
          have HWN : Hid (Wf S.data.toList ⟨.bare, nm, addV ls [c], b, J⟩) := by
            have := HW.out.addV (k := 1) (by rw [hsl.out]; omega) (HW.out.ne rfl) (x := [c]) (by simp)
            rw [hJ] at this
            exact this
          obtain ⟨nx, hnx⟩ : ∃ X, avb ++ (⟨#[c]⟩ : ByteArray) = X := ⟨_, rfl⟩
          have hcs : (⟨#[c]⟩ : ByteArray).size = 1 := rfl
          have HNX : Hid (nx = ⟨(av ++ [c]).toArray⟩) := by
            show _ = _
            rw [← hnx, ← HAVB.out]
            apply ByteArray.ext
            apply Array.ext'
            simp [ByteArray.data_append]
          have HYV := Lib.hid yv
          clear hf hg hend ya yfn hne h0 hLP hb h62
          go_wp2_with fail
          refine (HBL.out _).mono ?_
          rintro e w' ⟨rfl, rfl⟩
          go_wp2_with fail
          refine (HFI.out _).mono ?_
          rintro e w1 ⟨rfl, b1⟩
          have y1 : w1.cell? ⟨g, P * 2 + 1, none⟩ = some (.string avb) := (b1.cell (p := ⟨g, P * 2 + 1, none⟩) (by exact hgw)).trans HYV.out
          have f1 : w1.frozen? ⟨g, P * 2 + 1, none⟩ = false := (b1.frozen (p := ⟨g, P * 2 + 1, none⟩) (by exact hgw)).trans (HYF.out _)
          have hg1 : g < w1.heap.size := Nat.lt_of_lt_of_le hgw b1.size
          have hng : ¬ g = w1.heap.size := by omega
          have hcv := conv_oneD w1 c
          have hba : Below w1.heap.size w1 (w1.alloc (.cells #[.int .u8 (c.toNat : Int)] 5)).drew := ((Below.refl w1.heap.size w1).alloc (Nat.le_refl _) _).drew
          have y2 : (w1.alloc (.cells #[.int .u8 (c.toNat : Int)] 5)).drew.cell? ⟨g, P * 2 + 1, none⟩ = some (.string avb) := (hba.cell (p := ⟨g, P * 2 + 1, none⟩) (by exact hg1)).trans y1
          have f2 : (w1.alloc (.cells #[.int .u8 (c.toNat : Int)] 5)).drew.frozen? ⟨g, P * 2 + 1, none⟩ = false := (hba.frozen (p := ⟨g, P * 2 + 1, none⟩) (by exact hg1)).trans f1
          have hlim : ¬ 9223372036854775807 < avb.size + 1 := by omega
          clear hba
          have HB1 := Lib.hid b1
          have HG1 := Lib.hid hg1
          clear b1 hg1
          go_wp2_with fail
          go_region
          all_goals
            go_wp2_with fail
            refine hN _ _ _ _ _ _ _ _ _ _ _ _ _ _ _ _ _ _ _ _ _ _ _ _ _ _ _ _ _ _ _ _ _ _ _ _ _ _ _ _ _ _ _ _ _ _ _ _ _ _ _ _ _ _ _ _ _ _ _ _ _ _ _ _ _ _ _ _ _ _ _ _ _ _ _ _ _ _ _ _ _ _ _ _ _ _ _ _ _ _ _ _ _ _ _ _ _ _ _ _ _ _ _ _ _ _ _ _ _ _ _ _ _ _ _ _ _ _ _ _ _ _ _ _ _ _ _ _ _ _ _ _ _ _ _ _ _ _ _ _ _ _ _ _ _ _ _ _ _ _ _ _ _ _ _ _ _ _ _ _ _ _ _ _ _ _ _ _ _ _ _ _ _ _ _ _ _ _ _ _ _ _ _ _ _ _ _ _ _ _ _ _ _ _ _ _ (.bare) (nm) (addV ls [c]) (b) (J) (some ⟨g, 0, none⟩) (L) (oc) _ (by simp) HS.out (HWN.out) ?_ ?_
            · have hm0 := HM.out.below' HB1.out
              have hm := hm0.below' ((Below.refl w1.heap.size w1).alloc (Nat.le_refl _) (.cells #[.int .u8 (c.toNat : Int)] 5))
              have ho := owns_set (k := P * 2 + 1) hm.own rfl (.string nx)
              rw [HLS.out, HNX.out, ← HPP.out, attC_setV] at ho
              refine ⟨(Below.heap_setCell _ ⟨g, P * 2 + 1, none⟩ _ p (by show p ≠ g; have := HGB.out; omega)).trans (by exact hm.tok), ?_, by rw [HLS.out, addV_snoc, ← hm.len, HLS.out]; simp, by have := hm.size; simp [World.setCell] at this ⊢; exact this, (by first | exact hm.below.drew.setCell (by show p ≤ g; have := HGB.out; omega) _ | exact (hm.below.setCell (by show p ≤ g; have := HGB.out; omega) _).drew | exact hm.below.setCell (by show p ≤ g; have := HGB.out; omega) _)⟩
              rw [HLS.out, addV_snoc, HNX.out, ← HPP.out]
              exact ho
            · simp only [rank]
              omega

set_option maxHeartbeats 25600000 in
set_option maxRecDepth 100000 in
theorem rloop_any (code : Code) (hcode : loopOf 15 Tryd.f13 = some code) (R : Act → World → Prop) {x1 x2 x3 x4 x5 x6 x7 x9 x13 x14 x15 x16 x17 x18 x19 x20 x21 x22 x23 x24 x25 x26 x27 x28 x29 x30 x31 x32 x33 x34 x35 x36 x37 x38 x39 x40 x41 x42 x43 x44 x45 x46 x47 x48 x49 x50 x51 x52 x53 x54 x55 x56 x57 x58 x59 x60 x61 x62 x63 x64 x65 x66 x67 x68 x69 x70 x71 x72 x73 x74 x75 x76 x77 x78 x79 x80 x81 x82 x83 x84 x85 x86 x87 x88 x89 x90 x91 x92 x93 x94 x95 x96 x97 x98 x99 x100 x101 x102 x103 x104 x105 x106 x107 x108 x109 x110 x111 x112 x113 x114 x115 x116 x117 x118 x119 x120 x121 x122 x123 x124 x125 x126 x127 x128 x129 x130 x131 x132 x133 x134 x135 x136 x137 x138 x139 x140 x141 x142 x143 x144 x145 x146 x147 x148 x149 x150 x151 x152 x153 x154 x155 x156 x157 x158 x159 x160 x161 x162 x163 x164 x165 x166 x167 x168 x169 x170 x171 x172 x173 x174 x175 x176 x177 x178 x179 x180 x181 x182 x183 x184 x185 x186 x187 x188 x189 x190 x191 x192 x193 x194 x195 x196 x197 x198 x199 x200 x201 x202 x203 x204 x205 x206 x207 x208 x209 x210 x211 x212 x213 x214 x215 x216 x217 x218 x219 x220 x221 x222 x223 x224 x225 x226 x227 x228 x229 x230 x231 x232 x233 x234 x235 x236 x237 x238 x239 x240 x241 x242 x243 x244 x245 x246 x247 x248 x249 x250 x251 x252 x253 x254 x255 x256 x257 x258 x259 x260 x261 x262 x263 x264 x265 x266 x267 x268 x269 x270 x271 x272 x273 x274 x275 x276 x277 x278 x279 x280 x281 x282 x283 x284 x285 x286 x287 x288 x289 x290 x291 x292 x293 x294 x295 x296 x297 x298 x299 x300 x301 x302 x303 x304 x305 x306 x307 x308 x309 x310 x311 x312 x313 x314 : Value} {ds : List Deferred} {w : World} (S : ByteArray) (p n : Nat) (kind from' : Int)
    (hs : S.size ≤ 2000) (hn : n ≤ S.size) (hpw : p < w.heap.size) (hp : w.heap[p]? = some (.cells #[.int .i64 kind, .string ⟨#[]⟩, .string ⟨#[]⟩, .slice none 0 0, .bool false, .bool false, .bool false, .int .i64 from', .int .i64 0] 25 (0, 0)))
    (hQ : ∀ (u13 u14 u15 u16 u17 u68 u69 u70 u71 u72 u73 u74 u75 u76 u77 u78 u79 u80 u81 u82 u83 u84 u85 u86 u87 u88 u89 u90 u91 u92 u93 u94 u95 u96 u97 u98 u99 u100 u101 u102 u103 u104 u105 u106 u107 u108 u109 u110 u111 u112 u113 u114 u115 u116 u117 u118 u119 u120 u121 u122 u123 u124 u125 u126 u127 u128 u129 u130 u131 u132 u133 u134 u135 u136 u137 u138 u139 u140 u141 u142 u143 u144 u145 u146 u147 u148 u149 u150 u151 u152 u153 u154 u155 u156 u157 u158 u159 u160 u161 u162 u163 u164 u165 u166 u167 u168 u169 u170 u171 u172 u173 u174 u175 u176 u177 u178 u179 u180 u181 u182 u183 u184 u185 u186 u187 u188 u189 u190 u191 u192 u193 u194 u195 u196 u197 u198 u199 u200 u201 u202 u203 u204 u205 u206 u207 u208 u209 u210 u211 u212 u213 u214 u215 u216 u217 u218 u219 u220 u221 u222 u223 u224 u225 u226 u227 u228 u229 u230 u231 u232 u233 u234 u235 u236 u237 u238 u239 u240 u241 u242 u243 u244 u245 u246 u247 u248 u249 u250 u251 u252 u253 u254 u255 u256 u257 u258 : Value) (z : RS) (oa : Option Addr) (L oc : Nat) (wr : World), z = runR S.data.toList ⟨.tag, [], [], false, n⟩ → Wf S.data.toList z → RdAt w.heap.size p kind from' w z.name z.self z.l oa L oc wr → R ⟨List.toArray (.string S :: x1 :: x2 :: x3 :: x4 :: x5 :: x6 :: x7 :: .int .i64 (z.i : Int) :: x9 :: .pointer (some ⟨p, 0, none⟩) :: .slice oa L oc :: .string (stB z.st) :: u13 :: u14 :: u15 :: u16 :: u17 :: x18 :: x19 :: x20 :: x21 :: x22 :: x23 :: x24 :: x25 :: x26 :: x27 :: x28 :: x29 :: x30 :: x31 :: x32 :: x33 :: x34 :: x35 :: x36 :: x37 :: x38 :: x39 :: x40 :: x41 :: x42 :: x43 :: x44 :: x45 :: x46 :: x47 :: x48 :: x49 :: x50 :: x51 :: x52 :: x53 :: x54 :: x55 :: x56 :: x57 :: x58 :: x59 :: x60 :: x61 :: x62 :: x63 :: x64 :: x65 :: x66 :: x67 :: u68 :: u69 :: u70 :: u71 :: u72 :: u73 :: u74 :: u75 :: u76 :: u77 :: u78 :: u79 :: u80 :: u81 :: u82 :: u83 :: u84 :: u85 :: u86 :: u87 :: u88 :: u89 :: u90 :: u91 :: u92 :: u93 :: u94 :: u95 :: u96 :: u97 :: u98 :: u99 :: u100 :: u101 :: u102 :: u103 :: u104 :: u105 :: u106 :: u107 :: u108 :: u109 :: u110 :: u111 :: u112 :: u113 :: u114 :: u115 :: u116 :: u117 :: u118 :: u119 :: u120 :: u121 :: u122 :: u123 :: u124 :: u125 :: u126 :: u127 :: u128 :: u129 :: u130 :: u131 :: u132 :: u133 :: u134 :: u135 :: u136 :: u137 :: u138 :: u139 :: u140 :: u141 :: u142 :: u143 :: u144 :: u145 :: u146 :: u147 :: u148 :: u149 :: u150 :: u151 :: u152 :: u153 :: u154 :: u155 :: u156 :: u157 :: u158 :: u159 :: u160 :: u161 :: u162 :: u163 :: u164 :: u165 :: u166 :: u167 :: u168 :: u169 :: u170 :: u171 :: u172 :: u173 :: u174 :: u175 :: u176 :: u177 :: u178 :: u179 :: u180 :: u181 :: u182 :: u183 :: u184 :: u185 :: u186 :: u187 :: u188 :: u189 :: u190 :: u191 :: u192 :: u193 :: u194 :: u195 :: u196 :: u197 :: u198 :: u199 :: u200 :: u201 :: u202 :: u203 :: u204 :: u205 :: u206 :: u207 :: u208 :: u209 :: u210 :: u211 :: u212 :: u213 :: u214 :: u215 :: u216 :: u217 :: u218 :: u219 :: u220 :: u221 :: u222 :: u223 :: u224 :: u225 :: u226 :: u227 :: u228 :: u229 :: u230 :: u231 :: u232 :: u233 :: u234 :: u235 :: u236 :: u237 :: u238 :: u239 :: u240 :: u241 :: u242 :: u243 :: u244 :: u245 :: u246 :: u247 :: u248 :: u249 :: u250 :: u251 :: u252 :: u253 :: u254 :: u255 :: u256 :: u257 :: u258 :: x259 :: x260 :: x261 :: x262 :: x263 :: x264 :: x265 :: x266 :: x267 :: x268 :: x269 :: x270 :: x271 :: x272 :: x273 :: x274 :: x275 :: x276 :: x277 :: x278 :: x279 :: x280 :: x281 :: x282 :: x283 :: x284 :: x285 :: x286 :: x287 :: x288 :: x289 :: x290 :: x291 :: x292 :: x293 :: x294 :: x295 :: x296 :: x297 :: x298 :: x299 :: x300 :: x301 :: x302 :: x303 :: x304 :: x305 :: x306 :: x307 :: x308 :: x309 :: x310 :: x311 :: x312 :: x313 :: x314 :: []), ds⟩ wr) :
    code.wp Tryd.prog (LoopQ 0 R) ⟨List.toArray (.string S :: x1 :: x2 :: x3 :: x4 :: x5 :: x6 :: x7 :: .int .i64 (n : Int) :: x9 :: .pointer (some ⟨p, 0, none⟩) :: .slice none 0 0 :: .string ⟨#[116, 97, 103]⟩ :: x13 :: x14 :: x15 :: x16 :: x17 :: x18 :: x19 :: x20 :: x21 :: x22 :: x23 :: x24 :: x25 :: x26 :: x27 :: x28 :: x29 :: x30 :: x31 :: x32 :: x33 :: x34 :: x35 :: x36 :: x37 :: x38 :: x39 :: x40 :: x41 :: x42 :: x43 :: x44 :: x45 :: x46 :: x47 :: x48 :: x49 :: x50 :: x51 :: x52 :: x53 :: x54 :: x55 :: x56 :: x57 :: x58 :: x59 :: x60 :: x61 :: x62 :: x63 :: x64 :: x65 :: x66 :: x67 :: x68 :: x69 :: x70 :: x71 :: x72 :: x73 :: x74 :: x75 :: x76 :: x77 :: x78 :: x79 :: x80 :: x81 :: x82 :: x83 :: x84 :: x85 :: x86 :: x87 :: x88 :: x89 :: x90 :: x91 :: x92 :: x93 :: x94 :: x95 :: x96 :: x97 :: x98 :: x99 :: x100 :: x101 :: x102 :: x103 :: x104 :: x105 :: x106 :: x107 :: x108 :: x109 :: x110 :: x111 :: x112 :: x113 :: x114 :: x115 :: x116 :: x117 :: x118 :: x119 :: x120 :: x121 :: x122 :: x123 :: x124 :: x125 :: x126 :: x127 :: x128 :: x129 :: x130 :: x131 :: x132 :: x133 :: x134 :: x135 :: x136 :: x137 :: x138 :: x139 :: x140 :: x141 :: x142 :: x143 :: x144 :: x145 :: x146 :: x147 :: x148 :: x149 :: x150 :: x151 :: x152 :: x153 :: x154 :: x155 :: x156 :: x157 :: x158 :: x159 :: x160 :: x161 :: x162 :: x163 :: x164 :: x165 :: x166 :: x167 :: x168 :: x169 :: x170 :: x171 :: x172 :: x173 :: x174 :: x175 :: x176 :: x177 :: x178 :: x179 :: x180 :: x181 :: x182 :: x183 :: x184 :: x185 :: x186 :: x187 :: x188 :: x189 :: x190 :: x191 :: x192 :: x193 :: x194 :: x195 :: x196 :: x197 :: x198 :: x199 :: x200 :: x201 :: x202 :: x203 :: x204 :: x205 :: x206 :: x207 :: x208 :: x209 :: x210 :: x211 :: x212 :: x213 :: x214 :: x215 :: x216 :: x217 :: x218 :: x219 :: x220 :: x221 :: x222 :: x223 :: x224 :: x225 :: x226 :: x227 :: x228 :: x229 :: x230 :: x231 :: x232 :: x233 :: x234 :: x235 :: x236 :: x237 :: x238 :: x239 :: x240 :: x241 :: x242 :: x243 :: x244 :: x245 :: x246 :: x247 :: x248 :: x249 :: x250 :: x251 :: x252 :: x253 :: x254 :: x255 :: x256 :: x257 :: x258 :: x259 :: x260 :: x261 :: x262 :: x263 :: x264 :: x265 :: x266 :: x267 :: x268 :: x269 :: x270 :: x271 :: x272 :: x273 :: x274 :: x275 :: x276 :: x277 :: x278 :: x279 :: x280 :: x281 :: x282 :: x283 :: x284 :: x285 :: x286 :: x287 :: x288 :: x289 :: x290 :: x291 :: x292 :: x293 :: x294 :: x295 :: x296 :: x297 :: x298 :: x299 :: x300 :: x301 :: x302 :: x303 :: x304 :: x305 :: x306 :: x307 :: x308 :: x309 :: x310 :: x311 :: x312 :: x313 :: x314 :: []), ds⟩ w := by
  have hlit := Option.some.inj hcode.symm
  subst hlit
  obtain ⟨Z, hZ⟩ : ∃ Z, runR S.data.toList ⟨.tag, [], [], false, n⟩ = Z := ⟨_, rfl⟩
  have HZ := Lib.hid hZ
  have hsl : Hid (S.data.toList.length = S.size) := by show _ = _; simp
  have HP := Lib.hid hp
  clear hZ hp
  go_loopw [8, 11, 12] (fun i l st wr => ∃ (s : St) (nm : List UInt8) (ls : List At) (b : Bool) (k : Nat) (oa : Option Addr) (L oc : Nat), i = .int .i64 k ∧ l = .slice oa L oc ∧ st = .string (stB s) ∧ s ≠ .done ∧ Hid (runR S.data.toList ⟨s, nm, ls, b, k⟩ = Z) ∧ Hid (Wf S.data.toList ⟨s, nm, ls, b, k⟩) ∧ Hid (RdAt w.heap.size p kind from' w nm b ls oa L oc wr)) (fun i l st _ => 2 * (S.size - (intOf i).toNat) + rankV st)
  case atStart => exact ⟨.tag, [], [], false, n, none, 0, 0, rfl, rfl, rfl, by simp, HZ.out, ⟨by rw [hsl.out]; exact hn, Nat.zero_le _, Nat.zero_le _, (fun a ha => by cases ha), by simp [needs]⟩, ⟨HP.out, World.ownsRow_nil _ _ _ _, rfl, Nat.le_refl _, Below.refl _ _⟩⟩
  case round =>
    obtain ⟨s, nm, ls, b, k, oa, L, oc, rfl, rfl, rfl, hnd, HR, HW, HM⟩ := hrel
    have hkS : k ≤ S.size := by have := HW.out.i; rw [hsl.out] at this; exact this
    by_cases hlt : k < S.size
    · cases s with
      | done => exact absurd rfl hnd
      | tag =>
        refine round_out (round_tag _ rfl _ _ S p k L oc oa nm ls b kind from' Z w hs hlt hpw HR HW HM ?_ ?_)
        · intro u13 u14 u15 u16 u17 u68 u69 u70 u71 u72 u73 u74 u75 u76 u77 u78 u79 u80 u81 u82 u83 u84 u85 u86 u87 u88 u89 u90 u91 u92 u93 u94 u95 u96 u97 u98 u99 u100 u101 u102 u103 u104 u105 u106 u107 u108 u109 u110 u111 u112 u113 u114 u115 u116 u117 u118 u119 u120 u121 u122 u123 u124 u125 u126 u127 u128 u129 u130 u131 u132 u133 u134 u135 u136 u137 u138 u139 u140 u141 u142 u143 u144 u145 u146 u147 u148 u149 u150 u151 u152 u153 u154 u155 u156 u157 u158 u159 u160 u161 u162 u163 u164 u165 u166 u167 u168 u169 u170 u171 u172 u173 u174 u175 u176 u177 u178 u179 u180 u181 u182 u183 u184 u185 u186 u187 u188 u189 u190 u191 u192 u193 u194 u195 u196 u197 u198 u199 u200 u201 u202 u203 u204 u205 u206 u207 u208 u209 u210 u211 u212 u213 u214 u215 u216 u217 u218 u219 u220 u221 u222 u223 u224 u225 u226 u227 u228 u229 u230 u231 u232 u233 u234 u235 u236 u237 u238 u239 u240 u241 u242 u243 u244 u245 u246 u247 u248 u249 u250 u251 u252 u253 u254 u255 u256 u257 u258 s' nm' ls' b' k' oa' L' oc' w' h1 h2 h3 h4 h5
          go_roundw
          case rel => exact ⟨_, _, _, _, _, _, _, _, _, _, _, _, _, _, _, _, _, _, _, _, _, _, _, _, _, _, _, _, _, _, _, _, _, _, _, _, _, _, _, _, _, _, _, _, _, _, _, _, _, _, _, _, _, _, _, _, _, _, _, _, _, _, _, _, _, _, _, _, _, _, _, _, _, _, _, _, _, _, _, _, _, _, _, _, _, _, _, _, _, _, _, _, _, _, _, _, _, _, _, _, _, _, _, _, _, _, _, _, _, _, _, _, _, _, _, _, _, _, _, _, _, _, _, _, _, _, _, _, _, _, _, _, _, _, _, _, _, _, _, _, _, _, _, _, _, _, _, _, _, _, _, _, _, _, _, _, _, _, _, _, _, _, _, _, _, _, _, _, _, _, _, _, _, _, _, _, _, _, _, _, _, _, _, _, _, _, _, _, _, _, _, _, _, _, _, _, _, _, _, ⟨s', nm', ls', b', k', oa', L', oc', rfl, rfl, rfl, h1, h2, h3, h4⟩, rfl⟩
          case measure =>
            show 2 * (S.size - ((k' : Int)).toNat) + rankV (.string (stB s')) < 2 * (S.size - ((k : Int)).toNat) + rankV (.string (stB .tag))
            simp only [rankV_st, Int.toNat_natCast]
            exact h5
        · intro u13 u14 u15 u16 u17 u68 u69 u70 u71 u72 u73 u74 u75 u76 u77 u78 u79 u80 u81 u82 u83 u84 u85 u86 u87 u88 u89 u90 u91 u92 u93 u94 u95 u96 u97 u98 u99 u100 u101 u102 u103 u104 u105 u106 u107 u108 u109 u110 u111 u112 u113 u114 u115 u116 u117 u118 u119 u120 u121 u122 u123 u124 u125 u126 u127 u128 u129 u130 u131 u132 u133 u134 u135 u136 u137 u138 u139 u140 u141 u142 u143 u144 u145 u146 u147 u148 u149 u150 u151 u152 u153 u154 u155 u156 u157 u158 u159 u160 u161 u162 u163 u164 u165 u166 u167 u168 u169 u170 u171 u172 u173 u174 u175 u176 u177 u178 u179 u180 u181 u182 u183 u184 u185 u186 u187 u188 u189 u190 u191 u192 u193 u194 u195 u196 u197 u198 u199 u200 u201 u202 u203 u204 u205 u206 u207 u208 u209 u210 u211 u212 u213 u214 u215 u216 u217 u218 u219 u220 u221 u222 u223 u224 u225 u226 u227 u228 u229 u230 u231 u232 u233 u234 u235 u236 u237 u238 u239 u240 u241 u242 u243 u244 u245 u246 u247 u248 u249 u250 u251 u252 u253 u254 u255 u256 u257 u258 z oa' L' oc' w' h1 h2 h3
          exact ⟨rfl, hQ _ _ _ _ _ _ _ _ _ _ _ _ _ _ _ _ _ _ _ _ _ _ _ _ _ _ _ _ _ _ _ _ _ _ _ _ _ _ _ _ _ _ _ _ _ _ _ _ _ _ _ _ _ _ _ _ _ _ _ _ _ _ _ _ _ _ _ _ _ _ _ _ _ _ _ _ _ _ _ _ _ _ _ _ _ _ _ _ _ _ _ _ _ _ _ _ _ _ _ _ _ _ _ _ _ _ _ _ _ _ _ _ _ _ _ _ _ _ _ _ _ _ _ _ _ _ _ _ _ _ _ _ _ _ _ _ _ _ _ _ _ _ _ _ _ _ _ _ _ _ _ _ _ _ _ _ _ _ _ _ _ _ _ _ _ _ _ _ _ _ _ _ _ _ _ _ _ _ _ _ _ _ _ _ _ _ _ _ _ _ _ _ _ _ _ _ z oa' L' oc' w' (by rw [HZ.out, h1]) h2 h3⟩
      | slash =>
        refine round_out (round_slash _ rfl _ _ S p k L oc oa nm ls b kind from' Z w hs hlt hpw HR HW HM ?_ ?_)
        · intro u13 u14 u15 u16 u17 u68 u69 u70 u71 u72 u73 u74 u75 u76 u77 u78 u79 u80 u81 u82 u83 u84 u85 u86 u87 u88 u89 u90 u91 u92 u93 u94 u95 u96 u97 u98 u99 u100 u101 u102 u103 u104 u105 u106 u107 u108 u109 u110 u111 u112 u113 u114 u115 u116 u117 u118 u119 u120 u121 u122 u123 u124 u125 u126 u127 u128 u129 u130 u131 u132 u133 u134 u135 u136 u137 u138 u139 u140 u141 u142 u143 u144 u145 u146 u147 u148 u149 u150 u151 u152 u153 u154 u155 u156 u157 u158 u159 u160 u161 u162 u163 u164 u165 u166 u167 u168 u169 u170 u171 u172 u173 u174 u175 u176 u177 u178 u179 u180 u181 u182 u183 u184 u185 u186 u187 u188 u189 u190 u191 u192 u193 u194 u195 u196 u197 u198 u199 u200 u201 u202 u203 u204 u205 u206 u207 u208 u209 u210 u211 u212 u213 u214 u215 u216 u217 u218 u219 u220 u221 u222 u223 u224 u225 u226 u227 u228 u229 u230 u231 u232 u233 u234 u235 u236 u237 u238 u239 u240 u241 u242 u243 u244 u245 u246 u247 u248 u249 u250 u251 u252 u253 u254 u255 u256 u257 u258 s' nm' ls' b' k' oa' L' oc' w' h1 h2 h3 h4 h5
          go_roundw
          case rel => exact ⟨_, _, _, _, _, _, _, _, _, _, _, _, _, _, _, _, _, _, _, _, _, _, _, _, _, _, _, _, _, _, _, _, _, _, _, _, _, _, _, _, _, _, _, _, _, _, _, _, _, _, _, _, _, _, _, _, _, _, _, _, _, _, _, _, _, _, _, _, _, _, _, _, _, _, _, _, _, _, _, _, _, _, _, _, _, _, _, _, _, _, _, _, _, _, _, _, _, _, _, _, _, _, _, _, _, _, _, _, _, _, _, _, _, _, _, _, _, _, _, _, _, _, _, _, _, _, _, _, _, _, _, _, _, _, _, _, _, _, _, _, _, _, _, _, _, _, _, _, _, _, _, _, _, _, _, _, _, _, _, _, _, _, _, _, _, _, _, _, _, _, _, _, _, _, _, _, _, _, _, _, _, _, _, _, _, _, _, _, _, _, _, _, _, _, _, _, _, _, _, ⟨s', nm', ls', b', k', oa', L', oc', rfl, rfl, rfl, h1, h2, h3, h4⟩, rfl⟩
          case measure =>
            show 2 * (S.size - ((k' : Int)).toNat) + rankV (.string (stB s')) < 2 * (S.size - ((k : Int)).toNat) + rankV (.string (stB .slash))
            simp only [rankV_st, Int.toNat_natCast]
            exact h5
        · intro u13 u14 u15 u16 u17 u68 u69 u70 u71 u72 u73 u74 u75 u76 u77 u78 u79 u80 u81 u82 u83 u84 u85 u86 u87 u88 u89 u90 u91 u92 u93 u94 u95 u96 u97 u98 u99 u100 u101 u102 u103 u104 u105 u106 u107 u108 u109 u110 u111 u112 u113 u114 u115 u116 u117 u118 u119 u120 u121 u122 u123 u124 u125 u126 u127 u128 u129 u130 u131 u132 u133 u134 u135 u136 u137 u138 u139 u140 u141 u142 u143 u144 u145 u146 u147 u148 u149 u150 u151 u152 u153 u154 u155 u156 u157 u158 u159 u160 u161 u162 u163 u164 u165 u166 u167 u168 u169 u170 u171 u172 u173 u174 u175 u176 u177 u178 u179 u180 u181 u182 u183 u184 u185 u186 u187 u188 u189 u190 u191 u192 u193 u194 u195 u196 u197 u198 u199 u200 u201 u202 u203 u204 u205 u206 u207 u208 u209 u210 u211 u212 u213 u214 u215 u216 u217 u218 u219 u220 u221 u222 u223 u224 u225 u226 u227 u228 u229 u230 u231 u232 u233 u234 u235 u236 u237 u238 u239 u240 u241 u242 u243 u244 u245 u246 u247 u248 u249 u250 u251 u252 u253 u254 u255 u256 u257 u258 z oa' L' oc' w' h1 h2 h3
          exact ⟨rfl, hQ _ _ _ _ _ _ _ _ _ _ _ _ _ _ _ _ _ _ _ _ _ _ _ _ _ _ _ _ _ _ _ _ _ _ _ _ _ _ _ _ _ _ _ _ _ _ _ _ _ _ _ _ _ _ _ _ _ _ _ _ _ _ _ _ _ _ _ _ _ _ _ _ _ _ _ _ _ _ _ _ _ _ _ _ _ _ _ _ _ _ _ _ _ _ _ _ _ _ _ _ _ _ _ _ _ _ _ _ _ _ _ _ _ _ _ _ _ _ _ _ _ _ _ _ _ _ _ _ _ _ _ _ _ _ _ _ _ _ _ _ _ _ _ _ _ _ _ _ _ _ _ _ _ _ _ _ _ _ _ _ _ _ _ _ _ _ _ _ _ _ _ _ _ _ _ _ _ _ _ _ _ _ _ _ _ _ _ _ _ _ _ _ _ _ _ _ z oa' L' oc' w' (by rw [HZ.out, h1]) h2 h3⟩
      | ahead =>
        refine round_out (round_ahead _ rfl _ _ S p k L oc oa nm ls b kind from' Z w hs hlt hpw HR HW HM ?_ ?_)
        · intro u13 u14 u15 u16 u17 u68 u69 u70 u71 u72 u73 u74 u75 u76 u77 u78 u79 u80 u81 u82 u83 u84 u85 u86 u87 u88 u89 u90 u91 u92 u93 u94 u95 u96 u97 u98 u99 u100 u101 u102 u103 u104 u105 u106 u107 u108 u109 u110 u111 u112 u113 u114 u115 u116 u117 u118 u119 u120 u121 u122 u123 u124 u125 u126 u127 u128 u129 u130 u131 u132 u133 u134 u135 u136 u137 u138 u139 u140 u141 u142 u143 u144 u145 u146 u147 u148 u149 u150 u151 u152 u153 u154 u155 u156 u157 u158 u159 u160 u161 u162 u163 u164 u165 u166 u167 u168 u169 u170 u171 u172 u173 u174 u175 u176 u177 u178 u179 u180 u181 u182 u183 u184 u185 u186 u187 u188 u189 u190 u191 u192 u193 u194 u195 u196 u197 u198 u199 u200 u201 u202 u203 u204 u205 u206 u207 u208 u209 u210 u211 u212 u213 u214 u215 u216 u217 u218 u219 u220 u221 u222 u223 u224 u225 u226 u227 u228 u229 u230 u231 u232 u233 u234 u235 u236 u237 u238 u239 u240 u241 u242 u243 u244 u245 u246 u247 u248 u249 u250 u251 u252 u253 u254 u255 u256 u257 u258 s' nm' ls' b' k' oa' L' oc' w' h1 h2 h3 h4 h5
          go_roundw
          case rel => exact ⟨_, _, _, _, _, _, _, _, _, _, _, _, _, _, _, _, _, _, _, _, _, _, _, _, _, _, _, _, _, _, _, _, _, _, _, _, _, _, _, _, _, _, _, _, _, _, _, _, _, _, _, _, _, _, _, _, _, _, _, _, _, _, _, _, _, _, _, _, _, _, _, _, _, _, _, _, _, _, _, _, _, _, _, _, _, _, _, _, _, _, _, _, _, _, _, _, _, _, _, _, _, _, _, _, _, _, _, _, _, _, _, _, _, _, _, _, _, _, _, _, _, _, _, _, _, _, _, _, _, _, _, _, _, _, _, _, _, _, _, _, _, _, _, _, _, _, _, _, _, _, _, _, _, _, _, _, _, _, _, _, _, _, _, _, _, _, _, _, _, _, _, _, _, _, _, _, _, _, _, _, _, _, _, _, _, _, _, _, _, _, _, _, _, _, _, _, _, _, _, ⟨s', nm', ls', b', k', oa', L', oc', rfl, rfl, rfl, h1, h2, h3, h4⟩, rfl⟩
          case measure =>
            show 2 * (S.size - ((k' : Int)).toNat) + rankV (.string (stB s')) < 2 * (S.size - ((k : Int)).toNat) + rankV (.string (stB .ahead))
            simp only [rankV_st, Int.toNat_natCast]
            exact h5
        · intro u13 u14 u15 u16 u17 u68 u69 u70 u71 u72 u73 u74 u75 u76 u77 u78 u79 u80 u81 u82 u83 u84 u85 u86 u87 u88 u89 u90 u91 u92 u93 u94 u95 u96 u97 u98 u99 u100 u101 u102 u103 u104 u105 u106 u107 u108 u109 u110 u111 u112 u113 u114 u115 u116 u117 u118 u119 u120 u121 u122 u123 u124 u125 u126 u127 u128 u129 u130 u131 u132 u133 u134 u135 u136 u137 u138 u139 u140 u141 u142 u143 u144 u145 u146 u147 u148 u149 u150 u151 u152 u153 u154 u155 u156 u157 u158 u159 u160 u161 u162 u163 u164 u165 u166 u167 u168 u169 u170 u171 u172 u173 u174 u175 u176 u177 u178 u179 u180 u181 u182 u183 u184 u185 u186 u187 u188 u189 u190 u191 u192 u193 u194 u195 u196 u197 u198 u199 u200 u201 u202 u203 u204 u205 u206 u207 u208 u209 u210 u211 u212 u213 u214 u215 u216 u217 u218 u219 u220 u221 u222 u223 u224 u225 u226 u227 u228 u229 u230 u231 u232 u233 u234 u235 u236 u237 u238 u239 u240 u241 u242 u243 u244 u245 u246 u247 u248 u249 u250 u251 u252 u253 u254 u255 u256 u257 u258 z oa' L' oc' w' h1 h2 h3
          exact ⟨rfl, hQ _ _ _ _ _ _ _ _ _ _ _ _ _ _ _ _ _ _ _ _ _ _ _ _ _ _ _ _ _ _ _ _ _ _ _ _ _ _ _ _ _ _ _ _ _ _ _ _ _ _ _ _ _ _ _ _ _ _ _ _ _ _ _ _ _ _ _ _ _ _ _ _ _ _ _ _ _ _ _ _ _ _ _ _ _ _ _ _ _ _ _ _ _ _ _ _ _ _ _ _ _ _ _ _ _ _ _ _ _ _ _ _ _ _ _ _ _ _ _ _ _ _ _ _ _ _ _ _ _ _ _ _ _ _ _ _ _ _ _ _ _ _ _ _ _ _ _ _ _ _ _ _ _ _ _ _ _ _ _ _ _ _ _ _ _ _ _ _ _ _ _ _ _ _ _ _ _ _ _ _ _ _ _ _ _ _ _ _ _ _ _ _ _ _ _ _ z oa' L' oc' w' (by rw [HZ.out, h1]) h2 h3⟩
      | name =>
        refine round_out (round_name _ rfl _ _ S p k L oc oa nm ls b kind from' Z w hs hlt hpw HR HW HM ?_ ?_)
        · intro u13 u14 u15 u16 u17 u68 u69 u70 u71 u72 u73 u74 u75 u76 u77 u78 u79 u80 u81 u82 u83 u84 u85 u86 u87 u88 u89 u90 u91 u92 u93 u94 u95 u96 u97 u98 u99 u100 u101 u102 u103 u104 u105 u106 u107 u108 u109 u110 u111 u112 u113 u114 u115 u116 u117 u118 u119 u120 u121 u122 u123 u124 u125 u126 u127 u128 u129 u130 u131 u132 u133 u134 u135 u136 u137 u138 u139 u140 u141 u142 u143 u144 u145 u146 u147 u148 u149 u150 u151 u152 u153 u154 u155 u156 u157 u158 u159 u160 u161 u162 u163 u164 u165 u166 u167 u168 u169 u170 u171 u172 u173 u174 u175 u176 u177 u178 u179 u180 u181 u182 u183 u184 u185 u186 u187 u188 u189 u190 u191 u192 u193 u194 u195 u196 u197 u198 u199 u200 u201 u202 u203 u204 u205 u206 u207 u208 u209 u210 u211 u212 u213 u214 u215 u216 u217 u218 u219 u220 u221 u222 u223 u224 u225 u226 u227 u228 u229 u230 u231 u232 u233 u234 u235 u236 u237 u238 u239 u240 u241 u242 u243 u244 u245 u246 u247 u248 u249 u250 u251 u252 u253 u254 u255 u256 u257 u258 s' nm' ls' b' k' oa' L' oc' w' h1 h2 h3 h4 h5
          go_roundw
          case rel => exact ⟨_, _, _, _, _, _, _, _, _, _, _, _, _, _, _, _, _, _, _, _, _, _, _, _, _, _, _, _, _, _, _, _, _, _, _, _, _, _, _, _, _, _, _, _, _, _, _, _, _, _, _, _, _, _, _, _, _, _, _, _, _, _, _, _, _, _, _, _, _, _, _, _, _, _, _, _, _, _, _, _, _, _, _, _, _, _, _, _, _, _, _, _, _, _, _, _, _, _, _, _, _, _, _, _, _, _, _, _, _, _, _, _, _, _, _, _, _, _, _, _, _, _, _, _, _, _, _, _, _, _, _, _, _, _, _, _, _, _, _, _, _, _, _, _, _, _, _, _, _, _, _, _, _, _, _, _, _, _, _, _, _, _, _, _, _, _, _, _, _, _, _, _, _, _, _, _, _, _, _, _, _, _, _, _, _, _, _, _, _, _, _, _, _, _, _, _, _, _, _, ⟨s', nm', ls', b', k', oa', L', oc', rfl, rfl, rfl, h1, h2, h3, h4⟩, rfl⟩
          case measure =>
            show 2 * (S.size - ((k' : Int)).toNat) + rankV (.string (stB s')) < 2 * (S.size - ((k : Int)).toNat) + rankV (.string (stB .name))
            simp only [rankV_st, Int.toNat_natCast]
            exact h5
        · intro u13 u14 u15 u16 u17 u68 u69 u70 u71 u72 u73 u74 u75 u76 u77 u78 u79 u80 u81 u82 u83 u84 u85 u86 u87 u88 u89 u90 u91 u92 u93 u94 u95 u96 u97 u98 u99 u100 u101 u102 u103 u104 u105 u106 u107 u108 u109 u110 u111 u112 u113 u114 u115 u116 u117 u118 u119 u120 u121 u122 u123 u124 u125 u126 u127 u128 u129 u130 u131 u132 u133 u134 u135 u136 u137 u138 u139 u140 u141 u142 u143 u144 u145 u146 u147 u148 u149 u150 u151 u152 u153 u154 u155 u156 u157 u158 u159 u160 u161 u162 u163 u164 u165 u166 u167 u168 u169 u170 u171 u172 u173 u174 u175 u176 u177 u178 u179 u180 u181 u182 u183 u184 u185 u186 u187 u188 u189 u190 u191 u192 u193 u194 u195 u196 u197 u198 u199 u200 u201 u202 u203 u204 u205 u206 u207 u208 u209 u210 u211 u212 u213 u214 u215 u216 u217 u218 u219 u220 u221 u222 u223 u224 u225 u226 u227 u228 u229 u230 u231 u232 u233 u234 u235 u236 u237 u238 u239 u240 u241 u242 u243 u244 u245 u246 u247 u248 u249 u250 u251 u252 u253 u254 u255 u256 u257 u258 z oa' L' oc' w' h1 h2 h3
          exact ⟨rfl, hQ _ _ _ _ _ _ _ _ _ _ _ _ _ _ _ _ _ _ _ _ _ _ _ _ _ _ _ _ _ _ _ _ _ _ _ _ _ _ _ _ _ _ _ _ _ _ _ _ _ _ _ _ _ _ _ _ _ _ _ _ _ _ _ _ _ _ _ _ _ _ _ _ _ _ _ _ _ _ _ _ _ _ _ _ _ _ _ _ _ _ _ _ _ _ _ _ _ _ _ _ _ _ _ _ _ _ _ _ _ _ _ _ _ _ _ _ _ _ _ _ _ _ _ _ _ _ _ _ _ _ _ _ _ _ _ _ _ _ _ _ _ _ _ _ _ _ _ _ _ _ _ _ _ _ _ _ _ _ _ _ _ _ _ _ _ _ _ _ _ _ _ _ _ _ _ _ _ _ _ _ _ _ _ _ _ _ _ _ _ _ _ _ _ _ _ _ z oa' L' oc' w' (by rw [HZ.out, h1]) h2 h3⟩
      | behind =>
        refine round_out (round_behind _ rfl _ _ S p k L oc oa nm ls b kind from' Z w hs hlt hpw HR HW HM ?_ ?_)
        · intro u13 u14 u15 u16 u17 u68 u69 u70 u71 u72 u73 u74 u75 u76 u77 u78 u79 u80 u81 u82 u83 u84 u85 u86 u87 u88 u89 u90 u91 u92 u93 u94 u95 u96 u97 u98 u99 u100 u101 u102 u103 u104 u105 u106 u107 u108 u109 u110 u111 u112 u113 u114 u115 u116 u117 u118 u119 u120 u121 u122 u123 u124 u125 u126 u127 u128 u129 u130 u131 u132 u133 u134 u135 u136 u137 u138 u139 u140 u141 u142 u143 u144 u145 u146 u147 u148 u149 u150 u151 u152 u153 u154 u155 u156 u157 u158 u159 u160 u161 u162 u163 u164 u165 u166 u167 u168 u169 u170 u171 u172 u173 u174 u175 u176 u177 u178 u179 u180 u181 u182 u183 u184 u185 u186 u187 u188 u189 u190 u191 u192 u193 u194 u195 u196 u197 u198 u199 u200 u201 u202 u203 u204 u205 u206 u207 u208 u209 u210 u211 u212 u213 u214 u215 u216 u217 u218 u219 u220 u221 u222 u223 u224 u225 u226 u227 u228 u229 u230 u231 u232 u233 u234 u235 u236 u237 u238 u239 u240 u241 u242 u243 u244 u245 u246 u247 u248 u249 u250 u251 u252 u253 u254 u255 u256 u257 u258 s' nm' ls' b' k' oa' L' oc' w' h1 h2 h3 h4 h5
          go_roundw
          case rel => exact ⟨_, _, _, _, _, _, _, _, _, _, _, _, _, _, _, _, _, _, _, _, _, _, _, _, _, _, _, _, _, _, _, _, _, _, _, _, _, _, _, _, _, _, _, _, _, _, _, _, _, _, _, _, _, _, _, _, _, _, _, _, _, _, _, _, _, _, _, _, _, _, _, _, _, _, _, _, _, _, _, _, _, _, _, _, _, _, _, _, _, _, _, _, _, _, _, _, _, _, _, _, _, _, _, _, _, _, _, _, _, _, _, _, _, _, _, _, _, _, _, _, _, _, _, _, _, _, _, _, _, _, _, _, _, _, _, _, _, _, _, _, _, _, _, _, _, _, _, _, _, _, _, _, _, _, _, _, _, _, _, _, _, _, _, _, _, _, _, _, _, _, _, _, _, _, _, _, _, _, _, _, _, _, _, _, _, _, _, _, _, _, _, _, _, _, _, _, _, _, _, ⟨s', nm', ls', b', k', oa', L', oc', rfl, rfl, rfl, h1, h2, h3, h4⟩, rfl⟩
          case measure =>
            show 2 * (S.size - ((k' : Int)).toNat) + rankV (.string (stB s')) < 2 * (S.size - ((k : Int)).toNat) + rankV (.string (stB .behind))
            simp only [rankV_st, Int.toNat_natCast]
            exact h5
        · intro u13 u14 u15 u16 u17 u68 u69 u70 u71 u72 u73 u74 u75 u76 u77 u78 u79 u80 u81 u82 u83 u84 u85 u86 u87 u88 u89 u90 u91 u92 u93 u94 u95 u96 u97 u98 u99 u100 u101 u102 u103 u104 u105 u106 u107 u108 u109 u110 u111 u112 u113 u114 u115 u116 u117 u118 u119 u120 u121 u122 u123 u124 u125 u126 u127 u128 u129 u130 u131 u132 u133 u134 u135 u136 u137 u138 u139 u140 u141 u142 u143 u144 u145 u146 u147 u148 u149 u150 u151 u152 u153 u154 u155 u156 u157 u158 u159 u160 u161 u162 u163 u164 u165 u166 u167 u168 u169 u170 u171 u172 u173 u174 u175 u176 u177 u178 u179 u180 u181 u182 u183 u184 u185 u186 u187 u188 u189 u190 u191 u192 u193 u194 u195 u196 u197 u198 u199 u200 u201 u202 u203 u204 u205 u206 u207 u208 u209 u210 u211 u212 u213 u214 u215 u216 u217 u218 u219 u220 u221 u222 u223 u224 u225 u226 u227 u228 u229 u230 u231 u232 u233 u234 u235 u236 u237 u238 u239 u240 u241 u242 u243 u244 u245 u246 u247 u248 u249 u250 u251 u252 u253 u254 u255 u256 u257 u258 z oa' L' oc' w' h1 h2 h3
          exact ⟨rfl, hQ _ _ _ _ _ _ _ _ _ _ _ _ _ _ _ _ _ _ _ _ _ _ _ _ _ _ _ _ _ _ _ _ _ _ _ _ _ _ _ _ _ _ _ _ _ _ _ _ _ _ _ _ _ _ _ _ _ _ _ _ _ _ _ _ _ _ _ _ _ _ _ _ _ _ _ _ _ _ _ _ _ _ _ _ _ _ _ _ _ _ _ _ _ _ _ _ _ _ _ _ _ _ _ _ _ _ _ _ _ _ _ _ _ _ _ _ _ _ _ _ _ _ _ _ _ _ _ _ _ _ _ _ _ _ _ _ _ _ _ _ _ _ _ _ _ _ _ _ _ _ _ _ _ _ _ _ _ _ _ _ _ _ _ _ _ _ _ _ _ _ _ _ _ _ _ _ _ _ _ _ _ _ _ _ _ _ _ _ _ _ _ _ _ _ _ _ z oa' L' oc' w' (by rw [HZ.out, h1]) h2 h3⟩
      | value =>
        refine round_out (round_value _ rfl _ _ S p k L oc oa nm ls b kind from' Z w hs hlt hpw HR HW HM ?_ ?_)
        · intro u13 u14 u15 u16 u17 u68 u69 u70 u71 u72 u73 u74 u75 u76 u77 u78 u79 u80 u81 u82 u83 u84 u85 u86 u87 u88 u89 u90 u91 u92 u93 u94 u95 u96 u97 u98 u99 u100 u101 u102 u103 u104 u105 u106 u107 u108 u109 u110 u111 u112 u113 u114 u115 u116 u117 u118 u119 u120 u121 u122 u123 u124 u125 u126 u127 u128 u129 u130 u131 u132 u133 u134 u135 u136 u137 u138 u139 u140 u141 u142 u143 u144 u145 u146 u147 u148 u149 u150 u151 u152 u153 u154 u155 u156 u157 u158 u159 u160 u161 u162 u163 u164 u165 u166 u167 u168 u169 u170 u171 u172 u173 u174 u175 u176 u177 u178 u179 u180 u181 u182 u183 u184 u185 u186 u187 u188 u189 u190 u191 u192 u193 u194 u195 u196 u197 u198 u199 u200 u201 u202 u203 u204 u205 u206 u207 u208 u209 u210 u211 u212 u213 u214 u215 u216 u217 u218 u219 u220 u221 u222 u223 u224 u225 u226 u227 u228 u229 u230 u231 u232 u233 u234 u235 u236 u237 u238 u239 u240 u241 u242 u243 u244 u245 u246 u247 u248 u249 u250 u251 u252 u253 u254 u255 u256 u257 u258 s' nm' ls' b' k' oa' L' oc' w' h1 h2 h3 h4 h5
          go_roundw
          case rel => exact ⟨_, _, _, _, _, _, _, _, _, _, _, _, _, _, _, _, _, _, _, _, _, _, _, _, _, _, _, _, _, _, _, _, _, _, _, _, _, _, _, _, _, _, _, _, _, _, _, _, _, _, _, _, _, _, _, _, _, _, _, _, _, _, _, _, _, _, _, _, _, _, _, _, _, _, _, _, _, _, _, _, _, _, _, _, _, _, _, _, _, _, _, _, _, _, _, _, _, _, _, _, _, _, _, _, _, _, _, _, _, _, _, _, _, _, _, _, _, _, _, _, _, _, _, _, _, _, _, _, _, _, _, _, _, _, _, _, _, _, _, _, _, _, _, _, _, _, _, _, _, _, _, _, _, _, _, _, _, _, _, _, _, _, _, _, _, _, _, _, _, _, _, _, _, _, _, _, _, _, _, _, _, _, _, _, _, _, _, _, _, _, _, _, _, _, _, _, _, _, _, ⟨s', nm', ls', b', k', oa', L', oc', rfl, rfl, rfl, h1, h2, h3, h4⟩, rfl⟩
          case measure =>
            show 2 * (S.size - ((k' : Int)).toNat) + rankV (.string (stB s')) < 2 * (S.size - ((k : Int)).toNat) + rankV (.string (stB .value))
            simp only [rankV_st, Int.toNat_natCast]
            exact h5
        · intro u13 u14 u15 u16 u17 u68 u69 u70 u71 u72 u73 u74 u75 u76 u77 u78 u79 u80 u81 u82 u83 u84 u85 u86 u87 u88 u89 u90 u91 u92 u93 u94 u95 u96 u97 u98 u99 u100 u101 u102 u103 u104 u105 u106 u107 u108 u109 u110 u111 u112 u113 u114 u115 u116 u117 u118 u119 u120 u121 u122 u123 u124 u125 u126 u127 u128 u129 u130 u131 u132 u133 u134 u135 u136 u137 u138 u139 u140 u141 u142 u143 u144 u145 u146 u147 u148 u149 u150 u151 u152 u153 u154 u155 u156 u157 u158 u159 u160 u161 u162 u163 u164 u165 u166 u167 u168 u169 u170 u171 u172 u173 u174 u175 u176 u177 u178 u179 u180 u181 u182 u183 u184 u185 u186 u187 u188 u189 u190 u191 u192 u193 u194 u195 u196 u197 u198 u199 u200 u201 u202 u203 u204 u205 u206 u207 u208 u209 u210 u211 u212 u213 u214 u215 u216 u217 u218 u219 u220 u221 u222 u223 u224 u225 u226 u227 u228 u229 u230 u231 u232 u233 u234 u235 u236 u237 u238 u239 u240 u241 u242 u243 u244 u245 u246 u247 u248 u249 u250 u251 u252 u253 u254 u255 u256 u257 u258 z oa' L' oc' w' h1 h2 h3
          exact ⟨rfl, hQ _ _ _ _ _ _ _ _ _ _ _ _ _ _ _ _ _ _ _ _ _ _ _ _ _ _ _ _ _ _ _ _ _ _ _ _ _ _ _ _ _ _ _ _ _ _ _ _ _ _ _ _ _ _ _ _ _ _ _ _ _ _ _ _ _ _ _ _ _ _ _ _ _ _ _ _ _ _ _ _ _ _ _ _ _ _ _ _ _ _ _ _ _ _ _ _ _ _ _ _ _ _ _ _ _ _ _ _ _ _ _ _ _ _ _ _ _ _ _ _ _ _ _ _ _ _ _ _ _ _ _ _ _ _ _ _ _ _ _ _ _ _ _ _ _ _ _ _ _ _ _ _ _ _ _ _ _ _ _ _ _ _ _ _ _ _ _ _ _ _ _ _ _ _ _ _ _ _ _ _ _ _ _ _ _ _ _ _ _ _ _ _ _ _ _ _ z oa' L' oc' w' (by rw [HZ.out, h1]) h2 h3⟩
      | double =>
        refine round_out (round_double _ rfl _ _ S p k L oc oa nm ls b kind from' Z w hs hlt hpw HR HW HM ?_ ?_)
        · intro u13 u14 u15 u16 u17 u68 u69 u70 u71 u72 u73 u74 u75 u76 u77 u78 u79 u80 u81 u82 u83 u84 u85 u86 u87 u88 u89 u90 u91 u92 u93 u94 u95 u96 u97 u98 u99 u100 u101 u102 u103 u104 u105 u106 u107 u108 u109 u110 u111 u112 u113 u114 u115 u116 u117 u118 u119 u120 u121 u122 u123 u124 u125 u126 u127 u128 u129 u130 u131 u132 u133 u134 u135 u136 u137 u138 u139 u140 u141 u142 u143 u144 u145 u146 u147 u148 u149 u150 u151 u152 u153 u154 u155 u156 u157 u158 u159 u160 u161 u162 u163 u164 u165 u166 u167 u168 u169 u170 u171 u172 u173 u174 u175 u176 u177 u178 u179 u180 u181 u182 u183 u184 u185 u186 u187 u188 u189 u190 u191 u192 u193 u194 u195 u196 u197 u198 u199 u200 u201 u202 u203 u204 u205 u206 u207 u208 u209 u210 u211 u212 u213 u214 u215 u216 u217 u218 u219 u220 u221 u222 u223 u224 u225 u226 u227 u228 u229 u230 u231 u232 u233 u234 u235 u236 u237 u238 u239 u240 u241 u242 u243 u244 u245 u246 u247 u248 u249 u250 u251 u252 u253 u254 u255 u256 u257 u258 s' nm' ls' b' k' oa' L' oc' w' h1 h2 h3 h4 h5
          go_roundw
          case rel => exact ⟨_, _, _, _, _, _, _, _, _, _, _, _, _, _, _, _, _, _, _, _, _, _, _, _, _, _, _, _, _, _, _, _, _, _, _, _, _, _, _, _, _, _, _, _, _, _, _, _, _, _, _, _, _, _, _, _, _, _, _, _, _, _, _, _, _, _, _, _, _, _, _, _, _, _, _, _, _, _, _, _, _, _, _, _, _, _, _, _, _, _, _, _, _, _, _, _, _, _, _, _, _, _, _, _, _, _, _, _, _, _, _, _, _, _, _, _, _, _, _, _, _, _, _, _, _, _, _, _, _, _, _, _, _, _, _, _, _, _, _, _, _, _, _, _, _, _, _, _, _, _, _, _, _, _, _, _, _, _, _, _, _, _, _, _, _, _, _, _, _, _, _, _, _, _, _, _, _, _, _, _, _, _, _, _, _, _, _, _, _, _, _, _, _, _, _, _, _, _, _, ⟨s', nm', ls', b', k', oa', L', oc', rfl, rfl, rfl, h1, h2, h3, h4⟩, rfl⟩
          case measure =>
            show 2 * (S.size - ((k' : Int)).toNat) + rankV (.string (stB s')) < 2 * (S.size - ((k : Int)).toNat) + rankV (.string (stB .double))
            simp only [rankV_st, Int.toNat_natCast]
            exact h5
        · intro u13 u14 u15 u16 u17 u68 u69 u70 u71 u72 u73 u74 u75 u76 u77 u78 u79 u80 u81 u82 u83 u84 u85 u86 u87 u88 u89 u90 u91 u92 u93 u94 u95 u96 u97 u98 u99 u100 u101 u102 u103 u104 u105 u106 u107 u108 u109 u110 u111 u112 u113 u114 u115 u116 u117 u118 u119 u120 u121 u122 u123 u124 u125 u126 u127 u128 u129 u130 u131 u132 u133 u134 u135 u136 u137 u138 u139 u140 u141 u142 u143 u144 u145 u146 u147 u148 u149 u150 u151 u152 u153 u154 u155 u156 u157 u158 u159 u160 u161 u162 u163 u164 u165 u166 u167 u168 u169 u170 u171 u172 u173 u174 u175 u176 u177 u178 u179 u180 u181 u182 u183 u184 u185 u186 u187 u188 u189 u190 u191 u192 u193 u194 u195 u196 u197 u198 u199 u200 u201 u202 u203 u204 u205 u206 u207 u208 u209 u210 u211 u212 u213 u214 u215 u216 u217 u218 u219 u220 u221 u222 u223 u224 u225 u226 u227 u228 u229 u230 u231 u232 u233 u234 u235 u236 u237 u238 u239 u240 u241 u242 u243 u244 u245 u246 u247 u248 u249 u250 u251 u252 u253 u254 u255 u256 u257 u258 z oa' L' oc' w' h1 h2 h3
          exact ⟨rfl, hQ _ _ _ _ _ _ _ _ _ _ _ _ _ _ _ _ _ _ _ _ _ _ _ _ _ _ _ _ _ _ _ _ _ _ _ _ _ _ _ _ _ _ _ _ _ _ _ _ _ _ _ _ _ _ _ _ _ _ _ _ _ _ _ _ _ _ _ _ _ _ _ _ _ _ _ _ _ _ _ _ _ _ _ _ _ _ _ _ _ _ _ _ _ _ _ _ _ _ _ _ _ _ _ _ _ _ _ _ _ _ _ _ _ _ _ _ _ _ _ _ _ _ _ _ _ _ _ _ _ _ _ _ _ _ _ _ _ _ _ _ _ _ _ _ _ _ _ _ _ _ _ _ _ _ _ _ _ _ _ _ _ _ _ _ _ _ _ _ _ _ _ _ _ _ _ _ _ _ _ _ _ _ _ _ _ _ _ _ _ _ _ _ _ _ _ _ z oa' L' oc' w' (by rw [HZ.out, h1]) h2 h3⟩
      | single =>
        refine round_out (round_single _ rfl _ _ S p k L oc oa nm ls b kind from' Z w hs hlt hpw HR HW HM ?_ ?_)
        · intro u13 u14 u15 u16 u17 u68 u69 u70 u71 u72 u73 u74 u75 u76 u77 u78 u79 u80 u81 u82 u83 u84 u85 u86 u87 u88 u89 u90 u91 u92 u93 u94 u95 u96 u97 u98 u99 u100 u101 u102 u103 u104 u105 u106 u107 u108 u109 u110 u111 u112 u113 u114 u115 u116 u117 u118 u119 u120 u121 u122 u123 u124 u125 u126 u127 u128 u129 u130 u131 u132 u133 u134 u135 u136 u137 u138 u139 u140 u141 u142 u143 u144 u145 u146 u147 u148 u149 u150 u151 u152 u153 u154 u155 u156 u157 u158 u159 u160 u161 u162 u163 u164 u165 u166 u167 u168 u169 u170 u171 u172 u173 u174 u175 u176 u177 u178 u179 u180 u181 u182 u183 u184 u185 u186 u187 u188 u189 u190 u191 u192 u193 u194 u195 u196 u197 u198 u199 u200 u201 u202 u203 u204 u205 u206 u207 u208 u209 u210 u211 u212 u213 u214 u215 u216 u217 u218 u219 u220 u221 u222 u223 u224 u225 u226 u227 u228 u229 u230 u231 u232 u233 u234 u235 u236 u237 u238 u239 u240 u241 u242 u243 u244 u245 u246 u247 u248 u249 u250 u251 u252 u253 u254 u255 u256 u257 u258 s' nm' ls' b' k' oa' L' oc' w' h1 h2 h3 h4 h5
          go_roundw
          case rel => exact ⟨_, _, _, _, _, _, _, _, _, _, _, _, _, _, _, _, _, _, _, _, _, _, _, _, _, _, _, _, _, _, _, _, _, _, _, _, _, _, _, _, _, _, _, _, _, _, _, _, _, _, _, _, _, _, _, _, _, _, _, _, _, _, _, _, _, _, _, _, _, _, _, _, _, _, _, _, _, _, _, _, _, _, _, _, _, _, _, _, _, _, _, _, _, _, _, _, _, _, _, _, _, _, _, _, _, _, _, _, _, _, _, _, _, _, _, _, _, _, _, _, _, _, _, _, _, _, _, _, _, _, _, _, _, _, _, _, _, _, _, _, _, _, _, _, _, _, _, _, _, _, _, _, _, _, _, _, _, _, _, _, _, _, _, _, _, _, _, _, _, _, _, _, _, _, _, _, _, _, _, _, _, _, _, _, _, _, _, _, _, _, _, _, _, _, _, _, _, _, _, ⟨s', nm', ls', b', k', oa', L', oc', rfl, rfl, rfl, h1, h2, h3, h4⟩, rfl⟩
          case measure =>
            show 2 * (S.size - ((k' : Int)).toNat) + rankV (.string (stB s')) < 2 * (S.size - ((k : Int)).toNat) + rankV (.string (stB .single))
            simp only [rankV_st, Int.toNat_natCast]
            exact h5
        · intro u13 u14 u15 u16 u17 u68 u69 u70 u71 u72 u73 u74 u75 u76 u77 u78 u79 u80 u81 u82 u83 u84 u85 u86 u87 u88 u89 u90 u91 u92 u93 u94 u95 u96 u97 u98 u99 u100 u101 u102 u103 u104 u105 u106 u107 u108 u109 u110 u111 u112 u113 u114 u115 u116 u117 u118 u119 u120 u121 u122 u123 u124 u125 u126 u127 u128 u129 u130 u131 u132 u133 u134 u135 u136 u137 u138 u139 u140 u141 u142 u143 u144 u145 u146 u147 u148 u149 u150 u151 u152 u153 u154 u155 u156 u157 u158 u159 u160 u161 u162 u163 u164 u165 u166 u167 u168 u169 u170 u171 u172 u173 u174 u175 u176 u177 u178 u179 u180 u181 u182 u183 u184 u185 u186 u187 u188 u189 u190 u191 u192 u193 u194 u195 u196 u197 u198 u199 u200 u201 u202 u203 u204 u205 u206 u207 u208 u209 u210 u211 u212 u213 u214 u215 u216 u217 u218 u219 u220 u221 u222 u223 u224 u225 u226 u227 u228 u229 u230 u231 u232 u233 u234 u235 u236 u237 u238 u239 u240 u241 u242 u243 u244 u245 u246 u247 u248 u249 u250 u251 u252 u253 u254 u255 u256 u257 u258 z oa' L' oc' w' h1 h2 h3
          exact ⟨rfl, hQ _ _ _ _ _ _ _ _ _ _ _ _ _ _ _ _ _ _ _ _ _ _ _ _ _ _ _ _ _ _ _ _ _ _ _ _ _ _ _ _ _ _ _ _ _ _ _ _ _ _ _ _ _ _ _ _ _ _ _ _ _ _ _ _ _ _ _ _ _ _ _ _ _ _ _ _ _ _ _ _ _ _ _ _ _ _ _ _ _ _ _ _ _ _ _ _ _ _ _ _ _ _ _ _ _ _ _ _ _ _ _ _ _ _ _ _ _ _ _ _ _ _ _ _ _ _ _ _ _ _ _ _ _ _ _ _ _ _ _ _ _ _ _ _ _ _ _ _ _ _ _ _ _ _ _ _ _ _ _ _ _ _ _ _ _ _ _ _ _ _ _ _ _ _ _ _ _ _ _ _ _ _ _ _ _ _ _ _ _ _ _ _ _ _ _ _ z oa' L' oc' w' (by rw [HZ.out, h1]) h2 h3⟩
      | bare =>
        refine round_out (round_bare _ rfl _ _ S p k L oc oa nm ls b kind from' Z w hs hlt hpw HR HW HM ?_ ?_)
        · intro u13 u14 u15 u16 u17 u68 u69 u70 u71 u72 u73 u74 u75 u76 u77 u78 u79 u80 u81 u82 u83 u84 u85 u86 u87 u88 u89 u90 u91 u92 u93 u94 u95 u96 u97 u98 u99 u100 u101 u102 u103 u104 u105 u106 u107 u108 u109 u110 u111 u112 u113 u114 u115 u116 u117 u118 u119 u120 u121 u122 u123 u124 u125 u126 u127 u128 u129 u130 u131 u132 u133 u134 u135 u136 u137 u138 u139 u140 u141 u142 u143 u144 u145 u146 u147 u148 u149 u150 u151 u152 u153 u154 u155 u156 u157 u158 u159 u160 u161 u162 u163 u164 u165 u166 u167 u168 u169 u170 u171 u172 u173 u174 u175 u176 u177 u178 u179 u180 u181 u182 u183 u184 u185 u186 u187 u188 u189 u190 u191 u192 u193 u194 u195 u196 u197 u198 u199 u200 u201 u202 u203 u204 u205 u206 u207 u208 u209 u210 u211 u212 u213 u214 u215 u216 u217 u218 u219 u220 u221 u222 u223 u224 u225 u226 u227 u228 u229 u230 u231 u232 u233 u234 u235 u236 u237 u238 u239 u240 u241 u242 u243 u244 u245 u246 u247 u248 u249 u250 u251 u252 u253 u254 u255 u256 u257 u258 s' nm' ls' b' k' oa' L' oc' w' h1 h2 h3 h4 h5
          go_roundw
          case rel => exact ⟨_, _, _, _, _, _, _, _, _, _, _, _, _, _, _, _, _, _, _, _, _, _, _, _, _, _, _, _, _, _, _, _, _, _, _, _, _, _, _, _, _, _, _, _, _, _, _, _, _, _, _, _, _, _, _, _, _, _, _, _, _, _, _, _, _, _, _, _, _, _, _, _, _, _, _, _, _, _, _, _, _, _, _, _, _, _, _, _, _, _, _, _, _, _, _, _, _, _, _, _, _, _, _, _, _, _, _, _, _, _, _, _, _, _, _, _, _, _, _, _, _, _, _, _, _, _, _, _, _, _, _, _, _, _, _, _, _, _, _, _, _, _, _, _, _, _, _, _, _, _, _, _, _, _, _, _, _, _, _, _, _, _, _, _, _, _, _, _, _, _, _, _, _, _, _, _, _, _, _, _, _, _, _, _, _, _, _, _, _, _, _, _, _, _, _, _, _, _, _, ⟨s', nm', ls', b', k', oa', L', oc', rfl, rfl, rfl, h1, h2, h3, h4⟩, rfl⟩
          case measure =>
            show 2 * (S.size - ((k' : Int)).toNat) + rankV (.string (stB s')) < 2 * (S.size - ((k : Int)).toNat) + rankV (.string (stB .bare))
            simp only [rankV_st, Int.toNat_natCast]
            exact h5
        · intro u13 u14 u15 u16 u17 u68 u69 u70 u71 u72 u73 u74 u75 u76 u77 u78 u79 u80 u81 u82 u83 u84 u85 u86 u87 u88 u89 u90 u91 u92 u93 u94 u95 u96 u97 u98 u99 u100 u101 u102 u103 u104 u105 u106 u107 u108 u109 u110 u111 u112 u113 u114 u115 u116 u117 u118 u119 u120 u121 u122 u123 u124 u125 u126 u127 u128 u129 u130 u131 u132 u133 u134 u135 u136 u137 u138 u139 u140 u141 u142 u143 u144 u145 u146 u147 u148 u149 u150 u151 u152 u153 u154 u155 u156 u157 u158 u159 u160 u161 u162 u163 u164 u165 u166 u167 u168 u169 u170 u171 u172 u173 u174 u175 u176 u177 u178 u179 u180 u181 u182 u183 u184 u185 u186 u187 u188 u189 u190 u191 u192 u193 u194 u195 u196 u197 u198 u199 u200 u201 u202 u203 u204 u205 u206 u207 u208 u209 u210 u211 u212 u213 u214 u215 u216 u217 u218 u219 u220 u221 u222 u223 u224 u225 u226 u227 u228 u229 u230 u231 u232 u233 u234 u235 u236 u237 u238 u239 u240 u241 u242 u243 u244 u245 u246 u247 u248 u249 u250 u251 u252 u253 u254 u255 u256 u257 u258 z oa' L' oc' w' h1 h2 h3
          exact ⟨rfl, hQ _ _ _ _ _ _ _ _ _ _ _ _ _ _ _ _ _ _ _ _ _ _ _ _ _ _ _ _ _ _ _ _ _ _ _ _ _ _ _ _ _ _ _ _ _ _ _ _ _ _ _ _ _ _ _ _ _ _ _ _ _ _ _ _ _ _ _ _ _ _ _ _ _ _ _ _ _ _ _ _ _ _ _ _ _ _ _ _ _ _ _ _ _ _ _ _ _ _ _ _ _ _ _ _ _ _ _ _ _ _ _ _ _ _ _ _ _ _ _ _ _ _ _ _ _ _ _ _ _ _ _ _ _ _ _ _ _ _ _ _ _ _ _ _ _ _ _ _ _ _ _ _ _ _ _ _ _ _ _ _ _ _ _ _ _ _ _ _ _ _ _ _ _ _ _ _ _ _ _ _ _ _ _ _ _ _ _ _ _ _ _ _ _ _ _ _ z oa' L' oc' w' (by rw [HZ.out, h1]) h2 h3⟩
    · have hki : ¬ (k : Int) < S.size := by omega
      have HE : Hid (Z = ⟨s, nm, ls, b, k⟩) := by
        show _ = _
        rw [← HR.out, run_end (at_none hlt)]
      go_wp2_with fail
      refine ⟨rfl, hQ _ _ _ _ _ _ _ _ _ _ _ _ _ _ _ _ _ _ _ _ _ _ _ _ _ _ _ _ _ _ _ _ _ _ _ _ _ _ _ _ _ _ _ _ _ _ _ _ _ _ _ _ _ _ _ _ _ _ _ _ _ _ _ _ _ _ _ _ _ _ _ _ _ _ _ _ _ _ _ _ _ _ _ _ _ _ _ _ _ _ _ _ _ _ _ _ _ _ _ _ _ _ _ _ _ _ _ _ _ _ _ _ _ _ _ _ _ _ _ _ _ _ _ _ _ _ _ _ _ _ _ _ _ _ _ _ _ _ _ _ _ _ _ _ _ _ _ _ _ _ _ _ _ _ _ _ _ _ _ _ _ _ _ _ _ _ _ _ _ _ _ _ _ _ _ _ _ _ _ _ _ _ _ _ _ _ _ _ _ _ _ _ _ _ _ _ ⟨s, nm, ls, b, k⟩ oa L oc _ (by rw [HZ.out, HE.out]) HW.out HM.out⟩
end Go.Proofs.YteeplfbaflldaaaDoor.T10
