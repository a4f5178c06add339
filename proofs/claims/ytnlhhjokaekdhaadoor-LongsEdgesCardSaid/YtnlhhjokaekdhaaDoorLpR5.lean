/- The second loop of a block of layer 5: its 80 rounds. -/
import Derived.Test.YtnlhhjokaekdhaaDoorLpW5
import Derived.Deep.QuietTactic
import Derived.BigQuiet
set_option linter.unusedVariables false
set_option linter.unusedSimpArgs false
namespace Go.Proofs.YtnlhhjokaekdhaaDoor.L5
open Go.RowKit
open Go.Proofs.YtnlhhjokaekdhaaDoor.R4 (u64V infoU64 owns_base)

set_option maxHeartbeats 3200000 in
set_option maxRecDepth 100000 in
theorem rloop_any (code : Code) (hcode : loopOf 22 Tryd.f38 = some code) (R : Act → World → Prop) {x0 x1 x2 x3 x4 x6 x7 x9 x10 x11 x12 x13 x23 x24 x25 x26 x27 x28 x29 x30 x31 x32 x33 x34 x35 x36 x37 x38 x39 x40 x41 x42 x43 x44 x45 x46 x47 x48 x49 x50 x51 x52 x53 x54 x55 x56 x57 x58 x59 x60 x61 x62 x63 x64 x65 x66 x67 x68 x69 x70 x71 x72 x73 x74 x75 x76 x77 x78 x79 x80 x81 x82 x83 x84 x85 x86 x87 x88 x89 x90 x91 x92 x93 x94 x95 x96 x97 x98 x99 x100 x101 x102 x103 x104 x105 x106 x107 x108 x109 x110 x111 x112 x113 x114 x115 x116 x117 x118 x119 x120 x121 x122 x123 x124 x125 x126 x127 x128 x129 x130 x131 x132 x133 x134 x135 x136 x137 x138 x139 x140 x141 x142 x143 x144 x145 x146 x147 x148 x149 x150 x151 x152 x153 x154 x155 x156 x157 x158 x159 x160 x161 x162 x163 x164 x165 x166 x167 x168 x169 x170 x171 x172 x173 x174 x175 x176 x177 x178 x179 x180 x181 x182 x183 x184 x185 x186 x187 x188 x189 x190 x191 x192 x193 x194 x195 x196 x197 x198 x199 x200 x201 x202 x203 x204 x205 x206 x207 x208 x209 x210 x211 x212 x213 x214 x215 x216 x217 x218 x219 x220 x221 x222 x223 x224 x225 x226 x227 x228 x229 x230 x231 x232 x233 x234 x235 x236 x237 x238 x239 x240 x241 x242 x243 x244 x245 x246 x247 x248 x249 x250 x251 x252 x253 x254 x255 x256 x257 x258 x259 x260 x261 x262 x263 x264 x265 x266 x267 x268 x269 x270 x271 : Value} {ds : List Deferred} {w : World} (σ : St) (WS : List Int) (gk ck gw cw : Nat) (hgk : gk < w.heap.size) (hgw : gw < w.heap.size) (hk : ∀ i, i < 80 → w.cell? ⟨gk, i, none⟩ = some (.int .u64 (kL.getD i 0))) (hw : ∀ i, i < 80 → w.cell? ⟨gw, i, none⟩ = some (.int .u64 (WS.getD i 0)))
    (hQ : ∀ (u22 u23 u24 u145 u146 u147 u148 u149 u150 u151 u152 u153 u154 u155 u156 u157 u158 u159 u160 u161 u162 u163 u164 u165 u166 u167 u168 u169 u170 u171 u172 u173 u174 u175 u176 u177 u178 u179 u180 u181 u182 u183 u184 u185 u186 u187 u188 u189 u190 u191 u192 u193 u194 u195 u196 u197 u198 u199 u200 u201 u202 u203 u204 u205 u206 u207 u208 u209 : Value) (wr : World), Below w.heap.size w wr → R ⟨List.toArray (x0 :: x1 :: x2 :: x3 :: x4 :: .slice (some ⟨gk, 0, none⟩) 80 ck :: x6 :: x7 :: .slice (some ⟨gw, 0, none⟩) 80 cw :: x9 :: x10 :: x11 :: x12 :: x13 :: .int .u64 (rnds σ WS 80).a :: .int .u64 (rnds σ WS 80).b :: .int .u64 (rnds σ WS 80).c :: .int .u64 (rnds σ WS 80).d :: .int .u64 (rnds σ WS 80).e :: .int .u64 (rnds σ WS 80).f :: .int .u64 (rnds σ WS 80).g :: .int .u64 (rnds σ WS 80).h :: u22 :: u23 :: u24 :: x25 :: x26 :: x27 :: x28 :: x29 :: x30 :: x31 :: x32 :: x33 :: x34 :: x35 :: x36 :: x37 :: x38 :: x39 :: x40 :: x41 :: x42 :: x43 :: x44 :: x45 :: x46 :: x47 :: x48 :: x49 :: x50 :: x51 :: x52 :: x53 :: x54 :: x55 :: x56 :: x57 :: x58 :: x59 :: x60 :: x61 :: x62 :: x63 :: x64 :: x65 :: x66 :: x67 :: x68 :: x69 :: x70 :: x71 :: x72 :: x73 :: x74 :: x75 :: x76 :: x77 :: x78 :: x79 :: x80 :: x81 :: x82 :: x83 :: x84 :: x85 :: x86 :: x87 :: x88 :: x89 :: x90 :: x91 :: x92 :: x93 :: x94 :: x95 :: x96 :: x97 :: x98 :: x99 :: x100 :: x101 :: x102 :: x103 :: x104 :: x105 :: x106 :: x107 :: x108 :: x109 :: x110 :: x111 :: x112 :: x113 :: x114 :: x115 :: x116 :: x117 :: x118 :: x119 :: x120 :: x121 :: x122 :: x123 :: x124 :: x125 :: x126 :: x127 :: x128 :: x129 :: x130 :: x131 :: x132 :: x133 :: x134 :: x135 :: x136 :: x137 :: x138 :: x139 :: x140 :: x141 :: x142 :: x143 :: x144 :: u145 :: u146 :: u147 :: u148 :: u149 :: u150 :: u151 :: u152 :: u153 :: u154 :: u155 :: u156 :: u157 :: u158 :: u159 :: u160 :: u161 :: u162 :: u163 :: u164 :: u165 :: u166 :: u167 :: u168 :: u169 :: u170 :: u171 :: u172 :: u173 :: u174 :: u175 :: u176 :: u177 :: u178 :: u179 :: u180 :: u181 :: u182 :: u183 :: u184 :: u185 :: u186 :: u187 :: u188 :: u189 :: u190 :: u191 :: u192 :: u193 :: u194 :: u195 :: u196 :: u197 :: u198 :: u199 :: u200 :: u201 :: u202 :: u203 :: u204 :: u205 :: u206 :: u207 :: u208 :: u209 :: x210 :: x211 :: x212 :: x213 :: x214 :: x215 :: x216 :: x217 :: x218 :: x219 :: x220 :: x221 :: x222 :: x223 :: x224 :: x225 :: x226 :: x227 :: x228 :: x229 :: x230 :: x231 :: x232 :: x233 :: x234 :: x235 :: x236 :: x237 :: x238 :: x239 :: x240 :: x241 :: x242 :: x243 :: x244 :: x245 :: x246 :: x247 :: x248 :: x249 :: x250 :: x251 :: x252 :: x253 :: x254 :: x255 :: x256 :: x257 :: x258 :: x259 :: x260 :: x261 :: x262 :: x263 :: x264 :: x265 :: x266 :: x267 :: x268 :: x269 :: x270 :: x271 :: []), ds⟩ wr) :
    code.wp Tryd.prog (LoopQ 6 R) ⟨List.toArray (x0 :: x1 :: x2 :: x3 :: x4 :: .slice (some ⟨gk, 0, none⟩) 80 ck :: x6 :: x7 :: .slice (some ⟨gw, 0, none⟩) 80 cw :: x9 :: x10 :: x11 :: x12 :: x13 :: .int .u64 σ.a :: .int .u64 σ.b :: .int .u64 σ.c :: .int .u64 σ.d :: .int .u64 σ.e :: .int .u64 σ.f :: .int .u64 σ.g :: .int .u64 σ.h :: .int .i64 0 :: x23 :: x24 :: x25 :: x26 :: x27 :: x28 :: x29 :: x30 :: x31 :: x32 :: x33 :: x34 :: x35 :: x36 :: x37 :: x38 :: x39 :: x40 :: x41 :: x42 :: x43 :: x44 :: x45 :: x46 :: x47 :: x48 :: x49 :: x50 :: x51 :: x52 :: x53 :: x54 :: x55 :: x56 :: x57 :: x58 :: x59 :: x60 :: x61 :: x62 :: x63 :: x64 :: x65 :: x66 :: x67 :: x68 :: x69 :: x70 :: x71 :: x72 :: x73 :: x74 :: x75 :: x76 :: x77 :: x78 :: x79 :: x80 :: x81 :: x82 :: x83 :: x84 :: x85 :: x86 :: x87 :: x88 :: x89 :: x90 :: x91 :: x92 :: x93 :: x94 :: x95 :: x96 :: x97 :: x98 :: x99 :: x100 :: x101 :: x102 :: x103 :: x104 :: x105 :: x106 :: x107 :: x108 :: x109 :: x110 :: x111 :: x112 :: x113 :: x114 :: x115 :: x116 :: x117 :: x118 :: x119 :: x120 :: x121 :: x122 :: x123 :: x124 :: x125 :: x126 :: x127 :: x128 :: x129 :: x130 :: x131 :: x132 :: x133 :: x134 :: x135 :: x136 :: x137 :: x138 :: x139 :: x140 :: x141 :: x142 :: x143 :: x144 :: x145 :: x146 :: x147 :: x148 :: x149 :: x150 :: x151 :: x152 :: x153 :: x154 :: x155 :: x156 :: x157 :: x158 :: x159 :: x160 :: x161 :: x162 :: x163 :: x164 :: x165 :: x166 :: x167 :: x168 :: x169 :: x170 :: x171 :: x172 :: x173 :: x174 :: x175 :: x176 :: x177 :: x178 :: x179 :: x180 :: x181 :: x182 :: x183 :: x184 :: x185 :: x186 :: x187 :: x188 :: x189 :: x190 :: x191 :: x192 :: x193 :: x194 :: x195 :: x196 :: x197 :: x198 :: x199 :: x200 :: x201 :: x202 :: x203 :: x204 :: x205 :: x206 :: x207 :: x208 :: x209 :: x210 :: x211 :: x212 :: x213 :: x214 :: x215 :: x216 :: x217 :: x218 :: x219 :: x220 :: x221 :: x222 :: x223 :: x224 :: x225 :: x226 :: x227 :: x228 :: x229 :: x230 :: x231 :: x232 :: x233 :: x234 :: x235 :: x236 :: x237 :: x238 :: x239 :: x240 :: x241 :: x242 :: x243 :: x244 :: x245 :: x246 :: x247 :: x248 :: x249 :: x250 :: x251 :: x252 :: x253 :: x254 :: x255 :: x256 :: x257 :: x258 :: x259 :: x260 :: x261 :: x262 :: x263 :: x264 :: x265 :: x266 :: x267 :: x268 :: x269 :: x270 :: x271 :: []), ds⟩ w := by
  have hlit := Option.some.inj hcode.symm
  subst hlit
  have HCK : Hid (∀ W i, Below w.heap.size w W → i < 80 → W.cell? ⟨gk, i, none⟩ = some (.int .u64 (kL.getD i 0))) := fun W i hW hi => (hW.cell (p := ⟨gk, i, none⟩) hgk).trans (hk i hi)
  have HCW : Hid (∀ W i, Below w.heap.size w W → i < 80 → W.cell? ⟨gw, i, none⟩ = some (.int .u64 (WS.getD i 0))) := fun W i hW hi => (hW.cell (p := ⟨gw, i, none⟩) hgw).trans (hw i hi)
  clear hk hw hgk hgw
  go_loopw [14, 15, 16, 17, 18, 19, 20, 21, 22] (fun a b c d e f g h i wr => ∃ (n : Nat) (s : St), n ≤ 80 ∧ i = .int .i64 n ∧ a = .int .u64 s.a ∧ b = .int .u64 s.b ∧ c = .int .u64 s.c ∧ d = .int .u64 s.d ∧ e = .int .u64 s.e ∧ f = .int .u64 s.f ∧ g = .int .u64 s.g ∧ h = .int .u64 s.h ∧ Hid (rnds σ WS n = s) ∧ Hid (Below w.heap.size w wr)) (fun _ _ _ _ _ _ _ _ i _ => 80 - (intOf i).toNat)
  case atStart => exact ⟨0, σ, Nat.zero_le _, rfl, rfl, rfl, rfl, rfl, rfl, rfl, rfl, rfl, rfl, Below.refl _ w⟩
  case round =>
    obtain ⟨n, s, hn, rfl, rfl, rfl, rfl, rfl, rfl, rfl, rfl, rfl, HS, B⟩ := hrel
    by_cases hn80 : n < 80
    · have hni : (n : Int) < 80 := by omega
      have hn0 : (0 : Int) ≤ n := by omega
      obtain ⟨K, hK⟩ : ∃ K, kL.getD n 0 = K := ⟨_, rfl⟩
      obtain ⟨X, hX⟩ : ∃ X, WS.getD n 0 = X := ⟨_, rfl⟩
      have HR : Hid (rnds σ WS (n + 1) = rnd s K X) := by show _ = _; rw [rnds, HS.out, hK, hX]
      have ck' := HCK.out wr n B.out hn80
      have cx := HCW.out wr n B.out hn80
      rw [hK] at ck'
      rw [hX] at cx
      clear hK hX
      go_wp2_with fail
      go_quiet ((go_at_call 61; exact quiet_2 (rright_k _ _ _ (by decide))))
      obtain ⟨wa, hwa⟩ : ∃ W, wr.drewN nq = W := ⟨_, rfl⟩
      have BA : Hid (Below w.heap.size w wa) := by rw [← hwa]; exact below_drewN B.out nq
      rw [hwa]
      clear hwa ck' cx
      go_wp2_with (go_at_call 61; refine (rright_k _ _ _ (by decide)).mono ?_; rintro e w7 ⟨rfl, rfl⟩)
      go_roundw
      case rel =>
        refine ⟨n + 1, rnd s K X, by omega, by go_num, ?_, rfl, rfl, rfl, ?_, rfl, rfl, rfl, HR.out, BA.out.drew.drew.drew⟩
        · first | rfl | (unfold rnd sT sU; simp only [wrap_e]; rfl)
        · first | rfl | (unfold rnd sT sU; simp only [wrap_e]; rfl)
      case measure => simp [intOf]; omega
    · obtain rfl : n = 80 := by omega
      subst HS
      go_wp2_with fail
      exact ⟨rfl, hQ _ _ _ _ _ _ _ _ _ _ _ _ _ _ _ _ _ _ _ _ _ _ _ _ _ _ _ _ _ _ _ _ _ _ _ _ _ _ _ _ _ _ _ _ _ _ _ _ _ _ _ _ _ _ _ _ _ _ _ _ _ _ _ _ _ _ _ _ _ B.out⟩
end Go.Proofs.YtnlhhjokaekdhaaDoor.L5
