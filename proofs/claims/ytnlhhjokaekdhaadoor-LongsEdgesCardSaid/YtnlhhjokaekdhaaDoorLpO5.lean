/- The last loops of layer 5: the bytes of the eight numbers. -/
import Derived.Test.YtnlhhjokaekdhaaDoorLpW5
import Derived.Test.YtnlhhjokaekdhaaDoorSum5
import Derived.Test.YtnlhhjokaekdhaaDoorRow
import Derived.RegionTactic
set_option linter.unusedVariables false
set_option linter.unusedSimpArgs false
namespace Go.Proofs.YtnlhhjokaekdhaaDoor.L5
open Go.RowKit
open Go.Proofs.YtnlhhjokaekdhaaDoor.R4 (u64V infoU64 owns_base)

theorem outL_next {τ : St} {j : Nat} {X : Int} (h : j < 8) (hX : τ.list.getD j 0 = X) : outL τ (j + 1) = outL τ j ++ bytesBy X divs8 := by
  unfold outL
  have hl : j < τ.list.length := h
  rw [List.take_add_one, List.getElem?_eq_getElem hl, List.flatMap_append]
  have : τ.list[j] = X := by rw [← hX]; simp [List.getD, hl]
  rw [this]
  simp
theorem tail8 (X : Int) : (bytesBy X divs8).take 8 = (bytesBy X divs8).take 7 ++ [bI X] := by
  have h : ∀ z : Int, z / 1 = z := fun z => Int.ediv_one z
  unfold bytesBy divs8
  simp only [List.map_cons, List.map_nil, h]
  rfl
theorem conv1P (w : World) (z : Int) : (convert 26 9 (.slice (some ⟨w.heap.size, 0, none⟩) 1 1)).run Tryd.prog (w.alloc (.cells #[.int .u8 (z % 256)] 5)) = .ok (.string ⟨#[bI z]⟩) (w.alloc (.cells #[.int .u8 (z % 256)] 5)) := by
  refine run_convert_bytes_back _ 26 9 5 ⟨w.heap.size, 0, none⟩ 1 [bI z] Tryd.underlying26 Tryd.underlying5 Tryd.underlying9 fun j hj => ?_
  obtain rfl : j = 0 := by simp at hj; omega
  simp [Addr.add, bI_val]

set_option maxHeartbeats 3200000 in
set_option maxRecDepth 100000 in
theorem oloop_any (code : Code) (hcode : loopOf 30 Tryd.f38 = some code) (R : Act → World → Prop) {x1 x2 x3 x4 x5 x6 x7 x8 x9 x10 x11 x12 x13 x14 x15 x16 x17 x18 x19 x20 x21 x22 x23 x24 x27 x28 x29 x30 x31 x32 x33 x34 x35 x36 x37 x38 x39 x40 x41 x42 x43 x44 x45 x46 x47 x48 x49 x50 x51 x52 x53 x54 x55 x56 x57 x58 x59 x60 x61 x62 x63 x64 x65 x66 x67 x68 x69 x70 x71 x72 x73 x74 x75 x76 x77 x78 x79 x80 x81 x82 x83 x84 x85 x86 x87 x88 x89 x90 x91 x92 x93 x94 x95 x96 x97 x98 x99 x100 x101 x102 x103 x104 x105 x106 x107 x108 x109 x110 x111 x112 x113 x114 x115 x116 x117 x118 x119 x120 x121 x122 x123 x124 x125 x126 x127 x128 x129 x130 x131 x132 x133 x134 x135 x136 x137 x138 x139 x140 x141 x142 x143 x144 x145 x146 x147 x148 x149 x150 x151 x152 x153 x154 x155 x156 x157 x158 x159 x160 x161 x162 x163 x164 x165 x166 x167 x168 x169 x170 x171 x172 x173 x174 x175 x176 x177 x178 x179 x180 x181 x182 x183 x184 x185 x186 x187 x188 x189 x190 x191 x192 x193 x194 x195 x196 x197 x198 x199 x200 x201 x202 x203 x204 x205 x206 x207 x208 x209 x210 x211 x212 x213 x214 x215 x216 x217 x218 x219 x220 x221 x222 x223 x224 x225 x226 x227 x228 x229 x230 x231 x232 x233 x234 x235 x236 x237 x238 x239 x240 x241 x242 x243 x244 x245 x246 x247 x248 x249 x250 x251 x252 x253 x254 x255 x256 x257 x258 x259 x260 x261 x262 x263 x264 x265 x266 x267 x268 x269 x270 x271 : Value} {ds : List Deferred} {w : World} (τ : St) (g cp : Nat) (hg : g < w.heap.size) (hc : ∀ i, i < 8 → w.cell? ⟨g, i, none⟩ = some (.int .u64 (τ.list.getD i 0)))
    (hQ : ∀ (u26 u27 u251 u252 u253 u254 u255 u256 u257 u258 u259 u260 u261 u262 u263 u264 u265 u266 u267 u268 u269 u270 : Value) (O : ByteArray) (wr : World), O.data.toList = outL τ 8 → Below w.heap.size w wr → R ⟨List.toArray (.slice (some ⟨g, 0, none⟩) 8 cp :: x1 :: x2 :: x3 :: x4 :: x5 :: x6 :: x7 :: x8 :: x9 :: x10 :: x11 :: x12 :: x13 :: x14 :: x15 :: x16 :: x17 :: x18 :: x19 :: x20 :: x21 :: x22 :: x23 :: x24 :: .string O :: u26 :: u27 :: x28 :: x29 :: x30 :: x31 :: x32 :: x33 :: x34 :: x35 :: x36 :: x37 :: x38 :: x39 :: x40 :: x41 :: x42 :: x43 :: x44 :: x45 :: x46 :: x47 :: x48 :: x49 :: x50 :: x51 :: x52 :: x53 :: x54 :: x55 :: x56 :: x57 :: x58 :: x59 :: x60 :: x61 :: x62 :: x63 :: x64 :: x65 :: x66 :: x67 :: x68 :: x69 :: x70 :: x71 :: x72 :: x73 :: x74 :: x75 :: x76 :: x77 :: x78 :: x79 :: x80 :: x81 :: x82 :: x83 :: x84 :: x85 :: x86 :: x87 :: x88 :: x89 :: x90 :: x91 :: x92 :: x93 :: x94 :: x95 :: x96 :: x97 :: x98 :: x99 :: x100 :: x101 :: x102 :: x103 :: x104 :: x105 :: x106 :: x107 :: x108 :: x109 :: x110 :: x111 :: x112 :: x113 :: x114 :: x115 :: x116 :: x117 :: x118 :: x119 :: x120 :: x121 :: x122 :: x123 :: x124 :: x125 :: x126 :: x127 :: x128 :: x129 :: x130 :: x131 :: x132 :: x133 :: x134 :: x135 :: x136 :: x137 :: x138 :: x139 :: x140 :: x141 :: x142 :: x143 :: x144 :: x145 :: x146 :: x147 :: x148 :: x149 :: x150 :: x151 :: x152 :: x153 :: x154 :: x155 :: x156 :: x157 :: x158 :: x159 :: x160 :: x161 :: x162 :: x163 :: x164 :: x165 :: x166 :: x167 :: x168 :: x169 :: x170 :: x171 :: x172 :: x173 :: x174 :: x175 :: x176 :: x177 :: x178 :: x179 :: x180 :: x181 :: x182 :: x183 :: x184 :: x185 :: x186 :: x187 :: x188 :: x189 :: x190 :: x191 :: x192 :: x193 :: x194 :: x195 :: x196 :: x197 :: x198 :: x199 :: x200 :: x201 :: x202 :: x203 :: x204 :: x205 :: x206 :: x207 :: x208 :: x209 :: x210 :: x211 :: x212 :: x213 :: x214 :: x215 :: x216 :: x217 :: x218 :: x219 :: x220 :: x221 :: x222 :: x223 :: x224 :: x225 :: x226 :: x227 :: x228 :: x229 :: x230 :: x231 :: x232 :: x233 :: x234 :: x235 :: x236 :: x237 :: x238 :: x239 :: x240 :: x241 :: x242 :: x243 :: x244 :: x245 :: x246 :: x247 :: x248 :: x249 :: x250 :: u251 :: u252 :: u253 :: u254 :: u255 :: u256 :: u257 :: u258 :: u259 :: u260 :: u261 :: u262 :: u263 :: u264 :: u265 :: u266 :: u267 :: u268 :: u269 :: u270 :: x271 :: []), ds⟩ wr) :
    code.wp Tryd.prog (LoopQ 8 R) ⟨List.toArray (.slice (some ⟨g, 0, none⟩) 8 cp :: x1 :: x2 :: x3 :: x4 :: x5 :: x6 :: x7 :: x8 :: x9 :: x10 :: x11 :: x12 :: x13 :: x14 :: x15 :: x16 :: x17 :: x18 :: x19 :: x20 :: x21 :: x22 :: x23 :: x24 :: .string ⟨#[]⟩ :: .int .i64 0 :: x27 :: x28 :: x29 :: x30 :: x31 :: x32 :: x33 :: x34 :: x35 :: x36 :: x37 :: x38 :: x39 :: x40 :: x41 :: x42 :: x43 :: x44 :: x45 :: x46 :: x47 :: x48 :: x49 :: x50 :: x51 :: x52 :: x53 :: x54 :: x55 :: x56 :: x57 :: x58 :: x59 :: x60 :: x61 :: x62 :: x63 :: x64 :: x65 :: x66 :: x67 :: x68 :: x69 :: x70 :: x71 :: x72 :: x73 :: x74 :: x75 :: x76 :: x77 :: x78 :: x79 :: x80 :: x81 :: x82 :: x83 :: x84 :: x85 :: x86 :: x87 :: x88 :: x89 :: x90 :: x91 :: x92 :: x93 :: x94 :: x95 :: x96 :: x97 :: x98 :: x99 :: x100 :: x101 :: x102 :: x103 :: x104 :: x105 :: x106 :: x107 :: x108 :: x109 :: x110 :: x111 :: x112 :: x113 :: x114 :: x115 :: x116 :: x117 :: x118 :: x119 :: x120 :: x121 :: x122 :: x123 :: x124 :: x125 :: x126 :: x127 :: x128 :: x129 :: x130 :: x131 :: x132 :: x133 :: x134 :: x135 :: x136 :: x137 :: x138 :: x139 :: x140 :: x141 :: x142 :: x143 :: x144 :: x145 :: x146 :: x147 :: x148 :: x149 :: x150 :: x151 :: x152 :: x153 :: x154 :: x155 :: x156 :: x157 :: x158 :: x159 :: x160 :: x161 :: x162 :: x163 :: x164 :: x165 :: x166 :: x167 :: x168 :: x169 :: x170 :: x171 :: x172 :: x173 :: x174 :: x175 :: x176 :: x177 :: x178 :: x179 :: x180 :: x181 :: x182 :: x183 :: x184 :: x185 :: x186 :: x187 :: x188 :: x189 :: x190 :: x191 :: x192 :: x193 :: x194 :: x195 :: x196 :: x197 :: x198 :: x199 :: x200 :: x201 :: x202 :: x203 :: x204 :: x205 :: x206 :: x207 :: x208 :: x209 :: x210 :: x211 :: x212 :: x213 :: x214 :: x215 :: x216 :: x217 :: x218 :: x219 :: x220 :: x221 :: x222 :: x223 :: x224 :: x225 :: x226 :: x227 :: x228 :: x229 :: x230 :: x231 :: x232 :: x233 :: x234 :: x235 :: x236 :: x237 :: x238 :: x239 :: x240 :: x241 :: x242 :: x243 :: x244 :: x245 :: x246 :: x247 :: x248 :: x249 :: x250 :: x251 :: x252 :: x253 :: x254 :: x255 :: x256 :: x257 :: x258 :: x259 :: x260 :: x261 :: x262 :: x263 :: x264 :: x265 :: x266 :: x267 :: x268 :: x269 :: x270 :: x271 :: []), ds⟩ w := by
  have hlit := Option.some.inj hcode.symm
  subst hlit
  have HC : Hid (∀ W i, Below w.heap.size w W → i < 8 → W.cell? ⟨g, i, none⟩ = some (.int .u64 (τ.list.getD i 0))) := fun W i hW hi => (hW.cell (p := ⟨g, i, none⟩) hg).trans (hc i hi)
  have HG := Lib.hid hg
  clear hc hg
  go_loopw [25, 26] (fun o i wr => ∃ (j : Nat) (O : ByteArray), j ≤ 8 ∧ i = .int .i64 j ∧ o = .string O ∧ Hid (O.data.toList = outL τ j) ∧ Hid (Below w.heap.size w wr)) (fun _ i _ => 8 - (intOf i).toNat)
  case atStart => exact ⟨0, ⟨#[]⟩, Nat.zero_le _, rfl, rfl, rfl, Below.refl _ w⟩
  case round =>
    obtain ⟨j, O, hj, rfl, rfl, HO, B⟩ := hrel
    by_cases hlt : j < 8
    · have hji : (j : Int) < 8 := by omega
      have hj0 : (0 : Int) ≤ j := by omega
      obtain ⟨X, hX⟩ : ∃ X, τ.list.getD j 0 = X := ⟨_, rfl⟩
      have HCX : Hid (∀ W, Below w.heap.size w W → W.cell? ⟨g, j, none⟩ = some (.int .u64 X)) := fun W hW => by rw [HC.out W j hW hlt, hX]
      have HN : Hid (outL τ (j + 1) = outL τ j ++ bytesBy X divs8) := outL_next hlt hX
      obtain ⟨P, hP⟩ : ∃ P, outL τ j = P := ⟨_, rfl⟩
      have HPL : Hid (P.length ≤ 64) := by show _ ≤ _; rw [← hP]; exact outL_len τ j
      rw [hP] at HO HN
      clear hX hlt hP HC
      go_wp2_with fail
      go_loopw [25, 27] (fun o i wr => ∃ (k : Nat) (O : ByteArray), k ≤ 8 ∧ i = .int .i64 (7 - (k : Int)) ∧ o = .string O ∧ Hid (O.data.toList = P ++ (bytesBy X divs8).take k) ∧ Hid (Below w.heap.size w wr)) (fun _ i _ => (intOf i + 1).toNat)
      case atStart => exact ⟨0, O, Nat.zero_le _, rfl, rfl, by show _ = _; rw [HO.out, List.take_zero, List.append_nil], B⟩
      case round =>
        clear HO B
        obtain ⟨k, O2, hk, rfl, rfl, HO2, B2⟩ := hrel
        by_cases hk8 : k < 8
        · have cx := HCX.out wr B2.out
          have hosz : O2.size ≤ 100 := by
            have e1 : O2.data.toList.length = O2.size := by simp
            rw [← e1, HO2.out, List.length_append]
            have := HPL.out
            have := List.length_take_le k (bytesBy X divs8)
            omega
          have hlg : g < wr.heap.size := Nat.lt_of_lt_of_le HG.out B2.out.size
          rcases (by omega : k = 0 ∨ k = 1 ∨ k = 2 ∨ k = 3 ∨ k = 4 ∨ k = 5 ∨ k = 6 ∨ k = 7) with rfl | rfl | rfl | rfl | rfl | rfl | rfl | rfl
          · obtain ⟨T, hT⟩ : ∃ T : ByteArray, (⟨#[bI (X / 72057594037927936)]⟩ : ByteArray) = T := ⟨_, rfl⟩
            have hT1 : T.size = 1 := by rw [← hT]; rfl
            have HT : Hid (T.data.toList = [bI (X / 72057594037927936)]) := by show _ = _; rw [← hT]
            have hcv := conv1P wr (X / 72057594037927936)
            rw [hT] at hcv
            have HTK : Hid ((bytesBy X divs8).take 1 = (bytesBy X divs8).take 0 ++ [bI (X / 72057594037927936)]) := by show _ = _; rfl
            clear hT
            go_wp2_with fail
            clear hcv cx
            go_roundw
            case rel => exact ⟨1, O2 ++ T, by omega, by first | go_num | rfl, rfl, (by show _ = _; rw [HTK.out, ByteArray.data_append, Array.toList_append, HO2.out, HT.out, List.append_assoc]), B2.out.alloc B2.out.size _⟩
            case measure => first | (simp [intOf]; done) | (simp [intOf]; omega)
          · obtain ⟨T, hT⟩ : ∃ T : ByteArray, (⟨#[bI (X / 281474976710656)]⟩ : ByteArray) = T := ⟨_, rfl⟩
            have hT1 : T.size = 1 := by rw [← hT]; rfl
            have HT : Hid (T.data.toList = [bI (X / 281474976710656)]) := by show _ = _; rw [← hT]
            have hcv := conv1P wr (X / 281474976710656)
            rw [hT] at hcv
            have HTK : Hid ((bytesBy X divs8).take 2 = (bytesBy X divs8).take 1 ++ [bI (X / 281474976710656)]) := by show _ = _; rfl
            clear hT
            go_wp2_with fail
            clear hcv cx
            go_roundw
            case rel => exact ⟨2, O2 ++ T, by omega, by first | go_num | rfl, rfl, (by show _ = _; rw [HTK.out, ByteArray.data_append, Array.toList_append, HO2.out, HT.out, List.append_assoc]), B2.out.alloc B2.out.size _⟩
            case measure => first | (simp [intOf]; done) | (simp [intOf]; omega)
          · obtain ⟨T, hT⟩ : ∃ T : ByteArray, (⟨#[bI (X / 1099511627776)]⟩ : ByteArray) = T := ⟨_, rfl⟩
            have hT1 : T.size = 1 := by rw [← hT]; rfl
            have HT : Hid (T.data.toList = [bI (X / 1099511627776)]) := by show _ = _; rw [← hT]
            have hcv := conv1P wr (X / 1099511627776)
            rw [hT] at hcv
            have HTK : Hid ((bytesBy X divs8).take 3 = (bytesBy X divs8).take 2 ++ [bI (X / 1099511627776)]) := by show _ = _; rfl
            clear hT
            go_wp2_with fail
            clear hcv cx
            go_roundw
            case rel => exact ⟨3, O2 ++ T, by omega, by first | go_num | rfl, rfl, (by show _ = _; rw [HTK.out, ByteArray.data_append, Array.toList_append, HO2.out, HT.out, List.append_assoc]), B2.out.alloc B2.out.size _⟩
            case measure => first | (simp [intOf]; done) | (simp [intOf]; omega)
          · obtain ⟨T, hT⟩ : ∃ T : ByteArray, (⟨#[bI (X / 4294967296)]⟩ : ByteArray) = T := ⟨_, rfl⟩
            have hT1 : T.size = 1 := by rw [← hT]; rfl
            have HT : Hid (T.data.toList = [bI (X / 4294967296)]) := by show _ = _; rw [← hT]
            have hcv := conv1P wr (X / 4294967296)
            rw [hT] at hcv
            have HTK : Hid ((bytesBy X divs8).take 4 = (bytesBy X divs8).take 3 ++ [bI (X / 4294967296)]) := by show _ = _; rfl
            clear hT
            go_wp2_with fail
            clear hcv cx
            go_roundw
            case rel => exact ⟨4, O2 ++ T, by omega, by first | go_num | rfl, rfl, (by show _ = _; rw [HTK.out, ByteArray.data_append, Array.toList_append, HO2.out, HT.out, List.append_assoc]), B2.out.alloc B2.out.size _⟩
            case measure => first | (simp [intOf]; done) | (simp [intOf]; omega)
          · obtain ⟨T, hT⟩ : ∃ T : ByteArray, (⟨#[bI (X / 16777216)]⟩ : ByteArray) = T := ⟨_, rfl⟩
            have hT1 : T.size = 1 := by rw [← hT]; rfl
            have HT : Hid (T.data.toList = [bI (X / 16777216)]) := by show _ = _; rw [← hT]
            have hcv := conv1P wr (X / 16777216)
            rw [hT] at hcv
            have HTK : Hid ((bytesBy X divs8).take 5 = (bytesBy X divs8).take 4 ++ [bI (X / 16777216)]) := by show _ = _; rfl
            clear hT
            go_wp2_with fail
            clear hcv cx
            go_roundw
            case rel => exact ⟨5, O2 ++ T, by omega, by first | go_num | rfl, rfl, (by show _ = _; rw [HTK.out, ByteArray.data_append, Array.toList_append, HO2.out, HT.out, List.append_assoc]), B2.out.alloc B2.out.size _⟩
            case measure => first | (simp [intOf]; done) | (simp [intOf]; omega)
          · obtain ⟨T, hT⟩ : ∃ T : ByteArray, (⟨#[bI (X / 65536)]⟩ : ByteArray) = T := ⟨_, rfl⟩
            have hT1 : T.size = 1 := by rw [← hT]; rfl
            have HT : Hid (T.data.toList = [bI (X / 65536)]) := by show _ = _; rw [← hT]
            have hcv := conv1P wr (X / 65536)
            rw [hT] at hcv
            have HTK : Hid ((bytesBy X divs8).take 6 = (bytesBy X divs8).take 5 ++ [bI (X / 65536)]) := by show _ = _; rfl
            clear hT
            go_wp2_with fail
            clear hcv cx
            go_roundw
            case rel => exact ⟨6, O2 ++ T, by omega, by first | go_num | rfl, rfl, (by show _ = _; rw [HTK.out, ByteArray.data_append, Array.toList_append, HO2.out, HT.out, List.append_assoc]), B2.out.alloc B2.out.size _⟩
            case measure => first | (simp [intOf]; done) | (simp [intOf]; omega)
          · obtain ⟨T, hT⟩ : ∃ T : ByteArray, (⟨#[bI (X / 256)]⟩ : ByteArray) = T := ⟨_, rfl⟩
            have hT1 : T.size = 1 := by rw [← hT]; rfl
            have HT : Hid (T.data.toList = [bI (X / 256)]) := by show _ = _; rw [← hT]
            have hcv := conv1P wr (X / 256)
            rw [hT] at hcv
            have HTK : Hid ((bytesBy X divs8).take 7 = (bytesBy X divs8).take 6 ++ [bI (X / 256)]) := by show _ = _; rfl
            clear hT
            go_wp2_with fail
            clear hcv cx
            go_roundw
            case rel => exact ⟨7, O2 ++ T, by omega, by first | go_num | rfl, rfl, (by show _ = _; rw [HTK.out, ByteArray.data_append, Array.toList_append, HO2.out, HT.out, List.append_assoc]), B2.out.alloc B2.out.size _⟩
            case measure => first | (simp [intOf]; done) | (simp [intOf]; omega)
          · obtain ⟨T, hT⟩ : ∃ T : ByteArray, (⟨#[bI (X)]⟩ : ByteArray) = T := ⟨_, rfl⟩
            have hT1 : T.size = 1 := by rw [← hT]; rfl
            have HT : Hid (T.data.toList = [bI (X)]) := by show _ = _; rw [← hT]
            have hcv := conv1P wr (X)
            rw [hT] at hcv
            have HTK : Hid ((bytesBy X divs8).take 8 = (bytesBy X divs8).take 7 ++ [bI (X)]) := by show _ = _; exact tail8 X
            clear hT
            go_wp2_with fail
            clear hcv cx
            go_roundw
            case rel => exact ⟨8, O2 ++ T, by omega, by first | go_num | rfl, rfl, (by show _ = _; rw [HTK.out, ByteArray.data_append, Array.toList_append, HO2.out, HT.out, List.append_assoc]), B2.out.alloc B2.out.size _⟩
            case measure => first | (simp [intOf]; done) | (simp [intOf]; omega)
        · obtain rfl : k = 8 := by omega
          have HOF : Hid (O2.data.toList = outL τ (j + 1)) := by
            show _ = _
            rw [HO2.out, HN.out]
            rfl
          go_wp2_with fail
          go_roundw
          case rel => exact ⟨j + 1, O2, by omega, by go_num, rfl, HOF.out, B2.out⟩
          case measure => simp [intOf]; omega
    · obtain rfl : j = 8 := by omega
      go_wp2_with fail
      exact ⟨rfl, hQ _ _ _ _ _ _ _ _ _ _ _ _ _ _ _ _ _ _ _ _ _ _ _ _ HO.out B.out⟩
end Go.Proofs.YtnlhhjokaekdhaaDoor.L5
