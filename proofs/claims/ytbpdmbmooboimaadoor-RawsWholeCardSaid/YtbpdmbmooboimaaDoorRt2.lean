/- lazaretref09.Find: the loop of the digits. -/
import Derived.Test.YtbpdmbmooboimaaDoorRt1
import Derived.Test.YtbpdmbmooboimaaDoorLp
import Derived.Deep.Cut
set_option linter.unusedVariables false
set_option linter.unusedSimpArgs false
namespace Go.Proofs.YtbpdmbmooboimaaDoor.R9
open Go.RowKit

set_option maxHeartbeats 3200000 in
set_option maxRecDepth 100000 in
theorem rnloop_any (code : Code) (hcode : loopOf 8 Tryd.f52 = some code) (R : Act → World → Prop) {x1 x2 x3 x4 x5 x6 x7 x8 x13 x14 x15 x16 x17 x18 x19 x20 x21 x22 x23 x24 x25 x26 x27 x28 x29 x30 x31 x32 x33 x34 x35 x36 x37 x38 x39 x40 x41 x42 x43 x44 x45 x46 x47 x48 x49 x50 x51 x52 x53 x54 x55 x56 x57 x58 x59 x60 x61 x62 x63 x64 x65 x66 x67 x68 x69 x70 x71 x72 x73 x74 x75 x76 x77 x78 x79 x80 x81 x82 x83 x84 x85 x86 x87 x88 x89 x90 x91 x92 x93 x94 x95 x96 x97 x98 x99 x100 x101 x102 x103 x104 x105 x106 x107 x108 x109 x110 x111 x112 x113 x114 x115 x116 x117 x118 x119 x120 x121 x122 x123 x124 x125 x126 x127 x128 x129 x130 x131 x132 x133 x134 x135 x136 x137 x138 x139 x140 x141 x142 x143 x144 x145 x146 x147 x148 x149 x150 x151 x152 x153 x154 x155 x156 x157 x158 x159 x160 x161 x162 x163 x164 x165 x166 x167 x168 x169 x170 : Value} {ds : List Deferred} {w : World} (s : ByteArray) (base : Int) (a : Nat) (hb : base = 10 ∨ base = 16) (ha : a ≤ s.size) (hs : s.size ≤ 5000)
    (hQ : ∀ (u13 u14 u49 u50 u51 u52 u53 u54 u55 u56 u57 u58 u59 u60 u61 u62 u63 u64 u65 u66 u67 u68 u69 u70 u71 u72 u73 u74 u75 u76 : Value), R ⟨List.toArray (.string s :: x1 :: x2 :: x3 :: x4 :: x5 :: x6 :: x7 :: x8 :: .int .i64 base :: .int .i64 ((a + ((s.data.toList.drop a).takeWhile (isD base)).length : Nat) : Int) :: .int .i64 (numV base ((s.data.toList.drop a).takeWhile (isD base))) :: .int .i64 (((s.data.toList.drop a).takeWhile (isD base)).length : Nat) :: u13 :: u14 :: x15 :: x16 :: x17 :: x18 :: x19 :: x20 :: x21 :: x22 :: x23 :: x24 :: x25 :: x26 :: x27 :: x28 :: x29 :: x30 :: x31 :: x32 :: x33 :: x34 :: x35 :: x36 :: x37 :: x38 :: x39 :: x40 :: x41 :: x42 :: x43 :: x44 :: x45 :: x46 :: x47 :: x48 :: u49 :: u50 :: u51 :: u52 :: u53 :: u54 :: u55 :: u56 :: u57 :: u58 :: u59 :: u60 :: u61 :: u62 :: u63 :: u64 :: u65 :: u66 :: u67 :: u68 :: u69 :: u70 :: u71 :: u72 :: u73 :: u74 :: u75 :: u76 :: x77 :: x78 :: x79 :: x80 :: x81 :: x82 :: x83 :: x84 :: x85 :: x86 :: x87 :: x88 :: x89 :: x90 :: x91 :: x92 :: x93 :: x94 :: x95 :: x96 :: x97 :: x98 :: x99 :: x100 :: x101 :: x102 :: x103 :: x104 :: x105 :: x106 :: x107 :: x108 :: x109 :: x110 :: x111 :: x112 :: x113 :: x114 :: x115 :: x116 :: x117 :: x118 :: x119 :: x120 :: x121 :: x122 :: x123 :: x124 :: x125 :: x126 :: x127 :: x128 :: x129 :: x130 :: x131 :: x132 :: x133 :: x134 :: x135 :: x136 :: x137 :: x138 :: x139 :: x140 :: x141 :: x142 :: x143 :: x144 :: x145 :: x146 :: x147 :: x148 :: x149 :: x150 :: x151 :: x152 :: x153 :: x154 :: x155 :: x156 :: x157 :: x158 :: x159 :: x160 :: x161 :: x162 :: x163 :: x164 :: x165 :: x166 :: x167 :: x168 :: x169 :: x170 :: []), ds⟩ w) :
    code.wp Tryd.prog (LoopQ 0 R) ⟨List.toArray (.string s :: x1 :: x2 :: x3 :: x4 :: x5 :: x6 :: x7 :: x8 :: .int .i64 base :: .int .i64 a :: .int .i64 0 :: .int .i64 0 :: x13 :: x14 :: x15 :: x16 :: x17 :: x18 :: x19 :: x20 :: x21 :: x22 :: x23 :: x24 :: x25 :: x26 :: x27 :: x28 :: x29 :: x30 :: x31 :: x32 :: x33 :: x34 :: x35 :: x36 :: x37 :: x38 :: x39 :: x40 :: x41 :: x42 :: x43 :: x44 :: x45 :: x46 :: x47 :: x48 :: x49 :: x50 :: x51 :: x52 :: x53 :: x54 :: x55 :: x56 :: x57 :: x58 :: x59 :: x60 :: x61 :: x62 :: x63 :: x64 :: x65 :: x66 :: x67 :: x68 :: x69 :: x70 :: x71 :: x72 :: x73 :: x74 :: x75 :: x76 :: x77 :: x78 :: x79 :: x80 :: x81 :: x82 :: x83 :: x84 :: x85 :: x86 :: x87 :: x88 :: x89 :: x90 :: x91 :: x92 :: x93 :: x94 :: x95 :: x96 :: x97 :: x98 :: x99 :: x100 :: x101 :: x102 :: x103 :: x104 :: x105 :: x106 :: x107 :: x108 :: x109 :: x110 :: x111 :: x112 :: x113 :: x114 :: x115 :: x116 :: x117 :: x118 :: x119 :: x120 :: x121 :: x122 :: x123 :: x124 :: x125 :: x126 :: x127 :: x128 :: x129 :: x130 :: x131 :: x132 :: x133 :: x134 :: x135 :: x136 :: x137 :: x138 :: x139 :: x140 :: x141 :: x142 :: x143 :: x144 :: x145 :: x146 :: x147 :: x148 :: x149 :: x150 :: x151 :: x152 :: x153 :: x154 :: x155 :: x156 :: x157 :: x158 :: x159 :: x160 :: x161 :: x162 :: x163 :: x164 :: x165 :: x166 :: x167 :: x168 :: x169 :: x170 :: []), ds⟩ w := by
  have hlit := Option.some.inj hcode.symm
  subst hlit
  obtain ⟨r, hr⟩ : ∃ r, s.data.toList.drop a = r := ⟨_, rfl⟩
  rw [hr] at hQ
  have hrl : r.length = s.size - a := by rw [← hr, List.length_drop]; simp
  go_loop [10, 11, 12] (fun i n c => ∃ (k J : Nat), k ≤ r.length ∧ a + k = J ∧ i = .int .i64 J ∧ n = .int .i64 (numV base (r.take k)) ∧ c = .int .i64 k ∧ (r.take k).all (isD base) = true) (fun i _ _ => s.size - (intOf i).toNat)
  case atStart => exact ⟨0, a, Nat.zero_le _, rfl, rfl, rfl, rfl, rfl⟩
  case round =>
    obtain ⟨k, J, hk, hJ, rfl, rfl, rfl, hall⟩ := hrel
    have HQ := Lib.hid hQ
    obtain ⟨n, hn⟩ : ∃ n, numV base (r.take k) = n := ⟨_, rfl⟩
    have hnb := numV_in base (by omega) _ hall
    rw [hn] at hnb
    rw [hn]
    by_cases hlt : k < r.length
    · have hJs : J < s.size := by omega
      have hJi : (J : Int) < s.size := by omega
      have hk5 : k ≤ 5000 := by omega
      obtain ⟨c, hc⟩ : ∃ c, s[J] = c := ⟨_, rfl⟩
      have hrc : r[k] = c := by
        have h1 : r[k]? = s.data.toList[a + k]? := by rw [← hr, List.getElem?_drop]
        have h2 : a + k < s.data.toList.length := by simp; omega
        rw [List.getElem?_eq_getElem hlt, List.getElem?_eq_getElem h2] at h1
        have h3 := Option.some.inj h1
        rw [h3, ← hc]
        subst hJ
        rfl
      have HTK : Hid (r.take (k + 1) = r.take k ++ [c]) := by show _ = _; rw [List.take_succ_eq_append_getElem hlt, hrc]
      have hc8 := c.toNat_lt
      have HX := Lib.hid (rhex_any (c.toNat : Int) w (by omega) (by omega))
      obtain ⟨V, hV⟩ : ∃ V, hexV (c.toNat : Int) = V := ⟨_, rfl⟩
      by_cases hB : hexB (c.toNat : Int) = true
      · have hV2 := hexV_in _ hB
        rw [hV] at hV2
        by_cases hVb : V < base
        · have hD : isD base c = true := by unfold isD; rw [hB, hV]; simpa using hVb
          have HALL : Hid ((r.take (k + 1)).all (isD base) = true) := by show _ = _; rw [HTK.out, List.all_append, hall, List.all_cons, hD]; rfl
          have HNEW : Hid (numV base (r.take (k + 1)) = min (n * base + V) 1114112) := by show _ = _; rw [HTK.out, numV_snoc, hn, hV]
          rw [hV, hB] at HX
          have HJ := Lib.hid hJ
          have HK : Hid (k + 1 ≤ r.length) := hlt
          have hJb : J ≤ 5000 := by omega
          clear hall hn hrl hr hc8 hV hB hD hlt hrc hJ
          rcases hb with rfl | rfl
          · go_wp2_with fail
            refine HX.out.mono ?_
            rintro e w' ⟨rfl, rfl⟩
            go_wp2_with fail
            go_round
            case rel => exact ⟨k + 1, J + 1, HK.out, by have := HJ.out; omega, by go_num, by rw [HNEW.out]; congr 1; split <;> omega, by go_num, HALL.out⟩
            case measure => simp [intOf]; omega
          · go_wp2_with fail
            refine HX.out.mono ?_
            rintro e w' ⟨rfl, rfl⟩
            go_wp2_with fail
            go_round
            case rel => exact ⟨k + 1, J + 1, HK.out, by have := HJ.out; omega, by go_num, by rw [HNEW.out]; congr 1; split <;> omega, by go_num, HALL.out⟩
            case measure => simp [intOf]; omega
        · have hD : isD base c = false := by unfold isD; rw [hB, hV]; simpa using hVb
          have hw := while_take (isD base) r k hk hall (fun h => by rw [hrc]; exact hD)
          rw [hw, hn, List.length_take, Nat.min_eq_left hk, hJ] at HQ
          rw [hV, hB] at HX
          clear hall hn hrl hr hc8 hV hB hD hlt hrc hJ hw hQ
          rcases hb with rfl | rfl
          · go_wp2_with fail
            refine HX.out.mono ?_
            rintro e w' ⟨rfl, rfl⟩
            go_wp2_with fail
            exact ⟨rfl, HQ.out _ _ _ _ _ _ _ _ _ _ _ _ _ _ _ _ _ _ _ _ _ _ _ _ _ _ _ _ _ _⟩
          · go_wp2_with fail
            refine HX.out.mono ?_
            rintro e w' ⟨rfl, rfl⟩
            go_wp2_with fail
            exact ⟨rfl, HQ.out _ _ _ _ _ _ _ _ _ _ _ _ _ _ _ _ _ _ _ _ _ _ _ _ _ _ _ _ _ _⟩
      · have hBf : hexB (c.toNat : Int) = false := by simpa using hB
        have hD : isD base c = false := by unfold isD; rw [hBf]; rfl
        have hw := while_take (isD base) r k hk hall (fun h => by rw [hrc]; exact hD)
        rw [hw, hn, List.length_take, Nat.min_eq_left hk, hJ] at HQ
        rw [hV, hBf] at HX
        clear hall hn hrl hr hc8 hV hB hBf hD hlt hrc hJ hw hQ
        go_wp2_with fail
        refine HX.out.mono ?_
        rintro e w' ⟨rfl, rfl⟩
        go_wp2_with fail
        exact ⟨rfl, HQ.out _ _ _ _ _ _ _ _ _ _ _ _ _ _ _ _ _ _ _ _ _ _ _ _ _ _ _ _ _ _⟩
    · have hw := while_take (isD base) r k hk hall (fun h => absurd h hlt)
      have hJi : ¬ (J : Int) < s.size := by omega
      rw [hw, hn, List.length_take, Nat.min_eq_left hk, hJ] at HQ
      clear hall hn hrl hr hlt hJ hw hQ
      go_wp2_with fail
      exact ⟨rfl, HQ.out _ _ _ _ _ _ _ _ _ _ _ _ _ _ _ _ _ _ _ _ _ _ _ _ _ _ _ _ _ _⟩
end Go.Proofs.YtbpdmbmooboimaaDoor.R9
