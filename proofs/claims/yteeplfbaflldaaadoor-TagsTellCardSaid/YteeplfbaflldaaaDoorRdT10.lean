/- lazaretref10.Read. -/
import Derived.Test.YteeplfbaflldaaaDoorLpT10
import Derived.Test.YteeplfbaflldaaaDoorDpT10
import Derived.Test.YteeplfbaflldaaaDoorTg8
set_option linter.unusedVariables false
set_option linter.unusedSimpArgs false
namespace Go.Proofs.YteeplfbaflldaaaDoor.T10
open Go.RowKit R9

theorem begin_far (s : ByteArray) (z : Int) (w : World) (h : z < 0 ∨ (s.size : Int) ≤ z) : Calls Tryd.prog 25 #[.string s, .int .i64 z] w fun e w' => e = .returned (retB (0, false)) ∧ w = w' := by
  by_cases h0 : z < 0
  · exact begin_out s z w h0
  · have h1 : (s.size : Int) ≤ z := by omega
    clear h
    go_enter Tryd.func25, Tryd.ntmps25
    go_wp2_with fail
    go_ret2
    exact ⟨rfl, rfl⟩
set_option maxHeartbeats 1600000 in
set_option maxRecDepth 100000 in
theorem read_far (s : ByteArray) (z : Int) (w : World) (hz : z < 0 ∨ (s.size : Int) ≤ z) : Calls Tryd.prog 12 #[.string s, .int .i64 z] w fun e w' => e = .returned (.tuple #[zTok, .int .i64 0, .bool false]) ∧ Below w.heap.size w w' := by
  obtain ⟨W1, hW1⟩ : ∃ W1, W1 = w.alloc (.cells #[.int .i64 0, .string ⟨#[]⟩, .string ⟨#[]⟩, .slice none 0 0, .bool false, .bool false, .bool false, .int .i64 0, .int .i64 0] 25) := ⟨_, rfl⟩
  have k0 : W1.heap[w.heap.size]? = some (.cells #[.int .i64 0, .string ⟨#[]⟩, .string ⟨#[]⟩, .slice none 0 0, .bool false, .bool false, .bool false, .int .i64 0, .int .i64 0] 25 (0, 0)) := by
    rw [hW1]; exact heap_alloc_new w _
  have HB1 : Hid (Below w.heap.size w W1) := by show Below _ _ _; rw [hW1]; exact (Below.refl _ w).alloc (Nat.le_refl _) _
  have HBG := Lib.hid (begin_far s z W1 hz)
  unfold retB at HBG
  have HW := Lib.hid hW1
  clear hW1 hz
  go_enter Tryd.func12, Tryd.ntmps12
  go_upto_region 1 with fail
  rw [← HW.out]
  go_wp2_with fail
  refine HBG.out.mono ?_
  rintro e w' ⟨rfl, rfl⟩
  obtain ⟨⟨c0, c1, c2, c3, c4, c5, c6, c7, c8⟩, f0, f1, f2, f3, f4, f5, f6, f7, f8⟩ := nine k0
  clear k0
  go_wp2_with fail
  refine bodyPost_ret (v := .tuple #[zTok, .int .i64 0, .bool false]) ?_ rfl ?_
  · rw [results_cell_tmp2 rfl]
    go_simp
    rfl
  · exact ⟨rfl, below_set9 HB1.out _ _ _ _ _ _ _ _ _⟩
def tokOf (fin : Bool) (nm : List UInt8) : Option (List At × Bool × Nat) → Option Tok
  | none => none
  | some (acc, b, j) => some (if fin = true then ⟨true, nm, [], false, false, j⟩ else ⟨false, nm, (keepL acc).1, (keepL acc).2, b, j⟩)
theorem read_as {l : List UInt8} {a n : Nat} {fin : Bool} (h : beginL l a = (n, fin)) (hn : ¬ n = 0) : readL l a = tokOf fin (cleanL ((l.drop n).take (upN stopA (l.drop n)))) (RF l (n + upN stopA (l.drop n)) [] false) := by
  unfold readL
  rw [h]
  simp only []
  rw [if_neg hn]
  unfold RF
  cases restF (l.length + 1) (l.drop (n + upN stopA (l.drop n))) [] false (n + upN stopA (l.drop n)) with
  | none => rfl
  | some x => rfl
theorem stB_done {s : St} (h : s ≠ .done) : (stB s).toList ≠ [100, 111, 110, 101] := by
  rw [ByteArray.toList_eq]
  cases s with
  | done => exact absurd rfl h
  | tag => decide
  | slash => decide
  | ahead => decide
  | name => decide
  | behind => decide
  | value => decide
  | double => decide
  | single => decide
  | bare => decide
theorem grown_below {w w' : World} {p : Nat} (h : w.grownBy w' (some p)) (hp : p ≤ w.heap.size) : Below p w w' := ⟨h.os, h.tape, h.output, h.size, fun k hk => h.block k (by omega) (by intro e; injection e with e; omega)⟩

set_option maxHeartbeats 6400000 in
set_option maxRecDepth 100000 in
theorem rread_far (s : ByteArray) (z : Int) (w : World) (hz : z < 0 ∨ (s.size : Int) ≤ z) : Calls Tryd.prog 13 #[.string s, .int .i64 z] w fun e w' => e = .returned (.tuple #[zTok, .int .i64 0, .bool false]) ∧ Below w.heap.size w w' := by
  obtain ⟨W2, hW2⟩ : ∃ W2, W2 = (w.alloc (.cells #[.int .i64 0, .string ⟨#[]⟩, .string ⟨#[]⟩, .slice none 0 0, .bool false, .bool false, .bool false, .int .i64 0, .int .i64 0] 25)).alloc (.cells #[.int .i64 0, .string ⟨#[]⟩, .string ⟨#[]⟩, .slice none 0 0, .bool false, .bool false, .bool false, .int .i64 0, .int .i64 0] 25) := ⟨_, rfl⟩
  have kr : W2.heap[w.heap.size]? = some (.cells #[.int .i64 0, .string ⟨#[]⟩, .string ⟨#[]⟩, .slice none 0 0, .bool false, .bool false, .bool false, .int .i64 0, .int .i64 0] 25 (0, 0)) := by
    rw [hW2, Below.heap_alloc _ _ _ (by simp)]
    exact heap_alloc_new w _
  have kq : W2.heap[w.heap.size + 1]? = some (.cells #[.int .i64 0, .string ⟨#[]⟩, .string ⟨#[]⟩, .slice none 0 0, .bool false, .bool false, .bool false, .int .i64 0, .int .i64 0] 25 (0, 0)) := by
    rw [hW2]
    have := heap_alloc_new (w.alloc (.cells #[.int .i64 0, .string ⟨#[]⟩, .string ⟨#[]⟩, .slice none 0 0, .bool false, .bool false, .bool false, .int .i64 0, .int .i64 0] 25)) (.cells #[.int .i64 0, .string ⟨#[]⟩, .string ⟨#[]⟩, .slice none 0 0, .bool false, .bool false, .bool false, .int .i64 0, .int .i64 0] 25)
    simpa using this
  have HB2 : Hid (Below w.heap.size w W2) := by show Below _ _ _; rw [hW2]; exact ((Below.refl _ w).alloc (Nat.le_refl _) _).alloc (by simp) _
  have hs2 : W2.heap.size = w.heap.size + 2 := by rw [hW2]; simp
  have hrq : ¬ w.heap.size = w.heap.size + 1 := by omega
  have HW2 := Lib.hid hW2
  have HKR := Lib.hid kr
  have HKQ := Lib.hid kq
  have HS2 := Lib.hid hs2
  clear hW2 hs2
  obtain ⟨⟨c0, c1, c2, c3, c4, c5, c6, c7, c8⟩, f0, f1, f2, f3, f4, f5, f6, f7, f8⟩ := nine kr
  obtain ⟨⟨d0, d1, d2, d3, d4, d5, d6, d7, d8⟩, _⟩ := nine kq
  clear kr kq
  by_cases h0 : z < 0
  · clear hz
    go_enter Tryd.func13, Tryd.ntmps13
    go_upto_region 2 with fail
    rw [← HW2.out]
    go_wp2_with fail
    refine bodyPost_ret (v := .tuple #[zTok, .int .i64 0, .bool false]) ?_ rfl ?_
    · rw [results_cell_tmp2 rfl]
      go_simp
      rfl
    · exact ⟨rfl, below_set9 HB2.out _ _ _ _ _ _ _ _ _⟩
  · have h1 : (s.size : Int) ≤ z := by omega
    clear hz
    go_enter Tryd.func13, Tryd.ntmps13
    go_upto_region 2 with fail
    rw [← HW2.out]
    go_wp2_with fail
    refine bodyPost_ret (v := .tuple #[zTok, .int .i64 0, .bool false]) ?_ rfl ?_
    · rw [results_cell_tmp2 rfl]
      go_simp
      rfl
    · exact ⟨rfl, below_set9 HB2.out _ _ _ _ _ _ _ _ _⟩

set_option maxHeartbeats 25600000 in
set_option maxRecDepth 100000 in
theorem rread_any (s : ByteArray) (a : Nat) (w : World) (ha : a < s.size) (hs : s.size ≤ 2000) :
    Calls Tryd.prog 13 #[.string s, .int .i64 a] w fun e w' => ReadRes (readL s.data.toList a) a w.heap.size w' e ∧ Below w.heap.size w w' := by
  obtain ⟨R, hR⟩ : ∃ R, readL s.data.toList a = R := ⟨_, rfl⟩
  rw [hR]
  obtain ⟨W2, hW2⟩ : ∃ W2, W2 = (w.alloc (.cells #[.int .i64 0, .string ⟨#[]⟩, .string ⟨#[]⟩, .slice none 0 0, .bool false, .bool false, .bool false, .int .i64 0, .int .i64 0] 25)).alloc (.cells #[.int .i64 0, .string ⟨#[]⟩, .string ⟨#[]⟩, .slice none 0 0, .bool false, .bool false, .bool false, .int .i64 0, .int .i64 0] 25) := ⟨_, rfl⟩
  have kr : W2.heap[w.heap.size]? = some (.cells #[.int .i64 0, .string ⟨#[]⟩, .string ⟨#[]⟩, .slice none 0 0, .bool false, .bool false, .bool false, .int .i64 0, .int .i64 0] 25 (0, 0)) := by
    rw [hW2, Below.heap_alloc _ _ _ (by simp)]
    exact heap_alloc_new w _
  have kq : W2.heap[w.heap.size + 1]? = some (.cells #[.int .i64 0, .string ⟨#[]⟩, .string ⟨#[]⟩, .slice none 0 0, .bool false, .bool false, .bool false, .int .i64 0, .int .i64 0] 25 (0, 0)) := by
    rw [hW2]
    have := heap_alloc_new (w.alloc (.cells #[.int .i64 0, .string ⟨#[]⟩, .string ⟨#[]⟩, .slice none 0 0, .bool false, .bool false, .bool false, .int .i64 0, .int .i64 0] 25)) (.cells #[.int .i64 0, .string ⟨#[]⟩, .string ⟨#[]⟩, .slice none 0 0, .bool false, .bool false, .bool false, .int .i64 0, .int .i64 0] 25)
    simpa using this
  have HB2 : Hid (Below w.heap.size w W2) := by show Below _ _ _; rw [hW2]; exact ((Below.refl _ w).alloc (Nat.le_refl _) _).alloc (by simp) _
  have hs2 : W2.heap.size = w.heap.size + 2 := by rw [hW2]; simp
  have hrq : ¬ w.heap.size = w.heap.size + 1 := by omega
  have HW2 := Lib.hid hW2
  have HKR := Lib.hid kr
  have HKQ := Lib.hid kq
  have HS2 := Lib.hid hs2
  clear hW2 hs2
  have ha0 : ¬ (a : Int) < 0 := by omega
  have i0 : (a : Int) < s.size := by omega
  have i0' : ¬ (s.size : Int) ≤ a := by omega
  have hnone : (beginL s.data.toList a).1 = 0 → R = none := fun h => by rw [← hR]; unfold readL; rw [if_pos h]
  by_cases h60 : s[a] = 60
  · have t0 := byte_is' (z := 60) h60 rfl
    have g0 : s.data.toList[a]? = some 60 := by rw [at_get ha, h60]
    obtain ⟨A, hA⟩ : ∃ A, a + 1 = A := ⟨_, rfl⟩
    have hAi : (a : Int) + 1 = (A : Int) := by omega
    obtain ⟨B, hB⟩ : ∃ B, a + 2 = B := ⟨_, rfl⟩
    have hBi : (A : Int) + 1 = (B : Int) := by omega
    by_cases h1 : A < s.size
    · have i1 : (A : Int) < s.size := by omega
      have i1' : ¬ (s.size : Int) ≤ A := by omega
      by_cases h47 : s[A] = 47
      · have t1 := byte_is (z := 47) h47 rfl
        have g1 : s.data.toList[a + 1]? = some 47 := by rw [hA, at_get h1, h47]
        by_cases h2 : B < s.size
        · have i2 : (B : Int) < s.size := by omega
          have i2' : ¬ (s.size : Int) ≤ B := by omega
          have HAL := Lib.hid (fun W => ralpha_any (s[B].toNat : Int) W)
          cases hal : alI (s[B].toNat : Int) with
          | true =>
            rw [hal] at HAL
            have hbg : beginL s.data.toList a = (B, true) := by
              unfold beginL
              rw [if_pos g0, if_pos g1, hB, at_get h2]
              simp only []
              rw [if_pos hal]
            clear hnone kr kq h60 h47 g0 g1 hal hA hB
            obtain ⟨nm, hnm⟩ : ∃ nm, cleanL ((s.data.toList.drop B).take (upN stopA (s.data.toList.drop B))) = nm := ⟨_, rfl⟩
            obtain ⟨RO, hRO⟩ : ∃ RO, RF s.data.toList (B + upN stopA (s.data.toList.drop B)) [] false = RO := ⟨_, rfl⟩
            have HOUT : Hid (outR (runR s.data.toList ⟨.tag, [], [], false, B⟩) = mapO nm RO) := by
              show _ = _
              rw [tag_same, hnm, hRO]
            have HRR : Hid (tokOf true nm RO = R) := by
              show _ = _
              rw [← hR, read_as hbg (by omega), hnm, hRO]
            have HSZ := Lib.hid hs
            have HNS : Hid (B ≤ s.size) := by show _ ≤ _; omega
            clear hnm hRO hR hbg
            -- the tag's name begins at B
            obtain ⟨p, hp2⟩ : ∃ p, W2.heap.size = p := ⟨_, rfl⟩
            have hp : w.heap.size + 2 = p := by rw [← hp2, HS2.out]
            obtain ⟨W4, hW4⟩ : ∃ W4, W4 = (W2.alloc (.cells #[.int .i64 3, .string ⟨#[]⟩, .string ⟨#[]⟩, .slice none 0 0, .bool false, .bool false, .bool false, .int .i64 (a : Int), .int .i64 0] 25)) := ⟨_, rfl⟩
            have k4 : W4.heap[p]? = some (.cells #[.int .i64 3, .string ⟨#[]⟩, .string ⟨#[]⟩, .slice none 0 0, .bool false, .bool false, .bool false, .int .i64 (a : Int), .int .i64 0] 25 (0, 0)) := by
              rw [hW4]
              exact (by have h := heap_alloc_new W2 (.cells #[.int .i64 3, .string ⟨#[]⟩, .string ⟨#[]⟩, .slice none 0 0, .bool false, .bool false, .bool false, .int .i64 (a : Int), .int .i64 0] 25); rw [hp2] at h; exact h)
            have kr4 : Hid (W4.heap[w.heap.size]? = some (.cells #[.int .i64 0, .string ⟨#[]⟩, .string ⟨#[]⟩, .slice none 0 0, .bool false, .bool false, .bool false, .int .i64 0, .int .i64 0] 25 (0, 0))) := by
              show _ = _
              rw [hW4]
              rw [Below.heap_alloc _ _ _ (by have := HS2.out; omega)]; exact HKR.out
            have kq4 : Hid (W4.heap[w.heap.size + 1]? = some (.cells #[.int .i64 0, .string ⟨#[]⟩, .string ⟨#[]⟩, .slice none 0 0, .bool false, .bool false, .bool false, .int .i64 0, .int .i64 0] 25 (0, 0))) := by
              show _ = _
              rw [hW4]
              rw [Below.heap_alloc _ _ _ (by have := HS2.out; omega)]; exact HKQ.out
            have HB4 : Hid (Below w.heap.size w W4) := by show Below _ _ _; rw [hW4]; exact HB2.out.alloc (by have := HS2.out; omega) _
            have hs4 : W4.heap.size = p + 1 := by rw [hW4, ← hp2]; simp [World.setCell]
            have HW4 := Lib.hid hW4
            have K4 := Lib.hid k4
            have HPP := Lib.hid hp
            have hpB : p < W4.heap.size := by omega
            have HPB := Lib.hid hpB
            have HS4 := Lib.hid hs4
            clear hW4 k4 hs4 hp
            go_enter Tryd.func13, Tryd.ntmps13
            go_upto_region 2 with fail
            rw [← HW2.out]
            go_upto_region 15 with (refine (HAL.out _).mono ?_; rintro e w' ⟨rfl, rfl⟩)
            rw [← HW4.out]
            refine loop_out (rloop_any _ rfl _ s p B 3 (a : Int) HSZ.out HNS.out HPB.out K4.out ?hQ1T) (fun _ _ h => h)
            intro u13 u14 u15 u16 u17 u68 u69 u70 u71 u72 u73 u74 u75 u76 u77 u78 u79 u80 u81 u82 u83 u84 u85 u86 u87 u88 u89 u90 u91 u92 u93 u94 u95 u96 u97 u98 u99 u100 u101 u102 u103 u104 u105 u106 u107 u108 u109 u110 u111 u112 u113 u114 u115 u116 u117 u118 u119 u120 u121 u122 u123 u124 u125 u126 u127 u128 u129 u130 u131 u132 u133 u134 u135 u136 u137 u138 u139 u140 u141 u142 u143 u144 u145 u146 u147 u148 u149 u150 u151 u152 u153 u154 u155 u156 u157 u158 u159 u160 u161 u162 u163 u164 u165 u166 u167 u168 u169 u170 u171 u172 u173 u174 u175 u176 u177 u178 u179 u180 u181 u182 u183 u184 u185 u186 u187 u188 u189 u190 u191 u192 u193 u194 u195 u196 u197 u198 u199 u200 u201 u202 u203 u204 u205 u206 u207 u208 u209 u210 u211 u212 u213 u214 u215 u216 u217 u218 u219 u220 u221 u222 u223 u224 u225 u226 u227 u228 u229 u230 u231 u232 u233 u234 u235 u236 u237 u238 u239 u240 u241 u242 u243 u244 u245 u246 u247 u248 u249 u250 u251 u252 u253 u254 u255 u256 u257 u258 z oa L oc wr hz hwf hat
            have hout : outR z = mapO nm RO := by rw [hz]; exact HOUT.out
            obtain ⟨st, znm, zl, zb, zi⟩ := z
            simp only [] at hat
            have HWF := Lib.hid hwf
            have HAT := Lib.hid hat
            have BR : Hid (Below w.heap.size w wr) := HB4.out.trans (hat.below.mono (by have := HPP.out; omega))
            have krr : wr.heap[w.heap.size]? = _ := (hat.below.block _ (by have := HPP.out; omega)).trans kr4.out
            have kqr : wr.heap[w.heap.size + 1]? = _ := (hat.below.block _ (by have := HPP.out; omega)).trans kq4.out
            have HKRR := Lib.hid krr
            clear hz hwf
            cases RO with
            | none =>
              have hnd : st ≠ .done := by
                intro e
                rw [e] at hout
                cases hout
              have hq : ((stB st).toList == [100, 111, 110, 101]) = false := by rw [beq_eq_false_iff_ne]; exact stB_done hnd
              obtain ⟨sb, hsb⟩ : ∃ X, stB st = X := ⟨_, rfl⟩
              rw [hsb] at hq
              have HA : Hid (R = none) := HRR.out.symm
              rw [hsb]
              clear hout hnd hat hsb
              obtain ⟨⟨c0, c1, c2, c3, c4, c5, c6, c7, c8⟩, f0, f1, f2, f3, f4, f5, f6, f7, f8⟩ := nine krr
              obtain ⟨⟨d0, d1, d2, d3, d4, d5, d6, d7, d8⟩, _⟩ := nine kqr
              clear krr kqr
              go_wp2_with fail
              refine bodyPost_ret (v := .tuple #[zTok, .int .i64 0, .bool false]) ?_ rfl ?_
              · rw [results_cell_tmp2 rfl]
                go_simp
                rfl
              · exact ⟨by rw [HA.out]; exact rfl, below_set9 BR.out _ _ _ _ _ _ _ _ _⟩
            | some x =>
              obtain ⟨acc, b, j⟩ := x
              have hst : st = .done := by
                by_cases e : st = .done
                · exact e
                · unfold outR at hout
                  rw [if_neg (by simpa using e)] at hout
                  cases hout
              subst hst
              have hout2 : (znm, zl, zb, zi) = (nm, acc, b, j) := by
                have : some (znm, zl, zb, zi) = some (nm, acc, b, j) := hout
                injection this
              injection hout2 with e1 e2
              injection e2 with e2 e3
              injection e3 with e3 e4
              subst e1 e2 e3 e4
              have HA : Hid (R = some ⟨true, znm, [], false, false, zi⟩) := HRR.out.symm
              have hLL : L ≤ 3000 := by
                have h1 := HWF.out.l
                have h2 := HWF.out.i
                have h3 := hat.len
                have h4 : s.data.toList.length = s.size := by simp
                have h5 := HSZ.out
                simp only [] at h1 h2
                omega
              have HLL := Lib.hid hLL
              clear hout krr kqr hLL hat
              rw [show stB .done = ⟨#[100, 111, 110, 101]⟩ from rfl]
              go_upto_region 88 with fail
              refine loop_out (dloop_any _ rfl _ p L oc W4.heap.size oa zl ⟨znm.toArray⟩ zb 3 (a : Int) HLL.out HPB.out HAT.out.own HAT.out.len HAT.out.tok ?hQ2T) (fun _ _ h => h)
              intro y19 y20 y262 y263 y264 y265 y266 y267 y268 y269 y270 y271 y272 y273 y274 y275 y276 y277 y278 y279 y280 y281 y282 y283 y284 y285 y286 y287 y288 y289 y290 y291 y292 y293 y294 y295 y296 y297 y298 y299 y300 y301 y302 y303 y304 y305 y306 v18 oa' n' oc' w5 hd
              have HD := Lib.hid hd
              have BD : Hid (Below p wr w5) := grown_below hd.grown (by have := HAT.out.size; have := HPB.out; omega)
              have B5 : Hid (Below w.heap.size w w5) := BR.out.trans (BD.out.mono (by have := HPP.out; omega))
              obtain ⟨⟨d0, d1, d2, d3, d4, d5, d6, d7, d8⟩, g0, g1, g2, g3, g4, g5, g6, g7, g8⟩ := nine hd.tok
              have hpr : ¬ p = w.heap.size := by have := HPP.out; omega
              have kr5 : Hid (w5.heap[w.heap.size]? = some (.cells #[.int .i64 0, .string ⟨#[]⟩, .string ⟨#[]⟩, .slice none 0 0, .bool false, .bool false, .bool false, .int .i64 0, .int .i64 0] 25 (0, 0))) := (BD.out.block _ (by have := HPP.out; omega)).trans HKRR.out
              clear hd
              obtain ⟨nb, hnb⟩ : ∃ X : ByteArray, (⟨znm.toArray⟩ : ByteArray) = X := ⟨_, rfl⟩
              have HNB := Lib.hid hnb
              have HTK := Lib.hid HD.out.tok
              rw [hnb] at HTK d1
              obtain ⟨W6, hW6⟩ : ∃ W6, W6 = (((w5.setCell ⟨p, 3, none⟩ (.slice none 0 0)).setCell ⟨p, 4, none⟩ (.bool false)).setCell ⟨p, 5, none⟩ (.bool false)).setCell ⟨p, 8, none⟩ (.int .i64 (zi : Int)) := ⟨_, rfl⟩
              have k6 : W6.heap[p]? = some (.cells #[.int .i64 3, .string nb, .string ⟨#[]⟩, .slice none 0 0, .bool false, .bool false, .bool false, .int .i64 (a : Int), .int .i64 (zi : Int)] 25 (0, 0)) := by
                rw [hW6]; exact hset (hset (hset (hset HTK.out 3 _) 4 _) 5 _) 8 _
              have kr6 : W6.heap[w.heap.size]? = some (.cells #[.int .i64 0, .string ⟨#[]⟩, .string ⟨#[]⟩, .slice none 0 0, .bool false, .bool false, .bool false, .int .i64 0, .int .i64 0] 25 (0, 0)) := by
                rw [hW6, Below.heap_setCell _ _ _ _ (fun e => hpr e.symm), Below.heap_setCell _ _ _ _ (fun e => hpr e.symm), Below.heap_setCell _ _ _ _ (fun e => hpr e.symm), Below.heap_setCell _ _ _ _ (fun e => hpr e.symm)]
                exact kr5.out
              have B6 : Hid (Below w.heap.size w W6) := by
                have hwp : w.heap.size ≤ p := by have := HPP.out; omega
                show Below _ _ _
                rw [hW6]
                exact (((B5.out.setCell (by exact hwp) _).setCell (by exact hwp) _).setCell (by exact hwp) _).setCell (by exact hwp) _
              have HW6 := Lib.hid hW6
              clear hW6 hnb
              go_upto_region 101 with fail
              rw [← HW6.out]
              clear d0 d1 d2 d3 d4 d5 d6 d7 d8 g0 g1 g2 g3 g4 g5 g6 g7 g8
              obtain ⟨⟨d0, d1, d2, d3, d4, d5, d6, d7, d8⟩, _⟩ := nine k6
              obtain ⟨⟨c0, c1, c2, c3, c4, c5, c6, c7, c8⟩, f0, f1, f2, f3, f4, f5, f6, f7, f8⟩ := nine kr6
              clear k6 kr6
              go_wp2_with fail
              refine bodyPost_ret (v := .tuple #[.agg #[.int .i64 3, .string nb, .string ⟨#[]⟩, .slice none 0 0, .bool false, .bool false, .bool false, .int .i64 (a : Int), .int .i64 (zi : Int)], .int .i64 (zi : Int), .bool true]) ?_ rfl ?_
              · rw [results_cell_tmp2 rfl]
                go_simp
                try rfl
              · refine ⟨?_, below_set9 B6.out _ _ _ _ _ _ _ _ _⟩
                rw [HA.out]
                refine ⟨none, 0, ?_, World.ownsRow_nil _ _ _ _⟩
                simp only [tokV]
                rw [HNB.out]
                rfl
          | false =>
            rw [hal] at HAL
            have HN : Hid (R = none) := hnone (by
              unfold beginL
              rw [if_pos g0, if_pos g1, hB, at_get h2]
              simp only []
              rw [if_neg (by rw [hal]; simp)])
            clear hR hnone h60 h47 g0 g1 hal hA hB
            obtain ⟨⟨c0, c1, c2, c3, c4, c5, c6, c7, c8⟩, f0, f1, f2, f3, f4, f5, f6, f7, f8⟩ := nine kr
            obtain ⟨⟨d0, d1, d2, d3, d4, d5, d6, d7, d8⟩, _⟩ := nine kq
            clear kr kq
            go_enter Tryd.func13, Tryd.ntmps13
            go_upto_region 2 with fail
            rw [← HW2.out]
            go_wp2_with fail
            refine (HAL.out _).mono ?_
            rintro e w' ⟨rfl, rfl⟩
            go_wp2_with fail
            refine bodyPost_ret (v := .tuple #[zTok, .int .i64 0, .bool false]) ?_ rfl ?_
            · rw [results_cell_tmp2 rfl]
              go_simp
              rfl
            · exact ⟨by rw [HN.out]; exact rfl, below_set9 HB2.out _ _ _ _ _ _ _ _ _⟩
        · have i2 : (s.size : Int) ≤ B := by omega
          have HN : Hid (R = none) := hnone (by
            unfold beginL
            rw [if_pos g0, if_pos g1, hB, at_none h2])
          clear hR hnone h60 h47 g0 g1 hA hB
          obtain ⟨⟨c0, c1, c2, c3, c4, c5, c6, c7, c8⟩, f0, f1, f2, f3, f4, f5, f6, f7, f8⟩ := nine kr
          obtain ⟨⟨d0, d1, d2, d3, d4, d5, d6, d7, d8⟩, _⟩ := nine kq
          clear kr kq
          go_enter Tryd.func13, Tryd.ntmps13
          go_upto_region 2 with fail
          rw [← HW2.out]
          go_wp2_with fail
          refine bodyPost_ret (v := .tuple #[zTok, .int .i64 0, .bool false]) ?_ rfl ?_
          · rw [results_cell_tmp2 rfl]
            go_simp
            rfl
          · exact ⟨by rw [HN.out]; exact rfl, below_set9 HB2.out _ _ _ _ _ _ _ _ _⟩
      · have t1 := byte_not (z := 47) h47 rfl
        have g1 : ¬ s.data.toList[a + 1]? = some 47 := by rw [hA, at_get h1]; simpa using h47
        have HAL := Lib.hid (fun W => ralpha_any (s[A].toNat : Int) W)
        cases hal : alI (s[A].toNat : Int) with
        | true =>
          rw [hal] at HAL
          have hbg : beginL s.data.toList a = (A, false) := by
            unfold beginL
            rw [if_pos g0, if_neg g1, hA, at_get h1]
            simp only []
            rw [if_pos hal]
          clear hnone kr kq h60 h47 g0 g1 hal hA hB
          obtain ⟨nm, hnm⟩ : ∃ nm, cleanL ((s.data.toList.drop A).take (upN stopA (s.data.toList.drop A))) = nm := ⟨_, rfl⟩
          obtain ⟨RO, hRO⟩ : ∃ RO, RF s.data.toList (A + upN stopA (s.data.toList.drop A)) [] false = RO := ⟨_, rfl⟩
          have HOUT : Hid (outR (runR s.data.toList ⟨.tag, [], [], false, A⟩) = mapO nm RO) := by
            show _ = _
            rw [tag_same, hnm, hRO]
          have HRR : Hid (tokOf false nm RO = R) := by
            show _ = _
            rw [← hR, read_as hbg (by omega), hnm, hRO]
          have HSZ := Lib.hid hs
          have HNS : Hid (A ≤ s.size) := by show _ ≤ _; omega
          clear hnm hRO hR hbg
          -- the tag's name begins at A
          obtain ⟨p, hp2⟩ : ∃ p, W2.heap.size = p := ⟨_, rfl⟩
          have hp : w.heap.size + 2 = p := by rw [← hp2, HS2.out]
          obtain ⟨W4, hW4⟩ : ∃ W4, W4 = (W2.alloc (.cells #[.int .i64 2, .string ⟨#[]⟩, .string ⟨#[]⟩, .slice none 0 0, .bool false, .bool false, .bool false, .int .i64 (a : Int), .int .i64 0] 25)) := ⟨_, rfl⟩
          have k4 : W4.heap[p]? = some (.cells #[.int .i64 2, .string ⟨#[]⟩, .string ⟨#[]⟩, .slice none 0 0, .bool false, .bool false, .bool false, .int .i64 (a : Int), .int .i64 0] 25 (0, 0)) := by
            rw [hW4]
            exact (by have h := heap_alloc_new W2 (.cells #[.int .i64 2, .string ⟨#[]⟩, .string ⟨#[]⟩, .slice none 0 0, .bool false, .bool false, .bool false, .int .i64 (a : Int), .int .i64 0] 25); rw [hp2] at h; exact h)
          have kr4 : Hid (W4.heap[w.heap.size]? = some (.cells #[.int .i64 0, .string ⟨#[]⟩, .string ⟨#[]⟩, .slice none 0 0, .bool false, .bool false, .bool false, .int .i64 0, .int .i64 0] 25 (0, 0))) := by
            show _ = _
            rw [hW4]
            rw [Below.heap_alloc _ _ _ (by have := HS2.out; omega)]; exact HKR.out
          have kq4 : Hid (W4.heap[w.heap.size + 1]? = some (.cells #[.int .i64 0, .string ⟨#[]⟩, .string ⟨#[]⟩, .slice none 0 0, .bool false, .bool false, .bool false, .int .i64 0, .int .i64 0] 25 (0, 0))) := by
            show _ = _
            rw [hW4]
            rw [Below.heap_alloc _ _ _ (by have := HS2.out; omega)]; exact HKQ.out
          have HB4 : Hid (Below w.heap.size w W4) := by show Below _ _ _; rw [hW4]; exact HB2.out.alloc (by have := HS2.out; omega) _
          have hs4 : W4.heap.size = p + 1 := by rw [hW4, ← hp2]; simp [World.setCell]
          have HW4 := Lib.hid hW4
          have K4 := Lib.hid k4
          have HPP := Lib.hid hp
          have hpB : p < W4.heap.size := by omega
          have HPB := Lib.hid hpB
          have HS4 := Lib.hid hs4
          clear hW4 k4 hs4 hp
          go_enter Tryd.func13, Tryd.ntmps13
          go_upto_region 2 with fail
          rw [← HW2.out]
          go_upto_region 15 with (refine (HAL.out _).mono ?_; rintro e w' ⟨rfl, rfl⟩)
          rw [← HW4.out]
          refine loop_out (rloop_any _ rfl _ s p A 2 (a : Int) HSZ.out HNS.out HPB.out K4.out ?hQ1F) (fun _ _ h => h)
          intro u13 u14 u15 u16 u17 u68 u69 u70 u71 u72 u73 u74 u75 u76 u77 u78 u79 u80 u81 u82 u83 u84 u85 u86 u87 u88 u89 u90 u91 u92 u93 u94 u95 u96 u97 u98 u99 u100 u101 u102 u103 u104 u105 u106 u107 u108 u109 u110 u111 u112 u113 u114 u115 u116 u117 u118 u119 u120 u121 u122 u123 u124 u125 u126 u127 u128 u129 u130 u131 u132 u133 u134 u135 u136 u137 u138 u139 u140 u141 u142 u143 u144 u145 u146 u147 u148 u149 u150 u151 u152 u153 u154 u155 u156 u157 u158 u159 u160 u161 u162 u163 u164 u165 u166 u167 u168 u169 u170 u171 u172 u173 u174 u175 u176 u177 u178 u179 u180 u181 u182 u183 u184 u185 u186 u187 u188 u189 u190 u191 u192 u193 u194 u195 u196 u197 u198 u199 u200 u201 u202 u203 u204 u205 u206 u207 u208 u209 u210 u211 u212 u213 u214 u215 u216 u217 u218 u219 u220 u221 u222 u223 u224 u225 u226 u227 u228 u229 u230 u231 u232 u233 u234 u235 u236 u237 u238 u239 u240 u241 u242 u243 u244 u245 u246 u247 u248 u249 u250 u251 u252 u253 u254 u255 u256 u257 u258 z oa L oc wr hz hwf hat
          have hout : outR z = mapO nm RO := by rw [hz]; exact HOUT.out
          obtain ⟨st, znm, zl, zb, zi⟩ := z
          simp only [] at hat
          have HWF := Lib.hid hwf
          have HAT := Lib.hid hat
          have BR : Hid (Below w.heap.size w wr) := HB4.out.trans (hat.below.mono (by have := HPP.out; omega))
          have krr : wr.heap[w.heap.size]? = _ := (hat.below.block _ (by have := HPP.out; omega)).trans kr4.out
          have kqr : wr.heap[w.heap.size + 1]? = _ := (hat.below.block _ (by have := HPP.out; omega)).trans kq4.out
          have HKRR := Lib.hid krr
          clear hz hwf
          cases RO with
          | none =>
            have hnd : st ≠ .done := by
              intro e
              rw [e] at hout
              cases hout
            have hq : ((stB st).toList == [100, 111, 110, 101]) = false := by rw [beq_eq_false_iff_ne]; exact stB_done hnd
            obtain ⟨sb, hsb⟩ : ∃ X, stB st = X := ⟨_, rfl⟩
            rw [hsb] at hq
            have HA : Hid (R = none) := HRR.out.symm
            rw [hsb]
            clear hout hnd hat hsb
            obtain ⟨⟨c0, c1, c2, c3, c4, c5, c6, c7, c8⟩, f0, f1, f2, f3, f4, f5, f6, f7, f8⟩ := nine krr
            obtain ⟨⟨d0, d1, d2, d3, d4, d5, d6, d7, d8⟩, _⟩ := nine kqr
            clear krr kqr
            go_wp2_with fail
            refine bodyPost_ret (v := .tuple #[zTok, .int .i64 0, .bool false]) ?_ rfl ?_
            · rw [results_cell_tmp2 rfl]
              go_simp
              rfl
            · exact ⟨by rw [HA.out]; exact rfl, below_set9 BR.out _ _ _ _ _ _ _ _ _⟩
          | some x =>
            obtain ⟨acc, b, j⟩ := x
            have hst : st = .done := by
              by_cases e : st = .done
              · exact e
              · unfold outR at hout
                rw [if_neg (by simpa using e)] at hout
                cases hout
            subst hst
            have hout2 : (znm, zl, zb, zi) = (nm, acc, b, j) := by
              have : some (znm, zl, zb, zi) = some (nm, acc, b, j) := hout
              injection this
            injection hout2 with e1 e2
            injection e2 with e2 e3
            injection e3 with e3 e4
            subst e1 e2 e3 e4
            have HA : Hid (R = some ⟨false, znm, (keepL zl).1, (keepL zl).2, zb, zi⟩) := HRR.out.symm
            have hLL : L ≤ 3000 := by
              have h1 := HWF.out.l
              have h2 := HWF.out.i
              have h3 := hat.len
              have h4 : s.data.toList.length = s.size := by simp
              have h5 := HSZ.out
              simp only [] at h1 h2
              omega
            have HLL := Lib.hid hLL
            clear hout krr kqr hLL hat
            rw [show stB .done = ⟨#[100, 111, 110, 101]⟩ from rfl]
            go_upto_region 88 with fail
            refine loop_out (dloop_any _ rfl _ p L oc W4.heap.size oa zl ⟨znm.toArray⟩ zb 2 (a : Int) HLL.out HPB.out HAT.out.own HAT.out.len HAT.out.tok ?hQ2F) (fun _ _ h => h)
            intro y19 y20 y262 y263 y264 y265 y266 y267 y268 y269 y270 y271 y272 y273 y274 y275 y276 y277 y278 y279 y280 y281 y282 y283 y284 y285 y286 y287 y288 y289 y290 y291 y292 y293 y294 y295 y296 y297 y298 y299 y300 y301 y302 y303 y304 y305 y306 v18 oa' n' oc' w5 hd
            have HD := Lib.hid hd
            have BD : Hid (Below p wr w5) := grown_below hd.grown (by have := HAT.out.size; have := HPB.out; omega)
            have B5 : Hid (Below w.heap.size w w5) := BR.out.trans (BD.out.mono (by have := HPP.out; omega))
            obtain ⟨⟨d0, d1, d2, d3, d4, d5, d6, d7, d8⟩, g0, g1, g2, g3, g4, g5, g6, g7, g8⟩ := nine hd.tok
            have hpr : ¬ p = w.heap.size := by have := HPP.out; omega
            have kr5 : Hid (w5.heap[w.heap.size]? = some (.cells #[.int .i64 0, .string ⟨#[]⟩, .string ⟨#[]⟩, .slice none 0 0, .bool false, .bool false, .bool false, .int .i64 0, .int .i64 0] 25 (0, 0))) := (BD.out.block _ (by have := HPP.out; omega)).trans HKRR.out
            clear hd
            obtain ⟨N, hN⟩ : ∃ N, n' = N := ⟨_, rfl⟩
            obtain ⟨UU, hU⟩ : ∃ U, (keepL zl).2 = U := ⟨_, rfl⟩
            have HU := Lib.hid hU
            have HTK : Hid (w5.heap[p]? = some (.cells #[.int .i64 2, .string ⟨znm.toArray⟩, .string ⟨#[]⟩, .slice oa' n' oc', .bool UU, .bool zb, .bool false, .int .i64 (a : Int), .int .i64 0] 25 (0, 0))) := by show _ = _; rw [← hU]; exact HD.out.tok
            rw [hU] at d4
            obtain ⟨nb, hnb⟩ : ∃ X : ByteArray, (⟨znm.toArray⟩ : ByteArray) = X := ⟨_, rfl⟩
            have HNB := Lib.hid hnb
            rw [hnb] at HTK d1
            obtain ⟨W6, hW6⟩ : ∃ W6, W6 = w5.setCell ⟨p, 8, none⟩ (.int .i64 (zi : Int)) := ⟨_, rfl⟩
            have k6 : W6.heap[p]? = some (.cells #[.int .i64 2, .string nb, .string ⟨#[]⟩, .slice oa' n' oc', .bool UU, .bool zb, .bool false, .int .i64 (a : Int), .int .i64 (zi : Int)] 25 (0, 0)) := by
              rw [hW6]; exact hset HTK.out 8 _
            have kr6 : W6.heap[w.heap.size]? = _ := (by rw [hW6]; exact Below.heap_setCell w5 ⟨p, 8, none⟩ _ w.heap.size (fun e => hpr e.symm) : W6.heap[w.heap.size]? = w5.heap[w.heap.size]?).trans kr5.out
            have B6 : Hid (Below w.heap.size w W6) := by show Below _ _ _; rw [hW6]; exact B5.out.setCell (by show _ ≤ p; have := HPP.out; omega) _
            have O6 : Hid (W6.ownsRow wr.heap.size 32 2 (.slice oa' n' oc') n' (attC (keepL zl).1)) := by
              show World.ownsRow _ _ _ _ _ _ _
              rw [hW6]
              exact ownsRow_setCell_below HD.out.own (by show p < _; have := HAT.out.size; have := HPB.out; omega) _
            have HW6 := Lib.hid hW6
            have HNL := Lib.hid HD.out.len
            clear hW6 hU hN hnb
            go_upto_region 101 with fail
            rw [← HW6.out]
            clear d0 d1 d2 d3 d4 d5 d6 d7 d8 g0 g1 g2 g3 g4 g5 g6 g7 g8
            obtain ⟨⟨d0, d1, d2, d3, d4, d5, d6, d7, d8⟩, _⟩ := nine k6
            obtain ⟨⟨c0, c1, c2, c3, c4, c5, c6, c7, c8⟩, f0, f1, f2, f3, f4, f5, f6, f7, f8⟩ := nine kr6
            clear k6 kr6
            go_wp2_with fail
            refine bodyPost_ret (v := .tuple #[.agg #[.int .i64 2, .string nb, .string ⟨#[]⟩, .slice oa' n' oc', .bool UU, .bool zb, .bool false, .int .i64 (a : Int), .int .i64 (zi : Int)], .int .i64 (zi : Int), .bool true]) ?_ rfl ?_
            · rw [results_cell_tmp2 rfl]
              go_simp
              try rfl
            · refine ⟨?_, below_set9 B6.out _ _ _ _ _ _ _ _ _⟩
              rw [HA.out]
              refine ⟨oa', oc', ?_, ?_⟩
              · simp only [tokV]
                rw [HNL.out, HU.out, HNB.out]
                rfl
              · simp only []
                rw [HNL.out]
                refine owns_mono (owns_set9 O6.out (by have := HAT.out.size; have := HS4.out; have := HPP.out; omega) _ _ _ _ _ _ _ _ _) (by have := HAT.out.size; have := HS4.out; have := HPP.out; omega)
        | false =>
          rw [hal] at HAL
          have HN : Hid (R = none) := hnone (by
            unfold beginL
            rw [if_pos g0, if_neg g1, hA, at_get h1]
            simp only []
            rw [if_neg (by rw [hal]; simp)])
          clear hR hnone h60 h47 g0 g1 hal hA hB
          obtain ⟨⟨c0, c1, c2, c3, c4, c5, c6, c7, c8⟩, f0, f1, f2, f3, f4, f5, f6, f7, f8⟩ := nine kr
          obtain ⟨⟨d0, d1, d2, d3, d4, d5, d6, d7, d8⟩, _⟩ := nine kq
          clear kr kq
          go_enter Tryd.func13, Tryd.ntmps13
          go_upto_region 2 with fail
          rw [← HW2.out]
          go_wp2_with fail
          refine (HAL.out _).mono ?_
          rintro e w' ⟨rfl, rfl⟩
          go_wp2_with fail
          refine bodyPost_ret (v := .tuple #[zTok, .int .i64 0, .bool false]) ?_ rfl ?_
          · rw [results_cell_tmp2 rfl]
            go_simp
            rfl
          · exact ⟨by rw [HN.out]; exact rfl, below_set9 HB2.out _ _ _ _ _ _ _ _ _⟩
    · have i1 : ¬ (A : Int) < s.size := by omega
      have i1' : (s.size : Int) ≤ A := by omega
      have HN : Hid (R = none) := hnone (by
        unfold beginL
        rw [if_pos g0, hA, at_none h1, if_neg (by simp)])
      clear hR hnone h60 g0 hA hB
      obtain ⟨⟨c0, c1, c2, c3, c4, c5, c6, c7, c8⟩, f0, f1, f2, f3, f4, f5, f6, f7, f8⟩ := nine kr
      obtain ⟨⟨d0, d1, d2, d3, d4, d5, d6, d7, d8⟩, _⟩ := nine kq
      clear kr kq
      go_enter Tryd.func13, Tryd.ntmps13
      go_upto_region 2 with fail
      rw [← HW2.out]
      go_wp2_with fail
      refine bodyPost_ret (v := .tuple #[zTok, .int .i64 0, .bool false]) ?_ rfl ?_
      · rw [results_cell_tmp2 rfl]
        go_simp
        rfl
      · exact ⟨by rw [HN.out]; exact rfl, below_set9 HB2.out _ _ _ _ _ _ _ _ _⟩
  · have t0 := byte_not' (z := 60) h60 rfl
    have HN : Hid (R = none) := hnone (by
      unfold beginL
      rw [at_get ha, if_neg (by simpa using h60)])
    clear hR hnone h60
    obtain ⟨⟨c0, c1, c2, c3, c4, c5, c6, c7, c8⟩, f0, f1, f2, f3, f4, f5, f6, f7, f8⟩ := nine kr
    obtain ⟨⟨d0, d1, d2, d3, d4, d5, d6, d7, d8⟩, _⟩ := nine kq
    clear kr kq
    go_enter Tryd.func13, Tryd.ntmps13
    go_upto_region 2 with fail
    rw [← HW2.out]
    go_wp2_with fail
    refine bodyPost_ret (v := .tuple #[zTok, .int .i64 0, .bool false]) ?_ rfl ?_
    · rw [results_cell_tmp2 rfl]
      go_simp
      rfl
    · exact ⟨by rw [HN.out]; exact rfl, below_set9 HB2.out _ _ _ _ _ _ _ _ _⟩
end Go.Proofs.YteeplfbaflldaaaDoor.T10
