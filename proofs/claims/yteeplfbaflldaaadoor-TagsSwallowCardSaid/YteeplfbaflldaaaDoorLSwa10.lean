/- lazaretlaw10.TagsSwallow. -/
import Derived.Test.YteeplfbaflldaaaDoorTg8
import Derived.Test.YteeplfbaflldaaaDoorTgW
set_option linter.unusedVariables false
set_option linter.unusedSimpArgs false
namespace Go.Proofs.YteeplfbaflldaaaDoor.T10
open Go.RowKit R9

theorem filt_step {s : ByteArray} {k : Nat} {q : UInt8} {I : ByteArray} (hk : k < s.size) (hI : I.data.toList = (s.data.toList.take k).filter (fun c => !(c == q))) (h : (s[k] == q) = false) :
    (I ++ s.extract k (k + 1)).data.toList = (s.data.toList.take (k + 1)).filter (fun c => !(c == q)) := by
  rw [take_snoc s k hk, List.filter_append, ← hI, ByteArray.data_append, Array.toList_append, ext_toList]
  congr 1
  have hl : k < s.data.toList.length := by simpa using hk
  rw [List.drop_eq_getElem_cons hl, Nat.add_sub_cancel_left]
  have e : s.data.toList[k] = s[k] := rfl
  rw [e]
  simp [h]
theorem filt_skip {s : ByteArray} {k : Nat} {q : UInt8} {I : ByteArray} (hk : k < s.size) (hI : I.data.toList = (s.data.toList.take k).filter (fun c => !(c == q))) (h : (s[k] == q) = true) :
    I.data.toList = (s.data.toList.take (k + 1)).filter (fun c => !(c == q)) := by
  rw [take_snoc s k hk, List.filter_append, ← hI]
  simp [h]
theorem ext_one (s : ByteArray) (k : Nat) (q : UInt8) (hk : k < s.size) : ((s.extract k (k + 1)).toList == [q]) = (s[k] == q) := by
  rw [ByteArray.toList_eq, ext_toList, Nat.add_sub_cancel_left]
  have hl : k < s.data.toList.length := by simpa using hk
  rw [List.drop_eq_getElem_cons hl]
  have e : s.data.toList[k] = s[k] := rfl
  rw [e]
  simp

set_option maxHeartbeats 6400000 in
set_option maxRecDepth 100000 in
theorem swallow_34 (s behind : ByteArray) (m : Int) (w : World) (hT : RTab w) (hm : MaxOk m w) (hl1 : ¬ (1000 : Int) < s.size) (hl2 : ¬ (300 : Int) < behind.size) :
    Calls Tryd.prog 5 #[.string s, .string behind, .bool false] w fun e w' => e = .returned (.bool true) ∧ Below w.heap.size w w' := by
  have HT := Lib.hid hT
  have HM := Lib.hid hm
  have HTG := Lib.hid (fun W (hb : Below w.heap.size w W) => tagged_any m W (HT.out.below hb) (HM.out.below hb))
  clear hT hm
  go_enter Tryd.func5, Tryd.ntmps5
  go_wp2_with fail
  go_loop [8, 9] (fun v i => ∃ (k : Nat) (I : ByteArray), k ≤ s.size ∧ I.size ≤ k ∧ i = .int .i64 k ∧ v = .string I ∧ Hid (I.data.toList = (s.data.toList.take k).filter (fun c => !(c == 34)))) (fun _ i => s.size - (intOf i).toNat)
  case atStart => exact ⟨0, ⟨#[]⟩, Nat.zero_le _, by decide, rfl, rfl, rfl⟩
  case round =>
    obtain ⟨k, I, hk, hIk, rfl, rfl, HI⟩ := hrel
    by_cases hlt : k < s.size
    · have hki : (k : Int) < s.size := by omega
      have hki2 : (k : Int) + 1 ≤ s.size := by omega
      obtain ⟨K, hK⟩ : ∃ K, k + 1 = K := ⟨_, rfl⟩
      have hKi : (k : Int) + 1 = K := by omega
      have hKs : (K : Int) ≤ s.size := by omega
      have hKs' : K ≤ s.size := by omega
      have hkK : (k : Int) ≤ K := by omega
      have hx := ext_one s k 34 hlt
      have HS1 : Hid ((s[k] == 34) = false → (I ++ s.extract k K).data.toList = (s.data.toList.take K).filter (fun c => !(c == 34))) := by rw [← hK]; exact filt_step hlt HI.out
      have HS2 : Hid ((s[k] == 34) = true → I.data.toList = (s.data.toList.take K).filter (fun c => !(c == 34))) := by rw [← hK]; exact filt_skip hlt HI.out
      rw [hK] at hx
      have HKK := Lib.hid hK
      have hXs : (s.extract k K).size = 1 := by simp; omega
      cases hc : (s[k] == 34) with
      | true =>
        rw [hc] at hx
        have HN := Lib.hid (HS2.out hc)
        clear hc hK hki2
        go_wp2_with fail
        go_round
        case rel => exact ⟨K, I, hKs', by omega, by go_num, rfl, HN⟩
        case measure => have := HKK.out; simp [intOf]; omega
      | false =>
        rw [hc] at hx
        have HN := Lib.hid (HS1.out hc)
        obtain ⟨X, hX⟩ : ∃ X, s.extract k K = X := ⟨_, rfl⟩
        rw [hX] at hx HN hXs
        obtain ⟨I2, hI2⟩ : ∃ J, I ++ X = J := ⟨_, rfl⟩
        have hIs2 : Hid (I2.size ≤ K) := by show _ ≤ _; rw [← hI2, ByteArray.size_append]; omega
        have HI2 := Lib.hid hI2
        clear hc hK hki2 hI2
        go_wp2_with fail
        go_round
        case rel => exact ⟨K, I2, hKs', hIs2.out, by go_num, by rw [HI2.out], by rw [← HI2.out]; exact HN⟩
        case measure => have := HKK.out; simp [intOf]; omega
    · have hki : ¬ (k : Int) < s.size := by omega
      obtain ⟨v, hv⟩ : ∃ v, I.data.toList = v := ⟨_, rfl⟩
      have hvq : (34 : UInt8) ∉ v := by
        rw [← hv, HI.out]
        intro h
        have := (List.mem_filter.1 h).2
        simp at this
      have hvl : v.length = I.size := by rw [← hv]; simp
      have hIs : I.size ≤ 1000 := by omega
      obtain ⟨F1, hF1⟩ : ∃ F, (⟨#[60, 112, 32, 113, 61]⟩ : ByteArray) ++ ⟨#[34]⟩ = F := ⟨_, rfl⟩
      obtain ⟨FR, hFR⟩ : ∃ F, F1 ++ I = F := ⟨_, rfl⟩
      obtain ⟨G1, hG1⟩ : ∃ F, FR ++ ⟨#[34]⟩ = F := ⟨_, rfl⟩
      obtain ⟨G2, hG2⟩ : ∃ F, G1 ++ ⟨#[62]⟩ = F := ⟨_, rfl⟩
      obtain ⟨G3, hG3⟩ : ∃ F, G2 ++ behind = F := ⟨_, rfl⟩
      have s1 : F1.size = 6 := by rw [← hF1]; rfl
      have s2 : FR.size = 6 + I.size := by rw [← hFR, ByteArray.size_append, s1]
      have s3 : G1.size = 7 + I.size := by rw [← hG1, ByteArray.size_append, s2, show (⟨#[34]⟩ : ByteArray).size = 1 from rfl]; omega
      have s4 : G2.size = 8 + I.size := by rw [← hG2, ByteArray.size_append, s3, show (⟨#[62]⟩ : ByteArray).size = 1 from rfl]; omega
      have s5 : G3.size = 8 + I.size + behind.size := by rw [← hG3, ByteArray.size_append, s4]
      have l2 : FR.data.toList = 60 :: 112 :: 32 :: 113 :: 61 :: 34 :: v := by
        rw [← hFR, ← hF1]; simp [ByteArray.data_append, hv]
      have l5 : G3.data.toList = 60 :: 112 :: 32 :: 113 :: 61 :: 34 :: (v ++ 34 :: 62 :: behind.data.toList) := by
        rw [← hG3, ← hG2, ← hG1]; simp [ByteArray.data_append, l2]
      have r1 : readL G3.data.toList 0 = some ⟨false, [112], [([113], valL v)], false, false, v.length + 8⟩ := by
        rw [l5]; exact swallow (.inl rfl) hvq
      have r2 : readL FR.data.toList 0 = none := by rw [l2]; exact swallow_none (.inl rfl) hvq
      have HR1 := Lib.hid (read_any G3 0 m w HT.out HM.out (by omega) (by omega))
      have HR2 := Lib.hid (fun W (hb : Below w.heap.size w W) => read_any FR 0 m W (HT.out.below hb) (HM.out.below hb) (by omega) (by omega))
      rw [r1] at HR1
      rw [r2] at HR2
      obtain ⟨NX, hNX⟩ : ∃ N, v.length + 8 = N := ⟨_, rfl⟩
      rw [hNX] at HR1
      have nxi : (FR.size : Int) + 2 = NX := by omega
      have nxe : ((NX : Int) == (NX : Int)) = true := by simp
      have z1 : FR.size ≤ 5000 := by omega
      have z2 : G1.size ≤ 5000 := by omega
      have z3 : G2.size ≤ 5000 := by omega
      have z4 : F1.size ≤ 5000 := by omega
      have HNX := Lib.hid hNX
      clear r1 r2 l2 l5 s1 s2 s3 s4 s5 hvq hv hvl hNX
      go_wp2_with fail
      refine HR1.out.mono ?_
      rintro e w1 ⟨⟨oa, oc, rfl, own1⟩, b1⟩
      obtain ⟨ao, cap, ha1, ha2, ha3, ha4⟩ := att_in own1
      obtain ⟨b0, off, hb1, hb2, hb3⟩ := ha4 (by simp)
      injection ha1 with h1 h2 h3
      subst h1 h3
      subst hb1
      have hcell := (hb3 0 (by simp)).1
      have HCE : Hid (w1.cell? ⟨b0, off, none⟩ = some (.string ⟨#[113]⟩)) := by show _ = _; simpa using hcell
      have HB2 := Lib.hid hb2
      have HB1 := Lib.hid b1
      have ev : tokV ⟨false, [112], [([113], valL v)], false, false, NX⟩ 0 (.slice (some ⟨b0, off, none⟩) ([(([113], valL v) : At)].length) oc) = .agg #[.int .i64 2, .string ⟨#[112]⟩, .string ⟨#[]⟩, .slice (some ⟨b0, off, none⟩) 1 oc, .bool false, .bool false, .bool false, .int .i64 0, .int .i64 (NX : Int)] := rfl
      rw [ev]
      obtain ⟨W1, hW1⟩ : ∃ W1, W1 = w1.alloc (.cells #[.int .i64 2, .string ⟨#[112]⟩, .string ⟨#[]⟩, .slice (some ⟨b0, off, none⟩) 1 oc, .bool false, .bool false, .bool false, .int .i64 0, .int .i64 (NX : Int)] 25) := ⟨_, rfl⟩
      have k1 : W1.heap[w1.heap.size]? = some (.cells #[.int .i64 2, .string ⟨#[112]⟩, .string ⟨#[]⟩, .slice (some ⟨b0, off, none⟩) 1 oc, .bool false, .bool false, .bool false, .int .i64 0, .int .i64 (NX : Int)] 25 (0, 0)) := by
        rw [hW1]; exact heap_alloc_new w1 _
      have BW1 : Hid (Below w.heap.size w W1) := by show Below _ _ _; rw [hW1]; exact HB1.out.alloc HB1.out.size _
      have hs1 : w1.heap.size < W1.heap.size := by rw [hW1]; simp
      have B11 : Hid (Below w1.heap.size w1 W1) := by show Below _ _ _; rw [hW1]; exact (Below.refl _ w1).alloc (Nat.le_refl _) _
      have K1 := Lib.hid k1
      have HW1 := Lib.hid hW1
      clear hW1 own1 b1 ha2 ha3 ha4 hb2 hb3 hcell ev k1
      go_upto_region 14 with fail
      try simp only [Int.natCast_zero]
      rw [← HW1.out]
      go_wp2_with fail
      refine (HR2.out _ BW1.out).mono ?_
      rintro e w2 ⟨r2, b2⟩
      obtain rfl : e = .returned (.tuple #[zTok, .int .i64 0, .bool false]) := r2
      unfold zTok
      obtain ⟨W2, hW2⟩ : ∃ W2, W2 = w2.alloc (.cells #[.int .i64 0, .string ⟨#[]⟩, .string ⟨#[]⟩, .slice none 0 0, .bool false, .bool false, .bool false, .int .i64 0, .int .i64 0] 25) := ⟨_, rfl⟩
      have B12 : Below W1.heap.size W1 W2 := by rw [hW2]; exact b2.alloc b2.size _
      have BW2 : Hid (Below w.heap.size w W2) := BW1.out.trans (B12.mono BW1.out.size)
      have k1 : W2.heap[w1.heap.size]? = _ := (B12.block _ hs1).trans K1.out
      have ce : W2.cell? ⟨b0, off, none⟩ = some (.string ⟨#[113]⟩) := (B12.cell (p := ⟨b0, off, none⟩) (by show b0 < _; have := HB2.out; omega)).trans ((B11.out.cell (p := ⟨b0, off, none⟩) (by exact HB2.out)).trans HCE.out)
      have HW2 := Lib.hid hW2
      clear hW2 b2 B12
      go_upto_region 15 with fail
      rw [← HW2.out]
      obtain ⟨⟨c0, c1, c2, c3, c4, c5, c6, c7, c8⟩, _⟩ := nine k1
      clear k1
      go_wp2_with fail
      refine (HTG.out _ BW2.out).mono ?_
      rintro e w5 ⟨rfl, b5⟩
      go_wp2_with fail
      go_ret
      exact ⟨by exact rfl, BW2.out.trans (b5.mono BW2.out.size)⟩

set_option maxHeartbeats 6400000 in
set_option maxRecDepth 100000 in
theorem swallow_39 (s behind : ByteArray) (m : Int) (w : World) (hT : RTab w) (hm : MaxOk m w) (hl1 : ¬ (1000 : Int) < s.size) (hl2 : ¬ (300 : Int) < behind.size) :
    Calls Tryd.prog 5 #[.string s, .string behind, .bool true] w fun e w' => e = .returned (.bool true) ∧ Below w.heap.size w w' := by
  have HT := Lib.hid hT
  have HM := Lib.hid hm
  have HTG := Lib.hid (fun W (hb : Below w.heap.size w W) => tagged_any m W (HT.out.below hb) (HM.out.below hb))
  clear hT hm
  go_enter Tryd.func5, Tryd.ntmps5
  go_wp2_with fail
  go_loop [8, 9] (fun v i => ∃ (k : Nat) (I : ByteArray), k ≤ s.size ∧ I.size ≤ k ∧ i = .int .i64 k ∧ v = .string I ∧ Hid (I.data.toList = (s.data.toList.take k).filter (fun c => !(c == 39)))) (fun _ i => s.size - (intOf i).toNat)
  case atStart => exact ⟨0, ⟨#[]⟩, Nat.zero_le _, by decide, rfl, rfl, rfl⟩
  case round =>
    obtain ⟨k, I, hk, hIk, rfl, rfl, HI⟩ := hrel
    by_cases hlt : k < s.size
    · have hki : (k : Int) < s.size := by omega
      have hki2 : (k : Int) + 1 ≤ s.size := by omega
      obtain ⟨K, hK⟩ : ∃ K, k + 1 = K := ⟨_, rfl⟩
      have hKi : (k : Int) + 1 = K := by omega
      have hKs : (K : Int) ≤ s.size := by omega
      have hKs' : K ≤ s.size := by omega
      have hkK : (k : Int) ≤ K := by omega
      have hx := ext_one s k 39 hlt
      have HS1 : Hid ((s[k] == 39) = false → (I ++ s.extract k K).data.toList = (s.data.toList.take K).filter (fun c => !(c == 39))) := by rw [← hK]; exact filt_step hlt HI.out
      have HS2 : Hid ((s[k] == 39) = true → I.data.toList = (s.data.toList.take K).filter (fun c => !(c == 39))) := by rw [← hK]; exact filt_skip hlt HI.out
      rw [hK] at hx
      have HKK := Lib.hid hK
      have hXs : (s.extract k K).size = 1 := by simp; omega
      cases hc : (s[k] == 39) with
      | true =>
        rw [hc] at hx
        have HN := Lib.hid (HS2.out hc)
        clear hc hK hki2
        go_wp2_with fail
        go_round
        case rel => exact ⟨K, I, hKs', by omega, by go_num, rfl, HN⟩
        case measure => have := HKK.out; simp [intOf]; omega
      | false =>
        rw [hc] at hx
        have HN := Lib.hid (HS1.out hc)
        obtain ⟨X, hX⟩ : ∃ X, s.extract k K = X := ⟨_, rfl⟩
        rw [hX] at hx HN hXs
        obtain ⟨I2, hI2⟩ : ∃ J, I ++ X = J := ⟨_, rfl⟩
        have hIs2 : Hid (I2.size ≤ K) := by show _ ≤ _; rw [← hI2, ByteArray.size_append]; omega
        have HI2 := Lib.hid hI2
        clear hc hK hki2 hI2
        go_wp2_with fail
        go_round
        case rel => exact ⟨K, I2, hKs', hIs2.out, by go_num, by rw [HI2.out], by rw [← HI2.out]; exact HN⟩
        case measure => have := HKK.out; simp [intOf]; omega
    · have hki : ¬ (k : Int) < s.size := by omega
      obtain ⟨v, hv⟩ : ∃ v, I.data.toList = v := ⟨_, rfl⟩
      have hvq : (39 : UInt8) ∉ v := by
        rw [← hv, HI.out]
        intro h
        have := (List.mem_filter.1 h).2
        simp at this
      have hvl : v.length = I.size := by rw [← hv]; simp
      have hIs : I.size ≤ 1000 := by omega
      obtain ⟨F1, hF1⟩ : ∃ F, (⟨#[60, 112, 32, 113, 61]⟩ : ByteArray) ++ ⟨#[39]⟩ = F := ⟨_, rfl⟩
      obtain ⟨FR, hFR⟩ : ∃ F, F1 ++ I = F := ⟨_, rfl⟩
      obtain ⟨G1, hG1⟩ : ∃ F, FR ++ ⟨#[39]⟩ = F := ⟨_, rfl⟩
      obtain ⟨G2, hG2⟩ : ∃ F, G1 ++ ⟨#[62]⟩ = F := ⟨_, rfl⟩
      obtain ⟨G3, hG3⟩ : ∃ F, G2 ++ behind = F := ⟨_, rfl⟩
      have s1 : F1.size = 6 := by rw [← hF1]; rfl
      have s2 : FR.size = 6 + I.size := by rw [← hFR, ByteArray.size_append, s1]
      have s3 : G1.size = 7 + I.size := by rw [← hG1, ByteArray.size_append, s2, show (⟨#[39]⟩ : ByteArray).size = 1 from rfl]; omega
      have s4 : G2.size = 8 + I.size := by rw [← hG2, ByteArray.size_append, s3, show (⟨#[62]⟩ : ByteArray).size = 1 from rfl]; omega
      have s5 : G3.size = 8 + I.size + behind.size := by rw [← hG3, ByteArray.size_append, s4]
      have l2 : FR.data.toList = 60 :: 112 :: 32 :: 113 :: 61 :: 39 :: v := by
        rw [← hFR, ← hF1]; simp [ByteArray.data_append, hv]
      have l5 : G3.data.toList = 60 :: 112 :: 32 :: 113 :: 61 :: 39 :: (v ++ 39 :: 62 :: behind.data.toList) := by
        rw [← hG3, ← hG2, ← hG1]; simp [ByteArray.data_append, l2]
      have r1 : readL G3.data.toList 0 = some ⟨false, [112], [([113], valL v)], false, false, v.length + 8⟩ := by
        rw [l5]; exact swallow (.inr rfl) hvq
      have r2 : readL FR.data.toList 0 = none := by rw [l2]; exact swallow_none (.inr rfl) hvq
      have HR1 := Lib.hid (read_any G3 0 m w HT.out HM.out (by omega) (by omega))
      have HR2 := Lib.hid (fun W (hb : Below w.heap.size w W) => read_any FR 0 m W (HT.out.below hb) (HM.out.below hb) (by omega) (by omega))
      rw [r1] at HR1
      rw [r2] at HR2
      obtain ⟨NX, hNX⟩ : ∃ N, v.length + 8 = N := ⟨_, rfl⟩
      rw [hNX] at HR1
      have nxi : (FR.size : Int) + 2 = NX := by omega
      have nxe : ((NX : Int) == (NX : Int)) = true := by simp
      have z1 : FR.size ≤ 5000 := by omega
      have z2 : G1.size ≤ 5000 := by omega
      have z3 : G2.size ≤ 5000 := by omega
      have z4 : F1.size ≤ 5000 := by omega
      have HNX := Lib.hid hNX
      clear r1 r2 l2 l5 s1 s2 s3 s4 s5 hvq hv hvl hNX
      go_wp2_with fail
      refine HR1.out.mono ?_
      rintro e w1 ⟨⟨oa, oc, rfl, own1⟩, b1⟩
      obtain ⟨ao, cap, ha1, ha2, ha3, ha4⟩ := att_in own1
      obtain ⟨b0, off, hb1, hb2, hb3⟩ := ha4 (by simp)
      injection ha1 with h1 h2 h3
      subst h1 h3
      subst hb1
      have hcell := (hb3 0 (by simp)).1
      have HCE : Hid (w1.cell? ⟨b0, off, none⟩ = some (.string ⟨#[113]⟩)) := by show _ = _; simpa using hcell
      have HB2 := Lib.hid hb2
      have HB1 := Lib.hid b1
      have ev : tokV ⟨false, [112], [([113], valL v)], false, false, NX⟩ 0 (.slice (some ⟨b0, off, none⟩) ([(([113], valL v) : At)].length) oc) = .agg #[.int .i64 2, .string ⟨#[112]⟩, .string ⟨#[]⟩, .slice (some ⟨b0, off, none⟩) 1 oc, .bool false, .bool false, .bool false, .int .i64 0, .int .i64 (NX : Int)] := rfl
      rw [ev]
      obtain ⟨W1, hW1⟩ : ∃ W1, W1 = w1.alloc (.cells #[.int .i64 2, .string ⟨#[112]⟩, .string ⟨#[]⟩, .slice (some ⟨b0, off, none⟩) 1 oc, .bool false, .bool false, .bool false, .int .i64 0, .int .i64 (NX : Int)] 25) := ⟨_, rfl⟩
      have k1 : W1.heap[w1.heap.size]? = some (.cells #[.int .i64 2, .string ⟨#[112]⟩, .string ⟨#[]⟩, .slice (some ⟨b0, off, none⟩) 1 oc, .bool false, .bool false, .bool false, .int .i64 0, .int .i64 (NX : Int)] 25 (0, 0)) := by
        rw [hW1]; exact heap_alloc_new w1 _
      have BW1 : Hid (Below w.heap.size w W1) := by show Below _ _ _; rw [hW1]; exact HB1.out.alloc HB1.out.size _
      have hs1 : w1.heap.size < W1.heap.size := by rw [hW1]; simp
      have B11 : Hid (Below w1.heap.size w1 W1) := by show Below _ _ _; rw [hW1]; exact (Below.refl _ w1).alloc (Nat.le_refl _) _
      have K1 := Lib.hid k1
      have HW1 := Lib.hid hW1
      clear hW1 own1 b1 ha2 ha3 ha4 hb2 hb3 hcell ev k1
      go_upto_region 14 with fail
      try simp only [Int.natCast_zero]
      rw [← HW1.out]
      go_wp2_with fail
      refine (HR2.out _ BW1.out).mono ?_
      rintro e w2 ⟨r2, b2⟩
      obtain rfl : e = .returned (.tuple #[zTok, .int .i64 0, .bool false]) := r2
      unfold zTok
      obtain ⟨W2, hW2⟩ : ∃ W2, W2 = w2.alloc (.cells #[.int .i64 0, .string ⟨#[]⟩, .string ⟨#[]⟩, .slice none 0 0, .bool false, .bool false, .bool false, .int .i64 0, .int .i64 0] 25) := ⟨_, rfl⟩
      have B12 : Below W1.heap.size W1 W2 := by rw [hW2]; exact b2.alloc b2.size _
      have BW2 : Hid (Below w.heap.size w W2) := BW1.out.trans (B12.mono BW1.out.size)
      have k1 : W2.heap[w1.heap.size]? = _ := (B12.block _ hs1).trans K1.out
      have ce : W2.cell? ⟨b0, off, none⟩ = some (.string ⟨#[113]⟩) := (B12.cell (p := ⟨b0, off, none⟩) (by show b0 < _; have := HB2.out; omega)).trans ((B11.out.cell (p := ⟨b0, off, none⟩) (by exact HB2.out)).trans HCE.out)
      have HW2 := Lib.hid hW2
      clear hW2 b2 B12
      go_upto_region 15 with fail
      rw [← HW2.out]
      obtain ⟨⟨c0, c1, c2, c3, c4, c5, c6, c7, c8⟩, _⟩ := nine k1
      clear k1
      go_wp2_with fail
      refine (HTG.out _ BW2.out).mono ?_
      rintro e w5 ⟨rfl, b5⟩
      go_wp2_with fail
      go_ret
      exact ⟨by exact rfl, BW2.out.trans (b5.mono BW2.out.size)⟩

set_option maxHeartbeats 3200000 in
set_option maxRecDepth 100000 in
theorem tagsSwallow_law (s behind : ByteArray) (single : Bool) (m : Int) (w : World) (hT : RTab w) (hm : MaxOk m w) :
    Calls Tryd.prog 5 #[.string s, .string behind, .bool single] w fun e w' => e = .returned (.bool true) ∧ Below w.heap.size w w' := by
  by_cases hl1 : (1000 : Int) < s.size
  · have HTG := Lib.hid (tagged_any m w hT hm)
    clear hT hm
    go_enter Tryd.func5, Tryd.ntmps5
    go_wp2_with fail
    refine HTG.out.mono ?_
    rintro e w' ⟨rfl, b⟩
    go_wp2_with fail
    go_ret
    exact ⟨by exact rfl, b⟩
  · by_cases hl2 : (300 : Int) < behind.size
    · have HTG := Lib.hid (tagged_any m w hT hm)
      clear hT hm
      go_enter Tryd.func5, Tryd.ntmps5
      go_wp2_with fail
      refine HTG.out.mono ?_
      rintro e w' ⟨rfl, b⟩
      go_wp2_with fail
      go_ret
      exact ⟨by exact rfl, b⟩
    · cases single with
      | true => exact swallow_39 s behind m w hT hm hl1 hl2
      | false => exact swallow_34 s behind m w hT hm hl1 hl2
end Go.Proofs.YteeplfbaflldaaaDoor.T10
