/- lazaretlaw10.TagsFirst. -/
import Derived.Test.YteeplfbaflldaaaDoorTg8
import Derived.Test.YteeplfbaflldaaaDoorTg9
set_option linter.unusedVariables false
set_option linter.unusedSimpArgs false
namespace Go.Proofs.YteeplfbaflldaaaDoor.T10
open Go.RowKit R9

theorem keep_two (n a b : List UInt8) : keepL [(n, a), (n, b)] = ([(n, a)], true) := by
  unfold keepL
  simp [addA]
theorem first_read (n a b : List UInt8) : readL (60 :: (plainL n ++ (attrT (plainL n) a ++ (attrT (plainL n) b ++ [62])))) 0 = some ⟨false, plainL n, [(plainL n, oL a)], true, false, 2 + (plainL n).length + (attrT (plainL n) a).length + (attrT (plainL n) b).length⟩ := by
  have h1 : restF 5 (attrT (plainL n) a ++ (attrT (plainL n) b ++ [62])) [] false (([] : List UInt8).length + 1 + (plainL n).length) = some ([(plainL n, oL a), (plainL n, oL b)], false, 2 + (plainL n).length + (attrT (plainL n) a).length + (attrT (plainL n) b).length) := by
    rw [rest_written, rest_written]
    show some _ = some _
    simp
    omega
  have h2 := read_start (pre := []) (nm := plainL n) (plain_ok n) (plain_al n) (fun c hc => by simp [attrT] at hc; subst hc; exact .inl rfl) h1
  rw [keep_two] at h2
  exact h2
theorem first_fin (n a b : List UInt8) : readL (60 :: 47 :: (plainL n ++ (attrT (plainL n) a ++ (attrT (plainL n) b ++ [47, 62])))) 0 = some ⟨true, plainL n, [], false, false, 4 + (plainL n).length + (attrT (plainL n) a).length + (attrT (plainL n) b).length⟩ := by
  have h1 : restF 6 (attrT (plainL n) a ++ (attrT (plainL n) b ++ [47, 62])) [] false (([] : List UInt8).length + 2 + (plainL n).length) = some ([(plainL n, oL a), (plainL n, oL b)], true, 4 + (plainL n).length + (attrT (plainL n) a).length + (attrT (plainL n) b).length) := by
    rw [rest_written, rest_written]
    show some _ = some _
    simp
    omega
  exact read_fin (pre := []) (nm := plainL n) (plain_ok n) (plain_al n) (fun c hc => by simp [attrT] at hc; subst hc; exact .inl rfl) h1

set_option maxHeartbeats 6400000 in
set_option maxRecDepth 100000 in
theorem tagsFirst_law (name one two : ByteArray) (m : Int) (w : World) (hT : RTab w) (hm : MaxOk m w) :
    Calls Tryd.prog 7 #[.string name, .string one, .string two] w fun e w' => e = .returned (.bool true) ∧ Below w.heap.size w w' := by
  have HT := Lib.hid hT
  have HM := Lib.hid hm
  have HTG := Lib.hid (fun W (hb : Below w.heap.size w W) => tagged_any m W (HT.out.below hb) (HM.out.below hb))
  clear hT hm
  by_cases hl : (20 : Int) < name.size ∨ (200 : Int) < one.size ∨ (200 : Int) < two.size
  · by_cases hl1 : (20 : Int) < name.size
    · clear hl
      go_enter Tryd.func7, Tryd.ntmps7
      go_wp2_with fail
      refine (HTG.out _ (Below.refl _ _)).mono ?_
      rintro e w' ⟨rfl, b⟩
      go_wp2_with fail
      go_ret
      exact ⟨by exact rfl, b⟩
    · by_cases hl2 : (200 : Int) < one.size
      · clear hl
        go_enter Tryd.func7, Tryd.ntmps7
        go_wp2_with fail
        refine (HTG.out _ (Below.refl _ _)).mono ?_
        rintro e w' ⟨rfl, b⟩
        go_wp2_with fail
        go_ret
        exact ⟨by exact rfl, b⟩
      · have hl3 : (200 : Int) < two.size := by omega
        clear hl
        go_enter Tryd.func7, Tryd.ntmps7
        go_wp2_with fail
        refine (HTG.out _ (Below.refl _ _)).mono ?_
        rintro e w' ⟨rfl, b⟩
        go_wp2_with fail
        go_ret
        exact ⟨by exact rfl, b⟩
  · have hl1 : ¬ (20 : Int) < name.size := by omega
    have hl2 : ¬ (200 : Int) < one.size := by omega
    have hl3 : ¬ (200 : Int) < two.size := by omega
    clear hl
    have HPL := Lib.hid (plain_any name w (by omega))
    have HW1 := Lib.hid (fun W => written_any one W (by omega))
    have HW2 := Lib.hid (fun W => written_any two W (by omega))
    obtain ⟨nb, hnb⟩ : ∃ X : ByteArray, (⟨(plainL name.data.toList).toArray⟩ : ByteArray) = X := ⟨_, rfl⟩
    obtain ⟨vb, hvb⟩ : ∃ X : ByteArray, (⟨(34 :: (escL one.data.toList ++ [34])).toArray⟩ : ByteArray) = X := ⟨_, rfl⟩
    obtain ⟨wb, hwb⟩ : ∃ X : ByteArray, (⟨(34 :: (escL two.data.toList ++ [34])).toArray⟩ : ByteArray) = X := ⟨_, rfl⟩
    obtain ⟨ob, hob⟩ : ∃ X : ByteArray, (⟨(oL one.data.toList).toArray⟩ : ByteArray) = X := ⟨_, rfl⟩
    obtain ⟨tb, htb⟩ : ∃ X : ByteArray, (⟨(oL two.data.toList).toArray⟩ : ByteArray) = X := ⟨_, rfl⟩
    have hnl : nb.data.toList = plainL name.data.toList := by rw [← hnb]
    have hvl : vb.data.toList = 34 :: (escL one.data.toList ++ [34]) := by rw [← hvb]
    have hwl : wb.data.toList = 34 :: (escL two.data.toList ++ [34]) := by rw [← hwb]
    have HNB := Lib.hid hnb
    have HOB := Lib.hid hob
    rw [hnb] at HPL
    rw [hvb, hob] at HW1
    rw [hwb, htb] at HW2
    have nbs : nb.size = name.size + 1 := by
      rw [← hnb]; show (plainL name.data.toList).toArray.size = _; rw [List.size_toArray]; simp [plainL]
    have vbs : vb.size ≤ 1202 := by
      have h1 := esc_len one.data.toList
      have h2 : one.data.toList.length = one.size := by simp
      rw [← hvb]; show (34 :: (escL one.data.toList ++ [34])).toArray.size ≤ _; rw [List.size_toArray]; simp; omega
    have wbs : wb.size ≤ 1202 := by
      have h1 := esc_len two.data.toList
      have h2 : two.data.toList.length = two.size := by simp
      rw [← hwb]; show (34 :: (escL two.data.toList ++ [34])).toArray.size ≤ _; rw [List.size_toArray]; simp; omega
    clear hnb hvb hwb hob htb
    obtain ⟨A1, hA1⟩ : ∃ X, (⟨#[60]⟩ : ByteArray) ++ nb = X := ⟨_, rfl⟩
    obtain ⟨A2, hA2⟩ : ∃ X, (A1 : ByteArray) ++ ⟨#[32]⟩ = X := ⟨_, rfl⟩
    obtain ⟨A3, hA3⟩ : ∃ X, (A2 : ByteArray) ++ nb = X := ⟨_, rfl⟩
    obtain ⟨A4, hA4⟩ : ∃ X, (A3 : ByteArray) ++ ⟨#[61]⟩ = X := ⟨_, rfl⟩
    obtain ⟨A5, hA5⟩ : ∃ X, (A4 : ByteArray) ++ vb = X := ⟨_, rfl⟩
    obtain ⟨B1, hB1⟩ : ∃ X, (A5 : ByteArray) ++ ⟨#[32]⟩ = X := ⟨_, rfl⟩
    obtain ⟨B2, hB2⟩ : ∃ X, (B1 : ByteArray) ++ nb = X := ⟨_, rfl⟩
    obtain ⟨B3, hB3⟩ : ∃ X, (B2 : ByteArray) ++ ⟨#[61]⟩ = X := ⟨_, rfl⟩
    obtain ⟨B4, hB4⟩ : ∃ X, (B3 : ByteArray) ++ wb = X := ⟨_, rfl⟩
    obtain ⟨B5, hB5⟩ : ∃ X, (B4 : ByteArray) ++ ⟨#[62]⟩ = X := ⟨_, rfl⟩
    obtain ⟨C1, hC1⟩ : ∃ X, (⟨#[60, 47]⟩ : ByteArray) ++ nb = X := ⟨_, rfl⟩
    obtain ⟨C2, hC2⟩ : ∃ X, (C1 : ByteArray) ++ ⟨#[32]⟩ = X := ⟨_, rfl⟩
    obtain ⟨C3, hC3⟩ : ∃ X, (C2 : ByteArray) ++ nb = X := ⟨_, rfl⟩
    obtain ⟨C4, hC4⟩ : ∃ X, (C3 : ByteArray) ++ ⟨#[61]⟩ = X := ⟨_, rfl⟩
    obtain ⟨C5, hC5⟩ : ∃ X, (C4 : ByteArray) ++ vb = X := ⟨_, rfl⟩
    obtain ⟨C6, hC6⟩ : ∃ X, (C5 : ByteArray) ++ ⟨#[32]⟩ = X := ⟨_, rfl⟩
    obtain ⟨C7, hC7⟩ : ∃ X, (C6 : ByteArray) ++ nb = X := ⟨_, rfl⟩
    obtain ⟨C8, hC8⟩ : ∃ X, (C7 : ByteArray) ++ ⟨#[61]⟩ = X := ⟨_, rfl⟩
    obtain ⟨C9, hC9⟩ : ∃ X, (C8 : ByteArray) ++ wb = X := ⟨_, rfl⟩
    obtain ⟨C10, hC10⟩ : ∃ X, (C9 : ByteArray) ++ ⟨#[47, 62]⟩ = X := ⟨_, rfl⟩
    have eA1 : A1.size = 1 + nb.size := by rw [← hA1, ByteArray.size_append, show (⟨#[60]⟩ : ByteArray).size = 1 from rfl]
    have zA1 : A1.size ≤ 5000 := by omega
    have eA2 : A2.size = A1.size + 1 := by rw [← hA2, ByteArray.size_append, show (⟨#[32]⟩ : ByteArray).size = 1 from rfl]
    have zA2 : A2.size ≤ 5000 := by omega
    have eA3 : A3.size = A2.size + nb.size := by rw [← hA3, ByteArray.size_append]
    have zA3 : A3.size ≤ 5000 := by omega
    have eA4 : A4.size = A3.size + 1 := by rw [← hA4, ByteArray.size_append, show (⟨#[61]⟩ : ByteArray).size = 1 from rfl]
    have zA4 : A4.size ≤ 5000 := by omega
    have eA5 : A5.size = A4.size + vb.size := by rw [← hA5, ByteArray.size_append]
    have zA5 : A5.size ≤ 5000 := by omega
    have eB1 : B1.size = A5.size + 1 := by rw [← hB1, ByteArray.size_append, show (⟨#[32]⟩ : ByteArray).size = 1 from rfl]
    have zB1 : B1.size ≤ 5000 := by omega
    have eB2 : B2.size = B1.size + nb.size := by rw [← hB2, ByteArray.size_append]
    have zB2 : B2.size ≤ 5000 := by omega
    have eB3 : B3.size = B2.size + 1 := by rw [← hB3, ByteArray.size_append, show (⟨#[61]⟩ : ByteArray).size = 1 from rfl]
    have zB3 : B3.size ≤ 5000 := by omega
    have eB4 : B4.size = B3.size + wb.size := by rw [← hB4, ByteArray.size_append]
    have zB4 : B4.size ≤ 5000 := by omega
    have eB5 : B5.size = B4.size + 1 := by rw [← hB5, ByteArray.size_append, show (⟨#[62]⟩ : ByteArray).size = 1 from rfl]
    have zB5 : B5.size ≤ 5000 := by omega
    have eC1 : C1.size = 2 + nb.size := by rw [← hC1, ByteArray.size_append, show (⟨#[60, 47]⟩ : ByteArray).size = 2 from rfl]
    have zC1 : C1.size ≤ 5000 := by omega
    have eC2 : C2.size = C1.size + 1 := by rw [← hC2, ByteArray.size_append, show (⟨#[32]⟩ : ByteArray).size = 1 from rfl]
    have zC2 : C2.size ≤ 5000 := by omega
    have eC3 : C3.size = C2.size + nb.size := by rw [← hC3, ByteArray.size_append]
    have zC3 : C3.size ≤ 5000 := by omega
    have eC4 : C4.size = C3.size + 1 := by rw [← hC4, ByteArray.size_append, show (⟨#[61]⟩ : ByteArray).size = 1 from rfl]
    have zC4 : C4.size ≤ 5000 := by omega
    have eC5 : C5.size = C4.size + vb.size := by rw [← hC5, ByteArray.size_append]
    have zC5 : C5.size ≤ 5000 := by omega
    have eC6 : C6.size = C5.size + 1 := by rw [← hC6, ByteArray.size_append, show (⟨#[32]⟩ : ByteArray).size = 1 from rfl]
    have zC6 : C6.size ≤ 5000 := by omega
    have eC7 : C7.size = C6.size + nb.size := by rw [← hC7, ByteArray.size_append]
    have zC7 : C7.size ≤ 5000 := by omega
    have eC8 : C8.size = C7.size + 1 := by rw [← hC8, ByteArray.size_append, show (⟨#[61]⟩ : ByteArray).size = 1 from rfl]
    have zC8 : C8.size ≤ 5000 := by omega
    have eC9 : C9.size = C8.size + wb.size := by rw [← hC9, ByteArray.size_append]
    have zC9 : C9.size ≤ 5000 := by omega
    have eC10 : C10.size = C9.size + 2 := by rw [← hC10, ByteArray.size_append, show (⟨#[47, 62]⟩ : ByteArray).size = 2 from rfl]
    have zC10 : C10.size ≤ 5000 := by omega

    have lB : B5.data.toList = 60 :: (plainL name.data.toList ++ (attrT (plainL name.data.toList) one.data.toList ++ (attrT (plainL name.data.toList) two.data.toList ++ [62]))) := by
      rw [← hB5, ← hB4, ← hB3, ← hB2, ← hB1, ← hA5, ← hA4, ← hA3, ← hA2, ← hA1]
      simp [ByteArray.data_append, hnl, hvl, hwl, attrT]
    have lC : C10.data.toList = 60 :: 47 :: (plainL name.data.toList ++ (attrT (plainL name.data.toList) one.data.toList ++ (attrT (plainL name.data.toList) two.data.toList ++ [47, 62]))) := by
      rw [← hC10, ← hC9, ← hC8, ← hC7, ← hC6, ← hC5, ← hC4, ← hC3, ← hC2, ← hC1]
      simp [ByteArray.data_append, hnl, hvl, hwl, attrT]
    have r1 := first_read name.data.toList one.data.toList two.data.toList
    rw [← lB] at r1
    have r2 := first_fin name.data.toList one.data.toList two.data.toList
    rw [← lC] at r2
    have hnn : (plainL name.data.toList).length = nb.size := by rw [← hnl]; simp
    have hv2 : (attrT (plainL name.data.toList) one.data.toList).length = nb.size + vb.size + 2 := by
      have : vb.data.toList.length = vb.size := by simp
      rw [hvl] at this
      simp at this
      simp [attrT, hnn]
      omega
    have hw2 : (attrT (plainL name.data.toList) two.data.toList).length = nb.size + wb.size + 2 := by
      have : wb.data.toList.length = wb.size := by simp
      rw [hwl] at this
      simp at this
      simp [attrT, hnn]
      omega
    rw [hnn, hv2, hw2] at r1 r2
    obtain ⟨NX, hNX⟩ : ∃ N, 2 + nb.size + (nb.size + vb.size + 2) + (nb.size + wb.size + 2) = N := ⟨_, rfl⟩
    obtain ⟨NY, hNY⟩ : ∃ N, 4 + nb.size + (nb.size + vb.size + 2) + (nb.size + wb.size + 2) = N := ⟨_, rfl⟩
    rw [hNX] at r1
    rw [hNY] at r2
    obtain ⟨S1, hS1⟩ : ∃ S, A5.size + nb.size = S := ⟨_, rfl⟩
    obtain ⟨S2, hS2⟩ : ∃ S, S1 + wb.size = S := ⟨_, rfl⟩
    have i1 : (A5.size : Int) + nb.size = S1 := by omega
    have i2 : (S1 : Int) + wb.size = S2 := by omega
    have i3 : (S2 : Int) + 3 = NX := by omega
    have i4 : ((NX : Int) != (NX : Int)) = false := by simp
    have q1 : (nb.toList == nb.toList) = true := by simp
    have HR1 := Lib.hid (fun W (hb : Below w.heap.size w W) => read_any B5 0 m W (HT.out.below hb) (HM.out.below hb) (by omega) (by omega))
    have HR2 := Lib.hid (fun W (hb : Below w.heap.size w W) => read_any C10 0 m W (HT.out.below hb) (HM.out.below hb) (by omega) (by omega))
    rw [r1] at HR1
    rw [r2] at HR2
    have hNXs : NX ≤ 5000 := by omega
    have nbz : nb.size ≤ 5000 := by omega
    have vbz : vb.size ≤ 5000 := by omega
    have wbz : wb.size ≤ 5000 := by omega
    clear r1 r2 lB lC hnl hvl hwl hnn hv2 hw2 hNX hNY hS1 hS2 eA1 eA2 eA3 eA4 eA5 eB1 eB2 eB3 eB4 eB5 eC1 eC2 eC3 eC4 eC5 eC6 eC7 eC8 eC9 eC10 nbs vbs wbs
    go_enter Tryd.func7, Tryd.ntmps7
    go_wp2_with fail
    refine HPL.out.mono ?_
    rintro e wa ⟨rfl, ba⟩
    have BA := Lib.hid ba
    clear ba
    go_wp2_with fail
    refine (HW1.out _).mono ?_
    rintro e wb' ⟨rfl, bb⟩
    have BB : Hid (Below w.heap.size w wb') := BA.out.trans (bb.mono BA.out.size)
    clear bb
    go_wp2_with fail
    refine (HW2.out _).mono ?_
    rintro e wc ⟨rfl, bc⟩
    have BC : Hid (Below w.heap.size w wc) := BB.out.trans (bc.mono BB.out.size)
    clear bc
    go_wp2_with fail
    refine (HR1.out _ BC.out).mono ?_
    rintro e w1 ⟨⟨oa, oc, rfl, own1⟩, b1⟩
    obtain ⟨ao, cap, ha1, ha2, ha3, ha4⟩ := att_in own1
    obtain ⟨b0, off, hb1, hb2, hb3⟩ := ha4 (by simp)
    injection ha1 with h1 h2 h3
    subst h1 h3
    subst hb1
    have hcell := hb3 0 (by simp)
    have HCE : Hid (w1.cell? ⟨b0, off, none⟩ = some (.string nb) ∧ w1.cell? ⟨b0, off + 1, none⟩ = some (.string ob)) := by
      show _ ∧ _
      rw [← HNB.out, ← HOB.out]
      simpa using hcell
    have HB2 := Lib.hid hb2
    have HB1 : Hid (Below w.heap.size w w1) := BC.out.trans (b1.mono BC.out.size)
    have ev : tokV ⟨false, plainL name.data.toList, [(plainL name.data.toList, oL one.data.toList)], true, false, NX⟩ 0 (.slice (some ⟨b0, off, none⟩) ([((plainL name.data.toList, oL one.data.toList) : At)].length) oc) = .agg #[.int .i64 2, .string nb, .string ⟨#[]⟩, .slice (some ⟨b0, off, none⟩) 1 oc, .bool true, .bool false, .bool false, .int .i64 0, .int .i64 (NX : Int)] := by rw [← HNB.out]; rfl
    rw [ev]
    obtain ⟨W1, hW1⟩ : ∃ W1, W1 = w1.alloc (.cells #[.int .i64 2, .string nb, .string ⟨#[]⟩, .slice (some ⟨b0, off, none⟩) 1 oc, .bool true, .bool false, .bool false, .int .i64 0, .int .i64 (NX : Int)] 25) := ⟨_, rfl⟩
    have k1 : W1.heap[w1.heap.size]? = some (.cells #[.int .i64 2, .string nb, .string ⟨#[]⟩, .slice (some ⟨b0, off, none⟩) 1 oc, .bool true, .bool false, .bool false, .int .i64 0, .int .i64 (NX : Int)] 25 (0, 0)) := by
      rw [hW1]; exact heap_alloc_new w1 _
    have BW1 : Hid (Below w.heap.size w W1) := by show Below _ _ _; rw [hW1]; exact HB1.out.alloc HB1.out.size _
    have hs1 : w1.heap.size < W1.heap.size := by rw [hW1]; simp
    have B11 : Hid (Below w1.heap.size w1 W1) := by show Below _ _ _; rw [hW1]; exact (Below.refl _ w1).alloc (Nat.le_refl _) _
    have K1 := Lib.hid k1
    have HW1' := Lib.hid hW1
    clear hW1 own1 b1 ha2 ha3 ha4 hb2 hb3 hcell ev k1
    go_upto_region 8 with fail
    try simp only [Int.natCast_zero]
    rw [← HW1'.out]
    go_wp2_with fail
    refine (HR2.out _ BW1.out).mono ?_
    rintro e w2 ⟨⟨ob2, oc2, rfl, own2⟩, b2⟩
    have ev : tokV ⟨true, plainL name.data.toList, [], false, false, NY⟩ 0 (.slice ob2 ([] : List At).length oc2) = .agg #[.int .i64 3, .string nb, .string ⟨#[]⟩, .slice ob2 0 oc2, .bool false, .bool false, .bool false, .int .i64 0, .int .i64 (NY : Int)] := by rw [← HNB.out]; rfl
    rw [ev]
    obtain ⟨W2, hW2⟩ : ∃ W2, W2 = w2.alloc (.cells #[.int .i64 3, .string nb, .string ⟨#[]⟩, .slice ob2 0 oc2, .bool false, .bool false, .bool false, .int .i64 0, .int .i64 (NY : Int)] 25) := ⟨_, rfl⟩
    have k2 : W2.heap[w2.heap.size]? = some (.cells #[.int .i64 3, .string nb, .string ⟨#[]⟩, .slice ob2 0 oc2, .bool false, .bool false, .bool false, .int .i64 0, .int .i64 (NY : Int)] 25 (0, 0)) := by
      rw [hW2]; exact heap_alloc_new w2 _
    have B12 : Below W1.heap.size W1 W2 := by rw [hW2]; exact b2.alloc b2.size _
    have BW2 : Hid (Below w.heap.size w W2) := BW1.out.trans (B12.mono BW1.out.size)
    have k1 : W2.heap[w1.heap.size]? = _ := (B12.block _ hs1).trans K1.out
    have ce : W2.cell? ⟨b0, off, none⟩ = some (.string nb) := (B12.cell (p := ⟨b0, off, none⟩) (by show b0 < _; have := HB2.out; omega)).trans ((B11.out.cell (p := ⟨b0, off, none⟩) (by exact HB2.out)).trans HCE.out.1)
    have cf : W2.cell? ⟨b0, off + 1, none⟩ = some (.string ob) := (B12.cell (p := ⟨b0, off + 1, none⟩) (by show b0 < _; have := HB2.out; omega)).trans ((B11.out.cell (p := ⟨b0, off + 1, none⟩) (by exact HB2.out)).trans HCE.out.2)
    have HW2' := Lib.hid hW2
    clear hW2 b2 B12 own2 ev
    go_upto_region 9 with fail
    try simp only [Int.natCast_zero]
    rw [← HW2'.out]
    obtain ⟨⟨c0, c1, c2, c3, c4, c5, c6, c7, c8⟩, _⟩ := nine k1
    obtain ⟨⟨d0, d1, d2, d3, d4, d5, d6, d7, d8⟩, _⟩ := nine k2
    clear k1 k2
    go_wp2_with fail
    refine (HTG.out _ BW2.out).mono ?_
    rintro e w5 ⟨rfl, b5⟩
    go_wp2_with fail
    go_ret
    exact ⟨by exact rfl, BW2.out.trans (b5.mono BW2.out.size)⟩
end Go.Proofs.YteeplfbaflldaaaDoor.T10
