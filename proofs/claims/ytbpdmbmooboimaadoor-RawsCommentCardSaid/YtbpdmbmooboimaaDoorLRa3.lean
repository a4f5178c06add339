/- Law RawsComment. (Made by tools/gen/lra3.py.) -/
import Derived.Test.YtbpdmbmooboimaaDoorLRah
set_option linter.unusedVariables false
set_option linter.unusedSimpArgs false
namespace Go.Proofs.YtbpdmbmooboimaaDoor.R11
open Go.RowKit R9 T10

theorem comment_put (S ahead s C : ByteArray) (tail : List UInt8) (n E : Nat) (m : Int) (w : World) (hS : S.data.toList = ahead.data.toList ++ (60 :: 33 :: 45 :: 45 :: (s.data.toList ++ tail))) (h : comL (s.data.toList ++ tail) = (s.data.toList, n)) (hC : bytesOf (cleanR s.data.toList) = C) (hE : ahead.size + 4 + n = E) (hs : S.size ≤ 5000) (hm : MaxOk m w) :
    Calls Tryd.prog 11 #[.string S, .int .i64 (ahead.size : Int)] w fun e w' => e = .returned (.tuple #[.agg #[.int .i64 4, .string ⟨#[]⟩, .string C, .slice none 0 0, .bool false, .bool false, .bool false, .int .i64 (ahead.size : Int), .int .i64 (E : Int)], .int .i64 (E : Int)]) ∧ Below w.heap.size w w' := by
  have ha : ahead.data.toList.length = ahead.size := by simp
  have d0 : S.data.toList.drop ahead.size = 60 :: 33 :: 45 :: 45 :: (s.data.toList ++ tail) := by rw [hS, ← ha, List.drop_left]
  have d4 : S.data.toList.drop (ahead.size + 4) = s.data.toList ++ tail := by rw [← List.drop_drop, d0]; rfl
  have hh : hasL (S.data.toList.drop ahead.size) cmF.data.toList = true := by
    rw [d0]
    exact has_self [60, 33, 45, 45] _
  have := Comment_yes S ahead.size m w (by omega) hm hh
  rw [d4, h] at this
  simp only [] at this
  rw [hC, hE] at this
  exact this
theorem calm_of {s : ByteArray} (h1 : (fnd s.data.toList [45, 45, 62]).isSome = false) (h2 : (fnd s.data.toList [45, 45, 33, 62]).isSome = false) (h3 : s.data.toList[0]? ≠ some 62) (h4 : [45, 62].isPrefixOf s.data.toList = false) (h5 : [45].isSuffixOf s.data.toList = false) (h6 : [45, 45, 33].isSuffixOf s.data.toList = false) : Calm s.data.toList where
  one := none_of_isSome h1
  two := none_of_isSome h2
  gt := h3
  dash := by
    intro h
    have := (pre2 s.data.toList 0 45 62).2 h
    rw [List.drop_zero, h4] at this
    cases this
  last := by
    intro i hi h
    rw [(suf1 _ _).2 ⟨i, hi, h⟩] at h5
    cases h5
  odd := by
    intro i hi h
    rw [(suf3 _ _ _ _).2 ⟨i, hi, h.1, h.2.1, h.2.2⟩] at h6
    cases h6

theorem int_self' (n : Int) : (n != n) = false := by simp
set_option maxHeartbeats 12800000 in
set_option maxRecDepth 100000 in
theorem rawsComment_law (s ahead behind : ByteArray) (m : Int) (w : World) (hs1 : s.size ≤ maxLen) (hs2 : ahead.size ≤ maxLen) (hs3 : behind.size ≤ maxLen) (hT : RTab w) (hm : MaxOk m w) :
    Calls Tryd.prog 5 #[.string s, .string ahead, .string behind] w fun e w' => e = .returned (.bool true) ∧ Below w.heap.size w w' := by
  unfold maxLen at hs1 hs2 hs3
  have HT := Lib.hid hT
  have HM := Lib.hid hm
  clear hT hm
  by_cases gs : 1000 < s.size
  · have ks : (1000 : Int) < s.size := by omega
    go_enter Tryd.func5, Tryd.ntmps5
    go_wp2_with fail
    refine (raw_any m _ (HT.out.below (Below.refl _ _)) (HM.out.below (Below.refl _ _))).mono ?_
    rintro e w1 ⟨rfl, b1⟩
    have B1 : Hid (Below w.heap.size w w1) := b1
    clear b1
    go_wp2_with fail
    go_ret
    exact ⟨by exact rfl, B1.out⟩
  have ks : ¬ (1000 : Int) < s.size := by omega
  by_cases gahead : 1000 < ahead.size
  · have kahead : (1000 : Int) < ahead.size := by omega
    go_enter Tryd.func5, Tryd.ntmps5
    go_wp2_with fail
    refine (raw_any m _ (HT.out.below (Below.refl _ _)) (HM.out.below (Below.refl _ _))).mono ?_
    rintro e w1 ⟨rfl, b1⟩
    have B1 : Hid (Below w.heap.size w w1) := b1
    clear b1
    go_wp2_with fail
    go_ret
    exact ⟨by exact rfl, B1.out⟩
  have kahead : ¬ (1000 : Int) < ahead.size := by omega
  by_cases gbehind : 1000 < behind.size
  · have kbehind : (1000 : Int) < behind.size := by omega
    go_enter Tryd.func5, Tryd.ntmps5
    go_wp2_with fail
    refine (raw_any m _ (HT.out.below (Below.refl _ _)) (HM.out.below (Below.refl _ _))).mono ?_
    rintro e w1 ⟨rfl, b1⟩
    have B1 : Hid (Below w.heap.size w w1) := b1
    clear b1
    go_wp2_with fail
    go_ret
    exact ⟨by exact rfl, B1.out⟩
  have kbehind : ¬ (1000 : Int) < behind.size := by omega
  have H1 := Lib.hid (fun W => has_any s ⟨#[45, 45, 62]⟩ W (by omega) (by decide) (by decide))
  have H2 := Lib.hid (fun W => has_any s ⟨#[45, 45, 33, 62]⟩ W (by omega) (by decide) (by decide))
  have H3 := Lib.hid (fun W => ends_law s ⟨#[45]⟩ W (by omega) (by decide))
  have H4 := Lib.hid (fun W => ends_law s ⟨#[45, 45, 33]⟩ W (by omega) (by decide))
  rw [show (⟨#[45, 45, 62]⟩ : ByteArray).data.toList = [45, 45, 62] from rfl] at H1
  rw [show (⟨#[45, 45, 33, 62]⟩ : ByteArray).data.toList = [45, 45, 33, 62] from rfl] at H2
  rw [show (⟨#[45]⟩ : ByteArray).data.toList = [45] from rfl] at H3
  rw [show (⟨#[45, 45, 33]⟩ : ByteArray).data.toList = [45, 45, 33] from rfl] at H4
  cases h1 : (fnd s.data.toList [45, 45, 62]).isSome with
  | true =>
    rw [h1] at H1
    clear h1 gs gahead gbehind
    go_enter Tryd.func5, Tryd.ntmps5
    go_wp2_with fail
    refine (H1.out _).mono ?_
    rintro e w1 ⟨rfl, rfl⟩
    go_wp2_with fail
    refine (raw_any m _ (HT.out.below (Below.refl _ _)) (HM.out.below (Below.refl _ _))).mono ?_
    rintro e w2 ⟨rfl, b2⟩
    have B2 : Hid (Below w.heap.size w w2) := b2
    clear b2
    go_wp2_with fail
    go_ret
    exact ⟨by exact rfl, B2.out⟩
  | false =>
  rw [h1] at H1
  cases h2 : (fnd s.data.toList [45, 45, 33, 62]).isSome with
  | true =>
    rw [h2] at H2
    clear h1 h2 gs gahead gbehind
    go_enter Tryd.func5, Tryd.ntmps5
    go_wp2_with fail
    refine (H1.out _).mono ?_
    rintro e w1 ⟨rfl, rfl⟩
    go_wp2_with fail
    refine (H2.out _).mono ?_
    rintro e w2 ⟨rfl, rfl⟩
    go_wp2_with fail
    refine (raw_any m _ (HT.out.below (Below.refl _ _)) (HM.out.below (Below.refl _ _))).mono ?_
    rintro e w3 ⟨rfl, b3⟩
    have B3 : Hid (Below w.heap.size w w3) := b3
    clear b3
    go_wp2_with fail
    go_ret
    exact ⟨by exact rfl, B3.out⟩
  | false =>
  rw [h2] at H2
  by_cases y0 : 0 < s.size
  · have k0 : (0 : Int) < s.size := by omega
    have g0 := at_get y0
    by_cases y62 : s[0] = 62
    · have t0 := byte_is (z := 62) y62 rfl
      clear y62 g0 h1 h2 gs gahead gbehind
      go_enter Tryd.func5, Tryd.ntmps5
      go_wp2_with fail
      refine (H1.out _).mono ?_
      rintro e w1 ⟨rfl, rfl⟩
      go_wp2_with fail
      refine (H2.out _).mono ?_
      rintro e w2 ⟨rfl, rfl⟩
      go_wp2_with fail
      refine (raw_any m _ (HT.out.below (Below.refl _ _)) (HM.out.below (Below.refl _ _))).mono ?_
      rintro e w3 ⟨rfl, b3⟩
      have B3 : Hid (Below w.heap.size w w3) := b3
      clear b3
      go_wp2_with fail
      go_ret
      exact ⟨by exact rfl, B3.out⟩
    have t0 := byte_not (z := 62) y62 rfl
    have h3 : s.data.toList[0]? ≠ some 62 := by rw [g0]; intro e; exact y62 (Option.some.inj e)
    by_cases y1 : 1 < s.size
    · have k1 : (1 : Int) < s.size := by omega
      have k2 : (2 : Int) ≤ s.size := by omega
      obtain ⟨X, hX⟩ : ∃ X, s.extract 0 2 = X := ⟨_, rfl⟩
      have q0 : (X.toList == [45, 62]) = [45, 62].isPrefixOf s.data.toList := by
        rw [prefix_take, decide_eq_true (by simp; omega), Bool.true_and, ByteArray.toList_eq, ← hX, ext_init]; rfl
      cases h4 : [45, 62].isPrefixOf s.data.toList with
      | true =>
        rw [h4] at q0
        clear h1 h2 h3 h4 gs gahead gbehind g0 y62
        go_enter Tryd.func5, Tryd.ntmps5
        go_wp2_with fail
        refine (H1.out _).mono ?_
        rintro e w1 ⟨rfl, rfl⟩
        go_wp2_with fail
        refine (H2.out _).mono ?_
        rintro e w2 ⟨rfl, rfl⟩
        go_wp2_with fail
        refine (raw_any m _ (HT.out.below (Below.refl _ _)) (HM.out.below (Below.refl _ _))).mono ?_
        rintro e w3 ⟨rfl, b3⟩
        have B3 : Hid (Below w.heap.size w w3) := b3
        clear b3
        go_wp2_with fail
        go_ret
        exact ⟨by exact rfl, B3.out⟩
      | false =>
      rw [h4] at q0
      cases h5 : [45].isSuffixOf s.data.toList with
      | true =>
        rw [h5] at H3
        clear h1 h2 h3 h4 h5 gs gahead gbehind g0 y62
        go_enter Tryd.func5, Tryd.ntmps5
        go_wp2_with fail
        refine (H1.out _).mono ?_
        rintro e w1 ⟨rfl, rfl⟩
        go_wp2_with fail
        refine (H2.out _).mono ?_
        rintro e w2 ⟨rfl, rfl⟩
        go_wp2_with fail
        refine (H3.out _).mono ?_
        rintro e w3 ⟨rfl, rfl⟩
        go_wp2_with fail
        refine (raw_any m _ (HT.out.below (Below.refl _ _)) (HM.out.below (Below.refl _ _))).mono ?_
        rintro e w4 ⟨rfl, b4⟩
        have B4 : Hid (Below w.heap.size w w4) := b4
        clear b4
        go_wp2_with fail
        go_ret
        exact ⟨by exact rfl, B4.out⟩
      | false =>
      rw [h5] at H3
      cases h6 : [45, 45, 33].isSuffixOf s.data.toList with
      | true =>
        rw [h6] at H4
        clear h1 h2 h3 h4 h5 h6 gs gahead gbehind g0 y62
        go_enter Tryd.func5, Tryd.ntmps5
        go_wp2_with fail
        refine (H1.out _).mono ?_
        rintro e w1 ⟨rfl, rfl⟩
        go_wp2_with fail
        refine (H2.out _).mono ?_
        rintro e w2 ⟨rfl, rfl⟩
        go_wp2_with fail
        refine (H3.out _).mono ?_
        rintro e w3 ⟨rfl, rfl⟩
        go_wp2_with fail
        refine (H4.out _).mono ?_
        rintro e w4 ⟨rfl, rfl⟩
        go_wp2_with fail
        refine (raw_any m _ (HT.out.below (Below.refl _ _)) (HM.out.below (Below.refl _ _))).mono ?_
        rintro e w5 ⟨rfl, b5⟩
        have B5 : Hid (Below w.heap.size w w5) := b5
        clear b5
        go_wp2_with fail
        go_ret
        exact ⟨by exact rfl, B5.out⟩
      | false =>
      rw [h6] at H4
      have calm := calm_of h1 h2 h3 h4 h5 h6
      obtain ⟨C, hC⟩ : ∃ C, bytesOf (cleanR s.data.toList) = C := ⟨_, rfl⟩
      have HCL := Lib.hid (fun W => rclean_any s W (by omega))
      rw [hC] at HCL
      have HCc := Lib.hid hC
      have HCA := Lib.hid calm
      have t0n : TkAt w.heap.size 4 ⟨#[]⟩ C false (ahead.size : Int) 0 (w.alloc (.cells #[.int .i64 4, .string ⟨#[]⟩, .string C, .slice none 0 0, .bool false, .bool false, .bool false, .int .i64 (ahead.size : Int), .int .i64 0] 25)) := TkAt.new w _ _ _ _ _ _
      have T0 := Lib.hid t0n
      have x20 : ∀ w, (Instr.index 39 (.agg #[.string ⟨#[45, 45, 62]⟩, .string ⟨#[45, 45, 33, 62]⟩]) (.int .i64 0)).run Tryd.prog w = .ok (.string ⟨#[45, 45, 62]⟩) w := fun _ => by kernel_rfl
      have x21 : ∀ w, (Instr.index 39 (.agg #[.string ⟨#[45, 45, 62]⟩, .string ⟨#[45, 45, 33, 62]⟩]) (.int .i64 1)).run Tryd.prog w = .ok (.string ⟨#[45, 45, 33, 62]⟩) w := fun _ => by kernel_rfl
      have x40 : ∀ w, (Instr.index 40 (.agg #[.string ⟨#[]⟩, .string ⟨#[45]⟩, .string ⟨#[45, 45]⟩, .string ⟨#[45, 45, 33]⟩]) (.int .i64 0)).run Tryd.prog w = .ok (.string ⟨#[]⟩) w := fun _ => by kernel_rfl
      have x41 : ∀ w, (Instr.index 40 (.agg #[.string ⟨#[]⟩, .string ⟨#[45]⟩, .string ⟨#[45, 45]⟩, .string ⟨#[45, 45, 33]⟩]) (.int .i64 1)).run Tryd.prog w = .ok (.string ⟨#[45]⟩) w := fun _ => by kernel_rfl
      have x42 : ∀ w, (Instr.index 40 (.agg #[.string ⟨#[]⟩, .string ⟨#[45]⟩, .string ⟨#[45, 45]⟩, .string ⟨#[45, 45, 33]⟩]) (.int .i64 2)).run Tryd.prog w = .ok (.string ⟨#[45, 45]⟩) w := fun _ => by kernel_rfl
      have x43 : ∀ w, (Instr.index 40 (.agg #[.string ⟨#[]⟩, .string ⟨#[45]⟩, .string ⟨#[45, 45]⟩, .string ⟨#[45, 45, 33]⟩]) (.int .i64 3)).run Tryd.prog w = .ok (.string ⟨#[45, 45, 33]⟩) w := fun _ => by kernel_rfl
      clear hC calm t0n h1 h2 h3 h4 h5 h6 gs gahead gbehind g0 y62
      go_enter Tryd.func5, Tryd.ntmps5
      go_wp2_with fail
      refine (H1.out _).mono ?_
      rintro e w1 ⟨rfl, rfl⟩
      go_wp2_with fail
      refine (H2.out _).mono ?_
      rintro e w2 ⟨rfl, rfl⟩
      go_wp2_with fail
      refine (H3.out _).mono ?_
      rintro e w3 ⟨rfl, rfl⟩
      go_wp2_with fail
      refine (H4.out _).mono ?_
      rintro e w4 ⟨rfl, rfl⟩
      go_wp2_with fail
      refine (HCL.out _).mono ?_
      rintro e w5 ⟨rfl, rfl⟩
      go_wp2_with fail
      go_loopw [71] (fun i wr => ∃ (z t : Int), i = .int .i64 z ∧ (z = 0 ∨ z = 1 ∨ z = 2) ∧ Hid (TkAt w.heap.size 4 ⟨#[]⟩ C false (ahead.size : Int) t wr) ∧ Hid (Below w.heap.size w wr)) (fun i _ => 2 - (intOf i).toNat)
      case atStart => exact ⟨0, _, rfl, .inl rfl, T0.out, (Below.refl _ w).alloc (Nat.le_refl _) _⟩
      case round =>
        obtain ⟨z, t, rfl, (rfl | rfl | rfl), HTk, HB⟩ := hrel
        · obtain ⟨S, hS⟩ : ∃ S, (((ahead ++ (⟨#[60, 33, 45, 45]⟩ : ByteArray)) ++ s) ++ (⟨#[45, 45, 62]⟩ : ByteArray)) ++ behind = S := ⟨_, rfl⟩
          have hSl : S.data.toList = ahead.data.toList ++ (60 :: 33 :: 45 :: 45 :: (s.data.toList ++ (45 :: 45 :: 62 :: behind.data.toList))) := by rw [← hS]; simp [app_data, List.append_assoc]
          have hSs : S.size ≤ 5000 := by rw [← hS]; simp only [ByteArray.size_append, show (⟨#[60, 33, 45, 45]⟩ : ByteArray).size = 4 from rfl, show (⟨#[45, 45, 62]⟩ : ByteArray).size = 3 from rfl]; omega
          obtain ⟨E1, hE1⟩ : ∃ E, (ahead.size : Int) + 4 = E := ⟨_, rfl⟩
          obtain ⟨E2, hE2⟩ : ∃ E, E1 + (s.size : Int) = E := ⟨_, rfl⟩
          obtain ⟨E, hE⟩ : ∃ E, ahead.size + 4 + (s.data.toList.length + 3) = E := ⟨_, rfl⟩
          have hsl : s.data.toList.length = s.size := by simp
          have hE3 : E2 + 3 = (E : Int) := by omega
          have HC := Lib.hid (fun W (h : MaxOk m W) => comment_put S ahead s C (45 :: 45 :: 62 :: behind.data.toList) _ E m W hSl (com_end HCA.out _) HCc.out hE hSs h)
          have HSM := Lib.hid (fun W => tk_same 4 (ahead.size : Int) (E : Int) ⟨#[]⟩ C false W)
          unfold tkV at HSM
          have ie := int_self' E
          clear hSl hSs hE hsl
          go_wp2_with fail
          refine (HC.out _ (HM.out.below HB.out)).mono ?_
          rintro e w1 ⟨rfl, b1⟩
          have B1 : Hid (Below w.heap.size w w1) := HB.out.trans (b1.mono HB.out.size)
          have T1 := Lib.hid (HTk.out.up b1)
          clear b1
          go_upto_region 10 with fail
          obtain ⟨W2, hW2⟩ : ∃ W2, W2 = w1.alloc (.cells #[.int .i64 4, .string ⟨#[]⟩, .string C, .slice none 0 0, .bool false, .bool false, .bool false, .int .i64 (ahead.size : Int), .int .i64 (E : Int)] 25) := ⟨_, rfl⟩
          rw [← hW2]
          have tn : TkAt w1.heap.size 4 ⟨#[]⟩ C false (ahead.size : Int) (E : Int) W2 := by rw [hW2]; exact TkAt.new w1 _ _ _ _ _ _
          have tp : TkAt w.heap.size 4 ⟨#[]⟩ C false (ahead.size : Int) t W2 := by rw [hW2]; exact T1.out.up ((Below.refl _ w1).alloc (Nat.le_refl _) _)
          have B2 : Hid (Below w.heap.size w W2) := by show Below _ _ _; rw [hW2]; exact B1.out.alloc B1.out.size _
          have tq : TkAt w.heap.size 4 ⟨#[]⟩ C false (ahead.size : Int) (E : Int) (W2.setCell ⟨w.heap.size, 8, none⟩ (.int .i64 (E : Int))) := hset tp 8 _
          have TQ := Lib.hid tq
          have hne : ¬ w1.heap.size = w.heap.size := by have h1 := (Array.getElem?_eq_some_iff.1 T1.out).1; omega
          obtain ⟨⟨c0, c1, c2, c3, c4, c5, c6, c7, c8⟩, f0, f1, f2, f3, f4, f5, f6, f7, f8⟩ := nine tp
          obtain ⟨⟨d0, d1, d2, d3, d4, d5, d6, d7, d8⟩, _⟩ := nine tn
          clear tn tp tq hW2
          go_wp2_with fail
          refine (HSM.out _).mono ?_
          rintro e w3 ⟨rfl, b3⟩
          have B3 : Hid (Below w.heap.size w w3) := (B2.out.setCell (by exact Nat.le_refl _) _).trans (b3.mono (B2.out.setCell (by exact Nat.le_refl _) _).size)
          have T3 := Lib.hid (TQ.out.up b3)
          clear b3 c0 c1 c2 c3 c4 c5 c6 c7 c8 f0 f1 f2 f3 f4 f5 f6 f7 f8 d0 d1 d2 d3 d4 d5 d6 d7 d8
          go_wp2_with fail
          go_roundw
          case rel => exact ⟨1, _, rfl, by omega, T3.out, B3.out⟩
          case measure => simp [intOf]
        · obtain ⟨S, hS⟩ : ∃ S, (((ahead ++ (⟨#[60, 33, 45, 45]⟩ : ByteArray)) ++ s) ++ (⟨#[45, 45, 33, 62]⟩ : ByteArray)) ++ behind = S := ⟨_, rfl⟩
          have hSl : S.data.toList = ahead.data.toList ++ (60 :: 33 :: 45 :: 45 :: (s.data.toList ++ (45 :: 45 :: 33 :: 62 :: behind.data.toList))) := by rw [← hS]; simp [app_data, List.append_assoc]
          have hSs : S.size ≤ 5000 := by rw [← hS]; simp only [ByteArray.size_append, show (⟨#[60, 33, 45, 45]⟩ : ByteArray).size = 4 from rfl, show (⟨#[45, 45, 33, 62]⟩ : ByteArray).size = 4 from rfl]; omega
          obtain ⟨E1, hE1⟩ : ∃ E, (ahead.size : Int) + 4 = E := ⟨_, rfl⟩
          obtain ⟨E2, hE2⟩ : ∃ E, E1 + (s.size : Int) = E := ⟨_, rfl⟩
          obtain ⟨E, hE⟩ : ∃ E, ahead.size + 4 + (s.data.toList.length + 4) = E := ⟨_, rfl⟩
          have hsl : s.data.toList.length = s.size := by simp
          have hE3 : E2 + 4 = (E : Int) := by omega
          have HC := Lib.hid (fun W (h : MaxOk m W) => comment_put S ahead s C (45 :: 45 :: 33 :: 62 :: behind.data.toList) _ E m W hSl (com_end2 HCA.out _) HCc.out hE hSs h)
          have HSM := Lib.hid (fun W => tk_same 4 (ahead.size : Int) (E : Int) ⟨#[]⟩ C false W)
          unfold tkV at HSM
          have ie := int_self' E
          clear hSl hSs hE hsl
          go_wp2_with fail
          refine (HC.out _ (HM.out.below HB.out)).mono ?_
          rintro e w1 ⟨rfl, b1⟩
          have B1 : Hid (Below w.heap.size w w1) := HB.out.trans (b1.mono HB.out.size)
          have T1 := Lib.hid (HTk.out.up b1)
          clear b1
          go_upto_region 10 with fail
          obtain ⟨W2, hW2⟩ : ∃ W2, W2 = w1.alloc (.cells #[.int .i64 4, .string ⟨#[]⟩, .string C, .slice none 0 0, .bool false, .bool false, .bool false, .int .i64 (ahead.size : Int), .int .i64 (E : Int)] 25) := ⟨_, rfl⟩
          rw [← hW2]
          have tn : TkAt w1.heap.size 4 ⟨#[]⟩ C false (ahead.size : Int) (E : Int) W2 := by rw [hW2]; exact TkAt.new w1 _ _ _ _ _ _
          have tp : TkAt w.heap.size 4 ⟨#[]⟩ C false (ahead.size : Int) t W2 := by rw [hW2]; exact T1.out.up ((Below.refl _ w1).alloc (Nat.le_refl _) _)
          have B2 : Hid (Below w.heap.size w W2) := by show Below _ _ _; rw [hW2]; exact B1.out.alloc B1.out.size _
          have tq : TkAt w.heap.size 4 ⟨#[]⟩ C false (ahead.size : Int) (E : Int) (W2.setCell ⟨w.heap.size, 8, none⟩ (.int .i64 (E : Int))) := hset tp 8 _
          have TQ := Lib.hid tq
          have hne : ¬ w1.heap.size = w.heap.size := by have h1 := (Array.getElem?_eq_some_iff.1 T1.out).1; omega
          obtain ⟨⟨c0, c1, c2, c3, c4, c5, c6, c7, c8⟩, f0, f1, f2, f3, f4, f5, f6, f7, f8⟩ := nine tp
          obtain ⟨⟨d0, d1, d2, d3, d4, d5, d6, d7, d8⟩, _⟩ := nine tn
          clear tn tp tq hW2
          go_wp2_with fail
          refine (HSM.out _).mono ?_
          rintro e w3 ⟨rfl, b3⟩
          have B3 : Hid (Below w.heap.size w w3) := (B2.out.setCell (by exact Nat.le_refl _) _).trans (b3.mono (B2.out.setCell (by exact Nat.le_refl _) _).size)
          have T3 := Lib.hid (TQ.out.up b3)
          clear b3 c0 c1 c2 c3 c4 c5 c6 c7 c8 f0 f1 f2 f3 f4 f5 f6 f7 f8 d0 d1 d2 d3 d4 d5 d6 d7 d8
          go_wp2_with fail
          go_roundw
          case rel => exact ⟨2, _, rfl, by omega, T3.out, B3.out⟩
          case measure => simp [intOf]
        · go_wp2_with fail
          go_loopw [110] (fun i wr => ∃ (z t : Int), i = .int .i64 z ∧ (z = 0 ∨ z = 1 ∨ z = 2 ∨ z = 3 ∨ z = 4) ∧ Hid (TkAt w.heap.size 4 ⟨#[]⟩ C false (ahead.size : Int) t wr) ∧ Hid (Below w.heap.size w wr)) (fun i _ => 4 - (intOf i).toNat)
          case atStart => exact ⟨0, _, rfl, .inl rfl, HTk.out, HB.out⟩
          case round =>
            obtain ⟨z, t, rfl, (rfl | rfl | rfl | rfl | rfl), HTk, HB⟩ := hrel
            · obtain ⟨S, hS⟩ : ∃ S, ((ahead ++ (⟨#[60, 33, 45, 45]⟩ : ByteArray)) ++ s) ++ (⟨#[]⟩ : ByteArray) = S := ⟨_, rfl⟩
              have hSl : S.data.toList = ahead.data.toList ++ (60 :: 33 :: 45 :: 45 :: (s.data.toList ++ [])) := by rw [← hS]; simp [app_data, List.append_assoc]
              have hSs : S.size ≤ 5000 := by rw [← hS]; simp only [ByteArray.size_append, show (⟨#[60, 33, 45, 45]⟩ : ByteArray).size = 4 from rfl, show (⟨#[]⟩ : ByteArray).size = 0 from rfl]; omega
              obtain ⟨E1, hE1⟩ : ∃ E, (ahead.size : Int) + 4 = E := ⟨_, rfl⟩
              obtain ⟨E2, hE2⟩ : ∃ E, E1 + (s.size : Int) = E := ⟨_, rfl⟩
              obtain ⟨E, hE⟩ : ∃ E, ahead.size + 4 + (s.data.toList.length + 0) = E := ⟨_, rfl⟩
              have hsl : s.data.toList.length = s.size := by simp
              have hE3 : E2 + 0 = (E : Int) := by omega
              have hE4 : E2 = (E : Int) := by omega
              have HC := Lib.hid (fun W (h : MaxOk m W) => comment_put S ahead s C [] _ E m W hSl (by have := com_open HCA.out [] (.inl rfl); simpa using this) HCc.out hE hSs h)
              have HSM := Lib.hid (fun W => tk_same 4 (ahead.size : Int) (E : Int) ⟨#[]⟩ C false W)
              unfold tkV at HSM
              have ie := int_self' E
              clear hSl hSs hE hsl
              go_wp2_with fail
              refine (HC.out _ (HM.out.below HB.out)).mono ?_
              rintro e w1 ⟨rfl, b1⟩
              have B1 : Hid (Below w.heap.size w w1) := HB.out.trans (b1.mono HB.out.size)
              have T1 := Lib.hid (HTk.out.up b1)
              clear b1
              go_upto_region 18 with fail
              obtain ⟨W2, hW2⟩ : ∃ W2, W2 = w1.alloc (.cells #[.int .i64 4, .string ⟨#[]⟩, .string C, .slice none 0 0, .bool false, .bool false, .bool false, .int .i64 (ahead.size : Int), .int .i64 (E : Int)] 25) := ⟨_, rfl⟩
              rw [← hW2]
              have tn : TkAt w1.heap.size 4 ⟨#[]⟩ C false (ahead.size : Int) (E : Int) W2 := by rw [hW2]; exact TkAt.new w1 _ _ _ _ _ _
              have tp : TkAt w.heap.size 4 ⟨#[]⟩ C false (ahead.size : Int) t W2 := by rw [hW2]; exact T1.out.up ((Below.refl _ w1).alloc (Nat.le_refl _) _)
              have B2 : Hid (Below w.heap.size w W2) := by show Below _ _ _; rw [hW2]; exact B1.out.alloc B1.out.size _
              have tq : TkAt w.heap.size 4 ⟨#[]⟩ C false (ahead.size : Int) (E : Int) (W2.setCell ⟨w.heap.size, 8, none⟩ (.int .i64 (E : Int))) := hset tp 8 _
              have TQ := Lib.hid tq
              have hne : ¬ w1.heap.size = w.heap.size := by have h1 := (Array.getElem?_eq_some_iff.1 T1.out).1; omega
              obtain ⟨⟨c0, c1, c2, c3, c4, c5, c6, c7, c8⟩, f0, f1, f2, f3, f4, f5, f6, f7, f8⟩ := nine tp
              obtain ⟨⟨d0, d1, d2, d3, d4, d5, d6, d7, d8⟩, _⟩ := nine tn
              clear tn tp tq hW2
              go_wp2_with fail
              refine (HSM.out _).mono ?_
              rintro e w3 ⟨rfl, b3⟩
              have B3 : Hid (Below w.heap.size w w3) := (B2.out.setCell (by exact Nat.le_refl _) _).trans (b3.mono (B2.out.setCell (by exact Nat.le_refl _) _).size)
              have T3 := Lib.hid (TQ.out.up b3)
              clear b3 c0 c1 c2 c3 c4 c5 c6 c7 c8 f0 f1 f2 f3 f4 f5 f6 f7 f8 d0 d1 d2 d3 d4 d5 d6 d7 d8
              go_wp2_with fail
              go_roundw
              case rel => exact ⟨1, _, rfl, by omega, T3.out, B3.out⟩
              case measure => simp [intOf]
            · obtain ⟨S, hS⟩ : ∃ S, ((ahead ++ (⟨#[60, 33, 45, 45]⟩ : ByteArray)) ++ s) ++ (⟨#[45]⟩ : ByteArray) = S := ⟨_, rfl⟩
              have hSl : S.data.toList = ahead.data.toList ++ (60 :: 33 :: 45 :: 45 :: (s.data.toList ++ (45 :: []))) := by rw [← hS]; simp [app_data, List.append_assoc]
              have hSs : S.size ≤ 5000 := by rw [← hS]; simp only [ByteArray.size_append, show (⟨#[60, 33, 45, 45]⟩ : ByteArray).size = 4 from rfl, show (⟨#[45]⟩ : ByteArray).size = 1 from rfl]; omega
              obtain ⟨E1, hE1⟩ : ∃ E, (ahead.size : Int) + 4 = E := ⟨_, rfl⟩
              obtain ⟨E2, hE2⟩ : ∃ E, E1 + (s.size : Int) = E := ⟨_, rfl⟩
              obtain ⟨E, hE⟩ : ∃ E, ahead.size + 4 + (s.data.toList.length + 1) = E := ⟨_, rfl⟩
              have hsl : s.data.toList.length = s.size := by simp
              have hE3 : E2 + 1 = (E : Int) := by omega
              have HC := Lib.hid (fun W (h : MaxOk m W) => comment_put S ahead s C (45 :: []) _ E m W hSl (by have := com_open HCA.out [45] (.inr (.inl rfl)); simpa using this) HCc.out hE hSs h)
              have HSM := Lib.hid (fun W => tk_same 4 (ahead.size : Int) (E : Int) ⟨#[]⟩ C false W)
              unfold tkV at HSM
              have ie := int_self' E
              clear hSl hSs hE hsl
              go_wp2_with fail
              refine (HC.out _ (HM.out.below HB.out)).mono ?_
              rintro e w1 ⟨rfl, b1⟩
              have B1 : Hid (Below w.heap.size w w1) := HB.out.trans (b1.mono HB.out.size)
              have T1 := Lib.hid (HTk.out.up b1)
              clear b1
              go_upto_region 18 with fail
              obtain ⟨W2, hW2⟩ : ∃ W2, W2 = w1.alloc (.cells #[.int .i64 4, .string ⟨#[]⟩, .string C, .slice none 0 0, .bool false, .bool false, .bool false, .int .i64 (ahead.size : Int), .int .i64 (E : Int)] 25) := ⟨_, rfl⟩
              rw [← hW2]
              have tn : TkAt w1.heap.size 4 ⟨#[]⟩ C false (ahead.size : Int) (E : Int) W2 := by rw [hW2]; exact TkAt.new w1 _ _ _ _ _ _
              have tp : TkAt w.heap.size 4 ⟨#[]⟩ C false (ahead.size : Int) t W2 := by rw [hW2]; exact T1.out.up ((Below.refl _ w1).alloc (Nat.le_refl _) _)
              have B2 : Hid (Below w.heap.size w W2) := by show Below _ _ _; rw [hW2]; exact B1.out.alloc B1.out.size _
              have tq : TkAt w.heap.size 4 ⟨#[]⟩ C false (ahead.size : Int) (E : Int) (W2.setCell ⟨w.heap.size, 8, none⟩ (.int .i64 (E : Int))) := hset tp 8 _
              have TQ := Lib.hid tq
              have hne : ¬ w1.heap.size = w.heap.size := by have h1 := (Array.getElem?_eq_some_iff.1 T1.out).1; omega
              obtain ⟨⟨c0, c1, c2, c3, c4, c5, c6, c7, c8⟩, f0, f1, f2, f3, f4, f5, f6, f7, f8⟩ := nine tp
              obtain ⟨⟨d0, d1, d2, d3, d4, d5, d6, d7, d8⟩, _⟩ := nine tn
              clear tn tp tq hW2
              go_wp2_with fail
              refine (HSM.out _).mono ?_
              rintro e w3 ⟨rfl, b3⟩
              have B3 : Hid (Below w.heap.size w w3) := (B2.out.setCell (by exact Nat.le_refl _) _).trans (b3.mono (B2.out.setCell (by exact Nat.le_refl _) _).size)
              have T3 := Lib.hid (TQ.out.up b3)
              clear b3 c0 c1 c2 c3 c4 c5 c6 c7 c8 f0 f1 f2 f3 f4 f5 f6 f7 f8 d0 d1 d2 d3 d4 d5 d6 d7 d8
              go_wp2_with fail
              go_roundw
              case rel => exact ⟨2, _, rfl, by omega, T3.out, B3.out⟩
              case measure => simp [intOf]
            · obtain ⟨S, hS⟩ : ∃ S, ((ahead ++ (⟨#[60, 33, 45, 45]⟩ : ByteArray)) ++ s) ++ (⟨#[45, 45]⟩ : ByteArray) = S := ⟨_, rfl⟩
              have hSl : S.data.toList = ahead.data.toList ++ (60 :: 33 :: 45 :: 45 :: (s.data.toList ++ (45 :: 45 :: []))) := by rw [← hS]; simp [app_data, List.append_assoc]
              have hSs : S.size ≤ 5000 := by rw [← hS]; simp only [ByteArray.size_append, show (⟨#[60, 33, 45, 45]⟩ : ByteArray).size = 4 from rfl, show (⟨#[45, 45]⟩ : ByteArray).size = 2 from rfl]; omega
              obtain ⟨E1, hE1⟩ : ∃ E, (ahead.size : Int) + 4 = E := ⟨_, rfl⟩
              obtain ⟨E2, hE2⟩ : ∃ E, E1 + (s.size : Int) = E := ⟨_, rfl⟩
              obtain ⟨E, hE⟩ : ∃ E, ahead.size + 4 + (s.data.toList.length + 2) = E := ⟨_, rfl⟩
              have hsl : s.data.toList.length = s.size := by simp
              have hE3 : E2 + 2 = (E : Int) := by omega
              have HC := Lib.hid (fun W (h : MaxOk m W) => comment_put S ahead s C (45 :: 45 :: []) _ E m W hSl (by have := com_open HCA.out [45, 45] (.inr (.inr (.inl rfl))); simpa using this) HCc.out hE hSs h)
              have HSM := Lib.hid (fun W => tk_same 4 (ahead.size : Int) (E : Int) ⟨#[]⟩ C false W)
              unfold tkV at HSM
              have ie := int_self' E
              clear hSl hSs hE hsl
              go_wp2_with fail
              refine (HC.out _ (HM.out.below HB.out)).mono ?_
              rintro e w1 ⟨rfl, b1⟩
              have B1 : Hid (Below w.heap.size w w1) := HB.out.trans (b1.mono HB.out.size)
              have T1 := Lib.hid (HTk.out.up b1)
              clear b1
              go_upto_region 18 with fail
              obtain ⟨W2, hW2⟩ : ∃ W2, W2 = w1.alloc (.cells #[.int .i64 4, .string ⟨#[]⟩, .string C, .slice none 0 0, .bool false, .bool false, .bool false, .int .i64 (ahead.size : Int), .int .i64 (E : Int)] 25) := ⟨_, rfl⟩
              rw [← hW2]
              have tn : TkAt w1.heap.size 4 ⟨#[]⟩ C false (ahead.size : Int) (E : Int) W2 := by rw [hW2]; exact TkAt.new w1 _ _ _ _ _ _
              have tp : TkAt w.heap.size 4 ⟨#[]⟩ C false (ahead.size : Int) t W2 := by rw [hW2]; exact T1.out.up ((Below.refl _ w1).alloc (Nat.le_refl _) _)
              have B2 : Hid (Below w.heap.size w W2) := by show Below _ _ _; rw [hW2]; exact B1.out.alloc B1.out.size _
              have tq : TkAt w.heap.size 4 ⟨#[]⟩ C false (ahead.size : Int) (E : Int) (W2.setCell ⟨w.heap.size, 8, none⟩ (.int .i64 (E : Int))) := hset tp 8 _
              have TQ := Lib.hid tq
              have hne : ¬ w1.heap.size = w.heap.size := by have h1 := (Array.getElem?_eq_some_iff.1 T1.out).1; omega
              obtain ⟨⟨c0, c1, c2, c3, c4, c5, c6, c7, c8⟩, f0, f1, f2, f3, f4, f5, f6, f7, f8⟩ := nine tp
              obtain ⟨⟨d0, d1, d2, d3, d4, d5, d6, d7, d8⟩, _⟩ := nine tn
              clear tn tp tq hW2
              go_wp2_with fail
              refine (HSM.out _).mono ?_
              rintro e w3 ⟨rfl, b3⟩
              have B3 : Hid (Below w.heap.size w w3) := (B2.out.setCell (by exact Nat.le_refl _) _).trans (b3.mono (B2.out.setCell (by exact Nat.le_refl _) _).size)
              have T3 := Lib.hid (TQ.out.up b3)
              clear b3 c0 c1 c2 c3 c4 c5 c6 c7 c8 f0 f1 f2 f3 f4 f5 f6 f7 f8 d0 d1 d2 d3 d4 d5 d6 d7 d8
              go_wp2_with fail
              go_roundw
              case rel => exact ⟨3, _, rfl, by omega, T3.out, B3.out⟩
              case measure => simp [intOf]
            · obtain ⟨S, hS⟩ : ∃ S, ((ahead ++ (⟨#[60, 33, 45, 45]⟩ : ByteArray)) ++ s) ++ (⟨#[45, 45, 33]⟩ : ByteArray) = S := ⟨_, rfl⟩
              have hSl : S.data.toList = ahead.data.toList ++ (60 :: 33 :: 45 :: 45 :: (s.data.toList ++ (45 :: 45 :: 33 :: []))) := by rw [← hS]; simp [app_data, List.append_assoc]
              have hSs : S.size ≤ 5000 := by rw [← hS]; simp only [ByteArray.size_append, show (⟨#[60, 33, 45, 45]⟩ : ByteArray).size = 4 from rfl, show (⟨#[45, 45, 33]⟩ : ByteArray).size = 3 from rfl]; omega
              obtain ⟨E1, hE1⟩ : ∃ E, (ahead.size : Int) + 4 = E := ⟨_, rfl⟩
              obtain ⟨E2, hE2⟩ : ∃ E, E1 + (s.size : Int) = E := ⟨_, rfl⟩
              obtain ⟨E, hE⟩ : ∃ E, ahead.size + 4 + (s.data.toList.length + 3) = E := ⟨_, rfl⟩
              have hsl : s.data.toList.length = s.size := by simp
              have hE3 : E2 + 3 = (E : Int) := by omega
              have HC := Lib.hid (fun W (h : MaxOk m W) => comment_put S ahead s C (45 :: 45 :: 33 :: []) _ E m W hSl (by have := com_open HCA.out [45, 45, 33] (.inr (.inr (.inr rfl))); simpa using this) HCc.out hE hSs h)
              have HSM := Lib.hid (fun W => tk_same 4 (ahead.size : Int) (E : Int) ⟨#[]⟩ C false W)
              unfold tkV at HSM
              have ie := int_self' E
              clear hSl hSs hE hsl
              go_wp2_with fail
              refine (HC.out _ (HM.out.below HB.out)).mono ?_
              rintro e w1 ⟨rfl, b1⟩
              have B1 : Hid (Below w.heap.size w w1) := HB.out.trans (b1.mono HB.out.size)
              have T1 := Lib.hid (HTk.out.up b1)
              clear b1
              go_upto_region 18 with fail
              obtain ⟨W2, hW2⟩ : ∃ W2, W2 = w1.alloc (.cells #[.int .i64 4, .string ⟨#[]⟩, .string C, .slice none 0 0, .bool false, .bool false, .bool false, .int .i64 (ahead.size : Int), .int .i64 (E : Int)] 25) := ⟨_, rfl⟩
              rw [← hW2]
              have tn : TkAt w1.heap.size 4 ⟨#[]⟩ C false (ahead.size : Int) (E : Int) W2 := by rw [hW2]; exact TkAt.new w1 _ _ _ _ _ _
              have tp : TkAt w.heap.size 4 ⟨#[]⟩ C false (ahead.size : Int) t W2 := by rw [hW2]; exact T1.out.up ((Below.refl _ w1).alloc (Nat.le_refl _) _)
              have B2 : Hid (Below w.heap.size w W2) := by show Below _ _ _; rw [hW2]; exact B1.out.alloc B1.out.size _
              have tq : TkAt w.heap.size 4 ⟨#[]⟩ C false (ahead.size : Int) (E : Int) (W2.setCell ⟨w.heap.size, 8, none⟩ (.int .i64 (E : Int))) := hset tp 8 _
              have TQ := Lib.hid tq
              have hne : ¬ w1.heap.size = w.heap.size := by have h1 := (Array.getElem?_eq_some_iff.1 T1.out).1; omega
              obtain ⟨⟨c0, c1, c2, c3, c4, c5, c6, c7, c8⟩, f0, f1, f2, f3, f4, f5, f6, f7, f8⟩ := nine tp
              obtain ⟨⟨d0, d1, d2, d3, d4, d5, d6, d7, d8⟩, _⟩ := nine tn
              clear tn tp tq hW2
              go_wp2_with fail
              refine (HSM.out _).mono ?_
              rintro e w3 ⟨rfl, b3⟩
              have B3 : Hid (Below w.heap.size w w3) := (B2.out.setCell (by exact Nat.le_refl _) _).trans (b3.mono (B2.out.setCell (by exact Nat.le_refl _) _).size)
              have T3 := Lib.hid (TQ.out.up b3)
              clear b3 c0 c1 c2 c3 c4 c5 c6 c7 c8 f0 f1 f2 f3 f4 f5 f6 f7 f8 d0 d1 d2 d3 d4 d5 d6 d7 d8
              go_wp2_with fail
              go_roundw
              case rel => exact ⟨4, _, rfl, by omega, T3.out, B3.out⟩
              case measure => simp [intOf]
            · go_wp2_with fail
              refine (raw_any m _ (HT.out.below HB.out) (HM.out.below HB.out)).mono ?_
              rintro e w1 ⟨rfl, b1⟩
              go_wp2_with fail
              go_ret
              exact ⟨by exact rfl, HB.out.trans (b1.mono HB.out.size)⟩
    · have k1 : ¬ (1 : Int) < s.size := by omega
      have h4 : [45, 62].isPrefixOf s.data.toList = false := by rw [prefix_take, decide_eq_false (by simp; omega), Bool.false_and]
      cases h5 : [45].isSuffixOf s.data.toList with
      | true =>
        rw [h5] at H3
        clear h1 h2 h3 h4 h5 gs gahead gbehind g0 y62
        go_enter Tryd.func5, Tryd.ntmps5
        go_wp2_with fail
        refine (H1.out _).mono ?_
        rintro e w1 ⟨rfl, rfl⟩
        go_wp2_with fail
        refine (H2.out _).mono ?_
        rintro e w2 ⟨rfl, rfl⟩
        go_wp2_with fail
        refine (H3.out _).mono ?_
        rintro e w3 ⟨rfl, rfl⟩
        go_wp2_with fail
        refine (raw_any m _ (HT.out.below (Below.refl _ _)) (HM.out.below (Below.refl _ _))).mono ?_
        rintro e w4 ⟨rfl, b4⟩
        have B4 : Hid (Below w.heap.size w w4) := b4
        clear b4
        go_wp2_with fail
        go_ret
        exact ⟨by exact rfl, B4.out⟩
      | false =>
      rw [h5] at H3
      cases h6 : [45, 45, 33].isSuffixOf s.data.toList with
      | true =>
        rw [h6] at H4
        clear h1 h2 h3 h4 h5 h6 gs gahead gbehind g0 y62
        go_enter Tryd.func5, Tryd.ntmps5
        go_wp2_with fail
        refine (H1.out _).mono ?_
        rintro e w1 ⟨rfl, rfl⟩
        go_wp2_with fail
        refine (H2.out _).mono ?_
        rintro e w2 ⟨rfl, rfl⟩
        go_wp2_with fail
        refine (H3.out _).mono ?_
        rintro e w3 ⟨rfl, rfl⟩
        go_wp2_with fail
        refine (H4.out _).mono ?_
        rintro e w4 ⟨rfl, rfl⟩
        go_wp2_with fail
        refine (raw_any m _ (HT.out.below (Below.refl _ _)) (HM.out.below (Below.refl _ _))).mono ?_
        rintro e w5 ⟨rfl, b5⟩
        have B5 : Hid (Below w.heap.size w w5) := b5
        clear b5
        go_wp2_with fail
        go_ret
        exact ⟨by exact rfl, B5.out⟩
      | false =>
      rw [h6] at H4
      have calm := calm_of h1 h2 h3 h4 h5 h6
      obtain ⟨C, hC⟩ : ∃ C, bytesOf (cleanR s.data.toList) = C := ⟨_, rfl⟩
      have HCL := Lib.hid (fun W => rclean_any s W (by omega))
      rw [hC] at HCL
      have HCc := Lib.hid hC
      have HCA := Lib.hid calm
      have t0n : TkAt w.heap.size 4 ⟨#[]⟩ C false (ahead.size : Int) 0 (w.alloc (.cells #[.int .i64 4, .string ⟨#[]⟩, .string C, .slice none 0 0, .bool false, .bool false, .bool false, .int .i64 (ahead.size : Int), .int .i64 0] 25)) := TkAt.new w _ _ _ _ _ _
      have T0 := Lib.hid t0n
      have x20 : ∀ w, (Instr.index 39 (.agg #[.string ⟨#[45, 45, 62]⟩, .string ⟨#[45, 45, 33, 62]⟩]) (.int .i64 0)).run Tryd.prog w = .ok (.string ⟨#[45, 45, 62]⟩) w := fun _ => by kernel_rfl
      have x21 : ∀ w, (Instr.index 39 (.agg #[.string ⟨#[45, 45, 62]⟩, .string ⟨#[45, 45, 33, 62]⟩]) (.int .i64 1)).run Tryd.prog w = .ok (.string ⟨#[45, 45, 33, 62]⟩) w := fun _ => by kernel_rfl
      have x40 : ∀ w, (Instr.index 40 (.agg #[.string ⟨#[]⟩, .string ⟨#[45]⟩, .string ⟨#[45, 45]⟩, .string ⟨#[45, 45, 33]⟩]) (.int .i64 0)).run Tryd.prog w = .ok (.string ⟨#[]⟩) w := fun _ => by kernel_rfl
      have x41 : ∀ w, (Instr.index 40 (.agg #[.string ⟨#[]⟩, .string ⟨#[45]⟩, .string ⟨#[45, 45]⟩, .string ⟨#[45, 45, 33]⟩]) (.int .i64 1)).run Tryd.prog w = .ok (.string ⟨#[45]⟩) w := fun _ => by kernel_rfl
      have x42 : ∀ w, (Instr.index 40 (.agg #[.string ⟨#[]⟩, .string ⟨#[45]⟩, .string ⟨#[45, 45]⟩, .string ⟨#[45, 45, 33]⟩]) (.int .i64 2)).run Tryd.prog w = .ok (.string ⟨#[45, 45]⟩) w := fun _ => by kernel_rfl
      have x43 : ∀ w, (Instr.index 40 (.agg #[.string ⟨#[]⟩, .string ⟨#[45]⟩, .string ⟨#[45, 45]⟩, .string ⟨#[45, 45, 33]⟩]) (.int .i64 3)).run Tryd.prog w = .ok (.string ⟨#[45, 45, 33]⟩) w := fun _ => by kernel_rfl
      clear hC calm t0n h1 h2 h3 h4 h5 h6 gs gahead gbehind g0 y62
      go_enter Tryd.func5, Tryd.ntmps5
      go_wp2_with fail
      refine (H1.out _).mono ?_
      rintro e w1 ⟨rfl, rfl⟩
      go_wp2_with fail
      refine (H2.out _).mono ?_
      rintro e w2 ⟨rfl, rfl⟩
      go_wp2_with fail
      refine (H3.out _).mono ?_
      rintro e w3 ⟨rfl, rfl⟩
      go_wp2_with fail
      refine (H4.out _).mono ?_
      rintro e w4 ⟨rfl, rfl⟩
      go_wp2_with fail
      refine (HCL.out _).mono ?_
      rintro e w5 ⟨rfl, rfl⟩
      go_wp2_with fail
      go_loopw [71] (fun i wr => ∃ (z t : Int), i = .int .i64 z ∧ (z = 0 ∨ z = 1 ∨ z = 2) ∧ Hid (TkAt w.heap.size 4 ⟨#[]⟩ C false (ahead.size : Int) t wr) ∧ Hid (Below w.heap.size w wr)) (fun i _ => 2 - (intOf i).toNat)
      case atStart => exact ⟨0, _, rfl, .inl rfl, T0.out, (Below.refl _ w).alloc (Nat.le_refl _) _⟩
      case round =>
        obtain ⟨z, t, rfl, (rfl | rfl | rfl), HTk, HB⟩ := hrel
        · obtain ⟨S, hS⟩ : ∃ S, (((ahead ++ (⟨#[60, 33, 45, 45]⟩ : ByteArray)) ++ s) ++ (⟨#[45, 45, 62]⟩ : ByteArray)) ++ behind = S := ⟨_, rfl⟩
          have hSl : S.data.toList = ahead.data.toList ++ (60 :: 33 :: 45 :: 45 :: (s.data.toList ++ (45 :: 45 :: 62 :: behind.data.toList))) := by rw [← hS]; simp [app_data, List.append_assoc]
          have hSs : S.size ≤ 5000 := by rw [← hS]; simp only [ByteArray.size_append, show (⟨#[60, 33, 45, 45]⟩ : ByteArray).size = 4 from rfl, show (⟨#[45, 45, 62]⟩ : ByteArray).size = 3 from rfl]; omega
          obtain ⟨E1, hE1⟩ : ∃ E, (ahead.size : Int) + 4 = E := ⟨_, rfl⟩
          obtain ⟨E2, hE2⟩ : ∃ E, E1 + (s.size : Int) = E := ⟨_, rfl⟩
          obtain ⟨E, hE⟩ : ∃ E, ahead.size + 4 + (s.data.toList.length + 3) = E := ⟨_, rfl⟩
          have hsl : s.data.toList.length = s.size := by simp
          have hE3 : E2 + 3 = (E : Int) := by omega
          have HC := Lib.hid (fun W (h : MaxOk m W) => comment_put S ahead s C (45 :: 45 :: 62 :: behind.data.toList) _ E m W hSl (com_end HCA.out _) HCc.out hE hSs h)
          have HSM := Lib.hid (fun W => tk_same 4 (ahead.size : Int) (E : Int) ⟨#[]⟩ C false W)
          unfold tkV at HSM
          have ie := int_self' E
          clear hSl hSs hE hsl
          go_wp2_with fail
          refine (HC.out _ (HM.out.below HB.out)).mono ?_
          rintro e w1 ⟨rfl, b1⟩
          have B1 : Hid (Below w.heap.size w w1) := HB.out.trans (b1.mono HB.out.size)
          have T1 := Lib.hid (HTk.out.up b1)
          clear b1
          go_upto_region 10 with fail
          obtain ⟨W2, hW2⟩ : ∃ W2, W2 = w1.alloc (.cells #[.int .i64 4, .string ⟨#[]⟩, .string C, .slice none 0 0, .bool false, .bool false, .bool false, .int .i64 (ahead.size : Int), .int .i64 (E : Int)] 25) := ⟨_, rfl⟩
          rw [← hW2]
          have tn : TkAt w1.heap.size 4 ⟨#[]⟩ C false (ahead.size : Int) (E : Int) W2 := by rw [hW2]; exact TkAt.new w1 _ _ _ _ _ _
          have tp : TkAt w.heap.size 4 ⟨#[]⟩ C false (ahead.size : Int) t W2 := by rw [hW2]; exact T1.out.up ((Below.refl _ w1).alloc (Nat.le_refl _) _)
          have B2 : Hid (Below w.heap.size w W2) := by show Below _ _ _; rw [hW2]; exact B1.out.alloc B1.out.size _
          have tq : TkAt w.heap.size 4 ⟨#[]⟩ C false (ahead.size : Int) (E : Int) (W2.setCell ⟨w.heap.size, 8, none⟩ (.int .i64 (E : Int))) := hset tp 8 _
          have TQ := Lib.hid tq
          have hne : ¬ w1.heap.size = w.heap.size := by have h1 := (Array.getElem?_eq_some_iff.1 T1.out).1; omega
          obtain ⟨⟨c0, c1, c2, c3, c4, c5, c6, c7, c8⟩, f0, f1, f2, f3, f4, f5, f6, f7, f8⟩ := nine tp
          obtain ⟨⟨d0, d1, d2, d3, d4, d5, d6, d7, d8⟩, _⟩ := nine tn
          clear tn tp tq hW2
          go_wp2_with fail
          refine (HSM.out _).mono ?_
          rintro e w3 ⟨rfl, b3⟩
          have B3 : Hid (Below w.heap.size w w3) := (B2.out.setCell (by exact Nat.le_refl _) _).trans (b3.mono (B2.out.setCell (by exact Nat.le_refl _) _).size)
          have T3 := Lib.hid (TQ.out.up b3)
          clear b3 c0 c1 c2 c3 c4 c5 c6 c7 c8 f0 f1 f2 f3 f4 f5 f6 f7 f8 d0 d1 d2 d3 d4 d5 d6 d7 d8
          go_wp2_with fail
          go_roundw
          case rel => exact ⟨1, _, rfl, by omega, T3.out, B3.out⟩
          case measure => simp [intOf]
        · obtain ⟨S, hS⟩ : ∃ S, (((ahead ++ (⟨#[60, 33, 45, 45]⟩ : ByteArray)) ++ s) ++ (⟨#[45, 45, 33, 62]⟩ : ByteArray)) ++ behind = S := ⟨_, rfl⟩
          have hSl : S.data.toList = ahead.data.toList ++ (60 :: 33 :: 45 :: 45 :: (s.data.toList ++ (45 :: 45 :: 33 :: 62 :: behind.data.toList))) := by rw [← hS]; simp [app_data, List.append_assoc]
          have hSs : S.size ≤ 5000 := by rw [← hS]; simp only [ByteArray.size_append, show (⟨#[60, 33, 45, 45]⟩ : ByteArray).size = 4 from rfl, show (⟨#[45, 45, 33, 62]⟩ : ByteArray).size = 4 from rfl]; omega
          obtain ⟨E1, hE1⟩ : ∃ E, (ahead.size : Int) + 4 = E := ⟨_, rfl⟩
          obtain ⟨E2, hE2⟩ : ∃ E, E1 + (s.size : Int) = E := ⟨_, rfl⟩
          obtain ⟨E, hE⟩ : ∃ E, ahead.size + 4 + (s.data.toList.length + 4) = E := ⟨_, rfl⟩
          have hsl : s.data.toList.length = s.size := by simp
          have hE3 : E2 + 4 = (E : Int) := by omega
          have HC := Lib.hid (fun W (h : MaxOk m W) => comment_put S ahead s C (45 :: 45 :: 33 :: 62 :: behind.data.toList) _ E m W hSl (com_end2 HCA.out _) HCc.out hE hSs h)
          have HSM := Lib.hid (fun W => tk_same 4 (ahead.size : Int) (E : Int) ⟨#[]⟩ C false W)
          unfold tkV at HSM
          have ie := int_self' E
          clear hSl hSs hE hsl
          go_wp2_with fail
          refine (HC.out _ (HM.out.below HB.out)).mono ?_
          rintro e w1 ⟨rfl, b1⟩
          have B1 : Hid (Below w.heap.size w w1) := HB.out.trans (b1.mono HB.out.size)
          have T1 := Lib.hid (HTk.out.up b1)
          clear b1
          go_upto_region 10 with fail
          obtain ⟨W2, hW2⟩ : ∃ W2, W2 = w1.alloc (.cells #[.int .i64 4, .string ⟨#[]⟩, .string C, .slice none 0 0, .bool false, .bool false, .bool false, .int .i64 (ahead.size : Int), .int .i64 (E : Int)] 25) := ⟨_, rfl⟩
          rw [← hW2]
          have tn : TkAt w1.heap.size 4 ⟨#[]⟩ C false (ahead.size : Int) (E : Int) W2 := by rw [hW2]; exact TkAt.new w1 _ _ _ _ _ _
          have tp : TkAt w.heap.size 4 ⟨#[]⟩ C false (ahead.size : Int) t W2 := by rw [hW2]; exact T1.out.up ((Below.refl _ w1).alloc (Nat.le_refl _) _)
          have B2 : Hid (Below w.heap.size w W2) := by show Below _ _ _; rw [hW2]; exact B1.out.alloc B1.out.size _
          have tq : TkAt w.heap.size 4 ⟨#[]⟩ C false (ahead.size : Int) (E : Int) (W2.setCell ⟨w.heap.size, 8, none⟩ (.int .i64 (E : Int))) := hset tp 8 _
          have TQ := Lib.hid tq
          have hne : ¬ w1.heap.size = w.heap.size := by have h1 := (Array.getElem?_eq_some_iff.1 T1.out).1; omega
          obtain ⟨⟨c0, c1, c2, c3, c4, c5, c6, c7, c8⟩, f0, f1, f2, f3, f4, f5, f6, f7, f8⟩ := nine tp
          obtain ⟨⟨d0, d1, d2, d3, d4, d5, d6, d7, d8⟩, _⟩ := nine tn
          clear tn tp tq hW2
          go_wp2_with fail
          refine (HSM.out _).mono ?_
          rintro e w3 ⟨rfl, b3⟩
          have B3 : Hid (Below w.heap.size w w3) := (B2.out.setCell (by exact Nat.le_refl _) _).trans (b3.mono (B2.out.setCell (by exact Nat.le_refl _) _).size)
          have T3 := Lib.hid (TQ.out.up b3)
          clear b3 c0 c1 c2 c3 c4 c5 c6 c7 c8 f0 f1 f2 f3 f4 f5 f6 f7 f8 d0 d1 d2 d3 d4 d5 d6 d7 d8
          go_wp2_with fail
          go_roundw
          case rel => exact ⟨2, _, rfl, by omega, T3.out, B3.out⟩
          case measure => simp [intOf]
        · go_wp2_with fail
          go_loopw [110] (fun i wr => ∃ (z t : Int), i = .int .i64 z ∧ (z = 0 ∨ z = 1 ∨ z = 2 ∨ z = 3 ∨ z = 4) ∧ Hid (TkAt w.heap.size 4 ⟨#[]⟩ C false (ahead.size : Int) t wr) ∧ Hid (Below w.heap.size w wr)) (fun i _ => 4 - (intOf i).toNat)
          case atStart => exact ⟨0, _, rfl, .inl rfl, HTk.out, HB.out⟩
          case round =>
            obtain ⟨z, t, rfl, (rfl | rfl | rfl | rfl | rfl), HTk, HB⟩ := hrel
            · obtain ⟨S, hS⟩ : ∃ S, ((ahead ++ (⟨#[60, 33, 45, 45]⟩ : ByteArray)) ++ s) ++ (⟨#[]⟩ : ByteArray) = S := ⟨_, rfl⟩
              have hSl : S.data.toList = ahead.data.toList ++ (60 :: 33 :: 45 :: 45 :: (s.data.toList ++ [])) := by rw [← hS]; simp [app_data, List.append_assoc]
              have hSs : S.size ≤ 5000 := by rw [← hS]; simp only [ByteArray.size_append, show (⟨#[60, 33, 45, 45]⟩ : ByteArray).size = 4 from rfl, show (⟨#[]⟩ : ByteArray).size = 0 from rfl]; omega
              obtain ⟨E1, hE1⟩ : ∃ E, (ahead.size : Int) + 4 = E := ⟨_, rfl⟩
              obtain ⟨E2, hE2⟩ : ∃ E, E1 + (s.size : Int) = E := ⟨_, rfl⟩
              obtain ⟨E, hE⟩ : ∃ E, ahead.size + 4 + (s.data.toList.length + 0) = E := ⟨_, rfl⟩
              have hsl : s.data.toList.length = s.size := by simp
              have hE3 : E2 + 0 = (E : Int) := by omega
              have hE4 : E2 = (E : Int) := by omega
              have HC := Lib.hid (fun W (h : MaxOk m W) => comment_put S ahead s C [] _ E m W hSl (by have := com_open HCA.out [] (.inl rfl); simpa using this) HCc.out hE hSs h)
              have HSM := Lib.hid (fun W => tk_same 4 (ahead.size : Int) (E : Int) ⟨#[]⟩ C false W)
              unfold tkV at HSM
              have ie := int_self' E
              clear hSl hSs hE hsl
              go_wp2_with fail
              refine (HC.out _ (HM.out.below HB.out)).mono ?_
              rintro e w1 ⟨rfl, b1⟩
              have B1 : Hid (Below w.heap.size w w1) := HB.out.trans (b1.mono HB.out.size)
              have T1 := Lib.hid (HTk.out.up b1)
              clear b1
              go_upto_region 18 with fail
              obtain ⟨W2, hW2⟩ : ∃ W2, W2 = w1.alloc (.cells #[.int .i64 4, .string ⟨#[]⟩, .string C, .slice none 0 0, .bool false, .bool false, .bool false, .int .i64 (ahead.size : Int), .int .i64 (E : Int)] 25) := ⟨_, rfl⟩
              rw [← hW2]
              have tn : TkAt w1.heap.size 4 ⟨#[]⟩ C false (ahead.size : Int) (E : Int) W2 := by rw [hW2]; exact TkAt.new w1 _ _ _ _ _ _
              have tp : TkAt w.heap.size 4 ⟨#[]⟩ C false (ahead.size : Int) t W2 := by rw [hW2]; exact T1.out.up ((Below.refl _ w1).alloc (Nat.le_refl _) _)
              have B2 : Hid (Below w.heap.size w W2) := by show Below _ _ _; rw [hW2]; exact B1.out.alloc B1.out.size _
              have tq : TkAt w.heap.size 4 ⟨#[]⟩ C false (ahead.size : Int) (E : Int) (W2.setCell ⟨w.heap.size, 8, none⟩ (.int .i64 (E : Int))) := hset tp 8 _
              have TQ := Lib.hid tq
              have hne : ¬ w1.heap.size = w.heap.size := by have h1 := (Array.getElem?_eq_some_iff.1 T1.out).1; omega
              obtain ⟨⟨c0, c1, c2, c3, c4, c5, c6, c7, c8⟩, f0, f1, f2, f3, f4, f5, f6, f7, f8⟩ := nine tp
              obtain ⟨⟨d0, d1, d2, d3, d4, d5, d6, d7, d8⟩, _⟩ := nine tn
              clear tn tp tq hW2
              go_wp2_with fail
              refine (HSM.out _).mono ?_
              rintro e w3 ⟨rfl, b3⟩
              have B3 : Hid (Below w.heap.size w w3) := (B2.out.setCell (by exact Nat.le_refl _) _).trans (b3.mono (B2.out.setCell (by exact Nat.le_refl _) _).size)
              have T3 := Lib.hid (TQ.out.up b3)
              clear b3 c0 c1 c2 c3 c4 c5 c6 c7 c8 f0 f1 f2 f3 f4 f5 f6 f7 f8 d0 d1 d2 d3 d4 d5 d6 d7 d8
              go_wp2_with fail
              go_roundw
              case rel => exact ⟨1, _, rfl, by omega, T3.out, B3.out⟩
              case measure => simp [intOf]
            · obtain ⟨S, hS⟩ : ∃ S, ((ahead ++ (⟨#[60, 33, 45, 45]⟩ : ByteArray)) ++ s) ++ (⟨#[45]⟩ : ByteArray) = S := ⟨_, rfl⟩
              have hSl : S.data.toList = ahead.data.toList ++ (60 :: 33 :: 45 :: 45 :: (s.data.toList ++ (45 :: []))) := by rw [← hS]; simp [app_data, List.append_assoc]
              have hSs : S.size ≤ 5000 := by rw [← hS]; simp only [ByteArray.size_append, show (⟨#[60, 33, 45, 45]⟩ : ByteArray).size = 4 from rfl, show (⟨#[45]⟩ : ByteArray).size = 1 from rfl]; omega
              obtain ⟨E1, hE1⟩ : ∃ E, (ahead.size : Int) + 4 = E := ⟨_, rfl⟩
              obtain ⟨E2, hE2⟩ : ∃ E, E1 + (s.size : Int) = E := ⟨_, rfl⟩
              obtain ⟨E, hE⟩ : ∃ E, ahead.size + 4 + (s.data.toList.length + 1) = E := ⟨_, rfl⟩
              have hsl : s.data.toList.length = s.size := by simp
              have hE3 : E2 + 1 = (E : Int) := by omega
              have HC := Lib.hid (fun W (h : MaxOk m W) => comment_put S ahead s C (45 :: []) _ E m W hSl (by have := com_open HCA.out [45] (.inr (.inl rfl)); simpa using this) HCc.out hE hSs h)
              have HSM := Lib.hid (fun W => tk_same 4 (ahead.size : Int) (E : Int) ⟨#[]⟩ C false W)
              unfold tkV at HSM
              have ie := int_self' E
              clear hSl hSs hE hsl
              go_wp2_with fail
              refine (HC.out _ (HM.out.below HB.out)).mono ?_
              rintro e w1 ⟨rfl, b1⟩
              have B1 : Hid (Below w.heap.size w w1) := HB.out.trans (b1.mono HB.out.size)
              have T1 := Lib.hid (HTk.out.up b1)
              clear b1
              go_upto_region 18 with fail
              obtain ⟨W2, hW2⟩ : ∃ W2, W2 = w1.alloc (.cells #[.int .i64 4, .string ⟨#[]⟩, .string C, .slice none 0 0, .bool false, .bool false, .bool false, .int .i64 (ahead.size : Int), .int .i64 (E : Int)] 25) := ⟨_, rfl⟩
              rw [← hW2]
              have tn : TkAt w1.heap.size 4 ⟨#[]⟩ C false (ahead.size : Int) (E : Int) W2 := by rw [hW2]; exact TkAt.new w1 _ _ _ _ _ _
              have tp : TkAt w.heap.size 4 ⟨#[]⟩ C false (ahead.size : Int) t W2 := by rw [hW2]; exact T1.out.up ((Below.refl _ w1).alloc (Nat.le_refl _) _)
              have B2 : Hid (Below w.heap.size w W2) := by show Below _ _ _; rw [hW2]; exact B1.out.alloc B1.out.size _
              have tq : TkAt w.heap.size 4 ⟨#[]⟩ C false (ahead.size : Int) (E : Int) (W2.setCell ⟨w.heap.size, 8, none⟩ (.int .i64 (E : Int))) := hset tp 8 _
              have TQ := Lib.hid tq
              have hne : ¬ w1.heap.size = w.heap.size := by have h1 := (Array.getElem?_eq_some_iff.1 T1.out).1; omega
              obtain ⟨⟨c0, c1, c2, c3, c4, c5, c6, c7, c8⟩, f0, f1, f2, f3, f4, f5, f6, f7, f8⟩ := nine tp
              obtain ⟨⟨d0, d1, d2, d3, d4, d5, d6, d7, d8⟩, _⟩ := nine tn
              clear tn tp tq hW2
              go_wp2_with fail
              refine (HSM.out _).mono ?_
              rintro e w3 ⟨rfl, b3⟩
              have B3 : Hid (Below w.heap.size w w3) := (B2.out.setCell (by exact Nat.le_refl _) _).trans (b3.mono (B2.out.setCell (by exact Nat.le_refl _) _).size)
              have T3 := Lib.hid (TQ.out.up b3)
              clear b3 c0 c1 c2 c3 c4 c5 c6 c7 c8 f0 f1 f2 f3 f4 f5 f6 f7 f8 d0 d1 d2 d3 d4 d5 d6 d7 d8
              go_wp2_with fail
              go_roundw
              case rel => exact ⟨2, _, rfl, by omega, T3.out, B3.out⟩
              case measure => simp [intOf]
            · obtain ⟨S, hS⟩ : ∃ S, ((ahead ++ (⟨#[60, 33, 45, 45]⟩ : ByteArray)) ++ s) ++ (⟨#[45, 45]⟩ : ByteArray) = S := ⟨_, rfl⟩
              have hSl : S.data.toList = ahead.data.toList ++ (60 :: 33 :: 45 :: 45 :: (s.data.toList ++ (45 :: 45 :: []))) := by rw [← hS]; simp [app_data, List.append_assoc]
              have hSs : S.size ≤ 5000 := by rw [← hS]; simp only [ByteArray.size_append, show (⟨#[60, 33, 45, 45]⟩ : ByteArray).size = 4 from rfl, show (⟨#[45, 45]⟩ : ByteArray).size = 2 from rfl]; omega
              obtain ⟨E1, hE1⟩ : ∃ E, (ahead.size : Int) + 4 = E := ⟨_, rfl⟩
              obtain ⟨E2, hE2⟩ : ∃ E, E1 + (s.size : Int) = E := ⟨_, rfl⟩
              obtain ⟨E, hE⟩ : ∃ E, ahead.size + 4 + (s.data.toList.length + 2) = E := ⟨_, rfl⟩
              have hsl : s.data.toList.length = s.size := by simp
              have hE3 : E2 + 2 = (E : Int) := by omega
              have HC := Lib.hid (fun W (h : MaxOk m W) => comment_put S ahead s C (45 :: 45 :: []) _ E m W hSl (by have := com_open HCA.out [45, 45] (.inr (.inr (.inl rfl))); simpa using this) HCc.out hE hSs h)
              have HSM := Lib.hid (fun W => tk_same 4 (ahead.size : Int) (E : Int) ⟨#[]⟩ C false W)
              unfold tkV at HSM
              have ie := int_self' E
              clear hSl hSs hE hsl
              go_wp2_with fail
              refine (HC.out _ (HM.out.below HB.out)).mono ?_
              rintro e w1 ⟨rfl, b1⟩
              have B1 : Hid (Below w.heap.size w w1) := HB.out.trans (b1.mono HB.out.size)
              have T1 := Lib.hid (HTk.out.up b1)
              clear b1
              go_upto_region 18 with fail
              obtain ⟨W2, hW2⟩ : ∃ W2, W2 = w1.alloc (.cells #[.int .i64 4, .string ⟨#[]⟩, .string C, .slice none 0 0, .bool false, .bool false, .bool false, .int .i64 (ahead.size : Int), .int .i64 (E : Int)] 25) := ⟨_, rfl⟩
              rw [← hW2]
              have tn : TkAt w1.heap.size 4 ⟨#[]⟩ C false (ahead.size : Int) (E : Int) W2 := by rw [hW2]; exact TkAt.new w1 _ _ _ _ _ _
              have tp : TkAt w.heap.size 4 ⟨#[]⟩ C false (ahead.size : Int) t W2 := by rw [hW2]; exact T1.out.up ((Below.refl _ w1).alloc (Nat.le_refl _) _)
              have B2 : Hid (Below w.heap.size w W2) := by show Below _ _ _; rw [hW2]; exact B1.out.alloc B1.out.size _
              have tq : TkAt w.heap.size 4 ⟨#[]⟩ C false (ahead.size : Int) (E : Int) (W2.setCell ⟨w.heap.size, 8, none⟩ (.int .i64 (E : Int))) := hset tp 8 _
              have TQ := Lib.hid tq
              have hne : ¬ w1.heap.size = w.heap.size := by have h1 := (Array.getElem?_eq_some_iff.1 T1.out).1; omega
              obtain ⟨⟨c0, c1, c2, c3, c4, c5, c6, c7, c8⟩, f0, f1, f2, f3, f4, f5, f6, f7, f8⟩ := nine tp
              obtain ⟨⟨d0, d1, d2, d3, d4, d5, d6, d7, d8⟩, _⟩ := nine tn
              clear tn tp tq hW2
              go_wp2_with fail
              refine (HSM.out _).mono ?_
              rintro e w3 ⟨rfl, b3⟩
              have B3 : Hid (Below w.heap.size w w3) := (B2.out.setCell (by exact Nat.le_refl _) _).trans (b3.mono (B2.out.setCell (by exact Nat.le_refl _) _).size)
              have T3 := Lib.hid (TQ.out.up b3)
              clear b3 c0 c1 c2 c3 c4 c5 c6 c7 c8 f0 f1 f2 f3 f4 f5 f6 f7 f8 d0 d1 d2 d3 d4 d5 d6 d7 d8
              go_wp2_with fail
              go_roundw
              case rel => exact ⟨3, _, rfl, by omega, T3.out, B3.out⟩
              case measure => simp [intOf]
            · obtain ⟨S, hS⟩ : ∃ S, ((ahead ++ (⟨#[60, 33, 45, 45]⟩ : ByteArray)) ++ s) ++ (⟨#[45, 45, 33]⟩ : ByteArray) = S := ⟨_, rfl⟩
              have hSl : S.data.toList = ahead.data.toList ++ (60 :: 33 :: 45 :: 45 :: (s.data.toList ++ (45 :: 45 :: 33 :: []))) := by rw [← hS]; simp [app_data, List.append_assoc]
              have hSs : S.size ≤ 5000 := by rw [← hS]; simp only [ByteArray.size_append, show (⟨#[60, 33, 45, 45]⟩ : ByteArray).size = 4 from rfl, show (⟨#[45, 45, 33]⟩ : ByteArray).size = 3 from rfl]; omega
              obtain ⟨E1, hE1⟩ : ∃ E, (ahead.size : Int) + 4 = E := ⟨_, rfl⟩
              obtain ⟨E2, hE2⟩ : ∃ E, E1 + (s.size : Int) = E := ⟨_, rfl⟩
              obtain ⟨E, hE⟩ : ∃ E, ahead.size + 4 + (s.data.toList.length + 3) = E := ⟨_, rfl⟩
              have hsl : s.data.toList.length = s.size := by simp
              have hE3 : E2 + 3 = (E : Int) := by omega
              have HC := Lib.hid (fun W (h : MaxOk m W) => comment_put S ahead s C (45 :: 45 :: 33 :: []) _ E m W hSl (by have := com_open HCA.out [45, 45, 33] (.inr (.inr (.inr rfl))); simpa using this) HCc.out hE hSs h)
              have HSM := Lib.hid (fun W => tk_same 4 (ahead.size : Int) (E : Int) ⟨#[]⟩ C false W)
              unfold tkV at HSM
              have ie := int_self' E
              clear hSl hSs hE hsl
              go_wp2_with fail
              refine (HC.out _ (HM.out.below HB.out)).mono ?_
              rintro e w1 ⟨rfl, b1⟩
              have B1 : Hid (Below w.heap.size w w1) := HB.out.trans (b1.mono HB.out.size)
              have T1 := Lib.hid (HTk.out.up b1)
              clear b1
              go_upto_region 18 with fail
              obtain ⟨W2, hW2⟩ : ∃ W2, W2 = w1.alloc (.cells #[.int .i64 4, .string ⟨#[]⟩, .string C, .slice none 0 0, .bool false, .bool false, .bool false, .int .i64 (ahead.size : Int), .int .i64 (E : Int)] 25) := ⟨_, rfl⟩
              rw [← hW2]
              have tn : TkAt w1.heap.size 4 ⟨#[]⟩ C false (ahead.size : Int) (E : Int) W2 := by rw [hW2]; exact TkAt.new w1 _ _ _ _ _ _
              have tp : TkAt w.heap.size 4 ⟨#[]⟩ C false (ahead.size : Int) t W2 := by rw [hW2]; exact T1.out.up ((Below.refl _ w1).alloc (Nat.le_refl _) _)
              have B2 : Hid (Below w.heap.size w W2) := by show Below _ _ _; rw [hW2]; exact B1.out.alloc B1.out.size _
              have tq : TkAt w.heap.size 4 ⟨#[]⟩ C false (ahead.size : Int) (E : Int) (W2.setCell ⟨w.heap.size, 8, none⟩ (.int .i64 (E : Int))) := hset tp 8 _
              have TQ := Lib.hid tq
              have hne : ¬ w1.heap.size = w.heap.size := by have h1 := (Array.getElem?_eq_some_iff.1 T1.out).1; omega
              obtain ⟨⟨c0, c1, c2, c3, c4, c5, c6, c7, c8⟩, f0, f1, f2, f3, f4, f5, f6, f7, f8⟩ := nine tp
              obtain ⟨⟨d0, d1, d2, d3, d4, d5, d6, d7, d8⟩, _⟩ := nine tn
              clear tn tp tq hW2
              go_wp2_with fail
              refine (HSM.out _).mono ?_
              rintro e w3 ⟨rfl, b3⟩
              have B3 : Hid (Below w.heap.size w w3) := (B2.out.setCell (by exact Nat.le_refl _) _).trans (b3.mono (B2.out.setCell (by exact Nat.le_refl _) _).size)
              have T3 := Lib.hid (TQ.out.up b3)
              clear b3 c0 c1 c2 c3 c4 c5 c6 c7 c8 f0 f1 f2 f3 f4 f5 f6 f7 f8 d0 d1 d2 d3 d4 d5 d6 d7 d8
              go_wp2_with fail
              go_roundw
              case rel => exact ⟨4, _, rfl, by omega, T3.out, B3.out⟩
              case measure => simp [intOf]
            · go_wp2_with fail
              refine (raw_any m _ (HT.out.below HB.out) (HM.out.below HB.out)).mono ?_
              rintro e w1 ⟨rfl, b1⟩
              go_wp2_with fail
              go_ret
              exact ⟨by exact rfl, HB.out.trans (b1.mono HB.out.size)⟩
  · have k0 : ¬ (0 : Int) < s.size := by omega
    have k1 : ¬ (1 : Int) < s.size := by omega
    have hn : s.data.toList = [] := toList_nil (by omega)
    have h3 : s.data.toList[0]? ≠ some 62 := by rw [hn]; simp
    have h4 : [45, 62].isPrefixOf s.data.toList = false := by rw [hn]; rfl
    cases h5 : [45].isSuffixOf s.data.toList with
    | true =>
      rw [h5] at H3
      clear h1 h2 h3 h4 h5 gs gahead gbehind hn
      go_enter Tryd.func5, Tryd.ntmps5
      go_wp2_with fail
      refine (H1.out _).mono ?_
      rintro e w1 ⟨rfl, rfl⟩
      go_wp2_with fail
      refine (H2.out _).mono ?_
      rintro e w2 ⟨rfl, rfl⟩
      go_wp2_with fail
      refine (H3.out _).mono ?_
      rintro e w3 ⟨rfl, rfl⟩
      go_wp2_with fail
      refine (raw_any m _ (HT.out.below (Below.refl _ _)) (HM.out.below (Below.refl _ _))).mono ?_
      rintro e w4 ⟨rfl, b4⟩
      have B4 : Hid (Below w.heap.size w w4) := b4
      clear b4
      go_wp2_with fail
      go_ret
      exact ⟨by exact rfl, B4.out⟩
    | false =>
    rw [h5] at H3
    cases h6 : [45, 45, 33].isSuffixOf s.data.toList with
    | true =>
      rw [h6] at H4
      clear h1 h2 h3 h4 h5 h6 gs gahead gbehind hn
      go_enter Tryd.func5, Tryd.ntmps5
      go_wp2_with fail
      refine (H1.out _).mono ?_
      rintro e w1 ⟨rfl, rfl⟩
      go_wp2_with fail
      refine (H2.out _).mono ?_
      rintro e w2 ⟨rfl, rfl⟩
      go_wp2_with fail
      refine (H3.out _).mono ?_
      rintro e w3 ⟨rfl, rfl⟩
      go_wp2_with fail
      refine (H4.out _).mono ?_
      rintro e w4 ⟨rfl, rfl⟩
      go_wp2_with fail
      refine (raw_any m _ (HT.out.below (Below.refl _ _)) (HM.out.below (Below.refl _ _))).mono ?_
      rintro e w5 ⟨rfl, b5⟩
      have B5 : Hid (Below w.heap.size w w5) := b5
      clear b5
      go_wp2_with fail
      go_ret
      exact ⟨by exact rfl, B5.out⟩
    | false =>
    rw [h6] at H4
    have calm := calm_of h1 h2 h3 h4 h5 h6
    obtain ⟨C, hC⟩ : ∃ C, bytesOf (cleanR s.data.toList) = C := ⟨_, rfl⟩
    have HCL := Lib.hid (fun W => rclean_any s W (by omega))
    rw [hC] at HCL
    have HCc := Lib.hid hC
    have HCA := Lib.hid calm
    have t0n : TkAt w.heap.size 4 ⟨#[]⟩ C false (ahead.size : Int) 0 (w.alloc (.cells #[.int .i64 4, .string ⟨#[]⟩, .string C, .slice none 0 0, .bool false, .bool false, .bool false, .int .i64 (ahead.size : Int), .int .i64 0] 25)) := TkAt.new w _ _ _ _ _ _
    have T0 := Lib.hid t0n
    have x20 : ∀ w, (Instr.index 39 (.agg #[.string ⟨#[45, 45, 62]⟩, .string ⟨#[45, 45, 33, 62]⟩]) (.int .i64 0)).run Tryd.prog w = .ok (.string ⟨#[45, 45, 62]⟩) w := fun _ => by kernel_rfl
    have x21 : ∀ w, (Instr.index 39 (.agg #[.string ⟨#[45, 45, 62]⟩, .string ⟨#[45, 45, 33, 62]⟩]) (.int .i64 1)).run Tryd.prog w = .ok (.string ⟨#[45, 45, 33, 62]⟩) w := fun _ => by kernel_rfl
    have x40 : ∀ w, (Instr.index 40 (.agg #[.string ⟨#[]⟩, .string ⟨#[45]⟩, .string ⟨#[45, 45]⟩, .string ⟨#[45, 45, 33]⟩]) (.int .i64 0)).run Tryd.prog w = .ok (.string ⟨#[]⟩) w := fun _ => by kernel_rfl
    have x41 : ∀ w, (Instr.index 40 (.agg #[.string ⟨#[]⟩, .string ⟨#[45]⟩, .string ⟨#[45, 45]⟩, .string ⟨#[45, 45, 33]⟩]) (.int .i64 1)).run Tryd.prog w = .ok (.string ⟨#[45]⟩) w := fun _ => by kernel_rfl
    have x42 : ∀ w, (Instr.index 40 (.agg #[.string ⟨#[]⟩, .string ⟨#[45]⟩, .string ⟨#[45, 45]⟩, .string ⟨#[45, 45, 33]⟩]) (.int .i64 2)).run Tryd.prog w = .ok (.string ⟨#[45, 45]⟩) w := fun _ => by kernel_rfl
    have x43 : ∀ w, (Instr.index 40 (.agg #[.string ⟨#[]⟩, .string ⟨#[45]⟩, .string ⟨#[45, 45]⟩, .string ⟨#[45, 45, 33]⟩]) (.int .i64 3)).run Tryd.prog w = .ok (.string ⟨#[45, 45, 33]⟩) w := fun _ => by kernel_rfl
    clear hC calm t0n h1 h2 h3 h4 h5 h6 gs gahead gbehind hn
    go_enter Tryd.func5, Tryd.ntmps5
    go_wp2_with fail
    refine (H1.out _).mono ?_
    rintro e w1 ⟨rfl, rfl⟩
    go_wp2_with fail
    refine (H2.out _).mono ?_
    rintro e w2 ⟨rfl, rfl⟩
    go_wp2_with fail
    refine (H3.out _).mono ?_
    rintro e w3 ⟨rfl, rfl⟩
    go_wp2_with fail
    refine (H4.out _).mono ?_
    rintro e w4 ⟨rfl, rfl⟩
    go_wp2_with fail
    refine (HCL.out _).mono ?_
    rintro e w5 ⟨rfl, rfl⟩
    go_wp2_with fail
    go_loopw [71] (fun i wr => ∃ (z t : Int), i = .int .i64 z ∧ (z = 0 ∨ z = 1 ∨ z = 2) ∧ Hid (TkAt w.heap.size 4 ⟨#[]⟩ C false (ahead.size : Int) t wr) ∧ Hid (Below w.heap.size w wr)) (fun i _ => 2 - (intOf i).toNat)
    case atStart => exact ⟨0, _, rfl, .inl rfl, T0.out, (Below.refl _ w).alloc (Nat.le_refl _) _⟩
    case round =>
      obtain ⟨z, t, rfl, (rfl | rfl | rfl), HTk, HB⟩ := hrel
      · obtain ⟨S, hS⟩ : ∃ S, (((ahead ++ (⟨#[60, 33, 45, 45]⟩ : ByteArray)) ++ s) ++ (⟨#[45, 45, 62]⟩ : ByteArray)) ++ behind = S := ⟨_, rfl⟩
        have hSl : S.data.toList = ahead.data.toList ++ (60 :: 33 :: 45 :: 45 :: (s.data.toList ++ (45 :: 45 :: 62 :: behind.data.toList))) := by rw [← hS]; simp [app_data, List.append_assoc]
        have hSs : S.size ≤ 5000 := by rw [← hS]; simp only [ByteArray.size_append, show (⟨#[60, 33, 45, 45]⟩ : ByteArray).size = 4 from rfl, show (⟨#[45, 45, 62]⟩ : ByteArray).size = 3 from rfl]; omega
        obtain ⟨E1, hE1⟩ : ∃ E, (ahead.size : Int) + 4 = E := ⟨_, rfl⟩
        obtain ⟨E2, hE2⟩ : ∃ E, E1 + (s.size : Int) = E := ⟨_, rfl⟩
        obtain ⟨E, hE⟩ : ∃ E, ahead.size + 4 + (s.data.toList.length + 3) = E := ⟨_, rfl⟩
        have hsl : s.data.toList.length = s.size := by simp
        have hE3 : E2 + 3 = (E : Int) := by omega
        have HC := Lib.hid (fun W (h : MaxOk m W) => comment_put S ahead s C (45 :: 45 :: 62 :: behind.data.toList) _ E m W hSl (com_end HCA.out _) HCc.out hE hSs h)
        have HSM := Lib.hid (fun W => tk_same 4 (ahead.size : Int) (E : Int) ⟨#[]⟩ C false W)
        unfold tkV at HSM
        have ie := int_self' E
        clear hSl hSs hE hsl
        go_wp2_with fail
        refine (HC.out _ (HM.out.below HB.out)).mono ?_
        rintro e w1 ⟨rfl, b1⟩
        have B1 : Hid (Below w.heap.size w w1) := HB.out.trans (b1.mono HB.out.size)
        have T1 := Lib.hid (HTk.out.up b1)
        clear b1
        go_upto_region 10 with fail
        obtain ⟨W2, hW2⟩ : ∃ W2, W2 = w1.alloc (.cells #[.int .i64 4, .string ⟨#[]⟩, .string C, .slice none 0 0, .bool false, .bool false, .bool false, .int .i64 (ahead.size : Int), .int .i64 (E : Int)] 25) := ⟨_, rfl⟩
        rw [← hW2]
        have tn : TkAt w1.heap.size 4 ⟨#[]⟩ C false (ahead.size : Int) (E : Int) W2 := by rw [hW2]; exact TkAt.new w1 _ _ _ _ _ _
        have tp : TkAt w.heap.size 4 ⟨#[]⟩ C false (ahead.size : Int) t W2 := by rw [hW2]; exact T1.out.up ((Below.refl _ w1).alloc (Nat.le_refl _) _)
        have B2 : Hid (Below w.heap.size w W2) := by show Below _ _ _; rw [hW2]; exact B1.out.alloc B1.out.size _
        have tq : TkAt w.heap.size 4 ⟨#[]⟩ C false (ahead.size : Int) (E : Int) (W2.setCell ⟨w.heap.size, 8, none⟩ (.int .i64 (E : Int))) := hset tp 8 _
        have TQ := Lib.hid tq
        have hne : ¬ w1.heap.size = w.heap.size := by have h1 := (Array.getElem?_eq_some_iff.1 T1.out).1; omega
        obtain ⟨⟨c0, c1, c2, c3, c4, c5, c6, c7, c8⟩, f0, f1, f2, f3, f4, f5, f6, f7, f8⟩ := nine tp
        obtain ⟨⟨d0, d1, d2, d3, d4, d5, d6, d7, d8⟩, _⟩ := nine tn
        clear tn tp tq hW2
        go_wp2_with fail
        refine (HSM.out _).mono ?_
        rintro e w3 ⟨rfl, b3⟩
        have B3 : Hid (Below w.heap.size w w3) := (B2.out.setCell (by exact Nat.le_refl _) _).trans (b3.mono (B2.out.setCell (by exact Nat.le_refl _) _).size)
        have T3 := Lib.hid (TQ.out.up b3)
        clear b3 c0 c1 c2 c3 c4 c5 c6 c7 c8 f0 f1 f2 f3 f4 f5 f6 f7 f8 d0 d1 d2 d3 d4 d5 d6 d7 d8
        go_wp2_with fail
        go_roundw
        case rel => exact ⟨1, _, rfl, by omega, T3.out, B3.out⟩
        case measure => simp [intOf]
      · obtain ⟨S, hS⟩ : ∃ S, (((ahead ++ (⟨#[60, 33, 45, 45]⟩ : ByteArray)) ++ s) ++ (⟨#[45, 45, 33, 62]⟩ : ByteArray)) ++ behind = S := ⟨_, rfl⟩
        have hSl : S.data.toList = ahead.data.toList ++ (60 :: 33 :: 45 :: 45 :: (s.data.toList ++ (45 :: 45 :: 33 :: 62 :: behind.data.toList))) := by rw [← hS]; simp [app_data, List.append_assoc]
        have hSs : S.size ≤ 5000 := by rw [← hS]; simp only [ByteArray.size_append, show (⟨#[60, 33, 45, 45]⟩ : ByteArray).size = 4 from rfl, show (⟨#[45, 45, 33, 62]⟩ : ByteArray).size = 4 from rfl]; omega
        obtain ⟨E1, hE1⟩ : ∃ E, (ahead.size : Int) + 4 = E := ⟨_, rfl⟩
        obtain ⟨E2, hE2⟩ : ∃ E, E1 + (s.size : Int) = E := ⟨_, rfl⟩
        obtain ⟨E, hE⟩ : ∃ E, ahead.size + 4 + (s.data.toList.length + 4) = E := ⟨_, rfl⟩
        have hsl : s.data.toList.length = s.size := by simp
        have hE3 : E2 + 4 = (E : Int) := by omega
        have HC := Lib.hid (fun W (h : MaxOk m W) => comment_put S ahead s C (45 :: 45 :: 33 :: 62 :: behind.data.toList) _ E m W hSl (com_end2 HCA.out _) HCc.out hE hSs h)
        have HSM := Lib.hid (fun W => tk_same 4 (ahead.size : Int) (E : Int) ⟨#[]⟩ C false W)
        unfold tkV at HSM
        have ie := int_self' E
        clear hSl hSs hE hsl
        go_wp2_with fail
        refine (HC.out _ (HM.out.below HB.out)).mono ?_
        rintro e w1 ⟨rfl, b1⟩
        have B1 : Hid (Below w.heap.size w w1) := HB.out.trans (b1.mono HB.out.size)
        have T1 := Lib.hid (HTk.out.up b1)
        clear b1
        go_upto_region 10 with fail
        obtain ⟨W2, hW2⟩ : ∃ W2, W2 = w1.alloc (.cells #[.int .i64 4, .string ⟨#[]⟩, .string C, .slice none 0 0, .bool false, .bool false, .bool false, .int .i64 (ahead.size : Int), .int .i64 (E : Int)] 25) := ⟨_, rfl⟩
        rw [← hW2]
        have tn : TkAt w1.heap.size 4 ⟨#[]⟩ C false (ahead.size : Int) (E : Int) W2 := by rw [hW2]; exact TkAt.new w1 _ _ _ _ _ _
        have tp : TkAt w.heap.size 4 ⟨#[]⟩ C false (ahead.size : Int) t W2 := by rw [hW2]; exact T1.out.up ((Below.refl _ w1).alloc (Nat.le_refl _) _)
        have B2 : Hid (Below w.heap.size w W2) := by show Below _ _ _; rw [hW2]; exact B1.out.alloc B1.out.size _
        have tq : TkAt w.heap.size 4 ⟨#[]⟩ C false (ahead.size : Int) (E : Int) (W2.setCell ⟨w.heap.size, 8, none⟩ (.int .i64 (E : Int))) := hset tp 8 _
        have TQ := Lib.hid tq
        have hne : ¬ w1.heap.size = w.heap.size := by have h1 := (Array.getElem?_eq_some_iff.1 T1.out).1; omega
        obtain ⟨⟨c0, c1, c2, c3, c4, c5, c6, c7, c8⟩, f0, f1, f2, f3, f4, f5, f6, f7, f8⟩ := nine tp
        obtain ⟨⟨d0, d1, d2, d3, d4, d5, d6, d7, d8⟩, _⟩ := nine tn
        clear tn tp tq hW2
        go_wp2_with fail
        refine (HSM.out _).mono ?_
        rintro e w3 ⟨rfl, b3⟩
        have B3 : Hid (Below w.heap.size w w3) := (B2.out.setCell (by exact Nat.le_refl _) _).trans (b3.mono (B2.out.setCell (by exact Nat.le_refl _) _).size)
        have T3 := Lib.hid (TQ.out.up b3)
        clear b3 c0 c1 c2 c3 c4 c5 c6 c7 c8 f0 f1 f2 f3 f4 f5 f6 f7 f8 d0 d1 d2 d3 d4 d5 d6 d7 d8
        go_wp2_with fail
        go_roundw
        case rel => exact ⟨2, _, rfl, by omega, T3.out, B3.out⟩
        case measure => simp [intOf]
      · go_wp2_with fail
        go_loopw [110] (fun i wr => ∃ (z t : Int), i = .int .i64 z ∧ (z = 0 ∨ z = 1 ∨ z = 2 ∨ z = 3 ∨ z = 4) ∧ Hid (TkAt w.heap.size 4 ⟨#[]⟩ C false (ahead.size : Int) t wr) ∧ Hid (Below w.heap.size w wr)) (fun i _ => 4 - (intOf i).toNat)
        case atStart => exact ⟨0, _, rfl, .inl rfl, HTk.out, HB.out⟩
        case round =>
          obtain ⟨z, t, rfl, (rfl | rfl | rfl | rfl | rfl), HTk, HB⟩ := hrel
          · obtain ⟨S, hS⟩ : ∃ S, ((ahead ++ (⟨#[60, 33, 45, 45]⟩ : ByteArray)) ++ s) ++ (⟨#[]⟩ : ByteArray) = S := ⟨_, rfl⟩
            have hSl : S.data.toList = ahead.data.toList ++ (60 :: 33 :: 45 :: 45 :: (s.data.toList ++ [])) := by rw [← hS]; simp [app_data, List.append_assoc]
            have hSs : S.size ≤ 5000 := by rw [← hS]; simp only [ByteArray.size_append, show (⟨#[60, 33, 45, 45]⟩ : ByteArray).size = 4 from rfl, show (⟨#[]⟩ : ByteArray).size = 0 from rfl]; omega
            obtain ⟨E1, hE1⟩ : ∃ E, (ahead.size : Int) + 4 = E := ⟨_, rfl⟩
            obtain ⟨E2, hE2⟩ : ∃ E, E1 + (s.size : Int) = E := ⟨_, rfl⟩
            obtain ⟨E, hE⟩ : ∃ E, ahead.size + 4 + (s.data.toList.length + 0) = E := ⟨_, rfl⟩
            have hsl : s.data.toList.length = s.size := by simp
            have hE3 : E2 + 0 = (E : Int) := by omega
            have hE4 : E2 = (E : Int) := by omega
            have HC := Lib.hid (fun W (h : MaxOk m W) => comment_put S ahead s C [] _ E m W hSl (by have := com_open HCA.out [] (.inl rfl); simpa using this) HCc.out hE hSs h)
            have HSM := Lib.hid (fun W => tk_same 4 (ahead.size : Int) (E : Int) ⟨#[]⟩ C false W)
            unfold tkV at HSM
            have ie := int_self' E
            clear hSl hSs hE hsl
            go_wp2_with fail
            refine (HC.out _ (HM.out.below HB.out)).mono ?_
            rintro e w1 ⟨rfl, b1⟩
            have B1 : Hid (Below w.heap.size w w1) := HB.out.trans (b1.mono HB.out.size)
            have T1 := Lib.hid (HTk.out.up b1)
            clear b1
            go_upto_region 18 with fail
            obtain ⟨W2, hW2⟩ : ∃ W2, W2 = w1.alloc (.cells #[.int .i64 4, .string ⟨#[]⟩, .string C, .slice none 0 0, .bool false, .bool false, .bool false, .int .i64 (ahead.size : Int), .int .i64 (E : Int)] 25) := ⟨_, rfl⟩
            rw [← hW2]
            have tn : TkAt w1.heap.size 4 ⟨#[]⟩ C false (ahead.size : Int) (E : Int) W2 := by rw [hW2]; exact TkAt.new w1 _ _ _ _ _ _
            have tp : TkAt w.heap.size 4 ⟨#[]⟩ C false (ahead.size : Int) t W2 := by rw [hW2]; exact T1.out.up ((Below.refl _ w1).alloc (Nat.le_refl _) _)
            have B2 : Hid (Below w.heap.size w W2) := by show Below _ _ _; rw [hW2]; exact B1.out.alloc B1.out.size _
            have tq : TkAt w.heap.size 4 ⟨#[]⟩ C false (ahead.size : Int) (E : Int) (W2.setCell ⟨w.heap.size, 8, none⟩ (.int .i64 (E : Int))) := hset tp 8 _
            have TQ := Lib.hid tq
            have hne : ¬ w1.heap.size = w.heap.size := by have h1 := (Array.getElem?_eq_some_iff.1 T1.out).1; omega
            obtain ⟨⟨c0, c1, c2, c3, c4, c5, c6, c7, c8⟩, f0, f1, f2, f3, f4, f5, f6, f7, f8⟩ := nine tp
            obtain ⟨⟨d0, d1, d2, d3, d4, d5, d6, d7, d8⟩, _⟩ := nine tn
            clear tn tp tq hW2
            go_wp2_with fail
            refine (HSM.out _).mono ?_
            rintro e w3 ⟨rfl, b3⟩
            have B3 : Hid (Below w.heap.size w w3) := (B2.out.setCell (by exact Nat.le_refl _) _).trans (b3.mono (B2.out.setCell (by exact Nat.le_refl _) _).size)
            have T3 := Lib.hid (TQ.out.up b3)
            clear b3 c0 c1 c2 c3 c4 c5 c6 c7 c8 f0 f1 f2 f3 f4 f5 f6 f7 f8 d0 d1 d2 d3 d4 d5 d6 d7 d8
            go_wp2_with fail
            go_roundw
            case rel => exact ⟨1, _, rfl, by omega, T3.out, B3.out⟩
            case measure => simp [intOf]
          · obtain ⟨S, hS⟩ : ∃ S, ((ahead ++ (⟨#[60, 33, 45, 45]⟩ : ByteArray)) ++ s) ++ (⟨#[45]⟩ : ByteArray) = S := ⟨_, rfl⟩
            have hSl : S.data.toList = ahead.data.toList ++ (60 :: 33 :: 45 :: 45 :: (s.data.toList ++ (45 :: []))) := by rw [← hS]; simp [app_data, List.append_assoc]
            have hSs : S.size ≤ 5000 := by rw [← hS]; simp only [ByteArray.size_append, show (⟨#[60, 33, 45, 45]⟩ : ByteArray).size = 4 from rfl, show (⟨#[45]⟩ : ByteArray).size = 1 from rfl]; omega
            obtain ⟨E1, hE1⟩ : ∃ E, (ahead.size : Int) + 4 = E := ⟨_, rfl⟩
            obtain ⟨E2, hE2⟩ : ∃ E, E1 + (s.size : Int) = E := ⟨_, rfl⟩
            obtain ⟨E, hE⟩ : ∃ E, ahead.size + 4 + (s.data.toList.length + 1) = E := ⟨_, rfl⟩
            have hsl : s.data.toList.length = s.size := by simp
            have hE3 : E2 + 1 = (E : Int) := by omega
            have HC := Lib.hid (fun W (h : MaxOk m W) => comment_put S ahead s C (45 :: []) _ E m W hSl (by have := com_open HCA.out [45] (.inr (.inl rfl)); simpa using this) HCc.out hE hSs h)
            have HSM := Lib.hid (fun W => tk_same 4 (ahead.size : Int) (E : Int) ⟨#[]⟩ C false W)
            unfold tkV at HSM
            have ie := int_self' E
            clear hSl hSs hE hsl
            go_wp2_with fail
            refine (HC.out _ (HM.out.below HB.out)).mono ?_
            rintro e w1 ⟨rfl, b1⟩
            have B1 : Hid (Below w.heap.size w w1) := HB.out.trans (b1.mono HB.out.size)
            have T1 := Lib.hid (HTk.out.up b1)
            clear b1
            go_upto_region 18 with fail
            obtain ⟨W2, hW2⟩ : ∃ W2, W2 = w1.alloc (.cells #[.int .i64 4, .string ⟨#[]⟩, .string C, .slice none 0 0, .bool false, .bool false, .bool false, .int .i64 (ahead.size : Int), .int .i64 (E : Int)] 25) := ⟨_, rfl⟩
            rw [← hW2]
            have tn : TkAt w1.heap.size 4 ⟨#[]⟩ C false (ahead.size : Int) (E : Int) W2 := by rw [hW2]; exact TkAt.new w1 _ _ _ _ _ _
            have tp : TkAt w.heap.size 4 ⟨#[]⟩ C false (ahead.size : Int) t W2 := by rw [hW2]; exact T1.out.up ((Below.refl _ w1).alloc (Nat.le_refl _) _)
            have B2 : Hid (Below w.heap.size w W2) := by show Below _ _ _; rw [hW2]; exact B1.out.alloc B1.out.size _
            have tq : TkAt w.heap.size 4 ⟨#[]⟩ C false (ahead.size : Int) (E : Int) (W2.setCell ⟨w.heap.size, 8, none⟩ (.int .i64 (E : Int))) := hset tp 8 _
            have TQ := Lib.hid tq
            have hne : ¬ w1.heap.size = w.heap.size := by have h1 := (Array.getElem?_eq_some_iff.1 T1.out).1; omega
            obtain ⟨⟨c0, c1, c2, c3, c4, c5, c6, c7, c8⟩, f0, f1, f2, f3, f4, f5, f6, f7, f8⟩ := nine tp
            obtain ⟨⟨d0, d1, d2, d3, d4, d5, d6, d7, d8⟩, _⟩ := nine tn
            clear tn tp tq hW2
            go_wp2_with fail
            refine (HSM.out _).mono ?_
            rintro e w3 ⟨rfl, b3⟩
            have B3 : Hid (Below w.heap.size w w3) := (B2.out.setCell (by exact Nat.le_refl _) _).trans (b3.mono (B2.out.setCell (by exact Nat.le_refl _) _).size)
            have T3 := Lib.hid (TQ.out.up b3)
            clear b3 c0 c1 c2 c3 c4 c5 c6 c7 c8 f0 f1 f2 f3 f4 f5 f6 f7 f8 d0 d1 d2 d3 d4 d5 d6 d7 d8
            go_wp2_with fail
            go_roundw
            case rel => exact ⟨2, _, rfl, by omega, T3.out, B3.out⟩
            case measure => simp [intOf]
          · obtain ⟨S, hS⟩ : ∃ S, ((ahead ++ (⟨#[60, 33, 45, 45]⟩ : ByteArray)) ++ s) ++ (⟨#[45, 45]⟩ : ByteArray) = S := ⟨_, rfl⟩
            have hSl : S.data.toList = ahead.data.toList ++ (60 :: 33 :: 45 :: 45 :: (s.data.toList ++ (45 :: 45 :: []))) := by rw [← hS]; simp [app_data, List.append_assoc]
            have hSs : S.size ≤ 5000 := by rw [← hS]; simp only [ByteArray.size_append, show (⟨#[60, 33, 45, 45]⟩ : ByteArray).size = 4 from rfl, show (⟨#[45, 45]⟩ : ByteArray).size = 2 from rfl]; omega
            obtain ⟨E1, hE1⟩ : ∃ E, (ahead.size : Int) + 4 = E := ⟨_, rfl⟩
            obtain ⟨E2, hE2⟩ : ∃ E, E1 + (s.size : Int) = E := ⟨_, rfl⟩
            obtain ⟨E, hE⟩ : ∃ E, ahead.size + 4 + (s.data.toList.length + 2) = E := ⟨_, rfl⟩
            have hsl : s.data.toList.length = s.size := by simp
            have hE3 : E2 + 2 = (E : Int) := by omega
            have HC := Lib.hid (fun W (h : MaxOk m W) => comment_put S ahead s C (45 :: 45 :: []) _ E m W hSl (by have := com_open HCA.out [45, 45] (.inr (.inr (.inl rfl))); simpa using this) HCc.out hE hSs h)
            have HSM := Lib.hid (fun W => tk_same 4 (ahead.size : Int) (E : Int) ⟨#[]⟩ C false W)
            unfold tkV at HSM
            have ie := int_self' E
            clear hSl hSs hE hsl
            go_wp2_with fail
            refine (HC.out _ (HM.out.below HB.out)).mono ?_
            rintro e w1 ⟨rfl, b1⟩
            have B1 : Hid (Below w.heap.size w w1) := HB.out.trans (b1.mono HB.out.size)
            have T1 := Lib.hid (HTk.out.up b1)
            clear b1
            go_upto_region 18 with fail
            obtain ⟨W2, hW2⟩ : ∃ W2, W2 = w1.alloc (.cells #[.int .i64 4, .string ⟨#[]⟩, .string C, .slice none 0 0, .bool false, .bool false, .bool false, .int .i64 (ahead.size : Int), .int .i64 (E : Int)] 25) := ⟨_, rfl⟩
            rw [← hW2]
            have tn : TkAt w1.heap.size 4 ⟨#[]⟩ C false (ahead.size : Int) (E : Int) W2 := by rw [hW2]; exact TkAt.new w1 _ _ _ _ _ _
            have tp : TkAt w.heap.size 4 ⟨#[]⟩ C false (ahead.size : Int) t W2 := by rw [hW2]; exact T1.out.up ((Below.refl _ w1).alloc (Nat.le_refl _) _)
            have B2 : Hid (Below w.heap.size w W2) := by show Below _ _ _; rw [hW2]; exact B1.out.alloc B1.out.size _
            have tq : TkAt w.heap.size 4 ⟨#[]⟩ C false (ahead.size : Int) (E : Int) (W2.setCell ⟨w.heap.size, 8, none⟩ (.int .i64 (E : Int))) := hset tp 8 _
            have TQ := Lib.hid tq
            have hne : ¬ w1.heap.size = w.heap.size := by have h1 := (Array.getElem?_eq_some_iff.1 T1.out).1; omega
            obtain ⟨⟨c0, c1, c2, c3, c4, c5, c6, c7, c8⟩, f0, f1, f2, f3, f4, f5, f6, f7, f8⟩ := nine tp
            obtain ⟨⟨d0, d1, d2, d3, d4, d5, d6, d7, d8⟩, _⟩ := nine tn
            clear tn tp tq hW2
            go_wp2_with fail
            refine (HSM.out _).mono ?_
            rintro e w3 ⟨rfl, b3⟩
            have B3 : Hid (Below w.heap.size w w3) := (B2.out.setCell (by exact Nat.le_refl _) _).trans (b3.mono (B2.out.setCell (by exact Nat.le_refl _) _).size)
            have T3 := Lib.hid (TQ.out.up b3)
            clear b3 c0 c1 c2 c3 c4 c5 c6 c7 c8 f0 f1 f2 f3 f4 f5 f6 f7 f8 d0 d1 d2 d3 d4 d5 d6 d7 d8
            go_wp2_with fail
            go_roundw
            case rel => exact ⟨3, _, rfl, by omega, T3.out, B3.out⟩
            case measure => simp [intOf]
          · obtain ⟨S, hS⟩ : ∃ S, ((ahead ++ (⟨#[60, 33, 45, 45]⟩ : ByteArray)) ++ s) ++ (⟨#[45, 45, 33]⟩ : ByteArray) = S := ⟨_, rfl⟩
            have hSl : S.data.toList = ahead.data.toList ++ (60 :: 33 :: 45 :: 45 :: (s.data.toList ++ (45 :: 45 :: 33 :: []))) := by rw [← hS]; simp [app_data, List.append_assoc]
            have hSs : S.size ≤ 5000 := by rw [← hS]; simp only [ByteArray.size_append, show (⟨#[60, 33, 45, 45]⟩ : ByteArray).size = 4 from rfl, show (⟨#[45, 45, 33]⟩ : ByteArray).size = 3 from rfl]; omega
            obtain ⟨E1, hE1⟩ : ∃ E, (ahead.size : Int) + 4 = E := ⟨_, rfl⟩
            obtain ⟨E2, hE2⟩ : ∃ E, E1 + (s.size : Int) = E := ⟨_, rfl⟩
            obtain ⟨E, hE⟩ : ∃ E, ahead.size + 4 + (s.data.toList.length + 3) = E := ⟨_, rfl⟩
            have hsl : s.data.toList.length = s.size := by simp
            have hE3 : E2 + 3 = (E : Int) := by omega
            have HC := Lib.hid (fun W (h : MaxOk m W) => comment_put S ahead s C (45 :: 45 :: 33 :: []) _ E m W hSl (by have := com_open HCA.out [45, 45, 33] (.inr (.inr (.inr rfl))); simpa using this) HCc.out hE hSs h)
            have HSM := Lib.hid (fun W => tk_same 4 (ahead.size : Int) (E : Int) ⟨#[]⟩ C false W)
            unfold tkV at HSM
            have ie := int_self' E
            clear hSl hSs hE hsl
            go_wp2_with fail
            refine (HC.out _ (HM.out.below HB.out)).mono ?_
            rintro e w1 ⟨rfl, b1⟩
            have B1 : Hid (Below w.heap.size w w1) := HB.out.trans (b1.mono HB.out.size)
            have T1 := Lib.hid (HTk.out.up b1)
            clear b1
            go_upto_region 18 with fail
            obtain ⟨W2, hW2⟩ : ∃ W2, W2 = w1.alloc (.cells #[.int .i64 4, .string ⟨#[]⟩, .string C, .slice none 0 0, .bool false, .bool false, .bool false, .int .i64 (ahead.size : Int), .int .i64 (E : Int)] 25) := ⟨_, rfl⟩
            rw [← hW2]
            have tn : TkAt w1.heap.size 4 ⟨#[]⟩ C false (ahead.size : Int) (E : Int) W2 := by rw [hW2]; exact TkAt.new w1 _ _ _ _ _ _
            have tp : TkAt w.heap.size 4 ⟨#[]⟩ C false (ahead.size : Int) t W2 := by rw [hW2]; exact T1.out.up ((Below.refl _ w1).alloc (Nat.le_refl _) _)
            have B2 : Hid (Below w.heap.size w W2) := by show Below _ _ _; rw [hW2]; exact B1.out.alloc B1.out.size _
            have tq : TkAt w.heap.size 4 ⟨#[]⟩ C false (ahead.size : Int) (E : Int) (W2.setCell ⟨w.heap.size, 8, none⟩ (.int .i64 (E : Int))) := hset tp 8 _
            have TQ := Lib.hid tq
            have hne : ¬ w1.heap.size = w.heap.size := by have h1 := (Array.getElem?_eq_some_iff.1 T1.out).1; omega
            obtain ⟨⟨c0, c1, c2, c3, c4, c5, c6, c7, c8⟩, f0, f1, f2, f3, f4, f5, f6, f7, f8⟩ := nine tp
            obtain ⟨⟨d0, d1, d2, d3, d4, d5, d6, d7, d8⟩, _⟩ := nine tn
            clear tn tp tq hW2
            go_wp2_with fail
            refine (HSM.out _).mono ?_
            rintro e w3 ⟨rfl, b3⟩
            have B3 : Hid (Below w.heap.size w w3) := (B2.out.setCell (by exact Nat.le_refl _) _).trans (b3.mono (B2.out.setCell (by exact Nat.le_refl _) _).size)
            have T3 := Lib.hid (TQ.out.up b3)
            clear b3 c0 c1 c2 c3 c4 c5 c6 c7 c8 f0 f1 f2 f3 f4 f5 f6 f7 f8 d0 d1 d2 d3 d4 d5 d6 d7 d8
            go_wp2_with fail
            go_roundw
            case rel => exact ⟨4, _, rfl, by omega, T3.out, B3.out⟩
            case measure => simp [intOf]
          · go_wp2_with fail
            refine (raw_any m _ (HT.out.below HB.out) (HM.out.below HB.out)).mono ?_
            rintro e w1 ⟨rfl, b1⟩
            go_wp2_with fail
            go_ret
            exact ⟨by exact rfl, HB.out.trans (b1.mono HB.out.size)⟩
end Go.Proofs.YtbpdmbmooboimaaDoor.R11
