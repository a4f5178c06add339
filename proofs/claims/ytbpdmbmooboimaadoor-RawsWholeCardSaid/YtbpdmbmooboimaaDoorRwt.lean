/- lazaretref11: Bogus, CData, Doctype. (Made by tools/gen/rwa.py.) lazaretref11: CData, Doctype. (Made by tools/gen/rwb.py.) -/
import Derived.Test.YtbpdmbmooboimaaDoorRwr
import Derived.Test.YtbpdmbmooboimaaDoorRws
import Derived.Deep.CutBlock
import Derived.Deep.DeepCutAuto
set_option linter.unusedVariables false
set_option linter.unusedSimpArgs false
namespace Go.Proofs.YtbpdmbmooboimaaDoor.R11
open Go.RowKit R9 T10


def fndI (l t : List UInt8) : Int := match fnd l t with | some i => (i : Int) | none => -1
theorem fndI_some {l t : List UInt8} {i : Nat} (h : fnd l t = some i) : fndI l t = (i : Int) := by unfold fndI; rw [h]
theorem fndI_none {l t : List UInt8} (h : fnd l t = none) : fndI l t = -1 := by unfold fndI; rw [h]
theorem fndZ0 (l t : List UInt8) : fndZ l t 0 = fndI l t := by
  unfold fndZ fndI
  rw [List.drop_zero]
  cases fnd l t with
  | none => rfl
  | some i => show ((0 + i : Nat) : Int) = i; omega
theorem fndZ_some {l t : List UInt8} {a i : Nat} (h : fnd (l.drop a) t = some i) : fndZ l t a = ((a + i : Nat) : Int) := by unfold fndZ; rw [h]
theorem fndZ_none {l t : List UInt8} {a : Nat} (h : fnd (l.drop a) t = none) : fndZ l t a = -1 := by unfold fndZ; rw [h]
theorem suf_no {r t : List UInt8} (h : r.length < t.length) : t.isSuffixOf r = false := by
  rw [suffix_take, decide_eq_false (by omega), Bool.false_and]
theorem suf_is (R X : ByteArray) (t : List UInt8) (N : Nat) (hl : N + t.length = R.size) (hX : R.extract N R.size = X) : (X.toList == t) = t.isSuffixOf R.data.toList := by
  have e : R.data.toList.length = R.size := by simp
  rw [suffix_take, e, decide_eq_true (by omega), Bool.true_and, show R.size - t.length = N by omega, ByteArray.toList_eq, ← hX, ext_tail]
theorem suf_one (R : ByteArray) (N : Nat) (c : UInt8) (hl : N + 1 = R.size) (hc : R.data.toList[N]? = some c) : ((c.toNat : Int) == 45) = [45].isSuffixOf R.data.toList := by
  have e : R.data.toList.length = R.size := by simp
  have hd : R.data.toList.drop N = [c] := by
    rw [List.drop_eq_getElem_cons (List.getElem?_eq_some_iff.1 hc).1, (List.getElem?_eq_some_iff.1 hc).2, List.drop_of_length_le (by omega)]
  rw [suffix_take, e, decide_eq_true (by simp; omega), Bool.true_and, show R.size - ([45] : List UInt8).length = N by simp; omega, hd]
  by_cases h : c = 45
  · rw [byte_is (z := 45) h rfl, h]; rfl
  · rw [byte_not (z := 45) h rfl]
    symm
    simpa using h

set_option maxHeartbeats 800000 in
set_option maxRecDepth 100000 in
theorem rBogus_no (s : ByteArray) (z m : Int) (w : World) (hs : s.size ≤ 300000) (hm : MaxOk m w) (hq : hasZ s bqF z = false) (he : hasZ s beF z = false) (hc : hasZ s bcF z = false) (hz : -9223372036854775808 ≤ z) (hz2 : z ≤ 9223372036854775807) :
    Calls Tryd.prog 14 #[.string s, .int .i64 z] w fun e w' => e = .returned (.tuple #[zTok, .int .i64 0]) ∧ Below w.heap.size w w' := by
  obtain ⟨W1, hW1⟩ : ∃ W1, W1 = w.alloc (.cells #[.int .i64 0, .string ⟨#[]⟩, .string ⟨#[]⟩, .slice none 0 0, .bool false, .bool false, .bool false, .int .i64 0, .int .i64 0] 25) := ⟨_, rfl⟩
  have ht := tokW w W1 hW1
  have HT := Lib.hid ht
  have HM : Hid (∀ W, Below W1.heap.size W1 W → MaxOk m W) := fun W hb => hm.below (ht.up hb)
  have HQ := Lib.hid (fun W => rstands_any s bqF z W (by omega) (by decide) (by decide))
  rw [hq] at HQ
  unfold bqF at HQ
  have HE := Lib.hid (fun W => rstands_any s beF z W (by omega) (by decide) (by decide))
  rw [he] at HE
  unfold beF at HE
  have HC := Lib.hid (fun W => rstands_any s bcF z W (by omega) (by decide) (by decide))
  rw [hc] at HC
  unfold bcF at HC
  have HW := Lib.hid hW1
  have HB0 : Hid (Below W1.heap.size W1 W1) := Below.refl _ _
  clear hW1 hm ht hq he hc
  go_enter Tryd.func14, Tryd.ntmps14
  go_upto_region 1 with fail
  rw [← HW.out]
  go_wp2_with fail
  refine (HQ.out _).mono ?_
  rintro e w2 ⟨rfl, b2⟩
  have B2 : Hid (Below W1.heap.size W1 w2) := HB0.out.trans (b2.mono HB0.out.size)
  clear b2
  go_wp2_with fail
  refine (HE.out _).mono ?_
  rintro e w3 ⟨rfl, b3⟩
  have B3 : Hid (Below W1.heap.size W1 w3) := B2.out.trans (b3.mono B2.out.size)
  clear b3
  go_wp2_with fail
  refine (HC.out _).mono ?_
  rintro e w4 ⟨rfl, b4⟩
  have B4 : Hid (Below W1.heap.size W1 w4) := B3.out.trans (b4.mono B3.out.size)
  clear b4
  obtain ⟨⟨c0, c1, c2, c3, c4, c5, c6, c7, c8⟩, f0, f1, f2, f3, f4, f5, f6, f7, f8⟩ := nine (HT.out.at B4.out)
  go_wp2_with fail
  refine bodyPost_ret (v := .tuple #[zTok, .int .i64 0]) ?_ rfl ?_
  · rw [results_cell_tmpR rfl]
    go_simp
    rfl
  · exact ⟨rfl, below_set9 (HT.out.up B4.out) _ _ _ _ _ _ _ _ _⟩

set_option maxHeartbeats 800000 in
set_option maxRecDepth 100000 in
theorem rBogus_q (s : ByteArray) (a : Nat) (m : Int) (w : World) (hs : s.size ≤ 300000) (hm : MaxOk m w) (hq : hasZ s bqF (a : Int) = true) :
    Calls Tryd.prog 14 #[.string s, .int .i64 (a : Int)] w fun e w' => e = .returned (.tuple #[tkV 4 ⟨#[]⟩ (bytesOf (cleanR (upL (s.data.toList.drop (a + 1)) [62]).1)) false a ((a + 1 + (upL (s.data.toList.drop (a + 1)) [62]).2.1 : Nat) : Int), .int .i64 ((a + 1 + (upL (s.data.toList.drop (a + 1)) [62]).2.1 : Nat) : Int)]) ∧ Below w.heap.size w w' := by
  obtain ⟨W1, hW1⟩ : ∃ W1, W1 = w.alloc (.cells #[.int .i64 0, .string ⟨#[]⟩, .string ⟨#[]⟩, .slice none 0 0, .bool false, .bool false, .bool false, .int .i64 0, .int .i64 0] 25) := ⟨_, rfl⟩
  have ht := tokW w W1 hW1
  have HT := Lib.hid ht
  have HM : Hid (∀ W, Below W1.heap.size W1 W → MaxOk m W) := fun W hb => hm.below (ht.up hb)
  have HQ := Lib.hid (fun W => rstands_any s bqF (a : Int) W (by omega) (by decide) (by decide))
  rw [hq] at HQ
  unfold bqF at HQ
  have hla : a + 2 ≤ s.size := hasZ_le hq (by decide)
  obtain ⟨A2, hA2⟩ : ∃ A, a + 2 = A := ⟨_, rfl⟩
  have i0 : (a : Int) + 2 = A2 := by omega
  obtain ⟨A, hA⟩ : ∃ A, a + 1 = A := ⟨_, rfl⟩
  have i1 : (a : Int) + 1 = A := by omega
  have i2 : (A : Int) ≤ s.size := by omega
  have HF := Lib.hid (fun W => rfindT_any s ⟨#[62]⟩ A W (by omega) (by decide) (by decide) (by omega))
  rw [show (⟨#[62]⟩ : ByteArray).data.toList = [62] from rfl] at HF
  rw [hA]
  unfold upL
  cases hf : fnd (s.data.toList.drop A) [62] with
  | some i =>
    have hi := (fnd_some hf).2.1
    rw [drop_size] at hi
    simp only [List.length_cons, List.length_nil] at hi
    rw [fndZ_some hf] at HF
    simp only []
    obtain ⟨P, hP⟩ : ∃ P, A + i = P := ⟨_, rfl⟩
    rw [hP] at HF
    have k1 : (P : Int) ≤ s.size := by omega
    have k2 : (A : Int) ≤ P := by omega
    have k3 : ¬ (P : Int) < 0 := by omega
    obtain ⟨X, hX⟩ : ∃ X, s.extract A P = X := ⟨_, rfl⟩
    have hTl : X.data.toList = (s.data.toList.drop A).take i := by rw [← hX, ext_toList, ← hP, Nat.add_sub_cancel_left]
    have hTs : X.size ≤ 300000 := by rw [← hX]; simp; omega
    have HCL := Lib.hid (fun W => rclean_any X W (by omega))
    rw [hTl] at HCL
    obtain ⟨C, hC⟩ : ∃ C, bytesOf (cleanR ((s.data.toList.drop A).take i)) = C := ⟨_, rfl⟩
    rw [hC] at HCL ⊢
    obtain ⟨E, hE⟩ : ∃ E, A + (i + [62].length) = E := ⟨_, rfl⟩
    have i3 : (P : Int) + 1 = E := by simp at hE; omega
    have i4 : (E : Int) ≤ 1000000 := by omega
    have hE' : A + (i + ([62] : List UInt8).length) = E := hE
    rw [hE']
    have HW := Lib.hid hW1
    have HB0 : Hid (Below W1.heap.size W1 W1) := Below.refl _ _
    clear hW1 hm ht hP hf hi hE' hA2 hA hTl hC hE
    go_enter Tryd.func14, Tryd.ntmps14
    go_upto_region 1 with fail
    rw [← HW.out]
    go_wp2_with fail
    refine (HQ.out _).mono ?_
    rintro e w2 ⟨rfl, b2⟩
    have B2 : Hid (Below W1.heap.size W1 w2) := HB0.out.trans (b2.mono HB0.out.size)
    clear b2
    go_wp2_with fail
    refine (HF.out _).mono ?_
    rintro e w3 ⟨rfl, rfl⟩
    go_wp2_with fail
    refine (HCL.out _).mono ?_
    rintro e w4 ⟨rfl, rfl⟩
    obtain ⟨⟨c0, c1, c2, c3, c4, c5, c6, c7, c8⟩, f0, f1, f2, f3, f4, f5, f6, f7, f8⟩ := nine (HT.out.at B2.out)
    go_wp2_with fail
    refine bodyPost_ret (v := .tuple #[tkV 4 ⟨#[]⟩ C false a E, .int .i64 (E : Int)]) ?_ rfl ?_
    · rw [results_cell_tmpR rfl]
      go_simp
      rfl
    · exact ⟨rfl, below_set9 (HT.out.up B2.out) _ _ _ _ _ _ _ _ _⟩
  | none =>
    rw [fndZ_none hf] at HF
    simp only []
    obtain ⟨X, hX⟩ : ∃ X, s.extract A s.size = X := ⟨_, rfl⟩
    have hTl : X.data.toList = s.data.toList.drop A := by rw [← hX]; exact ext_tail s A
    have hTs : X.size ≤ 300000 := by rw [← hX]; simp; omega
    have HCL := Lib.hid (fun W => rclean_any X W (by omega))
    rw [hTl] at HCL
    obtain ⟨C, hC⟩ : ∃ C, bytesOf (cleanR (s.data.toList.drop A)) = C := ⟨_, rfl⟩
    rw [hC] at HCL ⊢
    obtain ⟨E, hE⟩ : ∃ E, A + (s.data.toList.drop A).length = E := ⟨_, rfl⟩
    have hEs : E = s.size := by rw [← hE, drop_size]; omega
    rw [hE, hEs]
    have HW := Lib.hid hW1
    have HB0 : Hid (Below W1.heap.size W1 W1) := Below.refl _ _
    clear hW1 hm ht hf hEs hA2 hA hTl hC hE
    go_enter Tryd.func14, Tryd.ntmps14
    go_upto_region 1 with fail
    rw [← HW.out]
    go_wp2_with fail
    refine (HQ.out _).mono ?_
    rintro e w2 ⟨rfl, b2⟩
    have B2 : Hid (Below W1.heap.size W1 w2) := HB0.out.trans (b2.mono HB0.out.size)
    clear b2
    go_wp2_with fail
    refine (HF.out _).mono ?_
    rintro e w3 ⟨rfl, rfl⟩
    go_wp2_with fail
    refine (HCL.out _).mono ?_
    rintro e w4 ⟨rfl, rfl⟩
    obtain ⟨⟨c0, c1, c2, c3, c4, c5, c6, c7, c8⟩, f0, f1, f2, f3, f4, f5, f6, f7, f8⟩ := nine (HT.out.at B2.out)
    go_wp2_with fail
    refine bodyPost_ret (v := .tuple #[tkV 4 ⟨#[]⟩ C false a s.size, .int .i64 (s.size : Int)]) ?_ rfl ?_
    · rw [results_cell_tmpR rfl]
      go_simp
      rfl
    · exact ⟨rfl, below_set9 (HT.out.up B2.out) _ _ _ _ _ _ _ _ _⟩

set_option maxHeartbeats 800000 in
set_option maxRecDepth 100000 in
theorem rBogus_e (s : ByteArray) (a : Nat) (m : Int) (w : World) (hs : s.size ≤ 300000) (hm : MaxOk m w) (hq : hasZ s bqF (a : Int) = false) (he : hasZ s beF (a : Int) = true) :
    Calls Tryd.prog 14 #[.string s, .int .i64 (a : Int)] w fun e w' => e = .returned (.tuple #[tkV 4 ⟨#[]⟩ (bytesOf (cleanR (upL (s.data.toList.drop (a + 2)) [62]).1)) false a ((a + 2 + (upL (s.data.toList.drop (a + 2)) [62]).2.1 : Nat) : Int), .int .i64 ((a + 2 + (upL (s.data.toList.drop (a + 2)) [62]).2.1 : Nat) : Int)]) ∧ Below w.heap.size w w' := by
  obtain ⟨W1, hW1⟩ : ∃ W1, W1 = w.alloc (.cells #[.int .i64 0, .string ⟨#[]⟩, .string ⟨#[]⟩, .slice none 0 0, .bool false, .bool false, .bool false, .int .i64 0, .int .i64 0] 25) := ⟨_, rfl⟩
  have ht := tokW w W1 hW1
  have HT := Lib.hid ht
  have HM : Hid (∀ W, Below W1.heap.size W1 W → MaxOk m W) := fun W hb => hm.below (ht.up hb)
  have HQ := Lib.hid (fun W => rstands_any s bqF (a : Int) W (by omega) (by decide) (by decide))
  rw [hq] at HQ
  unfold bqF at HQ
  have HE := Lib.hid (fun W => rstands_any s beF (a : Int) W (by omega) (by decide) (by decide))
  rw [he] at HE
  unfold beF at HE
  have hla : a + 2 ≤ s.size := hasZ_le he (by decide)
  obtain ⟨A, hA⟩ : ∃ A, a + 2 = A := ⟨_, rfl⟩
  have i1 : (a : Int) + 2 = A := by omega
  have i2 : (A : Int) ≤ s.size := by omega
  have HF := Lib.hid (fun W => rfindT_any s ⟨#[62]⟩ A W (by omega) (by decide) (by decide) (by omega))
  rw [show (⟨#[62]⟩ : ByteArray).data.toList = [62] from rfl] at HF
  rw [hA]
  unfold upL
  cases hf : fnd (s.data.toList.drop A) [62] with
  | some i =>
    have hi := (fnd_some hf).2.1
    rw [drop_size] at hi
    simp only [List.length_cons, List.length_nil] at hi
    rw [fndZ_some hf] at HF
    simp only []
    obtain ⟨P, hP⟩ : ∃ P, A + i = P := ⟨_, rfl⟩
    rw [hP] at HF
    have k1 : (P : Int) ≤ s.size := by omega
    have k2 : (A : Int) ≤ P := by omega
    have k3 : ¬ (P : Int) < 0 := by omega
    obtain ⟨X, hX⟩ : ∃ X, s.extract A P = X := ⟨_, rfl⟩
    have hTl : X.data.toList = (s.data.toList.drop A).take i := by rw [← hX, ext_toList, ← hP, Nat.add_sub_cancel_left]
    have hTs : X.size ≤ 300000 := by rw [← hX]; simp; omega
    have HCL := Lib.hid (fun W => rclean_any X W (by omega))
    rw [hTl] at HCL
    obtain ⟨C, hC⟩ : ∃ C, bytesOf (cleanR ((s.data.toList.drop A).take i)) = C := ⟨_, rfl⟩
    rw [hC] at HCL ⊢
    obtain ⟨E, hE⟩ : ∃ E, A + (i + [62].length) = E := ⟨_, rfl⟩
    have i3 : (P : Int) + 1 = E := by simp at hE; omega
    have i4 : (E : Int) ≤ 1000000 := by omega
    have hE' : A + (i + ([62] : List UInt8).length) = E := hE
    rw [hE']
    have HW := Lib.hid hW1
    have HB0 : Hid (Below W1.heap.size W1 W1) := Below.refl _ _
    clear hW1 hm ht hP hf hi hE' hA hTl hC hE
    go_enter Tryd.func14, Tryd.ntmps14
    go_upto_region 1 with fail
    rw [← HW.out]
    go_wp2_with fail
    refine (HQ.out _).mono ?_
    rintro e w2 ⟨rfl, b2⟩
    have B2 : Hid (Below W1.heap.size W1 w2) := HB0.out.trans (b2.mono HB0.out.size)
    clear b2
    go_wp2_with fail
    refine (HE.out _).mono ?_
    rintro e w3 ⟨rfl, b3⟩
    have B3 : Hid (Below W1.heap.size W1 w3) := B2.out.trans (b3.mono B2.out.size)
    clear b3
    go_wp2_with fail
    refine (HF.out _).mono ?_
    rintro e w4 ⟨rfl, rfl⟩
    go_wp2_with fail
    refine (HCL.out _).mono ?_
    rintro e w5 ⟨rfl, rfl⟩
    obtain ⟨⟨c0, c1, c2, c3, c4, c5, c6, c7, c8⟩, f0, f1, f2, f3, f4, f5, f6, f7, f8⟩ := nine (HT.out.at B3.out)
    go_wp2_with fail
    refine bodyPost_ret (v := .tuple #[tkV 4 ⟨#[]⟩ C false a E, .int .i64 (E : Int)]) ?_ rfl ?_
    · rw [results_cell_tmpR rfl]
      go_simp
      rfl
    · exact ⟨rfl, below_set9 (HT.out.up B3.out) _ _ _ _ _ _ _ _ _⟩
  | none =>
    rw [fndZ_none hf] at HF
    simp only []
    obtain ⟨X, hX⟩ : ∃ X, s.extract A s.size = X := ⟨_, rfl⟩
    have hTl : X.data.toList = s.data.toList.drop A := by rw [← hX]; exact ext_tail s A
    have hTs : X.size ≤ 300000 := by rw [← hX]; simp; omega
    have HCL := Lib.hid (fun W => rclean_any X W (by omega))
    rw [hTl] at HCL
    obtain ⟨C, hC⟩ : ∃ C, bytesOf (cleanR (s.data.toList.drop A)) = C := ⟨_, rfl⟩
    rw [hC] at HCL ⊢
    obtain ⟨E, hE⟩ : ∃ E, A + (s.data.toList.drop A).length = E := ⟨_, rfl⟩
    have hEs : E = s.size := by rw [← hE, drop_size]; omega
    rw [hE, hEs]
    have HW := Lib.hid hW1
    have HB0 : Hid (Below W1.heap.size W1 W1) := Below.refl _ _
    clear hW1 hm ht hf hEs hA hTl hC hE
    go_enter Tryd.func14, Tryd.ntmps14
    go_upto_region 1 with fail
    rw [← HW.out]
    go_wp2_with fail
    refine (HQ.out _).mono ?_
    rintro e w2 ⟨rfl, b2⟩
    have B2 : Hid (Below W1.heap.size W1 w2) := HB0.out.trans (b2.mono HB0.out.size)
    clear b2
    go_wp2_with fail
    refine (HE.out _).mono ?_
    rintro e w3 ⟨rfl, b3⟩
    have B3 : Hid (Below W1.heap.size W1 w3) := B2.out.trans (b3.mono B2.out.size)
    clear b3
    go_wp2_with fail
    refine (HF.out _).mono ?_
    rintro e w4 ⟨rfl, rfl⟩
    go_wp2_with fail
    refine (HCL.out _).mono ?_
    rintro e w5 ⟨rfl, rfl⟩
    obtain ⟨⟨c0, c1, c2, c3, c4, c5, c6, c7, c8⟩, f0, f1, f2, f3, f4, f5, f6, f7, f8⟩ := nine (HT.out.at B3.out)
    go_wp2_with fail
    refine bodyPost_ret (v := .tuple #[tkV 4 ⟨#[]⟩ C false a s.size, .int .i64 (s.size : Int)]) ?_ rfl ?_
    · rw [results_cell_tmpR rfl]
      go_simp
      rfl
    · exact ⟨rfl, below_set9 (HT.out.up B3.out) _ _ _ _ _ _ _ _ _⟩

set_option maxHeartbeats 800000 in
set_option maxRecDepth 100000 in
theorem rBogus_c (s : ByteArray) (a : Nat) (m : Int) (w : World) (hs : s.size ≤ 300000) (hm : MaxOk m w) (hq : hasZ s bqF (a : Int) = false) (he : hasZ s beF (a : Int) = false) (hc : hasZ s bcF (a : Int) = true) :
    Calls Tryd.prog 14 #[.string s, .int .i64 (a : Int)] w fun e w' => e = .returned (.tuple #[tkV 4 ⟨#[]⟩ (bytesOf (cleanR (upL (s.data.toList.drop (a + 2)) [62]).1)) false a ((a + 2 + (upL (s.data.toList.drop (a + 2)) [62]).2.1 : Nat) : Int), .int .i64 ((a + 2 + (upL (s.data.toList.drop (a + 2)) [62]).2.1 : Nat) : Int)]) ∧ Below w.heap.size w w' := by
  obtain ⟨W1, hW1⟩ : ∃ W1, W1 = w.alloc (.cells #[.int .i64 0, .string ⟨#[]⟩, .string ⟨#[]⟩, .slice none 0 0, .bool false, .bool false, .bool false, .int .i64 0, .int .i64 0] 25) := ⟨_, rfl⟩
  have ht := tokW w W1 hW1
  have HT := Lib.hid ht
  have HM : Hid (∀ W, Below W1.heap.size W1 W → MaxOk m W) := fun W hb => hm.below (ht.up hb)
  have HQ := Lib.hid (fun W => rstands_any s bqF (a : Int) W (by omega) (by decide) (by decide))
  rw [hq] at HQ
  unfold bqF at HQ
  have HE := Lib.hid (fun W => rstands_any s beF (a : Int) W (by omega) (by decide) (by decide))
  rw [he] at HE
  unfold beF at HE
  have HC := Lib.hid (fun W => rstands_any s bcF (a : Int) W (by omega) (by decide) (by decide))
  rw [hc] at HC
  unfold bcF at HC
  have hla : a + 2 ≤ s.size := hasZ_le hc (by decide)
  obtain ⟨A, hA⟩ : ∃ A, a + 2 = A := ⟨_, rfl⟩
  have i1 : (a : Int) + 2 = A := by omega
  have i2 : (A : Int) ≤ s.size := by omega
  have HF := Lib.hid (fun W => rfindT_any s ⟨#[62]⟩ A W (by omega) (by decide) (by decide) (by omega))
  rw [show (⟨#[62]⟩ : ByteArray).data.toList = [62] from rfl] at HF
  rw [hA]
  unfold upL
  cases hf : fnd (s.data.toList.drop A) [62] with
  | some i =>
    have hi := (fnd_some hf).2.1
    rw [drop_size] at hi
    simp only [List.length_cons, List.length_nil] at hi
    rw [fndZ_some hf] at HF
    simp only []
    obtain ⟨P, hP⟩ : ∃ P, A + i = P := ⟨_, rfl⟩
    rw [hP] at HF
    have k1 : (P : Int) ≤ s.size := by omega
    have k2 : (A : Int) ≤ P := by omega
    have k3 : ¬ (P : Int) < 0 := by omega
    obtain ⟨X, hX⟩ : ∃ X, s.extract A P = X := ⟨_, rfl⟩
    have hTl : X.data.toList = (s.data.toList.drop A).take i := by rw [← hX, ext_toList, ← hP, Nat.add_sub_cancel_left]
    have hTs : X.size ≤ 300000 := by rw [← hX]; simp; omega
    have HCL := Lib.hid (fun W => rclean_any X W (by omega))
    rw [hTl] at HCL
    obtain ⟨C, hC⟩ : ∃ C, bytesOf (cleanR ((s.data.toList.drop A).take i)) = C := ⟨_, rfl⟩
    rw [hC] at HCL ⊢
    obtain ⟨E, hE⟩ : ∃ E, A + (i + [62].length) = E := ⟨_, rfl⟩
    have i3 : (P : Int) + 1 = E := by simp at hE; omega
    have i4 : (E : Int) ≤ 1000000 := by omega
    have hE' : A + (i + ([62] : List UInt8).length) = E := hE
    rw [hE']
    have HW := Lib.hid hW1
    have HB0 : Hid (Below W1.heap.size W1 W1) := Below.refl _ _
    clear hW1 hm ht hP hf hi hE' hA hTl hC hE
    go_enter Tryd.func14, Tryd.ntmps14
    go_upto_region 1 with fail
    rw [← HW.out]
    go_wp2_with fail
    refine (HQ.out _).mono ?_
    rintro e w2 ⟨rfl, b2⟩
    have B2 : Hid (Below W1.heap.size W1 w2) := HB0.out.trans (b2.mono HB0.out.size)
    clear b2
    go_wp2_with fail
    refine (HE.out _).mono ?_
    rintro e w3 ⟨rfl, b3⟩
    have B3 : Hid (Below W1.heap.size W1 w3) := B2.out.trans (b3.mono B2.out.size)
    clear b3
    go_wp2_with fail
    refine (HC.out _).mono ?_
    rintro e w4 ⟨rfl, b4⟩
    have B4 : Hid (Below W1.heap.size W1 w4) := B3.out.trans (b4.mono B3.out.size)
    clear b4
    go_wp2_with fail
    refine (HF.out _).mono ?_
    rintro e w5 ⟨rfl, rfl⟩
    go_wp2_with fail
    refine (HCL.out _).mono ?_
    rintro e w6 ⟨rfl, rfl⟩
    obtain ⟨⟨c0, c1, c2, c3, c4, c5, c6, c7, c8⟩, f0, f1, f2, f3, f4, f5, f6, f7, f8⟩ := nine (HT.out.at B4.out)
    go_wp2_with fail
    refine bodyPost_ret (v := .tuple #[tkV 4 ⟨#[]⟩ C false a E, .int .i64 (E : Int)]) ?_ rfl ?_
    · rw [results_cell_tmpR rfl]
      go_simp
      rfl
    · exact ⟨rfl, below_set9 (HT.out.up B4.out) _ _ _ _ _ _ _ _ _⟩
  | none =>
    rw [fndZ_none hf] at HF
    simp only []
    obtain ⟨X, hX⟩ : ∃ X, s.extract A s.size = X := ⟨_, rfl⟩
    have hTl : X.data.toList = s.data.toList.drop A := by rw [← hX]; exact ext_tail s A
    have hTs : X.size ≤ 300000 := by rw [← hX]; simp; omega
    have HCL := Lib.hid (fun W => rclean_any X W (by omega))
    rw [hTl] at HCL
    obtain ⟨C, hC⟩ : ∃ C, bytesOf (cleanR (s.data.toList.drop A)) = C := ⟨_, rfl⟩
    rw [hC] at HCL ⊢
    obtain ⟨E, hE⟩ : ∃ E, A + (s.data.toList.drop A).length = E := ⟨_, rfl⟩
    have hEs : E = s.size := by rw [← hE, drop_size]; omega
    rw [hE, hEs]
    have HW := Lib.hid hW1
    have HB0 : Hid (Below W1.heap.size W1 W1) := Below.refl _ _
    clear hW1 hm ht hf hEs hA hTl hC hE
    go_enter Tryd.func14, Tryd.ntmps14
    go_upto_region 1 with fail
    rw [← HW.out]
    go_wp2_with fail
    refine (HQ.out _).mono ?_
    rintro e w2 ⟨rfl, b2⟩
    have B2 : Hid (Below W1.heap.size W1 w2) := HB0.out.trans (b2.mono HB0.out.size)
    clear b2
    go_wp2_with fail
    refine (HE.out _).mono ?_
    rintro e w3 ⟨rfl, b3⟩
    have B3 : Hid (Below W1.heap.size W1 w3) := B2.out.trans (b3.mono B2.out.size)
    clear b3
    go_wp2_with fail
    refine (HC.out _).mono ?_
    rintro e w4 ⟨rfl, b4⟩
    have B4 : Hid (Below W1.heap.size W1 w4) := B3.out.trans (b4.mono B3.out.size)
    clear b4
    go_wp2_with fail
    refine (HF.out _).mono ?_
    rintro e w5 ⟨rfl, rfl⟩
    go_wp2_with fail
    refine (HCL.out _).mono ?_
    rintro e w6 ⟨rfl, rfl⟩
    obtain ⟨⟨c0, c1, c2, c3, c4, c5, c6, c7, c8⟩, f0, f1, f2, f3, f4, f5, f6, f7, f8⟩ := nine (HT.out.at B4.out)
    go_wp2_with fail
    refine bodyPost_ret (v := .tuple #[tkV 4 ⟨#[]⟩ C false a s.size, .int .i64 (s.size : Int)]) ?_ rfl ?_
    · rw [results_cell_tmpR rfl]
      go_simp
      rfl
    · exact ⟨rfl, below_set9 (HT.out.up B4.out) _ _ _ _ _ _ _ _ _⟩
end Go.Proofs.YtbpdmbmooboimaaDoor.R11
set_option linter.unusedVariables false
set_option linter.unusedSimpArgs false
namespace Go.Proofs.YtbpdmbmooboimaaDoor.R11
open Go.RowKit R9 T10


def cdL : ByteArray := ⟨#[60, 33, 91, 99, 100, 97, 116, 97, 91]⟩
theorem cd_low {r : List UInt8} (h : cdF.data.toList.isPrefixOf r = true) : hasL r cdL.data.toList = true := by
  obtain ⟨t, rfl⟩ := List.isPrefixOf_iff_prefix.1 h
  exact has_low _ _ _ (by decide)
theorem cd_slice (s X : ByteArray) (a A : Nat) (hA : a + 9 = A) (hs : A ≤ s.size) (hX : s.extract a A = X) : (X.toList == cdF.data.toList) = cdF.data.toList.isPrefixOf (s.data.toList.drop a) := by
  have e : cdF.data.toList.length = 9 := rfl
  rw [prefix_take, e, drop_size, decide_eq_true (by omega), Bool.true_and, ByteArray.toList_eq, ← hX, ext_toList, ← hA, Nat.add_sub_cancel_left]
set_option maxHeartbeats 1600000 in
theorem rCData_no (s : ByteArray) (z : Int) (w : World) (hs : s.size ≤ 300000) (h : 0 ≤ z → cdF.data.toList.isPrefixOf (s.data.toList.drop z.toNat) = false) :
    Calls Tryd.prog 18 #[.string s, .int .i64 z] w fun e w' => e = .returned (.tuple #[.string ⟨#[]⟩, .int .i64 0]) ∧ Below w.heap.size w w' := by
  have HS := Lib.hid (fun W => rstands_any s cdL z W (by omega) (by decide) (by decide))
  cases hz : hasZ s cdL z with
  | false =>
    rw [hz] at HS
    unfold cdL at HS
    clear hz h
    go_enter Tryd.func18, Tryd.ntmps18
    go_wp2_with fail
    refine (HS.out _).mono ?_
    rintro e w1 ⟨rfl, b1⟩
    have B1 : Hid (Below w.heap.size w w1) := b1
    clear b1
    go_wp2_with fail
    go_ret2
    exact ⟨rfl, B1.out⟩
  | true =>
    rw [hz] at HS
    unfold cdL at HS
    have h0 : 0 ≤ z := by
      unfold hasZ at hz
      simp at hz
      exact hz.1
    obtain ⟨a, rfl⟩ : ∃ a : Nat, z = (a : Int) := ⟨z.toNat, by omega⟩
    have hla : a + 9 ≤ s.size := hasZ_le hz (by decide)
    have h2 := h (by omega)
    rw [Int.toNat_natCast] at h2
    obtain ⟨A, hA⟩ : ∃ A, a + 9 = A := ⟨_, rfl⟩
    have i1 : (a : Int) + 9 = A := by omega
    have i2 : (A : Int) ≤ s.size := by omega
    have i3 : (a : Int) ≤ A := by omega
    obtain ⟨X, hX⟩ : ∃ X, s.extract a A = X := ⟨_, rfl⟩
    have q := cd_slice s X a A hA (by omega) hX
    rw [h2, cdF_l] at q
    have q' : (X.toList != [60, 33, 91, 67, 68, 65, 84, 65, 91]) = true := by unfold bne; rw [q]; rfl
    clear h h2 hz hA
    go_enter Tryd.func18, Tryd.ntmps18
    go_wp2_with fail
    refine (HS.out _).mono ?_
    rintro e w1 ⟨rfl, b1⟩
    have B1 : Hid (Below w.heap.size w w1) := b1
    clear b1
    go_wp2_with fail
    go_ret2
    exact ⟨rfl, B1.out⟩
set_option maxHeartbeats 1600000 in
theorem rCData_yes (s : ByteArray) (a : Nat) (w : World) (hs : s.size ≤ 300000) (h : cdF.data.toList.isPrefixOf (s.data.toList.drop a) = true) :
    Calls Tryd.prog 18 #[.string s, .int .i64 (a : Int)] w fun e w' => e = .returned (.tuple #[.string (bytesOf (upL (s.data.toList.drop (a + 9)) [93, 93, 62]).1), .int .i64 ((a + 9 + (upL (s.data.toList.drop (a + 9)) [93, 93, 62]).2.1 : Nat) : Int)]) ∧ Below w.heap.size w w' := by
  have hz : hasZ s cdL (a : Int) = true := by rw [hasZ_nat]; exact cd_low h
  have HS := Lib.hid (fun W => rstands_any s cdL (a : Int) W (by omega) (by decide) (by decide))
  rw [hz] at HS
  unfold cdL at HS
  have hla : a + 9 ≤ s.size := hasZ_le hz (by decide)
  obtain ⟨A, hA⟩ : ∃ A, a + 9 = A := ⟨_, rfl⟩
  have i1 : (a : Int) + 9 = A := by omega
  have i2 : (A : Int) ≤ s.size := by omega
  have i3 : (a : Int) ≤ A := by omega
  obtain ⟨X, hX⟩ : ∃ X, s.extract a A = X := ⟨_, rfl⟩
  have q := cd_slice s X a A hA (by omega) hX
  rw [h, cdF_l] at q
  have q' : (X.toList != [60, 33, 91, 67, 68, 65, 84, 65, 91]) = false := by unfold bne; rw [q]; rfl
  have HF := Lib.hid (fun W => rfindT_any s ⟨#[93, 93, 62]⟩ A W (by omega) (by decide) (by decide) (by omega))
  rw [show (⟨#[93, 93, 62]⟩ : ByteArray).data.toList = [93, 93, 62] from rfl] at HF
  rw [hA]
  unfold upL
  cases hf : fnd (s.data.toList.drop A) [93, 93, 62] with
  | some i =>
    have hi := (fnd_some hf).2.1
    rw [drop_size] at hi
    simp only [List.length_cons, List.length_nil] at hi
    rw [fndZ_some hf] at HF
    simp only []
    obtain ⟨P, hP⟩ : ∃ P, A + i = P := ⟨_, rfl⟩
    rw [hP] at HF
    have k1 : (P : Int) ≤ s.size := by omega
    have k2 : (A : Int) ≤ P := by omega
    have k3 : ¬ (P : Int) < 0 := by omega
    have hT : bytesOf ((s.data.toList.drop A).take i) = s.extract A P := by apply ba_ext0; rw [bytesOf_data, ext_toList, ← hP, Nat.add_sub_cancel_left]
    rw [hT]
    obtain ⟨E, hE⟩ : ∃ E, A + (i + ([93, 93, 62] : List UInt8).length) = E := ⟨_, rfl⟩
    have i4 : (P : Int) + 3 = E := by simp at hE; omega
    rw [hE]
    clear h hz hA hf hi hP hT hE
    go_enter Tryd.func18, Tryd.ntmps18
    go_wp2_with fail
    refine (HS.out _).mono ?_
    rintro e w1 ⟨rfl, b1⟩
    have B1 : Hid (Below w.heap.size w w1) := b1
    clear b1
    go_wp2_with fail
    refine (HF.out _).mono ?_
    rintro e w2 ⟨rfl, rfl⟩
    go_wp2_with fail
    go_ret2
    exact ⟨rfl, B1.out⟩
  | none =>
    rw [fndZ_none hf] at HF
    simp only []
    have hT : bytesOf (s.data.toList.drop A) = s.extract A s.size := by apply ba_ext0; rw [bytesOf_data, ext_tail]
    rw [hT]
    have hEs : A + (s.data.toList.drop A).length = s.size := by rw [drop_size]; omega
    rw [hEs]
    clear h hz hA hf hT hEs
    go_enter Tryd.func18, Tryd.ntmps18
    go_wp2_with fail
    refine (HS.out _).mono ?_
    rintro e w1 ⟨rfl, b1⟩
    have B1 : Hid (Below w.heap.size w w1) := b1
    clear b1
    go_wp2_with fail
    refine (HF.out _).mono ?_
    rintro e w2 ⟨rfl, rfl⟩
    go_wp2_with fail
    go_ret2
    exact ⟨rfl, B1.out⟩

set_option maxHeartbeats 800000 in
set_option maxRecDepth 100000 in
theorem rDoctype_no (s : ByteArray) (z m : Int) (w : World) (hs : s.size ≤ 300000) (hm : MaxOk m w) (h : hasZ s dtF z = false) :
    Calls Tryd.prog 16 #[.string s, .int .i64 z] w fun e w' => e = .returned (.tuple #[zTok, .int .i64 0]) ∧ Below w.heap.size w w' := by
  obtain ⟨W1, hW1⟩ : ∃ W1, W1 = w.alloc (.cells #[.int .i64 0, .string ⟨#[]⟩, .string ⟨#[]⟩, .slice none 0 0, .bool false, .bool false, .bool false, .int .i64 0, .int .i64 0] 25) := ⟨_, rfl⟩
  have ht := tokW w W1 hW1
  have HT := Lib.hid ht
  have HM : Hid (∀ W, Below W1.heap.size W1 W → MaxOk m W) := fun W hb => hm.below (ht.up hb)
  have HS := Lib.hid (fun W => rstands_any s dtF z W (by omega) (by decide) (by decide))
  rw [h] at HS
  unfold dtF at HS
  have HW := Lib.hid hW1
  have HB0 : Hid (Below W1.heap.size W1 W1) := Below.refl _ _
  clear hW1 hm ht h
  go_enter Tryd.func16, Tryd.ntmps16
  go_upto_region 1 with fail
  rw [← HW.out]
  go_wp2_with fail
  refine (HS.out _).mono ?_
  rintro e w2 ⟨rfl, b2⟩
  have B2 : Hid (Below W1.heap.size W1 w2) := HB0.out.trans (b2.mono HB0.out.size)
  clear b2
  obtain ⟨⟨c0, c1, c2, c3, c4, c5, c6, c7, c8⟩, f0, f1, f2, f3, f4, f5, f6, f7, f8⟩ := nine (HT.out.at B2.out)
  go_wp2_with fail
  refine bodyPost_ret (v := .tuple #[zTok, .int .i64 0]) ?_ rfl ?_
  · rw [results_cell_tmpR rfl]
    go_simp
    rfl
  · exact ⟨rfl, below_set9 (HT.out.up B2.out) _ _ _ _ _ _ _ _ _⟩

set_option maxHeartbeats 6400000 in
set_option maxRecDepth 100000 in
theorem rDoctype_yes (s : ByteArray) (a : Nat) (m : Int) (w : World) (hs : s.size ≤ 300000) (hm : MaxOk m w) (h : hasZ s dtF (a : Int) = true) :
    Calls Tryd.prog 16 #[.string s, .int .i64 (a : Int)] w fun e w' => e = .returned (.tuple #[tkV 1 (bytesOf (docL (s.data.toList.drop (a + 9))).1) ⟨#[]⟩ (docL (s.data.toList.drop (a + 9))).2.1 a ((a + 9 + (docL (s.data.toList.drop (a + 9))).2.2 : Nat) : Int), .int .i64 ((a + 9 + (docL (s.data.toList.drop (a + 9))).2.2 : Nat) : Int)]) ∧ Below w.heap.size w w' := by
  obtain ⟨W1, hW1⟩ : ∃ W1, W1 = w.alloc (.cells #[.int .i64 0, .string ⟨#[]⟩, .string ⟨#[]⟩, .slice none 0 0, .bool false, .bool false, .bool false, .int .i64 0, .int .i64 0] 25) := ⟨_, rfl⟩
  have ht := tokW w W1 hW1
  have HT := Lib.hid ht
  have HM : Hid (∀ W, Below W1.heap.size W1 W → MaxOk m W) := fun W hb => hm.below (ht.up hb)
  have HS := Lib.hid (fun W => rstands_any s dtF (a : Int) W (by omega) (by decide) (by decide))
  rw [h] at HS
  unfold dtF at HS
  have hla : a + 9 ≤ s.size := hasZ_le h (by decide)
  have hD : hasL (s.data.toList.drop a) docF = true := by rw [hasZ_nat] at h; exact h
  obtain ⟨A, hA⟩ : ∃ A, a + 9 = A := ⟨_, rfl⟩
  have i1 : (a : Int) + 9 = A := by omega
  have i2 : (A : Int) ≤ s.size := by omega
  have HF := Lib.hid (fun W => rfindT_any s ⟨#[62]⟩ a W (by omega) (by decide) (by decide) (by omega))
  rw [show (⟨#[62]⟩ : ByteArray).data.toList = [62] from rfl] at HF
  have hfd := doc_find hD
  rw [List.drop_drop, hA] at hfd
  rw [hA]
  unfold docL
  obtain ⟨tx, TO, NX, J, en, hJ, hTO, hNX, htx, htl, hu⟩ : ∃ (tx : List UInt8) (TO NX : Nat) (J : Int) (en : Bool), fndZ s.data.toList [62] a = J ∧ (if en = true then J = (TO : Int) else J = -1 ∧ TO = s.size) ∧ (if en = true then TO + 1 = NX else NX = s.size) ∧ (∀ m, m < tx.length → tx[m]? = s.data.toList[A + m]?) ∧ A + tx.length = TO ∧ TO ≤ s.size ∧ upL (s.data.toList.drop A) [62] = (tx, NX - A, en) ∧ A ≤ NX ∧ NX ≤ s.size := by
    cases hf : fnd (s.data.toList.drop A) [62] with
    | some i =>
      have hi := (fnd_some hf).2.1
      rw [drop_size] at hi
      simp only [List.length_cons, List.length_nil] at hi
      rw [hf] at hfd
      have hz : fndZ s.data.toList [62] a = ((a + (i + 9) : Nat) : Int) := fndZ_some hfd
      refine ⟨(s.data.toList.drop A).take i, A + i, A + i + 1, ((A + i : Nat) : Int), true, ?_, by simp, by simp, ?_, ?_, by omega, ?_, by omega, by omega⟩
      · rw [hz]; omega
      · intro m hm
        rw [List.length_take] at hm
        rw [List.getElem?_take, if_pos (by omega), List.getElem?_drop]
      · rw [List.length_take, drop_size]; omega
      · unfold upL
        rw [hf]
        show (_, i + 1, true) = _
        rw [show A + i + 1 - A = i + 1 by omega]
    | none =>
      rw [hf] at hfd
      have hz := fndZ_none hfd
      refine ⟨s.data.toList.drop A, s.size, s.size, -1, false, hz, by simp, by simp, ?_, ?_, Nat.le_refl _, ?_, by omega, Nat.le_refl _⟩
      · intro m hm
        rw [List.getElem?_drop]
      · rw [drop_size]; omega
      · unfold upL
        rw [hf]
        show (_, _, false) = _
        rw [drop_size]
  obtain ⟨hTs, hu, hN1, hN2⟩ := hu
  rw [hu]
  simp only []
  rw [hJ] at HF
  have hes : A + (NX - A) = NX := by omega
  rw [hes]
  obtain ⟨t1, ht1⟩ : ∃ t1, tx.drop (skipN tx) = t1 := ⟨_, rfl⟩
  have hsk : skipN tx ≤ tx.length := by unfold skipN; exact (List.takeWhile_prefix _).length_le
  have ht1l : t1.length = tx.length - skipN tx := by rw [← ht1, List.length_drop]
  rw [ht1, ← nameN_take]
  have hnl := nameN_le t1
  rw [show (t1.take (nameN t1)).length = nameN t1 by rw [List.length_take]; omega]
  obtain ⟨rs, hrs⟩ : ∃ rs, t1.drop (nameN t1) = rs := ⟨_, rfl⟩
  have hrsl : rs.length = t1.length - nameN t1 := by rw [← hrs, List.length_drop]
  have hsk2 : skipN rs ≤ rs.length := by unfold skipN; exact (List.takeWhile_prefix _).length_le
  obtain ⟨F0, hF0⟩ : ∃ F, A + skipN tx = F := ⟨_, rfl⟩
  obtain ⟨F1, hF1⟩ : ∃ F, F0 + nameN t1 = F := ⟨_, rfl⟩
  obtain ⟨F2, hF2⟩ : ∃ F, F1 + skipN rs = F := ⟨_, rfl⟩
  have hTxi : ∀ m, m < tx.length → tx[m]? = s.data.toList[A + m]? := htx
  have hnm : bytesOf (t1.take (nameN t1)) = s.extract F0 F1 := by
    apply ba_ext0
    rw [bytesOf_data, ext_toList]
    apply List.ext_getElem?
    intro m
    rw [List.getElem?_take, List.getElem?_take, List.getElem?_drop]
    by_cases hm : m < nameN t1
    · rw [if_pos hm, if_pos (by omega), ← ht1, List.getElem?_drop, hTxi _ (by omega)]
      congr 1
      omega
    · rw [if_neg hm, if_neg (by omega)]
  obtain ⟨nm, hnm0⟩ : ∃ nm, t1.take (nameN t1) = nm := ⟨_, rfl⟩
  have hnml : nm.length = nameN t1 := by rw [← hnm0, List.length_take]; omega
  rw [hnm0] at hnm
  rw [hnm0, hrs]
  obtain ⟨N, hN⟩ : ∃ N, s.extract F0 F1 = N := ⟨_, rfl⟩
  have hNl : N.data.toList = nm := by rw [← hN, ← hnm]; exact bytesOf_data _
  have hNs : N.size ≤ 300000 := by rw [← hN]; simp; omega
  have HCL := Lib.hid (fun W => rclean_any N W (by omega))
  rw [hNl] at HCL
  have hcs := cleanR_len nm
  obtain ⟨C, hC⟩ : ∃ C, bytesOf (cleanR nm) = C := ⟨_, rfl⟩
  have hCl : C.data.toList = cleanR nm := by rw [← hC]; exact bytesOf_data _
  have hCs : C.size ≤ 900000 := by rw [← hC, bytesOf_size]; omega
  rw [hC] at HCL
  have HLW := Lib.hid (fun W => rlower_any C W (by omega))
  rw [hCl] at HLW
  obtain ⟨L, hL⟩ : ∃ L : ByteArray, (⟨(lowL (cleanR nm)).toArray⟩ : ByteArray) = L := ⟨_, rfl⟩
  rw [show bytesOf (lowL (cleanR nm)) = L from hL]
  rw [hL] at HLW
  have g1 : (N.toList == []) = (nm == []) := by rw [ByteArray.toList_eq, hNl]
  obtain ⟨b1, hb1⟩ : ∃ b, (nm == []) = b := ⟨_, rfl⟩
  rw [hb1] at g1
  have hb2 : (rs.drop (skipN rs) == []) = decide (TO ≤ F2) := by
    rw [Bool.eq_iff_iff, beq_iff_eq, List.drop_eq_nil_iff, decide_eq_true_eq]
    omega
  rw [hb1, hb2]
  have j1 : (F0 : Int) ≤ F1 := by omega
  have j2 : (F1 : Int) ≤ s.size := by omega
  have H1 : Hid (∀ m, m < tx.length → tx[m]? = s.data.toList[A + m]?) := htx
  have HTO := Lib.hid hTO
  have HNX := Lib.hid hNX
  have E0 := Lib.hid ht1
  have E1 := Lib.hid hrs
  have E2 := Lib.hid hF0
  have E3 := Lib.hid hF1
  have E4 := Lib.hid hF2
  have E5 := Lib.hid htl
  have E6 := Lib.hid hsk
  have E7 := Lib.hid ht1l
  have E8 := Lib.hid hnl
  have E9 := Lib.hid hrsl
  have EX := Lib.hid hsk2
  have HB := Lib.hid (fun (c : Int) W => rblankL_any c W)
  have LA : Hid (∀ k, A ≤ k → k < TO → ∃ c, s.data.toList[k]? = some c ∧ tx[k - A]? = some c) := by
    intro k h1 h2
    have h3 : k < s.data.toList.length := by simp; omega
    refine ⟨s.data.toList[k], List.getElem?_eq_getElem h3, ?_⟩
    have := htx (k - A) (by omega)
    rw [show A + (k - A) = k by omega, List.getElem?_eq_getElem h3] at this
    exact this
  have LB : Hid (∀ k, F0 ≤ k → k < TO → ∃ c, s.data.toList[k]? = some c ∧ t1[k - F0]? = some c) := by
    intro k h1 h2
    obtain ⟨c, h3, h4⟩ := LA.out k (by omega) h2
    refine ⟨c, h3, ?_⟩
    rw [← ht1, List.getElem?_drop, show skipN tx + (k - F0) = k - A by omega]
    exact h4
  have LC : Hid (∀ k, F1 ≤ k → k < TO → ∃ c, s.data.toList[k]? = some c ∧ rs[k - F1]? = some c) := by
    intro k h1 h2
    obtain ⟨c, h3, h4⟩ := LB.out k (by omega) h2
    refine ⟨c, h3, ?_⟩
    rw [← hrs, List.getElem?_drop, show nameN t1 + (k - F1) = k - F0 by omega]
    exact h4
  have lA : A ≤ TO := by omega
  have l0 : F0 ≤ TO := by omega
  have l1 : F1 ≤ TO := by omega
  have l2 : F2 ≤ TO := by omega
  have lT : TO ≤ s.size := hTs
  have M0 : Hid (tx.length = TO - A) := by show _ = _; omega
  have M1 : Hid (t1.length = TO - F0) := by show _ = _; omega
  have M2 : Hid (rs.length = TO - F1) := by show _ = _; omega
  clear h hD hA hfd hJ hTO hNX htx htl hu ht1 hrs hF0 hF1 hF2 hTxi hnm hnm0 hNl hcs hC hCl hL hb1 hb2 hsk ht1l hnl hrsl hsk2 hes hnml
  have HW := Lib.hid hW1
  have HB0 : Hid (Below W1.heap.size W1 W1) := Below.refl _ _
  clear hW1 hm ht
  cases en with
  | true =>
    simp only [if_true] at HTO HNX
    have hJ2 := HTO.out
    have k3 : ¬ J < 0 := by omega
    obtain rfl : J = (TO : Int) := hJ2
    have k4 : (TO : Int) + 1 = NX := by have := HNX.out; omega
    have k5 : ((TO : Int) == (NX : Int)) = false := by rw [beq_eq_false_iff_ne]; omega
    go_enter Tryd.func16, Tryd.ntmps16
    go_upto_region 1 with fail
    rw [← HW.out]
    go_wp2_with fail
    refine (HS.out _).mono ?_
    rintro e w2 ⟨rfl, b2⟩
    have B2 : Hid (Below W1.heap.size W1 w2) := HB0.out.trans (b2.mono HB0.out.size)
    clear b2
    go_wp2_with fail
    refine (HF.out _).mono ?_
    rintro e w3 ⟨rfl, rfl⟩
    go_upto_block 0 with fail
    go_cut [8] from 29 to 39 (fun v wc => v = .int .i64 (F0 : Int) ∧ w2 = wc)
    case first =>
      go_wp2_with fail
      go_loop [8] (fun v => ∃ k : Nat, A ≤ k ∧ k ≤ TO ∧ v = .int .i64 k ∧ Hid ((k - A) + skipN (tx.drop (k - A)) = skipN tx)) (fun v => TO - (intOf v).toNat)
      case atStart => exact ⟨A, Nat.le_refl _, by omega, rfl, by show _ = _; rw [Nat.sub_self, List.drop_zero]; omega⟩
      case round =>
        obtain ⟨k, hk1, hk2, rfl, HR⟩ := hrel
        by_cases hlt : k < TO
        · have hlti : (k : Int) < TO := by omega
          have hks : k < s.size := by omega
          have hksi : (k : Int) < s.size := by omega
          obtain ⟨c, hc⟩ : ∃ c, s[k] = c := ⟨_, rfl⟩
          have hg := at_get hks
          rw [hc] at hg
          obtain ⟨c2, hc1, hc2⟩ := LA.out k hk1 hlt
          have ec : c2 = c := by rw [hg] at hc1; exact (Option.some.inj hc1).symm
          subst ec
          have HBc := Lib.hid (fun W => rblankL_any (c2.toNat : Int) W)
          have hbl : blI (c2.toNat : Int) = blB c2 := rfl
          rw [hbl] at HBc
          cases hb : blB c2 with
          | true =>
            rw [hb] at HBc
            have HS2 := Lib.hid (skipN_step _ _ _ hc2 hb)
            clear hb hbl hc1 hc2 hg
            go_wp2_with fail
            refine (HBc.out _).mono ?_
            rintro e w1 ⟨rfl, rfl⟩
            go_wp2_with fail
            go_round
            case rel => exact ⟨k + 1, by omega, by omega, by go_num, by have h1 := HR.out; have h2 := HS2.out; show _ = _; rw [show k + 1 - A = k - A + 1 by omega]; omega⟩
            case measure => simp [intOf]; omega
          | false =>
            rw [hb] at HBc
            have HK : Hid (k = F0) := by
              show _ = _
              have h1 := HR.out
              rw [skipN_stop _ _ (fun d hd => by rw [hc2] at hd; injection hd with hd; subst hd; exact hb)] at h1
              have := E2.out
              omega
            clear hb hbl hc1 hc2 hg
            go_wp2_with fail
            refine (HBc.out _).mono ?_
            rintro e w1 ⟨rfl, rfl⟩
            go_wp2_with fail
            go_meet
            exact ⟨by rw [HK.out], rfl⟩
        · have hlti : ¬ (k : Int) < TO := by omega
          have HK : Hid (k = F0) := by
            show _ = _
            have h1 := HR.out
            rw [List.drop_of_length_le (by have := M0.out; omega), show skipN [] = 0 from rfl] at h1
            have := E2.out
            omega
          clear hlt
          go_wp2_with fail
          go_meet
          exact ⟨by rw [HK.out], rfl⟩
    case rest =>
      obtain ⟨rfl, rfl⟩ := hcut
      go_upto_block 2 with fail
      go_cut [8] from 41 to 52 (fun v wc => v = .int .i64 (F1 : Int) ∧ w2 = wc)
      case first =>
        go_wp2_with fail
        go_loop [8] (fun v => ∃ k : Nat, F0 ≤ k ∧ k ≤ TO ∧ v = .int .i64 k ∧ Hid ((k - F0) + nameN (t1.drop (k - F0)) = nameN t1)) (fun v => TO - (intOf v).toNat)
        case atStart => exact ⟨F0, Nat.le_refl _, by omega, rfl, by show _ = _; rw [Nat.sub_self, List.drop_zero]; omega⟩
        case round =>
          obtain ⟨k, hk1, hk2, rfl, HR⟩ := hrel
          by_cases hlt : k < TO
          · have hlti : (k : Int) < TO := by omega
            have hks : k < s.size := by omega
            have hksi : (k : Int) < s.size := by omega
            obtain ⟨c, hc⟩ : ∃ c, s[k] = c := ⟨_, rfl⟩
            have hg := at_get hks
            rw [hc] at hg
            obtain ⟨c2, hc1, hc2⟩ := LB.out k hk1 hlt
            have ec : c2 = c := by rw [hg] at hc1; exact (Option.some.inj hc1).symm
            subst ec
            have HBc := Lib.hid (fun W => rblankL_any (c2.toNat : Int) W)
            have hbl : blI (c2.toNat : Int) = blB c2 := rfl
            rw [hbl] at HBc
            cases hb : blB c2 with
            | false =>
              rw [hb] at HBc
              have HS2 := Lib.hid (nameN_step hc2 hb)
              clear hb hbl hc1 hc2 hg
              go_wp2_with fail
              refine (HBc.out _).mono ?_
              rintro e w1 ⟨rfl, rfl⟩
              go_wp2_with fail
              go_round
              case rel => exact ⟨k + 1, by omega, by omega, by go_num, by have h1 := HR.out; have h2 := HS2.out; show _ = _; rw [show k + 1 - F0 = k - F0 + 1 by omega]; omega⟩
              case measure => simp [intOf]; omega
            | true =>
              rw [hb] at HBc
              have HK : Hid (k = F1) := by
                show _ = _
                have h1 := HR.out
                rw [nameN_stop hc2 hb] at h1
                have := E3.out
                omega
              clear hb hbl hc1 hc2 hg
              go_wp2_with fail
              refine (HBc.out _).mono ?_
              rintro e w1 ⟨rfl, rfl⟩
              go_wp2_with fail
              go_meet
              exact ⟨by rw [HK.out], rfl⟩
          · have hlti : ¬ (k : Int) < TO := by omega
            have HK : Hid (k = F1) := by
              show _ = _
              have h1 := HR.out
              rw [List.drop_of_length_le (by have := M1.out; omega), show nameN [] = 0 from rfl] at h1
              have := E3.out
              omega
            clear hlt
            go_wp2_with fail
            go_meet
            exact ⟨by rw [HK.out], rfl⟩
      case rest =>
        obtain ⟨rfl, rfl⟩ := hcut
        go_upto_block 4 with fail
        go_cut [8] from 57 to 67 (fun v wc => v = .int .i64 (F2 : Int) ∧ w2 = wc)
        case first =>
          go_wp2_with fail
          go_loop [8] (fun v => ∃ k : Nat, F1 ≤ k ∧ k ≤ TO ∧ v = .int .i64 k ∧ Hid ((k - F1) + skipN (rs.drop (k - F1)) = skipN rs)) (fun v => TO - (intOf v).toNat)
          case atStart => exact ⟨F1, Nat.le_refl _, by omega, rfl, by show _ = _; rw [Nat.sub_self, List.drop_zero]; omega⟩
          case round =>
            obtain ⟨k, hk1, hk2, rfl, HR⟩ := hrel
            by_cases hlt : k < TO
            · have hlti : (k : Int) < TO := by omega
              have hks : k < s.size := by omega
              have hksi : (k : Int) < s.size := by omega
              obtain ⟨c, hc⟩ : ∃ c, s[k] = c := ⟨_, rfl⟩
              have hg := at_get hks
              rw [hc] at hg
              obtain ⟨c2, hc1, hc2⟩ := LC.out k hk1 hlt
              have ec : c2 = c := by rw [hg] at hc1; exact (Option.some.inj hc1).symm
              subst ec
              have HBc := Lib.hid (fun W => rblankL_any (c2.toNat : Int) W)
              have hbl : blI (c2.toNat : Int) = blB c2 := rfl
              rw [hbl] at HBc
              cases hb : blB c2 with
              | true =>
                rw [hb] at HBc
                have HS2 := Lib.hid (skipN_step _ _ _ hc2 hb)
                clear hb hbl hc1 hc2 hg
                go_wp2_with fail
                refine (HBc.out _).mono ?_
                rintro e w1 ⟨rfl, rfl⟩
                go_wp2_with fail
                go_round
                case rel => exact ⟨k + 1, by omega, by omega, by go_num, by have h1 := HR.out; have h2 := HS2.out; show _ = _; rw [show k + 1 - F1 = k - F1 + 1 by omega]; omega⟩
                case measure => simp [intOf]; omega
              | false =>
                rw [hb] at HBc
                have HK : Hid (k = F2) := by
                  show _ = _
                  have h1 := HR.out
                  rw [skipN_stop _ _ (fun d hd => by rw [hc2] at hd; injection hd with hd; subst hd; exact hb)] at h1
                  have := E4.out
                  omega
                clear hb hbl hc1 hc2 hg
                go_wp2_with fail
                refine (HBc.out _).mono ?_
                rintro e w1 ⟨rfl, rfl⟩
                go_wp2_with fail
                go_meet
                exact ⟨by rw [HK.out], rfl⟩
            · have hlti : ¬ (k : Int) < TO := by omega
              have HK : Hid (k = F2) := by
                show _ = _
                have h1 := HR.out
                rw [List.drop_of_length_le (by have := M2.out; omega), show skipN [] = 0 from rfl] at h1
                have := E4.out
                omega
              clear hlt
              go_wp2_with fail
              go_meet
              exact ⟨by rw [HK.out], rfl⟩
        case rest =>
          obtain ⟨rfl, rfl⟩ := hcut
          cases b1 with
          | true =>
            go_wp2_with fail
            refine (HCL.out _).mono ?_
            rintro e w9 ⟨rfl, rfl⟩
            go_wp2_with fail
            refine (HLW.out _).mono ?_
            rintro e w10 ⟨rfl, b10⟩
            have B10 : Hid (Below W1.heap.size W1 w10) := B2.out.trans (b10.mono B2.out.size)
            clear b10
            obtain ⟨⟨c0, c1, c2, c3, c4, c5, c6, c7, c8⟩, f0, f1, f2, f3, f4, f5, f6, f7, f8⟩ := nine (HT.out.at B10.out)
            go_wp2_with fail
            refine bodyPost_ret (v := .tuple #[tkV 1 L ⟨#[]⟩ true a NX, .int .i64 (NX : Int)]) ?_ rfl ?_
            · rw [results_cell_tmpR rfl]
              go_simp
              rfl
            · exact ⟨by first | rfl | (rw [HD.out]; rfl), below_set9 (HT.out.up B10.out) _ _ _ _ _ _ _ _ _⟩
          | false =>
            by_cases hd : TO ≤ F2
            · have HD : Hid (decide (TO ≤ F2) = true) := decide_eq_true hd
              have hd2 : ¬ (F2 : Int) < TO := by omega
              have hd3 : decide (F2 < TO) = false := decide_eq_false (by omega)
              go_wp2_with fail
              refine (HCL.out _).mono ?_
              rintro e w9 ⟨rfl, rfl⟩
              go_wp2_with fail
              refine (HLW.out _).mono ?_
              rintro e w10 ⟨rfl, b10⟩
              have B10 : Hid (Below W1.heap.size W1 w10) := B2.out.trans (b10.mono B2.out.size)
              clear b10
              obtain ⟨⟨c0, c1, c2, c3, c4, c5, c6, c7, c8⟩, f0, f1, f2, f3, f4, f5, f6, f7, f8⟩ := nine (HT.out.at B10.out)
              go_wp2_with fail
              refine bodyPost_ret (v := .tuple #[tkV 1 L ⟨#[]⟩ false a NX, .int .i64 (NX : Int)]) ?_ rfl ?_
              · rw [results_cell_tmpR rfl]
                go_simp
                rfl
              · exact ⟨by first | rfl | (rw [HD.out]; rfl), below_set9 (HT.out.up B10.out) _ _ _ _ _ _ _ _ _⟩
            · have HD : Hid (decide (TO ≤ F2) = false) := decide_eq_false hd
              have hd2 : (F2 : Int) < TO := by omega
              have hd3 : decide (F2 < TO) = true := decide_eq_true (by omega)
              go_wp2_with fail
              refine (HCL.out _).mono ?_
              rintro e w9 ⟨rfl, rfl⟩
              go_wp2_with fail
              refine (HLW.out _).mono ?_
              rintro e w10 ⟨rfl, b10⟩
              have B10 : Hid (Below W1.heap.size W1 w10) := B2.out.trans (b10.mono B2.out.size)
              clear b10
              obtain ⟨⟨c0, c1, c2, c3, c4, c5, c6, c7, c8⟩, f0, f1, f2, f3, f4, f5, f6, f7, f8⟩ := nine (HT.out.at B10.out)
              go_wp2_with fail
              refine bodyPost_ret (v := .tuple #[tkV 1 L ⟨#[]⟩ true a NX, .int .i64 (NX : Int)]) ?_ rfl ?_
              · rw [results_cell_tmpR rfl]
                go_simp
                rfl
              · exact ⟨by first | rfl | (rw [HD.out]; rfl), below_set9 (HT.out.up B10.out) _ _ _ _ _ _ _ _ _⟩
  | false =>
    simp only [Bool.false_eq_true, if_false] at HTO HNX
    have hJ2 := HTO.out.1
    have hTO2 := HTO.out.2
    have k3 : J < 0 := by omega
    subst hJ2
    have hNX2 := HNX.out
    have hTN : NX = TO := by omega
    subst hTN
    have k5 : ((NX : Int) == (NX : Int)) = true := by simp
    have k6 : (s.size : Int) = NX := by omega
    clear hTO2 hNX2
    go_enter Tryd.func16, Tryd.ntmps16
    go_upto_region 1 with fail
    rw [← HW.out]
    go_wp2_with fail
    refine (HS.out _).mono ?_
    rintro e w2 ⟨rfl, b2⟩
    have B2 : Hid (Below W1.heap.size W1 w2) := HB0.out.trans (b2.mono HB0.out.size)
    clear b2
    go_wp2_with fail
    refine (HF.out _).mono ?_
    rintro e w3 ⟨rfl, rfl⟩
    go_upto_block 0 with fail
    go_cut [8] from 29 to 39 (fun v wc => v = .int .i64 (F0 : Int) ∧ w2 = wc)
    case first =>
      go_wp2_with fail
      go_loop [8] (fun v => ∃ k : Nat, A ≤ k ∧ k ≤ NX ∧ v = .int .i64 k ∧ Hid ((k - A) + skipN (tx.drop (k - A)) = skipN tx)) (fun v => NX - (intOf v).toNat)
      case atStart => exact ⟨A, Nat.le_refl _, by omega, rfl, by show _ = _; rw [Nat.sub_self, List.drop_zero]; omega⟩
      case round =>
        obtain ⟨k, hk1, hk2, rfl, HR⟩ := hrel
        by_cases hlt : k < NX
        · have hlti : (k : Int) < NX := by omega
          have hks : k < s.size := by omega
          have hksi : (k : Int) < s.size := by omega
          obtain ⟨c, hc⟩ : ∃ c, s[k] = c := ⟨_, rfl⟩
          have hg := at_get hks
          rw [hc] at hg
          obtain ⟨c2, hc1, hc2⟩ := LA.out k hk1 hlt
          have ec : c2 = c := by rw [hg] at hc1; exact (Option.some.inj hc1).symm
          subst ec
          have HBc := Lib.hid (fun W => rblankL_any (c2.toNat : Int) W)
          have hbl : blI (c2.toNat : Int) = blB c2 := rfl
          rw [hbl] at HBc
          cases hb : blB c2 with
          | true =>
            rw [hb] at HBc
            have HS2 := Lib.hid (skipN_step _ _ _ hc2 hb)
            clear hb hbl hc1 hc2 hg
            go_wp2_with fail
            refine (HBc.out _).mono ?_
            rintro e w1 ⟨rfl, rfl⟩
            go_wp2_with fail
            go_round
            case rel => exact ⟨k + 1, by omega, by omega, by go_num, by have h1 := HR.out; have h2 := HS2.out; show _ = _; rw [show k + 1 - A = k - A + 1 by omega]; omega⟩
            case measure => simp [intOf]; omega
          | false =>
            rw [hb] at HBc
            have HK : Hid (k = F0) := by
              show _ = _
              have h1 := HR.out
              rw [skipN_stop _ _ (fun d hd => by rw [hc2] at hd; injection hd with hd; subst hd; exact hb)] at h1
              have := E2.out
              omega
            clear hb hbl hc1 hc2 hg
            go_wp2_with fail
            refine (HBc.out _).mono ?_
            rintro e w1 ⟨rfl, rfl⟩
            go_wp2_with fail
            go_meet
            exact ⟨by rw [HK.out], rfl⟩
        · have hlti : ¬ (k : Int) < NX := by omega
          have HK : Hid (k = F0) := by
            show _ = _
            have h1 := HR.out
            rw [List.drop_of_length_le (by have := M0.out; omega), show skipN [] = 0 from rfl] at h1
            have := E2.out
            omega
          clear hlt
          go_wp2_with fail
          go_meet
          exact ⟨by rw [HK.out], rfl⟩
    case rest =>
      obtain ⟨rfl, rfl⟩ := hcut
      go_upto_block 2 with fail
      go_cut [8] from 41 to 52 (fun v wc => v = .int .i64 (F1 : Int) ∧ w2 = wc)
      case first =>
        go_wp2_with fail
        go_loop [8] (fun v => ∃ k : Nat, F0 ≤ k ∧ k ≤ NX ∧ v = .int .i64 k ∧ Hid ((k - F0) + nameN (t1.drop (k - F0)) = nameN t1)) (fun v => NX - (intOf v).toNat)
        case atStart => exact ⟨F0, Nat.le_refl _, by omega, rfl, by show _ = _; rw [Nat.sub_self, List.drop_zero]; omega⟩
        case round =>
          obtain ⟨k, hk1, hk2, rfl, HR⟩ := hrel
          by_cases hlt : k < NX
          · have hlti : (k : Int) < NX := by omega
            have hks : k < s.size := by omega
            have hksi : (k : Int) < s.size := by omega
            obtain ⟨c, hc⟩ : ∃ c, s[k] = c := ⟨_, rfl⟩
            have hg := at_get hks
            rw [hc] at hg
            obtain ⟨c2, hc1, hc2⟩ := LB.out k hk1 hlt
            have ec : c2 = c := by rw [hg] at hc1; exact (Option.some.inj hc1).symm
            subst ec
            have HBc := Lib.hid (fun W => rblankL_any (c2.toNat : Int) W)
            have hbl : blI (c2.toNat : Int) = blB c2 := rfl
            rw [hbl] at HBc
            cases hb : blB c2 with
            | false =>
              rw [hb] at HBc
              have HS2 := Lib.hid (nameN_step hc2 hb)
              clear hb hbl hc1 hc2 hg
              go_wp2_with fail
              refine (HBc.out _).mono ?_
              rintro e w1 ⟨rfl, rfl⟩
              go_wp2_with fail
              go_round
              case rel => exact ⟨k + 1, by omega, by omega, by go_num, by have h1 := HR.out; have h2 := HS2.out; show _ = _; rw [show k + 1 - F0 = k - F0 + 1 by omega]; omega⟩
              case measure => simp [intOf]; omega
            | true =>
              rw [hb] at HBc
              have HK : Hid (k = F1) := by
                show _ = _
                have h1 := HR.out
                rw [nameN_stop hc2 hb] at h1
                have := E3.out
                omega
              clear hb hbl hc1 hc2 hg
              go_wp2_with fail
              refine (HBc.out _).mono ?_
              rintro e w1 ⟨rfl, rfl⟩
              go_wp2_with fail
              go_meet
              exact ⟨by rw [HK.out], rfl⟩
          · have hlti : ¬ (k : Int) < NX := by omega
            have HK : Hid (k = F1) := by
              show _ = _
              have h1 := HR.out
              rw [List.drop_of_length_le (by have := M1.out; omega), show nameN [] = 0 from rfl] at h1
              have := E3.out
              omega
            clear hlt
            go_wp2_with fail
            go_meet
            exact ⟨by rw [HK.out], rfl⟩
      case rest =>
        obtain ⟨rfl, rfl⟩ := hcut
        go_upto_block 4 with fail
        go_cut [8] from 57 to 67 (fun v wc => v = .int .i64 (F2 : Int) ∧ w2 = wc)
        case first =>
          go_wp2_with fail
          go_loop [8] (fun v => ∃ k : Nat, F1 ≤ k ∧ k ≤ NX ∧ v = .int .i64 k ∧ Hid ((k - F1) + skipN (rs.drop (k - F1)) = skipN rs)) (fun v => NX - (intOf v).toNat)
          case atStart => exact ⟨F1, Nat.le_refl _, by omega, rfl, by show _ = _; rw [Nat.sub_self, List.drop_zero]; omega⟩
          case round =>
            obtain ⟨k, hk1, hk2, rfl, HR⟩ := hrel
            by_cases hlt : k < NX
            · have hlti : (k : Int) < NX := by omega
              have hks : k < s.size := by omega
              have hksi : (k : Int) < s.size := by omega
              obtain ⟨c, hc⟩ : ∃ c, s[k] = c := ⟨_, rfl⟩
              have hg := at_get hks
              rw [hc] at hg
              obtain ⟨c2, hc1, hc2⟩ := LC.out k hk1 hlt
              have ec : c2 = c := by rw [hg] at hc1; exact (Option.some.inj hc1).symm
              subst ec
              have HBc := Lib.hid (fun W => rblankL_any (c2.toNat : Int) W)
              have hbl : blI (c2.toNat : Int) = blB c2 := rfl
              rw [hbl] at HBc
              cases hb : blB c2 with
              | true =>
                rw [hb] at HBc
                have HS2 := Lib.hid (skipN_step _ _ _ hc2 hb)
                clear hb hbl hc1 hc2 hg
                go_wp2_with fail
                refine (HBc.out _).mono ?_
                rintro e w1 ⟨rfl, rfl⟩
                go_wp2_with fail
                go_round
                case rel => exact ⟨k + 1, by omega, by omega, by go_num, by have h1 := HR.out; have h2 := HS2.out; show _ = _; rw [show k + 1 - F1 = k - F1 + 1 by omega]; omega⟩
                case measure => simp [intOf]; omega
              | false =>
                rw [hb] at HBc
                have HK : Hid (k = F2) := by
                  show _ = _
                  have h1 := HR.out
                  rw [skipN_stop _ _ (fun d hd => by rw [hc2] at hd; injection hd with hd; subst hd; exact hb)] at h1
                  have := E4.out
                  omega
                clear hb hbl hc1 hc2 hg
                go_wp2_with fail
                refine (HBc.out _).mono ?_
                rintro e w1 ⟨rfl, rfl⟩
                go_wp2_with fail
                go_meet
                exact ⟨by rw [HK.out], rfl⟩
            · have hlti : ¬ (k : Int) < NX := by omega
              have HK : Hid (k = F2) := by
                show _ = _
                have h1 := HR.out
                rw [List.drop_of_length_le (by have := M2.out; omega), show skipN [] = 0 from rfl] at h1
                have := E4.out
                omega
              clear hlt
              go_wp2_with fail
              go_meet
              exact ⟨by rw [HK.out], rfl⟩
        case rest =>
          obtain ⟨rfl, rfl⟩ := hcut
          cases b1 with
          | true =>
            go_wp2_with fail
            refine (HCL.out _).mono ?_
            rintro e w9 ⟨rfl, rfl⟩
            go_wp2_with fail
            refine (HLW.out _).mono ?_
            rintro e w10 ⟨rfl, b10⟩
            have B10 : Hid (Below W1.heap.size W1 w10) := B2.out.trans (b10.mono B2.out.size)
            clear b10
            obtain ⟨⟨c0, c1, c2, c3, c4, c5, c6, c7, c8⟩, f0, f1, f2, f3, f4, f5, f6, f7, f8⟩ := nine (HT.out.at B10.out)
            go_wp2_with fail
            refine bodyPost_ret (v := .tuple #[tkV 1 L ⟨#[]⟩ true a NX, .int .i64 (NX : Int)]) ?_ rfl ?_
            · rw [results_cell_tmpR rfl]
              go_simp
              rfl
            · exact ⟨by first | rfl | (rw [HD.out]; rfl), below_set9 (HT.out.up B10.out) _ _ _ _ _ _ _ _ _⟩
          | false =>
            by_cases hd : NX ≤ F2
            · have HD : Hid (decide (NX ≤ F2) = true) := decide_eq_true hd
              have hd2 : ¬ (F2 : Int) < NX := by omega
              have hd3 : decide (F2 < NX) = false := decide_eq_false (by omega)
              go_wp2_with fail
              refine (HCL.out _).mono ?_
              rintro e w9 ⟨rfl, rfl⟩
              go_wp2_with fail
              refine (HLW.out _).mono ?_
              rintro e w10 ⟨rfl, b10⟩
              have B10 : Hid (Below W1.heap.size W1 w10) := B2.out.trans (b10.mono B2.out.size)
              clear b10
              obtain ⟨⟨c0, c1, c2, c3, c4, c5, c6, c7, c8⟩, f0, f1, f2, f3, f4, f5, f6, f7, f8⟩ := nine (HT.out.at B10.out)
              go_wp2_with fail
              refine bodyPost_ret (v := .tuple #[tkV 1 L ⟨#[]⟩ true a NX, .int .i64 (NX : Int)]) ?_ rfl ?_
              · rw [results_cell_tmpR rfl]
                go_simp
                rfl
              · exact ⟨by first | rfl | (rw [HD.out]; rfl), below_set9 (HT.out.up B10.out) _ _ _ _ _ _ _ _ _⟩
            · have HD : Hid (decide (NX ≤ F2) = false) := decide_eq_false hd
              have hd2 : (F2 : Int) < NX := by omega
              have hd3 : decide (F2 < NX) = true := decide_eq_true (by omega)
              go_wp2_with fail
              refine (HCL.out _).mono ?_
              rintro e w9 ⟨rfl, rfl⟩
              go_wp2_with fail
              refine (HLW.out _).mono ?_
              rintro e w10 ⟨rfl, b10⟩
              have B10 : Hid (Below W1.heap.size W1 w10) := B2.out.trans (b10.mono B2.out.size)
              clear b10
              obtain ⟨⟨c0, c1, c2, c3, c4, c5, c6, c7, c8⟩, f0, f1, f2, f3, f4, f5, f6, f7, f8⟩ := nine (HT.out.at B10.out)
              go_wp2_with fail
              refine bodyPost_ret (v := .tuple #[tkV 1 L ⟨#[]⟩ true a NX, .int .i64 (NX : Int)]) ?_ rfl ?_
              · rw [results_cell_tmpR rfl]
                go_simp
                rfl
              · exact ⟨by first | rfl | (rw [HD.out]; rfl), below_set9 (HT.out.up B10.out) _ _ _ _ _ _ _ _ _⟩
end Go.Proofs.YtbpdmbmooboimaaDoor.R11
