/- Law RawsBounds. (Made by tools/gen/lra4.py.) -/
import Derived.Test.YtbpdmbmooboimaaDoorLRah
set_option linter.unusedVariables false
set_option linter.unusedSimpArgs false
namespace Go.Proofs.YtbpdmbmooboimaaDoor.R11
open Go.RowKit R9 T10

/-- A function that tells a token, at two places of two texts: the same one, but for where it stands. -/
def Twin (f : FuncId) (S AS : ByteArray) (a lo : Nat) (m : Int) : Prop :=
  ∃ (k : Int) (n x : ByteArray) (q : Bool) (N : Nat), lo ≤ N ∧ N ≤ S.size ∧
    (∀ W, MaxOk m W → Calls Tryd.prog f #[.string S, .int .i64 0] W fun e w' => e = .returned (.tuple #[.agg #[.int .i64 k, .string n, .string x, .slice none 0 0, .bool false, .bool false, .bool q, .int .i64 0, .int .i64 (N : Int)], .int .i64 (N : Int)]) ∧ Below W.heap.size W w') ∧
    (∀ W, MaxOk m W → Calls Tryd.prog f #[.string AS, .int .i64 (a : Int)] W fun e w' => e = .returned (.tuple #[.agg #[.int .i64 k, .string n, .string x, .slice none 0 0, .bool false, .bool false, .bool q, .int .i64 (a : Int), .int .i64 ((a + N : Nat) : Int)], .int .i64 ((a + N : Nat) : Int)]) ∧ Below W.heap.size W w')
theorem drop_at {S AS ahead : ByteArray} (h : AS.data.toList = ahead.data.toList ++ S.data.toList) (j : Nat) : AS.data.toList.drop (ahead.size + j) = S.data.toList.drop j := by
  have ha : ahead.data.toList.length = ahead.size := by simp
  rw [h, ← List.drop_drop, ← ha, List.drop_left]
theorem docL_le (r : List UInt8) : (docL r).2.2 ≤ r.length := by
  unfold docL
  exact (upL_le r [62]).1
theorem Comment_twin (S AS ahead : ByteArray) (m : Int) (hs : S.size ≤ 5000) (hs2 : AS.size ≤ 5000) (h : AS.data.toList = ahead.data.toList ++ S.data.toList) (h0 : hasL S.data.toList cmF.data.toList = true) : Twin 11 S AS ahead.size 4 m := by
  have hl := has_len h0
  have e4 : cmF.data.toList.length = 4 := rfl
  have hsl : S.data.toList.length = S.size := by simp
  have hn := (comL_le (S.data.toList.drop 4)).1
  rw [List.length_drop] at hn
  have d0 : AS.data.toList.drop ahead.size = S.data.toList := by have := drop_at h 0; rw [Nat.add_zero, List.drop_zero] at this; exact this
  refine ⟨4, ⟨#[]⟩, bytesOf (cleanR (comL (S.data.toList.drop 4)).1), false, 4 + (comL (S.data.toList.drop 4)).2, by omega, by omega, fun W hW => ?_, fun W hW => ?_⟩
  · have := Comment_yes S 0 m W (by omega) hW (by rw [List.drop_zero]; exact h0)
    rw [Nat.zero_add] at this
    exact this
  · have := Comment_yes AS ahead.size m W (by omega) hW (by rw [d0]; exact h0)
    rw [drop_at h 4, Nat.add_assoc] at this
    exact this
theorem Doctype_twin (S AS ahead : ByteArray) (m : Int) (hs : S.size ≤ 5000) (hs2 : AS.size ≤ 5000) (h : AS.data.toList = ahead.data.toList ++ S.data.toList) (h0 : hasL S.data.toList dtF.data.toList = true) : Twin 15 S AS ahead.size 9 m := by
  have hl := has_len h0
  have e4 : dtF.data.toList.length = 9 := rfl
  have hsl : S.data.toList.length = S.size := by simp
  have hn := docL_le (S.data.toList.drop 9)
  rw [List.length_drop] at hn
  have d0 : AS.data.toList.drop ahead.size = S.data.toList := by have := drop_at h 0; rw [Nat.add_zero, List.drop_zero] at this; exact this
  refine ⟨1, bytesOf (docL (S.data.toList.drop 9)).1, ⟨#[]⟩, (docL (S.data.toList.drop 9)).2.1, 9 + (docL (S.data.toList.drop 9)).2.2, by omega, by omega, fun W hW => ?_, fun W hW => ?_⟩
  · have := Doctype_yes S 0 m W (by omega) hW (by rw [hasZ_nat, List.drop_zero]; exact h0)
    rw [Nat.zero_add] at this
    exact this
  · have := Doctype_yes AS ahead.size m W (by omega) hW (by rw [hasZ_nat, d0]; exact h0)
    rw [drop_at h 9, Nat.add_assoc] at this
    exact this

theorem Bogus_twin_q (S AS ahead : ByteArray) (m : Int) (hs : S.size ≤ 5000) (hs2 : AS.size ≤ 5000) (h : AS.data.toList = ahead.data.toList ++ S.data.toList) (h0 : hasL S.data.toList bqF.data.toList = true) : Twin 13 S AS ahead.size 2 m := by
  have hl := has_len h0
  have e4 : bqF.data.toList.length = 2 := rfl
  have hsl : S.data.toList.length = S.size := by simp
  have hn := (upL_le (S.data.toList.drop 1) [62]).1
  rw [List.length_drop] at hn
  have d0 : AS.data.toList.drop ahead.size = S.data.toList := by have := drop_at h 0; rw [Nat.add_zero, List.drop_zero] at this; exact this
  have hlo : 2 ≤ 1 + (upL (S.data.toList.drop 1) [62]).2.1 := by
    obtain ⟨c, hc1, hc2⟩ := has_at h0 (j := 1) (by decide)
    have hc3 : c = 63 := (low_plain (by decide)).1 (hc2.trans (low_self (by decide)))
    subst hc3
    have hl1 := (List.getElem?_eq_some_iff.1 hc1).1
    rw [List.drop_eq_getElem_cons hl1, (List.getElem?_eq_some_iff.1 hc1).2]
    unfold upL
    rw [fnd_miss (by simp [List.isPrefixOf])]
    cases fnd (S.data.toList.drop (1 + 1)) [62] with
    | none => simp only [Option.map_none, List.length_cons]; omega
    | some i => simp only [Option.map_some, List.length_cons]; omega
  refine ⟨4, ⟨#[]⟩, bytesOf (cleanR (upL (S.data.toList.drop 1) [62]).1), false, 1 + (upL (S.data.toList.drop 1) [62]).2.1, hlo, by omega, fun W hW => ?_, fun W hW => ?_⟩
  · have := Bogus_q S 0 m W (by omega) hW (by rw [show ((0 : Nat) : Int) = ((0 : Nat) : Int) from rfl, hasZ_nat, List.drop_zero]; exact h0)
    rw [Nat.zero_add] at this
    exact this
  · have := Bogus_q AS ahead.size m W (by omega) hW (by rw [hasZ_nat, d0]; exact h0)
    rw [drop_at h 1, Nat.add_assoc] at this
    exact this

theorem Bogus_twin_e (S AS ahead : ByteArray) (m : Int) (hs : S.size ≤ 5000) (hs2 : AS.size ≤ 5000) (h : AS.data.toList = ahead.data.toList ++ S.data.toList) (h0 : hasL S.data.toList bqF.data.toList = false) (h1 : hasL S.data.toList beF.data.toList = true) : Twin 13 S AS ahead.size 2 m := by
  have hl := has_len h1
  have e4 : beF.data.toList.length = 2 := rfl
  have hsl : S.data.toList.length = S.size := by simp
  have hn := (upL_le (S.data.toList.drop 2) [62]).1
  rw [List.length_drop] at hn
  have d0 : AS.data.toList.drop ahead.size = S.data.toList := by have := drop_at h 0; rw [Nat.add_zero, List.drop_zero] at this; exact this
  refine ⟨4, ⟨#[]⟩, bytesOf (cleanR (upL (S.data.toList.drop 2) [62]).1), false, 2 + (upL (S.data.toList.drop 2) [62]).2.1, by omega, by omega, fun W hW => ?_, fun W hW => ?_⟩
  · have := Bogus_e S 0 m W (by omega) hW (by rw [show ((0 : Nat) : Int) = ((0 : Nat) : Int) from rfl, hasZ_nat, List.drop_zero]; exact h0) (by rw [show ((0 : Nat) : Int) = ((0 : Nat) : Int) from rfl, hasZ_nat, List.drop_zero]; exact h1)
    rw [Nat.zero_add] at this
    exact this
  · have := Bogus_e AS ahead.size m W (by omega) hW (by rw [hasZ_nat, d0]; exact h0) (by rw [hasZ_nat, d0]; exact h1)
    rw [drop_at h 2, Nat.add_assoc] at this
    exact this

theorem Bogus_twin_c (S AS ahead : ByteArray) (m : Int) (hs : S.size ≤ 5000) (hs2 : AS.size ≤ 5000) (h : AS.data.toList = ahead.data.toList ++ S.data.toList) (h0 : hasL S.data.toList bqF.data.toList = false) (h1 : hasL S.data.toList beF.data.toList = false) (h2 : hasL S.data.toList bcF.data.toList = true) : Twin 13 S AS ahead.size 2 m := by
  have hl := has_len h2
  have e4 : bcF.data.toList.length = 2 := rfl
  have hsl : S.data.toList.length = S.size := by simp
  have hn := (upL_le (S.data.toList.drop 2) [62]).1
  rw [List.length_drop] at hn
  have d0 : AS.data.toList.drop ahead.size = S.data.toList := by have := drop_at h 0; rw [Nat.add_zero, List.drop_zero] at this; exact this
  refine ⟨4, ⟨#[]⟩, bytesOf (cleanR (upL (S.data.toList.drop 2) [62]).1), false, 2 + (upL (S.data.toList.drop 2) [62]).2.1, by omega, by omega, fun W hW => ?_, fun W hW => ?_⟩
  · have := Bogus_c S 0 m W (by omega) hW (by rw [show ((0 : Nat) : Int) = ((0 : Nat) : Int) from rfl, hasZ_nat, List.drop_zero]; exact h0) (by rw [show ((0 : Nat) : Int) = ((0 : Nat) : Int) from rfl, hasZ_nat, List.drop_zero]; exact h1) (by rw [show ((0 : Nat) : Int) = ((0 : Nat) : Int) from rfl, hasZ_nat, List.drop_zero]; exact h2)
    rw [Nat.zero_add] at this
    exact this
  · have := Bogus_c AS ahead.size m W (by omega) hW (by rw [hasZ_nat, d0]; exact h0) (by rw [hasZ_nat, d0]; exact h1) (by rw [hasZ_nat, d0]; exact h2)
    rw [drop_at h 2, Nat.add_assoc] at this
    exact this

theorem TkAt.other {p j : Nat} {b : Nat} {k : Int} {n x : ByteArray} {q : Bool} {a e : Int} {W : World} {v : Value} (h : TkAt p k n x q a e W) (hne : p ≠ b) : TkAt p k n x q a e (W.setCell ⟨b, j, none⟩ v) :=
  (Below.heap_setCell W _ v p hne).trans h
theorem TkAt.all {p : Nat} {k k2 : Int} {n x n2 x2 : ByteArray} {q q2 : Bool} {a e a2 e2 : Int} {W : World} (h : TkAt p k n x q a e W) :
    TkAt p k2 n2 x2 q2 a2 e2 (((((((((W.setCell ⟨p, 0, none⟩ (.int .i64 k2)).setCell ⟨p, 1, none⟩ (.string n2)).setCell ⟨p, 2, none⟩ (.string x2)).setCell ⟨p, 3, none⟩ (.slice none 0 0)).setCell ⟨p, 4, none⟩ (.bool false)).setCell ⟨p, 5, none⟩ (.bool false)).setCell ⟨p, 6, none⟩ (.bool q2)).setCell ⟨p, 7, none⟩ (.int .i64 a2)).setCell ⟨p, 8, none⟩ (.int .i64 e2)) :=
  by
  have := hset (hset (hset (hset (hset (hset (hset (hset (hset h 0 (.int .i64 k2)) 1 (.string n2)) 2 (.string x2)) 3 (.slice none 0 0)) 4 (.bool false)) 5 (.bool false)) 6 (.bool q2)) 7 (.int .i64 a2)) 8 (.int .i64 e2)
  unfold TkAt
  rw [this]
  simp
theorem TkAt.place {p : Nat} {k : Int} {n x : ByteArray} {q : Bool} {a e a2 e2 : Int} {W : World} (h : TkAt p k n x q a e W) :
    TkAt p k n x q a2 e2 ((W.setCell ⟨p, 7, none⟩ (.int .i64 a2)).setCell ⟨p, 8, none⟩ (.int .i64 e2)) := hset (hset h 7 _) 8 _
theorem TkAt.other9 {p b : Nat} {k : Int} {n x : ByteArray} {q : Bool} {a e : Int} {W : World} {v0 v1 v2 v3 v4 v5 v6 v7 v8 : Value} (h : TkAt p k n x q a e W) (hne : p ≠ b) :
    TkAt p k n x q a e (((((((((W.setCell ⟨b, 0, none⟩ v0).setCell ⟨b, 1, none⟩ v1).setCell ⟨b, 2, none⟩ v2).setCell ⟨b, 3, none⟩ v3).setCell ⟨b, 4, none⟩ v4).setCell ⟨b, 5, none⟩ v5).setCell ⟨b, 6, none⟩ v6).setCell ⟨b, 7, none⟩ v7).setCell ⟨b, 8, none⟩ v8) :=
  ((((((((h.other hne).other hne).other hne).other hne).other hne).other hne).other hne).other hne).other hne
theorem no_second (S : ByteArray) (c : UInt8) (W : World) (hs : S.size ≤ 5000) (h : S.data.toList[1]? = some c) (hc : c ≠ 60) :
    Calls Tryd.prog 11 #[.string S, .int .i64 1] W fun e w' => e = .returned (.tuple #[.agg #[.int .i64 0, .string ⟨#[]⟩, .string ⟨#[]⟩, .slice none 0 0, .bool false, .bool false, .bool false, .int .i64 0, .int .i64 0], .int .i64 0]) ∧ Below W.heap.size W w' := by
  apply Comment_no S 1 W (by omega)
  rw [show (1 : Int) = ((1 : Nat) : Int) from rfl, hasZ_nat, has_plain _ _ (by decide)]
  cases hq : cmF.data.toList.isPrefixOf (S.data.toList.drop 1) with
  | false => rfl
  | true =>
    exfalso
    have h2 := pre_head (x := 60) (t := [33, 45, 45]) hq
    rw [List.head?_drop, h] at h2
    exact hc (Option.some.inj h2)
theorem no_end (S : ByteArray) (W : World) (hs : S.size ≤ 5000) :
    Calls Tryd.prog 17 #[.string S, .int .i64 (S.size : Int)] W fun e w' => e = .returned (.tuple #[.string ⟨#[]⟩, .int .i64 0]) ∧ W = w' := by
  apply CData_no S S.size W (by omega)
  intro _
  rw [Int.toNat_natCast, List.drop_of_length_le (by simp)]
  rfl

theorem int_self' (n : Int) : (n != n) = false := by simp
set_option maxHeartbeats 12800000 in
set_option maxRecDepth 100000 in
theorem rawsBounds_law (s ahead : ByteArray) (x m : Int) (w : World) (hs1 : s.size ≤ maxLen) (hs2 : ahead.size ≤ maxLen) (hx0 : 0 ≤ x) (hx1 : x < 256) (hT : RTab w) (hm : MaxOk m w) :
    Calls Tryd.prog 6 #[.string s, .string ahead, .int .u8 x] w fun e w' => e = .returned (.bool true) ∧ Below w.heap.size w w' := by
  unfold maxLen at hs1 hs2
  have HT := Lib.hid hT
  have HM := Lib.hid hm
  clear hT hm
  by_cases gs : 1000 < s.size
  · have ks : (1000 : Int) < s.size := by omega
    go_enter Tryd.func6, Tryd.ntmps6
    go_wp2_with fail
    refine (raw_any m _ (HT.out.below (Below.refl _ _)) (HM.out.below (Below.refl _ _))).mono ?_
    rintro e w1 ⟨rfl, b1⟩
    have B1 : Hid (Below w.heap.size w w1) := b1
    clear b1
    go_wp2_with fail
    go_ret
    exact ⟨by exact rfl, B1.out⟩
  have ks : ¬ (1000 : Int) < s.size := by omega
  by_cases gahead : 1000 < ahead.size
  · have kahead : (1000 : Int) < ahead.size := by omega
    go_enter Tryd.func6, Tryd.ntmps6
    go_wp2_with fail
    refine (raw_any m _ (HT.out.below (Below.refl _ _)) (HM.out.below (Below.refl _ _))).mono ?_
    rintro e w1 ⟨rfl, b1⟩
    have B1 : Hid (Below w.heap.size w w1) := b1
    clear b1
    go_wp2_with fail
    go_ret
    exact ⟨by exact rfl, B1.out⟩
  have kahead : ¬ (1000 : Int) < ahead.size := by omega
  obtain ⟨W1, hW1⟩ : ∃ W1, W1 = ((w.alloc (.cells #[.string ⟨#[60, 33, 45, 45]⟩, .string ⟨#[60, 33, 100, 111, 99, 116, 121, 112, 101]⟩, .string ⟨#[60, 33]⟩, .string ⟨#[60, 47]⟩, .string ⟨#[60, 63]⟩, .string ⟨#[60, 33, 91, 67, 68, 65, 84, 65, 91]⟩] 42)).alloc (.cells #[.int .i64 0, .string ⟨#[]⟩, .string ⟨#[]⟩, .slice none 0 0, .bool false, .bool false, .bool false, .int .i64 0, .int .i64 0] 25)).alloc (.cells #[.int .i64 0, .string ⟨#[]⟩, .string ⟨#[]⟩, .slice none 0 0, .bool false, .bool false, .bool false, .int .i64 0, .int .i64 0] 25) := ⟨_, rfl⟩
  have bW1 : Below w.heap.size w W1 := by rw [hW1]; exact (((Below.refl _ w).alloc (Nat.le_refl _) _).alloc (by simp) _).alloc (by simp; omega) _
  have t1 : TkAt (w.heap.size + 1) 0 ⟨#[]⟩ ⟨#[]⟩ false 0 0 W1 := by
    rw [hW1]
    have := (TkAt.new (w.alloc (.cells #[.string ⟨#[60, 33, 45, 45]⟩, .string ⟨#[60, 33, 100, 111, 99, 116, 121, 112, 101]⟩, .string ⟨#[60, 33]⟩, .string ⟨#[60, 47]⟩, .string ⟨#[60, 63]⟩, .string ⟨#[60, 33, 91, 67, 68, 65, 84, 65, 91]⟩] 42)) 0 ⟨#[]⟩ ⟨#[]⟩ false 0 0).up ((Below.refl _ _).alloc (Nat.le_refl _) (.cells #[.int .i64 0, .string ⟨#[]⟩, .string ⟨#[]⟩, .slice none 0 0, .bool false, .bool false, .bool false, .int .i64 0, .int .i64 0] 25))
    rw [World.size_alloc] at this
    exact this
  have t2 : TkAt (w.heap.size + 1 + 1) 0 ⟨#[]⟩ ⟨#[]⟩ false 0 0 W1 := by
    rw [hW1]
    have := TkAt.new ((w.alloc (.cells #[.string ⟨#[60, 33, 45, 45]⟩, .string ⟨#[60, 33, 100, 111, 99, 116, 121, 112, 101]⟩, .string ⟨#[60, 33]⟩, .string ⟨#[60, 47]⟩, .string ⟨#[60, 63]⟩, .string ⟨#[60, 33, 91, 67, 68, 65, 84, 65, 91]⟩] 42)).alloc (.cells #[.int .i64 0, .string ⟨#[]⟩, .string ⟨#[]⟩, .slice none 0 0, .bool false, .bool false, .bool false, .int .i64 0, .int .i64 0] 25)) 0 ⟨#[]⟩ ⟨#[]⟩ false 0 0
    rw [World.size_alloc, World.size_alloc] at this
    exact this
  have HW1 := Lib.hid hW1
  have BW1 := Lib.hid bW1
  have TA := Lib.hid t1
  have TB := Lib.hid t2
  clear hW1 bW1 t1 t2
  have hr6 : x % 6 = 0 ∨ x % 6 = 1 ∨ x % 6 = 2 ∨ x % 6 = 3 ∨ x % 6 = 4 ∨ x % 6 = 5 := by omega
  rcases hr6 with hr | hr | hr | hr | hr | hr
  · obtain ⟨S, hS⟩ : ∃ S, (⟨#[60, 33, 45, 45]⟩ : ByteArray) ++ s = S := ⟨_, rfl⟩
    have hSl : S.data.toList = [60, 33, 45, 45] ++ s.data.toList := by rw [← hS]; exact app_data _ _
    have hSs : S.size ≤ 2000 := by rw [← hS, ByteArray.size_append]; show 4 + s.size ≤ _; omega
    obtain ⟨AS, hAS⟩ : ∃ AS, ahead ++ S = AS := ⟨_, rfl⟩
    have hASl : AS.data.toList = ahead.data.toList ++ S.data.toList := by rw [← hAS]; exact app_data _ _
    have hASs : AS.size ≤ 4000 := by rw [← hAS, ByteArray.size_append]; omega
    have hc1 : S.data.toList[1]? = some 33 := by rw [hSl]; rfl
    have HN1 := Lib.hid (fun W => no_second S 33 W (by omega) hc1 (by decide))
    have HN2 := Lib.hid (fun W => no_end S W (by omega))
    obtain ⟨k, n, x0, q, N, lo, hi, f1, f2⟩ := Comment_twin S AS ahead m (by omega) (by omega) hASl (by rw [hSl]; exact has_self [60, 33, 45, 45] _)
    have F1 := Lib.hid f1
    have F2 := Lib.hid f2
    have HSM := Lib.hid (fun W => tk_same k 0 (N : Int) n x0 q W)
    clear f1 f2
    unfold tkV at HSM
    obtain ⟨M, hM⟩ : ∃ M, ahead.size + N = M := ⟨_, rfl⟩
    rw [hM] at F2
    have iM : (N : Int) + ahead.size = M := by omega
    have j1 := int_self (M : Int)
    have j2 := int_self' (N : Int)
    have j3 := int_self' (M : Int)
    have j4 := int_self' (ahead.size : Int)
    have l1 : (N : Int) ≤ S.size := by omega
    have l2 : (4 : Int) ≤ N := by omega
    clear hSl hASl hc1 hM gs gahead
    go_enter Tryd.func6, Tryd.ntmps6
    go_upto_region 13 with fail
    rw [← HW1.out]
    go_wp2_with fail
    refine (F1.out _ (HM.out.below BW1.out)).mono ?_
    rintro e w1 ⟨rfl, b1⟩
    have B1 : Hid (Below w.heap.size w w1) := BW1.out.trans (b1.mono BW1.out.size)
    have ta := TA.out.up b1
    have tb := TB.out.up b1
    obtain ⟨⟨c0, c1, c2, c3, c4, c5, c6, c7, c8⟩, f0, f1, f2, f3, f4, f5, f6, f7, f8⟩ := nine ta
    go_upto_region 14 with fail
    obtain ⟨W2, hW2⟩ : ∃ W2, W2 = (((((((((w1.setCell ⟨w.heap.size + 1, 0, none⟩ (.int .i64 k)).setCell ⟨w.heap.size + 1, 1, none⟩ (.string n)).setCell ⟨w.heap.size + 1, 2, none⟩ (.string x0)).setCell ⟨w.heap.size + 1, 3, none⟩ (.slice none 0 0)).setCell ⟨w.heap.size + 1, 4, none⟩ (.bool false)).setCell ⟨w.heap.size + 1, 5, none⟩ (.bool false)).setCell ⟨w.heap.size + 1, 6, none⟩ (.bool q)).setCell ⟨w.heap.size + 1, 7, none⟩ (.int .i64 0)).setCell ⟨w.heap.size + 1, 8, none⟩ (.int .i64 (N : Int))) := ⟨_, rfl⟩
    rw [← hW2]
    have TA2 : Hid (TkAt (w.heap.size + 1) k n x0 q 0 (N : Int) W2) := by show TkAt _ _ _ _ _ _ _ _; rw [hW2]; exact ta.all
    have TB2 : Hid (TkAt (w.heap.size + 1 + 1) 0 ⟨#[]⟩ ⟨#[]⟩ false 0 0 W2) := by show TkAt _ _ _ _ _ _ _ _; rw [hW2]; exact tb.other9 (by omega)
    have B2 : Hid (Below w.heap.size w W2) := by show Below _ _ _; rw [hW2]; exact ((((((((B1.out.setCell (by simp) _).setCell (by simp) _).setCell (by simp) _).setCell (by simp) _).setCell (by simp) _).setCell (by simp) _).setCell (by simp) _).setCell (by simp) _).setCell (by simp) _
    clear ta tb hW2 b1 c0 c1 c2 c3 c4 c5 c6 c7 c8 f0 f1 f2 f3 f4 f5 f6 f7 f8
    go_wp2_with fail
    refine (F2.out _ (HM.out.below B2.out)).mono ?_
    rintro e w3 ⟨rfl, b3⟩
    have B3 : Hid (Below w.heap.size w w3) := B2.out.trans (b3.mono B2.out.size)
    have ta := TA2.out.up b3
    have tb := TB2.out.up b3
    obtain ⟨⟨c0, c1, c2, c3, c4, c5, c6, c7, c8⟩, f0, f1, f2, f3, f4, f5, f6, f7, f8⟩ := nine tb
    go_upto_region 21 with fail
    obtain ⟨W4, hW4⟩ : ∃ W4, W4 = (((((((((w3.setCell ⟨w.heap.size + 1 + 1, 0, none⟩ (.int .i64 k)).setCell ⟨w.heap.size + 1 + 1, 1, none⟩ (.string n)).setCell ⟨w.heap.size + 1 + 1, 2, none⟩ (.string x0)).setCell ⟨w.heap.size + 1 + 1, 3, none⟩ (.slice none 0 0)).setCell ⟨w.heap.size + 1 + 1, 4, none⟩ (.bool false)).setCell ⟨w.heap.size + 1 + 1, 5, none⟩ (.bool false)).setCell ⟨w.heap.size + 1 + 1, 6, none⟩ (.bool q)).setCell ⟨w.heap.size + 1 + 1, 7, none⟩ (.int .i64 (ahead.size : Int))).setCell ⟨w.heap.size + 1 + 1, 8, none⟩ (.int .i64 (M : Int))) := ⟨_, rfl⟩
    rw [← hW4]
    have tb4 : TkAt (w.heap.size + 1 + 1) k n x0 q (ahead.size : Int) (M : Int) W4 := by rw [hW4]; exact tb.all
    have ta4 : TkAt (w.heap.size + 1) k n x0 q 0 (N : Int) W4 := by rw [hW4]; exact ta.other9 (by omega)
    have B4 : Hid (Below w.heap.size w W4) := by show Below _ _ _; rw [hW4]; exact ((((((((B3.out.setCell (by exact Nat.le_trans (Nat.le_succ _) (Nat.le_succ _)) _).setCell (by exact Nat.le_trans (Nat.le_succ _) (Nat.le_succ _)) _).setCell (by exact Nat.le_trans (Nat.le_succ _) (Nat.le_succ _)) _).setCell (by exact Nat.le_trans (Nat.le_succ _) (Nat.le_succ _)) _).setCell (by exact Nat.le_trans (Nat.le_succ _) (Nat.le_succ _)) _).setCell (by exact Nat.le_trans (Nat.le_succ _) (Nat.le_succ _)) _).setCell (by exact Nat.le_trans (Nat.le_succ _) (Nat.le_succ _)) _).setCell (by exact Nat.le_trans (Nat.le_succ _) (Nat.le_succ _)) _).setCell (by exact Nat.le_trans (Nat.le_succ _) (Nat.le_succ _)) _
    clear ta tb hW4 b3 c0 c1 c2 c3 c4 c5 c6 c7 c8 f0 f1 f2 f3 f4 f5 f6 f7 f8
    obtain ⟨⟨c0, c1, c2, c3, c4, c5, c6, c7, c8⟩, _⟩ := nine ta4
    obtain ⟨⟨d0, d1, d2, d3, d4, d5, d6, d7, d8⟩, g0, g1, g2, g3, g4, g5, g6, g7, g8⟩ := nine tb4
    have hne1 : ¬ w.heap.size + 1 + 1 = w.heap.size + 1 := by omega
    have ta5 : Hid (TkAt (w.heap.size + 1) k n x0 q 0 (N : Int) ((W4.setCell ⟨w.heap.size + 1 + 1, 7, none⟩ (.int .i64 0)).setCell ⟨w.heap.size + 1 + 1, 8, none⟩ (.int .i64 (N : Int))).drew) := (TkAt.other (TkAt.other ta4 (by omega)) (by omega))
    have tb5 : Hid (TkAt (w.heap.size + 1 + 1) k n x0 q 0 (N : Int) ((W4.setCell ⟨w.heap.size + 1 + 1, 7, none⟩ (.int .i64 0)).setCell ⟨w.heap.size + 1 + 1, 8, none⟩ (.int .i64 (N : Int))).drew) := TkAt.place (W := W4) tb4
    clear ta4 tb4
    go_upto_region 23 with fail
    go_region
    obtain ⟨W5, hW5⟩ : ∃ W5, W5 = ((W4.setCell ⟨w.heap.size + 1 + 1, 7, none⟩ (.int .i64 0)).setCell ⟨w.heap.size + 1 + 1, 8, none⟩ (.int .i64 (N : Int))).drew := ⟨_, rfl⟩
    rw [← hW5]
    rw [← hW5] at ta5 tb5
    have B5 : Hid (Below w.heap.size w W5) := by show Below _ _ _; rw [hW5]; exact ((B4.out.setCell (by exact Nat.le_trans (Nat.le_succ _) (Nat.le_succ _)) _).setCell (by exact Nat.le_trans (Nat.le_succ _) (Nat.le_succ _)) _).drew
    clear hW5 c0 c1 c2 c3 c4 c5 c6 c7 c8 d0 d1 d2 d3 d4 d5 d6 d7 d8 g0 g1 g2 g3 g4 g5 g6 g7 g8
    go_wp2_with fail
    refine (HN1.out _).mono ?_
    rintro e w6 ⟨rfl, b6⟩
    have B6 : Hid (Below w.heap.size w (w6.alloc (.cells #[.int .i64 0, .string ⟨#[]⟩, .string ⟨#[]⟩, .slice none 0 0, .bool false, .bool false, .bool false, .int .i64 0, .int .i64 0] 25))) := (B5.out.trans (b6.mono B5.out.size)).alloc (Nat.le_trans B5.out.size b6.size) _
    have ta6 := (ta5.out.up b6).up ((Below.refl _ w6).alloc (Nat.le_refl _) (.cells #[.int .i64 0, .string ⟨#[]⟩, .string ⟨#[]⟩, .slice none 0 0, .bool false, .bool false, .bool false, .int .i64 0, .int .i64 0] 25))
    have tb6 := (tb5.out.up b6).up ((Below.refl _ w6).alloc (Nat.le_refl _) (.cells #[.int .i64 0, .string ⟨#[]⟩, .string ⟨#[]⟩, .slice none 0 0, .bool false, .bool false, .bool false, .int .i64 0, .int .i64 0] 25))
    obtain ⟨⟨c0, c1, c2, c3, c4, c5, c6, c7, c8⟩, _⟩ := nine ta6
    obtain ⟨⟨d0, d1, d2, d3, d4, d5, d6, d7, d8⟩, _⟩ := nine tb6
    clear ta6 tb6 b6
    go_wp2_with fail
    refine (HN2.out _).mono ?_
    rintro e w7 ⟨rfl, rfl⟩
    go_wp2_with fail
    refine (HSM.out _).mono ?_
    rintro e w8 ⟨rfl, b8⟩
    have B8 : Hid (Below w.heap.size w w8) := B6.out.trans (b8.mono B6.out.size)
    clear b8 c0 c1 c2 c3 c4 c5 c6 c7 c8 d0 d1 d2 d3 d4 d5 d6 d7 d8
    go_wp2_with fail
    refine (raw_any m _ (HT.out.below B8.out) (HM.out.below B8.out)).mono ?_
    rintro e w9 ⟨rfl, b9⟩
    go_wp2_with fail
    go_ret
    exact ⟨by exact rfl, B8.out.trans (b9.mono B8.out.size)⟩
  · obtain ⟨S, hS⟩ : ∃ S, (⟨#[60, 33, 100, 111, 99, 116, 121, 112, 101]⟩ : ByteArray) ++ s = S := ⟨_, rfl⟩
    have hSl : S.data.toList = [60, 33, 100, 111, 99, 116, 121, 112, 101] ++ s.data.toList := by rw [← hS]; exact app_data _ _
    have hSs : S.size ≤ 2000 := by rw [← hS, ByteArray.size_append]; show 9 + s.size ≤ _; omega
    obtain ⟨AS, hAS⟩ : ∃ AS, ahead ++ S = AS := ⟨_, rfl⟩
    have hASl : AS.data.toList = ahead.data.toList ++ S.data.toList := by rw [← hAS]; exact app_data _ _
    have hASs : AS.size ≤ 4000 := by rw [← hAS, ByteArray.size_append]; omega
    have hc1 : S.data.toList[1]? = some 33 := by rw [hSl]; rfl
    have HN1 := Lib.hid (fun W => no_second S 33 W (by omega) hc1 (by decide))
    have HN2 := Lib.hid (fun W => no_end S W (by omega))
    obtain ⟨k, n, x0, q, N, lo, hi, f1, f2⟩ := Doctype_twin S AS ahead m (by omega) (by omega) hASl (by rw [hSl]; exact has_self [60, 33, 100, 111, 99, 116, 121, 112, 101] _)
    have F1 := Lib.hid f1
    have F2 := Lib.hid f2
    have HSM := Lib.hid (fun W => tk_same k 0 (N : Int) n x0 q W)
    clear f1 f2
    unfold tkV at HSM
    obtain ⟨M, hM⟩ : ∃ M, ahead.size + N = M := ⟨_, rfl⟩
    rw [hM] at F2
    have iM : (N : Int) + ahead.size = M := by omega
    have j1 := int_self (M : Int)
    have j2 := int_self' (N : Int)
    have j3 := int_self' (M : Int)
    have j4 := int_self' (ahead.size : Int)
    have l1 : (N : Int) ≤ S.size := by omega
    have l2 : (9 : Int) ≤ N := by omega
    clear hSl hASl hc1 hM gs gahead
    go_enter Tryd.func6, Tryd.ntmps6
    go_upto_region 16 with fail
    rw [← HW1.out]
    go_wp2_with fail
    refine (F1.out _ (HM.out.below BW1.out)).mono ?_
    rintro e w1 ⟨rfl, b1⟩
    have B1 : Hid (Below w.heap.size w w1) := BW1.out.trans (b1.mono BW1.out.size)
    have ta := TA.out.up b1
    have tb := TB.out.up b1
    obtain ⟨⟨c0, c1, c2, c3, c4, c5, c6, c7, c8⟩, f0, f1, f2, f3, f4, f5, f6, f7, f8⟩ := nine ta
    go_upto_region 17 with fail
    obtain ⟨W2, hW2⟩ : ∃ W2, W2 = (((((((((w1.setCell ⟨w.heap.size + 1, 0, none⟩ (.int .i64 k)).setCell ⟨w.heap.size + 1, 1, none⟩ (.string n)).setCell ⟨w.heap.size + 1, 2, none⟩ (.string x0)).setCell ⟨w.heap.size + 1, 3, none⟩ (.slice none 0 0)).setCell ⟨w.heap.size + 1, 4, none⟩ (.bool false)).setCell ⟨w.heap.size + 1, 5, none⟩ (.bool false)).setCell ⟨w.heap.size + 1, 6, none⟩ (.bool q)).setCell ⟨w.heap.size + 1, 7, none⟩ (.int .i64 0)).setCell ⟨w.heap.size + 1, 8, none⟩ (.int .i64 (N : Int))) := ⟨_, rfl⟩
    rw [← hW2]
    have TA2 : Hid (TkAt (w.heap.size + 1) k n x0 q 0 (N : Int) W2) := by show TkAt _ _ _ _ _ _ _ _; rw [hW2]; exact ta.all
    have TB2 : Hid (TkAt (w.heap.size + 1 + 1) 0 ⟨#[]⟩ ⟨#[]⟩ false 0 0 W2) := by show TkAt _ _ _ _ _ _ _ _; rw [hW2]; exact tb.other9 (by omega)
    have B2 : Hid (Below w.heap.size w W2) := by show Below _ _ _; rw [hW2]; exact ((((((((B1.out.setCell (by simp) _).setCell (by simp) _).setCell (by simp) _).setCell (by simp) _).setCell (by simp) _).setCell (by simp) _).setCell (by simp) _).setCell (by simp) _).setCell (by simp) _
    clear ta tb hW2 b1 c0 c1 c2 c3 c4 c5 c6 c7 c8 f0 f1 f2 f3 f4 f5 f6 f7 f8
    go_wp2_with fail
    refine (F2.out _ (HM.out.below B2.out)).mono ?_
    rintro e w3 ⟨rfl, b3⟩
    have B3 : Hid (Below w.heap.size w w3) := B2.out.trans (b3.mono B2.out.size)
    have ta := TA2.out.up b3
    have tb := TB2.out.up b3
    obtain ⟨⟨c0, c1, c2, c3, c4, c5, c6, c7, c8⟩, f0, f1, f2, f3, f4, f5, f6, f7, f8⟩ := nine tb
    go_upto_region 21 with fail
    obtain ⟨W4, hW4⟩ : ∃ W4, W4 = (((((((((w3.setCell ⟨w.heap.size + 1 + 1, 0, none⟩ (.int .i64 k)).setCell ⟨w.heap.size + 1 + 1, 1, none⟩ (.string n)).setCell ⟨w.heap.size + 1 + 1, 2, none⟩ (.string x0)).setCell ⟨w.heap.size + 1 + 1, 3, none⟩ (.slice none 0 0)).setCell ⟨w.heap.size + 1 + 1, 4, none⟩ (.bool false)).setCell ⟨w.heap.size + 1 + 1, 5, none⟩ (.bool false)).setCell ⟨w.heap.size + 1 + 1, 6, none⟩ (.bool q)).setCell ⟨w.heap.size + 1 + 1, 7, none⟩ (.int .i64 (ahead.size : Int))).setCell ⟨w.heap.size + 1 + 1, 8, none⟩ (.int .i64 (M : Int))) := ⟨_, rfl⟩
    rw [← hW4]
    have tb4 : TkAt (w.heap.size + 1 + 1) k n x0 q (ahead.size : Int) (M : Int) W4 := by rw [hW4]; exact tb.all
    have ta4 : TkAt (w.heap.size + 1) k n x0 q 0 (N : Int) W4 := by rw [hW4]; exact ta.other9 (by omega)
    have B4 : Hid (Below w.heap.size w W4) := by show Below _ _ _; rw [hW4]; exact ((((((((B3.out.setCell (by exact Nat.le_trans (Nat.le_succ _) (Nat.le_succ _)) _).setCell (by exact Nat.le_trans (Nat.le_succ _) (Nat.le_succ _)) _).setCell (by exact Nat.le_trans (Nat.le_succ _) (Nat.le_succ _)) _).setCell (by exact Nat.le_trans (Nat.le_succ _) (Nat.le_succ _)) _).setCell (by exact Nat.le_trans (Nat.le_succ _) (Nat.le_succ _)) _).setCell (by exact Nat.le_trans (Nat.le_succ _) (Nat.le_succ _)) _).setCell (by exact Nat.le_trans (Nat.le_succ _) (Nat.le_succ _)) _).setCell (by exact Nat.le_trans (Nat.le_succ _) (Nat.le_succ _)) _).setCell (by exact Nat.le_trans (Nat.le_succ _) (Nat.le_succ _)) _
    clear ta tb hW4 b3 c0 c1 c2 c3 c4 c5 c6 c7 c8 f0 f1 f2 f3 f4 f5 f6 f7 f8
    obtain ⟨⟨c0, c1, c2, c3, c4, c5, c6, c7, c8⟩, _⟩ := nine ta4
    obtain ⟨⟨d0, d1, d2, d3, d4, d5, d6, d7, d8⟩, g0, g1, g2, g3, g4, g5, g6, g7, g8⟩ := nine tb4
    have hne1 : ¬ w.heap.size + 1 + 1 = w.heap.size + 1 := by omega
    have ta5 : Hid (TkAt (w.heap.size + 1) k n x0 q 0 (N : Int) ((W4.setCell ⟨w.heap.size + 1 + 1, 7, none⟩ (.int .i64 0)).setCell ⟨w.heap.size + 1 + 1, 8, none⟩ (.int .i64 (N : Int))).drew) := (TkAt.other (TkAt.other ta4 (by omega)) (by omega))
    have tb5 : Hid (TkAt (w.heap.size + 1 + 1) k n x0 q 0 (N : Int) ((W4.setCell ⟨w.heap.size + 1 + 1, 7, none⟩ (.int .i64 0)).setCell ⟨w.heap.size + 1 + 1, 8, none⟩ (.int .i64 (N : Int))).drew) := TkAt.place (W := W4) tb4
    clear ta4 tb4
    go_upto_region 23 with fail
    go_region
    obtain ⟨W5, hW5⟩ : ∃ W5, W5 = ((W4.setCell ⟨w.heap.size + 1 + 1, 7, none⟩ (.int .i64 0)).setCell ⟨w.heap.size + 1 + 1, 8, none⟩ (.int .i64 (N : Int))).drew := ⟨_, rfl⟩
    rw [← hW5]
    rw [← hW5] at ta5 tb5
    have B5 : Hid (Below w.heap.size w W5) := by show Below _ _ _; rw [hW5]; exact ((B4.out.setCell (by exact Nat.le_trans (Nat.le_succ _) (Nat.le_succ _)) _).setCell (by exact Nat.le_trans (Nat.le_succ _) (Nat.le_succ _)) _).drew
    clear hW5 c0 c1 c2 c3 c4 c5 c6 c7 c8 d0 d1 d2 d3 d4 d5 d6 d7 d8 g0 g1 g2 g3 g4 g5 g6 g7 g8
    go_wp2_with fail
    refine (HN1.out _).mono ?_
    rintro e w6 ⟨rfl, b6⟩
    have B6 : Hid (Below w.heap.size w (w6.alloc (.cells #[.int .i64 0, .string ⟨#[]⟩, .string ⟨#[]⟩, .slice none 0 0, .bool false, .bool false, .bool false, .int .i64 0, .int .i64 0] 25))) := (B5.out.trans (b6.mono B5.out.size)).alloc (Nat.le_trans B5.out.size b6.size) _
    have ta6 := (ta5.out.up b6).up ((Below.refl _ w6).alloc (Nat.le_refl _) (.cells #[.int .i64 0, .string ⟨#[]⟩, .string ⟨#[]⟩, .slice none 0 0, .bool false, .bool false, .bool false, .int .i64 0, .int .i64 0] 25))
    have tb6 := (tb5.out.up b6).up ((Below.refl _ w6).alloc (Nat.le_refl _) (.cells #[.int .i64 0, .string ⟨#[]⟩, .string ⟨#[]⟩, .slice none 0 0, .bool false, .bool false, .bool false, .int .i64 0, .int .i64 0] 25))
    obtain ⟨⟨c0, c1, c2, c3, c4, c5, c6, c7, c8⟩, _⟩ := nine ta6
    obtain ⟨⟨d0, d1, d2, d3, d4, d5, d6, d7, d8⟩, _⟩ := nine tb6
    clear ta6 tb6 b6
    go_wp2_with fail
    refine (HN2.out _).mono ?_
    rintro e w7 ⟨rfl, rfl⟩
    go_wp2_with fail
    refine (HSM.out _).mono ?_
    rintro e w8 ⟨rfl, b8⟩
    have B8 : Hid (Below w.heap.size w w8) := B6.out.trans (b8.mono B6.out.size)
    clear b8 c0 c1 c2 c3 c4 c5 c6 c7 c8 d0 d1 d2 d3 d4 d5 d6 d7 d8
    go_wp2_with fail
    refine (raw_any m _ (HT.out.below B8.out) (HM.out.below B8.out)).mono ?_
    rintro e w9 ⟨rfl, b9⟩
    go_wp2_with fail
    go_ret
    exact ⟨by exact rfl, B8.out.trans (b9.mono B8.out.size)⟩
  · obtain ⟨S, hS⟩ : ∃ S, (⟨#[60, 33]⟩ : ByteArray) ++ s = S := ⟨_, rfl⟩
    have hSl : S.data.toList = [60, 33] ++ s.data.toList := by rw [← hS]; exact app_data _ _
    have hSs : S.size ≤ 2000 := by rw [← hS, ByteArray.size_append]; show 2 + s.size ≤ _; omega
    obtain ⟨AS, hAS⟩ : ∃ AS, ahead ++ S = AS := ⟨_, rfl⟩
    have hASl : AS.data.toList = ahead.data.toList ++ S.data.toList := by rw [← hAS]; exact app_data _ _
    have hASs : AS.size ≤ 4000 := by rw [← hAS, ByteArray.size_append]; omega
    have hc1 : S.data.toList[1]? = some 33 := by rw [hSl]; rfl
    have HN1 := Lib.hid (fun W => no_second S 33 W (by omega) hc1 (by decide))
    have HN2 := Lib.hid (fun W => no_end S W (by omega))
    obtain ⟨k, n, x0, q, N, lo, hi, f1, f2⟩ := Bogus_twin_e S AS ahead m (by omega) (by omega) hASl (by rw [has_plain _ _ (by decide), hSl]; rfl) (by rw [hSl]; exact has_self [60, 33] _)
    have F1 := Lib.hid f1
    have F2 := Lib.hid f2
    have HSM := Lib.hid (fun W => tk_same k 0 (N : Int) n x0 q W)
    clear f1 f2
    unfold tkV at HSM
    obtain ⟨M, hM⟩ : ∃ M, ahead.size + N = M := ⟨_, rfl⟩
    rw [hM] at F2
    have iM : (N : Int) + ahead.size = M := by omega
    have j1 := int_self (M : Int)
    have j2 := int_self' (N : Int)
    have j3 := int_self' (M : Int)
    have j4 := int_self' (ahead.size : Int)
    have l1 : (N : Int) ≤ S.size := by omega
    have l2 : (2 : Int) ≤ N := by omega
    clear hSl hASl hc1 hM gs gahead
    go_enter Tryd.func6, Tryd.ntmps6
    go_upto_region 10 with fail
    rw [← HW1.out]
    go_wp2_with fail
    refine (F1.out _ (HM.out.below BW1.out)).mono ?_
    rintro e w1 ⟨rfl, b1⟩
    have B1 : Hid (Below w.heap.size w w1) := BW1.out.trans (b1.mono BW1.out.size)
    have ta := TA.out.up b1
    have tb := TB.out.up b1
    obtain ⟨⟨c0, c1, c2, c3, c4, c5, c6, c7, c8⟩, f0, f1, f2, f3, f4, f5, f6, f7, f8⟩ := nine ta
    go_upto_region 11 with fail
    obtain ⟨W2, hW2⟩ : ∃ W2, W2 = (((((((((w1.setCell ⟨w.heap.size + 1, 0, none⟩ (.int .i64 k)).setCell ⟨w.heap.size + 1, 1, none⟩ (.string n)).setCell ⟨w.heap.size + 1, 2, none⟩ (.string x0)).setCell ⟨w.heap.size + 1, 3, none⟩ (.slice none 0 0)).setCell ⟨w.heap.size + 1, 4, none⟩ (.bool false)).setCell ⟨w.heap.size + 1, 5, none⟩ (.bool false)).setCell ⟨w.heap.size + 1, 6, none⟩ (.bool q)).setCell ⟨w.heap.size + 1, 7, none⟩ (.int .i64 0)).setCell ⟨w.heap.size + 1, 8, none⟩ (.int .i64 (N : Int))) := ⟨_, rfl⟩
    rw [← hW2]
    have TA2 : Hid (TkAt (w.heap.size + 1) k n x0 q 0 (N : Int) W2) := by show TkAt _ _ _ _ _ _ _ _; rw [hW2]; exact ta.all
    have TB2 : Hid (TkAt (w.heap.size + 1 + 1) 0 ⟨#[]⟩ ⟨#[]⟩ false 0 0 W2) := by show TkAt _ _ _ _ _ _ _ _; rw [hW2]; exact tb.other9 (by omega)
    have B2 : Hid (Below w.heap.size w W2) := by show Below _ _ _; rw [hW2]; exact ((((((((B1.out.setCell (by simp) _).setCell (by simp) _).setCell (by simp) _).setCell (by simp) _).setCell (by simp) _).setCell (by simp) _).setCell (by simp) _).setCell (by simp) _).setCell (by simp) _
    clear ta tb hW2 b1 c0 c1 c2 c3 c4 c5 c6 c7 c8 f0 f1 f2 f3 f4 f5 f6 f7 f8
    go_wp2_with fail
    refine (F2.out _ (HM.out.below B2.out)).mono ?_
    rintro e w3 ⟨rfl, b3⟩
    have B3 : Hid (Below w.heap.size w w3) := B2.out.trans (b3.mono B2.out.size)
    have ta := TA2.out.up b3
    have tb := TB2.out.up b3
    obtain ⟨⟨c0, c1, c2, c3, c4, c5, c6, c7, c8⟩, f0, f1, f2, f3, f4, f5, f6, f7, f8⟩ := nine tb
    go_upto_region 21 with fail
    obtain ⟨W4, hW4⟩ : ∃ W4, W4 = (((((((((w3.setCell ⟨w.heap.size + 1 + 1, 0, none⟩ (.int .i64 k)).setCell ⟨w.heap.size + 1 + 1, 1, none⟩ (.string n)).setCell ⟨w.heap.size + 1 + 1, 2, none⟩ (.string x0)).setCell ⟨w.heap.size + 1 + 1, 3, none⟩ (.slice none 0 0)).setCell ⟨w.heap.size + 1 + 1, 4, none⟩ (.bool false)).setCell ⟨w.heap.size + 1 + 1, 5, none⟩ (.bool false)).setCell ⟨w.heap.size + 1 + 1, 6, none⟩ (.bool q)).setCell ⟨w.heap.size + 1 + 1, 7, none⟩ (.int .i64 (ahead.size : Int))).setCell ⟨w.heap.size + 1 + 1, 8, none⟩ (.int .i64 (M : Int))) := ⟨_, rfl⟩
    rw [← hW4]
    have tb4 : TkAt (w.heap.size + 1 + 1) k n x0 q (ahead.size : Int) (M : Int) W4 := by rw [hW4]; exact tb.all
    have ta4 : TkAt (w.heap.size + 1) k n x0 q 0 (N : Int) W4 := by rw [hW4]; exact ta.other9 (by omega)
    have B4 : Hid (Below w.heap.size w W4) := by show Below _ _ _; rw [hW4]; exact ((((((((B3.out.setCell (by exact Nat.le_trans (Nat.le_succ _) (Nat.le_succ _)) _).setCell (by exact Nat.le_trans (Nat.le_succ _) (Nat.le_succ _)) _).setCell (by exact Nat.le_trans (Nat.le_succ _) (Nat.le_succ _)) _).setCell (by exact Nat.le_trans (Nat.le_succ _) (Nat.le_succ _)) _).setCell (by exact Nat.le_trans (Nat.le_succ _) (Nat.le_succ _)) _).setCell (by exact Nat.le_trans (Nat.le_succ _) (Nat.le_succ _)) _).setCell (by exact Nat.le_trans (Nat.le_succ _) (Nat.le_succ _)) _).setCell (by exact Nat.le_trans (Nat.le_succ _) (Nat.le_succ _)) _).setCell (by exact Nat.le_trans (Nat.le_succ _) (Nat.le_succ _)) _
    clear ta tb hW4 b3 c0 c1 c2 c3 c4 c5 c6 c7 c8 f0 f1 f2 f3 f4 f5 f6 f7 f8
    obtain ⟨⟨c0, c1, c2, c3, c4, c5, c6, c7, c8⟩, _⟩ := nine ta4
    obtain ⟨⟨d0, d1, d2, d3, d4, d5, d6, d7, d8⟩, g0, g1, g2, g3, g4, g5, g6, g7, g8⟩ := nine tb4
    have hne1 : ¬ w.heap.size + 1 + 1 = w.heap.size + 1 := by omega
    have ta5 : Hid (TkAt (w.heap.size + 1) k n x0 q 0 (N : Int) ((W4.setCell ⟨w.heap.size + 1 + 1, 7, none⟩ (.int .i64 0)).setCell ⟨w.heap.size + 1 + 1, 8, none⟩ (.int .i64 (N : Int))).drew) := (TkAt.other (TkAt.other ta4 (by omega)) (by omega))
    have tb5 : Hid (TkAt (w.heap.size + 1 + 1) k n x0 q 0 (N : Int) ((W4.setCell ⟨w.heap.size + 1 + 1, 7, none⟩ (.int .i64 0)).setCell ⟨w.heap.size + 1 + 1, 8, none⟩ (.int .i64 (N : Int))).drew) := TkAt.place (W := W4) tb4
    clear ta4 tb4
    go_upto_region 23 with fail
    go_region
    obtain ⟨W5, hW5⟩ : ∃ W5, W5 = ((W4.setCell ⟨w.heap.size + 1 + 1, 7, none⟩ (.int .i64 0)).setCell ⟨w.heap.size + 1 + 1, 8, none⟩ (.int .i64 (N : Int))).drew := ⟨_, rfl⟩
    rw [← hW5]
    rw [← hW5] at ta5 tb5
    have B5 : Hid (Below w.heap.size w W5) := by show Below _ _ _; rw [hW5]; exact ((B4.out.setCell (by exact Nat.le_trans (Nat.le_succ _) (Nat.le_succ _)) _).setCell (by exact Nat.le_trans (Nat.le_succ _) (Nat.le_succ _)) _).drew
    clear hW5 c0 c1 c2 c3 c4 c5 c6 c7 c8 d0 d1 d2 d3 d4 d5 d6 d7 d8 g0 g1 g2 g3 g4 g5 g6 g7 g8
    go_wp2_with fail
    refine (HN1.out _).mono ?_
    rintro e w6 ⟨rfl, b6⟩
    have B6 : Hid (Below w.heap.size w (w6.alloc (.cells #[.int .i64 0, .string ⟨#[]⟩, .string ⟨#[]⟩, .slice none 0 0, .bool false, .bool false, .bool false, .int .i64 0, .int .i64 0] 25))) := (B5.out.trans (b6.mono B5.out.size)).alloc (Nat.le_trans B5.out.size b6.size) _
    have ta6 := (ta5.out.up b6).up ((Below.refl _ w6).alloc (Nat.le_refl _) (.cells #[.int .i64 0, .string ⟨#[]⟩, .string ⟨#[]⟩, .slice none 0 0, .bool false, .bool false, .bool false, .int .i64 0, .int .i64 0] 25))
    have tb6 := (tb5.out.up b6).up ((Below.refl _ w6).alloc (Nat.le_refl _) (.cells #[.int .i64 0, .string ⟨#[]⟩, .string ⟨#[]⟩, .slice none 0 0, .bool false, .bool false, .bool false, .int .i64 0, .int .i64 0] 25))
    obtain ⟨⟨c0, c1, c2, c3, c4, c5, c6, c7, c8⟩, _⟩ := nine ta6
    obtain ⟨⟨d0, d1, d2, d3, d4, d5, d6, d7, d8⟩, _⟩ := nine tb6
    clear ta6 tb6 b6
    go_wp2_with fail
    refine (HN2.out _).mono ?_
    rintro e w7 ⟨rfl, rfl⟩
    go_wp2_with fail
    refine (HSM.out _).mono ?_
    rintro e w8 ⟨rfl, b8⟩
    have B8 : Hid (Below w.heap.size w w8) := B6.out.trans (b8.mono B6.out.size)
    clear b8 c0 c1 c2 c3 c4 c5 c6 c7 c8 d0 d1 d2 d3 d4 d5 d6 d7 d8
    go_wp2_with fail
    refine (raw_any m _ (HT.out.below B8.out) (HM.out.below B8.out)).mono ?_
    rintro e w9 ⟨rfl, b9⟩
    go_wp2_with fail
    go_ret
    exact ⟨by exact rfl, B8.out.trans (b9.mono B8.out.size)⟩
  · obtain ⟨S, hS⟩ : ∃ S, (⟨#[60, 47]⟩ : ByteArray) ++ s = S := ⟨_, rfl⟩
    have hSl : S.data.toList = [60, 47] ++ s.data.toList := by rw [← hS]; exact app_data _ _
    have hSs : S.size ≤ 2000 := by rw [← hS, ByteArray.size_append]; show 2 + s.size ≤ _; omega
    obtain ⟨AS, hAS⟩ : ∃ AS, ahead ++ S = AS := ⟨_, rfl⟩
    have hASl : AS.data.toList = ahead.data.toList ++ S.data.toList := by rw [← hAS]; exact app_data _ _
    have hASs : AS.size ≤ 4000 := by rw [← hAS, ByteArray.size_append]; omega
    have hc1 : S.data.toList[1]? = some 47 := by rw [hSl]; rfl
    have HN1 := Lib.hid (fun W => no_second S 47 W (by omega) hc1 (by decide))
    have HN2 := Lib.hid (fun W => no_end S W (by omega))
    obtain ⟨k, n, x0, q, N, lo, hi, f1, f2⟩ := Bogus_twin_c S AS ahead m (by omega) (by omega) hASl (by rw [has_plain _ _ (by decide), hSl]; rfl) (by rw [has_plain _ _ (by decide), hSl]; rfl) (by rw [hSl]; exact has_self [60, 47] _)
    have F1 := Lib.hid f1
    have F2 := Lib.hid f2
    have HSM := Lib.hid (fun W => tk_same k 0 (N : Int) n x0 q W)
    clear f1 f2
    unfold tkV at HSM
    obtain ⟨M, hM⟩ : ∃ M, ahead.size + N = M := ⟨_, rfl⟩
    rw [hM] at F2
    have iM : (N : Int) + ahead.size = M := by omega
    have j1 := int_self (M : Int)
    have j2 := int_self' (N : Int)
    have j3 := int_self' (M : Int)
    have j4 := int_self' (ahead.size : Int)
    have l1 : (N : Int) ≤ S.size := by omega
    have l2 : (2 : Int) ≤ N := by omega
    clear hSl hASl hc1 hM gs gahead
    go_enter Tryd.func6, Tryd.ntmps6
    go_upto_region 10 with fail
    rw [← HW1.out]
    go_wp2_with fail
    refine (F1.out _ (HM.out.below BW1.out)).mono ?_
    rintro e w1 ⟨rfl, b1⟩
    have B1 : Hid (Below w.heap.size w w1) := BW1.out.trans (b1.mono BW1.out.size)
    have ta := TA.out.up b1
    have tb := TB.out.up b1
    obtain ⟨⟨c0, c1, c2, c3, c4, c5, c6, c7, c8⟩, f0, f1, f2, f3, f4, f5, f6, f7, f8⟩ := nine ta
    go_upto_region 11 with fail
    obtain ⟨W2, hW2⟩ : ∃ W2, W2 = (((((((((w1.setCell ⟨w.heap.size + 1, 0, none⟩ (.int .i64 k)).setCell ⟨w.heap.size + 1, 1, none⟩ (.string n)).setCell ⟨w.heap.size + 1, 2, none⟩ (.string x0)).setCell ⟨w.heap.size + 1, 3, none⟩ (.slice none 0 0)).setCell ⟨w.heap.size + 1, 4, none⟩ (.bool false)).setCell ⟨w.heap.size + 1, 5, none⟩ (.bool false)).setCell ⟨w.heap.size + 1, 6, none⟩ (.bool q)).setCell ⟨w.heap.size + 1, 7, none⟩ (.int .i64 0)).setCell ⟨w.heap.size + 1, 8, none⟩ (.int .i64 (N : Int))) := ⟨_, rfl⟩
    rw [← hW2]
    have TA2 : Hid (TkAt (w.heap.size + 1) k n x0 q 0 (N : Int) W2) := by show TkAt _ _ _ _ _ _ _ _; rw [hW2]; exact ta.all
    have TB2 : Hid (TkAt (w.heap.size + 1 + 1) 0 ⟨#[]⟩ ⟨#[]⟩ false 0 0 W2) := by show TkAt _ _ _ _ _ _ _ _; rw [hW2]; exact tb.other9 (by omega)
    have B2 : Hid (Below w.heap.size w W2) := by show Below _ _ _; rw [hW2]; exact ((((((((B1.out.setCell (by simp) _).setCell (by simp) _).setCell (by simp) _).setCell (by simp) _).setCell (by simp) _).setCell (by simp) _).setCell (by simp) _).setCell (by simp) _).setCell (by simp) _
    clear ta tb hW2 b1 c0 c1 c2 c3 c4 c5 c6 c7 c8 f0 f1 f2 f3 f4 f5 f6 f7 f8
    go_wp2_with fail
    refine (F2.out _ (HM.out.below B2.out)).mono ?_
    rintro e w3 ⟨rfl, b3⟩
    have B3 : Hid (Below w.heap.size w w3) := B2.out.trans (b3.mono B2.out.size)
    have ta := TA2.out.up b3
    have tb := TB2.out.up b3
    obtain ⟨⟨c0, c1, c2, c3, c4, c5, c6, c7, c8⟩, f0, f1, f2, f3, f4, f5, f6, f7, f8⟩ := nine tb
    go_upto_region 21 with fail
    obtain ⟨W4, hW4⟩ : ∃ W4, W4 = (((((((((w3.setCell ⟨w.heap.size + 1 + 1, 0, none⟩ (.int .i64 k)).setCell ⟨w.heap.size + 1 + 1, 1, none⟩ (.string n)).setCell ⟨w.heap.size + 1 + 1, 2, none⟩ (.string x0)).setCell ⟨w.heap.size + 1 + 1, 3, none⟩ (.slice none 0 0)).setCell ⟨w.heap.size + 1 + 1, 4, none⟩ (.bool false)).setCell ⟨w.heap.size + 1 + 1, 5, none⟩ (.bool false)).setCell ⟨w.heap.size + 1 + 1, 6, none⟩ (.bool q)).setCell ⟨w.heap.size + 1 + 1, 7, none⟩ (.int .i64 (ahead.size : Int))).setCell ⟨w.heap.size + 1 + 1, 8, none⟩ (.int .i64 (M : Int))) := ⟨_, rfl⟩
    rw [← hW4]
    have tb4 : TkAt (w.heap.size + 1 + 1) k n x0 q (ahead.size : Int) (M : Int) W4 := by rw [hW4]; exact tb.all
    have ta4 : TkAt (w.heap.size + 1) k n x0 q 0 (N : Int) W4 := by rw [hW4]; exact ta.other9 (by omega)
    have B4 : Hid (Below w.heap.size w W4) := by show Below _ _ _; rw [hW4]; exact ((((((((B3.out.setCell (by exact Nat.le_trans (Nat.le_succ _) (Nat.le_succ _)) _).setCell (by exact Nat.le_trans (Nat.le_succ _) (Nat.le_succ _)) _).setCell (by exact Nat.le_trans (Nat.le_succ _) (Nat.le_succ _)) _).setCell (by exact Nat.le_trans (Nat.le_succ _) (Nat.le_succ _)) _).setCell (by exact Nat.le_trans (Nat.le_succ _) (Nat.le_succ _)) _).setCell (by exact Nat.le_trans (Nat.le_succ _) (Nat.le_succ _)) _).setCell (by exact Nat.le_trans (Nat.le_succ _) (Nat.le_succ _)) _).setCell (by exact Nat.le_trans (Nat.le_succ _) (Nat.le_succ _)) _).setCell (by exact Nat.le_trans (Nat.le_succ _) (Nat.le_succ _)) _
    clear ta tb hW4 b3 c0 c1 c2 c3 c4 c5 c6 c7 c8 f0 f1 f2 f3 f4 f5 f6 f7 f8
    obtain ⟨⟨c0, c1, c2, c3, c4, c5, c6, c7, c8⟩, _⟩ := nine ta4
    obtain ⟨⟨d0, d1, d2, d3, d4, d5, d6, d7, d8⟩, g0, g1, g2, g3, g4, g5, g6, g7, g8⟩ := nine tb4
    have hne1 : ¬ w.heap.size + 1 + 1 = w.heap.size + 1 := by omega
    have ta5 : Hid (TkAt (w.heap.size + 1) k n x0 q 0 (N : Int) ((W4.setCell ⟨w.heap.size + 1 + 1, 7, none⟩ (.int .i64 0)).setCell ⟨w.heap.size + 1 + 1, 8, none⟩ (.int .i64 (N : Int))).drew) := (TkAt.other (TkAt.other ta4 (by omega)) (by omega))
    have tb5 : Hid (TkAt (w.heap.size + 1 + 1) k n x0 q 0 (N : Int) ((W4.setCell ⟨w.heap.size + 1 + 1, 7, none⟩ (.int .i64 0)).setCell ⟨w.heap.size + 1 + 1, 8, none⟩ (.int .i64 (N : Int))).drew) := TkAt.place (W := W4) tb4
    clear ta4 tb4
    go_upto_region 23 with fail
    go_region
    obtain ⟨W5, hW5⟩ : ∃ W5, W5 = ((W4.setCell ⟨w.heap.size + 1 + 1, 7, none⟩ (.int .i64 0)).setCell ⟨w.heap.size + 1 + 1, 8, none⟩ (.int .i64 (N : Int))).drew := ⟨_, rfl⟩
    rw [← hW5]
    rw [← hW5] at ta5 tb5
    have B5 : Hid (Below w.heap.size w W5) := by show Below _ _ _; rw [hW5]; exact ((B4.out.setCell (by exact Nat.le_trans (Nat.le_succ _) (Nat.le_succ _)) _).setCell (by exact Nat.le_trans (Nat.le_succ _) (Nat.le_succ _)) _).drew
    clear hW5 c0 c1 c2 c3 c4 c5 c6 c7 c8 d0 d1 d2 d3 d4 d5 d6 d7 d8 g0 g1 g2 g3 g4 g5 g6 g7 g8
    go_wp2_with fail
    refine (HN1.out _).mono ?_
    rintro e w6 ⟨rfl, b6⟩
    have B6 : Hid (Below w.heap.size w (w6.alloc (.cells #[.int .i64 0, .string ⟨#[]⟩, .string ⟨#[]⟩, .slice none 0 0, .bool false, .bool false, .bool false, .int .i64 0, .int .i64 0] 25))) := (B5.out.trans (b6.mono B5.out.size)).alloc (Nat.le_trans B5.out.size b6.size) _
    have ta6 := (ta5.out.up b6).up ((Below.refl _ w6).alloc (Nat.le_refl _) (.cells #[.int .i64 0, .string ⟨#[]⟩, .string ⟨#[]⟩, .slice none 0 0, .bool false, .bool false, .bool false, .int .i64 0, .int .i64 0] 25))
    have tb6 := (tb5.out.up b6).up ((Below.refl _ w6).alloc (Nat.le_refl _) (.cells #[.int .i64 0, .string ⟨#[]⟩, .string ⟨#[]⟩, .slice none 0 0, .bool false, .bool false, .bool false, .int .i64 0, .int .i64 0] 25))
    obtain ⟨⟨c0, c1, c2, c3, c4, c5, c6, c7, c8⟩, _⟩ := nine ta6
    obtain ⟨⟨d0, d1, d2, d3, d4, d5, d6, d7, d8⟩, _⟩ := nine tb6
    clear ta6 tb6 b6
    go_wp2_with fail
    refine (HN2.out _).mono ?_
    rintro e w7 ⟨rfl, rfl⟩
    go_wp2_with fail
    refine (HSM.out _).mono ?_
    rintro e w8 ⟨rfl, b8⟩
    have B8 : Hid (Below w.heap.size w w8) := B6.out.trans (b8.mono B6.out.size)
    clear b8 c0 c1 c2 c3 c4 c5 c6 c7 c8 d0 d1 d2 d3 d4 d5 d6 d7 d8
    go_wp2_with fail
    refine (raw_any m _ (HT.out.below B8.out) (HM.out.below B8.out)).mono ?_
    rintro e w9 ⟨rfl, b9⟩
    go_wp2_with fail
    go_ret
    exact ⟨by exact rfl, B8.out.trans (b9.mono B8.out.size)⟩
  · obtain ⟨S, hS⟩ : ∃ S, (⟨#[60, 63]⟩ : ByteArray) ++ s = S := ⟨_, rfl⟩
    have hSl : S.data.toList = [60, 63] ++ s.data.toList := by rw [← hS]; exact app_data _ _
    have hSs : S.size ≤ 2000 := by rw [← hS, ByteArray.size_append]; show 2 + s.size ≤ _; omega
    obtain ⟨AS, hAS⟩ : ∃ AS, ahead ++ S = AS := ⟨_, rfl⟩
    have hASl : AS.data.toList = ahead.data.toList ++ S.data.toList := by rw [← hAS]; exact app_data _ _
    have hASs : AS.size ≤ 4000 := by rw [← hAS, ByteArray.size_append]; omega
    have hc1 : S.data.toList[1]? = some 63 := by rw [hSl]; rfl
    have HN1 := Lib.hid (fun W => no_second S 63 W (by omega) hc1 (by decide))
    have HN2 := Lib.hid (fun W => no_end S W (by omega))
    obtain ⟨k, n, x0, q, N, lo, hi, f1, f2⟩ := Bogus_twin_q S AS ahead m (by omega) (by omega) hASl (by rw [hSl]; exact has_self [60, 63] _)
    have F1 := Lib.hid f1
    have F2 := Lib.hid f2
    have HSM := Lib.hid (fun W => tk_same k 0 (N : Int) n x0 q W)
    clear f1 f2
    unfold tkV at HSM
    obtain ⟨M, hM⟩ : ∃ M, ahead.size + N = M := ⟨_, rfl⟩
    rw [hM] at F2
    have iM : (N : Int) + ahead.size = M := by omega
    have j1 := int_self (M : Int)
    have j2 := int_self' (N : Int)
    have j3 := int_self' (M : Int)
    have j4 := int_self' (ahead.size : Int)
    have l1 : (N : Int) ≤ S.size := by omega
    have l2 : (2 : Int) ≤ N := by omega
    clear hSl hASl hc1 hM gs gahead
    go_enter Tryd.func6, Tryd.ntmps6
    go_upto_region 10 with fail
    rw [← HW1.out]
    go_wp2_with fail
    refine (F1.out _ (HM.out.below BW1.out)).mono ?_
    rintro e w1 ⟨rfl, b1⟩
    have B1 : Hid (Below w.heap.size w w1) := BW1.out.trans (b1.mono BW1.out.size)
    have ta := TA.out.up b1
    have tb := TB.out.up b1
    obtain ⟨⟨c0, c1, c2, c3, c4, c5, c6, c7, c8⟩, f0, f1, f2, f3, f4, f5, f6, f7, f8⟩ := nine ta
    go_upto_region 11 with fail
    obtain ⟨W2, hW2⟩ : ∃ W2, W2 = (((((((((w1.setCell ⟨w.heap.size + 1, 0, none⟩ (.int .i64 k)).setCell ⟨w.heap.size + 1, 1, none⟩ (.string n)).setCell ⟨w.heap.size + 1, 2, none⟩ (.string x0)).setCell ⟨w.heap.size + 1, 3, none⟩ (.slice none 0 0)).setCell ⟨w.heap.size + 1, 4, none⟩ (.bool false)).setCell ⟨w.heap.size + 1, 5, none⟩ (.bool false)).setCell ⟨w.heap.size + 1, 6, none⟩ (.bool q)).setCell ⟨w.heap.size + 1, 7, none⟩ (.int .i64 0)).setCell ⟨w.heap.size + 1, 8, none⟩ (.int .i64 (N : Int))) := ⟨_, rfl⟩
    rw [← hW2]
    have TA2 : Hid (TkAt (w.heap.size + 1) k n x0 q 0 (N : Int) W2) := by show TkAt _ _ _ _ _ _ _ _; rw [hW2]; exact ta.all
    have TB2 : Hid (TkAt (w.heap.size + 1 + 1) 0 ⟨#[]⟩ ⟨#[]⟩ false 0 0 W2) := by show TkAt _ _ _ _ _ _ _ _; rw [hW2]; exact tb.other9 (by omega)
    have B2 : Hid (Below w.heap.size w W2) := by show Below _ _ _; rw [hW2]; exact ((((((((B1.out.setCell (by simp) _).setCell (by simp) _).setCell (by simp) _).setCell (by simp) _).setCell (by simp) _).setCell (by simp) _).setCell (by simp) _).setCell (by simp) _).setCell (by simp) _
    clear ta tb hW2 b1 c0 c1 c2 c3 c4 c5 c6 c7 c8 f0 f1 f2 f3 f4 f5 f6 f7 f8
    go_wp2_with fail
    refine (F2.out _ (HM.out.below B2.out)).mono ?_
    rintro e w3 ⟨rfl, b3⟩
    have B3 : Hid (Below w.heap.size w w3) := B2.out.trans (b3.mono B2.out.size)
    have ta := TA2.out.up b3
    have tb := TB2.out.up b3
    obtain ⟨⟨c0, c1, c2, c3, c4, c5, c6, c7, c8⟩, f0, f1, f2, f3, f4, f5, f6, f7, f8⟩ := nine tb
    go_upto_region 21 with fail
    obtain ⟨W4, hW4⟩ : ∃ W4, W4 = (((((((((w3.setCell ⟨w.heap.size + 1 + 1, 0, none⟩ (.int .i64 k)).setCell ⟨w.heap.size + 1 + 1, 1, none⟩ (.string n)).setCell ⟨w.heap.size + 1 + 1, 2, none⟩ (.string x0)).setCell ⟨w.heap.size + 1 + 1, 3, none⟩ (.slice none 0 0)).setCell ⟨w.heap.size + 1 + 1, 4, none⟩ (.bool false)).setCell ⟨w.heap.size + 1 + 1, 5, none⟩ (.bool false)).setCell ⟨w.heap.size + 1 + 1, 6, none⟩ (.bool q)).setCell ⟨w.heap.size + 1 + 1, 7, none⟩ (.int .i64 (ahead.size : Int))).setCell ⟨w.heap.size + 1 + 1, 8, none⟩ (.int .i64 (M : Int))) := ⟨_, rfl⟩
    rw [← hW4]
    have tb4 : TkAt (w.heap.size + 1 + 1) k n x0 q (ahead.size : Int) (M : Int) W4 := by rw [hW4]; exact tb.all
    have ta4 : TkAt (w.heap.size + 1) k n x0 q 0 (N : Int) W4 := by rw [hW4]; exact ta.other9 (by omega)
    have B4 : Hid (Below w.heap.size w W4) := by show Below _ _ _; rw [hW4]; exact ((((((((B3.out.setCell (by exact Nat.le_trans (Nat.le_succ _) (Nat.le_succ _)) _).setCell (by exact Nat.le_trans (Nat.le_succ _) (Nat.le_succ _)) _).setCell (by exact Nat.le_trans (Nat.le_succ _) (Nat.le_succ _)) _).setCell (by exact Nat.le_trans (Nat.le_succ _) (Nat.le_succ _)) _).setCell (by exact Nat.le_trans (Nat.le_succ _) (Nat.le_succ _)) _).setCell (by exact Nat.le_trans (Nat.le_succ _) (Nat.le_succ _)) _).setCell (by exact Nat.le_trans (Nat.le_succ _) (Nat.le_succ _)) _).setCell (by exact Nat.le_trans (Nat.le_succ _) (Nat.le_succ _)) _).setCell (by exact Nat.le_trans (Nat.le_succ _) (Nat.le_succ _)) _
    clear ta tb hW4 b3 c0 c1 c2 c3 c4 c5 c6 c7 c8 f0 f1 f2 f3 f4 f5 f6 f7 f8
    obtain ⟨⟨c0, c1, c2, c3, c4, c5, c6, c7, c8⟩, _⟩ := nine ta4
    obtain ⟨⟨d0, d1, d2, d3, d4, d5, d6, d7, d8⟩, g0, g1, g2, g3, g4, g5, g6, g7, g8⟩ := nine tb4
    have hne1 : ¬ w.heap.size + 1 + 1 = w.heap.size + 1 := by omega
    have ta5 : Hid (TkAt (w.heap.size + 1) k n x0 q 0 (N : Int) ((W4.setCell ⟨w.heap.size + 1 + 1, 7, none⟩ (.int .i64 0)).setCell ⟨w.heap.size + 1 + 1, 8, none⟩ (.int .i64 (N : Int))).drew) := (TkAt.other (TkAt.other ta4 (by omega)) (by omega))
    have tb5 : Hid (TkAt (w.heap.size + 1 + 1) k n x0 q 0 (N : Int) ((W4.setCell ⟨w.heap.size + 1 + 1, 7, none⟩ (.int .i64 0)).setCell ⟨w.heap.size + 1 + 1, 8, none⟩ (.int .i64 (N : Int))).drew) := TkAt.place (W := W4) tb4
    clear ta4 tb4
    go_upto_region 23 with fail
    go_region
    obtain ⟨W5, hW5⟩ : ∃ W5, W5 = ((W4.setCell ⟨w.heap.size + 1 + 1, 7, none⟩ (.int .i64 0)).setCell ⟨w.heap.size + 1 + 1, 8, none⟩ (.int .i64 (N : Int))).drew := ⟨_, rfl⟩
    rw [← hW5]
    rw [← hW5] at ta5 tb5
    have B5 : Hid (Below w.heap.size w W5) := by show Below _ _ _; rw [hW5]; exact ((B4.out.setCell (by exact Nat.le_trans (Nat.le_succ _) (Nat.le_succ _)) _).setCell (by exact Nat.le_trans (Nat.le_succ _) (Nat.le_succ _)) _).drew
    clear hW5 c0 c1 c2 c3 c4 c5 c6 c7 c8 d0 d1 d2 d3 d4 d5 d6 d7 d8 g0 g1 g2 g3 g4 g5 g6 g7 g8
    go_wp2_with fail
    refine (HN1.out _).mono ?_
    rintro e w6 ⟨rfl, b6⟩
    have B6 : Hid (Below w.heap.size w (w6.alloc (.cells #[.int .i64 0, .string ⟨#[]⟩, .string ⟨#[]⟩, .slice none 0 0, .bool false, .bool false, .bool false, .int .i64 0, .int .i64 0] 25))) := (B5.out.trans (b6.mono B5.out.size)).alloc (Nat.le_trans B5.out.size b6.size) _
    have ta6 := (ta5.out.up b6).up ((Below.refl _ w6).alloc (Nat.le_refl _) (.cells #[.int .i64 0, .string ⟨#[]⟩, .string ⟨#[]⟩, .slice none 0 0, .bool false, .bool false, .bool false, .int .i64 0, .int .i64 0] 25))
    have tb6 := (tb5.out.up b6).up ((Below.refl _ w6).alloc (Nat.le_refl _) (.cells #[.int .i64 0, .string ⟨#[]⟩, .string ⟨#[]⟩, .slice none 0 0, .bool false, .bool false, .bool false, .int .i64 0, .int .i64 0] 25))
    obtain ⟨⟨c0, c1, c2, c3, c4, c5, c6, c7, c8⟩, _⟩ := nine ta6
    obtain ⟨⟨d0, d1, d2, d3, d4, d5, d6, d7, d8⟩, _⟩ := nine tb6
    clear ta6 tb6 b6
    go_wp2_with fail
    refine (HN2.out _).mono ?_
    rintro e w7 ⟨rfl, rfl⟩
    go_wp2_with fail
    refine (HSM.out _).mono ?_
    rintro e w8 ⟨rfl, b8⟩
    have B8 : Hid (Below w.heap.size w w8) := B6.out.trans (b8.mono B6.out.size)
    clear b8 c0 c1 c2 c3 c4 c5 c6 c7 c8 d0 d1 d2 d3 d4 d5 d6 d7 d8
    go_wp2_with fail
    refine (raw_any m _ (HT.out.below B8.out) (HM.out.below B8.out)).mono ?_
    rintro e w9 ⟨rfl, b9⟩
    go_wp2_with fail
    go_ret
    exact ⟨by exact rfl, B8.out.trans (b9.mono B8.out.size)⟩
  · obtain ⟨S, hS⟩ : ∃ S, (⟨#[60, 33, 91, 67, 68, 65, 84, 65, 91]⟩ : ByteArray) ++ s = S := ⟨_, rfl⟩
    have hSl : S.data.toList = [60, 33, 91, 67, 68, 65, 84, 65, 91] ++ s.data.toList := by rw [← hS]; exact app_data _ _
    have hSs : S.size ≤ 2000 := by rw [← hS, ByteArray.size_append]; show 9 + s.size ≤ _; omega
    obtain ⟨AS, hAS⟩ : ∃ AS, ahead ++ S = AS := ⟨_, rfl⟩
    have hASl : AS.data.toList = ahead.data.toList ++ S.data.toList := by rw [← hAS]; exact app_data _ _
    have hASs : AS.size ≤ 4000 := by rw [← hAS, ByteArray.size_append]; omega
    have hc1 : S.data.toList[1]? = some 33 := by rw [hSl]; rfl
    have HN1 := Lib.hid (fun W => no_second S 33 W (by omega) hc1 (by decide))
    have HN2 := Lib.hid (fun W => no_end S W (by omega))
    have hp : cdF.data.toList.isPrefixOf S.data.toList = true := by rw [hSl]; exact List.isPrefixOf_iff_prefix.2 (List.prefix_append _ _)
    have hn := (upL_le (S.data.toList.drop 9) [93, 93, 62]).1
    rw [drop_size] at hn
    have e2 : S.data.toList.length = S.size := by simp
    have hl9 : 9 ≤ S.size := by have := (List.isPrefixOf_iff_prefix.1 hp).length_le; have e : cdF.data.toList.length = 9 := rfl; omega
    obtain ⟨N, hN⟩ : ∃ N, 9 + (upL (S.data.toList.drop 9) [93, 93, 62]).2.1 = N := ⟨_, rfl⟩
    obtain ⟨X, hX⟩ : ∃ X, bytesOf (upL (S.data.toList.drop 9) [93, 93, 62]).1 = X := ⟨_, rfl⟩
    have F1 : Hid (∀ W, MaxOk m W → Calls Tryd.prog 17 #[.string S, .int .i64 0] W fun e w' => e = .returned (.tuple #[.string X, .int .i64 (N : Int)]) ∧ Below W.heap.size W w') := by
      intro W hW
      have := CData_yes S 0 m W (by omega) hW (by rw [List.drop_zero]; exact hp)
      rw [Nat.zero_add, hN, hX] at this
      exact this
    have d0 : AS.data.toList.drop ahead.size = S.data.toList := by have := drop_at hASl 0; rw [Nat.add_zero, List.drop_zero] at this; exact this
    have F2 : Hid (∀ W, MaxOk m W → Calls Tryd.prog 17 #[.string AS, .int .i64 (ahead.size : Int)] W fun e w' => e = .returned (.tuple #[.string X, .int .i64 ((ahead.size + N : Nat) : Int)]) ∧ Below W.heap.size W w') := by
      intro W hW
      have := CData_yes AS ahead.size m W (by omega) hW (by rw [d0]; exact hp)
      rw [drop_at hASl 9, Nat.add_assoc, hN, hX] at this
      exact this
    have lo : 9 ≤ N := by omega
    have hi : N ≤ S.size := by omega
    have ex := str_self X
    have k0 : (0 : Int) = 0 := rfl
    clear hp hn hl9 hN hX d0 k0 e2
    have HSM := Lib.hid (fun W => tk_same 0 0 0 ⟨#[]⟩ ⟨#[]⟩ false W)
    unfold tkV at HSM
    obtain ⟨M, hM⟩ : ∃ M, ahead.size + N = M := ⟨_, rfl⟩
    rw [hM] at F2
    have iM : (N : Int) + ahead.size = M := by omega
    have j1 := int_self (M : Int)
    have j2 := int_self' (N : Int)
    have j3 := int_self' (M : Int)
    have j4 := int_self' (ahead.size : Int)
    have l1 : (N : Int) ≤ S.size := by omega
    have l2 : (9 : Int) ≤ N := by omega
    clear hSl hASl hc1 hM gs gahead
    go_enter Tryd.func6, Tryd.ntmps6
    go_upto_region 19 with fail
    rw [← HW1.out]
    go_wp2_with fail
    refine (F1.out _ (HM.out.below BW1.out)).mono ?_
    rintro e w1 ⟨rfl, b1⟩
    have B1 : Hid (Below w.heap.size w w1) := BW1.out.trans (b1.mono BW1.out.size)
    have TA2 := Lib.hid (TA.out.up b1)
    have TB2 := Lib.hid (TB.out.up b1)
    clear b1
    go_wp2_with fail
    refine (F2.out _ (HM.out.below B1.out)).mono ?_
    rintro e W4 ⟨rfl, b3⟩
    have B4 : Hid (Below w.heap.size w W4) := B1.out.trans (b3.mono B1.out.size)
    have ta4 := TA2.out.up b3
    have tb4 := TB2.out.up b3
    clear b3
    obtain ⟨⟨c0, c1, c2, c3, c4, c5, c6, c7, c8⟩, _⟩ := nine ta4
    obtain ⟨⟨d0, d1, d2, d3, d4, d5, d6, d7, d8⟩, g0, g1, g2, g3, g4, g5, g6, g7, g8⟩ := nine tb4
    have hne1 : ¬ w.heap.size + 1 + 1 = w.heap.size + 1 := by omega
    have ta5 : Hid (TkAt (w.heap.size + 1) 0 ⟨#[]⟩ ⟨#[]⟩ false 0 0 ((W4.setCell ⟨w.heap.size + 1 + 1, 7, none⟩ (.int .i64 0)).setCell ⟨w.heap.size + 1 + 1, 8, none⟩ (.int .i64 0)).drew) := (TkAt.other (TkAt.other ta4 (by omega)) (by omega))
    have tb5 : Hid (TkAt (w.heap.size + 1 + 1) 0 ⟨#[]⟩ ⟨#[]⟩ false 0 0 ((W4.setCell ⟨w.heap.size + 1 + 1, 7, none⟩ (.int .i64 0)).setCell ⟨w.heap.size + 1 + 1, 8, none⟩ (.int .i64 0)).drew) := TkAt.place (W := W4) tb4
    clear ta4 tb4
    go_upto_region 23 with fail
    go_region
    obtain ⟨W5, hW5⟩ : ∃ W5, W5 = ((W4.setCell ⟨w.heap.size + 1 + 1, 7, none⟩ (.int .i64 0)).setCell ⟨w.heap.size + 1 + 1, 8, none⟩ (.int .i64 0)).drew := ⟨_, rfl⟩
    rw [← hW5]
    rw [← hW5] at ta5 tb5
    have B5 : Hid (Below w.heap.size w W5) := by show Below _ _ _; rw [hW5]; exact ((B4.out.setCell (by exact Nat.le_trans (Nat.le_succ _) (Nat.le_succ _)) _).setCell (by exact Nat.le_trans (Nat.le_succ _) (Nat.le_succ _)) _).drew
    clear hW5 c0 c1 c2 c3 c4 c5 c6 c7 c8 d0 d1 d2 d3 d4 d5 d6 d7 d8 g0 g1 g2 g3 g4 g5 g6 g7 g8
    go_wp2_with fail
    refine (HN1.out _).mono ?_
    rintro e w6 ⟨rfl, b6⟩
    have B6 : Hid (Below w.heap.size w (w6.alloc (.cells #[.int .i64 0, .string ⟨#[]⟩, .string ⟨#[]⟩, .slice none 0 0, .bool false, .bool false, .bool false, .int .i64 0, .int .i64 0] 25))) := (B5.out.trans (b6.mono B5.out.size)).alloc (Nat.le_trans B5.out.size b6.size) _
    have ta6 := (ta5.out.up b6).up ((Below.refl _ w6).alloc (Nat.le_refl _) (.cells #[.int .i64 0, .string ⟨#[]⟩, .string ⟨#[]⟩, .slice none 0 0, .bool false, .bool false, .bool false, .int .i64 0, .int .i64 0] 25))
    have tb6 := (tb5.out.up b6).up ((Below.refl _ w6).alloc (Nat.le_refl _) (.cells #[.int .i64 0, .string ⟨#[]⟩, .string ⟨#[]⟩, .slice none 0 0, .bool false, .bool false, .bool false, .int .i64 0, .int .i64 0] 25))
    obtain ⟨⟨c0, c1, c2, c3, c4, c5, c6, c7, c8⟩, _⟩ := nine ta6
    obtain ⟨⟨d0, d1, d2, d3, d4, d5, d6, d7, d8⟩, _⟩ := nine tb6
    clear ta6 tb6 b6
    go_wp2_with fail
    refine (HN2.out _).mono ?_
    rintro e w7 ⟨rfl, rfl⟩
    go_wp2_with fail
    refine (HSM.out _).mono ?_
    rintro e w8 ⟨rfl, b8⟩
    have B8 : Hid (Below w.heap.size w w8) := B6.out.trans (b8.mono B6.out.size)
    clear b8 c0 c1 c2 c3 c4 c5 c6 c7 c8 d0 d1 d2 d3 d4 d5 d6 d7 d8
    go_wp2_with fail
    refine (raw_any m _ (HT.out.below B8.out) (HM.out.below B8.out)).mono ?_
    rintro e w9 ⟨rfl, b9⟩
    go_wp2_with fail
    go_ret
    exact ⟨by exact rfl, B8.out.trans (b9.mono B8.out.size)⟩
end Go.Proofs.YtbpdmbmooboimaaDoor.R11
