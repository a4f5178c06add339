/- Layer 11: both readers at once; lazaretlaw11.says, odd, kind, goes. lazaretlaw11.raw: the chapter's examples. (Made by tools/gen/rwe.py.) -/
import Derived.Test.YtbpdmbmooboimaaDoorRw12
import Derived.Test.YtbpdmbmooboimaaDoorRwt
import Derived.Test.YtbpdmbmooboimaaDoorRwc
set_option linter.unusedVariables false
set_option linter.unusedSimpArgs false
namespace Go.Proofs.YtbpdmbmooboimaaDoor.R11
open Go.RowKit R9 T10

theorem zTok_tk : zTok = tkV 0 ⟨#[]⟩ ⟨#[]⟩ false 0 0 := rfl
theorem tk_same (k a b : Int) (n x : ByteArray) (q : Bool) (w : World) : Calls Tryd.prog 19 #[tkV k n x q a b, tkV k n x q a b] w fun e w' => e = .returned (.bool true) ∧ Below w.heap.size w w' :=
  tsame_is _ _ [] k a b n x false false q w (AttIn.nil w) (AttIn.nil w)
/-- What two functions both answer: a token without attributes, and a place. -/
def Both (f g : FuncId) (args : Array Value) (m : Int) : Prop :=
  ∃ (k a b N : Int) (n x : ByteArray) (q : Bool), (∀ W, MaxOk m W → Calls Tryd.prog f args W fun e w' => e = .returned (.tuple #[tkV k n x q a b, .int .i64 N]) ∧ Below W.heap.size W w') ∧
    (∀ W, MaxOk m W → Calls Tryd.prog g args W fun e w' => e = .returned (.tuple #[tkV k n x q a b, .int .i64 N]) ∧ Below W.heap.size W w')
theorem hasZ_nat_of {s t : ByteArray} {z : Int} (h : hasZ s t z = true) : ∃ a : Nat, z = (a : Int) ∧ hasL (s.data.toList.drop a) t.data.toList = true := by
  unfold hasZ at h
  simp only [Bool.and_eq_true, decide_eq_true_eq] at h
  exact ⟨z.toNat, by omega, h.2⟩
theorem Comment_both (s : ByteArray) (z m : Int) (hs : s.size ≤ 300000) : Both 11 12 #[.string s, .int .i64 z] m := by
  cases h : hasZ s cmF z with
  | false => exact ⟨0, 0, 0, 0, ⟨#[]⟩, ⟨#[]⟩, false, fun W hW => Comment_no s z W (by omega) h, fun W hW => rComment_no s z m W hs hW h⟩
  | true =>
    obtain ⟨a, rfl, h2⟩ := hasZ_nat_of h
    exact ⟨4, _, _, _, _, _, _, fun W hW => Comment_yes s a m W hs hW h2, fun W hW => rComment_yes s a m W hs hW h⟩
theorem Bogus_both (s : ByteArray) (z m : Int) (hs : s.size ≤ 300000) (hz : -9223372036854775808 ≤ z) (hz2 : z ≤ 9223372036854775807) : Both 13 14 #[.string s, .int .i64 z] m := by
  cases hq : hasZ s bqF z with
  | true =>
    obtain ⟨a, rfl, h2⟩ := hasZ_nat_of hq
    exact ⟨4, _, _, _, _, _, _, fun W hW => Bogus_q s a m W hs hW hq, fun W hW => rBogus_q s a m W hs hW hq⟩
  | false =>
    cases he : hasZ s beF z with
    | true =>
      obtain ⟨a, rfl, h2⟩ := hasZ_nat_of he
      exact ⟨4, _, _, _, _, _, _, fun W hW => Bogus_e s a m W hs hW hq he, fun W hW => rBogus_e s a m W hs hW hq he⟩
    | false =>
      cases hc : hasZ s bcF z with
      | true =>
        obtain ⟨a, rfl, h2⟩ := hasZ_nat_of hc
        exact ⟨4, _, _, _, _, _, _, fun W hW => Bogus_c s a m W hs hW hq he hc, fun W hW => rBogus_c s a m W hs hW hq he hc⟩
      | false => exact ⟨0, 0, 0, 0, ⟨#[]⟩, ⟨#[]⟩, false, fun W hW => Bogus_no s z m W hs hW hq he hc hz hz2, fun W hW => rBogus_no s z m W hs hW hq he hc hz hz2⟩
theorem Doctype_both (s : ByteArray) (z m : Int) (hs : s.size ≤ 300000) : Both 15 16 #[.string s, .int .i64 z] m := by
  cases h : hasZ s dtF z with
  | false => exact ⟨0, 0, 0, 0, ⟨#[]⟩, ⟨#[]⟩, false, fun W hW => Doctype_no s z m W hs hW h, fun W hW => rDoctype_no s z m W hs hW h⟩
  | true =>
    obtain ⟨a, rfl, h2⟩ := hasZ_nat_of h
    exact ⟨1, _, _, _, _, _, _, fun W hW => Doctype_yes s a m W hs hW h, fun W hW => rDoctype_yes s a m W hs hW h⟩
theorem CData_both (s : ByteArray) (z m : Int) (hs : s.size ≤ 300000) : ∃ (x : ByteArray) (N : Int), (∀ W, MaxOk m W → Calls Tryd.prog 17 #[.string s, .int .i64 z] W fun e w' => e = .returned (.tuple #[.string x, .int .i64 N]) ∧ Below W.heap.size W w') ∧
    (∀ W, MaxOk m W → Calls Tryd.prog 18 #[.string s, .int .i64 z] W fun e w' => e = .returned (.tuple #[.string x, .int .i64 N]) ∧ Below W.heap.size W w') := by
  by_cases h : 0 ≤ z → cdF.data.toList.isPrefixOf (s.data.toList.drop z.toNat) = false
  · refine ⟨⟨#[]⟩, 0, fun W hW => (CData_no s z W hs h).mono ?_, fun W hW => rCData_no s z W hs h⟩
    rintro e w' ⟨h1, rfl⟩
    exact ⟨h1, Below.refl _ _⟩
  · have h0 : 0 ≤ z := by
      by_cases c : 0 ≤ z
      · exact c
      · exact absurd (fun x => absurd x c) h
    obtain ⟨a, rfl⟩ : ∃ a : Nat, z = (a : Int) := ⟨z.toNat, by omega⟩
    have h2 : cdF.data.toList.isPrefixOf (s.data.toList.drop a) = true := by
      cases hq : cdF.data.toList.isPrefixOf (s.data.toList.drop a) with
      | true => rfl
      | false => exact absurd (fun _ => by rw [Int.toNat_natCast]; exact hq) h
    exact ⟨_, _, fun W hW => CData_yes s a m W hs hW h2, fun W hW => rCData_yes s a W hs h2⟩
/-- The cells of a token that was told. -/
def TkAt (p : Nat) (k : Int) (n x : ByteArray) (q : Bool) (a b : Int) (W : World) : Prop :=
  W.heap[p]? = some (.cells #[.int .i64 k, .string n, .string x, .slice none 0 0, .bool false, .bool false, .bool q, .int .i64 a, .int .i64 b] 25 (0, 0))
theorem TkAt.new (w : World) (k : Int) (n x : ByteArray) (q : Bool) (a b : Int) : TkAt w.heap.size k n x q a b (w.alloc (.cells #[.int .i64 k, .string n, .string x, .slice none 0 0, .bool false, .bool false, .bool q, .int .i64 a, .int .i64 b] 25)) := heap_alloc_new w _
theorem TkAt.up {p : Nat} {k : Int} {n x : ByteArray} {q : Bool} {a b : Int} {W W' : World} (h : TkAt p k n x q a b W) (hb : Below W.heap.size W W') : TkAt p k n x q a b W' :=
  (hb.block p (Array.getElem?_eq_some_iff.1 h).1).trans h
theorem int_self (n : Int) : (n == n) = true := by simp
theorem str_self (s : ByteArray) : (s.toList == s.toList) = true := by simp
set_option maxHeartbeats 800000 in
theorem says_yes (s text : ByteArray) (n : Nat) (m : Int) (w : World) (hs : s.size ≤ 300000) (hm : MaxOk m w) (h1 : hasL s.data.toList cmF.data.toList = true) (h2 : cleanR (comL (s.data.toList.drop 4)).1 = text.data.toList) (h3 : 4 + (comL (s.data.toList.drop 4)).2 = n) :
    Calls Tryd.prog 31 #[.string s, .string text, .int .i64 (n : Int)] w fun e w' => e = .returned (.bool true) ∧ Below w.heap.size w w' := by
  have HC : Hid (Calls Tryd.prog 11 #[.string s, .int .i64 0] w fun e w' => e = .returned (.tuple #[tkV 4 ⟨#[]⟩ text false 0 n, .int .i64 (n : Int)]) ∧ Below w.heap.size w w') := by
    show Calls _ _ _ _ _
    have := Comment_yes s 0 m w hs hm h1
    rw [Nat.zero_add, h2, h3, bytesOf_self] at this
    exact this
  unfold tkV at HC
  have e1 := int_self n
  have e2 := str_self text
  clear hm h1 h2 h3
  go_enter Tryd.func31, Tryd.ntmps31
  go_wp2_with fail
  refine (HC.out).mono ?_
  rintro e w1 ⟨rfl, b1⟩
  have B1 : Hid (Below w.heap.size w w1) := b1
  clear b1
  go_wp2_with fail
  go_ret
  exact ⟨by exact rfl, B1.out.alloc B1.out.size _⟩
theorem odd_of (s text : ByteArray) (w : World) (hs : s.size ≤ 300000) (HC : Hid (Calls Tryd.prog 13 #[.string s, .int .i64 0] w fun e w' => e = .returned (.tuple #[.agg #[.int .i64 4, .string ⟨#[]⟩, .string text, .slice none 0 0, .bool false, .bool false, .bool false, .int .i64 0, .int .i64 (s.size : Int)], .int .i64 (s.size : Int)]) ∧ Below w.heap.size w w')) :
    Calls Tryd.prog 32 #[.string s, .string text] w fun e w' => e = .returned (.bool true) ∧ Below w.heap.size w w' := by
  have e1 := int_self s.size
  have e2 := str_self text
  go_enter Tryd.func32, Tryd.ntmps32
  go_wp2_with fail
  refine (HC.out).mono ?_
  rintro e w1 ⟨rfl, b1⟩
  have B1 : Hid (Below w.heap.size w w1) := b1
  clear b1
  go_wp2_with fail
  go_ret
  exact ⟨by exact rfl, B1.out.alloc B1.out.size _⟩
theorem odd_q (s text : ByteArray) (m : Int) (w : World) (hs : s.size ≤ 300000) (hm : MaxOk m w) (h1 : hasZ s bqF 0 = true) (h2 : cleanR (upL (s.data.toList.drop 1) [62]).1 = text.data.toList) (h3 : 1 + (upL (s.data.toList.drop 1) [62]).2.1 = s.size) :
    Calls Tryd.prog 32 #[.string s, .string text] w fun e w' => e = .returned (.bool true) ∧ Below w.heap.size w w' := by
  apply odd_of s text w hs
  show Calls _ _ _ _ _
  have := Bogus_q s 0 m w hs hm h1
  rw [Nat.zero_add, h2, h3, bytesOf_self] at this
  exact this
theorem odd_e (s text : ByteArray) (m : Int) (w : World) (hs : s.size ≤ 300000) (hm : MaxOk m w) (h0 : hasZ s bqF 0 = false) (h1 : hasZ s beF 0 = true) (h2 : cleanR (upL (s.data.toList.drop 2) [62]).1 = text.data.toList) (h3 : 2 + (upL (s.data.toList.drop 2) [62]).2.1 = s.size) :
    Calls Tryd.prog 32 #[.string s, .string text] w fun e w' => e = .returned (.bool true) ∧ Below w.heap.size w w' := by
  apply odd_of s text w hs
  show Calls _ _ _ _ _
  have := Bogus_e s 0 m w hs hm h0 h1
  rw [Nat.zero_add, h2, h3, bytesOf_self] at this
  exact this
theorem odd_c (s text : ByteArray) (m : Int) (w : World) (hs : s.size ≤ 300000) (hm : MaxOk m w) (h0 : hasZ s bqF 0 = false) (h01 : hasZ s beF 0 = false) (h1 : hasZ s bcF 0 = true) (h2 : cleanR (upL (s.data.toList.drop 2) [62]).1 = text.data.toList) (h3 : 2 + (upL (s.data.toList.drop 2) [62]).2.1 = s.size) :
    Calls Tryd.prog 32 #[.string s, .string text] w fun e w' => e = .returned (.bool true) ∧ Below w.heap.size w w' := by
  apply odd_of s text w hs
  show Calls _ _ _ _ _
  have := Bogus_c s 0 m w hs hm h0 h01 h1
  rw [Nat.zero_add, h2, h3, bytesOf_self] at this
  exact this
theorem kind_yes (s name : ByteArray) (q : Bool) (k : Nat) (m : Int) (w : World) (hs : s.size ≤ 300000) (hm : MaxOk m w) (h1 : hasZ s dtF 0 = true) (h2 : docL (s.data.toList.drop 9) = (name.data.toList, q, k)) (h3 : 9 + k = s.size) :
    Calls Tryd.prog 33 #[.string s, .string name, .bool q] w fun e w' => e = .returned (.bool true) ∧ Below w.heap.size w w' := by
  have HC : Hid (Calls Tryd.prog 15 #[.string s, .int .i64 0] w fun e w' => e = .returned (.tuple #[.agg #[.int .i64 1, .string name, .string ⟨#[]⟩, .slice none 0 0, .bool false, .bool false, .bool q, .int .i64 0, .int .i64 (s.size : Int)], .int .i64 (s.size : Int)]) ∧ Below w.heap.size w w') := by
    show Calls _ _ _ _ _
    have := Doctype_yes s 0 m w hs hm h1
    rw [Nat.zero_add, h2] at this
    simp only [] at this
    rw [h3, bytesOf_self] at this
    exact this
  have e1 := int_self s.size
  have e2 := str_self name
  have e3 : (q == q) = true := by simp
  clear hm h1 h2 h3
  go_enter Tryd.func33, Tryd.ntmps33
  go_wp2_with fail
  refine (HC.out).mono ?_
  rintro e w1 ⟨rfl, b1⟩
  have B1 : Hid (Below w.heap.size w w1) := b1
  clear b1
  go_wp2_with fail
  go_ret
  exact ⟨by exact rfl, B1.out.alloc B1.out.size _⟩
theorem goes_yes (s nm text : ByteArray) (st n : Nat) (m : Int) (w : World) (hs : s.size ≤ 5000) (hn : nm.size ≤ 1000) (hT : RTab w) (hm : MaxOk m w) (hst : 1 ≤ st ∧ st ≤ 4) (h2 : rawT s.data.toList st nm.data.toList = text.data.toList) (h3 : rawN s.data.toList st nm.data.toList = n) :
    Calls Tryd.prog 34 #[.string s, .int .i64 (st : Int), .string nm, .string text, .int .i64 (n : Int)] w fun e w' => e = .returned (.bool true) ∧ Below w.heap.size w w' := by
  have HC : Hid (Calls Tryd.prog 20 #[.string s, .int .i64 0, .int .i64 (st : Int), .string nm] w fun e w' => e = .returned (.tuple #[.string text, .int .i64 (n : Int)]) ∧ Below w.heap.size w w') := by
    show Calls _ _ _ _ _
    have := Raw_any s nm 0 st m w hs hn hT hm (Nat.zero_le _) hst
    rw [List.drop_zero, Nat.zero_add, h2, h3, bytesOf_self] at this
    exact this
  have e1 := int_self n
  have e2 := str_self text
  clear hm h2 h3
  go_enter Tryd.func34, Tryd.ntmps34
  go_wp2_with fail
  refine (HC.out).mono ?_
  rintro e w1 ⟨rfl, b1⟩
  have B1 : Hid (Below w.heap.size w w1) := b1
  clear b1
  go_wp2_with fail
  go_ret
  exact ⟨by exact rfl, B1.out⟩
end Go.Proofs.YtbpdmbmooboimaaDoor.R11
set_option linter.unusedVariables false
set_option linter.unusedSimpArgs false
namespace Go.Proofs.YtbpdmbmooboimaaDoor.R11
open Go.RowKit R9 T10


set_option maxRecDepth 1000000 in
theorem ex0 (m : Int) (w : World) (hT : RTab w) (hm : MaxOk m w) : Calls Tryd.prog 31 #[.string ⟨#[60, 33, 45, 45, 97, 45, 45, 33, 62, 98]⟩, .string ⟨#[97]⟩, .int .i64 9] w fun e w' => e = .returned (.bool true) ∧ Below w.heap.size w w' :=
  says_yes ⟨#[60, 33, 45, 45, 97, 45, 45, 33, 62, 98]⟩ ⟨#[97]⟩ 9 m w (by decide) hm (by decide +kernel) (by decide +kernel) (by decide +kernel)

set_option maxRecDepth 1000000 in
theorem ex1 (m : Int) (w : World) (hT : RTab w) (hm : MaxOk m w) : Calls Tryd.prog 31 #[.string ⟨#[60, 33, 45, 45, 62]⟩, .string ⟨#[]⟩, .int .i64 5] w fun e w' => e = .returned (.bool true) ∧ Below w.heap.size w w' :=
  says_yes ⟨#[60, 33, 45, 45, 62]⟩ ⟨#[]⟩ 5 m w (by decide) hm (by decide +kernel) (by decide +kernel) (by decide +kernel)

set_option maxRecDepth 1000000 in
theorem ex2 (m : Int) (w : World) (hT : RTab w) (hm : MaxOk m w) : Calls Tryd.prog 31 #[.string ⟨#[60, 33, 45, 45, 45, 62]⟩, .string ⟨#[]⟩, .int .i64 6] w fun e w' => e = .returned (.bool true) ∧ Below w.heap.size w w' :=
  says_yes ⟨#[60, 33, 45, 45, 45, 62]⟩ ⟨#[]⟩ 6 m w (by decide) hm (by decide +kernel) (by decide +kernel) (by decide +kernel)

set_option maxRecDepth 1000000 in
theorem ex3 (m : Int) (w : World) (hT : RTab w) (hm : MaxOk m w) : Calls Tryd.prog 31 #[.string ⟨#[60, 33, 45, 45, 97, 45, 45]⟩, .string ⟨#[97]⟩, .int .i64 7] w fun e w' => e = .returned (.bool true) ∧ Below w.heap.size w w' :=
  says_yes ⟨#[60, 33, 45, 45, 97, 45, 45]⟩ ⟨#[97]⟩ 7 m w (by decide) hm (by decide +kernel) (by decide +kernel) (by decide +kernel)

set_option maxRecDepth 1000000 in
theorem ex4 (m : Int) (w : World) (hT : RTab w) (hm : MaxOk m w) : Calls Tryd.prog 31 #[.string ⟨#[60, 33, 45, 45, 97, 45, 45, 62, 45, 45, 62]⟩, .string ⟨#[97]⟩, .int .i64 8] w fun e w' => e = .returned (.bool true) ∧ Below w.heap.size w w' :=
  says_yes ⟨#[60, 33, 45, 45, 97, 45, 45, 62, 45, 45, 62]⟩ ⟨#[97]⟩ 8 m w (by decide) hm (by decide +kernel) (by decide +kernel) (by decide +kernel)

set_option maxRecDepth 1000000 in
theorem ex5 (m : Int) (w : World) (hT : RTab w) (hm : MaxOk m w) : Calls Tryd.prog 31 #[.string ⟨#[60, 33, 45, 45, 60, 33, 45, 45, 62, 120]⟩, .string ⟨#[60, 33]⟩, .int .i64 9] w fun e w' => e = .returned (.bool true) ∧ Below w.heap.size w w' :=
  says_yes ⟨#[60, 33, 45, 45, 60, 33, 45, 45, 62, 120]⟩ ⟨#[60, 33]⟩ 9 m w (by decide) hm (by decide +kernel) (by decide +kernel) (by decide +kernel)

set_option maxRecDepth 1000000 in
theorem ex6 (m : Int) (w : World) (hT : RTab w) (hm : MaxOk m w) : Calls Tryd.prog 32 #[.string ⟨#[60, 63, 120, 62]⟩, .string ⟨#[63, 120]⟩] w fun e w' => e = .returned (.bool true) ∧ Below w.heap.size w w' :=
  odd_q ⟨#[60, 63, 120, 62]⟩ ⟨#[63, 120]⟩ m w (by decide) hm (by decide +kernel) (by decide +kernel) (by decide +kernel)

set_option maxRecDepth 1000000 in
theorem ex7 (m : Int) (w : World) (hT : RTab w) (hm : MaxOk m w) : Calls Tryd.prog 32 #[.string ⟨#[60, 47, 32, 97, 62]⟩, .string ⟨#[32, 97]⟩] w fun e w' => e = .returned (.bool true) ∧ Below w.heap.size w w' :=
  odd_c ⟨#[60, 47, 32, 97, 62]⟩ ⟨#[32, 97]⟩ m w (by decide) hm (by decide +kernel) (by decide +kernel) (by decide +kernel) (by decide +kernel) (by decide +kernel)

set_option maxRecDepth 1000000 in
theorem ex8 (m : Int) (w : World) (hT : RTab w) (hm : MaxOk m w) : Calls Tryd.prog 32 #[.string ⟨#[60, 33, 120]⟩, .string ⟨#[120]⟩] w fun e w' => e = .returned (.bool true) ∧ Below w.heap.size w w' :=
  odd_e ⟨#[60, 33, 120]⟩ ⟨#[120]⟩ m w (by decide) hm (by decide +kernel) (by decide +kernel) (by decide +kernel) (by decide +kernel)

set_option maxRecDepth 1000000 in
theorem ex9 (m : Int) (w : World) (hT : RTab w) (hm : MaxOk m w) : Calls Tryd.prog 33 #[.string ⟨#[60, 33, 68, 79, 67, 84, 89, 80, 69, 32, 72, 84, 77, 76, 62]⟩, .string ⟨#[104, 116, 109, 108]⟩, .bool false] w fun e w' => e = .returned (.bool true) ∧ Below w.heap.size w w' :=
  kind_yes ⟨#[60, 33, 68, 79, 67, 84, 89, 80, 69, 32, 72, 84, 77, 76, 62]⟩ ⟨#[104, 116, 109, 108]⟩ false 6 m w (by decide) hm (by decide +kernel) (by decide +kernel) (by rfl)

set_option maxRecDepth 1000000 in
theorem ex10 (m : Int) (w : World) (hT : RTab w) (hm : MaxOk m w) : Calls Tryd.prog 33 #[.string ⟨#[60, 33, 100, 111, 99, 116, 121, 112, 101, 120, 32, 121, 62]⟩, .string ⟨#[120]⟩, .bool true] w fun e w' => e = .returned (.bool true) ∧ Below w.heap.size w w' :=
  kind_yes ⟨#[60, 33, 100, 111, 99, 116, 121, 112, 101, 120, 32, 121, 62]⟩ ⟨#[120]⟩ true 4 m w (by decide) hm (by decide +kernel) (by decide +kernel) (by rfl)

set_option maxRecDepth 1000000 in
theorem ex11 (m : Int) (w : World) (hT : RTab w) (hm : MaxOk m w) : Calls Tryd.prog 33 #[.string ⟨#[60, 33, 100, 111, 99, 116, 121, 112, 101]⟩, .string ⟨#[]⟩, .bool true] w fun e w' => e = .returned (.bool true) ∧ Below w.heap.size w w' :=
  kind_yes ⟨#[60, 33, 100, 111, 99, 116, 121, 112, 101]⟩ ⟨#[]⟩ true 0 m w (by decide) hm (by decide +kernel) (by decide +kernel) (by rfl)

set_option maxRecDepth 1000000 in
theorem ex12 (m : Int) (w : World) (hT : RTab w) (hm : MaxOk m w) : Calls Tryd.prog 34 #[.string ⟨#[97, 38, 108, 116, 59, 60, 47, 66, 32, 62]⟩, .int .i64 1, .string ⟨#[98]⟩, .string ⟨#[97, 60]⟩, .int .i64 5] w fun e w' => e = .returned (.bool true) ∧ Below w.heap.size w w' :=
  goes_yes ⟨#[97, 38, 108, 116, 59, 60, 47, 66, 32, 62]⟩ ⟨#[98]⟩ ⟨#[97, 60]⟩ 1 5 m w (by decide) (by decide) hT hm (by decide) (by decide +kernel) (by decide +kernel)

set_option maxRecDepth 1000000 in
theorem ex13 (m : Int) (w : World) (hT : RTab w) (hm : MaxOk m w) : Calls Tryd.prog 34 #[.string ⟨#[97, 38, 108, 116, 59, 60, 47, 66, 32, 62]⟩, .int .i64 2, .string ⟨#[98]⟩, .string ⟨#[97, 38, 108, 116, 59]⟩, .int .i64 5] w fun e w' => e = .returned (.bool true) ∧ Below w.heap.size w w' :=
  goes_yes ⟨#[97, 38, 108, 116, 59, 60, 47, 66, 32, 62]⟩ ⟨#[98]⟩ ⟨#[97, 38, 108, 116, 59]⟩ 2 5 m w (by decide) (by decide) hT hm (by decide) (by decide +kernel) (by decide +kernel)

set_option maxRecDepth 1000000 in
theorem ex14 (m : Int) (w : World) (hT : RTab w) (hm : MaxOk m w) : Calls Tryd.prog 34 #[.string ⟨#[97, 38, 108, 116, 59, 60, 47, 66, 32, 62]⟩, .int .i64 2, .string ⟨#[99]⟩, .string ⟨#[97, 38, 108, 116, 59, 60, 47, 66, 32, 62]⟩, .int .i64 10] w fun e w' => e = .returned (.bool true) ∧ Below w.heap.size w w' :=
  goes_yes ⟨#[97, 38, 108, 116, 59, 60, 47, 66, 32, 62]⟩ ⟨#[99]⟩ ⟨#[97, 38, 108, 116, 59, 60, 47, 66, 32, 62]⟩ 2 10 m w (by decide) (by decide) hT hm (by decide) (by decide +kernel) (by decide +kernel)

set_option maxRecDepth 1000000 in
theorem ex15 (m : Int) (w : World) (hT : RTab w) (hm : MaxOk m w) : Calls Tryd.prog 34 #[.string ⟨#[60, 33, 45, 45, 60, 115, 99, 114, 105, 112, 116, 62, 60, 47, 115, 99, 114, 105, 112, 116, 62, 60, 47, 115, 99, 114, 105, 112, 116, 62]⟩, .int .i64 3, .string ⟨#[115, 99, 114, 105, 112, 116]⟩, .string ⟨#[60, 33, 45, 45, 60, 115, 99, 114, 105, 112, 116, 62, 60, 47, 115, 99, 114, 105, 112, 116, 62]⟩, .int .i64 21] w fun e w' => e = .returned (.bool true) ∧ Below w.heap.size w w' :=
  goes_yes ⟨#[60, 33, 45, 45, 60, 115, 99, 114, 105, 112, 116, 62, 60, 47, 115, 99, 114, 105, 112, 116, 62, 60, 47, 115, 99, 114, 105, 112, 116, 62]⟩ ⟨#[115, 99, 114, 105, 112, 116]⟩ ⟨#[60, 33, 45, 45, 60, 115, 99, 114, 105, 112, 116, 62, 60, 47, 115, 99, 114, 105, 112, 116, 62]⟩ 3 21 m w (by decide) (by decide) hT hm (by decide) (by decide +kernel) (by decide +kernel)

set_option maxRecDepth 1000000 in
theorem ex16 (m : Int) (w : World) (hT : RTab w) (hm : MaxOk m w) : Calls Tryd.prog 34 #[.string ⟨#[60, 33, 45, 45, 60, 47, 115, 99, 114, 105, 112, 116, 62]⟩, .int .i64 3, .string ⟨#[115, 99, 114, 105, 112, 116]⟩, .string ⟨#[60, 33, 45, 45]⟩, .int .i64 4] w fun e w' => e = .returned (.bool true) ∧ Below w.heap.size w w' :=
  goes_yes ⟨#[60, 33, 45, 45, 60, 47, 115, 99, 114, 105, 112, 116, 62]⟩ ⟨#[115, 99, 114, 105, 112, 116]⟩ ⟨#[60, 33, 45, 45]⟩ 3 4 m w (by decide) (by decide) hT hm (by decide) (by decide +kernel) (by decide +kernel)

set_option maxRecDepth 1000000 in
theorem exC (m : Int) (w : World) (hm : MaxOk m w) : Calls Tryd.prog 17 #[.string ⟨#[60, 33, 91, 67, 68, 65, 84, 65, 91, 97, 93, 93, 93, 62, 98]⟩, .int .i64 0] w fun e w' => e = .returned (.tuple #[.string ⟨#[97, 93]⟩, .int .i64 14]) ∧ Below w.heap.size w w' := by
  have := CData_yes ⟨#[60, 33, 91, 67, 68, 65, 84, 65, 91, 97, 93, 93, 93, 62, 98]⟩ 0 m w (by decide) hm (by decide +kernel)
  rw [show upL ((⟨#[60, 33, 91, 67, 68, 65, 84, 65, 91, 97, 93, 93, 93, 62, 98]⟩ : ByteArray).data.toList.drop (0 + 9)) [93, 93, 62] = ([97, 93], 5, true) from by decide +kernel] at this
  exact this
set_option maxHeartbeats 1600000 in
set_option maxRecDepth 100000 in
theorem raw_any (m : Int) (w : World) (hT : RTab w) (hm : MaxOk m w) : Calls Tryd.prog 10 #[] w fun e w' => e = .returned (.bool true) ∧ Below w.heap.size w w' := by
  have HT := Lib.hid hT
  have HM := Lib.hid hm
  clear hT hm
  go_enter Tryd.func10, Tryd.ntmps10
  go_wp2_with fail
  refine (exC m _ (HM.out.below (Below.refl _ _))).mono ?_
  rintro e w1 ⟨rfl, b1⟩
  have B1 : Hid (Below w.heap.size w w1) := b1
  clear b1
  go_wp2_with fail
  refine (ex0 m _ (HT.out.below B1.out) (HM.out.below B1.out)).mono ?_
  rintro e w2 ⟨rfl, b2⟩
  have B2 : Hid (Below w.heap.size w w2) := B1.out.trans (b2.mono B1.out.size)
  clear b2
  go_wp2_with fail
  refine (ex1 m _ (HT.out.below B2.out) (HM.out.below B2.out)).mono ?_
  rintro e w3 ⟨rfl, b3⟩
  have B3 : Hid (Below w.heap.size w w3) := B2.out.trans (b3.mono B2.out.size)
  clear b3
  go_wp2_with fail
  refine (ex2 m _ (HT.out.below B3.out) (HM.out.below B3.out)).mono ?_
  rintro e w4 ⟨rfl, b4⟩
  have B4 : Hid (Below w.heap.size w w4) := B3.out.trans (b4.mono B3.out.size)
  clear b4
  go_wp2_with fail
  refine (ex3 m _ (HT.out.below B4.out) (HM.out.below B4.out)).mono ?_
  rintro e w5 ⟨rfl, b5⟩
  have B5 : Hid (Below w.heap.size w w5) := B4.out.trans (b5.mono B4.out.size)
  clear b5
  go_wp2_with fail
  refine (ex4 m _ (HT.out.below B5.out) (HM.out.below B5.out)).mono ?_
  rintro e w6 ⟨rfl, b6⟩
  have B6 : Hid (Below w.heap.size w w6) := B5.out.trans (b6.mono B5.out.size)
  clear b6
  go_wp2_with fail
  refine (ex5 m _ (HT.out.below B6.out) (HM.out.below B6.out)).mono ?_
  rintro e w7 ⟨rfl, b7⟩
  have B7 : Hid (Below w.heap.size w w7) := B6.out.trans (b7.mono B6.out.size)
  clear b7
  go_wp2_with fail
  refine (ex6 m _ (HT.out.below B7.out) (HM.out.below B7.out)).mono ?_
  rintro e w8 ⟨rfl, b8⟩
  have B8 : Hid (Below w.heap.size w w8) := B7.out.trans (b8.mono B7.out.size)
  clear b8
  go_wp2_with fail
  refine (ex7 m _ (HT.out.below B8.out) (HM.out.below B8.out)).mono ?_
  rintro e w9 ⟨rfl, b9⟩
  have B9 : Hid (Below w.heap.size w w9) := B8.out.trans (b9.mono B8.out.size)
  clear b9
  go_wp2_with fail
  refine (ex8 m _ (HT.out.below B9.out) (HM.out.below B9.out)).mono ?_
  rintro e w10 ⟨rfl, b10⟩
  have B10 : Hid (Below w.heap.size w w10) := B9.out.trans (b10.mono B9.out.size)
  clear b10
  go_wp2_with fail
  refine (ex9 m _ (HT.out.below B10.out) (HM.out.below B10.out)).mono ?_
  rintro e w11 ⟨rfl, b11⟩
  have B11 : Hid (Below w.heap.size w w11) := B10.out.trans (b11.mono B10.out.size)
  clear b11
  go_wp2_with fail
  refine (ex10 m _ (HT.out.below B11.out) (HM.out.below B11.out)).mono ?_
  rintro e w12 ⟨rfl, b12⟩
  have B12 : Hid (Below w.heap.size w w12) := B11.out.trans (b12.mono B11.out.size)
  clear b12
  go_wp2_with fail
  refine (ex11 m _ (HT.out.below B12.out) (HM.out.below B12.out)).mono ?_
  rintro e w13 ⟨rfl, b13⟩
  have B13 : Hid (Below w.heap.size w w13) := B12.out.trans (b13.mono B12.out.size)
  clear b13
  go_wp2_with fail
  refine (ex12 m _ (HT.out.below B13.out) (HM.out.below B13.out)).mono ?_
  rintro e w14 ⟨rfl, b14⟩
  have B14 : Hid (Below w.heap.size w w14) := B13.out.trans (b14.mono B13.out.size)
  clear b14
  go_wp2_with fail
  refine (ex13 m _ (HT.out.below B14.out) (HM.out.below B14.out)).mono ?_
  rintro e w15 ⟨rfl, b15⟩
  have B15 : Hid (Below w.heap.size w w15) := B14.out.trans (b15.mono B14.out.size)
  clear b15
  go_wp2_with fail
  refine (ex14 m _ (HT.out.below B15.out) (HM.out.below B15.out)).mono ?_
  rintro e w16 ⟨rfl, b16⟩
  have B16 : Hid (Below w.heap.size w w16) := B15.out.trans (b16.mono B15.out.size)
  clear b16
  go_wp2_with fail
  refine (ex15 m _ (HT.out.below B16.out) (HM.out.below B16.out)).mono ?_
  rintro e w17 ⟨rfl, b17⟩
  have B17 : Hid (Below w.heap.size w w17) := B16.out.trans (b17.mono B16.out.size)
  clear b17
  go_wp2_with fail
  refine (ex16 m _ (HT.out.below B17.out) (HM.out.below B17.out)).mono ?_
  rintro e w18 ⟨rfl, b18⟩
  have B18 : Hid (Below w.heap.size w w18) := B17.out.trans (b18.mono B17.out.size)
  clear b18
  go_wp2_with fail
  go_ret
  exact ⟨by exact rfl, B18.out⟩
end Go.Proofs.YtbpdmbmooboimaaDoor.R11
