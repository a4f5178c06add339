/- lazaretlaw10.tagged: the chapter's examples. -/
import Derived.Test.YteeplfbaflldaaaDoorTg7
set_option linter.unusedVariables false
set_option linter.unusedSimpArgs false
namespace Go.Proofs.YteeplfbaflldaaaDoor.T10
open Go.RowKit R9

set_option maxRecDepth 1000000 in
theorem rd0 : readL [60, 65, 32, 98, 61, 99, 47, 100, 32, 69, 61, 39, 38, 97, 109, 112, 59, 38, 108, 116, 39, 32, 101, 32, 102, 62] 0 = some ⟨false, [97], [([98], [99, 47, 100]), ([101], [38, 60]), ([102], [])], true, false, 26⟩ := by decide +kernel
theorem is0 (m : Int) (w : World) (hT : RTab w) (hm : MaxOk m w) :
    Calls Tryd.prog 23 #[.string ⟨#[60, 65, 32, 98, 61, 99, 47, 100, 32, 69, 61, 39, 38, 97, 109, 112, 59, 38, 108, 116, 39, 32, 101, 32, 102, 62]⟩, .agg #[.int .i64 2, .string ⟨#[97]⟩, .string ⟨#[]⟩, .slice (some ⟨w.heap.size, 0, none⟩) 3 3, .bool true, .bool false, .bool false, .int .i64 0, .int .i64 0]] (w.alloc (.cells #[.string ⟨#[98]⟩, .string ⟨#[99, 47, 100]⟩, .string ⟨#[101]⟩, .string ⟨#[38, 60]⟩, .string ⟨#[102]⟩, .string ⟨#[]⟩] 32)) fun e w' => e = .returned (.bool true) ∧ Below w.heap.size w w' := by
  have hb : Below w.heap.size w (w.alloc (.cells #[.string ⟨#[98]⟩, .string ⟨#[99, 47, 100]⟩, .string ⟨#[101]⟩, .string ⟨#[38, 60]⟩, .string ⟨#[102]⟩, .string ⟨#[]⟩] 32)) := (Below.refl _ w).alloc (Nat.le_refl _) _
  refine (is_any ⟨#[60, 65, 32, 98, 61, 99, 47, 100, 32, 69, 61, 39, 38, 97, 109, 112, 59, 38, 108, 116, 39, 32, 101, 32, 102, 62]⟩ ⟨false, [97], [([98], [99, 47, 100]), ([101], [38, 60]), ([102], [])], true, false, 26⟩ (.slice (some ⟨w.heap.size, 0, none⟩) 3 3) m _ (hT.below hb) (hm.below hb) (by decide) rd0 (by rfl) (att_lit w [([98], [99, 47, 100]), ([101], [38, 60]), ([102], [])] (by simp) (by decide))).mono ?_
  rintro e w' ⟨rfl, h⟩
  exact ⟨rfl, hb.trans (h.mono hb.size)⟩
set_option maxRecDepth 1000000 in
theorem rd1 : readL [60, 98, 114, 47, 62] 0 = some ⟨false, [98, 114], [], false, true, 5⟩ := by decide +kernel
theorem is1 (m : Int) (w : World) (hT : RTab w) (hm : MaxOk m w) :
    Calls Tryd.prog 23 #[.string ⟨#[60, 98, 114, 47, 62]⟩, .agg #[.int .i64 2, .string ⟨#[98, 114]⟩, .string ⟨#[]⟩, .slice none 0 0, .bool false, .bool true, .bool false, .int .i64 0, .int .i64 0]] w fun e w' => e = .returned (.bool true) ∧ Below w.heap.size w w' :=
  is_any ⟨#[60, 98, 114, 47, 62]⟩ ⟨false, [98, 114], [], false, true, 5⟩ (.slice none 0 0) m w hT hm (by decide) rd1 (by rfl) (AttIn.nil w)
set_option maxRecDepth 1000000 in
theorem rd2 : readL [60, 97, 47, 98, 62] 0 = some ⟨false, [97], [([98], [])], false, false, 5⟩ := by decide +kernel
theorem is2 (m : Int) (w : World) (hT : RTab w) (hm : MaxOk m w) :
    Calls Tryd.prog 23 #[.string ⟨#[60, 97, 47, 98, 62]⟩, .agg #[.int .i64 2, .string ⟨#[97]⟩, .string ⟨#[]⟩, .slice (some ⟨w.heap.size, 0, none⟩) 1 1, .bool false, .bool false, .bool false, .int .i64 0, .int .i64 0]] (w.alloc (.cells #[.string ⟨#[98]⟩, .string ⟨#[]⟩] 32)) fun e w' => e = .returned (.bool true) ∧ Below w.heap.size w w' := by
  have hb : Below w.heap.size w (w.alloc (.cells #[.string ⟨#[98]⟩, .string ⟨#[]⟩] 32)) := (Below.refl _ w).alloc (Nat.le_refl _) _
  refine (is_any ⟨#[60, 97, 47, 98, 62]⟩ ⟨false, [97], [([98], [])], false, false, 5⟩ (.slice (some ⟨w.heap.size, 0, none⟩) 1 1) m _ (hT.below hb) (hm.below hb) (by decide) rd2 (by rfl) (att_lit w [([98], [])] (by simp) (by decide))).mono ?_
  rintro e w' ⟨rfl, h⟩
  exact ⟨rfl, hb.trans (h.mono hb.size)⟩
set_option maxRecDepth 1000000 in
theorem rd3 : readL [60, 47, 80, 32, 113, 61, 49, 47, 62] 0 = some ⟨true, [112], [], false, false, 9⟩ := by decide +kernel
theorem is3 (m : Int) (w : World) (hT : RTab w) (hm : MaxOk m w) :
    Calls Tryd.prog 23 #[.string ⟨#[60, 47, 80, 32, 113, 61, 49, 47, 62]⟩, .agg #[.int .i64 3, .string ⟨#[112]⟩, .string ⟨#[]⟩, .slice none 0 0, .bool false, .bool false, .bool false, .int .i64 0, .int .i64 0]] w fun e w' => e = .returned (.bool true) ∧ Below w.heap.size w w' :=
  is_any ⟨#[60, 47, 80, 32, 113, 61, 49, 47, 62]⟩ ⟨true, [112], [], false, false, 9⟩ (.slice none 0 0) m w hT hm (by decide) rd3 (by rfl) (AttIn.nil w)
set_option maxRecDepth 1000000 in
theorem rd4 : readL [60, 97, 32, 61, 120, 32, 121, 32, 61, 32, 34, 62, 34, 32, 122, 61, 62] 0 = some ⟨false, [97], [([61, 120], []), ([121], [62]), ([122], [])], false, false, 17⟩ := by decide +kernel
theorem is4 (m : Int) (w : World) (hT : RTab w) (hm : MaxOk m w) :
    Calls Tryd.prog 23 #[.string ⟨#[60, 97, 32, 61, 120, 32, 121, 32, 61, 32, 34, 62, 34, 32, 122, 61, 62]⟩, .agg #[.int .i64 2, .string ⟨#[97]⟩, .string ⟨#[]⟩, .slice (some ⟨w.heap.size, 0, none⟩) 3 3, .bool false, .bool false, .bool false, .int .i64 0, .int .i64 0]] (w.alloc (.cells #[.string ⟨#[61, 120]⟩, .string ⟨#[]⟩, .string ⟨#[121]⟩, .string ⟨#[62]⟩, .string ⟨#[122]⟩, .string ⟨#[]⟩] 32)) fun e w' => e = .returned (.bool true) ∧ Below w.heap.size w w' := by
  have hb : Below w.heap.size w (w.alloc (.cells #[.string ⟨#[61, 120]⟩, .string ⟨#[]⟩, .string ⟨#[121]⟩, .string ⟨#[62]⟩, .string ⟨#[122]⟩, .string ⟨#[]⟩] 32)) := (Below.refl _ w).alloc (Nat.le_refl _) _
  refine (is_any ⟨#[60, 97, 32, 61, 120, 32, 121, 32, 61, 32, 34, 62, 34, 32, 122, 61, 62]⟩ ⟨false, [97], [([61, 120], []), ([121], [62]), ([122], [])], false, false, 17⟩ (.slice (some ⟨w.heap.size, 0, none⟩) 3 3) m _ (hT.below hb) (hm.below hb) (by decide) rd4 (by rfl) (att_lit w [([61, 120], []), ([121], [62]), ([122], [])] (by simp) (by decide))).mono ?_
  rintro e w' ⟨rfl, h⟩
  exact ⟨rfl, hb.trans (h.mono hb.size)⟩
set_option maxRecDepth 1000000 in
theorem rn0 : readL [60, 97, 32, 98, 61, 34, 99, 62] 0 = none := by decide +kernel
theorem no0 (m : Int) (w : World) (hT : RTab w) (hm : MaxOk m w) : Calls Tryd.prog 24 #[.string ⟨#[60, 97, 32, 98, 61, 34, 99, 62]⟩] w fun e w' => e = .returned (.bool true) ∧ Below w.heap.size w w' :=
  no_any ⟨#[60, 97, 32, 98, 61, 34, 99, 62]⟩ m w hT hm (by decide) rn0
set_option maxRecDepth 1000000 in
theorem rn1 : readL [60, 49, 62] 0 = none := by decide +kernel
theorem no1 (m : Int) (w : World) (hT : RTab w) (hm : MaxOk m w) : Calls Tryd.prog 24 #[.string ⟨#[60, 49, 62]⟩] w fun e w' => e = .returned (.bool true) ∧ Below w.heap.size w w' :=
  no_any ⟨#[60, 49, 62]⟩ m w hT hm (by decide) rn1
set_option maxRecDepth 1000000 in
theorem rn2 : readL [60, 97] 0 = none := by decide +kernel
theorem no2 (m : Int) (w : World) (hT : RTab w) (hm : MaxOk m w) : Calls Tryd.prog 24 #[.string ⟨#[60, 97]⟩] w fun e w' => e = .returned (.bool true) ∧ Below w.heap.size w w' :=
  no_any ⟨#[60, 97]⟩ m w hT hm (by decide) rn2

set_option maxHeartbeats 3200000 in
set_option maxRecDepth 100000 in
theorem tagged_any (m : Int) (w : World) (hT : RTab w) (hm : MaxOk m w) : Calls Tryd.prog 11 #[] w fun e w' => e = .returned (.bool true) ∧ Below w.heap.size w w' := by
  have HT := Lib.hid hT
  have HM := Lib.hid hm
  clear hT hm
  go_enter Tryd.func11, Tryd.ntmps11
  go_wp2_with fail
  refine (is0 m w HT.out HM.out).mono ?_
  rintro e w1 ⟨rfl, b1⟩
  have B1 : Hid (Below w.heap.size w w1) := b1
  clear b1
  go_wp2_with fail
  refine (is1 m w1 (HT.out.below B1.out) (HM.out.below B1.out)).mono ?_
  rintro e w2 ⟨rfl, b2⟩
  have B2 : Hid (Below w.heap.size w w2) := B1.out.trans (b2.mono B1.out.size)
  clear b2
  go_wp2_with fail
  refine (is2 m w2 (HT.out.below B2.out) (HM.out.below B2.out)).mono ?_
  rintro e w3 ⟨rfl, b3⟩
  have B3 : Hid (Below w.heap.size w w3) := B2.out.trans (b3.mono B2.out.size)
  clear b3
  go_wp2_with fail
  refine (is3 m w3 (HT.out.below B3.out) (HM.out.below B3.out)).mono ?_
  rintro e w4 ⟨rfl, b4⟩
  have B4 : Hid (Below w.heap.size w w4) := B3.out.trans (b4.mono B3.out.size)
  clear b4
  go_wp2_with fail
  refine (is4 m w4 (HT.out.below B4.out) (HM.out.below B4.out)).mono ?_
  rintro e w5 ⟨rfl, b5⟩
  have B5 : Hid (Below w.heap.size w w5) := B4.out.trans (b5.mono B4.out.size)
  clear b5
  go_wp2_with fail
  refine (no0 m w5 (HT.out.below B5.out) (HM.out.below B5.out)).mono ?_
  rintro e w6 ⟨rfl, b6⟩
  have B6 : Hid (Below w.heap.size w w6) := B5.out.trans (b6.mono B5.out.size)
  clear b6
  go_wp2_with fail
  refine (no1 m w6 (HT.out.below B6.out) (HM.out.below B6.out)).mono ?_
  rintro e w7 ⟨rfl, b7⟩
  have B7 : Hid (Below w.heap.size w w7) := B6.out.trans (b7.mono B6.out.size)
  clear b7
  go_wp2_with fail
  refine (no2 m w7 (HT.out.below B7.out) (HM.out.below B7.out)).mono ?_
  rintro e w8 ⟨rfl, b8⟩
  have B8 : Hid (Below w.heap.size w w8) := B7.out.trans (b8.mono B7.out.size)
  clear b8
  go_wp2_with fail
  go_ret
  exact ⟨by exact rfl, B8.out⟩
end Go.Proofs.YteeplfbaflldaaaDoor.T10
