/- sources: parse, at what stands between single quotes. sources: strings.CutSuffix. sources: parse, at a scheme. -/
import Derived.Test.YteeplfbaflldaaaDoorSrc13
set_option linter.unusedVariables false
set_option linter.unusedSimpArgs false
namespace Go.Proofs.YteeplfbaflldaaaDoor.S25
open Go.RowKit Go.Extern.Stop Go.Stop Go.Extern T10

theorem quotedV_shape (s : ByteArray) : ∃ k t b p er, quotedV s = .tuple #[srcV k t b ⟨#[]⟩ ⟨#[]⟩ false p ⟨#[]⟩, er] := by
  unfold quotedV
  simp only []
  repeat' split
  all_goals exact ⟨_, _, _, _, _, rfl⟩
set_option maxHeartbeats 1600000 in
set_option maxRecDepth 100000 in
theorem parse_quoted (s : ByteArray) (m : Int) (w : World) (hs : s.size ≤ 1000000) (h2 : 2 ≤ s.size) (ha : s[0]'(by omega) = 39) (hb : s[s.size - 1]'(by omega) = 39) (hm : w.cell? ⟨2, 0, none⟩ = some (.int .i64 m)) :
    Calls Tryd.prog 34 #[.string s] w fun e w' => e = .returned (quotedV (s.extract 1 (s.size - 1))) ∧ Below w.heap.size w w' := by
  obtain ⟨W1, hW1⟩ : ∃ W1, W1 = w.alloc (.cells #[.int .i64 0, .string ⟨#[]⟩, .int .i64 0, .string ⟨#[]⟩, .string ⟨#[]⟩, .bool false, .int .i64 0, .string ⟨#[]⟩] 41) := ⟨_, rfl⟩
  have B1 : Below w.heap.size w W1 := by rw [hW1]; exact (Below.refl _ w).alloc (Nat.le_refl _) _
  have k0 : W1.heap[w.heap.size]? = some (.cells #[.int .i64 0, .string ⟨#[]⟩, .int .i64 0, .string ⟨#[]⟩, .string ⟨#[]⟩, .bool false, .int .i64 0, .string ⟨#[]⟩] 41 (0, 0)) := by rw [hW1]; exact heap_alloc_new w _
  have hlt1 : w.heap.size < W1.heap.size := by rw [hW1]; simp
  have h2l := World.block_lt_of_cell? w _ hm
  simp only [] at h2l
  have hq := quoted_any (s.extract 1 (s.size - 1)) m W1 (by simp; omega) ((B1.cell (p := ⟨2, 0, none⟩) h2l).trans hm)
  obtain ⟨kd, tx, bt, pt, er, hV⟩ := quotedV_shape (s.extract 1 (s.size - 1))
  rw [hV] at hq ⊢
  have HQ := Lib.hid hq
  have HB1 := Lib.hid B1
  have HW := Lib.hid hW1
  have HK0 := Lib.hid k0
  have hlast : (s.size : Int) - 1 = ((s.size - 1 : Nat) : Int) := by omega
  clear hW1 k0 hq B1 hV hm
  unfold srcV at HQ ⊢
  go_enter Tryd.func34, Tryd.ntmps34
  go_upto_region 1 with fail
  rw [← HW.out]
  go_wp2_with (go_at_call 50; refine HQ.out.mono ?_; rintro e w2 ⟨rfl, b2⟩; obtain ⟨⟨c0, c1, c2, c3, c4, c5, c6, c7⟩, f0, f1, f2, f3, f4, f5, f6, f7⟩ := eight ((b2.block _ hlt1).trans HK0.out); have HB2 := Lib.hid (HB1.out.trans (b2.mono HB1.out.size)); clear b2)
  refine bodyPost_ret (v := .tuple #[srcV kd tx bt ⟨#[]⟩ ⟨#[]⟩ false pt ⟨#[]⟩, er]) ?_ rfl ?_
  · rw [results_cell_tmp rfl]
    go_simp
    rfl
  · exact ⟨rfl, below_set8 HB2.out _ _ _ _ _ _ _ _⟩
end Go.Proofs.YteeplfbaflldaaaDoor.S25
set_option linter.unusedVariables false
set_option linter.unusedSimpArgs false
namespace Go.Proofs.YteeplfbaflldaaaDoor.S25
open Go.RowKit Go.Extern.Stop Go.Stop Go.Extern T10

theorem hasSuffix_len {l p : List UInt8} (h : Lib.hasSuffix l p = true) : p.length ≤ l.length := by
  have h2 : p <:+ l := by simpa [Lib.hasSuffix] using h
  exact h2.length_le
set_option maxHeartbeats 1600000 in
set_option maxRecDepth 100000 in
theorem slcutSuffix_any (s p : ByteArray) (w : World) (hs : s.size ≤ 1000000) (hp : p.size ≤ 1000000) :
    Calls Tryd.prog 68 #[.string s, .string p] w fun e w' => e = .returned (match Lib.hasSuffix s.data.toList p.data.toList with | true => .tuple #[.string (s.extract 0 (s.size - p.size)), .bool true] | false => .tuple #[.string s, .bool false]) ∧ w' = w := by
  have HP := Lib.hid (Tryd.stringslite_HasSuffix s p w (by omega))
  cases h : Lib.hasSuffix s.data.toList p.data.toList with
  | true =>
    rw [h] at HP
    have hl : p.size ≤ s.size := by
      have := hasSuffix_len h
      simpa using this
    clear h
    go_enter Tryd.func68, Tryd.ntmps68
    go_wp2_with (go_at_call 93; refine HP.out.mono ?_; rintro e w' ⟨rfl, rfl⟩)
    go_ret2
    exact ⟨by exact rfl, rfl⟩
  | false =>
    rw [h] at HP
    clear h
    go_enter Tryd.func68, Tryd.ntmps68
    go_wp2_with (go_at_call 93; refine HP.out.mono ?_; rintro e w' ⟨rfl, rfl⟩)
    go_ret2
    exact ⟨by exact rfl, rfl⟩
set_option maxHeartbeats 1600000 in
set_option maxRecDepth 100000 in
theorem cutSuffix_any (s p : ByteArray) (w : World) (hs : s.size ≤ 1000000) (hp : p.size ≤ 1000000) :
    Calls Tryd.prog 51 #[.string s, .string p] w fun e w' => e = .returned (match Lib.hasSuffix s.data.toList p.data.toList with | true => .tuple #[.string (s.extract 0 (s.size - p.size)), .bool true] | false => .tuple #[.string s, .bool false]) ∧ w' = w := by
  have HP := Lib.hid (slcutSuffix_any s p w hs hp)
  cases h : Lib.hasSuffix s.data.toList p.data.toList with
  | true =>
    rw [h] at HP
    clear h
    go_enter Tryd.func51, Tryd.ntmps51
    go_wp2_with (go_at_call 68; refine HP.out.mono ?_; rintro e w' ⟨rfl, rfl⟩)
    go_ret2
    exact ⟨by exact rfl, rfl⟩
  | false =>
    rw [h] at HP
    clear h
    go_enter Tryd.func51, Tryd.ntmps51
    go_wp2_with (go_at_call 68; refine HP.out.mono ?_; rintro e w' ⟨rfl, rfl⟩)
    go_ret2
    exact ⟨by exact rfl, rfl⟩
end Go.Proofs.YteeplfbaflldaaaDoor.S25
set_option linter.unusedVariables false
set_option linter.unusedSimpArgs false
namespace Go.Proofs.YteeplfbaflldaaaDoor.S25
open Go.RowKit Go.Extern.Stop Go.Stop Go.Extern T10

set_option maxHeartbeats 1600000 in
set_option maxRecDepth 100000 in
theorem parse_scheme (s : ByteArray) (w : World) (hs : s.size ≤ 1000000) (h2 : 2 ≤ s.size) (ha : s[0]'(by omega) ≠ 39) (hsuf : Lib.hasSuffix s.data.toList [58] = true) (hsch : schB (s.extract 0 (s.size - 1)).data.toList = true) :
    Calls Tryd.prog 34 #[.string s] w fun e w' => e = .returned (.tuple #[srcV 2 ⟨#[]⟩ 0 ⟨(lowL (s.extract 0 (s.size - 1)).data.toList).toArray⟩ ⟨#[]⟩ false (-1) ⟨#[]⟩, .nilIface]) ∧ Below w.heap.size w w' := by
  obtain ⟨W1, hW1⟩ : ∃ W1, W1 = w.alloc (.cells #[.int .i64 0, .string ⟨#[]⟩, .int .i64 0, .string ⟨#[]⟩, .string ⟨#[]⟩, .bool false, .int .i64 0, .string ⟨#[]⟩] 41) := ⟨_, rfl⟩
  have B1 : Below w.heap.size w W1 := by rw [hW1]; exact (Below.refl _ w).alloc (Nat.le_refl _) _
  have k0 : W1.heap[w.heap.size]? = some (.cells #[.int .i64 0, .string ⟨#[]⟩, .int .i64 0, .string ⟨#[]⟩, .string ⟨#[]⟩, .bool false, .int .i64 0, .string ⟨#[]⟩] 41 (0, 0)) := by rw [hW1]; exact heap_alloc_new w _
  have hlt1 : w.heap.size < W1.heap.size := by rw [hW1]; simp
  obtain ⟨c, hc⟩ : ∃ c, s[0]'(by omega) = c := ⟨_, rfl⟩
  rw [hc] at ha
  have hne : ((c.toNat : Int) == 39) = false := by
    rw [beq_eq_false_iff_ne]
    intro e
    exact ha (UInt8.toNat_inj.1 (by show c.toNat = 39; omega))
  obtain ⟨q, hq⟩ : ∃ q, s.extract 0 (s.size - 1) = q := ⟨_, rfl⟩
  have hqs : q.size ≤ 1000000 := by rw [← hq]; simp; omega
  have hcs : Calls Tryd.prog 51 #[.string s, .string ⟨#[58]⟩] W1 fun e w' => e = .returned (.tuple #[.string q, .bool true]) ∧ w' = W1 := by
    refine (cutSuffix_any s ⟨#[58]⟩ W1 hs (by decide)).mono ?_
    rintro e w' ⟨rfl, rfl⟩
    refine ⟨?_, rfl⟩
    rw [← hq]
    cases hb : Lib.hasSuffix s.data.toList [58] with
    | true => rfl
    | false => rw [hb] at hsuf; cases hsuf
  rw [hq] at hsch ⊢
  have hsc := isScheme_any q W1 hqs
  rw [hsch] at hsc
  have hlo := lower_any q W1 (by omega)
  obtain ⟨low, hlow⟩ : ∃ low : ByteArray, (⟨(lowL q.data.toList).toArray⟩ : ByteArray) = low := ⟨_, rfl⟩
  rw [hlow] at hlo ⊢
  have HCS := Lib.hid hcs
  have HSC := Lib.hid hsc
  have HLO := Lib.hid hlo
  have HB1 := Lib.hid B1
  have HW := Lib.hid hW1
  have HK0 := Lib.hid k0
  clear hW1 k0 B1 hcs hsc hlo hsuf hsch hq hlow ha
  unfold srcV
  go_enter Tryd.func34, Tryd.ntmps34
  go_upto_region 1 with fail
  rw [← HW.out]
  go_wp2_with (first
    | (go_at_call 51; refine HCS.out.mono ?_; rintro e w2 ⟨rfl, rfl⟩)
    | (go_at_call 52; refine HSC.out.mono ?_; rintro e w2 ⟨rfl, rfl⟩)
    | (go_at_call 41; refine HLO.out.mono ?_; rintro e w2 ⟨rfl, b2⟩; obtain ⟨⟨c0, c1, c2, c3, c4, c5, c6, c7⟩, f0, f1, f2, f3, f4, f5, f6, f7⟩ := eight ((b2.block _ hlt1).trans HK0.out); have HB2 := Lib.hid (HB1.out.trans (b2.mono HB1.out.size)); clear b2))
  refine bodyPost_ret (v := .tuple #[srcV 2 ⟨#[]⟩ 0 low ⟨#[]⟩ false (-1) ⟨#[]⟩, .nilIface]) ?_ rfl ?_
  · rw [results_cell_tmp rfl]
    go_simp
    rfl
  · exact ⟨rfl, below_set8 HB2.out _ _ _ _ _ _ _ _⟩
end Go.Proofs.YteeplfbaflldaaaDoor.S25
