/- raws: comment. raws: Comment, Bogus, CData. raws: Bogus, Doctype, CData. (Made by tools/gen/rw11.py.) -/
import Derived.Test.YtbpdmbmooboimaaDoorRwq
import Derived.Test.YtbpdmbmooboimaaDoorTg7
import Derived.Deep.QuietTactic
import Derived.BigQuiet
set_option linter.unusedVariables false
set_option linter.unusedSimpArgs false
namespace Go.Proofs.YtbpdmbmooboimaaDoor.R11
open Go.RowKit R9 T10

theorem hs_any (s p : ByteArray) (w : World) (hs : s.size ≤ 1000000) : Calls Tryd.prog 61 #[.string s, .string p] w fun e w' => e = .returned (.bool (p.data.toList.isSuffixOf s.data.toList)) ∧ w = w' := by
  exact (Tryd.strings_HasSuffix s p w (by omega)).mono fun e w' ⟨h1, h2⟩ => ⟨h1, h2.symm⟩
theorem com_pre {r : List UInt8} (h1 : [62].isPrefixOf r = false) (h : [45, 62].isPrefixOf r = false) : comL r = match fnd r [45, 45, 62], fnd r [45, 45, 33, 62] with
    | some i, some j => if j < i then (r.take j, j + 4) else (r.take i, i + 3)
    | some i, none => (r.take i, i + 3)
    | none, some j => (r.take j, j + 4)
    | none, none =>
      if [45, 45, 33].isSuffixOf r = true then (r.take (r.length - 3), r.length)
      else if [45, 45].isSuffixOf r = true then (r.take (r.length - 2), r.length)
      else if [45].isSuffixOf r = true then (r.take (r.length - 1), r.length)
      else (r, r.length) := com_rest (by rw [has_plain _ _ (by decide)]; exact h1) (by rw [has_plain _ _ (by decide)]; exact h)
def ret2B (x : List UInt8 × Nat) : Value := .tuple #[.string (bytesOf x.1), .int .i64 (x.2 : Int)]
theorem suf_len {r t : List UInt8} (h : t.isSuffixOf r = true) : t.length ≤ r.length := (List.isSuffixOf_iff_suffix.1 h).length_le
theorem ba_ext0 {A B : ByteArray} (h : A.data.toList = B.data.toList) : A = B := by
  cases A; cases B
  congr 1
  exact Array.toList_inj.1 h
theorem take_ext (r : ByteArray) (n : Nat) : bytesOf (r.data.toList.take n) = r.extract 0 n := by
  apply ba_ext0
  rw [bytesOf_data, ext_init]
set_option maxHeartbeats 3200000 in
set_option maxRecDepth 100000 in
theorem comment_any (r : ByteArray) (m : Int) (w : World) (hr : r.size ≤ 1000000) (hm : MaxOk m w) :
    Calls Tryd.prog 36 #[.string r] w fun e w' => e = .returned (ret2B (comL r.data.toList)) ∧ Below w.heap.size w w' := by
  have HP1 := Lib.hid (fun W => hp_any r ⟨#[62]⟩ W)
  have HP2 := Lib.hid (fun W => hp_any r ⟨#[45, 62]⟩ W)
  rw [show (⟨#[62]⟩ : ByteArray).data.toList = [62] from rfl] at HP1
  rw [show (⟨#[45, 62]⟩ : ByteArray).data.toList = [45, 62] from rfl] at HP2
  obtain ⟨p1, hp1⟩ : ∃ p, [62].isPrefixOf r.data.toList = p := ⟨_, rfl⟩
  obtain ⟨p2, hp2⟩ : ∃ p, [45, 62].isPrefixOf r.data.toList = p := ⟨_, rfl⟩
  rw [hp1] at HP1
  rw [hp2] at HP2
  have Q1 := Lib.hid hp1
  have Q2 := Lib.hid hp2
  have HM := Lib.hid hm
  have hl : r.data.toList.length = r.size := by simp
  have HL := Lib.hid hl
  clear hp1 hp2 hm hl
  have x20 : ∀ w, (Instr.index 39 (.agg #[.string ⟨#[62]⟩, .string ⟨#[45, 62]⟩]) (.int .i64 0)).run Tryd.prog w = .ok (.string ⟨#[62]⟩) w := fun _ => by kernel_rfl
  have x21 : ∀ w, (Instr.index 39 (.agg #[.string ⟨#[62]⟩, .string ⟨#[45, 62]⟩]) (.int .i64 1)).run Tryd.prog w = .ok (.string ⟨#[45, 62]⟩) w := fun _ => by kernel_rfl
  have x30 : ∀ w, (Instr.index 78 (.agg #[.string ⟨#[45, 45, 33]⟩, .string ⟨#[45, 45]⟩, .string ⟨#[45]⟩]) (.int .i64 0)).run Tryd.prog w = .ok (.string ⟨#[45, 45, 33]⟩) w := fun _ => by kernel_rfl
  have x31 : ∀ w, (Instr.index 78 (.agg #[.string ⟨#[45, 45, 33]⟩, .string ⟨#[45, 45]⟩, .string ⟨#[45]⟩]) (.int .i64 1)).run Tryd.prog w = .ok (.string ⟨#[45, 45]⟩) w := fun _ => by kernel_rfl
  have x32 : ∀ w, (Instr.index 78 (.agg #[.string ⟨#[45, 45, 33]⟩, .string ⟨#[45, 45]⟩, .string ⟨#[45]⟩]) (.int .i64 2)).run Tryd.prog w = .ok (.string ⟨#[45]⟩) w := fun _ => by kernel_rfl
  go_enter Tryd.func36, Tryd.ntmps36
  go_wp2_with fail
  go_loop [13] (fun v => ∃ z : Int, v = .int .i64 z ∧ (z = 0 ∨ (z = 1 ∧ p1 = false) ∨ (z = 2 ∧ p1 = false ∧ p2 = false))) (fun v => 2 - (intOf v).toNat)
  case atStart => exact ⟨0, rfl, .inl rfl⟩
  case round =>
    obtain ⟨z, rfl, rfl | ⟨rfl, rfl⟩ | ⟨rfl, rfl, rfl⟩⟩ := hrel
    · cases p1 with
      | true =>
        have HR : Hid (comL r.data.toList = ([], 1)) := by show _ = _; unfold comL; rw [if_pos Q1.out]
        go_wp2_with fail
        refine (HP1.out _).mono ?_
        rintro e w1 ⟨rfl, rfl⟩
        go_wp2_with fail
        go_ret2
        exact ⟨by rw [HR.out]; rfl, Below.refl _ _⟩
      | false =>
        go_wp2_with fail
        refine (HP1.out _).mono ?_
        rintro e w1 ⟨rfl, rfl⟩
        go_wp2_with fail
        go_round
        case rel => exact ⟨1, rfl, by simp⟩
        case measure => simp [intOf]
    · cases p2 with
      | true =>
        have HR : Hid (comL r.data.toList = ([], 2)) := by show _ = _; unfold comL; rw [if_neg (by rw [Q1.out]; simp), if_pos Q2.out]
        go_wp2_with fail
        refine (HP2.out _).mono ?_
        rintro e w1 ⟨rfl, rfl⟩
        go_wp2_with fail
        go_ret2
        exact ⟨by rw [HR.out]; rfl, Below.refl _ _⟩
      | false =>
        go_wp2_with fail
        refine (HP2.out _).mono ?_
        rintro e w1 ⟨rfl, rfl⟩
        go_wp2_with fail
        go_round
        case rel => exact ⟨2, rfl, by simp⟩
        case measure => simp [intOf]
    · have hc := com_pre Q1.out Q2.out
      have HU1 := Lib.hid (fun W (h : MaxOk m W) => upTo_any r ⟨#[45, 45, 62]⟩ m W hr (by decide) (by decide) h)
      have HU2 := Lib.hid (fun W (h : MaxOk m W) => upTo_any r ⟨#[45, 45, 33, 62]⟩ m W hr (by decide) (by decide) h)
      rw [show (⟨#[45, 45, 62]⟩ : ByteArray).data.toList = [45, 45, 62] from rfl] at HU1
      rw [show (⟨#[45, 45, 33, 62]⟩ : ByteArray).data.toList = [45, 45, 33, 62] from rfl] at HU2
      unfold upL at HU1 HU2
      cases h1 : fnd r.data.toList [45, 45, 62] with
      | some i =>
        have hi := (fnd_some h1).2.1
        rw [HL.out] at hi
        rw [h1] at HU1 hc
        obtain ⟨X, hX⟩ : ∃ X, bytesOf (r.data.toList.take i) = X := ⟨_, rfl⟩
        have hXs : (X.size : Int) = i := by rw [← hX, bytesOf_size, List.length_take, HL.out]; simp at hi; omega
        simp only [hX] at HU1
        cases h2 : fnd r.data.toList [45, 45, 33, 62] with
        | some j =>
          have hj := (fnd_some h2).2.1
          rw [HL.out] at hj
          rw [h2] at HU2 hc
          obtain ⟨Y, hY⟩ : ∃ Y, bytesOf (r.data.toList.take j) = Y := ⟨_, rfl⟩
          have hYs : (Y.size : Int) = j := by rw [← hY, bytesOf_size, List.length_take, HL.out]; simp at hj; omega
          simp only [hY] at HU2
          by_cases hlt : j < i
          · have HR : Hid (ret2B (comL r.data.toList) = .tuple #[.string Y, .int .i64 ((j + [45, 45, 33, 62].length : Nat) : Int)]) := by
              show _ = _
              rw [hc]
              simp only [if_pos hlt]
              unfold ret2B
              rw [hY]
              rfl
            have hlt2 : (j : Int) < i := by omega
            clear hc h1 h2 hX hY hi hj hlt
            go_wp2_with fail
            refine (HU1.out _ HM.out).mono ?_
            rintro e w1 ⟨rfl, b1⟩
            have B1 : Hid (Below w.heap.size w w1) := b1
            clear b1
            go_wp2_with fail
            refine (HU2.out _ (HM.out.below B1.out)).mono ?_
            rintro e w2 ⟨rfl, b2⟩
            have B2 : Hid (Below w.heap.size w w2) := B1.out.trans (b2.mono B1.out.size)
            clear b2
            go_wp2_with fail
            go_ret2
            exact ⟨by rw [HR.out]; rfl, B2.out⟩
          · have HR : Hid (ret2B (comL r.data.toList) = .tuple #[.string X, .int .i64 ((i + [45, 45, 62].length : Nat) : Int)]) := by
              show _ = _
              rw [hc]
              simp only [if_neg hlt]
              unfold ret2B
              rw [hX]
              rfl
            have hlt2 : ¬ (j : Int) < i := by omega
            clear hc h1 h2 hX hY hi hj hlt
            go_wp2_with fail
            refine (HU1.out _ HM.out).mono ?_
            rintro e w1 ⟨rfl, b1⟩
            have B1 : Hid (Below w.heap.size w w1) := b1
            clear b1
            go_wp2_with fail
            refine (HU2.out _ (HM.out.below B1.out)).mono ?_
            rintro e w2 ⟨rfl, b2⟩
            have B2 : Hid (Below w.heap.size w w2) := B1.out.trans (b2.mono B1.out.size)
            clear b2
            go_wp2_with fail
            go_ret2
            exact ⟨by rw [HR.out]; rfl, B2.out⟩
        | none =>
          rw [h2] at HU2 hc
          have HR : Hid (ret2B (comL r.data.toList) = .tuple #[.string X, .int .i64 ((i + [45, 45, 62].length : Nat) : Int)]) := by
            show _ = _
            rw [hc]
            unfold ret2B
            rw [hX]
            rfl
          clear hc h1 h2 hX hi
          go_wp2_with fail
          refine (HU1.out _ HM.out).mono ?_
          rintro e w1 ⟨rfl, b1⟩
          have B1 : Hid (Below w.heap.size w w1) := b1
          clear b1
          go_wp2_with fail
          refine (HU2.out _ (HM.out.below B1.out)).mono ?_
          rintro e w2 ⟨rfl, b2⟩
          have B2 : Hid (Below w.heap.size w w2) := B1.out.trans (b2.mono B1.out.size)
          clear b2
          go_wp2_with fail
          go_ret2
          exact ⟨by rw [HR.out]; rfl, B2.out⟩
      | none =>
        rw [h1] at HU1 hc
        simp only [bytesOf_self] at HU1
        cases h2 : fnd r.data.toList [45, 45, 33, 62] with
        | some j =>
          have hj := (fnd_some h2).2.1
          rw [HL.out] at hj
          rw [h2] at HU2 hc
          obtain ⟨Y, hY⟩ : ∃ Y, bytesOf (r.data.toList.take j) = Y := ⟨_, rfl⟩
          have hYs : (Y.size : Int) = j := by rw [← hY, bytesOf_size, List.length_take, HL.out]; simp at hj; omega
          simp only [hY] at HU2
          have HR : Hid (ret2B (comL r.data.toList) = .tuple #[.string Y, .int .i64 ((j + [45, 45, 33, 62].length : Nat) : Int)]) := by
            show _ = _
            rw [hc]
            unfold ret2B
            rw [hY]
            rfl
          have hlt2 : (j : Int) < r.size := by simp at hj; omega
          clear hc h1 h2 hY hj
          go_wp2_with fail
          refine (HU1.out _ HM.out).mono ?_
          rintro e w1 ⟨rfl, b1⟩
          have B1 : Hid (Below w.heap.size w w1) := b1
          clear b1
          go_wp2_with fail
          refine (HU2.out _ (HM.out.below B1.out)).mono ?_
          rintro e w2 ⟨rfl, b2⟩
          have B2 : Hid (Below w.heap.size w w2) := B1.out.trans (b2.mono B1.out.size)
          clear b2
          go_wp2_with fail
          go_ret2
          exact ⟨by rw [HR.out]; rfl, B2.out⟩
        | none =>
          rw [h2] at HU2 hc
          have HC := Lib.hid hc
          have HS1 := Lib.hid (fun W => hs_any r ⟨#[45, 45, 33]⟩ W hr)
          have HS2 := Lib.hid (fun W => hs_any r ⟨#[45, 45]⟩ W hr)
          have HS3 := Lib.hid (fun W => hs_any r ⟨#[45]⟩ W hr)
          rw [show (⟨#[45, 45, 33]⟩ : ByteArray).data.toList = [45, 45, 33] from rfl] at HS1
          rw [show (⟨#[45, 45]⟩ : ByteArray).data.toList = [45, 45] from rfl] at HS2
          rw [show (⟨#[45]⟩ : ByteArray).data.toList = [45] from rfl] at HS3
          obtain ⟨q1, hq1⟩ : ∃ p, [45, 45, 33].isSuffixOf r.data.toList = p := ⟨_, rfl⟩
          obtain ⟨q2, hq2⟩ : ∃ p, [45, 45].isSuffixOf r.data.toList = p := ⟨_, rfl⟩
          obtain ⟨q3, hq3⟩ : ∃ p, [45].isSuffixOf r.data.toList = p := ⟨_, rfl⟩
          rw [hq1] at HS1
          rw [hq2] at HS2
          rw [hq3] at HS3
          have K1 := Lib.hid hq1
          have K2 := Lib.hid hq2
          have K3 := Lib.hid hq3
          clear hc h1 h2 hq1 hq2 hq3
          go_wp2_with fail
          refine (HU1.out _ HM.out).mono ?_
          rintro e w1 ⟨rfl, b1⟩
          have B1 : Hid (Below w.heap.size w w1) := b1
          clear b1
          go_wp2_with fail
          refine (HU2.out _ (HM.out.below B1.out)).mono ?_
          rintro e w2 ⟨rfl, b2⟩
          have B2 : Hid (Below w.heap.size w w2) := B1.out.trans (b2.mono B1.out.size)
          clear b2
          go_wp2_with fail
          go_loop [48] (fun v => ∃ z : Int, v = .int .i64 z ∧ (z = 0 ∨ (z = 1 ∧ q1 = false) ∨ (z = 2 ∧ q1 = false ∧ q2 = false) ∨ (z = 3 ∧ q1 = false ∧ q2 = false ∧ q3 = false))) (fun v => 3 - (intOf v).toNat)
          case atStart => exact ⟨0, rfl, .inl rfl⟩
          case round =>
            obtain ⟨z, rfl, rfl | ⟨rfl, rfl⟩ | ⟨rfl, rfl, rfl⟩ | ⟨rfl, rfl, rfl, rfl⟩⟩ := hrel
            · cases q1 with
              | true =>
                have hl := suf_len K1.out
                rw [HL.out] at hl
                have hl2 : (0 : Int) ≤ (r.size : Int) - 3 := by simp at hl; omega
                obtain ⟨N, hN⟩ : ∃ N, r.size - 3 = N := ⟨_, rfl⟩
                have hNi : (r.size : Int) - 3 = N := by simp at hl; omega
                have hNs : (N : Int) ≤ r.size := by omega
                have HR : Hid (ret2B (comL r.data.toList) = .tuple #[.string (r.extract 0 N), .int .i64 (r.size : Int)]) := by
                  show _ = _
                  rw [HC.out]
                  simp only [if_pos K1.out]
                  unfold ret2B
                  simp only [HL.out, hN]
                  rw [take_ext]
                clear hN hl
                go_wp2_with fail
                refine (HS1.out _).mono ?_
                rintro e w1 ⟨rfl, rfl⟩
                go_wp2_with fail
                go_ret2
                exact ⟨by rw [HR.out]; rfl, B2.out⟩
              | false =>
                go_wp2_with fail
                refine (HS1.out _).mono ?_
                rintro e w1 ⟨rfl, rfl⟩
                go_wp2_with fail
                go_round
                case rel => exact ⟨1, rfl, by simp⟩
                case measure => simp [intOf]
            · cases q2 with
              | true =>
                have hl := suf_len K2.out
                rw [HL.out] at hl
                have hl2 : (0 : Int) ≤ (r.size : Int) - 2 := by simp at hl; omega
                obtain ⟨N, hN⟩ : ∃ N, r.size - 2 = N := ⟨_, rfl⟩
                have hNi : (r.size : Int) - 2 = N := by simp at hl; omega
                have hNs : (N : Int) ≤ r.size := by omega
                have HR : Hid (ret2B (comL r.data.toList) = .tuple #[.string (r.extract 0 N), .int .i64 (r.size : Int)]) := by
                  show _ = _
                  rw [HC.out]
                  simp only [if_neg (show ¬ [45, 45, 33].isSuffixOf r.data.toList = true by rw [K1.out]; simp), if_pos K2.out]
                  unfold ret2B
                  simp only [HL.out, hN]
                  rw [take_ext]
                clear hN hl
                go_wp2_with fail
                refine (HS2.out _).mono ?_
                rintro e w1 ⟨rfl, rfl⟩
                go_wp2_with fail
                go_ret2
                exact ⟨by rw [HR.out]; rfl, B2.out⟩
              | false =>
                go_wp2_with fail
                refine (HS2.out _).mono ?_
                rintro e w1 ⟨rfl, rfl⟩
                go_wp2_with fail
                go_round
                case rel => exact ⟨2, rfl, by simp⟩
                case measure => simp [intOf]
            · cases q3 with
              | true =>
                have hl := suf_len K3.out
                rw [HL.out] at hl
                have hl2 : (0 : Int) ≤ (r.size : Int) - 1 := by simp at hl; omega
                obtain ⟨N, hN⟩ : ∃ N, r.size - 1 = N := ⟨_, rfl⟩
                have hNi : (r.size : Int) - 1 = N := by simp at hl; omega
                have hNs : (N : Int) ≤ r.size := by omega
                have HR : Hid (ret2B (comL r.data.toList) = .tuple #[.string (r.extract 0 N), .int .i64 (r.size : Int)]) := by
                  show _ = _
                  rw [HC.out]
                  simp only [if_neg (show ¬ [45, 45, 33].isSuffixOf r.data.toList = true by rw [K1.out]; simp), if_neg (show ¬ [45, 45].isSuffixOf r.data.toList = true by rw [K2.out]; simp), if_pos K3.out]
                  unfold ret2B
                  simp only [HL.out, hN]
                  rw [take_ext]
                clear hN hl
                go_wp2_with fail
                refine (HS3.out _).mono ?_
                rintro e w1 ⟨rfl, rfl⟩
                go_wp2_with fail
                go_ret2
                exact ⟨by rw [HR.out]; rfl, B2.out⟩
              | false =>
                go_wp2_with fail
                refine (HS3.out _).mono ?_
                rintro e w1 ⟨rfl, rfl⟩
                go_wp2_with fail
                go_round
                case rel => exact ⟨3, rfl, by simp⟩
                case measure => simp [intOf]
            · have HR : Hid (ret2B (comL r.data.toList) = .tuple #[.string r, .int .i64 (r.size : Int)]) := by
                show _ = _
                rw [HC.out]
                simp only [if_neg (show ¬ [45, 45, 33].isSuffixOf r.data.toList = true by rw [K1.out]; simp), if_neg (show ¬ [45, 45].isSuffixOf r.data.toList = true by rw [K2.out]; simp), if_neg (show ¬ [45].isSuffixOf r.data.toList = true by rw [K3.out]; simp)]
                unfold ret2B
                simp only [HL.out, bytesOf_self]
              go_wp2_with fail
              go_ret2
              exact ⟨by rw [HR.out]; rfl, B2.out⟩
end Go.Proofs.YtbpdmbmooboimaaDoor.R11
set_option linter.unusedVariables false
set_option linter.unusedSimpArgs false
namespace Go.Proofs.YtbpdmbmooboimaaDoor.R11
open Go.RowKit R9 T10

/-- A token without attributes. -/
def tkV (k : Int) (n x : ByteArray) (q : Bool) (a b : Int) : Value := .agg #[.int .i64 k, .string n, .string x, .slice none 0 0, .bool false, .bool false, .bool q, .int .i64 a, .int .i64 b]
def zCells : Obj := .cells #[.int .i64 0, .string ⟨#[]⟩, .string ⟨#[]⟩, .slice none 0 0, .bool false, .bool false, .bool false, .int .i64 0, .int .i64 0] 25 (0, 0)
theorem results_cell_tmpR {fn : Func} {p u : Tmp} {ty : TypeId} (h : fn.results = #[.cell p ty, .tmp u]) (tmps : Array Value) (P : Program) (w : World) :
    (results fn tmps).run P w =
      ((asAddr (tmps.getD p undef)).run P w).andThen fun a w₁ => ((loadVar ty a).run P w₁).andThen fun x w₂ => .ok (.tuple #[x, tmps.getD u undef]) w₂ := by
  simp only [results, h]
  simp [Sem.run_bind, Result.andThen]
/-- The world behind a token's cells. -/
structure TokW (w W1 : World) : Prop where
  cell : W1.heap[w.heap.size]? = some zCells
  below : Below w.heap.size w W1
  lt : w.heap.size < W1.heap.size
theorem tokW (w W1 : World) (h : W1 = w.alloc (.cells #[.int .i64 0, .string ⟨#[]⟩, .string ⟨#[]⟩, .slice none 0 0, .bool false, .bool false, .bool false, .int .i64 0, .int .i64 0] 25)) : TokW w W1 := by
  subst h
  exact ⟨heap_alloc_new w _, (Below.refl _ w).alloc (Nat.le_refl _) _, by simp⟩
theorem TokW.at {w W1 W : World} (h : TokW w W1) (hb : Below W1.heap.size W1 W) : W.heap[w.heap.size]? = some zCells := (hb.block _ h.lt).trans h.cell
theorem TokW.up {w W1 W : World} (h : TokW w W1) (hb : Below W1.heap.size W1 W) : Below w.heap.size w W := h.below.trans (hb.mono h.below.size)
def cmF : ByteArray := ⟨#[60, 33, 45, 45]⟩
set_option maxHeartbeats 3200000 in
set_option maxRecDepth 100000 in
theorem Comment_no (s : ByteArray) (z : Int) (w : World) (hs : s.size ≤ 1000000) (h : hasZ s cmF z = false) :
    Calls Tryd.prog 11 #[.string s, .int .i64 z] w fun e w' => e = .returned (.tuple #[zTok, .int .i64 0]) ∧ Below w.heap.size w w' := by
  obtain ⟨W1, hW1⟩ : ∃ W1, W1 = w.alloc (.cells #[.int .i64 0, .string ⟨#[]⟩, .string ⟨#[]⟩, .slice none 0 0, .bool false, .bool false, .bool false, .int .i64 0, .int .i64 0] 25) := ⟨_, rfl⟩
  have HT := Lib.hid (tokW w W1 hW1)
  have HS := Lib.hid (fun W => stands_any s cmF z W hs (by decide) (by decide))
  rw [h] at HS
  unfold cmF at HS
  have HW := Lib.hid hW1
  have HB0 : Hid (Below W1.heap.size W1 W1) := Below.refl _ _
  clear hW1 h
  go_enter Tryd.func11, Tryd.ntmps11
  go_upto_region 1 with fail
  rw [← HW.out]
  go_wp2_with fail
  refine (HS.out _).mono ?_
  rintro e w2 ⟨rfl, b2⟩
  have B2 : Hid (Below W1.heap.size W1 w2) := HB0.out.trans (b2.mono HB0.out.size)
  clear b2
  obtain ⟨⟨c0, c1, c2, c3, c4, c5, c6, c7, c8⟩, f0, f1, f2, f3, f4, f5, f6, f7, f8⟩ := nine (HT.out.at B2.out)
  go_wp2_with fail
  refine bodyPost_ret (v := .tuple #[zTok, .int .i64 0]) ?_ rfl ?_
  · rw [results_cell_tmpR rfl]
    go_simp
    rfl
  · exact ⟨rfl, below_set9 (HT.out.up B2.out) _ _ _ _ _ _ _ _ _⟩
set_option maxHeartbeats 3200000 in
set_option maxRecDepth 100000 in
theorem Comment_yes (s : ByteArray) (a : Nat) (m : Int) (w : World) (hs : s.size ≤ 300000) (hm : MaxOk m w) (h : hasL (s.data.toList.drop a) cmF.data.toList = true) :
    Calls Tryd.prog 11 #[.string s, .int .i64 (a : Int)] w fun e w' => e = .returned (.tuple #[tkV 4 ⟨#[]⟩ (bytesOf (cleanR (comL (s.data.toList.drop (a + 4))).1)) false a ((a + 4 + (comL (s.data.toList.drop (a + 4))).2 : Nat) : Int), .int .i64 ((a + 4 + (comL (s.data.toList.drop (a + 4))).2 : Nat) : Int)]) ∧ Below w.heap.size w w' := by
  obtain ⟨W1, hW1⟩ : ∃ W1, W1 = w.alloc (.cells #[.int .i64 0, .string ⟨#[]⟩, .string ⟨#[]⟩, .slice none 0 0, .bool false, .bool false, .bool false, .int .i64 0, .int .i64 0] 25) := ⟨_, rfl⟩
  have ht := tokW w W1 hW1
  have HT := Lib.hid ht
  have hl := has_len h
  rw [drop_size] at hl
  have hla : a + 4 ≤ s.size := by have : cmF.data.toList.length = 4 := rfl; omega
  have HS := Lib.hid (fun W => stands_any s cmF (a : Int) W (by omega) (by decide) (by decide))
  rw [hasZ_nat, h] at HS
  unfold cmF at HS
  have HM : Hid (∀ W, Below W1.heap.size W1 W → MaxOk m W) := fun W hb => hm.below (ht.up hb)
  obtain ⟨A, hA⟩ : ∃ A, a + 4 = A := ⟨_, rfl⟩
  have i1 : (a : Int) + 4 = A := by omega
  have i2 : (A : Int) ≤ s.size := by omega
  obtain ⟨R, hR⟩ : ∃ R, s.extract A s.size = R := ⟨_, rfl⟩
  have hRl : R.data.toList = s.data.toList.drop A := by rw [← hR]; exact ext_tail s A
  have hRs : R.size ≤ 300000 := by rw [← hR]; simp; omega
  have HC := Lib.hid (fun W (hm : MaxOk m W) => comment_any R m W (by omega) hm)
  rw [hRl] at HC
  have hcl := comL_le (s.data.toList.drop A)
  rw [drop_size] at hcl
  rw [hA]
  obtain ⟨c, hc⟩ : ∃ c, comL (s.data.toList.drop A) = c := ⟨_, rfl⟩
  obtain ⟨tx, n⟩ := c
  rw [hc] at HC hcl ⊢
  simp only [] at hcl ⊢
  unfold ret2B at HC
  simp only [] at HC
  obtain ⟨T, hT⟩ : ∃ T, bytesOf tx = T := ⟨_, rfl⟩
  have hTl : T.data.toList = tx := by rw [← hT]; exact bytesOf_data _
  have hTs : T.size ≤ 300000 := by rw [← hT, bytesOf_size]; omega
  rw [hT] at HC
  have HCL := Lib.hid (fun W (hm : MaxOk m W) => clean_any T m W (by omega) hm)
  rw [hTl] at HCL
  obtain ⟨C, hC⟩ : ∃ C, bytesOf (cleanR tx) = C := ⟨_, rfl⟩
  rw [hC] at HCL ⊢
  obtain ⟨E, hE⟩ : ∃ E, A + n = E := ⟨_, rfl⟩
  have i3 : (A : Int) + n = E := by omega
  have i4 : (E : Int) ≤ 1000000 := by omega
  rw [hE]
  have HW := Lib.hid hW1
  have HB0 : Hid (Below W1.heap.size W1 W1) := Below.refl _ _
  clear hW1 h hm ht hl hA hRl hc hT hTl hC hE hcl
  go_enter Tryd.func11, Tryd.ntmps11
  go_upto_region 1 with fail
  rw [← HW.out]
  go_wp2_with fail
  refine (HS.out _).mono ?_
  rintro e w2 ⟨rfl, b2⟩
  have B2 : Hid (Below W1.heap.size W1 w2) := HB0.out.trans (b2.mono HB0.out.size)
  clear b2
  go_wp2_with fail
  refine (HC.out _ (HM.out _ B2.out)).mono ?_
  rintro e w3 ⟨rfl, b3⟩
  have B3 : Hid (Below W1.heap.size W1 w3) := B2.out.trans (b3.mono B2.out.size)
  clear b3
  go_wp2_with fail
  refine (HCL.out _ (HM.out _ B3.out)).mono ?_
  rintro e w4 ⟨rfl, b4⟩
  have B4 : Hid (Below W1.heap.size W1 w4) := B3.out.trans (b4.mono B3.out.size)
  clear b4
  obtain ⟨⟨c0, c1, c2, c3, c4, c5, c6, c7, c8⟩, f0, f1, f2, f3, f4, f5, f6, f7, f8⟩ := nine (HT.out.at B4.out)
  go_wp2_with fail
  refine bodyPost_ret (v := .tuple #[tkV 4 ⟨#[]⟩ C false a E, .int .i64 (E : Int)]) ?_ rfl ?_
  · rw [results_cell_tmpR rfl]
    go_simp
    rfl
  · exact ⟨rfl, below_set9 (HT.out.up B4.out) _ _ _ _ _ _ _ _ _⟩
end Go.Proofs.YtbpdmbmooboimaaDoor.R11
set_option linter.unusedVariables false
set_option linter.unusedSimpArgs false
namespace Go.Proofs.YtbpdmbmooboimaaDoor.R11
open Go.RowKit R9 T10


def bqF : ByteArray := ⟨#[60, 63]⟩
def beF : ByteArray := ⟨#[60, 33]⟩
def bcF : ByteArray := ⟨#[60, 47]⟩
def dtF : ByteArray := ⟨#[60, 33, 100, 111, 99, 116, 121, 112, 101]⟩
theorem hasZ_le {s t : ByteArray} {a : Nat} (h : hasZ s t (a : Int) = true) (ht : 1 ≤ t.size) : a + t.size ≤ s.size := by
  rcases hasZ_at h with ⟨_, h2⟩ | h2
  · rw [Int.toNat_natCast] at h2; exact h2
  · omega

set_option maxHeartbeats 800000 in
set_option maxRecDepth 100000 in
theorem Bogus_no (s : ByteArray) (z m : Int) (w : World) (hs : s.size ≤ 300000) (hm : MaxOk m w) (hq : hasZ s bqF z = false) (he : hasZ s beF z = false) (hc : hasZ s bcF z = false) (hz : -9223372036854775808 ≤ z) (hz2 : z ≤ 9223372036854775807) :
    Calls Tryd.prog 13 #[.string s, .int .i64 z] w fun e w' => e = .returned (.tuple #[zTok, .int .i64 0]) ∧ Below w.heap.size w w' := by
  obtain ⟨W1, hW1⟩ : ∃ W1, W1 = w.alloc (.cells #[.int .i64 0, .string ⟨#[]⟩, .string ⟨#[]⟩, .slice none 0 0, .bool false, .bool false, .bool false, .int .i64 0, .int .i64 0] 25) := ⟨_, rfl⟩
  have ht := tokW w W1 hW1
  have HT := Lib.hid ht
  have HM : Hid (∀ W, Below W1.heap.size W1 W → MaxOk m W) := fun W hb => hm.below (ht.up hb)
  have HQ := Lib.hid (fun W => stands_any s bqF z W (by omega) (by decide) (by decide))
  rw [hq] at HQ
  unfold bqF at HQ
  have HE := Lib.hid (fun W => stands_any s beF z W (by omega) (by decide) (by decide))
  rw [he] at HE
  unfold beF at HE
  have HC := Lib.hid (fun W => stands_any s bcF z W (by omega) (by decide) (by decide))
  rw [hc] at HC
  unfold bcF at HC
  have HW := Lib.hid hW1
  have HB0 : Hid (Below W1.heap.size W1 W1) := Below.refl _ _
  clear hW1 hm ht hq he hc
  go_enter Tryd.func13, Tryd.ntmps13
  go_upto_region 1 with fail
  rw [← HW.out]
  go_wp2_with fail
  refine (HQ.out _).mono ?_
  rintro e w2 ⟨rfl, b2⟩
  have B2 : Hid (Below W1.heap.size W1 w2) := HB0.out.trans (b2.mono HB0.out.size)
  clear b2
  go_wp2_with fail
  refine (HE.out _).mono ?_
  rintro e w3 ⟨rfl, b3⟩
  have B3 : Hid (Below W1.heap.size W1 w3) := B2.out.trans (b3.mono B2.out.size)
  clear b3
  go_wp2_with fail
  refine (HC.out _).mono ?_
  rintro e w4 ⟨rfl, b4⟩
  have B4 : Hid (Below W1.heap.size W1 w4) := B3.out.trans (b4.mono B3.out.size)
  clear b4
  obtain ⟨⟨c0, c1, c2, c3, c4, c5, c6, c7, c8⟩, f0, f1, f2, f3, f4, f5, f6, f7, f8⟩ := nine (HT.out.at B4.out)
  go_wp2_with fail
  refine bodyPost_ret (v := .tuple #[zTok, .int .i64 0]) ?_ rfl ?_
  · rw [results_cell_tmpR rfl]
    go_simp
    rfl
  · exact ⟨rfl, below_set9 (HT.out.up B4.out) _ _ _ _ _ _ _ _ _⟩

set_option maxHeartbeats 800000 in
set_option maxRecDepth 100000 in
theorem Bogus_q (s : ByteArray) (a : Nat) (m : Int) (w : World) (hs : s.size ≤ 300000) (hm : MaxOk m w) (hq : hasZ s bqF (a : Int) = true) :
    Calls Tryd.prog 13 #[.string s, .int .i64 (a : Int)] w fun e w' => e = .returned (.tuple #[tkV 4 ⟨#[]⟩ (bytesOf (cleanR (upL (s.data.toList.drop (a + 1)) [62]).1)) false a ((a + 1 + (upL (s.data.toList.drop (a + 1)) [62]).2.1 : Nat) : Int), .int .i64 ((a + 1 + (upL (s.data.toList.drop (a + 1)) [62]).2.1 : Nat) : Int)]) ∧ Below w.heap.size w w' := by
  obtain ⟨W1, hW1⟩ : ∃ W1, W1 = w.alloc (.cells #[.int .i64 0, .string ⟨#[]⟩, .string ⟨#[]⟩, .slice none 0 0, .bool false, .bool false, .bool false, .int .i64 0, .int .i64 0] 25) := ⟨_, rfl⟩
  have ht := tokW w W1 hW1
  have HT := Lib.hid ht
  have HM : Hid (∀ W, Below W1.heap.size W1 W → MaxOk m W) := fun W hb => hm.below (ht.up hb)
  have HQ := Lib.hid (fun W => stands_any s bqF (a : Int) W (by omega) (by decide) (by decide))
  rw [hq] at HQ
  unfold bqF at HQ
  have hla : a + 2 ≤ s.size := hasZ_le hq (by decide)
  obtain ⟨A2, hA2⟩ : ∃ A, a + 2 = A := ⟨_, rfl⟩
  have i0 : (a : Int) + 2 = A2 := by omega
  obtain ⟨A, hA⟩ : ∃ A, a + 1 = A := ⟨_, rfl⟩
  have i1 : (a : Int) + 1 = A := by omega
  have i2 : (A : Int) ≤ s.size := by omega
  obtain ⟨R, hR⟩ : ∃ R, s.extract A s.size = R := ⟨_, rfl⟩
  have hRl : R.data.toList = s.data.toList.drop A := by rw [← hR]; exact ext_tail s A
  have hRs : R.size ≤ 300000 := by rw [← hR]; simp; omega
  have HU := Lib.hid (fun W (hm : MaxOk m W) => upTo_any R ⟨#[62]⟩ m W (by omega) (by decide) (by decide) hm)
  rw [hRl, show (⟨#[62]⟩ : ByteArray).data.toList = [62] from rfl] at HU
  have hcl := upL_le (s.data.toList.drop A) [62]
  rw [drop_size] at hcl
  rw [hA]
  obtain ⟨c, hc0⟩ : ∃ c, upL (s.data.toList.drop A) [62] = c := ⟨_, rfl⟩
  obtain ⟨tx, n, en⟩ := c
  rw [hc0] at HU hcl ⊢
  simp only [] at HU hcl ⊢
  obtain ⟨T, hT⟩ : ∃ T, bytesOf tx = T := ⟨_, rfl⟩
  have hTl : T.data.toList = tx := by rw [← hT]; exact bytesOf_data _
  have hTs : T.size ≤ 300000 := by rw [← hT, bytesOf_size]; omega
  rw [hT] at HU
  have HCL := Lib.hid (fun W (hm : MaxOk m W) => clean_any T m W (by omega) hm)
  rw [hTl] at HCL
  obtain ⟨C, hC⟩ : ∃ C, bytesOf (cleanR tx) = C := ⟨_, rfl⟩
  rw [hC] at HCL ⊢
  obtain ⟨E, hE⟩ : ∃ E, A + n = E := ⟨_, rfl⟩
  have i3 : (A : Int) + n = E := by omega
  have i4 : (E : Int) ≤ 1000000 := by omega
  rw [hE]
  have HW := Lib.hid hW1
  have HB0 : Hid (Below W1.heap.size W1 W1) := Below.refl _ _
  clear hW1 hm ht hA2 hA hRl hc0 hT hTl hC hE hcl
  go_enter Tryd.func13, Tryd.ntmps13
  go_upto_region 1 with fail
  rw [← HW.out]
  go_wp2_with fail
  refine (HQ.out _).mono ?_
  rintro e w2 ⟨rfl, b2⟩
  have B2 : Hid (Below W1.heap.size W1 w2) := HB0.out.trans (b2.mono HB0.out.size)
  clear b2
  go_wp2_with fail
  refine (HU.out _ (HM.out _ B2.out)).mono ?_
  rintro e w3 ⟨rfl, b3⟩
  have B3 : Hid (Below W1.heap.size W1 w3) := B2.out.trans (b3.mono B2.out.size)
  clear b3
  go_wp2_with fail
  refine (HCL.out _ (HM.out _ B3.out)).mono ?_
  rintro e w4 ⟨rfl, b4⟩
  have B4 : Hid (Below W1.heap.size W1 w4) := B3.out.trans (b4.mono B3.out.size)
  clear b4
  obtain ⟨⟨c0, c1, c2, c3, c4, c5, c6, c7, c8⟩, f0, f1, f2, f3, f4, f5, f6, f7, f8⟩ := nine (HT.out.at B4.out)
  go_wp2_with fail
  refine bodyPost_ret (v := .tuple #[tkV 4 ⟨#[]⟩ C false a E, .int .i64 (E : Int)]) ?_ rfl ?_
  · rw [results_cell_tmpR rfl]
    go_simp
    rfl
  · exact ⟨rfl, below_set9 (HT.out.up B4.out) _ _ _ _ _ _ _ _ _⟩

set_option maxHeartbeats 800000 in
set_option maxRecDepth 100000 in
theorem Bogus_e (s : ByteArray) (a : Nat) (m : Int) (w : World) (hs : s.size ≤ 300000) (hm : MaxOk m w) (hq : hasZ s bqF (a : Int) = false) (he : hasZ s beF (a : Int) = true) :
    Calls Tryd.prog 13 #[.string s, .int .i64 (a : Int)] w fun e w' => e = .returned (.tuple #[tkV 4 ⟨#[]⟩ (bytesOf (cleanR (upL (s.data.toList.drop (a + 2)) [62]).1)) false a ((a + 2 + (upL (s.data.toList.drop (a + 2)) [62]).2.1 : Nat) : Int), .int .i64 ((a + 2 + (upL (s.data.toList.drop (a + 2)) [62]).2.1 : Nat) : Int)]) ∧ Below w.heap.size w w' := by
  obtain ⟨W1, hW1⟩ : ∃ W1, W1 = w.alloc (.cells #[.int .i64 0, .string ⟨#[]⟩, .string ⟨#[]⟩, .slice none 0 0, .bool false, .bool false, .bool false, .int .i64 0, .int .i64 0] 25) := ⟨_, rfl⟩
  have ht := tokW w W1 hW1
  have HT := Lib.hid ht
  have HM : Hid (∀ W, Below W1.heap.size W1 W → MaxOk m W) := fun W hb => hm.below (ht.up hb)
  have HQ := Lib.hid (fun W => stands_any s bqF (a : Int) W (by omega) (by decide) (by decide))
  rw [hq] at HQ
  unfold bqF at HQ
  have HE := Lib.hid (fun W => stands_any s beF (a : Int) W (by omega) (by decide) (by decide))
  rw [he] at HE
  unfold beF at HE
  have hla : a + 2 ≤ s.size := hasZ_le he (by decide)
  obtain ⟨A, hA⟩ : ∃ A, a + 2 = A := ⟨_, rfl⟩
  have i1 : (a : Int) + 2 = A := by omega
  have i2 : (A : Int) ≤ s.size := by omega
  obtain ⟨R, hR⟩ : ∃ R, s.extract A s.size = R := ⟨_, rfl⟩
  have hRl : R.data.toList = s.data.toList.drop A := by rw [← hR]; exact ext_tail s A
  have hRs : R.size ≤ 300000 := by rw [← hR]; simp; omega
  have HU := Lib.hid (fun W (hm : MaxOk m W) => upTo_any R ⟨#[62]⟩ m W (by omega) (by decide) (by decide) hm)
  rw [hRl, show (⟨#[62]⟩ : ByteArray).data.toList = [62] from rfl] at HU
  have hcl := upL_le (s.data.toList.drop A) [62]
  rw [drop_size] at hcl
  rw [hA]
  obtain ⟨c, hc0⟩ : ∃ c, upL (s.data.toList.drop A) [62] = c := ⟨_, rfl⟩
  obtain ⟨tx, n, en⟩ := c
  rw [hc0] at HU hcl ⊢
  simp only [] at HU hcl ⊢
  obtain ⟨T, hT⟩ : ∃ T, bytesOf tx = T := ⟨_, rfl⟩
  have hTl : T.data.toList = tx := by rw [← hT]; exact bytesOf_data _
  have hTs : T.size ≤ 300000 := by rw [← hT, bytesOf_size]; omega
  rw [hT] at HU
  have HCL := Lib.hid (fun W (hm : MaxOk m W) => clean_any T m W (by omega) hm)
  rw [hTl] at HCL
  obtain ⟨C, hC⟩ : ∃ C, bytesOf (cleanR tx) = C := ⟨_, rfl⟩
  rw [hC] at HCL ⊢
  obtain ⟨E, hE⟩ : ∃ E, A + n = E := ⟨_, rfl⟩
  have i3 : (A : Int) + n = E := by omega
  have i4 : (E : Int) ≤ 1000000 := by omega
  rw [hE]
  have HW := Lib.hid hW1
  have HB0 : Hid (Below W1.heap.size W1 W1) := Below.refl _ _
  clear hW1 hm ht hA hRl hc0 hT hTl hC hE hcl
  go_enter Tryd.func13, Tryd.ntmps13
  go_upto_region 1 with fail
  rw [← HW.out]
  go_wp2_with fail
  refine (HQ.out _).mono ?_
  rintro e w2 ⟨rfl, b2⟩
  have B2 : Hid (Below W1.heap.size W1 w2) := HB0.out.trans (b2.mono HB0.out.size)
  clear b2
  go_wp2_with fail
  refine (HE.out _).mono ?_
  rintro e w3 ⟨rfl, b3⟩
  have B3 : Hid (Below W1.heap.size W1 w3) := B2.out.trans (b3.mono B2.out.size)
  clear b3
  go_wp2_with fail
  refine (HU.out _ (HM.out _ B3.out)).mono ?_
  rintro e w4 ⟨rfl, b4⟩
  have B4 : Hid (Below W1.heap.size W1 w4) := B3.out.trans (b4.mono B3.out.size)
  clear b4
  go_wp2_with fail
  refine (HCL.out _ (HM.out _ B4.out)).mono ?_
  rintro e w5 ⟨rfl, b5⟩
  have B5 : Hid (Below W1.heap.size W1 w5) := B4.out.trans (b5.mono B4.out.size)
  clear b5
  obtain ⟨⟨c0, c1, c2, c3, c4, c5, c6, c7, c8⟩, f0, f1, f2, f3, f4, f5, f6, f7, f8⟩ := nine (HT.out.at B5.out)
  go_wp2_with fail
  refine bodyPost_ret (v := .tuple #[tkV 4 ⟨#[]⟩ C false a E, .int .i64 (E : Int)]) ?_ rfl ?_
  · rw [results_cell_tmpR rfl]
    go_simp
    rfl
  · exact ⟨rfl, below_set9 (HT.out.up B5.out) _ _ _ _ _ _ _ _ _⟩

set_option maxHeartbeats 800000 in
set_option maxRecDepth 100000 in
theorem Bogus_c (s : ByteArray) (a : Nat) (m : Int) (w : World) (hs : s.size ≤ 300000) (hm : MaxOk m w) (hq : hasZ s bqF (a : Int) = false) (he : hasZ s beF (a : Int) = false) (hc : hasZ s bcF (a : Int) = true) :
    Calls Tryd.prog 13 #[.string s, .int .i64 (a : Int)] w fun e w' => e = .returned (.tuple #[tkV 4 ⟨#[]⟩ (bytesOf (cleanR (upL (s.data.toList.drop (a + 2)) [62]).1)) false a ((a + 2 + (upL (s.data.toList.drop (a + 2)) [62]).2.1 : Nat) : Int), .int .i64 ((a + 2 + (upL (s.data.toList.drop (a + 2)) [62]).2.1 : Nat) : Int)]) ∧ Below w.heap.size w w' := by
  obtain ⟨W1, hW1⟩ : ∃ W1, W1 = w.alloc (.cells #[.int .i64 0, .string ⟨#[]⟩, .string ⟨#[]⟩, .slice none 0 0, .bool false, .bool false, .bool false, .int .i64 0, .int .i64 0] 25) := ⟨_, rfl⟩
  have ht := tokW w W1 hW1
  have HT := Lib.hid ht
  have HM : Hid (∀ W, Below W1.heap.size W1 W → MaxOk m W) := fun W hb => hm.below (ht.up hb)
  have HQ := Lib.hid (fun W => stands_any s bqF (a : Int) W (by omega) (by decide) (by decide))
  rw [hq] at HQ
  unfold bqF at HQ
  have HE := Lib.hid (fun W => stands_any s beF (a : Int) W (by omega) (by decide) (by decide))
  rw [he] at HE
  unfold beF at HE
  have HC := Lib.hid (fun W => stands_any s bcF (a : Int) W (by omega) (by decide) (by decide))
  rw [hc] at HC
  unfold bcF at HC
  have hla : a + 2 ≤ s.size := hasZ_le hc (by decide)
  obtain ⟨A, hA⟩ : ∃ A, a + 2 = A := ⟨_, rfl⟩
  have i1 : (a : Int) + 2 = A := by omega
  have i2 : (A : Int) ≤ s.size := by omega
  obtain ⟨R, hR⟩ : ∃ R, s.extract A s.size = R := ⟨_, rfl⟩
  have hRl : R.data.toList = s.data.toList.drop A := by rw [← hR]; exact ext_tail s A
  have hRs : R.size ≤ 300000 := by rw [← hR]; simp; omega
  have HU := Lib.hid (fun W (hm : MaxOk m W) => upTo_any R ⟨#[62]⟩ m W (by omega) (by decide) (by decide) hm)
  rw [hRl, show (⟨#[62]⟩ : ByteArray).data.toList = [62] from rfl] at HU
  have hcl := upL_le (s.data.toList.drop A) [62]
  rw [drop_size] at hcl
  rw [hA]
  obtain ⟨c, hc0⟩ : ∃ c, upL (s.data.toList.drop A) [62] = c := ⟨_, rfl⟩
  obtain ⟨tx, n, en⟩ := c
  rw [hc0] at HU hcl ⊢
  simp only [] at HU hcl ⊢
  obtain ⟨T, hT⟩ : ∃ T, bytesOf tx = T := ⟨_, rfl⟩
  have hTl : T.data.toList = tx := by rw [← hT]; exact bytesOf_data _
  have hTs : T.size ≤ 300000 := by rw [← hT, bytesOf_size]; omega
  rw [hT] at HU
  have HCL := Lib.hid (fun W (hm : MaxOk m W) => clean_any T m W (by omega) hm)
  rw [hTl] at HCL
  obtain ⟨C, hC⟩ : ∃ C, bytesOf (cleanR tx) = C := ⟨_, rfl⟩
  rw [hC] at HCL ⊢
  obtain ⟨E, hE⟩ : ∃ E, A + n = E := ⟨_, rfl⟩
  have i3 : (A : Int) + n = E := by omega
  have i4 : (E : Int) ≤ 1000000 := by omega
  rw [hE]
  have HW := Lib.hid hW1
  have HB0 : Hid (Below W1.heap.size W1 W1) := Below.refl _ _
  clear hW1 hm ht hA hRl hc0 hT hTl hC hE hcl
  go_enter Tryd.func13, Tryd.ntmps13
  go_upto_region 1 with fail
  rw [← HW.out]
  go_wp2_with fail
  refine (HQ.out _).mono ?_
  rintro e w2 ⟨rfl, b2⟩
  have B2 : Hid (Below W1.heap.size W1 w2) := HB0.out.trans (b2.mono HB0.out.size)
  clear b2
  go_wp2_with fail
  refine (HE.out _).mono ?_
  rintro e w3 ⟨rfl, b3⟩
  have B3 : Hid (Below W1.heap.size W1 w3) := B2.out.trans (b3.mono B2.out.size)
  clear b3
  go_wp2_with fail
  refine (HC.out _).mono ?_
  rintro e w4 ⟨rfl, b4⟩
  have B4 : Hid (Below W1.heap.size W1 w4) := B3.out.trans (b4.mono B3.out.size)
  clear b4
  go_wp2_with fail
  refine (HU.out _ (HM.out _ B4.out)).mono ?_
  rintro e w5 ⟨rfl, b5⟩
  have B5 : Hid (Below W1.heap.size W1 w5) := B4.out.trans (b5.mono B4.out.size)
  clear b5
  go_wp2_with fail
  refine (HCL.out _ (HM.out _ B5.out)).mono ?_
  rintro e w6 ⟨rfl, b6⟩
  have B6 : Hid (Below W1.heap.size W1 w6) := B5.out.trans (b6.mono B5.out.size)
  clear b6
  obtain ⟨⟨c0, c1, c2, c3, c4, c5, c6, c7, c8⟩, f0, f1, f2, f3, f4, f5, f6, f7, f8⟩ := nine (HT.out.at B6.out)
  go_wp2_with fail
  refine bodyPost_ret (v := .tuple #[tkV 4 ⟨#[]⟩ C false a E, .int .i64 (E : Int)]) ?_ rfl ?_
  · rw [results_cell_tmpR rfl]
    go_simp
    rfl
  · exact ⟨rfl, below_set9 (HT.out.up B6.out) _ _ _ _ _ _ _ _ _⟩

theorem skip_cons {c : UInt8} {r : List UInt8} (h : blB c = true) : (c :: r).drop (skipN (c :: r)) = r.drop (skipN r) := by
  unfold skipN
  rw [List.takeWhile_cons, h]
  rfl
theorem skip_not {c : UInt8} {r : List UInt8} (h : blB c = false) : (c :: r).drop (skipN (c :: r)) = c :: r := by
  unfold skipN
  rw [List.takeWhile_cons, h]
  rfl
theorem toList_ne {u : ByteArray} (h : 0 < u.size) : (u.toList == []) = false := by
  rw [beq_eq_false_iff_ne, ByteArray.toList_eq]
  intro e
  have h2 := congrArg List.length e
  rw [List.length_nil, show u.data.toList.length = u.size from by simp] at h2
  omega
set_option maxHeartbeats 1600000 in
set_option maxRecDepth 100000 in
theorem skipB_any (s : ByteArray) (w : World) (hs : s.size ≤ 1000000) :
    Calls Tryd.prog 42 #[.string s] w fun e w' => e = .returned (.string (bytesOf (s.data.toList.drop (skipN s.data.toList)))) ∧ w = w' := by
  obtain ⟨Z, hZ⟩ : ∃ Z, s.data.toList.drop (skipN s.data.toList) = Z := ⟨_, rfl⟩
  rw [hZ]
  go_enter Tryd.func42, Tryd.ntmps42
  go_wp2_with fail
  go_loop [0] (fun v => ∃ u : ByteArray, v = .string u ∧ u.size ≤ 1000000 ∧ Hid (u.data.toList.drop (skipN u.data.toList) = Z)) (fun v => strSize v)
  case atStart => exact ⟨s, rfl, hs, hZ⟩
  case round =>
    obtain ⟨u, rfl, hu, HZ⟩ := hrel
    clear hZ
    by_cases h0 : 0 < u.size
    · have hne := toList_ne h0
      have h0i : (0 : Int) < u.size := by omega
      have h1i : (1 : Int) ≤ u.size := by omega
      obtain ⟨c, hc⟩ : ∃ c, u[0] = c := ⟨_, rfl⟩
      have hcons := toList_cons u h0
      rw [hc] at hcons
      have HB := Lib.hid (fun W => blank_any (c.toNat : Int) W)
      have hbl : blI (c.toNat : Int) = blB c := rfl
      rw [hbl] at HB
      have hne2 : (u.toList != []) = true := by unfold bne; rw [hne]; rfl
      obtain ⟨V, hV⟩ : ∃ V, u.extract 1 u.size = V := ⟨_, rfl⟩
      have hVl : V.data.toList = u.data.toList.drop 1 := by rw [← hV]; exact ext_tail u 1
      have hVs : V.size + 1 = u.size := by rw [← hV]; simp; omega
      cases hb : blB c with
      | true =>
        rw [hb] at HB
        have HS : Hid (V.data.toList.drop (skipN V.data.toList) = u.data.toList.drop (skipN u.data.toList)) := by
          show _ = _
          rw [hVl, hcons, skip_cons hb]
          rfl
        have HVs := Lib.hid hVs
        clear hb hcons hVl hbl hVs
        go_wp2_with fail
        refine (HB.out _).mono ?_
        rintro e w1 ⟨rfl, rfl⟩
        go_wp2_with fail
        go_round
        case rel => exact ⟨V, rfl, by have := HVs.out; omega, by have h1 := HS.out; have h2 := HZ.out; rw [h2] at h1; exact h1⟩
        case measure => simp [strSize]; have := HVs.out; omega
      | false =>
        rw [hb] at HB
        have HS : Hid (u = bytesOf Z) := by
          show _ = _
          apply ba_ext0
          rw [bytesOf_data, ← HZ.out, hcons, skip_not hb]
        clear hb hcons hVl hbl hVs
        go_wp2_with fail
        refine (HB.out _).mono ?_
        rintro e w1 ⟨rfl, rfl⟩
        go_wp2_with fail
        go_ret
        exact ⟨by rw [← HS.out]; rfl, rfl⟩
    · have hu0 : u.data.toList = [] := toList_nil (by omega)
      have hne : (u.toList == []) = true := by rw [ByteArray.toList_eq, hu0]; rfl
      have hne2 : (u.toList != []) = false := by unfold bne; rw [hne]; rfl
      have HS : Hid (u = bytesOf Z) := by
        show _ = _
        apply ba_ext0
        rw [bytesOf_data, ← HZ.out, hu0]
        rfl
      clear hu0 h0
      go_wp2_with fail
      go_ret
      exact ⟨by rw [← HS.out]; rfl, rfl⟩
/-- How many bytes are no blanks, at the front. -/
def nameN (l : List UInt8) : Nat := (l.takeWhile fun c => !blB c).length
theorem nameN_le (l : List UInt8) : nameN l ≤ l.length := by
  unfold nameN
  exact (List.takeWhile_prefix _).length_le
theorem nameN_take (l : List UInt8) : l.take (nameN l) = l.takeWhile fun c => !blB c := by
  unfold nameN
  exact (List.prefix_iff_eq_take.1 (List.takeWhile_prefix _)).symm
theorem nameN_step {l : List UInt8} {k : Nat} {c : UInt8} (h : l[k]? = some c) (hb : blB c = false) : nameN (l.drop k) = nameN (l.drop (k + 1)) + 1 := by
  have hl := (List.getElem?_eq_some_iff.1 h).1
  rw [List.drop_eq_getElem_cons hl, (List.getElem?_eq_some_iff.1 h).2]
  unfold nameN
  rw [List.takeWhile_cons, hb]
  rfl
theorem nameN_stop {l : List UInt8} {k : Nat} {c : UInt8} (h : l[k]? = some c) (hb : blB c = true) : nameN (l.drop k) = 0 := by
  have hl := (List.getElem?_eq_some_iff.1 h).1
  rw [List.drop_eq_getElem_cons hl, (List.getElem?_eq_some_iff.1 h).2]
  unfold nameN
  rw [List.takeWhile_cons, hb]
  rfl
set_option maxHeartbeats 1600000 in
set_option maxRecDepth 100000 in
theorem cutName_any (s : ByteArray) (w : World) (hs : s.size ≤ 1000000) :
    Calls Tryd.prog 41 #[.string s] w fun e w' => e = .returned (.tuple #[.string (bytesOf (s.data.toList.take (nameN s.data.toList))), .string (bytesOf (s.data.toList.drop (nameN s.data.toList)))]) ∧ Below w.heap.size w w' := by
  obtain ⟨Z, hZ⟩ : ∃ Z, nameN s.data.toList = Z := ⟨_, rfl⟩
  rw [hZ]
  have HZ0 : Hid (0 + nameN (s.data.toList.drop 0) = Z) := by show _ = _; rw [Nat.zero_add, List.drop_zero]; exact hZ
  clear hZ
  go_enter Tryd.func41, Tryd.ntmps41
  go_wp2_with fail
  go_loopw [7] (fun i wr => ∃ k : Nat, k ≤ s.size ∧ i = .int .i64 k ∧ Hid (k + nameN (s.data.toList.drop k) = Z) ∧ wr = w) (fun i _ => s.size - (intOf i).toNat)
  case atStart => exact ⟨0, Nat.zero_le _, rfl, HZ0, rfl⟩
  case round =>
    obtain ⟨k, hk, rfl, HZ, rfl⟩ := hrel
    by_cases hlt : k < s.size
    · have hki : (k : Int) < s.size := by omega
      have hg := at_get hlt
      obtain ⟨c, hc⟩ : ∃ c, s[k] = c := ⟨_, rfl⟩
      rw [hc] at hg
      have HB := Lib.hid (fun W => blank_any (c.toNat : Int) W)
      have hbl : blI (c.toNat : Int) = blB c := rfl
      rw [hbl] at HB
      cases hb : blB c with
      | true =>
        rw [hb] at HB
        have hst := nameN_stop hg hb
        have hZk : Z = k := by have := HZ.out; omega
        have HS : Hid ((.tuple #[.string (bytesOf (s.data.toList.take Z)), .string (bytesOf (s.data.toList.drop Z))] : Value) = .tuple #[.string (s.extract 0 k), .string (s.extract k s.size)]) := by
          show _ = _
          rw [hZk, take_ext]
          congr 3
          rw [show bytesOf (s.data.toList.drop k) = s.extract k s.size from ba_ext0 (by rw [bytesOf_data, ext_tail])]
        have i1 : (k : Int) ≤ s.size := by omega
        clear hb hst hbl hg hZk
        go_wp2_with fail
        refine (HB.out _).mono ?_
        rintro e w1 ⟨rfl, rfl⟩
        go_wp2_with fail
        go_region
        go_wp2_with fail
        go_ret2
        exact ⟨by rw [HS.out]; rfl, (Below.refl _ _).drew⟩
      | false =>
        rw [hb] at HB
        have HS := Lib.hid (nameN_step hg hb)
        clear hb hbl hg
        go_wp2_with fail
        refine (HB.out _).mono ?_
        rintro e w1 ⟨rfl, rfl⟩
        go_wp2_with fail
        go_roundw
        case rel => exact ⟨k + 1, by omega, by go_num, by have h1 := HZ.out; have h2 := HS.out; show _ = _; omega, trivial⟩
        case measure => simp [intOf]; omega
    · have hki : ¬ (k : Int) < s.size := by omega
      have hks : k = s.size := by omega
      have HS : Hid ((.tuple #[.string (bytesOf (s.data.toList.take Z)), .string (bytesOf (s.data.toList.drop Z))] : Value) = .tuple #[.string s, .string ⟨#[]⟩]) := by
        show _ = _
        have h1 := HZ.out
        rw [drop_over hlt] at h1
        have hZs : Z = s.size := by rw [← h1, hks]; rfl
        rw [hZs, List.take_of_length_le (by simp), List.drop_of_length_le (by simp), bytesOf_self]
        rfl
      clear hlt hks
      go_wp2_with fail
      go_ret2
      exact ⟨by rw [HS.out]; rfl, Below.refl _ _⟩

set_option maxHeartbeats 800000 in
set_option maxRecDepth 100000 in
theorem Doctype_no (s : ByteArray) (z m : Int) (w : World) (hs : s.size ≤ 300000) (hm : MaxOk m w) (h : hasZ s dtF z = false) :
    Calls Tryd.prog 15 #[.string s, .int .i64 z] w fun e w' => e = .returned (.tuple #[zTok, .int .i64 0]) ∧ Below w.heap.size w w' := by
  obtain ⟨W1, hW1⟩ : ∃ W1, W1 = w.alloc (.cells #[.int .i64 0, .string ⟨#[]⟩, .string ⟨#[]⟩, .slice none 0 0, .bool false, .bool false, .bool false, .int .i64 0, .int .i64 0] 25) := ⟨_, rfl⟩
  have ht := tokW w W1 hW1
  have HT := Lib.hid ht
  have HM : Hid (∀ W, Below W1.heap.size W1 W → MaxOk m W) := fun W hb => hm.below (ht.up hb)
  have HS := Lib.hid (fun W => stands_any s dtF z W (by omega) (by decide) (by decide))
  rw [h] at HS
  unfold dtF at HS
  have HW := Lib.hid hW1
  have HB0 : Hid (Below W1.heap.size W1 W1) := Below.refl _ _
  clear hW1 hm ht h
  go_enter Tryd.func15, Tryd.ntmps15
  go_upto_region 1 with fail
  rw [← HW.out]
  go_wp2_with fail
  refine (HS.out _).mono ?_
  rintro e w2 ⟨rfl, b2⟩
  have B2 : Hid (Below W1.heap.size W1 w2) := HB0.out.trans (b2.mono HB0.out.size)
  clear b2
  obtain ⟨⟨c0, c1, c2, c3, c4, c5, c6, c7, c8⟩, f0, f1, f2, f3, f4, f5, f6, f7, f8⟩ := nine (HT.out.at B2.out)
  go_wp2_with fail
  refine bodyPost_ret (v := .tuple #[zTok, .int .i64 0]) ?_ rfl ?_
  · rw [results_cell_tmpR rfl]
    go_simp
    rfl
  · exact ⟨rfl, below_set9 (HT.out.up B2.out) _ _ _ _ _ _ _ _ _⟩

set_option maxHeartbeats 800000 in
set_option maxRecDepth 100000 in
theorem Doctype_yes (s : ByteArray) (a : Nat) (m : Int) (w : World) (hs : s.size ≤ 300000) (hm : MaxOk m w) (h : hasZ s dtF (a : Int) = true) :
    Calls Tryd.prog 15 #[.string s, .int .i64 (a : Int)] w fun e w' => e = .returned (.tuple #[tkV 1 (bytesOf (docL (s.data.toList.drop (a + 9))).1) ⟨#[]⟩ (docL (s.data.toList.drop (a + 9))).2.1 a ((a + 9 + (docL (s.data.toList.drop (a + 9))).2.2 : Nat) : Int), .int .i64 ((a + 9 + (docL (s.data.toList.drop (a + 9))).2.2 : Nat) : Int)]) ∧ Below w.heap.size w w' := by
  obtain ⟨W1, hW1⟩ : ∃ W1, W1 = w.alloc (.cells #[.int .i64 0, .string ⟨#[]⟩, .string ⟨#[]⟩, .slice none 0 0, .bool false, .bool false, .bool false, .int .i64 0, .int .i64 0] 25) := ⟨_, rfl⟩
  have ht := tokW w W1 hW1
  have HT := Lib.hid ht
  have HM : Hid (∀ W, Below W1.heap.size W1 W → MaxOk m W) := fun W hb => hm.below (ht.up hb)
  have HS := Lib.hid (fun W => stands_any s dtF (a : Int) W (by omega) (by decide) (by decide))
  rw [h] at HS
  unfold dtF at HS
  have hla : a + 9 ≤ s.size := hasZ_le h (by decide)
  obtain ⟨A, hA⟩ : ∃ A, a + 9 = A := ⟨_, rfl⟩
  have i1 : (a : Int) + 9 = A := by omega
  have i2 : (A : Int) ≤ s.size := by omega
  obtain ⟨R, hR⟩ : ∃ R, s.extract A s.size = R := ⟨_, rfl⟩
  have hRl : R.data.toList = s.data.toList.drop A := by rw [← hR]; exact ext_tail s A
  have hRs : R.size ≤ 300000 := by rw [← hR]; simp; omega
  have HU := Lib.hid (fun W (hm : MaxOk m W) => upTo_any R ⟨#[62]⟩ m W (by omega) (by decide) (by decide) hm)
  rw [hRl, show (⟨#[62]⟩ : ByteArray).data.toList = [62] from rfl] at HU
  have hcl := upL_le (s.data.toList.drop A) [62]
  rw [drop_size] at hcl
  rw [hA]
  unfold docL
  obtain ⟨c, hc0⟩ : ∃ c, upL (s.data.toList.drop A) [62] = c := ⟨_, rfl⟩
  obtain ⟨tx, n, en⟩ := c
  rw [hc0] at HU hcl ⊢
  simp only [] at HU hcl ⊢
  obtain ⟨T, hT⟩ : ∃ T, bytesOf tx = T := ⟨_, rfl⟩
  have hTl : T.data.toList = tx := by rw [← hT]; exact bytesOf_data _
  have hTs : T.size ≤ 300000 := by rw [← hT, bytesOf_size]; omega
  rw [hT] at HU
  have HK := Lib.hid (fun W => skipB_any T W (by omega))
  rw [hTl] at HK
  obtain ⟨t1, ht1⟩ : ∃ t1, tx.drop (skipN tx) = t1 := ⟨_, rfl⟩
  have ht1l : t1.length ≤ tx.length := by rw [← ht1, List.length_drop]; omega
  rw [ht1] at HK ⊢
  obtain ⟨T1, hT1⟩ : ∃ T, bytesOf t1 = T := ⟨_, rfl⟩
  have hT1l : T1.data.toList = t1 := by rw [← hT1]; exact bytesOf_data _
  have hT1s : T1.size ≤ 300000 := by rw [← hT1, bytesOf_size]; omega
  rw [hT1] at HK
  have HN := Lib.hid (fun W => cutName_any T1 W (by omega))
  rw [hT1l] at HN
  rw [← nameN_take]
  have hnl := nameN_le t1
  rw [show (t1.take (nameN t1)).length = nameN t1 by rw [List.length_take]; omega]
  obtain ⟨nm, hnm⟩ : ∃ nm, t1.take (nameN t1) = nm := ⟨_, rfl⟩
  obtain ⟨rs, hrs⟩ : ∃ rs, t1.drop (nameN t1) = rs := ⟨_, rfl⟩
  have hnml : nm.length ≤ t1.length := by rw [← hnm, List.length_take]; omega
  have hrsl : rs.length ≤ t1.length := by rw [← hrs, List.length_drop]; omega
  rw [hnm, hrs] at HN ⊢
  obtain ⟨N, hN⟩ : ∃ T, bytesOf nm = T := ⟨_, rfl⟩
  have hNl : N.data.toList = nm := by rw [← hN]; exact bytesOf_data _
  have hNs : N.size ≤ 300000 := by rw [← hN, bytesOf_size]; omega
  obtain ⟨S, hS⟩ : ∃ T, bytesOf rs = T := ⟨_, rfl⟩
  have hSl : S.data.toList = rs := by rw [← hS]; exact bytesOf_data _
  have hSs : S.size ≤ 300000 := by rw [← hS, bytesOf_size]; omega
  rw [hN, hS] at HN
  have HCL := Lib.hid (fun W (hm : MaxOk m W) => clean_any N m W (by omega) hm)
  rw [hNl] at HCL
  have hcs := cleanR_len nm
  obtain ⟨C, hC⟩ : ∃ C, bytesOf (cleanR nm) = C := ⟨_, rfl⟩
  have hCl : C.data.toList = cleanR nm := by rw [← hC]; exact bytesOf_data _
  have hCs : C.size ≤ 900000 := by rw [← hC, bytesOf_size]; omega
  rw [hC] at HCL
  have HLW := Lib.hid (fun W => lower_any C W (by omega))
  rw [hCl] at HLW
  obtain ⟨L, hL⟩ : ∃ L : ByteArray, (⟨(lowL (cleanR nm)).toArray⟩ : ByteArray) = L := ⟨_, rfl⟩
  rw [show bytesOf (lowL (cleanR nm)) = L from hL]
  rw [hL] at HLW
  have HK2 := Lib.hid (fun W => skipB_any S W (by omega))
  rw [hSl] at HK2
  obtain ⟨t2, ht2⟩ : ∃ t2, rs.drop (skipN rs) = t2 := ⟨_, rfl⟩
  rw [ht2] at HK2 ⊢
  obtain ⟨T2, hT2⟩ : ∃ T, bytesOf t2 = T := ⟨_, rfl⟩
  have hT2l : T2.data.toList = t2 := by rw [← hT2]; exact bytesOf_data _
  rw [hT2] at HK2
  obtain ⟨E, hE⟩ : ∃ E, A + n = E := ⟨_, rfl⟩
  have i3 : (A : Int) + n = E := by omega
  have i4 : (E : Int) ≤ 1000000 := by omega
  rw [hE]
  have g1 : (N.toList == []) = (nm == []) := by rw [ByteArray.toList_eq, hNl]
  have g2 : (T2.toList == []) = (t2 == []) := by rw [ByteArray.toList_eq, hT2l]
  have g2' : (T2.toList != []) = !(t2 == []) := by unfold bne; rw [g2]
  obtain ⟨b1, hb1⟩ : ∃ b, (nm == []) = b := ⟨_, rfl⟩
  obtain ⟨b2, hb2⟩ : ∃ b, (t2 == []) = b := ⟨_, rfl⟩
  rw [hb1] at g1
  rw [hb2] at g2 g2'
  have g3 : T2.toList.isEmpty = b2 := by rw [ByteArray.toList_eq, hT2l, ← hb2]; cases t2 <;> rfl
  rw [hb1, hb2]
  have HW := Lib.hid hW1
  have HB0 : Hid (Below W1.heap.size W1 W1) := Below.refl _ _
  clear hW1 hm ht h hA hRl hc0 hT hTl ht1 ht1l hT1 hT1l hnl hnm hrs hnml hrsl hN hNl hS hSl hcs hC hCl hL ht2 hT2 hT2l hE hb1 hb2 hcl g2
  cases b1 with
  | true =>
    go_enter Tryd.func15, Tryd.ntmps15
    go_upto_region 1 with fail
    rw [← HW.out]
    go_wp2_with fail
    refine (HS.out _).mono ?_
    rintro e w2 ⟨rfl, b2⟩
    have B2 : Hid (Below W1.heap.size W1 w2) := HB0.out.trans (b2.mono HB0.out.size)
    clear b2
    go_wp2_with fail
    refine (HU.out _ (HM.out _ B2.out)).mono ?_
    rintro e w3 ⟨rfl, b3⟩
    have B3 : Hid (Below W1.heap.size W1 w3) := B2.out.trans (b3.mono B2.out.size)
    clear b3
    go_wp2_with fail
    refine (HK.out _).mono ?_
    rintro e w4 ⟨rfl, rfl⟩
    go_wp2_with fail
    refine (HN.out _).mono ?_
    rintro e w5 ⟨rfl, b5⟩
    have B5 : Hid (Below W1.heap.size W1 w5) := B3.out.trans (b5.mono B3.out.size)
    clear b5
    go_wp2_with fail
    refine (HCL.out _ (HM.out _ B5.out)).mono ?_
    rintro e w6 ⟨rfl, b6⟩
    have B6 : Hid (Below W1.heap.size W1 w6) := B5.out.trans (b6.mono B5.out.size)
    clear b6
    go_wp2_with fail
    refine (HLW.out _).mono ?_
    rintro e w7 ⟨rfl, b7⟩
    have B7 : Hid (Below W1.heap.size W1 w7) := B6.out.trans (b7.mono B6.out.size)
    clear b7
    obtain ⟨⟨c0, c1, c2, c3, c4, c5, c6, c7, c8⟩, f0, f1, f2, f3, f4, f5, f6, f7, f8⟩ := nine (HT.out.at B7.out)
    go_wp2_with fail
    refine bodyPost_ret (v := .tuple #[tkV 1 L ⟨#[]⟩ true a E, .int .i64 (E : Int)]) ?_ rfl ?_
    · rw [results_cell_tmpR rfl]
      go_simp
      rfl
    · exact ⟨rfl, below_set9 (HT.out.up B7.out) _ _ _ _ _ _ _ _ _⟩

  | false =>
    cases en with
    | false =>
      go_enter Tryd.func15, Tryd.ntmps15
      go_upto_region 1 with fail
      rw [← HW.out]
      go_wp2_with fail
      refine (HS.out _).mono ?_
      rintro e w2 ⟨rfl, b2⟩
      have B2 : Hid (Below W1.heap.size W1 w2) := HB0.out.trans (b2.mono HB0.out.size)
      clear b2
      go_wp2_with fail
      refine (HU.out _ (HM.out _ B2.out)).mono ?_
      rintro e w3 ⟨rfl, b3⟩
      have B3 : Hid (Below W1.heap.size W1 w3) := B2.out.trans (b3.mono B2.out.size)
      clear b3
      go_wp2_with fail
      refine (HK.out _).mono ?_
      rintro e w4 ⟨rfl, rfl⟩
      go_wp2_with fail
      refine (HN.out _).mono ?_
      rintro e w5 ⟨rfl, b5⟩
      have B5 : Hid (Below W1.heap.size W1 w5) := B3.out.trans (b5.mono B3.out.size)
      clear b5
      go_wp2_with fail
      refine (HCL.out _ (HM.out _ B5.out)).mono ?_
      rintro e w6 ⟨rfl, b6⟩
      have B6 : Hid (Below W1.heap.size W1 w6) := B5.out.trans (b6.mono B5.out.size)
      clear b6
      go_wp2_with fail
      refine (HLW.out _).mono ?_
      rintro e w7 ⟨rfl, b7⟩
      have B7 : Hid (Below W1.heap.size W1 w7) := B6.out.trans (b7.mono B6.out.size)
      clear b7
      obtain ⟨⟨c0, c1, c2, c3, c4, c5, c6, c7, c8⟩, f0, f1, f2, f3, f4, f5, f6, f7, f8⟩ := nine (HT.out.at B7.out)
      go_wp2_with fail
      refine bodyPost_ret (v := .tuple #[tkV 1 L ⟨#[]⟩ true a E, .int .i64 (E : Int)]) ?_ rfl ?_
      · rw [results_cell_tmpR rfl]
        go_simp
        rfl
      · exact ⟨rfl, below_set9 (HT.out.up B7.out) _ _ _ _ _ _ _ _ _⟩

    | true =>
      go_enter Tryd.func15, Tryd.ntmps15
      go_upto_region 1 with fail
      rw [← HW.out]
      go_wp2_with fail
      refine (HS.out _).mono ?_
      rintro e w2 ⟨rfl, b2⟩
      have B2 : Hid (Below W1.heap.size W1 w2) := HB0.out.trans (b2.mono HB0.out.size)
      clear b2
      go_wp2_with fail
      refine (HU.out _ (HM.out _ B2.out)).mono ?_
      rintro e w3 ⟨rfl, b3⟩
      have B3 : Hid (Below W1.heap.size W1 w3) := B2.out.trans (b3.mono B2.out.size)
      clear b3
      go_wp2_with fail
      refine (HK.out _).mono ?_
      rintro e w4 ⟨rfl, rfl⟩
      go_wp2_with fail
      refine (HN.out _).mono ?_
      rintro e w5 ⟨rfl, b5⟩
      have B5 : Hid (Below W1.heap.size W1 w5) := B3.out.trans (b5.mono B3.out.size)
      clear b5
      go_wp2_with fail
      refine (HCL.out _ (HM.out _ B5.out)).mono ?_
      rintro e w6 ⟨rfl, b6⟩
      have B6 : Hid (Below W1.heap.size W1 w6) := B5.out.trans (b6.mono B5.out.size)
      clear b6
      go_wp2_with fail
      refine (HLW.out _).mono ?_
      rintro e w7 ⟨rfl, b7⟩
      have B7 : Hid (Below W1.heap.size W1 w7) := B6.out.trans (b7.mono B6.out.size)
      clear b7
      go_wp2_with fail
      refine (HK2.out _).mono ?_
      rintro e w8 ⟨rfl, rfl⟩
      obtain ⟨⟨c0, c1, c2, c3, c4, c5, c6, c7, c8⟩, f0, f1, f2, f3, f4, f5, f6, f7, f8⟩ := nine (HT.out.at B7.out)
      go_wp2_with fail
      refine bodyPost_ret (v := .tuple #[tkV 1 L ⟨#[]⟩ (!b2) a E, .int .i64 (E : Int)]) ?_ rfl ?_
      · rw [results_cell_tmpR rfl]
        go_simp
        rfl
      · exact ⟨rfl, below_set9 (HT.out.up B7.out) _ _ _ _ _ _ _ _ _⟩


def cdF : ByteArray := ⟨#[60, 33, 91, 67, 68, 65, 84, 65, 91]⟩
theorem cdF_l : cdF.data.toList = [60, 33, 91, 67, 68, 65, 84, 65, 91] := rfl
set_option maxHeartbeats 1600000 in
theorem CData_no (s : ByteArray) (z : Int) (w : World) (hs : s.size ≤ 300000) (h : 0 ≤ z → cdF.data.toList.isPrefixOf (s.data.toList.drop z.toNat) = false) :
    Calls Tryd.prog 17 #[.string s, .int .i64 z] w fun e w' => e = .returned (.tuple #[.string ⟨#[]⟩, .int .i64 0]) ∧ w = w' := by
  by_cases h0 : z < 0
  · clear h
    go_enter Tryd.func17, Tryd.ntmps17
    go_wp2_with fail
    go_ret2
    exact ⟨rfl, rfl⟩
  · by_cases h1 : (s.size : Int) < z
    · clear h
      go_enter Tryd.func17, Tryd.ntmps17
      go_wp2_with fail
      go_ret2
      exact ⟨rfl, rfl⟩
    · obtain ⟨a, rfl⟩ : ∃ a : Nat, z = (a : Int) := ⟨z.toNat, by omega⟩
      have h2 := h (by omega)
      rw [Int.toNat_natCast] at h2
      obtain ⟨T, hT⟩ : ∃ T, s.extract a s.size = T := ⟨_, rfl⟩
      have hTl : T.data.toList = s.data.toList.drop a := by rw [← hT]; exact ext_tail s a
      have HP := Lib.hid (fun W => hp_any T cdF W)
      rw [hTl, h2] at HP
      unfold cdF at HP
      have i1 : (a : Int) ≤ s.size := by omega
      clear h h2 hTl
      go_enter Tryd.func17, Tryd.ntmps17
      go_wp2_with fail
      refine (HP.out _).mono ?_
      rintro e w1 ⟨rfl, rfl⟩
      go_wp2_with fail
      go_ret2
      exact ⟨rfl, rfl⟩
set_option maxHeartbeats 1600000 in
theorem CData_yes (s : ByteArray) (a : Nat) (m : Int) (w : World) (hs : s.size ≤ 300000) (hm : MaxOk m w) (h : cdF.data.toList.isPrefixOf (s.data.toList.drop a) = true) :
    Calls Tryd.prog 17 #[.string s, .int .i64 (a : Int)] w fun e w' => e = .returned (.tuple #[.string (bytesOf (upL (s.data.toList.drop (a + 9)) [93, 93, 62]).1), .int .i64 ((a + 9 + (upL (s.data.toList.drop (a + 9)) [93, 93, 62]).2.1 : Nat) : Int)]) ∧ Below w.heap.size w w' := by
  have hla : a + 9 ≤ s.size := by
    have := (List.isPrefixOf_iff_prefix.1 h).length_le
    rw [drop_size] at this
    have e : cdF.data.toList.length = 9 := rfl
    omega
  obtain ⟨T, hT⟩ : ∃ T, s.extract a s.size = T := ⟨_, rfl⟩
  have hTl : T.data.toList = s.data.toList.drop a := by rw [← hT]; exact ext_tail s a
  have HP := Lib.hid (fun W => hp_any T cdF W)
  rw [hTl, h] at HP
  unfold cdF at HP
  obtain ⟨A, hA⟩ : ∃ A, a + 9 = A := ⟨_, rfl⟩
  have i0 : (a : Int) ≤ s.size := by omega
  have i1 : (a : Int) + 9 = A := by omega
  have i2 : (A : Int) ≤ s.size := by omega
  obtain ⟨R, hR⟩ : ∃ R, s.extract A s.size = R := ⟨_, rfl⟩
  have hRl : R.data.toList = s.data.toList.drop A := by rw [← hR]; exact ext_tail s A
  have hRs : R.size ≤ 300000 := by rw [← hR]; simp; omega
  have HU := Lib.hid (fun W (hm : MaxOk m W) => upTo_any R ⟨#[93, 93, 62]⟩ m W (by omega) (by decide) (by decide) hm)
  rw [hRl, show (⟨#[93, 93, 62]⟩ : ByteArray).data.toList = [93, 93, 62] from rfl] at HU
  have hcl := upL_le (s.data.toList.drop A) [93, 93, 62]
  rw [drop_size] at hcl
  rw [hA]
  obtain ⟨c, hc0⟩ : ∃ c, upL (s.data.toList.drop A) [93, 93, 62] = c := ⟨_, rfl⟩
  obtain ⟨tx, n, en⟩ := c
  rw [hc0] at HU hcl ⊢
  simp only [] at HU hcl ⊢
  obtain ⟨T2, hT2⟩ : ∃ T, bytesOf tx = T := ⟨_, rfl⟩
  rw [hT2] at HU ⊢
  obtain ⟨E, hE⟩ : ∃ E, A + n = E := ⟨_, rfl⟩
  have i3 : (A : Int) + n = E := by omega
  have i4 : (E : Int) ≤ 1000000 := by omega
  rw [hE]
  have HM := Lib.hid hm
  clear hm h hTl hA hRl hc0 hT2 hE hcl
  go_enter Tryd.func17, Tryd.ntmps17
  go_wp2_with fail
  refine (HP.out _).mono ?_
  rintro e w1 ⟨rfl, rfl⟩
  go_wp2_with fail
  refine (HU.out _ HM.out).mono ?_
  rintro e w2 ⟨rfl, b2⟩
  have B2 : Hid (Below w.heap.size w w2) := b2
  clear b2
  go_wp2_with fail
  go_ret2
  exact ⟨rfl, B2.out⟩
end Go.Proofs.YtbpdmbmooboimaaDoor.R11
