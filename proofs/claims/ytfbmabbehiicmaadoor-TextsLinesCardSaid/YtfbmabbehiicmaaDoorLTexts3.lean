/- The law TextsLines. -/
import Derived.Test.YtfbmabbehiicmaaDoorUtf9
import Derived.Test.YtfbmabbehiicmaaDoorLin2
import Derived.Test.YtfbmabbehiicmaaDoorArgs2
set_option linter.unusedVariables false
namespace Go.Proofs.YtfbmabbehiicmaaDoor
open Go.RowKit

theorem keep_iff (c : UInt8) : keepB c = (((c.toNat : Int) != 10) && ((c.toNat : Int) != 13)) := by
  unfold keepB
  rw [Bool.eq_iff_iff]
  simp
  rw [← UInt8.toNat_inj, ← UInt8.toNat_inj]
  constructor
  · rintro ⟨a, b⟩
    exact ⟨fun e => a (by show c.toNat = 10; omega), fun e => b (by show c.toNat = 13; omega)⟩
  · rintro ⟨a, b⟩
    exact ⟨fun e => a (by have : c.toNat = 10 := e; omega), fun e => b (by have : c.toNat = 13 := e; omega)⟩
/-- One byte more of a text that is filtered. -/
theorem filt_yes {z T : ByteArray} {j : Nat} (hj : j < z.size) (h : T.data.toList = (z.data.toList.take j).filter keepB) (hk : keepB z[j] = true) : (T ++ z.extract j (j + 1)).data.toList = (z.data.toList.take (j + 1)).filter keepB := by
  rw [add_atU _ _ _ hj, h, take_snoc z j hj, List.filter_append]
  simp [hk]
theorem filt_no {z T : ByteArray} {j : Nat} (hj : j < z.size) (h : T.data.toList = (z.data.toList.take j).filter keepB) (hk : keepB z[j] = false) : T.data.toList = (z.data.toList.take (j + 1)).filter keepB := by
  rw [h, take_snoc z j hj, List.filter_append]
  simp [hk]

set_option maxHeartbeats 8000000 in
set_option maxRecDepth 100000 in
theorem textsLines_law (lv : Value) (zs : List ByteArray) (ev : Value) (es : List Int) (m : Int) (w : World) (hz : SliceIn w lv (zs.map Value.string)) (hzs : ∀ z ∈ zs, z.size ≤ maxLen) (he : SliceIn w ev (es.map (Value.int .u8))) (hes : ∀ z ∈ es, 0 ≤ z ∧ z ≤ 255) (hm : MaxOk m w) (hl : LTab w) :
    Calls Tryd.prog 6 #[lv, ev] w fun e w' => e = .returned (.bool true) ∧ Below w.heap.size w w' := by
  have HM := Lib.hid hm
  have HL := Lib.hid hl
  clear hm hl
  have HZ := Lib.hid hz
  have HZS := Lib.hid hzs
  have HE := Lib.hid he
  have HES := Lib.hid hes
  clear hzs hes
  obtain ⟨la, lc, hlv⟩ : ∃ la lc, lv = .slice la zs.length lc := by
    obtain ⟨ao, cap, hv, _⟩ := hz
    exact ⟨ao, cap, by simpa using hv⟩
  obtain ⟨ea, ec, hev⟩ : ∃ la lc, ev = .slice la es.length lc := by
    obtain ⟨ao, cap, hv, _⟩ := he
    exact ⟨ao, cap, by simpa using hv⟩
  have hzl : zs.length ≤ 9223372036854775807 := by
    obtain ⟨ao, cap, hv, h1, h2, _⟩ := hz
    unfold maxLen at h2
    simp at h1
    omega
  clear hz he
  subst hlv hev
  go_enter Tryd.func6, Tryd.ntmps6
  go_wp2_with fail
  go_loop [5, 6, 7] (fun a p i => ∃ (k : Nat) (S W : ByteArray), k ≤ zs.length ∧ i = .int .i64 k ∧ a = .string S ∧ p = .string W ∧ W.size ≤ 2001 ∧ S.size ≤ 2 * W.size ∧ Hid (LineSt S.data.toList W.data.toList)) (fun _ _ i => zs.length - (intOf i).toNat)
  case atStart => exact ⟨0, ⟨#[]⟩, ⟨#[]⟩, Nat.zero_le _, rfl, rfl, rfl, Nat.zero_le _, Nat.le_refl _, LineSt.start⟩
  case round =>
    obtain ⟨k, S, W, hk, rfl, rfl, rfl, hW, hSW, HU⟩ := hrel
    by_cases hlt : k < zs.length
    · by_cases h30 : 30 ≤ k
      · go_wp2_with fail
        refine (tshown_any m _ HM.out HL.out).mono ?_
        rintro e w1 ⟨rfl, b1⟩
        go_wp2_with fail
        go_ret
        exact ⟨rfl, b1⟩
      · obtain ⟨b, off, cap, hv, hbl, hcell0⟩ := HZ.out.at (i := k) (by simpa using hlt)
        obtain ⟨rfl, rfl⟩ : la = some ⟨b, off, none⟩ ∧ lc = cap := by
          injection hv with a1 a2 a3
          exact ⟨a1, a3⟩
        clear hv
        have hsz := HZS.out zs[k] (List.getElem_mem hlt)
        unfold maxLen at hsz
        have hcell : w.cell? ⟨b, off + k, none⟩ = some (.string zs[k]) := by simpa using hcell0
        clear hcell0
        generalize zs[k] = z at *
        by_cases hbig : 2000 - (W.size : Int) < (z.size : Int)
        · go_wp2_with fail
          refine (tshown_any m _ HM.out HL.out).mono ?_
          rintro e w1 ⟨rfl, b1⟩
          go_wp2_with fail
          go_ret
          exact ⟨rfl, b1⟩
        · have hz20 : z.size ≤ 2000 := by omega
          go_wp2_with fail
          go_loop [8, 9] (fun t i => ∃ (j : Nat) (T : ByteArray), j ≤ z.size ∧ i = .int .i64 j ∧ t = .string T ∧ T.size ≤ j ∧ Hid (T.data.toList = (z.data.toList.take j).filter keepB)) (fun _ i => z.size - (intOf i).toNat)
          case atStart => exact ⟨0, ⟨#[]⟩, Nat.zero_le _, rfl, rfl, Nat.le_refl _, rfl⟩
          case round =>
            obtain ⟨j, T, hj, rfl, rfl, hT, HT⟩ := hrel
            by_cases hjl : j < z.size
            · have hz1 := Lib.hid (u_size hjl)
              cases hn10 : ((z[j].toNat : Int) != 10) with
              | false =>
                have HG := Lib.hid (filt_no hjl HT.out (by rw [keep_iff, hn10]; rfl))
                go_wp2_with fail
                go_round
                case rel => exact ⟨j + 1, T, by omega, by go_num, rfl, by omega, HG.out⟩
                case measure => simp [intOf]; omega
              | true =>
                cases hn13 : ((z[j].toNat : Int) != 13) with
                | false =>
                  have HG := Lib.hid (filt_no hjl HT.out (by rw [keep_iff, hn10, hn13]; rfl))
                  go_wp2_with fail
                  go_round
                  case rel => exact ⟨j + 1, T, by omega, by go_num, rfl, by omega, HG.out⟩
                  case measure => simp [intOf]; omega
                | true =>
                  have HG := Lib.hid (filt_yes hjl HT.out (by rw [keep_iff, hn10, hn13]; rfl))
                  go_wp2_with fail
                  go_round
                  case rel => exact ⟨j + 1, _, by omega, by go_num, rfl, by rw [ByteArray.size_append, hz1.out]; omega, HG.out⟩
                  case measure => simp [intOf]; omega
            · have hkeep : Hid (∀ c ∈ T.data.toList, keepB c = true) := by
                show ∀ c ∈ T.data.toList, keepB c = true
                rw [HT.out]
                exact filter_keep _
              clear HT
              have hTs : T.size ≤ z.size := by omega
              have hsum : T.size ≤ 2000 - W.size := by omega
              have hWT : (W ++ T ++ ⟨#[10]⟩).size = W.size + T.size + 1 := by
                rw [ByteArray.size_append, ByteArray.size_append]; rfl
              have FIN : Hid (∀ E : ByteArray, (E = ⟨#[13, 10]⟩ ∨ E = ⟨#[13]⟩ ∨ (E = ⟨#[10]⟩ ∧ (T.data.toList = [] → lastCR false S.data.toList = false))) → (W ++ T ++ ⟨#[10]⟩).size ≤ 2001 ∧ (S ++ T ++ E).size ≤ 2 * (W ++ T ++ ⟨#[10]⟩).size ∧ LineSt (S ++ T ++ E).data.toList (W ++ T ++ ⟨#[10]⟩).data.toList) := by
                intro E hE
                have hEs : E.size ≤ 2 := by rcases hE with rfl | rfl | ⟨rfl, _⟩ <;> decide
                refine ⟨by omega, by rw [hWT, ByteArray.size_append, ByteArray.size_append]; omega, ?_⟩
                rw [app_dataU, app_dataU, app_dataU, app_dataU]
                refine HU.out.add hkeep.out ?_
                rcases hE with rfl | rfl | ⟨rfl, h⟩
                · exact .inl rfl
                · exact .inr (.inl rfl)
                · exact .inr (.inr ⟨rfl, h⟩)
              have HWT := Lib.hid hWT
              clear hWT
              have hends : (¬ k < es.length) ∨ (k < es.length ∧ ∃ (eb eo : Nat) (g : Int), ea = some ⟨eb, eo, none⟩ ∧ w.cell? ⟨eb, eo + k, none⟩ = some (.int .u8 g) ∧ 0 ≤ g ∧ g ≤ 255) := by
                by_cases h : k < es.length
                · refine .inr ⟨h, ?_⟩
                  obtain ⟨eb, eo, ecc, ge, _, gcell⟩ := HE.out.at (i := k) (by simpa using h)
                  have hg := HES.out es[k] (List.getElem_mem h)
                  exact ⟨eb, eo, es[k], by injection ge with a1 a2 a3, by simpa using gcell, hg.1, hg.2⟩
                · exact .inl h
              by_cases hT0 : T.data.toList = []
              · have hTe : T.toList = [] := by rw [ByteArray.toList_eq, hT0]
                have hTe2 : T.toList.isEmpty = true := by rw [hTe]; rfl
                have hTe3 : (!T.toList.isEmpty) = false := by rw [hTe2]; rfl
                have HT0 := Lib.hid hT0
                clear hT0
                have hS : (S.size = 0 ∧ Hid (lastCR false S.data.toList = false)) ∨ (∃ (hpos : 0 < S.size), (S[S.size - 1].toNat : Int) = 13) ∨ (∃ (hpos : 0 < S.size), ¬ (S[S.size - 1].toNat : Int) = 13 ∧ Hid (lastCR false S.data.toList = false)) := by
                  by_cases h0 : S.size = 0
                  · refine .inl ⟨h0, ?_⟩
                    show lastCR false S.data.toList = false
                    rw [toList_nil h0]; rfl
                  · have hpos : 0 < S.size := by omega
                    by_cases h13 : (S[S.size - 1].toNat : Int) = 13
                    · exact .inr (.inl ⟨hpos, h13⟩)
                    · refine .inr (.inr ⟨hpos, h13, ?_⟩)
                      show lastCR false S.data.toList = false
                      rw [toList_snoc S hpos, lastCR_snoc, beq_eq_false_iff_ne]
                      intro e
                      rw [e] at h13
                      exact h13 rfl
                rcases hS with ⟨hs1, hs2⟩ | ⟨hpos, hs1⟩ | ⟨hpos, hs1, hs2⟩
                · have hs3 : ¬ 0 < S.size := by omega
                  clear hs1
                  rcases hends with hke | ⟨hke, eb, eo, g, rfl, hec, hg0, hg1⟩
                  · go_wp2_with fail
                    all_goals
                      go_round
                      case rel => first
                        | exact ⟨k + 1, _, _, by omega, by go_num, rfl, rfl, (FIN.out _ (.inl rfl)).1, (FIN.out _ (.inl rfl)).2.1, (FIN.out _ (.inl rfl)).2.2⟩
                        | exact ⟨k + 1, _, _, by omega, by go_num, rfl, rfl, (FIN.out _ (.inr (.inr ⟨rfl, fun _ => hs2.out⟩))).1, (FIN.out _ (.inr (.inr ⟨rfl, fun _ => hs2.out⟩))).2.1, (FIN.out _ (.inr (.inr ⟨rfl, fun _ => hs2.out⟩))).2.2⟩
                      case measure => simp [intOf]; omega
                  · go_wp2_with fail
                    all_goals
                      go_round
                      case rel => first
                        | exact ⟨k + 1, _, _, by omega, by go_num, rfl, rfl, (FIN.out _ (.inl rfl)).1, (FIN.out _ (.inl rfl)).2.1, (FIN.out _ (.inl rfl)).2.2⟩
                        | exact ⟨k + 1, _, _, by omega, by go_num, rfl, rfl, (FIN.out _ (.inr (.inr ⟨rfl, fun _ => hs2.out⟩))).1, (FIN.out _ (.inr (.inr ⟨rfl, fun _ => hs2.out⟩))).2.1, (FIN.out _ (.inr (.inr ⟨rfl, fun _ => hs2.out⟩))).2.2⟩
                      case measure => simp [intOf]; omega
                · have hp1 : (1 : Int) ≤ (S.size : Int) := by omega
                  have hs4 : ((S[S.size - 1].toNat : Int) == 13) = true := by rw [hs1]; rfl
                  clear hs1
                  rcases hends with hke | ⟨hke, eb, eo, g, rfl, hec, hg0, hg1⟩
                  · go_wp2_with fail
                    all_goals
                      go_round
                      case rel => exact ⟨k + 1, _, _, by omega, by go_num, rfl, rfl, (FIN.out _ (.inl rfl)).1, (FIN.out _ (.inl rfl)).2.1, (FIN.out _ (.inl rfl)).2.2⟩
                      case measure => simp [intOf]; omega
                  · go_wp2_with fail
                    all_goals
                      go_round
                      case rel => exact ⟨k + 1, _, _, by omega, by go_num, rfl, rfl, (FIN.out _ (.inl rfl)).1, (FIN.out _ (.inl rfl)).2.1, (FIN.out _ (.inl rfl)).2.2⟩
                      case measure => simp [intOf]; omega
                · have hp1 : (1 : Int) ≤ (S.size : Int) := by omega
                  have hs4 : ((S[S.size - 1].toNat : Int) == 13) = false := by rw [beq_eq_false_iff_ne]; exact hs1
                  clear hs1
                  rcases hends with hke | ⟨hke, eb, eo, g, rfl, hec, hg0, hg1⟩
                  · go_wp2_with fail
                    all_goals
                      go_round
                      case rel => first
                        | exact ⟨k + 1, _, _, by omega, by go_num, rfl, rfl, (FIN.out _ (.inl rfl)).1, (FIN.out _ (.inl rfl)).2.1, (FIN.out _ (.inl rfl)).2.2⟩
                        | exact ⟨k + 1, _, _, by omega, by go_num, rfl, rfl, (FIN.out _ (.inr (.inr ⟨rfl, fun _ => hs2.out⟩))).1, (FIN.out _ (.inr (.inr ⟨rfl, fun _ => hs2.out⟩))).2.1, (FIN.out _ (.inr (.inr ⟨rfl, fun _ => hs2.out⟩))).2.2⟩
                      case measure => simp [intOf]; omega
                  · go_wp2_with fail
                    all_goals
                      go_round
                      case rel => first
                        | exact ⟨k + 1, _, _, by omega, by go_num, rfl, rfl, (FIN.out _ (.inl rfl)).1, (FIN.out _ (.inl rfl)).2.1, (FIN.out _ (.inl rfl)).2.2⟩
                        | exact ⟨k + 1, _, _, by omega, by go_num, rfl, rfl, (FIN.out _ (.inr (.inr ⟨rfl, fun _ => hs2.out⟩))).1, (FIN.out _ (.inr (.inr ⟨rfl, fun _ => hs2.out⟩))).2.1, (FIN.out _ (.inr (.inr ⟨rfl, fun _ => hs2.out⟩))).2.2⟩
                      case measure => simp [intOf]; omega
              · have hTe : T.toList.isEmpty = false := by
                  rw [ByteArray.toList_eq]
                  cases h : T.data.toList with
                  | nil => exact absurd h hT0
                  | cons a b => rfl
                have hTe2 : (!T.toList.isEmpty) = true := by rw [hTe]; rfl
                have HN : Hid (T.data.toList = [] → lastCR false S.data.toList = false) := fun h => absurd h hT0
                clear hT0
                rcases hends with hke | ⟨hke, eb, eo, g, rfl, hec, hg0, hg1⟩
                · go_wp2_with fail
                  all_goals
                    go_round
                    case rel => exact ⟨k + 1, _, _, by omega, by go_num, rfl, rfl, (FIN.out _ (.inr (.inr ⟨rfl, HN.out⟩))).1, (FIN.out _ (.inr (.inr ⟨rfl, HN.out⟩))).2.1, (FIN.out _ (.inr (.inr ⟨rfl, HN.out⟩))).2.2⟩
                    case measure => simp [intOf]; omega
                · go_wp2_with fail
                  all_goals
                    go_round
                    case rel => first
                      | exact ⟨k + 1, _, _, by omega, by go_num, rfl, rfl, (FIN.out _ (.inl rfl)).1, (FIN.out _ (.inl rfl)).2.1, (FIN.out _ (.inl rfl)).2.2⟩
                      | exact ⟨k + 1, _, _, by omega, by go_num, rfl, rfl, (FIN.out _ (.inr (.inl rfl))).1, (FIN.out _ (.inr (.inl rfl))).2.1, (FIN.out _ (.inr (.inl rfl))).2.2⟩
                      | exact ⟨k + 1, _, _, by omega, by go_num, rfl, rfl, (FIN.out _ (.inr (.inr ⟨rfl, HN.out⟩))).1, (FIN.out _ (.inr (.inr ⟨rfl, HN.out⟩))).2.1, (FIN.out _ (.inr (.inr ⟨rfl, HN.out⟩))).2.2⟩
                    case measure => simp [intOf]; omega
    · have hR1 : Hid ((⟨(linesU false S.data.toList).toArray⟩ : ByteArray) = W) := by
        show (⟨(linesU false S.data.toList).toArray⟩ : ByteArray) = W
        rw [HU.out.1]
      have hR2 : Hid ((⟨(linesU false W.data.toList).toArray⟩ : ByteArray) = W) := by
        show (⟨(linesU false W.data.toList).toArray⟩ : ByteArray) = W
        rw [linesU_self _ HU.out.2.1]
      go_wp2_with fail
      refine (tlines_any S m _ (by omega) HM.out).mono ?_
      rintro e w1 ⟨rfl, b1⟩
      rw [hR1.out]
      go_wp2_with fail
      refine (tlines_any W m _ (by omega) (HM.out.below b1)).mono ?_
      rintro e w2 ⟨rfl, b2⟩
      rw [hR2.out]
      have c2 := b1.trans (b2.mono b1.size)
      go_wp2_with fail
      refine (tshown_any m _ (HM.out.below c2) (HL.out.below c2)).mono ?_
      rintro e w3 ⟨rfl, b3⟩
      go_wp2_with fail
      go_ret
      exact ⟨rfl, c2.trans (b3.mono c2.size)⟩
end Go.Proofs.YtfbmabbehiicmaaDoor
