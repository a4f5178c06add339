/- The law RefsNames. -/
import Derived.Test.YtnlhhjokaekdhaaDoorNms2
set_option linter.unusedVariables false
set_option linter.unusedSimpArgs false
namespace Go.Proofs.YtnlhhjokaekdhaaDoor.R9
open Go.RowKit

theorem namesC_at : ∀ (t : List (List UInt8 × List UInt8 × Bool)) (i : Nat) (h : i < t.length), (namesC t)[i * 3]? = some (.string ⟨t[i].1.toArray⟩) ∧ (namesC t)[i * 3 + 1]? = some (.string ⟨t[i].2.1.toArray⟩) ∧ (namesC t)[i * 3 + 2]? = some (.bool t[i].2.2)
  | [], i, h => by cases h
  | x :: r, 0, h => ⟨rfl, rfl, rfl⟩
  | x :: r, i + 1, h => by
    have h' : i < r.length := by simpa using h
    obtain ⟨a, b, c⟩ := namesC_at r i h'
    have e : namesC (x :: r) = [.string ⟨x.1.toArray⟩, .string ⟨x.2.1.toArray⟩, .bool x.2.2] ++ namesC r := rfl
    rw [e]
    have f : ∀ j, ([Value.string ⟨x.1.toArray⟩, .string ⟨x.2.1.toArray⟩, .bool x.2.2] ++ namesC r)[3 + j]? = (namesC r)[j]? := fun j => by rw [List.getElem?_append_right (by simp)]; simp
    rw [show (i + 1) * 3 = 3 + i * 3 by omega, show 3 + i * 3 + 1 = 3 + (i * 3 + 1) by omega, show 3 + i * 3 + 2 = 3 + (i * 3 + 2) by omega, f, f, f]
    exact ⟨a, b, c⟩

set_option maxHeartbeats 3200000 in
set_option maxRecDepth 100000 in
theorem refsNames_law (ahead behind : ByteArray) (x2 : Int) (w : World) (hT : RTab w) (hx : 0 ≤ x2 ∧ x2 ≤ 255) :
    Calls Tryd.prog 10 #[.string ahead, .string behind, .int .u8 x2] w fun e w' => e = .returned (.bool true) ∧ Below w.heap.size w w' := by
  have HRE := Lib.hid (fun W hW => refers_any W hW)
  have HT := Lib.hid hT
  clear hT
  by_cases hl1 : (500 : Int) < ahead.size
  · go_enter Tryd.func10, Tryd.ntmps10
    go_wp2_with fail
    refine (HRE.out _ HT.out).mono ?_
    rintro e w' ⟨rfl, rfl⟩
    go_wp2_with fail
    go_ret
    exact ⟨by exact rfl, Below.refl _ _⟩
  · by_cases hl2 : (500 : Int) < behind.size
    · go_enter Tryd.func10, Tryd.ntmps10
      go_wp2_with fail
      refine (HRE.out _ HT.out).mono ?_
      rintro e w' ⟨rfl, rfl⟩
      go_wp2_with fail
      go_ret
      exact ⟨by exact rfl, Below.refl _ _⟩
    · obtain ⟨hx0, hx1⟩ := hx
      obtain ⟨i, hi⟩ : ∃ i : Nat, x2 % 52 = (i : Int) := ⟨(x2 % 52).toNat, by omega⟩
      have hi52 : i < namesT.length := by show i < 52; omega
      obtain ⟨a0, a1, a2⟩ := namesC_at namesT i hi52
      obtain ⟨⟨h2, h7⟩, hcl, hch, htx, hlo⟩ := names_all _ (List.getElem_mem hi52)
      have h35 := names_35 _ (List.getElem_mem hi52)
      generalize namesT[i] = x at a0 a1 a2 h2 h7 hcl hch htx hlo h35
      obtain ⟨nm, tx, lo⟩ := x
      simp only at a0 a1 a2 h2 h7 hcl hch htx hlo h35
      obtain ⟨NM, hNM⟩ : ∃ NM : ByteArray, (⟨nm.toArray⟩ : ByteArray) = NM := ⟨_, rfl⟩
      obtain ⟨TX, hTX⟩ : ∃ TX : ByteArray, (⟨tx.toArray⟩ : ByteArray) = TX := ⟨_, rfl⟩
      rw [hNM] at a0
      rw [hTX] at a1
      have HNM : Hid (NM.data.toList = nm) := by show _ = _; rw [← hNM]
      have HTX : Hid (Utf8.encode (chOf nm) = TX) := by show _ = _; rw [← hTX, ← htx]
      have hns : NM.size = nm.length := by
        rw [← HNM.out]
        simp
      have hns7 : NM.size ≤ 7 := by omega
      have hi0 : (0 : Int) ≤ i := by omega
      have hi2 : (i : Int) < 52 := by omega
      have HA0 := Lib.hid a0
      have HA1 := Lib.hid a1
      have HA2 := Lib.hid a2
      clear a0 a1 a2 hNM hTX htx hi52
      go_enter Tryd.func10, Tryd.ntmps10
      go_wp2_with fail
      refine (names_any _).mono ?_
      rintro e w1 ⟨rfl, hw1⟩
      have c0 : w1.cell? ⟨w.heap.size, i * 3, none⟩ = some (.string NM) := by rw [hw1, Lib.cell_of_heap (heap_alloc_new w _), List.getElem?_toArray]; exact HA0.out
      have c1 : w1.cell? ⟨w.heap.size, i * 3 + 1, none⟩ = some (.string TX) := by rw [hw1, Lib.cell_of_heap (heap_alloc_new w _), List.getElem?_toArray]; exact HA1.out
      have c2 : w1.cell? ⟨w.heap.size, i * 3 + 2, none⟩ = some (.bool lo) := by rw [hw1, Lib.cell_of_heap (heap_alloc_new w _), List.getElem?_toArray]; exact HA2.out
      have B1 : Hid (Below w.heap.size w w1) := by rw [hw1]; exact (Below.refl _ w).alloc (Nat.le_refl _) _
      clear hw1
      go_wp2_with fail
      obtain ⟨w2, hw2⟩ : ∃ w2, w1.alloc (.cells #[.string NM, .string TX, .bool lo] 35) = w2 := ⟨_, rfl⟩
      have d0 : w2.cell? ⟨w1.heap.size, 0, none⟩ = some (.string NM) := by rw [← hw2, Lib.cell_of_heap (heap_alloc_new w1 _)]; rfl
      have d1 : w2.cell? ⟨w1.heap.size, 1, none⟩ = some (.string TX) := by rw [← hw2, Lib.cell_of_heap (heap_alloc_new w1 _)]; rfl
      have d2 : w2.cell? ⟨w1.heap.size, 2, none⟩ = some (.bool lo) := by rw [← hw2, Lib.cell_of_heap (heap_alloc_new w1 _)]; rfl
      have B2 : Hid (Below w.heap.size w w2) := by rw [← hw2]; exact B1.out.alloc B1.out.size _
      have HT2 : Hid (RTab w2) := HT.out.below B2.out
      obtain ⟨A, hA⟩ : ∃ A : ByteArray, ahead ++ ⟨#[38]⟩ ++ NM = A := ⟨_, rfl⟩
      have hAs : A.size = ahead.size + 1 + nm.length := by rw [← hA, ← hns]; simp [ByteArray.size_append]; rfl
      have hAl : A.data.toList = ahead.data.toList ++ 38 :: nm := by rw [← hA, ByteArray.data_append, ByteArray.data_append, Array.toList_append, Array.toList_append, HNM.out]; simp
      rw [hw2, hA]
      obtain ⟨M, hM⟩ : ∃ M, A.size = M := ⟨_, rfl⟩
      have HB1 : Hid (∀ attr, Calls Tryd.prog 22 #[.string (A ++ ⟨#[59]⟩ ++ behind), .int .i64 ahead.size, .bool attr] w2 fun e w' => e = .returned (.tuple #[.string TX, .int .i64 ((M + 1 : Nat) : Int), .bool true]) ∧ w2 = w') := by
        intro attr
        have h := find_le (A ++ ⟨#[59]⟩ ++ behind) ahead.size attr w2 HT2.out (by simp [ByteArray.size_append]; omega) (by simp [ByteArray.size_append]; rw [hAs]; have : (⟨#[59]⟩ : ByteArray).size = 1 := rfl; omega)
        have e : (A ++ ⟨#[59]⟩ ++ behind).data.toList.drop ahead.size = 38 :: (nm ++ 59 :: behind.data.toList) := by
          rw [ByteArray.data_append, ByteArray.data_append, Array.toList_append, Array.toList_append, hAl, List.append_assoc, List.append_assoc, List.drop_left' (by simp)]
          simp
        rw [e, find_semi nm _ attr h2 h7 hch h35] at h
        have e2 : ret3 ahead.size (some (chOf nm, nm.length + 2)) = .tuple #[.string TX, .int .i64 ((M + 1 : Nat) : Int), .bool true] := by
          show Value.tuple #[.string (Utf8.encode (chOf nm)), .int .i64 ((ahead.size + (nm.length + 2) : Nat) : Int), .bool true] = _
          rw [HTX.out, show ahead.size + (nm.length + 2) = M + 1 by omega]
        rw [e2] at h
        exact h
      have HB2 : Hid (∀ attr, Calls Tryd.prog 22 #[.string (A ++ ⟨#[32]⟩ ++ behind), .int .i64 ahead.size, .bool attr] w2 fun e w' => e = .returned (ret3 ahead.size (findS (38 :: (nm ++ 32 :: behind.data.toList)) attr)) ∧ w2 = w') := by
        intro attr
        have h := find_le (A ++ ⟨#[32]⟩ ++ behind) ahead.size attr w2 HT2.out (by simp [ByteArray.size_append]; omega) (by simp [ByteArray.size_append]; rw [hAs]; have : (⟨#[32]⟩ : ByteArray).size = 1 := rfl; omega)
        have e : (A ++ ⟨#[32]⟩ ++ behind).data.toList.drop ahead.size = 38 :: (nm ++ 32 :: behind.data.toList) := by
          rw [ByteArray.data_append, ByteArray.data_append, Array.toList_append, Array.toList_append, hAl, List.append_assoc, List.append_assoc, List.drop_left' (by simp)]
          simp
        rw [e] at h
        exact h
      have HFB := Lib.hid (fun attr => find_blank nm behind.data.toList attr h2 h7 hcl h35)
      have HLO := Lib.hid hlo
      have HCH : Hid (lo = true → chOf nm = looseN nm) := fun h => by unfold chOf; rw [if_neg (hlo.1 h)]
      have HMA : Hid (M = ahead.size + nm.length + 1) := by show _ = _; omega
      have HB3 : Hid (∀ attr, (lo = true ∧ Calls Tryd.prog 22 #[.string (A ++ ⟨#[32]⟩ ++ behind), .int .i64 ahead.size, .bool attr] w2 fun e w' => e = .returned (.tuple #[.string TX, .int .i64 M, .bool true]) ∧ w2 = w') ∨
          (lo = false ∧ Calls Tryd.prog 22 #[.string (A ++ ⟨#[32]⟩ ++ behind), .int .i64 ahead.size, .bool attr] w2 fun e w' => e = .returned (.tuple #[.string ⟨#[]⟩, .int .i64 0, .bool false]) ∧ w2 = w') ∨
          (lo = false ∧ ∃ (T : ByteArray) (m : Nat), m < M ∧ Calls Tryd.prog 22 #[.string (A ++ ⟨#[32]⟩ ++ behind), .int .i64 ahead.size, .bool attr] w2 fun e w' => e = .returned (.tuple #[.string T, .int .i64 m, .bool true]) ∧ w2 = w')) := by
        intro attr
        have h := HB2.out attr
        cases hlv : lo with
        | true =>
          left
          refine ⟨rfl, ?_⟩
          rw [(HFB.out attr).1 (hlo.1 hlv)] at h
          have e2 : ret3 ahead.size (some (looseN nm, nm.length + 1)) = .tuple #[.string TX, .int .i64 M, .bool true] := by
            show Value.tuple #[.string (Utf8.encode (looseN nm)), .int .i64 ((ahead.size + (nm.length + 1) : Nat) : Int), .bool true] = _
            rw [← HCH.out hlv, HTX.out, show ahead.size + (nm.length + 1) = M by have := HMA.out; omega]
          rw [e2] at h
          exact h
        | false =>
          right
          have hz : looseN nm = 0 := by
            apply Classical.byContradiction
            intro hn
            have := hlo.2 hn
            rw [hlv] at this
            cases this
          cases hf : findS (38 :: (nm ++ 32 :: behind.data.toList)) attr with
          | none =>
            left
            rw [hf] at h
            exact ⟨rfl, h⟩
          | some q =>
            right
            obtain ⟨c, k⟩ := q
            have hk := (HFB.out attr).2 hz c k hf
            rw [hf] at h
            exact ⟨rfl, Utf8.encode c, ahead.size + k, by have := HMA.out; omega, h⟩
      have hMs : M ≤ 600 := by omega
      have i0 : ∀ W, (Instr.index 28 (.agg #[.bool false, .bool true]) (.int .i64 0)).run Tryd.prog W = .ok (.bool false) W := fun _ => by kernel_rfl
      have i1 : ∀ W, (Instr.index 28 (.agg #[.bool false, .bool true]) (.int .i64 1)).run Tryd.prog W = .ok (.bool true) W := fun _ => by kernel_rfl
      have hqT : (TX.toList != TX.toList) = false := by simp
      have hA6 : A.size ≤ 600 := by omega
      clear hw2 hAs hAl hch hcl h35 hlo h2 h7 hns hns7 c0 c1 c2 hi hi0 hi2 hA
      go_loop [42] (fun i => ∃ k : Nat, k ≤ 2 ∧ i = .int .i64 k) (fun i => 2 - (intOf i).toNat)
      case atStart => exact ⟨0, by omega, rfl⟩
      case round =>
        obtain ⟨k, hk, rfl⟩ := hrel
        by_cases hk2 : k < 2
        · rcases (by omega : k = 0 ∨ k = 1) with rfl | rfl
          · rcases HB3.out false with ⟨rfl, hh⟩ | ⟨rfl, hh⟩ | ⟨rfl, T, m, hm, hh⟩
            · have HH := Lib.hid hh
              clear hh
              go_wp2_with fail
              refine (HB1.out false).mono ?_
              rintro e w' ⟨rfl, rfl⟩
              go_wp2_with fail
              refine HH.out.mono ?_
              rintro e w' ⟨rfl, rfl⟩
              go_wp2_with fail
              go_round
              case rel => exact ⟨1, by omega, by first | go_num | rfl⟩
              case measure => first | (simp [intOf]; done) | (simp [intOf]; omega)
            · have HH := Lib.hid hh
              clear hh
              go_wp2_with fail
              refine (HB1.out false).mono ?_
              rintro e w' ⟨rfl, rfl⟩
              go_wp2_with fail
              refine HH.out.mono ?_
              rintro e w' ⟨rfl, rfl⟩
              go_wp2_with fail
              go_round
              case rel => exact ⟨1, by omega, by first | go_num | rfl⟩
              case measure => first | (simp [intOf]; done) | (simp [intOf]; omega)
            · have HH := Lib.hid hh
              clear hh
              have hmi : ¬ (M : Int) ≤ m := by omega
              go_wp2_with fail
              refine (HB1.out false).mono ?_
              rintro e w' ⟨rfl, rfl⟩
              go_wp2_with fail
              refine HH.out.mono ?_
              rintro e w' ⟨rfl, rfl⟩
              go_wp2_with fail
              go_round
              case rel => exact ⟨1, by omega, by first | go_num | rfl⟩
              case measure => first | (simp [intOf]; done) | (simp [intOf]; omega)
          · rcases HB3.out true with ⟨rfl, hh⟩ | ⟨rfl, hh⟩ | ⟨rfl, T, m, hm, hh⟩
            · have HH := Lib.hid hh
              clear hh
              go_wp2_with fail
              refine (HB1.out true).mono ?_
              rintro e w' ⟨rfl, rfl⟩
              go_wp2_with fail
              refine HH.out.mono ?_
              rintro e w' ⟨rfl, rfl⟩
              go_wp2_with fail
              go_round
              case rel => exact ⟨2, by omega, by first | go_num | rfl⟩
              case measure => first | (simp [intOf]; done) | (simp [intOf]; omega)
            · have HH := Lib.hid hh
              clear hh
              go_wp2_with fail
              refine (HB1.out true).mono ?_
              rintro e w' ⟨rfl, rfl⟩
              go_wp2_with fail
              refine HH.out.mono ?_
              rintro e w' ⟨rfl, rfl⟩
              go_wp2_with fail
              go_round
              case rel => exact ⟨2, by omega, by first | go_num | rfl⟩
              case measure => first | (simp [intOf]; done) | (simp [intOf]; omega)
            · have HH := Lib.hid hh
              clear hh
              have hmi : ¬ (M : Int) ≤ m := by omega
              go_wp2_with fail
              refine (HB1.out true).mono ?_
              rintro e w' ⟨rfl, rfl⟩
              go_wp2_with fail
              refine HH.out.mono ?_
              rintro e w' ⟨rfl, rfl⟩
              go_wp2_with fail
              go_round
              case rel => exact ⟨2, by omega, by first | go_num | rfl⟩
              case measure => first | (simp [intOf]; done) | (simp [intOf]; omega)
        · obtain rfl : k = 2 := by omega
          go_wp2_with fail
          refine (HRE.out _ HT2.out).mono ?_
          rintro e w' ⟨rfl, rfl⟩
          go_wp2_with fail
          go_ret
          exact ⟨by exact rfl, B2.out⟩
end Go.Proofs.YtnlhhjokaekdhaaDoor.R9
