/- lazaretref03.Decode. -/
import Derived.Test.YtfbmabbehiicmaaDoorR64d
import Derived.Test.YtfbmabbehiicmaaDoorR64b
import Derived.Deep.Cut
set_option linter.unusedVariables false
namespace Go.Proofs.YtfbmabbehiicmaaDoor
open Go.RowKit

theorem trim_last {S : ByteArray} (h : 0 < S.size) (h61 : S[S.size - 1] = 61) : Lib.trimSuffix S.data.toList [61] = (S.extract 0 (S.size - 1)).data.toList := by
  rw [ext_init]
  conv => lhs; rw [toList_snoc S h, h61, trim_yes]
theorem trim_keep {S : ByteArray} (h : 0 < S.size) (h61 : S[S.size - 1] ≠ 61) : Lib.trimSuffix S.data.toList [61] = S.data.toList := by
  have : Lib.trimSuffix (S.data.toList.take (S.size - 1) ++ [S[S.size - 1]]) [61] = S.data.toList.take (S.size - 1) ++ [S[S.size - 1]] := by
    unfold Lib.trimSuffix Lib.hasSuffix
    rw [if_neg]
    intro e
    rw [List.isSuffixOf_iff_suffix] at e
    obtain ⟨t, ht⟩ := e
    have := List.append_inj' ht rfl
    simp at this
    exact h61 this.2.symm
  rwa [← toList_snoc S h] at this
theorem trim_nil {S : ByteArray} (h : S.size = 0) : Lib.trimSuffix S.data.toList [61] = S.data.toList := by
  rw [toList_nil h]; rfl

theorem byteCells_one (x : UInt8) : Lib.byteCells [x] = [Value.int .u8 (x.toNat : Int)] := rfl
set_option maxHeartbeats 8000000 in
set_option maxRecDepth 100000 in
theorem rbdecode_any (s0 : ByteArray) (w : World) (hs0 : s0.size ≤ 1073741) :
    Calls Tryd.prog 19 #[.string s0] w fun e w' => DecRes (decE s0.data.toList) e ∧ Below w.heap.size w w' := by
  have hl0 : s0.data.toList.length = s0.size := by simp
  obtain ⟨U, hU⟩ : ∃ U : ByteArray, (⟨(unpadE s0.data.toList).toArray⟩ : ByteArray) = U := ⟨_, rfl⟩
  have hUd : Hid (U.data.toList = unpadE s0.data.toList) := by show U.data.toList = _; rw [← hU]
  have hUs : U.size ≤ s0.size := by
    have h1 := unpad_len s0.data.toList
    have h2 : U.data.toList.length = U.size := by simp
    rw [hUd.out] at h2
    omega
  have hU4 : Hid (s0.size % 4 ≠ 0 → s0 = U) := by
    intro h
    apply ByteArray.ext
    apply Array.toList_inj.1
    rw [hUd.out]
    unfold unpadE
    rw [if_pos (by rw [hl0]; exact h)]
  have hU0 : Hid (s0.size % 4 = 0 → trimN 2 s0.data.toList = unpadE s0.data.toList) := fun h => trimN_eq _ (by rw [hl0]; exact h)
  have hUx : Hid (∀ S : ByteArray, S.data.toList = unpadE s0.data.toList → S = U) := by
    intro S h
    apply ByteArray.ext
    apply Array.toList_inj.1
    rw [h, hUd.out]
  clear hU hl0
  go_enter Tryd.func19, Tryd.ntmps19
  go_upto_if 17 with (fail)
  go_cut [0] from 14 (fun v wc => v = .string U ∧ w = wc)
  case first =>
    by_cases h4 : s0.size % 4 = 0
    · have h4' : ((s0.size : Int) % 4 == 0) = true := by simp; omega
      have HT := Lib.hid (hU0.out h4)
      clear h4
      rw [h4']
      go_wp2_with fail
      go_loop [0, 4] (fun v i => ∃ (k : Nat) (S : ByteArray), k ≤ 2 ∧ i = .int .i64 k ∧ v = .string S ∧ S.size ≤ s0.size ∧ Hid (trimN (2 - k) S.data.toList = unpadE s0.data.toList)) (fun _ i => 2 - (intOf i).toNat)
      case atStart => exact ⟨0, s0, by omega, rfl, rfl, Nat.le_refl _, HT.out⟩
      case round =>
        obtain ⟨k, S, hk, rfl, rfl, hS, HI⟩ := hrel
        by_cases hk2 : k < 2
        · obtain ⟨n, hn⟩ : ∃ n, 2 - k = n + 1 := ⟨1 - k, by omega⟩
          have hn1 : Hid (2 - (k + 1) = n) := by show 2 - (k + 1) = n; omega
          have HI2 := HI.out
          rw [hn] at HI2
          by_cases h0 : 0 < S.size
          · have hp1 : (1 : Int) ≤ (S.size : Int) := by omega
            by_cases h61 : S[S.size - 1] = 61
            · have hs4 : ((S[S.size - 1].toNat : Int) == 61) = true := by rw [h61]; rfl
              have HG : Hid (trimN (2 - (k + 1)) (S.extract 0 (S.size - 1)).data.toList = unpadE s0.data.toList) := by
                show trimN _ _ = _
                rw [hn1.out, ← HI2, trimN, trim_last h0 h61]
              clear h61 HI2 hn
              go_wp2_with fail
              go_round
              case rel =>
                have hex : (S.extract 0 (S.size - 1)).size ≤ s0.size := by rw [ByteArray.size_extract]; omega
                first
                  | exact ⟨k + 1, _, by omega, by go_num, rfl, hex, HG.out⟩
                  | (refine ⟨trivial, ?_⟩; (repeat apply Exists.intro); exact ⟨⟨k + 1, _, by omega, by go_num, rfl, hex, HG.out⟩, rfl⟩)
              case measure => simp [intOf]; omega
            · have hs4 : ((S[S.size - 1].toNat : Int) == 61) = false := by
                rw [beq_eq_false_iff_ne]
                intro e
                exact h61 (UInt8.toNat_inj.1 (by show S[S.size - 1].toNat = 61; omega))
              have HE : Hid (S = U) := hUx.out S (by rw [← HI2, trimN_stop (trim_keep h0 h61)])
              clear h61 HI2 hn
              go_wp2_with fail
              go_meet
              case rel => exact ⟨by rw [HE.out], rfl⟩
          · have HE : Hid (S = U) := hUx.out S (by rw [← HI2, trimN_stop (trim_nil (by omega))])
            clear HI2 hn
            go_wp2_with fail
            go_meet
            case rel => exact ⟨by rw [HE.out], rfl⟩
        · have hk22 : 2 - k = 0 := by omega
          have HI2 := HI.out
          rw [hk22] at HI2
          have HE : Hid (S = U) := hUx.out S HI2
          clear HI2 hk22
          go_wp2_with fail
          go_meet
          case rel => exact ⟨by rw [HE.out], rfl⟩
    · have h4' : ((s0.size : Int) % 4 == 0) = false := by simp; omega
      have HE := Lib.hid (hU4.out h4)
      clear h4
      go_wp2_with fail
      go_meet
      case rel => exact ⟨by rw [HE.out], rfl⟩
  case rest =>
    obtain ⟨rfl, rfl⟩ := hcut
    clear hU4 hU0 hUx
    have hl : Hid (U.data.toList.length = U.size) := by show U.data.toList.length = U.size; simp
    by_cases h1 : U.size % 4 = 1
    · have hq : ((U.size : Int) % 4 == 1) = true := by simp; omega
      have HR : Hid (decE s0.data.toList = none) := by
        show decE s0.data.toList = none
        rw [decE_eq, ← hUd.out, hl.out, if_pos h1]
      clear h1
      go_wp2_with fail
      go_ret2
      rw [HR.out]
      exact ⟨decRes_none, Below.refl _ _⟩
    · have hq : ((U.size : Int) % 4 == 1) = false := by simp; omega
      have HR : Hid (decE s0.data.toList = decC U.data.toList) := by
        show decE s0.data.toList = _
        rw [decE_eq, ← hUd.out, hl.out, if_neg h1]
      clear h1
      go_wp2_with fail
      go_loopw [5, 6] (fun b i wr => ∃ (k : Nat), k ≤ U.size ∧ i = .int .i64 k ∧ Hid (allV (U.data.toList.take k)) ∧ wr.ownsRow w.heap.size 5 1 b (6 * k) (Lib.byteCells (bitsO (U.data.toList.take k))) ∧ Below w.heap.size w wr) (fun _ i _ => U.size - (intOf i).toNat)
      case atStart => exact ⟨0, Nat.zero_le _, rfl, fun c h => by simp at h, World.ownsRow_nil _ _ _ _, Below.refl _ _⟩
      case round =>
        obtain ⟨k, hk, rfl, HV, hown, hb⟩ := hrel
        have hsz := hb.size
        by_cases hlt : k < U.size
        · cases hv : valN U[k].toNat with
          | none =>
            have hz : valZ U[k] = -1 := by unfold valZ; rw [hv]
            have HN : Hid (decC U.data.toList = none) := by
              refine decC_bad _ U[k] ?_ hv
              have : U.data.toList[k]? = some U[k] := by
                rw [List.getElem?_eq_getElem (by rw [hl.out]; exact hlt)]; rfl
              exact List.mem_of_getElem? this
            have HZ := Lib.hid hz
            clear hz hv
            go_wp2_with fail
            refine (rvalue_any U[k] _).mono ?_
            rintro e w' ⟨rfl, rfl⟩
            rw [HZ.out]
            go_wp2_with fail
            go_ret2
            rw [HR.out, HN.out]
            exact ⟨decRes_none, hb⟩
          | some v =>
            have hv6 := valN_lt hv
            have hz : valZ U[k] = (v : Int) := by unfold valZ; rw [hv]
            have HZ := Lib.hid hz
            have HV2 : Hid (allV (U.data.toList.take (k + 1))) := by
              intro c hc
              rw [take_snoc U k hlt, List.mem_append] at hc
              rcases hc with hc | hc
              · exact HV.out c hc
              · simp at hc
                rw [hc, hv]
                simp
            have HB2 : Hid (bitsO (U.data.toList.take (k + 1)) = bitsO (U.data.toList.take k) ++ btsN v) := by
              show bitsO _ = _
              rw [take_snoc U k hlt, bitsO_app]
              simp [bitsO, hv]
            clear hz hv
            have hv0 : (0 : Int) ≤ (v : Int) := by omega
            have hv1 : (v : Int) ≤ 63 := by omega
            go_wp2_with fail
            refine (rvalue_any U[k] _).mono ?_
            rintro e w' ⟨rfl, rfl⟩
            rw [HZ.out]
            go_wp2_with fail
            go_loopw [5, 8] (fun b i wx => ∃ (j : Nat), j ≤ 6 ∧ i = .int .i64 (5 - (j : Int)) ∧ wx.ownsRow w.heap.size 5 1 b (6 * k + j) (Lib.byteCells (bitsO (U.data.toList.take k) ++ (btsN v).take j)) ∧ Below w.heap.size w wx) (fun _ i _ => (intOf i + 1).toNat)
            case atStart => exact ⟨0, by omega, by go_num, by simpa using hown, hb⟩
            case round =>
              obtain ⟨j, hj, rfl, hown2, hb2⟩ := hrel
              have hsz2 := hb2.size
              by_cases hj6 : j < 6
              · skip
                have hnx : Hid ((bitsO (U.data.toList.take k) ++ (btsN v).take (j + 1)) = (bitsO (U.data.toList.take k) ++ (btsN v).take j) ++ [b8 (v / 2 ^ (5 - j) % 2)]) := by
                  show _ = _
                  rw [List.append_assoc]
                  congr 1
                  obtain rfl | rfl | rfl | rfl | rfl | rfl : j = 0 ∨ j = 1 ∨ j = 2 ∨ j = 3 ∨ j = 4 ∨ j = 5 := by omega
                  all_goals (unfold btsN; simp)
                obtain ⟨β, hβ⟩ : ∃ β, v / 2 ^ (5 - j) % 2 = β := ⟨_, rfl⟩
                have hβ2 : β < 2 := by rw [← hβ]; exact Nat.mod_lt _ (by decide)
                have hβ3 : (β : Int) ≤ 1 := by omega
                have hβ4 : (0 : Int) ≤ (β : Int) := by omega
                have hmk := bits_mask (v / 2 ^ (5 - j)) 1 (Nat.lt_of_le_of_lt (Nat.div_le_self _ _) (by omega)) (by decide)
                rw [show (2 ^ 1 : Nat) = 2 from rfl, hβ] at hmk
                have HMK := Lib.hid hmk
                rw [hβ] at hnx
                have hb8 : Hid (((b8 β).toNat : Int) = (β : Int)) := by show ((b8 β).toNat : Int) = _; rw [b8_le hβ2]
                have hlb : Hid ((bitsO (U.data.toList.take k) ++ (btsN v).take j).length = 6 * k + j) := by
                  show _ = _
                  rw [List.length_append, bitsO_len, List.length_take, List.length_take, hl.out]
                  simp [btsN]
                  omega
                clear hmk hβ
                have hjc : j = 0 ∨ j = 1 ∨ j = 2 ∨ j = 3 ∨ j = 4 ∨ j = 5 := by omega
                rcases hjc with rfl | rfl | rfl | rfl | rfl | rfl
                all_goals
                  first
                    | (have hbt : bits .and .i64 ((v : Int) / 32) 1 = (β : Int) := by
                        have h := HMK.out
                        simpa using h
                       have hjx : 5 - (0 : Nat) = 5 := rfl)
                    | (have hbt : bits .and .i64 ((v : Int) / 16) 1 = (β : Int) := by
                        have h := HMK.out
                        simpa using h
                       have hjx : 5 - (1 : Nat) = 4 := rfl)
                    | (have hbt : bits .and .i64 ((v : Int) / 8) 1 = (β : Int) := by
                        have h := HMK.out
                        simpa using h
                       have hjx : 5 - (2 : Nat) = 3 := rfl)
                    | (have hbt : bits .and .i64 ((v : Int) / 4) 1 = (β : Int) := by
                        have h := HMK.out
                        simpa using h
                       have hjx : 5 - (3 : Nat) = 2 := rfl)
                    | (have hbt : bits .and .i64 ((v : Int) / 2) 1 = (β : Int) := by
                        have h := HMK.out
                        simpa using h
                       have hjx : 5 - (4 : Nat) = 1 := rfl)
                    | (have hbt : bits .and .i64 (v : Int) 1 = (β : Int) := by
                        have h := HMK.out
                        simpa using h
                       have hjx : 5 - (5 : Nat) = 0 := rfl)
                  go_wp2_with (at_builtin; refine app1 rfl _ _ 27 rfl infoByte Tryd.underlying27 rfl (by decide) hown2 rfl rfl rfl (by omega) hsz2 ?_; intro v' w' hown' hg hbw)
                  go_roundw
                  case rel => first
                    | exact ⟨1, by omega, by go_num, by rw [hnx.out, Lib.byteCells_append, byteCells_one, hb8.out]; exact hown', hb2.trans hbw⟩
                    | exact ⟨2, by omega, by go_num, by rw [hnx.out, Lib.byteCells_append, byteCells_one, hb8.out]; exact hown', hb2.trans hbw⟩
                    | exact ⟨3, by omega, by go_num, by rw [hnx.out, Lib.byteCells_append, byteCells_one, hb8.out]; exact hown', hb2.trans hbw⟩
                    | exact ⟨4, by omega, by go_num, by rw [hnx.out, Lib.byteCells_append, byteCells_one, hb8.out]; exact hown', hb2.trans hbw⟩
                    | exact ⟨5, by omega, by go_num, by rw [hnx.out, Lib.byteCells_append, byteCells_one, hb8.out]; exact hown', hb2.trans hbw⟩
                    | exact ⟨6, by omega, by go_num, by rw [hnx.out, Lib.byteCells_append, byteCells_one, hb8.out]; exact hown', hb2.trans hbw⟩
                  case measure => simp [intOf]
              · have hj7 : j = 6 := by omega
                subst hj7
                go_wp2_with fail
                go_roundw
                case rel =>
                  refine ⟨k + 1, by omega, by go_num, HV2.out, ?_, hb2⟩
                  rw [HB2.out]
                  exact hown2
                case measure => simp [intOf]; omega
        · have hke : Hid (U.data.toList.take k = U.data.toList) := by show U.data.toList.take k = _; exact List.take_of_length_le (by rw [hl.out]; omega)
          have hkU : k = U.size := by omega
          obtain ⟨ba, bc, hbv⟩ := owns_shape hown
          subst hbv
          obtain ⟨B, hB⟩ : ∃ B, bitsO U.data.toList = B := ⟨_, rfl⟩
          have hBl : B.length = 6 * k := by rw [← hB, bitsO_len, hl.out, hkU]
          have hBb : Hid (BitsL B) := by show BitsL B; rw [← hB]; exact bitsO_bits _
          have hDR : Hid (decC U.data.toList = decR B) := by
            show decC U.data.toList = _
            have h := HV.out
            rw [hke.out] at h
            rw [← hB, decR_eq _ h]
          rw [hke.out, hB, ← hBl] at hown
          rw [← hBl]
          have hBs : B.length ≤ 6442446 := by omega
          have hkk : ¬ (k : Int) < (U.size : Int) := by omega
          clear hBl hB hkU
          generalize hn : B.length = n at *
          have HN := Lib.hid hn
          clear hn
          go_wp2_with fail
          go_loopw [9, 10] (fun o i wx => ∃ m : Nat, 8 * m ≤ n ∧ i = .int .i64 (8 * m : Nat) ∧ wx.ownsRow wr.heap.size 5 1 o m (Lib.byteCells (outR B m)) ∧ Below wr.heap.size wr wx) (fun _ i _ => n - (intOf i).toNat)
          case atStart => exact ⟨0, by omega, rfl, World.ownsRow_nil _ _ _ _, Below.refl _ _⟩
          case round =>
            obtain ⟨m, hm, rfl, howno, hbx⟩ := hrel
            have hszx := hbx.size
            have hownb := owns_below hown hbx
            by_cases h8 : 8 * m + 8 ≤ n
            · have h8i : 8 * (m : Int) + 8 ≤ (n : Int) := by omega
              go_wp2_with fail
              go_loop [11, 12] (fun c i => ∃ (j C p : Nat), j ≤ 8 ∧ Hid (p = 8 * m + j) ∧ p ≤ 8 * m + 8 ∧ i = .int .i64 p ∧ c = .int .u8 C ∧ Hid (C = oct B (8 * m) j) ∧ Hid (C < 2 ^ j)) (fun _ i => 8 * m + 8 - (intOf i).toNat)
              case atStart => exact ⟨0, 0, 8 * m, by omega, rfl, by omega, by go_num, rfl, rfl, by show 0 < 2 ^ 0; decide⟩
              case round =>
                obtain ⟨j, C, p, hj, hp, hp8, rfl, rfl, hC, hC2⟩ := hrel
                by_cases hj8 : j < 8
                · have hpq : (p : Int) < 8 * (m : Int) + 8 := by have := hp.out; omega
                  have hpn : p < n := by have := hp.out; omega
                  have hC127 : C ≤ 127 := by
                    have h1 := hC2.out
                    have h2 : 2 ^ j ≤ 2 ^ 7 := Nat.pow_le_pow_right (by decide) (by omega)
                    omega
                  have hCi : (C : Int) ≤ 127 := by omega
                  obtain ⟨g1, c1, e1, _, _, _, _, r1⟩ := owns_cell hownb hpn
                  obtain ⟨rfl, rfl⟩ : ba = some ⟨g1, 0, none⟩ ∧ bc = c1 := by injection e1 with a b c; exact ⟨a, c⟩
                  have hbp := getD_bit hBb.out p
                  have hcell := r1 p (.int .u8 ((B.getD p 0).toNat : Int)) (by
                    unfold Lib.byteCells
                    rw [List.getElem?_map, List.getD_eq_getElem?_getD, List.getElem?_eq_getElem (by rw [HN.out]; exact hpn)]
                    rfl)
                  have hnext : Hid (2 * C + (B.getD p 0).toNat = oct B (8 * m) (j + 1)) := by
                    show _ = oct B (8 * m) (j + 1)
                    rw [oct, ← hC.out, ← hp.out]
                  have hnext2 : Hid (2 * C + (B.getD p 0).toNat < 2 ^ (j + 1)) := by
                    show _ < _
                    have := hC2.out
                    rw [Nat.pow_succ]
                    omega
                  have hp1 : Hid (p + 1 = 8 * m + (j + 1)) := by show p + 1 = _; have := hp.out; omega
                  have hp9 : p + 1 ≤ 8 * m + 8 := by have := hp.out; omega
                  clear r1 e1
                  generalize (B.getD p 0).toNat = β at *
                  have hb1 : (β : Int) ≤ 1 := by omega
                  have hb0 : (0 : Int) ≤ (β : Int) := by omega
                  go_wp2_with fail
                  go_round
                  case rel => exact ⟨j + 1, 2 * C + β, p + 1, by omega, hp1.out, hp9, by go_num, by go_num, hnext.out, hnext2.out⟩
                  case measure => simp [intOf]; omega
                · have hpq : ¬ (p : Int) < 8 * (m : Int) + 8 := by have := hp.out; omega
                  have hj88 : j = 8 := by omega
                  have hC255 : Hid (C < 256) := by
                    show C < 256
                    have h1 := hC2.out
                    rw [hj88] at h1
                    exact h1
                  have hnew : Hid (outR B (m + 1) = outR B m ++ [b8 C]) := by
                    show _ = _
                    rw [outR_snoc, hC.out, hj88]
                  have hcell : Hid (((b8 C).toNat : Int) = (C : Int)) := by show ((b8 C).toNat : Int) = _; rw [b8_toNat hC255.out]
                  clear hp hj88
                  go_wp2_with (at_builtin; refine app1 rfl _ _ 27 rfl infoByte Tryd.underlying27 rfl (by decide) howno rfl rfl rfl (by omega) hszx ?_; intro v' w' hown' hg hbw)
                  go_roundw
                  case rel =>
                    refine ⟨m + 1, by omega, by go_num, ?_, hbx.trans hbw⟩
                    rw [hnew.out, Lib.byteCells_append, byteCells_one, hcell.out]
                    exact hown'
                  case measure => simp [intOf]; omega
            · have h8i : ¬ 8 * (m : Int) + 8 ≤ (n : Int) := by omega
              have hmn : Hid (m = B.length / 8) := by show m = _; rw [HN.out]; omega
              obtain ⟨oa, oc, hov⟩ := owns_shape howno
              subst hov
              have hm2 : m ≤ 900000 := by omega
              go_wp2_with fail
              go_loop [13] (fun i => ∃ p : Nat, p ≤ n ∧ 8 * m ≤ p ∧ i = .int .i64 p ∧ Hid (∀ t, 8 * m ≤ t → t < p → (B.getD t 0).toNat = 0)) (fun i => n - (intOf i).toNat)
              case atStart => exact ⟨8 * m, by omega, by omega, by go_num, fun t h1 h2 => by omega⟩
              case round =>
                obtain ⟨p, hp, hp8, rfl, HZ⟩ := hrel
                by_cases hpn : p < n
                · obtain ⟨g1, c1, e1, _, _, _, _, r1⟩ := owns_cell hownb hpn
                  obtain ⟨rfl, rfl⟩ : ba = some ⟨g1, 0, none⟩ ∧ bc = c1 := by injection e1 with a b c; exact ⟨a, c⟩
                  have hbp := getD_bit hBb.out p
                  have hcell := r1 p (.int .u8 ((B.getD p 0).toNat : Int)) (by
                    unfold Lib.byteCells
                    rw [List.getElem?_map, List.getD_eq_getElem?_getD, List.getElem?_eq_getElem (by rw [HN.out]; exact hpn)]
                    rfl)
                  obtain ⟨β, hβ⟩ : ∃ β, (B.getD p 0).toNat = β := ⟨_, rfl⟩
                  have HB := Lib.hid hβ
                  rw [hβ] at hcell hbp
                  clear hβ r1 e1
                  obtain hb0 | hb1 : β = 0 ∨ β = 1 := by omega
                  · subst hb0
                    go_wp2_with fail
                    go_round
                    case rel => exact ⟨p + 1, by omega, by omega, by go_num, fun t h1 h2 => by
                      by_cases e : t = p
                      · subst e; exact HB.out
                      · exact HZ.out t h1 (by omega)⟩
                    case measure => simp [intOf]; omega
                  · subst hb1
                    have HNO : Hid (decR B = none) := decR_none hmn.out hp8 (by rw [HN.out]; exact hpn) (by rw [HB.out]; decide)
                    go_wp2_with fail
                    go_ret2
                    rw [HR.out, hDR.out, HNO.out]
                    exact ⟨decRes_none, hb.trans (hbx.mono hsz)⟩
                · have HSO : Hid (decR B = some (outR B m)) := decR_some hmn.out fun t h1 h2 => HZ.out t h1 (by rw [HN.out] at h2; omega)
                  have hlo : (outR B m).length = m := outR_len B m
                  have hcv := conv_own (P := Tryd.prog) (l := outR B m) Tryd.underlying27 Tryd.underlying5 Tryd.underlying9 (by rw [hlo]; exact howno)
                  have HC := Lib.hid hcv
                  clear hcv hlo
                  go_wp2_with fail
                  rw [HC.out]
                  go_wp2_with fail
                  go_ret2
                  rw [HR.out, hDR.out, HSO.out]
                  exact ⟨decRes_some _, hb.trans (hbx.mono hsz)⟩
end Go.Proofs.YtfbmabbehiicmaaDoor
