/- lazaretref03: Plain and Encode. -/
import Derived.Test.YtfbmabbehiicmaaDoorR64a
set_option linter.unusedVariables false
namespace Go.Proofs.YtfbmabbehiicmaaDoor
open Go.RowKit

theorem plainL_cons {s : ByteArray} {k : Nat} (hk : k < s.size) : plainL (s.data.toList.drop k) = plainB s[k] :: plainL (s.data.toList.drop (k + 1)) := by
  rw [u_dropB hk]; rfl
set_option maxHeartbeats 2000000 in
set_option maxRecDepth 100000 in
theorem rplain_any (s : ByteArray) (w : World) (hs : s.size ≤ 1073741824) :
    Calls Tryd.prog 23 #[.string s] w fun e w' => e = .returned (.string ⟨(plainL s.data.toList).toArray⟩) ∧ Below w.heap.size w w' := by
  go_enter Tryd.func23, Tryd.ntmps23
  go_wp2_with fail
  go_loopw [3, 4] (fun b i wr => ∃ (k : Nat) (o : List UInt8), k ≤ s.size ∧ i = .int .i64 k ∧ o.length ≤ k ∧ Hid (o ++ plainL (s.data.toList.drop k) = plainL s.data.toList) ∧ wr.ownsRow w.heap.size 5 1 b o.length (Lib.byteCells o) ∧ Below w.heap.size w wr) (fun _ i _ => s.size - (intOf i).toNat)
  case atStart => exact ⟨0, [], Nat.zero_le _, rfl, Nat.le_refl _, rfl, World.ownsRow_nil _ _ _ _, Below.refl _ _⟩
  case round =>
    obtain ⟨k, o, hk, rfl, hol, HO, hown, hb⟩ := hrel
    have hsz := hb.size
    by_cases hlt : k < s.size
    · have FIN : Hid (∀ (x : UInt8) b' (w2 : World), x = plainB s[k] → w2.ownsRow w.heap.size 5 1 b' (o.length + 1) (Lib.byteCells o ++ [.int .u8 (x.toNat : Int)]) → Below w.heap.size w w2 → ∃ (j : Nat) (o' : List UInt8), j ≤ s.size ∧ Value.int .i64 ((k : Int) + 1) = .int .i64 j ∧ o'.length ≤ j ∧ Hid (o' ++ plainL (s.data.toList.drop j) = plainL s.data.toList) ∧ w2.ownsRow w.heap.size 5 1 b' o'.length (Lib.byteCells o') ∧ Below w.heap.size w w2) := by
        intro x b' w2 hx ho hbw
        refine ⟨k + 1, o ++ [x], by omega, by go_num, by simp; omega, ?_, ?_, hbw⟩
        · show (o ++ [x]) ++ _ = _
          rw [← HO.out, plainL_cons hlt, hx]
          simp
        · rw [Lib.byteCells_append, List.length_append]
          exact ho
      have hcase : (s[k] = 45 ∧ (s[k].toNat : Int) = 45) ∨ (s[k] = 95 ∧ (s[k].toNat : Int) = 95) ∨ (s[k] = plainB s[k] ∧ ((s[k].toNat : Int) == 45) = false ∧ ((s[k].toNat : Int) == 95) = false) := by
        by_cases h1 : s[k] = 45
        · left; exact ⟨h1, by rw [h1]; rfl⟩
        · by_cases h2 : s[k] = 95
          · right; left; exact ⟨h2, by rw [h2]; rfl⟩
          · right; right
            refine ⟨?_, ?_, ?_⟩
            · unfold plainB; rw [if_neg h1, if_neg h2]
            · rw [beq_eq_false_iff_ne]; intro e; exact h1 (UInt8.toNat_inj.1 (by show s[k].toNat = 45; omega))
            · rw [beq_eq_false_iff_ne]; intro e; exact h2 (UInt8.toNat_inj.1 (by show s[k].toNat = 95; omega))
      rcases hcase with ⟨h1, h2⟩ | ⟨h1, h2⟩ | ⟨h1, h2, h3⟩
      · have H1 := Lib.hid h1
        clear h1
        go_wp2_with (at_builtin; refine app1 rfl _ _ 27 rfl infoByte Tryd.underlying27 rfl (by decide) hown rfl rfl rfl (by omega) hsz ?_; intro v' w' hown' hg hbw)
        go_roundw
        case rel => exact FIN.out 43 _ _ (by rw [H1.out]; rfl) hown' (hb.trans hbw)
        case measure => simp [intOf]; omega
      · have H1 := Lib.hid h1
        clear h1
        go_wp2_with (at_builtin; refine app1 rfl _ _ 27 rfl infoByte Tryd.underlying27 rfl (by decide) hown rfl rfl rfl (by omega) hsz ?_; intro v' w' hown' hg hbw)
        go_roundw
        case rel => exact FIN.out 47 _ _ (by rw [H1.out]; rfl) hown' (hb.trans hbw)
        case measure => simp [intOf]; omega
      · have H1 := Lib.hid h1
        clear h1
        go_wp2_with (at_builtin; refine app1 rfl _ _ 27 rfl infoByte Tryd.underlying27 rfl (by decide) hown rfl rfl rfl (by omega) hsz ?_; intro v' w' hown' hg hbw)
        go_roundw
        case rel => exact FIN.out s[k] _ _ H1.out hown' (hb.trans hbw)
        case measure => simp [intOf]; omega
    · have hend : Hid (o = plainL s.data.toList) := by
        show o = _
        rw [← HO.out, show s.data.toList.drop k = [] from List.drop_eq_nil_of_le (by simp; omega)]
        simp [plainL]
      have hcv := conv_own (P := Tryd.prog) Tryd.underlying27 Tryd.underlying5 Tryd.underlying9 hown
      have HC := Lib.hid hcv
      clear hcv
      go_wp2_with fail
      rw [HC.out, hend.out]
      go_wp2_with fail
      go_ret
      exact ⟨rfl, hb⟩

theorem bits_and8 (a : Nat) (h : a < 256) : bits .and .u8 (a : Int) 1 = ((a % 2 : Nat) : Int) := by
  have : ∀ a : Fin 256, bits .and .u8 (a.val : Int) 1 = ((a.val % 2 : Nat) : Int) := by decide +kernel
  exact this ⟨a, h⟩
theorem conv_plain1 (w : World) (x : UInt8) : (convert 27 9 (.slice (some ⟨w.heap.size, 0, none⟩) 1 1)).run Tryd.prog (w.alloc (.cells #[.int .u8 (x.toNat : Int)] 5)) = .ok (.string ⟨#[x]⟩) (w.alloc (.cells #[.int .u8 (x.toNat : Int)] 5)) := by
  refine run_convert_bytes_back _ 27 9 5 ⟨w.heap.size, 0, none⟩ 1 [x] Tryd.underlying27 Tryd.underlying5 Tryd.underlying9 fun j hj => ?_
  have hj0 : j = 0 := by simp at hj; omega
  subst hj0
  simp [Addr.add]

theorem bit_int (a β r : Nat) (ha : a < 256) (h : a / 2 ^ (7 - r) % 2 = β) : bits .and .u8 ((a : Int) / ((2 ^ (7 - r) : Nat) : Int)) 1 = (β : Int) := by
  have h1 : (a : Int) / ((2 ^ (7 - r) : Nat) : Int) = ((a / 2 ^ (7 - r) : Nat) : Int) := rfl
  rw [h1, bits_and8 _ (Nat.lt_of_le_of_lt (Nat.div_le_self _ _) ha), h]
theorem bit_at {s : ByteArray} {p : Nat} (h : p < 8 * s.size) : (s[p / 8]'(by omega)).toNat / 2 ^ (7 - p % 8) % 2 = bitAt s.data.toList p := by
  unfold bitAt
  rw [List.getD_eq_getElem?_getD, List.getElem?_eq_getElem (by simp; omega)]
  rfl
set_option maxHeartbeats 8000000 in
set_option maxRecDepth 100000 in
theorem rencode_any (s : ByteArray) (w : World) (hs : s.size ≤ 1073741) :
    Calls Tryd.prog 21 #[.string s] w fun e w' => e = .returned (.string ⟨(encE s.data.toList).toArray⟩) ∧ Below w.heap.size w w' := by
  have hl : Hid (s.data.toList.length = s.size) := by show s.data.toList.length = s.size; simp
  go_enter Tryd.func21, Tryd.ntmps21
  go_wp2_with fail
  go_loopw [3, 4] (fun o i wr => ∃ (q : Nat) (O : ByteArray), 6 * q ≤ 8 * s.size + 5 ∧ i = .int .i64 (6 * q : Nat) ∧ o = .string O ∧ Hid (O.data.toList = encR s.data.toList q) ∧ Below w.heap.size w wr) (fun _ i _ => 8 * s.size + 6 - (intOf i).toNat)
  case atStart => exact ⟨0, ⟨#[]⟩, by omega, rfl, rfl, rfl, Below.refl _ _⟩
  case round =>
    obtain ⟨q, O, hq, rfl, rfl, HO, hb⟩ := hrel
    have hOs : O.size = q := by
      have h : O.data.toList.length = O.size := by simp
      rw [HO.out, encR_len] at h
      exact h.symm
    have hOs2 : O.size ≤ 2 * s.size + 1 := by omega
    have HOS := Lib.hid hOs
    clear hOs
    have hsz := hb.size
    by_cases hlt : 6 * q < 8 * s.size
    · have hq6 : (6 : Int) * (q : Int) < 8 * (s.size : Int) := by omega
      go_wp2_with fail
      go_loop [5, 6] (fun n i => ∃ (j N p : Nat), j ≤ 6 ∧ Hid (p = 6 * q + j) ∧ p ≤ 6 * q + 6 ∧ i = .int .i64 p ∧ n = .int .i64 N ∧ N < 2 ^ j ∧ Hid (N = sxt s.data.toList (6 * q) j)) (fun _ i => 6 * q + 6 - (intOf i).toNat)
      case atStart => exact ⟨0, 0, 6 * q, by omega, rfl, by omega, by go_num, rfl, by decide, rfl⟩
      case round =>
        obtain ⟨j, N, p, hj, hp, hp2, rfl, rfl, hN, HN⟩ := hrel
        have hN64 : N ≤ 64 := by
          have : 2 ^ j ≤ 2 ^ 6 := Nat.pow_le_pow_right (by decide) hj
          omega
        have hN65 : (N : Int) ≤ 64 := by omega
        by_cases hj6 : j < 6
        · have hpq : (p : Int) < 6 * (q : Int) + 6 := by have := hp.out; omega
          have hPW : 2 ^ (j + 1) = 2 * 2 ^ j := by rw [Nat.pow_succ]; omega
          have HPW := Lib.hid hPW
          clear hPW
          have hpn : p + 1 ≤ 6 * q + 6 := by have := hp.out; omega
          have hp1 : Hid (p + 1 = 6 * q + (j + 1)) := by show p + 1 = _; have := hp.out; omega
          by_cases hpl : p < 8 * s.size
          · have hpl2 : (p : Int) < 8 * (s.size : Int) := by omega
            have hix : (p : Int) / 8 < (s.size : Int) := by omega
            have hix0 : (0 : Int) ≤ (p : Int) / 8 := by omega
            obtain ⟨β, hβ⟩ : ∃ β, bitAt s.data.toList p = β := ⟨_, rfl⟩
            have hβ2 : β = 0 ∨ β = 1 := by
              have : bitAt s.data.toList p < 2 := Nat.mod_lt _ (by decide)
              omega
            have HBI := Lib.hid (bit_int _ β (p % 8) (s[p / 8]'(by omega)).toNat_lt (by rw [bit_at hpl, hβ]))
            have HSX : Hid (2 * N + β = sxt s.data.toList (6 * q) (j + 1)) := by
              show _ = sxt s.data.toList (6 * q) (j + 1)
              rw [sxt, ← HN.out, ← hp.out, hβ]
            clear hβ
            have hr8 : p % 8 = 0 ∨ p % 8 = 1 ∨ p % 8 = 2 ∨ p % 8 = 3 ∨ p % 8 = 4 ∨ p % 8 = 5 ∨ p % 8 = 6 ∨ p % 8 = 7 := by omega
            rcases hβ2 with rfl | rfl
            · rcases hr8 with hr | hr | hr | hr | hr | hr | hr | hr
              all_goals
                first
                | (have hri : (p : Int) % 8 = 0 := by omega
                   have hbt : bits .and .u8 (((s[p / 8].toNat : Int) / 128)) 1 = 0 := by
                    have h := HBI.out
                    rw [show p % 8 = 0 by omega] at h
                    simpa using h)
                | (have hri : (p : Int) % 8 = 1 := by omega
                   have hbt : bits .and .u8 (((s[p / 8].toNat : Int) / 64)) 1 = 0 := by
                    have h := HBI.out
                    rw [show p % 8 = 1 by omega] at h
                    simpa using h)
                | (have hri : (p : Int) % 8 = 2 := by omega
                   have hbt : bits .and .u8 (((s[p / 8].toNat : Int) / 32)) 1 = 0 := by
                    have h := HBI.out
                    rw [show p % 8 = 2 by omega] at h
                    simpa using h)
                | (have hri : (p : Int) % 8 = 3 := by omega
                   have hbt : bits .and .u8 (((s[p / 8].toNat : Int) / 16)) 1 = 0 := by
                    have h := HBI.out
                    rw [show p % 8 = 3 by omega] at h
                    simpa using h)
                | (have hri : (p : Int) % 8 = 4 := by omega
                   have hbt : bits .and .u8 (((s[p / 8].toNat : Int) / 8)) 1 = 0 := by
                    have h := HBI.out
                    rw [show p % 8 = 4 by omega] at h
                    simpa using h)
                | (have hri : (p : Int) % 8 = 5 := by omega
                   have hbt : bits .and .u8 (((s[p / 8].toNat : Int) / 4)) 1 = 0 := by
                    have h := HBI.out
                    rw [show p % 8 = 5 by omega] at h
                    simpa using h)
                | (have hri : (p : Int) % 8 = 6 := by omega
                   have hbt : bits .and .u8 (((s[p / 8].toNat : Int) / 2)) 1 = 0 := by
                    have h := HBI.out
                    rw [show p % 8 = 6 by omega] at h
                    simpa using h)
                | (have hri : (p : Int) % 8 = 7 := by omega
                   have hbt : bits .and .u8 ((s[p / 8].toNat : Int)) 1 = 0 := by
                    have h := HBI.out
                    rw [show p % 8 = 7 by omega] at h
                    simpa using h)
                clear hr
                go_wp2_with fail
                go_round
                case rel => exact ⟨j + 1, 2 * N + 0, p + 1, by omega, hp1.out, hpn, by go_num, by go_num, by rw [HPW.out]; omega, HSX.out⟩
                case measure => simp [intOf]; omega
            · rcases hr8 with hr | hr | hr | hr | hr | hr | hr | hr
              all_goals
                first
                | (have hri : (p : Int) % 8 = 0 := by omega
                   have hbt : bits .and .u8 (((s[p / 8].toNat : Int) / 128)) 1 = 1 := by
                    have h := HBI.out
                    rw [show p % 8 = 0 by omega] at h
                    simpa using h)
                | (have hri : (p : Int) % 8 = 1 := by omega
                   have hbt : bits .and .u8 (((s[p / 8].toNat : Int) / 64)) 1 = 1 := by
                    have h := HBI.out
                    rw [show p % 8 = 1 by omega] at h
                    simpa using h)
                | (have hri : (p : Int) % 8 = 2 := by omega
                   have hbt : bits .and .u8 (((s[p / 8].toNat : Int) / 32)) 1 = 1 := by
                    have h := HBI.out
                    rw [show p % 8 = 2 by omega] at h
                    simpa using h)
                | (have hri : (p : Int) % 8 = 3 := by omega
                   have hbt : bits .and .u8 (((s[p / 8].toNat : Int) / 16)) 1 = 1 := by
                    have h := HBI.out
                    rw [show p % 8 = 3 by omega] at h
                    simpa using h)
                | (have hri : (p : Int) % 8 = 4 := by omega
                   have hbt : bits .and .u8 (((s[p / 8].toNat : Int) / 8)) 1 = 1 := by
                    have h := HBI.out
                    rw [show p % 8 = 4 by omega] at h
                    simpa using h)
                | (have hri : (p : Int) % 8 = 5 := by omega
                   have hbt : bits .and .u8 (((s[p / 8].toNat : Int) / 4)) 1 = 1 := by
                    have h := HBI.out
                    rw [show p % 8 = 5 by omega] at h
                    simpa using h)
                | (have hri : (p : Int) % 8 = 6 := by omega
                   have hbt : bits .and .u8 (((s[p / 8].toNat : Int) / 2)) 1 = 1 := by
                    have h := HBI.out
                    rw [show p % 8 = 6 by omega] at h
                    simpa using h)
                | (have hri : (p : Int) % 8 = 7 := by omega
                   have hbt : bits .and .u8 ((s[p / 8].toNat : Int)) 1 = 1 := by
                    have h := HBI.out
                    rw [show p % 8 = 7 by omega] at h
                    simpa using h)
                clear hr
                go_wp2_with fail
                go_round
                case rel => exact ⟨j + 1, 2 * N + 1, p + 1, by omega, hp1.out, hpn, by go_num, by go_num, by rw [HPW.out]; omega, HSX.out⟩
                case measure => simp [intOf]; omega
          · have hpl2 : ¬ (p : Int) < 8 * (s.size : Int) := by omega
            have HSX : Hid (2 * N = sxt s.data.toList (6 * q) (j + 1)) := by
              show _ = sxt s.data.toList (6 * q) (j + 1)
              rw [sxt, ← HN.out, bit_beyond _ _ (by rw [hl.out, ← hp.out]; omega)]
              rfl
            go_wp2_with fail
            go_round
            case rel => exact ⟨j + 1, 2 * N, p + 1, by omega, hp1.out, hpn, by go_num, by go_num, by rw [HPW.out]; omega, HSX.out⟩
            case measure => simp [intOf]; omega
        · have hpq : ¬ (p : Int) < 6 * (q : Int) + 6 := by have := hp.out; omega
          have hj7 : j = 6 := by omega
          have HS6 : Hid (encR s.data.toList (q + 1) = O.data.toList ++ [L64 (N % 64)]) := by
            show encR s.data.toList (q + 1) = _
            rw [encR_snoc, HO.out, HN.out, hj7, Nat.mod_eq_of_lt (sxt_lt _ _ 6)]
          clear hp hj7
          have hcv := conv_plain1 wr (L64 (N % 64))
          go_wp2_with fail
          refine (rletter_any N _ (by omega)).mono ?_
          rintro e w' ⟨rfl, rfl⟩
          go_wp2_with fail
          go_roundw
          case rel =>
            refine ⟨q + 1, O ++ ⟨#[L64 (N % 64)]⟩, by omega, by go_num, rfl, ?_, ?_⟩
            · show _ = encR s.data.toList (q + 1)
              rw [HS6.out, ByteArray.data_append, Array.toList_append]
            · exact hb.alloc hsz _
          case measure => simp [intOf]; omega
    · have hq6 : ¬ (6 : Int) * (q : Int) < 8 * (s.size : Int) := by omega
      have hO : Hid (O.data.toList = encC s.data.toList) := by
        show O.data.toList = _
        rw [HO.out, ← encR_eq, hl.out]
        congr 1
        omega
      clear HOS
      go_wp2_with fail
      go_loop [3] (fun o => ∃ (g : Nat) (P : ByteArray), o = .string P ∧ g ≤ 3 ∧ (P.size + g) % 4 = 0 ∧ P.size + g ≤ O.size + 3 ∧ Hid (P.data.toList ++ List.replicate g 61 = encE s.data.toList)) (fun o => match o with | .string P => (4 - P.size % 4) % 4 | _ => 0)
      case atStart =>
        refine ⟨(4 - O.size % 4) % 4, O, rfl, by omega, by omega, by omega, ?_⟩
        show _ = encE s.data.toList
        rw [encE_eq, ← hO.out, pad_more O.data.toList [] ((4 - O.data.toList.length % 4) % 4) (by omega) (by omega)]
        simp
      case round =>
        obtain ⟨g, P, rfl, hg3, hg4, hgs, HP⟩ := hrel
        by_cases hg0 : g = 0
        · have hq : ((P.size : Int) % 4 != 0) = false := by simp; omega
          have hres : Hid ((⟨(encE s.data.toList).toArray⟩ : ByteArray) = P) := by
            show (⟨(encE s.data.toList).toArray⟩ : ByteArray) = P
            rw [← HP.out, hg0]
            simp
          clear hg0
          go_wp2_with fail
          go_ret
          rw [hres.out]
          exact ⟨rfl, hb⟩
        · have hq : ((P.size : Int) % 4 != 0) = true := by simp; omega
          have hone : (⟨#[61]⟩ : ByteArray).size = 1 := rfl
          have HONE := Lib.hid hone
          clear hone
          have hnew : Hid ((P ++ ⟨#[61]⟩).data.toList ++ List.replicate (g - 1) 61 = encE s.data.toList) := by
            show _ = encE s.data.toList
            rw [← HP.out, ByteArray.data_append, Array.toList_append, List.append_assoc]
            congr 1
            obtain ⟨g', rfl⟩ : ∃ g', g = g' + 1 := ⟨g - 1, by omega⟩
            rfl
          go_wp2_with fail
          go_round
          case rel => exact ⟨g - 1, P ++ (⟨#[61]⟩ : ByteArray), rfl, by omega, by rw [ByteArray.size_append, HONE.out]; omega, by rw [ByteArray.size_append, HONE.out]; omega, hnew.out⟩
          case measure => simp [ByteArray.size_append, HONE.out]; omega
end Go.Proofs.YtfbmabbehiicmaaDoor
