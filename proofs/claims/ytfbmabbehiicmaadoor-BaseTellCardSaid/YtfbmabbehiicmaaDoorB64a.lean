/- base.Encode. -/
import Derived.Test.YtfbmabbehiicmaaDoorBuild2
import Derived.Test.YtfbmabbehiicmaaDoorMx
import Derived.Test.YtfbmabbehiicmaaDoorUtf4
import Derived.Test.YtfbmabbehiicmaaDoorB64
import Derived.Deep.LoopGhost
set_option linter.unusedVariables false
namespace Go.Proofs.YtfbmabbehiicmaaDoor
open Go.RowKit

set_option maxHeartbeats 2000000 in
set_option maxRecDepth 100000 in
theorem bencode_any (s : ByteArray) (w : World) (hs : s.size ≤ 1073741824) :
    Calls Tryd.prog 20 #[.string s] w fun e w' => e = .returned (.string ⟨(encE s.data.toList).toArray⟩) ∧ Below w.heap.size w w' := by
  go_enter Tryd.func20, Tryd.ntmps20
  go_wp2_with fail
  go_loopw [4, 5, 9] (fun b h i wr => ∃ (k : Nat) (B : Nat) (H : Nat) (o : List UInt8), k ≤ s.size ∧ i = .int .i64 k ∧ b = .int .i64 B ∧ h = .int .i64 H ∧ B < 65536 ∧ (H = 0 ∨ H = 2 ∨ H = 4) ∧ o.length ≤ 2 * k ∧ Hid (o ++ encA B H (s.data.toList.drop k) = encA 0 0 s.data.toList) ∧ IsB w.heap.size w.heap.size (Lib.byteCells o) wr ∧ Below w.heap.size w wr) (fun _ _ i _ => s.size - (intOf i).toNat)
  case atStart => exact ⟨0, 0, 0, [], Nat.zero_le _, rfl, rfl, rfl, by decide, .inl rfl, Nat.le_refl _, rfl, Lib.IsBuilderF.of (Lib.fresh_isBuilder 41 5 w), (Below.refl _ w).alloc (Nat.le_refl _) _⟩
  case round =>
    obtain ⟨k, B, H, o, hk, rfl, rfl, rfl, hB, hH, ho, HO, hI, hbb⟩ := hrel
    have hsz2 := hbb.size
    have hH4 : H ≤ 4 := by omega
    by_cases hlt : k < s.size
    · have hc8 := s[k].toNat_lt
      have hc9 : (s[k].toNat : Int) ≤ 255 := by omega
      have HST := Lib.hid (step_int B s[k] hB)
      have hBl := stepB_lt B s[k]
      have HD : Hid (o ++ (emitE (stepB B s[k]) (H + 8) ++ encA (stepB B s[k]) ((H + 8) % 6) (s.data.toList.drop (k + 1))) = encA 0 0 s.data.toList) := by
        have h := HO.out
        rw [u_dropB hlt] at h
        exact h
      clear HO
      generalize hB2 : stepB B s[k] = B2 at *
      clear hB2
      go_wp2_with fail
      rw [HST.out]
      clear HST
      go_loopw [5] (fun h wr => ∃ (h' : Nat) (o' : List UInt8), h = .int .i64 h' ∧ (h' = 12 ∨ h' = 10 ∨ h' = 8 ∨ h' = 6 ∨ h' = 4 ∨ h' = 2 ∨ h' = 0) ∧ h' % 6 = (H + 8) % 6 ∧ Hid (o' ++ emitE B2 h' = o ++ emitE B2 (H + 8)) ∧ o'.length + h' / 6 ≤ 2 * k + 2 ∧ IsB w.heap.size w.heap.size (Lib.byteCells o') wr ∧ Below w.heap.size w wr) (fun h _ => (intOf h).toNat)
      case atStart => exact ⟨H + 8, o, by go_num, by omega, rfl, rfl, by omega, hI, hbb⟩
      case round =>
        obtain ⟨h', o', rfl, hcase, hmod, HE, hol, hI2, hbb2⟩ := hrel
        have hsz3 := hbb2.size
        by_cases h6 : 6 ≤ h'
        · have hcase4 : h' = 12 ∨ h' = 10 ∨ h' = 8 ∨ h' = 6 := by omega
          obtain ⟨n, hn, e1, e2⟩ := emit_step (B := B2) hcase4
          have HE2 : Hid ((o' ++ [L64 n]) ++ emitE B2 (h' - 6) = o ++ emitE B2 (H + 8)) := by
            show (o' ++ [L64 n]) ++ emitE B2 (h' - 6) = o ++ emitE B2 (H + 8)
            rw [← HE.out, e1, List.append_assoc]; rfl
          have hcells := Lib.hid (L64_cells o' n hn)
          have hmask := Lib.hid (mask63 (B2 / 2 ^ (h' - 6)) (Nat.lt_of_le_of_lt (Nat.div_le_self _ _) (by omega)))
          have E2 := Lib.hid e2
          clear e1 e2
          have hn0 : (0 : Int) ≤ (n : Int) := by omega
          have hn1 : (n : Int) < 64 := by omega
          obtain rfl | rfl | rfl | rfl := hcase4
          · have hm : bits .and .i64 ((B2 : Int) / 64) 63 = (n : Int) := by
              have h := hmask.out
              rw [← E2.out] at h
              exact h
            go_wp2_with fail
            refine (writeByte_k w.heap.size w.heap.size (Lib.byteCells o') _ _ hI2 (by rw [Lib.byteCells_length]; omega) hsz3).mono ?_
            rintro e w1 ⟨rfl, h1, b1, k1⟩
            have h1' : IsB w.heap.size w.heap.size (Lib.byteCells (o' ++ [L64 n])) w1 := by rw [← hcells.out]; exact h1
            clear h1
            go_wp2_with fail
            go_roundw
            case rel => exact ⟨6, o' ++ [L64 n], by go_num, by omega, by omega, HE2.out, by rw [List.length_append]; simp; omega, h1', hbb2.trans b1⟩
            case measure => simp [intOf]
          · have hm : bits .and .i64 ((B2 : Int) / 16) 63 = (n : Int) := by
              have h := hmask.out
              rw [← E2.out] at h
              exact h
            go_wp2_with fail
            refine (writeByte_k w.heap.size w.heap.size (Lib.byteCells o') _ _ hI2 (by rw [Lib.byteCells_length]; omega) hsz3).mono ?_
            rintro e w1 ⟨rfl, h1, b1, k1⟩
            have h1' : IsB w.heap.size w.heap.size (Lib.byteCells (o' ++ [L64 n])) w1 := by rw [← hcells.out]; exact h1
            clear h1
            go_wp2_with fail
            go_roundw
            case rel => exact ⟨4, o' ++ [L64 n], by go_num, by omega, by omega, HE2.out, by rw [List.length_append]; simp; omega, h1', hbb2.trans b1⟩
            case measure => simp [intOf]
          · have hm : bits .and .i64 ((B2 : Int) / 4) 63 = (n : Int) := by
              have h := hmask.out
              rw [← E2.out] at h
              exact h
            go_wp2_with fail
            refine (writeByte_k w.heap.size w.heap.size (Lib.byteCells o') _ _ hI2 (by rw [Lib.byteCells_length]; omega) hsz3).mono ?_
            rintro e w1 ⟨rfl, h1, b1, k1⟩
            have h1' : IsB w.heap.size w.heap.size (Lib.byteCells (o' ++ [L64 n])) w1 := by rw [← hcells.out]; exact h1
            clear h1
            go_wp2_with fail
            go_roundw
            case rel => exact ⟨2, o' ++ [L64 n], by go_num, by omega, by omega, HE2.out, by rw [List.length_append]; simp; omega, h1', hbb2.trans b1⟩
            case measure => simp [intOf]
          · have hm : bits .and .i64 (B2 : Int) 63 = (n : Int) := by
              have h := hmask.out
              rw [← E2.out] at h
              simpa using h
            go_wp2_with fail
            refine (writeByte_k w.heap.size w.heap.size (Lib.byteCells o') _ _ hI2 (by rw [Lib.byteCells_length]; omega) hsz3).mono ?_
            rintro e w1 ⟨rfl, h1, b1, k1⟩
            have h1' : IsB w.heap.size w.heap.size (Lib.byteCells (o' ++ [L64 n])) w1 := by rw [← hcells.out]; exact h1
            clear h1
            go_wp2_with fail
            go_roundw
            case rel => exact ⟨0, o' ++ [L64 n], by go_num, by omega, by omega, HE2.out, by rw [List.length_append]; simp; omega, h1', hbb2.trans b1⟩
            case measure => simp [intOf]
        · have hlow : h' = 4 ∨ h' = 2 ∨ h' = 0 := by omega
          have hem : emitE B2 h' = [] := by rcases hlow with rfl | rfl | rfl <;> rfl
          have HD2 : Hid (o' ++ encA B2 h' (s.data.toList.drop (k + 1)) = encA 0 0 s.data.toList) := by
            show o' ++ encA B2 h' (s.data.toList.drop (k + 1)) = encA 0 0 s.data.toList
            have h := HD.out
            have h2 := HE.out
            rw [hem, List.append_nil] at h2
            rw [← List.append_assoc, ← h2, ← hmod] at h
            rw [← h]
            congr 2
            omega
          clear HE HD hem
          go_wp2_with fail
          go_roundw
          case rel => exact ⟨k + 1, B2, h', o', by omega, by go_num, rfl, rfl, by omega, by omega, by omega, HD2.out, hI2, hbb2⟩
          case measure => simp [intOf]; omega
    · have hend : s.data.toList.drop k = [] := List.drop_eq_nil_of_le (by simp; omega)
      have HO2 := HO.out
      rw [hend] at HO2
      clear hend HO
      obtain hH0 | hH2 : H = 0 ∨ (H = 2 ∨ H = 4) := by omega
      · subst hH0
        have HO3 : Hid (o = encA 0 0 s.data.toList) := by
          show o = _
          rw [← HO2]
          simp [encA]
        clear HO2
        have hlen : o.length ≤ 2 * s.size + 1 := by omega
        go_wp2_with fail
        go_loopg [] ((4 - o.length % 4) % 4) (fun g wx => g ≤ 3 ∧ ∃ p : List UInt8, Hid (p ++ List.replicate g 61 = encE s.data.toList) ∧ (p.length + g) % 4 = 0 ∧ p.length + g ≤ 2 * s.size + 5 ∧ IsB w.heap.size w.heap.size (Lib.byteCells p) wx ∧ Below w.heap.size w wx)
        case atStart =>
          refine ⟨by omega, o, ?_, by omega, by omega, hI, hbb⟩
          show _ = encE s.data.toList
          unfold encE
          rw [← HO3.out, pad_more o [] ((4 - o.length % 4) % 4) (by omega) (by omega)]
        case round =>
          obtain ⟨hg3, p, HP, hp4, hpl, hIp, hbp⟩ := hrel
          have hszp := hbp.size
          have hbl := Lib.byteCells_length p
          have HBL := Lib.hid hbl
          clear hbl
          by_cases hg0 : gk = 0
          · have hq : ((p.length : Int) % 4 != 0) = false := by simp; omega
            have hres : Hid (p = encE s.data.toList) := by
              show p = _
              rw [← HP.out, hg0]; simp
            clear hg0
            go_wp2_with fail
            refine (Tryd.Builder_Len_f w.heap.size w.heap.size (Lib.byteCells p) _ hIp).mono ?_
            rintro e w2 ⟨rfl, rfl⟩
            rw [HBL.out]
            go_wp2_with fail
            refine (Tryd.Builder_String_any_k w.heap.size w.heap.size p _ hIp (by omega)).mono ?_
            rintro e w3 ⟨rfl, _, b3, _⟩
            rw [hres.out]
            go_wp2_with fail
            go_ret
            exact ⟨rfl, hbp.trans b3⟩
          · have hq : ((p.length : Int) % 4 != 0) = true := by simp; omega
            have hnew : Hid ((p ++ [61]) ++ List.replicate (gk - 1) 61 = encE s.data.toList) := by
              show _ = encE s.data.toList
              rw [← HP.out, List.append_assoc]
              congr 1
              obtain ⟨g', rfl⟩ : ∃ g', gk = g' + 1 := ⟨gk - 1, by omega⟩
              rfl
            go_wp2_with fail
            refine (Tryd.Builder_Len_f w.heap.size w.heap.size (Lib.byteCells p) _ hIp).mono ?_
            rintro e w2 ⟨rfl, rfl⟩
            rw [HBL.out]
            go_wp2_with fail
            refine (writeByte_k w.heap.size w.heap.size (Lib.byteCells p) 61 _ hIp (by rw [Lib.byteCells_length]; omega) hszp).mono ?_
            rintro e w3 ⟨rfl, h3, b3, _⟩
            have h3' : IsB w.heap.size w.heap.size (Lib.byteCells (p ++ [61])) w3 := by rw [Lib.byteCells_append]; exact h3
            go_wp2_with fail
            go_roundg (gk - 1)
            case rel => exact ⟨by omega, p ++ [61], hnew.out, by simp; omega, by simp; omega, h3', hbp.trans b3⟩
            case measure => omega
      · have hb2 : (H : Int) ≤ 6 := by omega
        obtain ⟨n, hn, e1, e2⟩ := tail_int B H hB hH2
        have HO3 : Hid (o ++ [L64 n] = encA 0 0 s.data.toList) := by
          show _ = encA 0 0 s.data.toList
          rw [← HO2, ← e1]
          unfold encA
          rw [if_neg (by omega)]
        have hcells := Lib.hid (L64_cells o n hn)
        have hmask := Lib.hid (mask63 (B * 2 ^ (6 - H)) (by rcases hH2 with rfl | rfl <;> omega))
        have E2 := Lib.hid e2
        clear e1 e2 HO2
        have hn0 : (0 : Int) ≤ (n : Int) := by omega
        have hn1 : (n : Int) < 64 := by omega
        have hle : Lib.byteCells o = Lib.byteCells o := rfl
        have hlen : (o ++ [L64 n]).length ≤ 2 * s.size + 1 := by simp; omega
        obtain rfl | rfl := hH2
        all_goals
          first
            | (have hm : bits .and .i64 ((B : Int) * 16) 63 = (n : Int) := by
                have h := hmask.out
                rw [← E2.out] at h
                exact h)
            | (have hm : bits .and .i64 ((B : Int) * 4) 63 = (n : Int) := by
                have h := hmask.out
                rw [← E2.out] at h
                exact h)
          clear hle
          go_wp2_with fail
          refine (writeByte_k w.heap.size w.heap.size (Lib.byteCells o) _ _ hI (by rw [Lib.byteCells_length]; omega) hsz2).mono ?_
          rintro e w1 ⟨rfl, h1, b1, k1⟩
          have h1' : IsB w.heap.size w.heap.size (Lib.byteCells (o ++ [L64 n])) w1 := by rw [← hcells.out]; exact h1
          clear h1
          have c1 := hbb.trans b1
          go_wp2_with fail
          go_loopg [] ((4 - (o ++ [L64 n]).length % 4) % 4) (fun g wx => g ≤ 3 ∧ ∃ p : List UInt8, Hid (p ++ List.replicate g 61 = encE s.data.toList) ∧ (p.length + g) % 4 = 0 ∧ p.length + g ≤ 2 * s.size + 5 ∧ IsB w.heap.size w.heap.size (Lib.byteCells p) wx ∧ Below w.heap.size w wx)
          case atStart =>
            refine ⟨by omega, (o ++ [L64 n]), ?_, by omega, by omega, h1', c1⟩
            show _ = encE s.data.toList
            unfold encE
            rw [← HO3.out, pad_more (o ++ [L64 n]) [] ((4 - (o ++ [L64 n]).length % 4) % 4) (by omega) (by omega)]
          case round =>
            obtain ⟨hg3, p, HP, hp4, hpl, hIp, hbp⟩ := hrel
            have hszp := hbp.size
            have hbl := Lib.byteCells_length p
            have HBL := Lib.hid hbl
            clear hbl
            by_cases hg0 : gk = 0
            · have hq : ((p.length : Int) % 4 != 0) = false := by simp; omega
              have hres : Hid (p = encE s.data.toList) := by
                show p = _
                rw [← HP.out, hg0]; simp
              clear hg0
              go_wp2_with fail
              refine (Tryd.Builder_Len_f w.heap.size w.heap.size (Lib.byteCells p) _ hIp).mono ?_
              rintro e w2 ⟨rfl, rfl⟩
              rw [HBL.out]
              go_wp2_with fail
              refine (Tryd.Builder_String_any_k w.heap.size w.heap.size p _ hIp (by omega)).mono ?_
              rintro e w3 ⟨rfl, _, b3, _⟩
              rw [hres.out]
              go_wp2_with fail
              go_ret
              exact ⟨rfl, hbp.trans b3⟩
            · have hq : ((p.length : Int) % 4 != 0) = true := by simp; omega
              have hnew : Hid ((p ++ [61]) ++ List.replicate (gk - 1) 61 = encE s.data.toList) := by
                show _ = encE s.data.toList
                rw [← HP.out, List.append_assoc]
                congr 1
                obtain ⟨g', rfl⟩ : ∃ g', gk = g' + 1 := ⟨gk - 1, by omega⟩
                rfl
              go_wp2_with fail
              refine (Tryd.Builder_Len_f w.heap.size w.heap.size (Lib.byteCells p) _ hIp).mono ?_
              rintro e w2 ⟨rfl, rfl⟩
              rw [HBL.out]
              go_wp2_with fail
              refine (writeByte_k w.heap.size w.heap.size (Lib.byteCells p) 61 _ hIp (by rw [Lib.byteCells_length]; omega) hszp).mono ?_
              rintro e w3 ⟨rfl, h3, b3, _⟩
              have h3' : IsB w.heap.size w.heap.size (Lib.byteCells (p ++ [61])) w3 := by rw [Lib.byteCells_append]; exact h3
              go_wp2_with fail
              go_roundg (gk - 1)
              case rel => exact ⟨by omega, p ++ [61], hnew.out, by simp; omega, by simp; omega, h3', hbp.trans b3⟩
              case measure => omega
end Go.Proofs.YtfbmabbehiicmaaDoor
