/- refs.findName. -/
import Derived.Test.YteeplfbaflldaaaDoorRf2
set_option linter.unusedVariables false
set_option linter.unusedSimpArgs false
namespace Go.Proofs.YteeplfbaflldaaaDoor.R9
open Go.RowKit

/-- The name that stands at the front of r, of at most so many bytes: its character, and how many bytes it takes. -/
def nameF (r : List UInt8) (attr : Bool) : Nat → Option (Int × Nat)
  | 0 => none
  | n + 1 =>
    if r[n + 1]? = some 59 then
      (if looseN (r.take (n + 1)) = 0 then (if strictN (r.take (n + 1)) = 0 then nameF r attr n else some (strictN (r.take (n + 1)), n + 2))
        else if looseN (r.take (n + 1)) = 0 then nameF r attr n else some (looseN (r.take (n + 1)), n + 2))
    else if attr = true ∧ goesL r (n + 1) = true ∧ ¬ looseN (r.take (n + 1)) = 0 then none
    else if looseN (r.take (n + 1)) = 0 then nameF r attr n else some (looseN (r.take (n + 1)), n + 1)
def nameR (r : List UInt8) (attr : Bool) : Option (Int × Nat) := nameF r attr (min 7 r.length)
theorem goes_drop (l : List UInt8) (a n : Nat) : goesL (l.drop a) n = goesL l (a + n) := by
  unfold goesL
  rw [List.getElem?_drop]

set_option maxHeartbeats 3200000 in
set_option maxRecDepth 100000 in
theorem name_any (s : ByteArray) (a : Nat) (attr : Bool) (w : World) (ha : a ≤ s.size) (hs : s.size ≤ 5000) :
    Calls Tryd.prog 110 #[.string s, .int .i64 a, .bool attr] w fun e w' => e = .returned (ret3 a (nameR (s.data.toList.drop a) attr)) ∧ w = w' := by
  obtain ⟨r, hr⟩ : ∃ r, s.data.toList.drop a = r := ⟨_, rfl⟩
  have hrl : r.length = s.size - a := by rw [← hr, List.length_drop]; simp
  obtain ⟨F, hF⟩ : ∃ F, nameR r attr = F := ⟨_, rfl⟩
  obtain ⟨N, hN⟩ : ∃ N, min 7 r.length = N := ⟨_, rfl⟩
  have HF0 : Hid (nameF r attr N = F) := by show _ = _; rw [← hF, nameR, hN]
  have hN7 : N ≤ 7 := by omega
  have hNs : a + N ≤ s.size := by omega
  have hNi : min (7 : Int) ((s.size : Int) - a) = N := by omega
  rw [hr, hF]
  have HR := Lib.hid hr
  clear hF hr hrl hN
  go_enter Tryd.func110, Tryd.ntmps110
  go_wp2_with fail
  all_goals
    go_loop [9] (fun i => ∃ n : Nat, n ≤ 7 ∧ a + n ≤ s.size ∧ i = .int .i64 n ∧ nameF r attr n = F) (fun i => (intOf i).toNat)
    case atStart => exact ⟨N, hN7, hNs, by congr 1; omega, HF0.out⟩
    case round =>
      clear HF0 hN7 hNs hNi
      obtain ⟨n, hn7, hns, rfl, hf⟩ := hrel
      cases n with
      | zero =>
        have HF := Lib.hid hf
        clear hf
        go_wp2_with fail
        go_ret3
        exact ⟨by rw [← HF.out]; rfl, rfl⟩
      | succ m =>
        have HF := Lib.hid hf
        clear hf
        obtain ⟨n, hn⟩ : ∃ n, m + 1 = n := ⟨_, rfl⟩
        obtain ⟨J, hJ⟩ : ∃ J, a + n = J := ⟨_, rfl⟩
        obtain ⟨P, hP⟩ : ∃ P, s.extract a J = P := ⟨_, rfl⟩
        have hPl : P.toList = r.take n := by
          rw [ByteArray.toList_eq, ← hP, ByteArray.data_extract, Array.toList_extract, List.extract_eq_take_drop, HR.out]
          congr 1
          omega
        obtain ⟨L0, hL0⟩ : ∃ L, looseN (r.take n) = L := ⟨_, rfl⟩
        obtain ⟨S0, hS0⟩ : ∃ L, strictN (r.take n) = L := ⟨_, rfl⟩
        obtain ⟨G0, hG0⟩ : ∃ L, goesL r n = L := ⟨_, rfl⟩
        have HLO := Lib.hid (loose_any P w)
        have HSO := Lib.hid (strict_any P w)
        have HGO := Lib.hid (goes_any s J w)
        have hGJ : goesL s.data.toList J = G0 := by rw [← hG0, ← HR.out, goes_drop, hJ]
        rw [hPl, hL0] at HLO
        rw [hPl, hS0] at HSO
        rw [hGJ] at HGO
        have HSTEP : nameF r attr (m + 1) = if r[n]? = some 59 then (if L0 = 0 then (if S0 = 0 then nameF r attr m else some (S0, m + 2)) else if L0 = 0 then nameF r attr m else some (L0, m + 2))
            else if attr = true ∧ G0 = true ∧ ¬ L0 = 0 then none else if L0 = 0 then nameF r attr m else some (L0, m + 1) := by
          rw [nameF]
          simp only [hn, hL0, hS0, hG0]
        have hrn : r[n]? = s.data.toList[J]? := by rw [← HR.out, List.getElem?_drop, hJ]
        have HJ : Hid (a + (m + 1) = J) := by show _ = _; omega
        have hn0 : (0 : Int) < (n : Int) := by omega
        have hnm : ((m + 1 : Nat) : Int) = (n : Int) := by omega
        have haJ : (a : Int) + (n : Int) = (J : Int) := by omega
        have hJ1 : (J : Int) ≤ s.size := by omega
        have ha0 : (0 : Int) ≤ a := by omega
        have haJ2 : (a : Int) ≤ J := by omega
        rw [hnm]
        clear hPl hL0 hS0 hG0 hGJ
        by_cases hJs : J < s.size
        · have hJi : (J : Int) < s.size := by omega
          rw [List.getElem?_eq_getElem (show J < s.data.toList.length by simpa using hJs)] at hrn
          by_cases h59 : s[J] = 59
          · have hq : ((s[J].toNat : Int) == 59) = true := by rw [h59]; rfl
            have hsemi : r[n]? = some 59 := by rw [hrn]; exact congrArg some h59
            clear hrn h59 hnm hJ
            rw [if_pos hsemi] at HSTEP
            clear hsemi
            by_cases hL : L0 = 0
            · rw [if_pos hL] at HSTEP
              subst hL
              go_wp2_with fail
              refine HLO.out.mono ?_
              rintro e w' ⟨rfl, rfl⟩
              go_wp2_with fail
              refine HSO.out.mono ?_
              rintro e w' ⟨rfl, rfl⟩
              by_cases hS : S0 = 0
              · rw [if_pos hS] at HSTEP
                subst hS
                have HST := Lib.hid HSTEP
                clear HSTEP
                go_wp2_with fail
                go_round
                case rel => exact ⟨m, by omega, by omega, by go_num, by rw [← HF.out, HST.out]⟩
                case measure => first | (simp [intOf]; done) | (simp [intOf]; omega)
              · rw [if_neg hS] at HSTEP
                have hS' : (S0 == 0) = false := by simpa using hS
                have HST := Lib.hid HSTEP
                clear HSTEP hS
                go_wp2_with fail
                go_ret3
                refine ⟨?_, rfl⟩
                rw [← HF.out, HST.out]
                have h1 := HJ.out
                exact ret_num (by omega)
            · rw [if_neg hL, if_neg hL] at HSTEP
              have hL' : (L0 == 0) = false := by simpa using hL
              have HST := Lib.hid HSTEP
              clear HSTEP hL
              go_wp2_with fail
              refine HLO.out.mono ?_
              rintro e w' ⟨rfl, rfl⟩
              go_wp2_with fail
              go_ret3
              refine ⟨?_, rfl⟩
              rw [← HF.out, HST.out]
              have h1 := HJ.out
              exact ret_num (by omega)
          · have hq : ((s[J].toNat : Int) == 59) = false := byte_ne (c := 59) h59 rfl
            have hsemi : ¬ r[n]? = some 59 := by rw [hrn]; intro e; exact h59 (Option.some.inj e)
            clear hrn h59 hnm hJ
            rw [if_neg hsemi] at HSTEP
            clear hsemi
            cases attr with
            | false =>
              rw [if_neg (by simp)] at HSTEP
              by_cases hL : L0 = 0
              · rw [if_pos hL] at HSTEP
                subst hL
                have HST := Lib.hid HSTEP
                clear HSTEP
                go_wp2_with fail
                refine HLO.out.mono ?_
                rintro e w' ⟨rfl, rfl⟩
                go_wp2_with fail
                go_round
                case rel => exact ⟨m, by omega, by omega, by go_num, by rw [← HF.out, HST.out]⟩
                case measure => first | (simp [intOf]; done) | (simp [intOf]; omega)
              · rw [if_neg hL] at HSTEP
                have hL' : (L0 == 0) = false := by simpa using hL
                have HST := Lib.hid HSTEP
                clear HSTEP hL
                go_wp2_with fail
                refine HLO.out.mono ?_
                rintro e w' ⟨rfl, rfl⟩
                go_wp2_with fail
                go_ret3
                refine ⟨?_, rfl⟩
                rw [← HF.out, HST.out]
                have h1 := HJ.out
                exact ret_num (by omega)
            | true =>
              by_cases hL : L0 = 0
              · rw [if_neg (by simp [hL]), if_pos hL] at HSTEP
                subst hL
                have HST := Lib.hid HSTEP
                clear HSTEP
                go_wp2_with fail
                refine HLO.out.mono ?_
                rintro e w' ⟨rfl, rfl⟩
                go_wp2_with fail
                refine HGO.out.mono ?_
                rintro e w' ⟨rfl, rfl⟩
                cases G0 with
                | false => 
                  go_wp2_with fail
                  go_round
                  case rel => exact ⟨m, by omega, by omega, by go_num, by rw [← HF.out, HST.out]⟩
                  case measure => first | (simp [intOf]; done) | (simp [intOf]; omega)
                | true => 
                  go_wp2_with fail
                  go_round
                  case rel => exact ⟨m, by omega, by omega, by go_num, by rw [← HF.out, HST.out]⟩
                  case measure => first | (simp [intOf]; done) | (simp [intOf]; omega)
              · have hL' : (L0 == 0) = false := by simpa using hL
                cases G0 with
                | false =>
                  rw [if_neg (by simp), if_neg hL] at HSTEP
                  have HST := Lib.hid HSTEP
                  clear HSTEP hL
                  go_wp2_with fail
                  refine HLO.out.mono ?_
                  rintro e w' ⟨rfl, rfl⟩
                  go_wp2_with fail
                  refine HGO.out.mono ?_
                  rintro e w' ⟨rfl, rfl⟩
                  go_wp2_with fail
                  go_ret3
                  refine ⟨?_, rfl⟩
                  rw [← HF.out, HST.out]
                  have h1 := HJ.out
                  exact ret_num (by omega)
                | true =>
                  rw [if_pos ⟨rfl, rfl, hL⟩] at HSTEP
                  have HST := Lib.hid HSTEP
                  clear HSTEP hL
                  go_wp2_with fail
                  refine HLO.out.mono ?_
                  rintro e w' ⟨rfl, rfl⟩
                  go_wp2_with fail
                  refine HGO.out.mono ?_
                  rintro e w' ⟨rfl, rfl⟩
                  go_wp2_with fail
                  go_ret3
                  exact ⟨by rw [← HF.out, HST.out]; rfl, rfl⟩
        · have hJi : ¬ (J : Int) < s.size := by omega
          have hsemi : ¬ r[n]? = some 59 := by rw [hrn, List.getElem?_eq_none (by simpa using hJs)]; simp
          clear hrn hnm hJ
          rw [if_neg hsemi] at HSTEP
          clear hsemi
          cases attr with
          | false =>
            rw [if_neg (by simp)] at HSTEP
            by_cases hL : L0 = 0
            · rw [if_pos hL] at HSTEP
              subst hL
              have HST := Lib.hid HSTEP
              clear HSTEP
              go_wp2_with fail
              refine HLO.out.mono ?_
              rintro e w' ⟨rfl, rfl⟩
              go_wp2_with fail
              go_round
              case rel => exact ⟨m, by omega, by omega, by go_num, by rw [← HF.out, HST.out]⟩
              case measure => first | (simp [intOf]; done) | (simp [intOf]; omega)
            · rw [if_neg hL] at HSTEP
              have hL' : (L0 == 0) = false := by simpa using hL
              have HST := Lib.hid HSTEP
              clear HSTEP hL
              go_wp2_with fail
              refine HLO.out.mono ?_
              rintro e w' ⟨rfl, rfl⟩
              go_wp2_with fail
              go_ret3
              refine ⟨?_, rfl⟩
              rw [← HF.out, HST.out]
              have h1 := HJ.out
              exact ret_num (by omega)
          | true =>
            by_cases hL : L0 = 0
            · rw [if_neg (by simp [hL]), if_pos hL] at HSTEP
              subst hL
              have HST := Lib.hid HSTEP
              clear HSTEP
              go_wp2_with fail
              refine HLO.out.mono ?_
              rintro e w' ⟨rfl, rfl⟩
              go_wp2_with fail
              refine HGO.out.mono ?_
              rintro e w' ⟨rfl, rfl⟩
              cases G0 with
              | false => 
                go_wp2_with fail
                go_round
                case rel => exact ⟨m, by omega, by omega, by go_num, by rw [← HF.out, HST.out]⟩
                case measure => first | (simp [intOf]; done) | (simp [intOf]; omega)
              | true => 
                go_wp2_with fail
                go_round
                case rel => exact ⟨m, by omega, by omega, by go_num, by rw [← HF.out, HST.out]⟩
                case measure => first | (simp [intOf]; done) | (simp [intOf]; omega)
            · have hL' : (L0 == 0) = false := by simpa using hL
              cases G0 with
              | false =>
                rw [if_neg (by simp), if_neg hL] at HSTEP
                have HST := Lib.hid HSTEP
                clear HSTEP hL
                go_wp2_with fail
                refine HLO.out.mono ?_
                rintro e w' ⟨rfl, rfl⟩
                go_wp2_with fail
                refine HGO.out.mono ?_
                rintro e w' ⟨rfl, rfl⟩
                go_wp2_with fail
                go_ret3
                refine ⟨?_, rfl⟩
                rw [← HF.out, HST.out]
                have h1 := HJ.out
                exact ret_num (by omega)
              | true =>
                rw [if_pos ⟨rfl, rfl, hL⟩] at HSTEP
                have HST := Lib.hid HSTEP
                clear HSTEP hL
                go_wp2_with fail
                refine HLO.out.mono ?_
                rintro e w' ⟨rfl, rfl⟩
                go_wp2_with fail
                refine HGO.out.mono ?_
                rintro e w' ⟨rfl, rfl⟩
                go_wp2_with fail
                go_ret3
                exact ⟨by rw [← HF.out, HST.out]; rfl, rfl⟩
end Go.Proofs.YteeplfbaflldaaaDoor.R9
