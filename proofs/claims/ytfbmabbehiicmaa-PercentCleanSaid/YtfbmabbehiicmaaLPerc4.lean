/- The law PercentClean. -/
import Derived.Test.YtfbmabbehiicmaaLPerc3
set_option linter.unusedVariables false
namespace Go.Proofs.Ytfbmabbehiicmaa
open Go.RowKit

def anB (c : UInt8) : Bool := (decide (48 ≤ c.toNat) && decide (c.toNat ≤ 57)) || (decide (97 ≤ c.toNat) && decide (c.toNat ≤ 122)) || (decide (65 ≤ c.toNat) && decide (c.toNat ≤ 90))
theorem an_f {c : UInt8} (h : c.toNat < 48 ∨ (57 < c.toNat ∧ c.toNat < 65) ∨ (90 < c.toNat ∧ c.toNat < 97) ∨ 122 < c.toNat) : anB c = false := by
  unfold anB
  rw [Bool.eq_false_iff]
  simp
  omega
theorem an_t {c : UInt8} (h : (48 ≤ c.toNat ∧ c.toNat ≤ 57) ∨ (97 ≤ c.toNat ∧ c.toNat ≤ 122) ∨ (65 ≤ c.toNat ∧ c.toNat ≤ 90)) : anB c = true := by
  unfold anB
  simp
  omega
/-- What the bytes of a text that is encoded are not. -/
def clB (hi : Bool) (c : UInt8) : Bool := decide (32 ≤ c.toNat) && decide (c.toNat ≤ 126) && !(hi && (c == 32 || c == 34 || c == 60 || c == 62 || c == 35 || c == 63 || c == 123 || c == 125))
theorem cl_dig : ∀ j : Fin 16, clB true (dg j.val) = true := by decide
theorem cl_weak {c : UInt8} (h : clB true c = true) (hi : Bool) : clB hi c = true := by
  cases hi
  · revert h
    unfold clB
    simp
    intros
    constructor <;> assumption
  · exact h
theorem seven {k : Int} (h : 0 ≤ k ∧ k ≤ 6) : k = 0 ∨ k = 1 ∨ k = 2 ∨ k = 3 ∨ k = 4 ∨ k = 5 ∨ k = 6 := by omega
theorem cl_ins {k : Int} (h : 0 ≤ k ∧ k ≤ 6) (c : UInt8) (hc : inS k c = false) : clB (decide (4 ≤ k)) c = true := by
  rcases seven h with rfl | rfl | rfl | rfl | rfl | rfl | rfl
  all_goals revert hc
  · exact every_byte (p := fun c => inS 0 c = false → clB (decide ((4 : Int) ≤ 0)) c = true) (by decide +kernel) c
  · exact every_byte (p := fun c => inS 1 c = false → clB (decide ((4 : Int) ≤ 1)) c = true) (by decide +kernel) c
  · exact every_byte (p := fun c => inS 2 c = false → clB (decide ((4 : Int) ≤ 2)) c = true) (by decide +kernel) c
  · exact every_byte (p := fun c => inS 3 c = false → clB (decide ((4 : Int) ≤ 3)) c = true) (by decide +kernel) c
  · exact every_byte (p := fun c => inS 4 c = false → clB (decide ((4 : Int) ≤ 4)) c = true) (by decide +kernel) c
  · exact every_byte (p := fun c => inS 5 c = false → clB (decide ((4 : Int) ≤ 5)) c = true) (by decide +kernel) c
  · exact every_byte (p := fun c => inS 6 c = false → clB (decide ((4 : Int) ≤ 6)) c = true) (by decide +kernel) c
theorem cl_enc {k : Int} (h : 0 ≤ k ∧ k ≤ 6) {l : List UInt8} {c : UInt8} (hc : c ∈ encP (inS k) l) : clB (decide (4 ≤ k)) c = true := by
  rcases enc_mem hc with hc | rfl | ⟨j, hj, rfl⟩
  · exact cl_ins h c hc.1
  · exact cl_weak (by decide) _
  · exact cl_weak (cl_dig ⟨j, hj⟩) _
theorem an_plain {k : Int} (h : 0 ≤ k ∧ k ≤ 6) (c : UInt8) (hc : anB c = true) : inS k c = false ∧ c ≠ 37 := by
  rcases seven h with rfl | rfl | rfl | rfl | rfl | rfl | rfl
  all_goals revert hc
  · exact every_byte (p := fun c => anB c = true → inS 0 c = false ∧ c ≠ 37) (by decide +kernel) c
  · exact every_byte (p := fun c => anB c = true → inS 1 c = false ∧ c ≠ 37) (by decide +kernel) c
  · exact every_byte (p := fun c => anB c = true → inS 2 c = false ∧ c ≠ 37) (by decide +kernel) c
  · exact every_byte (p := fun c => anB c = true → inS 3 c = false ∧ c ≠ 37) (by decide +kernel) c
  · exact every_byte (p := fun c => anB c = true → inS 4 c = false ∧ c ≠ 37) (by decide +kernel) c
  · exact every_byte (p := fun c => anB c = true → inS 5 c = false ∧ c ≠ 37) (by decide +kernel) c
  · exact every_byte (p := fun c => anB c = true → inS 6 c = false ∧ c ≠ 37) (by decide +kernel) c
theorem add_at2 (t s : ByteArray) (k : Nat) (h : k < s.size) : (t ++ s.extract k (k + 1)).data.toList = t.data.toList ++ [s[k]] := by
  rw [ByteArray.data_append, Array.toList_append, ext_toList]
  congr 1
  have hk : k < s.data.toList.length := by simpa using h
  rw [List.drop_eq_getElem_cons hk]
  simp
  rfl

set_option maxHeartbeats 4000000 in
set_option maxRecDepth 100000 in
theorem percentClean_law (s : ByteArray) (x : Int) (w : World) (hs : s.size ≤ maxLen) (hx : 0 ≤ x ∧ x ≤ 255) :
    Calls Try.prog 5 #[.string s, .int .u8 x] w fun e w' => e = .returned (.bool true) ∧ Below w.heap.size w w' := by
  unfold maxLen at hs
  by_cases h1 : 1500 < s.size
  · go_enter Try.func5, Try.ntmps5
    go_wp2_with fail
    refine (signs_any _).mono ?_
    rintro e w1 ⟨rfl, b1⟩
    go_wp2_with fail
    go_ret
    exact ⟨rfl, b1⟩
  · obtain ⟨k, hk⟩ : ∃ k : Int, x % 7 = k := ⟨_, rfl⟩
    have hk0 : 0 ≤ k := by omega
    have hk6 : k ≤ 6 := by omega
    have HK := Lib.hid hk
    clear hk
    have hd : Hid (0 ≤ k ∧ k ≤ 6) := ⟨hk0, hk6⟩
    obtain ⟨T, hT⟩ : ∃ T : ByteArray, (⟨(encP (inS k) s.data.toList).toArray⟩ : ByteArray) = T := ⟨_, rfl⟩
    have hCl : Hid (∀ (j : Nat) (h : j < T.size), clB (decide (4 ≤ k)) T[j] = true) := by
      intro j h
      have e : T.data.toList = encP (inS k) s.data.toList := by rw [← hT]
      refine cl_enc hd.out (l := s.data.toList) (k := k) ?_
      rw [← e]
      exact List.mem_of_getElem? (getE T j h)
    have hTs : T.size ≤ 4500 := by rw [← hT]; refine Nat.le_trans encT_size ?_; omega
    have HT := Lib.hid hT
    clear hT
    go_enter Try.func5, Try.ntmps5
    go_wp2_with fail
    rw [HK.out]
    refine (pencode_any s k _ (by omega)).mono ?_
    rintro e w1 ⟨rfl, b1⟩
    rw [if_pos hd.out, HT.out]
    go_wp2_with fail
    go_loop [7, 8] (fun o i => ∃ (j : Nat) (t : ByteArray), j ≤ s.size ∧ i = .int .i64 j ∧ o = .string t ∧ t.size ≤ j ∧ Hid (t.data.toList = (s.data.toList.take j).filter anB)) (fun _ i => s.size - (intOf i).toNat)
    case atStart => exact ⟨0, ⟨#[]⟩, Nat.zero_le _, rfl, rfl, Nat.le_refl _, rfl⟩
    case round =>
      obtain ⟨j, t, hj, rfl, rfl, hts, HF⟩ := hrel
      by_cases hlt : j < s.size
      · have HS := Lib.hid (take_snoc s j hlt)
        have hb8 := s[j].toNat_lt
        have hcase : ((48 ≤ s[j].toNat ∧ s[j].toNat ≤ 57) ∨ (97 ≤ s[j].toNat ∧ s[j].toNat ≤ 122) ∨ (65 ≤ s[j].toNat ∧ s[j].toNat ≤ 90)) ∨ (s[j].toNat < 48 ∨ (57 < s[j].toNat ∧ s[j].toNat < 65) ∨ (90 < s[j].toNat ∧ s[j].toNat < 97) ∨ 122 < s[j].toNat) := by omega
        rcases hcase with h | h
        · have HA := Lib.hid (an_t h)
          rcases h with h | h | h
          all_goals
            go_wp2_with fail
            go_round
            case rel =>
              refine ⟨j + 1, t ++ s.extract j (j + 1), by omega, by go_num, rfl, ?_, ?_⟩
              · rw [ByteArray.size_append, ByteArray.size_extract]; omega
              · show (t ++ s.extract j (j + 1)).data.toList = _
                rw [add_at2 t s j hlt, HF.out, HS.out, List.filter_append, List.filter_cons_of_pos HA.out]
                rfl
            case measure => simp [intOf]; omega
        · have HA := Lib.hid (an_f h)
          rcases h with h | h | h | h
          all_goals
            go_wp2_with fail
            go_round
            case rel =>
              refine ⟨j + 1, t, by omega, by go_num, rfl, by omega, ?_⟩
              show t.data.toList = _
              rw [HF.out, HS.out, List.filter_append, List.filter_cons_of_neg (by rw [HA.out]; simp)]
              simp
            case measure => simp [intOf]; omega
      · have hfl : Hid (t.data.toList = s.data.toList.filter anB) := by
          have := HF.out
          rwa [List.take_of_length_le (by simp; omega)] at this
        clear HF
        have hpl : Hid (∀ c ∈ t.data.toList, inS k c = false ∧ c ≠ 37) := by
          intro c hc
          rw [hfl.out] at hc
          exact an_plain hd.out c (List.mem_filter.1 hc).2
        have hE : Hid ((⟨(encP (inS k) t.data.toList).toArray⟩ : ByteArray) = t) := by
          show _ = _
          rw [enc_same fun c hc => (hpl.out c hc).1]
        have hD : Hid ((⟨(decP t.data.toList).toArray⟩ : ByteArray) = t) := by
          show _ = _
          rw [dec_same fun c hc => (hpl.out c hc).2]
        go_wp2_with fail
        go_loop [9] (fun i => ∃ q : Nat, q ≤ T.size ∧ i = .int .i64 q) (fun i => T.size - (intOf i).toNat)
        case atStart => exact ⟨0, Nat.zero_le _, rfl⟩
        case round =>
          obtain ⟨q, hq, rfl⟩ := hrel
          by_cases hql : q < T.size
          · have hcl := hCl.out q hql
            have hb9 := T[q].toNat_lt
            by_cases h4 : 4 ≤ k
            · rw [decide_eq_true h4] at hcl
              unfold clB at hcl
              simp only [Bool.true_and, Bool.and_eq_true, Bool.not_eq_true', Bool.or_eq_false_iff, decide_eq_true_eq, beq_eq_false_iff_ne] at hcl
              obtain ⟨⟨l0, l1⟩, ⟨⟨⟨⟨⟨⟨⟨n0, n1⟩, n2⟩, n3⟩, n4⟩, n5⟩, n6⟩, n7⟩⟩ := hcl
              have ne : ∀ n : UInt8, T[q] ≠ n → ((T[q].toNat : Int) == (n.toNat : Int)) = false := by
                intro n hn
                rw [beq_eq_false_iff_ne]
                intro e
                exact hn (UInt8.toNat_inj.1 (by omega))
              have f0 : ((T[q].toNat : Int) == 32) = false := ne 32 n0
              have f1 : ((T[q].toNat : Int) == 34) = false := ne 34 n1
              have f2 : ((T[q].toNat : Int) == 60) = false := ne 60 n2
              have f3 : ((T[q].toNat : Int) == 62) = false := ne 62 n3
              have f4 : ((T[q].toNat : Int) == 35) = false := ne 35 n4
              have f5 : ((T[q].toNat : Int) == 63) = false := ne 63 n5
              have f6 : ((T[q].toNat : Int) == 123) = false := ne 123 n6
              have f7 : ((T[q].toNat : Int) == 125) = false := ne 125 n7
              clear ne
              clear n0 n1 n2 n3 n4 n5 n6 n7
              go_wp2_with fail
              go_round
              case rel => exact ⟨q + 1, by omega, by go_num⟩
              case measure => simp [intOf]; omega
            · have l0 : 32 ≤ T[q].toNat ∧ T[q].toNat ≤ 126 := by
                unfold clB at hcl
                simp only [Bool.and_eq_true, decide_eq_true_eq] at hcl
                exact hcl.1
              clear hcl
              obtain ⟨l0, l1⟩ := l0
              go_wp2_with fail
              go_round
              case rel => exact ⟨q + 1, by omega, by go_num⟩
              case measure => simp [intOf]; omega
          · go_wp2_with fail
            refine (pencode_any t k _ (by omega)).mono ?_
            rintro e w2 ⟨rfl, b2⟩
            rw [if_pos hd.out, hE.out]
            go_wp2_with fail
            refine (pdecode_any t _ (by omega)).mono ?_
            rintro e w3 ⟨rfl, b3⟩
            rw [hD.out]
            go_wp2_with fail
            refine (signs_any _).mono ?_
            rintro e w4 ⟨rfl, b4⟩
            go_wp2_with fail
            go_ret
            have c2 := b1.trans (b2.mono b1.size)
            have c3 := c2.trans (b3.mono c2.size)
            exact ⟨rfl, c3.trans (b4.mono c3.size)⟩
end Go.Proofs.Ytfbmabbehiicmaa
