/- sources: isWord, isScheme, readPath, readPort, readScheme. -/
import Derived.Test.YteeplfbaflldaaaDoorTg2
import Derived.Test.YteeplfbaflldaaaDoorAscii
set_option linter.unusedVariables false
set_option linter.unusedSimpArgs false
namespace Go.Proofs.YteeplfbaflldaaaDoor.S25
open Go.RowKit T10

def wordC (p : UInt8 → Bool) (c : UInt8) : Bool := alI c.toNat || diI c.toNat || p c
def wordB (p : UInt8 → Bool) (l : List UInt8) : Bool := !l.isEmpty && l.all (wordC p)
theorem all_snoc {l : List UInt8} {k : Nat} {c : UInt8} {f : UInt8 → Bool} (h : l[k]? = some c) : (l.take (k + 1)).all f = ((l.take k).all f && f c) := by
  obtain ⟨h1, h2⟩ := List.getElem?_eq_some_iff.1 h
  rw [List.take_succ_eq_append_getElem h1, h2]
  simp
theorem all_no {l : List UInt8} {k : Nat} {c : UInt8} {f : UInt8 → Bool} (h : l[k]? = some c) (hf : f c = false) : l.all f = false := by
  rw [List.all_eq_false]
  exact ⟨c, List.mem_of_getElem? h, by rw [hf]; simp⟩
set_option maxHeartbeats 3200000 in
set_option maxRecDepth 100000 in
theorem isWord_any (P : ByteArray) (p : UInt8 → Bool) (hp : Stops P p) (s : ByteArray) (w : World) (hs : s.size ≤ 1000000) :
    Calls Tryd.prog 69 #[.string s, .string P] w fun e w' => e = .returned (.bool (wordB p s.data.toList)) ∧ w = w' := by
  have HP := Lib.hid hp
  clear hp
  obtain ⟨Z, hZ⟩ : ∃ Z, wordB p s.data.toList = Z := ⟨_, rfl⟩
  rw [hZ]
  have HZ := Lib.hid hZ
  clear hZ
  go_enter Tryd.func69, Tryd.ntmps69
  go_wp2_with fail
  go_loop [9] (fun i => ∃ k : Nat, k ≤ s.size ∧ i = .int .i64 k ∧ Hid ((s.data.toList.take k).all (wordC p) = true)) (fun i => s.size - (intOf i).toNat)
  case atStart => exact ⟨0, Nat.zero_le _, rfl, by show _ = _; simp⟩
  case round =>
    obtain ⟨k, hk, rfl, HK⟩ := hrel
    by_cases hlt : k < s.size
    · have hki : (k : Int) < s.size := by omega
      obtain ⟨c, hc⟩ : ∃ c, s[k] = c := ⟨_, rfl⟩
      have hg := at_get hlt
      rw [hc] at hg
      have HSN : Hid ((s.data.toList.take (k + 1)).all (wordC p) = wordC p c) := by show _ = _; rw [all_snoc hg, HK.out]; rfl
      have HNO : Hid (wordC p c = false → Z = false) := fun h => by
        rw [← HZ.out]
        unfold wordB
        rw [all_no hg h, Bool.and_false]
      have HA := Lib.hid (alpha_any (c.toNat : Int) w)
      have HD := Lib.hid (digit_any (c.toNat : Int) w)
      have HI := Lib.hid (ib_any P c w)
      have hpc := HP.out c
      obtain ⟨I, hI⟩ : ∃ I, Lib.indexByte P.data.toList c = I := ⟨_, rfl⟩
      rw [hI] at HI hpc
      clear hI hg
      cases ha : alI c.toNat with
      | true =>
        have HW : Hid (wordC p c = true) := by show _ = _; unfold wordC; rw [ha]; rfl
        rw [show alI (c.toNat : Int) = true from ha] at HA
        clear ha hpc
        go_wp2_with fail
        refine HA.out.mono ?_
        rintro e w' ⟨rfl, rfl⟩
        go_wp2_with fail
        go_round
        case rel => exact ⟨k + 1, by omega, by go_num, by rw [HSN.out]; exact HW⟩
        case measure => simp [intOf]; omega
      | false =>
        rw [show alI (c.toNat : Int) = false from ha] at HA
        cases hd : diI c.toNat with
        | true =>
          have HW : Hid (wordC p c = true) := by show _ = _; unfold wordC; rw [hd]; simp
          rw [show diI (c.toNat : Int) = true from hd] at HD
          clear ha hd hpc
          go_wp2_with fail
          refine HA.out.mono ?_
          rintro e w' ⟨rfl, rfl⟩
          go_wp2_with fail
          refine HD.out.mono ?_
          rintro e w' ⟨rfl, rfl⟩
          go_wp2_with fail
          go_round
          case rel => exact ⟨k + 1, by omega, by go_num, by rw [HSN.out]; exact HW⟩
          case measure => simp [intOf]; omega
        | false =>
          rw [show diI (c.toNat : Int) = false from hd] at HD
          by_cases hI0 : I < 0
          · have HW : Hid (wordC p c = false) := by
              show _ = _
              unfold wordC
              rw [ha, hd, hpc]
              simp
              omega
            have HF : Hid (Z = false) := HNO.out HW.out
            clear ha hd hpc
            go_wp2_with fail
            refine HA.out.mono ?_
            rintro e w' ⟨rfl, rfl⟩
            go_wp2_with fail
            refine HD.out.mono ?_
            rintro e w' ⟨rfl, rfl⟩
            go_wp2_with fail
            refine HI.out.mono ?_
            rintro e w' ⟨rfl, rfl⟩
            go_wp2_with fail
            go_ret
            exact ⟨by rw [HF.out]; rfl, rfl⟩
          · have HW : Hid (wordC p c = true) := by
              show _ = _
              unfold wordC
              rw [hpc]
              simp
              omega
            clear ha hd hpc
            go_wp2_with fail
            refine HA.out.mono ?_
            rintro e w' ⟨rfl, rfl⟩
            go_wp2_with fail
            refine HD.out.mono ?_
            rintro e w' ⟨rfl, rfl⟩
            go_wp2_with fail
            refine HI.out.mono ?_
            rintro e w' ⟨rfl, rfl⟩
            go_wp2_with fail
            go_round
            case rel => exact ⟨k + 1, by omega, by go_num, by rw [HSN.out]; exact HW⟩
            case measure => simp [intOf]; omega
    · have hki : ¬ (k : Int) < s.size := by omega
      have HF : Hid (Z = !s.toList.isEmpty) := by
        show _ = _
        rw [← HZ.out, ByteArray.toList_eq]
        unfold wordB
        have h := HK.out
        rw [List.take_of_length_le (by simp; omega)] at h
        rw [h, Bool.and_true]
      go_wp2_with fail
      go_ret
      exact ⟨by rw [HF.out]; rfl, rfl⟩
theorem stops_1 : Stops ⟨#[45, 43, 46]⟩ (fun c => c == 45 || c == 43 || c == 46) := by
  intro c
  show (c == 45 || c == 43 || c == 46) = decide (0 ≤ Lib.indexByte [45, 43, 46] c)
  unfold Lib.indexByte Lib.indexByte Lib.indexByte Lib.indexByte
  rw [BEq.comm (a := c) (b := 45), BEq.comm (a := c) (b := 43), BEq.comm (a := c) (b := 46)]
  cases (45 : UInt8) == c <;> cases (43 : UInt8) == c <;> cases (46 : UInt8) == c <;> rfl
theorem stops_2 : Stops ⟨#[43, 47, 45, 95]⟩ (fun c => c == 43 || c == 47 || c == 45 || c == 95) := by
  intro c
  show (c == 43 || c == 47 || c == 45 || c == 95) = decide (0 ≤ Lib.indexByte [43, 47, 45, 95] c)
  unfold Lib.indexByte Lib.indexByte Lib.indexByte Lib.indexByte Lib.indexByte
  rw [BEq.comm (a := c) (b := 43), BEq.comm (a := c) (b := 47), BEq.comm (a := c) (b := 45), BEq.comm (a := c) (b := 95)]
  cases (43 : UInt8) == c <;> cases (47 : UInt8) == c <;> cases (45 : UInt8) == c <;> cases (95 : UInt8) == c <;> rfl
theorem stops_3 : Stops ⟨#[45]⟩ (fun c => c == 45) := by
  intro c
  show (c == 45) = decide (0 ≤ Lib.indexByte [45] c)
  unfold Lib.indexByte Lib.indexByte
  rw [BEq.comm (a := c) (b := 45)]
  cases (45 : UInt8) == c <;> rfl
def schC (c : UInt8) : Bool := c == 45 || c == 43 || c == 46
def b64C (c : UInt8) : Bool := c == 43 || c == 47 || c == 45 || c == 95
def schB (l : List UInt8) : Bool := (match l.head? with | some c => alI c.toNat | none => false) && wordB schC l
set_option maxHeartbeats 1600000 in
set_option maxRecDepth 100000 in
theorem isScheme_any (s : ByteArray) (w : World) (hs : s.size ≤ 1000000) :
    Calls Tryd.prog 52 #[.string s] w fun e w' => e = .returned (.bool (schB s.data.toList)) ∧ w = w' := by
  have HW := Lib.hid (isWord_any ⟨#[45, 43, 46]⟩ schC stops_1 s w hs)
  by_cases h0 : 0 < s.size
  · obtain ⟨c, hc⟩ : ∃ c, s[0] = c := ⟨_, rfl⟩
    have hg := at_get h0
    rw [hc] at hg
    have hne : (s.toList == []) = false := by
      rw [ByteArray.toList_eq]
      cases hl : s.data.toList with
      | nil => rw [hl] at hg; cases hg
      | cons a b => rfl
    have hne2 : s.toList.isEmpty = false := by
      rw [ByteArray.toList_eq]
      cases hl : s.data.toList with
      | nil => rw [hl] at hg; cases hg
      | cons a b => rfl
    have hh : s.data.toList.head? = some c := by rw [List.head?_eq_getElem?]; exact hg
    have HA := Lib.hid (alpha_any (c.toNat : Int) w)
    unfold schB
    rw [hh]
    simp only []
    obtain ⟨V, hV⟩ : ∃ V, wordB schC s.data.toList = V := ⟨_, rfl⟩
    rw [hV] at HW ⊢
    cases ha : alI c.toNat with
    | true =>
      rw [show alI (c.toNat : Int) = true from ha] at HA
      clear ha hg hh hV
      go_enter Tryd.func52, Tryd.ntmps52
      go_wp2_with fail
      refine HA.out.mono ?_
      rintro e w' ⟨rfl, rfl⟩
      go_wp2_with fail
      refine HW.out.mono ?_
      rintro e w' ⟨rfl, rfl⟩
      go_wp2_with fail
      go_ret
      exact ⟨by simp, rfl⟩
    | false =>
      rw [show alI (c.toNat : Int) = false from ha] at HA
      clear ha hg hh hV
      go_enter Tryd.func52, Tryd.ntmps52
      go_wp2_with fail
      refine HA.out.mono ?_
      rintro e w' ⟨rfl, rfl⟩
      go_wp2_with fail
      go_ret
      exact ⟨by simp, rfl⟩
  · have hl : s.data.toList = [] := List.eq_nil_of_length_eq_zero (by have : s.data.toList.length = s.size := by simp
                                                                      omega)
    have hne : (s.toList == []) = true := by rw [ByteArray.toList_eq, hl]; rfl
    have hne2 : s.toList.isEmpty = true := by rw [ByteArray.toList_eq, hl]; rfl
    rw [hl]
    clear hl
    go_enter Tryd.func52, Tryd.ntmps52
    go_wp2_with fail
    go_ret
    exact ⟨by exact rfl, rfl⟩
/-- A fault: which part, and of what text. -/
def faultV (part : ByteArray) (s : ByteArray) : Value := .iface 72 (.agg #[.string part, .string s])
set_option maxHeartbeats 1600000 in
set_option maxRecDepth 100000 in
theorem readScheme_any (s : ByteArray) (w : World) (hs : s.size ≤ 1000000) :
    Calls Tryd.prog 70 #[.string s] w fun e w' => e = .returned (if schB s.data.toList = true then .tuple #[.string ⟨(lowL s.data.toList).toArray⟩, .nilIface] else .tuple #[.string ⟨#[]⟩, faultV ⟨#[115, 99, 104, 101, 109, 101]⟩ s]) ∧ Below w.heap.size w w' := by
  have HS := Lib.hid (isScheme_any s w hs)
  cases h : schB s.data.toList with
  | true =>
    have HL := Lib.hid (lower_any s w (by omega))
    rw [h] at HS
    rw [if_pos rfl]
    clear h
    go_enter Tryd.func70, Tryd.ntmps70
    go_wp2_with fail
    refine HS.out.mono ?_
    rintro e w' ⟨rfl, rfl⟩
    go_wp2_with fail
    refine HL.out.mono ?_
    rintro e w1 ⟨rfl, b1⟩
    go_wp2_with fail
    go_ret2
    exact ⟨by exact rfl, b1⟩
  | false =>
    rw [h] at HS
    rw [if_neg (by simp)]
    clear h
    go_enter Tryd.func70, Tryd.ntmps70
    go_wp2_with fail
    refine HS.out.mono ?_
    rintro e w' ⟨rfl, rfl⟩
    go_wp2_with fail
    go_ret2
    exact ⟨by exact rfl, Below.refl _ _⟩
/-- What readPath hands back. -/
def pathV (Z : Bool) (s : ByteArray) : Value := match Z with
  | true => .tuple #[.string s, .nilIface]
  | false => .tuple #[.string ⟨#[]⟩, faultV ⟨#[112, 97, 116, 104]⟩ s]
def pathX (c : UInt8) : Bool := decide (0 ≤ Lib.indexByte [63, 35, 59, 44, 34, 60, 62, 92, 94, 96, 123, 124, 125] c)
def pathC (c : UInt8) : Bool := !(decide (c.toNat < 33)) && !(decide (126 < c.toNat)) && !(pathX c)
set_option maxHeartbeats 3200000 in
set_option maxRecDepth 100000 in
theorem readPath_any (s : ByteArray) (w : World) (hs : s.size ≤ 1000000) :
    Calls Tryd.prog 71 #[.string s] w fun e w' => e = .returned (pathV (s.data.toList.all pathC) s) ∧ w = w' := by
  obtain ⟨Z, hZ⟩ : ∃ Z, s.data.toList.all pathC = Z := ⟨_, rfl⟩
  rw [hZ]
  have HZ := Lib.hid hZ
  clear hZ
  go_enter Tryd.func71, Tryd.ntmps71
  go_wp2_with fail
  go_loop [8] (fun i => ∃ k : Nat, k ≤ s.size ∧ i = .int .i64 k ∧ Hid ((s.data.toList.take k).all pathC = true)) (fun i => s.size - (intOf i).toNat)
  case atStart => exact ⟨0, Nat.zero_le _, rfl, by show _ = _; simp⟩
  case round =>
    obtain ⟨k, hk, rfl, HK⟩ := hrel
    by_cases hlt : k < s.size
    · have hki : (k : Int) < s.size := by omega
      obtain ⟨c, hc⟩ : ∃ c, s[k] = c := ⟨_, rfl⟩
      have hg := at_get hlt
      rw [hc] at hg
      have HSN : Hid ((s.data.toList.take (k + 1)).all pathC = pathC c) := by show _ = _; rw [all_snoc hg, HK.out]; rfl
      have HNO : Hid (pathC c = false → Z = false) := fun h => by rw [← HZ.out, all_no hg h]
      have HI := Lib.hid (ib_any ⟨#[63, 35, 59, 44, 34, 60, 62, 92, 94, 96, 123, 124, 125]⟩ c w)
      have hpc : pathX c = decide (0 ≤ Lib.indexByte [63, 35, 59, 44, 34, 60, 62, 92, 94, 96, 123, 124, 125] c) := rfl
      have HI' : Hid (Calls Tryd.prog 40 #[.string ⟨#[63, 35, 59, 44, 34, 60, 62, 92, 94, 96, 123, 124, 125]⟩, .int .u8 (c.toNat : Int)] w fun e w' => e = .returned (.int .i64 (Lib.indexByte [63, 35, 59, 44, 34, 60, 62, 92, 94, 96, 123, 124, 125] c)) ∧ w = w') := HI.out
      clear HI
      obtain ⟨I, hI⟩ : ∃ I, Lib.indexByte [63, 35, 59, 44, 34, 60, 62, 92, 94, 96, 123, 124, 125] c = I := ⟨_, rfl⟩
      rw [hI] at HI' hpc
      clear hI hg
      by_cases h33 : (c.toNat : Int) < 33
      · have HF : Hid (Z = false) := HNO.out (by unfold pathC; rw [decide_eq_true (by omega : c.toNat < 33)]; rfl)
        clear hpc
        go_wp2_with fail
        go_ret2
        exact ⟨by rw [HF.out]; exact rfl, rfl⟩
      · by_cases h126 : (126 : Int) < c.toNat
        · have HF : Hid (Z = false) := HNO.out (by unfold pathC; rw [decide_eq_true (by omega : 126 < c.toNat)]; simp)
          clear hpc
          go_wp2_with fail
          go_ret2
          exact ⟨by rw [HF.out]; exact rfl, rfl⟩
        · by_cases hI0 : 0 ≤ I
          · have HF : Hid (Z = false) := HNO.out (by unfold pathC; rw [hpc, decide_eq_true hI0]; simp)
            clear hpc
            go_wp2_with fail
            refine HI'.out.mono ?_
            rintro e w' ⟨rfl, rfl⟩
            go_wp2_with fail
            go_ret2
            exact ⟨by rw [HF.out]; exact rfl, rfl⟩
          · have HW : Hid (pathC c = true) := by
              show _ = _
              unfold pathC
              rw [hpc, decide_eq_false hI0, decide_eq_false (by omega : ¬ c.toNat < 33), decide_eq_false (by omega : ¬ 126 < c.toNat)]
              rfl
            clear hpc
            go_wp2_with fail
            refine HI'.out.mono ?_
            rintro e w' ⟨rfl, rfl⟩
            go_wp2_with fail
            go_round
            case rel => exact ⟨k + 1, by omega, by go_num, by rw [HSN.out]; exact HW⟩
            case measure => simp [intOf]; omega
    · have hki : ¬ (k : Int) < s.size := by omega
      have HF : Hid (Z = true) := by
        show _ = _
        rw [← HZ.out]
        have h := HK.out
        rw [List.take_of_length_le (by simp; omega)] at h
        exact h
      go_wp2_with fail
      go_ret2
      exact ⟨by rw [HF.out]; exact rfl, rfl⟩
end Go.Proofs.YteeplfbaflldaaaDoor.S25
