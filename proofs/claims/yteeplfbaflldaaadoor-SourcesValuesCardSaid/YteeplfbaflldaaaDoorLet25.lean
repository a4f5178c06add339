/- lazaretlaw25.letters: a text of letters, by numbers. -/
import Derived.Test.YteeplfbaflldaaaDoorArgs
import Derived.Test.YteeplfbaflldaaaDoorTg2
set_option linter.unusedVariables false
set_option linter.unusedSimpArgs false
namespace Go.Proofs.YteeplfbaflldaaaDoor.S25
open Go.RowKit T10

def byteV (z : List UInt8) : List Value := z.map fun x => Value.int .u8 (x.toNat : Int)
def pick (al : List UInt8) (x : UInt8) : UInt8 := al.getD (x.toNat % al.length) 0
def lets9 : List UInt8 := [97, 98, 99, 88, 89, 90, 48, 49, 57]
/-- A text of letters, by numbers. -/
def letG (more : List UInt8) (z : List UInt8) : List UInt8 := if z = [] then [97] else (z.take 40).map (pick (lets9 ++ more))
theorem letG_len (more z : List UInt8) : 1 ≤ (letG more z).length ∧ (letG more z).length ≤ 40 := by
  unfold letG
  split
  · simp
  · rename_i h
    have := List.length_pos_iff.2 h
    rw [List.length_map, List.length_take]
    omega
theorem pick_mem {al : List UInt8} (h : 0 < al.length) (x : UInt8) : pick al x ∈ al := by
  unfold pick
  have hlt : x.toNat % al.length < al.length := Nat.mod_lt _ h
  rw [List.getD_eq_getElem?_getD, List.getElem?_eq_getElem hlt]
  exact List.getElem_mem hlt
theorem letG_mem (more z : List UInt8) : ∀ c ∈ letG more z, c ∈ lets9 ++ more := by
  intro c hc
  unfold letG at hc
  split at hc
  · rw [List.mem_singleton.1 hc]; simp [lets9]
  · obtain ⟨x, _, rfl⟩ := List.mem_map.1 hc
    exact pick_mem (by simp [lets9]) x
theorem pick_ext (A : ByteArray) (x : UInt8) (q : Nat) (hq : x.toNat % A.size = q) (hlt : q < A.size) : (A.extract q (q + 1)).data.toList = [pick A.data.toList x] := by
  have hl : A.data.toList.length = A.size := by simp
  have h2 : q < A.data.toList.length := by omega
  have h3 : (A.extract q (q + 1)).data.toList = (A.data.toList.drop q).take 1 := by simp
  rw [h3, List.drop_eq_getElem_cons h2]
  unfold pick
  rw [hl, hq, List.getD_eq_getElem?_getD, List.getElem?_eq_getElem h2]
  rfl
set_option maxHeartbeats 1600000 in
set_option maxRecDepth 100000 in
theorem letters_any (v : Value) (z : List UInt8) (more : ByteArray) (w : World) (h : SliceIn w v (byteV z)) (hm : more.size ≤ 20) :
    Calls Tryd.prog 20 #[v, .string more] w fun e w' => e = .returned (.string ⟨(letG more.data.toList z).toArray⟩) ∧ Below w.heap.size w w' := by
  have hzl : (byteV z).length = z.length := by unfold byteV; simp
  obtain ⟨ao, cap, hv, hlc, hcm, hcell⟩ := h
  rw [hzl] at hv hlc
  unfold maxLen at hcm
  have HS : Hid (∀ W, Below w.heap.size w W → ∀ k x, z[k]? = some x → ∃ b off, ao = some ⟨b, off, none⟩ ∧ W.cell? ⟨b, off + k, none⟩ = some (.int .u8 (x.toNat : Int))) := by
    intro W hW k x hx
    have hk := (List.getElem?_eq_some_iff.1 hx).1
    obtain ⟨b, off, ha, hb, hc⟩ := hcell (by intro e; rw [e] at hzl; simp at hzl; omega)
    refine ⟨b, off, ha, ?_⟩
    rw [hW.cell (p := ⟨b, off + k, none⟩) hb, hc k (by rw [hzl]; exact hk)]
    have := (List.getElem?_eq_some_iff.1 hx).2
    unfold byteV
    simp [this]
  subst hv
  clear hcell hzl
  obtain ⟨A, hA⟩ : ∃ A : ByteArray, (⟨#[97, 98, 99, 88, 89, 90, 48, 49, 57]⟩ : ByteArray) ++ more = A := ⟨_, rfl⟩
  have hAs : A.size = 9 + more.size := by rw [← hA]; simp; rfl
  have hAl : A.data.toList = lets9 ++ more.data.toList := by
    rw [← hA, ByteArray.data_append, Array.toList_append]
    rfl
  have HAL := Lib.hid hAl
  have HA := Lib.hid hA
  have HAS := Lib.hid hAs
  have hA0 : (0 : Int) < A.size := by omega
  have hA29 : (A.size : Int) ≤ 29 := by omega
  clear hAl hA hAs
  go_enter Tryd.func20, Tryd.ntmps20
  go_upto_region 2 with fail
  rw [HA.out]
  go_wp2_with fail
  go_loopw [6, 7] (fun s i wr => ∃ (k : Nat) (S : ByteArray), k ≤ z.length ∧ k ≤ 40 ∧ i = .int .i64 k ∧ s = .string S ∧ Hid (S.data.toList = (z.take k).map (pick A.data.toList)) ∧ Hid (Below w.heap.size w wr)) (fun _ i _ => 40 - (intOf i).toNat)
  case atStart => exact ⟨0, ⟨#[]⟩, Nat.zero_le _, Nat.zero_le _, rfl, rfl, (by show _ = _; simp), Below.refl _ _⟩
  case round =>
    obtain ⟨k, S, hk, hk40, rfl, rfl, hS, HB⟩ := hrel
    by_cases hlt : k < z.length ∧ k < 40
    · obtain ⟨h1, h2⟩ := hlt
      have h1' : (k : Int) < z.length := by omega
      have h2' : (k : Int) < 40 := by omega
      obtain ⟨x, hx⟩ : ∃ x, z[k]? = some x := ⟨_, List.getElem?_eq_getElem h1⟩
      obtain ⟨b, off, ha, hc⟩ := HS.out _ HB.out k x hx
      subst ha
      have HX : Hid ((z.take (k + 1)).map (pick A.data.toList) = (z.take k).map (pick A.data.toList) ++ [pick A.data.toList x]) := by
        show _ = _
        rw [List.take_add_one, hx]; simp
      have hss : S.size ≤ 40 := by
        have e1 : S.data.toList.length = S.size := by simp
        rw [← e1, hS.out, List.length_map, List.length_take]
        omega
      obtain ⟨q, hq⟩ : ∃ q, x.toNat % A.size = q := ⟨_, rfl⟩
      have hqs : q < A.size := by rw [← hq]; exact Nat.mod_lt _ (by omega)
      obtain ⟨p, hp⟩ : ∃ p, q + 1 = p := ⟨_, rfl⟩
      have HE := pick_ext A x q hq hqs
      rw [hp] at HE
      have HE2 := Lib.hid HE
      have hqm : (x.toNat : Int) % (A.size : Int) = (q : Int) := by rw [← hq]; exact (Int.natCast_emod _ _).symm
      have hq1 : (q : Int) + 1 = (p : Int) := by omega
      have hq2 : (p : Int) ≤ A.size := by omega
      have hqp : (q : Int) ≤ p := by omega
      have hq0 : (0 : Int) ≤ q := by omega
      have hne0 : ((A.size : Int) == 0) = false := by rw [beq_eq_false_iff_ne]; omega
      have hne1 : ¬ (A.size : Int) = 0 := by omega
      have hwp : wrap64 (p : Int) = p := IntWalk.wrap64_in _ (by omega)
      have hx9 := x.toNat_lt
      have hwq : IntKind.i64.wrap (p : Int) = p := by rw [IntKind.wrap_i64]; omega
      have hwx : IntKind.i64.wrap (x.toNat : Int) = x.toNat := by rw [IntKind.wrap_i64]; omega
      clear hx hq HE hp
      go_upto_region 6 with fail
      go_region
      go_wp2_with fail
      go_roundw
      case rel => exact ⟨k + 1, S ++ A.extract q p, by omega, by omega, by go_num, rfl, (by show _ = _; rw [HX.out, ← hS.out, ByteArray.data_append, Array.toList_append, HE2.out]), HB.out.drew⟩
      case measure => simp [intOf]; omega
    · have HLT := Lib.hid hlt
      have HF : Hid (z ≠ [] → (z.take k).map (pick A.data.toList) = letG more.data.toList z) := by
        intro hz
        unfold letG
        rw [if_neg hz, HAL.out]
        by_cases h1 : k = z.length
        · rw [List.take_of_length_le (by omega), List.take_of_length_le (by omega)]
        · rw [show k = 40 by omega]
      have hn : ¬ ((k : Int) < z.length ∧ (k : Int) < 40) := by omega
      by_cases hz : z = []
      · subst hz
        have hS0 : S.data.toList = [] := by rw [hS.out]; simp
        have e1 : (S.toList == []) = true := by rw [ByteArray.toList_eq, hS0]; rfl
        have e2 : S.toList.isEmpty = true := by rw [ByteArray.toList_eq, hS0]; rfl
        have hk0 : k = 0 := by simpa using hk
        subst hk0
        clear hlt hn hS0
        go_wp2_with fail
        go_ret
        exact ⟨by exact rfl, HB.out⟩
      · have hzp := List.length_pos_iff.2 hz
        have hk1 : 0 < k := Nat.pos_of_ne_zero fun e => HLT.out ⟨by omega, by omega⟩
        have hS1 : S.data.toList ≠ [] := by
          rw [hS.out]
          intro e
          have := congrArg List.length e
          rw [List.length_map, List.length_take, List.length_nil] at this
          omega
        have e1 : (S.toList == []) = false := by rw [ByteArray.toList_eq, beq_eq_false_iff_ne]; exact hS1
        have HR : Hid (S = ⟨(letG more.data.toList z).toArray⟩) := by
          show _ = _
          rw [← HF.out hz, ← hS.out]
        have HZ := Lib.hid hz
        clear hz hS1
        by_cases h1 : (k : Int) < z.length
        · have h2 : ¬ (k : Int) < 40 := by omega
          clear hlt hn
          go_wp2_with fail
          go_ret
          exact ⟨by rw [HR.out]; rfl, HB.out⟩
        · clear hlt hn
          go_wp2_with fail
          go_ret
          exact ⟨by rw [HR.out]; rfl, HB.out⟩
end Go.Proofs.YteeplfbaflldaaaDoor.S25
