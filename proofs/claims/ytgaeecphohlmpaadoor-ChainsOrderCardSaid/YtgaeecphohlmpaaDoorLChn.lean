/- The law ChainsOrder. -/
import Derived.Test.YtgaeecphohlmpaaDoorFls
import Derived.Deep.Cut
set_option linter.unusedVariables false
namespace Go.Proofs.YtgaeecphohlmpaaDoor
open Go.RowKit

def ordN : List (List UInt8) := [[115, 99, 114, 105, 112, 116, 45, 115, 114, 99, 45, 101, 108, 101, 109], [115, 99, 114, 105, 112, 116, 45, 115, 114, 99, 45, 97, 116, 116, 114], [115, 116, 121, 108, 101, 45, 115, 114, 99, 45, 101, 108, 101, 109], [115, 116, 121, 108, 101, 45, 115, 114, 99, 45, 97, 116, 116, 114], [119, 111, 114, 107, 101, 114, 45, 115, 114, 99], [102, 114, 97, 109, 101, 45, 115, 114, 99], [115, 99, 114, 105, 112, 116, 45, 115, 114, 99], [115, 116, 121, 108, 101, 45, 115, 114, 99], [99, 104, 105, 108, 100, 45, 115, 114, 99], [99, 111, 110, 110, 101, 99, 116, 45, 115, 114, 99], [109, 97, 110, 105, 102, 101, 115, 116, 45, 115, 114, 99], [111, 98, 106, 101, 99, 116, 45, 115, 114, 99], [102, 111, 110, 116, 45, 115, 114, 99], [105, 109, 103, 45, 115, 114, 99], [109, 101, 100, 105, 97, 45, 115, 114, 99], [98, 97, 115, 101, 45, 117, 114, 105], [102, 111, 114, 109, 45, 97, 99, 116, 105, 111, 110], [100, 101, 102, 97, 117, 108, 116, 45, 115, 114, 99], [115, 97, 110, 100, 98, 111, 120]]
def ordC : Array Value := #[.string ⟨#[115, 99, 114, 105, 112, 116, 45, 115, 114, 99, 45, 101, 108, 101, 109]⟩, .string ⟨#[115, 99, 114, 105, 112, 116, 45, 115, 114, 99, 45, 97, 116, 116, 114]⟩, .string ⟨#[115, 116, 121, 108, 101, 45, 115, 114, 99, 45, 101, 108, 101, 109]⟩, .string ⟨#[115, 116, 121, 108, 101, 45, 115, 114, 99, 45, 97, 116, 116, 114]⟩, .string ⟨#[119, 111, 114, 107, 101, 114, 45, 115, 114, 99]⟩, .string ⟨#[102, 114, 97, 109, 101, 45, 115, 114, 99]⟩, .string ⟨#[115, 99, 114, 105, 112, 116, 45, 115, 114, 99]⟩, .string ⟨#[115, 116, 121, 108, 101, 45, 115, 114, 99]⟩, .string ⟨#[99, 104, 105, 108, 100, 45, 115, 114, 99]⟩, .string ⟨#[99, 111, 110, 110, 101, 99, 116, 45, 115, 114, 99]⟩, .string ⟨#[109, 97, 110, 105, 102, 101, 115, 116, 45, 115, 114, 99]⟩, .string ⟨#[111, 98, 106, 101, 99, 116, 45, 115, 114, 99]⟩, .string ⟨#[102, 111, 110, 116, 45, 115, 114, 99]⟩, .string ⟨#[105, 109, 103, 45, 115, 114, 99]⟩, .string ⟨#[109, 101, 100, 105, 97, 45, 115, 114, 99]⟩, .string ⟨#[98, 97, 115, 101, 45, 117, 114, 105]⟩, .string ⟨#[102, 111, 114, 109, 45, 97, 99, 116, 105, 111, 110]⟩, .string ⟨#[100, 101, 102, 97, 117, 108, 116, 45, 115, 114, 99]⟩, .string ⟨#[115, 97, 110, 100, 98, 111, 120]⟩]
theorem ord_cell (w : World) {r : Nat} (hr : r < 19) : (w.alloc (.cells ordC 9)).cell? ⟨w.heap.size, r, none⟩ = some (.string ⟨(ordN.getD r []).toArray⟩) := by
  have hh := heap_alloc_new w (.cells ordC 9)
  rw [Lib.cell_of_heap hh]
  have : ∀ i : Fin 19, ordC[i.val]? = some (.string ⟨(ordN.getD i.val []).toArray⟩) := by
    intro i
    have h : ordC = (ordN.map fun z => Value.string ⟨z.toArray⟩).toArray := by rfl
    have hl : ordN.length = 19 := by decide
    rw [h]
    simp [hl]
  exact this ⟨r, hr⟩
/-- A chain has each name once; all but those of one name end with default-src. -/
theorem ord_facts : ∀ r : Fin 19, ((chainL (ordN.getD r.val [])).Nodup) ∧ ((ordN.getD r.val [] = [100, 101, 102, 97, 117, 108, 116, 45, 115, 114, 99] ∧ (chainL (ordN.getD r.val [])).length = 1) ∨ (ordN.getD r.val [] ≠ [100, 101, 102, 97, 117, 108, 116, 45, 115, 114, 99] ∧ (chainL (ordN.getD r.val [])).length = 1) ∨ (ordN.getD r.val [] ≠ [100, 101, 102, 97, 117, 108, 116, 45, 115, 114, 99] ∧ 1 < (chainL (ordN.getD r.val [])).length ∧ (chainL (ordN.getD r.val [])).getLast? = some [100, 101, 102, 97, 117, 108, 116, 45, 115, 114, 99])) := by decide +kernel

set_option maxHeartbeats 3200000 in
set_option maxRecDepth 100000 in
theorem chainsOrder_law (x m : Int) (w : World) (hx : 0 ≤ x ∧ x ≤ 255) (hm : MaxOk m w) (hT : ETab w) :
    Calls Tryd.prog 6 #[.int .u8 x] w fun e w' => e = .returned (.bool true) ∧ Below w.heap.size w w' := by
  obtain ⟨r, hr⟩ : ∃ r : Nat, x % 19 = (r : Int) := ⟨(x % 19).toNat, by omega⟩
  have hr19 : r < 19 := by omega
  have hri : (r : Int) < 19 := by omega
  have hr0 : (0 : Int) ≤ r := by omega
  have hc := ord_cell w hr19
  unfold ordC at hc
  have HF := Lib.hid (ord_facts ⟨r, hr19⟩)
  obtain ⟨nm, hnm⟩ : ∃ nm : ByteArray, (⟨(ordN.getD r []).toArray⟩ : ByteArray) = nm := ⟨_, rfl⟩
  have hnl : Hid (nm.data.toList = ordN.getD r []) := by show nm.data.toList = _; rw [← hnm]
  rw [hnm] at hc
  clear hnm
  go_enter Tryd.func6, Tryd.ntmps6
  go_wp2_with fail
  refine (chain_any nm _).mono ?_
  rintro e w2 ⟨v, rfl, o2, b2⟩
  have hb2 : Below w.heap.size w w2 := ((Below.refl _ w).alloc (Nat.le_refl _) _).trans (b2.mono (by simp))
  have hm2 := hm.below hb2
  have hT2 := hT.below hb2
  obtain ⟨HN0, hcase⟩ := HF.out
  rw [hnl.out] at o2
  have hhd : Hid ((chainL (ordN.getD r []))[0]? = some (nm.data.toList)) := by show _ = _; rw [hnl.out]; rfl
  have hcl := chain_len (ordN.getD r [])
  generalize hC : chainL (ordN.getD r []) = C at *
  have HN := Lib.hid HN0
  have hpos : 0 < C.length := by
    have := (List.getElem?_eq_some_iff.1 hhd.out).1
    omega
  obtain ⟨g, cap, rfl, _, _, _, hg2, rr⟩ := owns_cell o2 (j := 0) hpos
  have RR : Hid (∀ i (h : i < C.length), w2.cell? ⟨g, i, none⟩ = some (.string ⟨C[i].toArray⟩)) := fun i h => rr i _ (by simp [strCells, h])
  have c0 : w2.cell? ⟨g, 0, none⟩ = some (.string nm) := by
    rw [RR.out 0 hpos]
    have : C[0] = nm.data.toList := by
      have := hhd.out
      rw [List.getElem?_eq_getElem hpos] at this
      injection this
    rw [this]
  have hz0 : ((C.length : Int) == 0) = false := by rw [beq_eq_false_iff_ne]; omega
  have hz1 : ¬ C.length = 0 := by omega
  clear hC HN0 rr o2 b2 hc HF
  rcases hcase with ⟨h1, h2⟩ | ⟨h1, h2⟩ | ⟨h1, h2, h3⟩
  · have hq0 : nm.data.toList = [100, 101, 102, 97, 117, 108, 116, 45, 115, 114, 99] := hnl.out.trans h1
    have hl : (C.length : Int) - 1 = 0 := by omega
    have hl1 : (C.length : Int) = 1 := by omega
    obtain rfl := of_lst hq0
    clear h1 hq0
    go_wp2_with fail
    go_loopw [6] (fun i wr => ∃ j : Nat, j ≤ C.length ∧ i = .int .i64 j ∧ Below w2.heap.size w2 wr) (fun i _ => C.length - (intOf i).toNat)
    case atStart => exact ⟨0, Nat.zero_le _, rfl, Below.refl _ w2⟩
    case round =>
      obtain ⟨j, hj, rfl, hb⟩ := hrel
      by_cases hlt : j < C.length
      · go_wp2_with fail
        go_loopw [7] (fun i wr => ∃ k : Nat, k ≤ j ∧ i = .int .i64 k ∧ Below w2.heap.size w2 wr) (fun i _ => j - (intOf i).toNat)
        case atStart => exact ⟨0, Nat.zero_le _, rfl, hb⟩
        case round =>
          obtain ⟨k, hk, rfl, hb⟩ := hrel
          by_cases hlt2 : k < j
          · have hkC : k < C.length := by omega
            have r1 := (hb.cell (p := ⟨g, j, none⟩) hg2).trans (RR.out j hlt)
            have r2 := (hb.cell (p := ⟨g, k, none⟩) hg2).trans (RR.out k hkC)
            have hq : (C[j] == C[k]) = false := by
              rw [beq_eq_false_iff_ne]
              intro e
              exact List.pairwise_iff_getElem.1 HN.out k j hkC hlt hlt2 e.symm
            go_wp2_with fail
            go_region
            all_goals go_wp2_with fail
            all_goals go_roundw
            all_goals first
              | exact ⟨k + 1, by omega, by go_num, hb.drew⟩
              | (simp [intOf]; omega)
          · go_wp2_with fail
            go_roundw
            case rel => exact ⟨j + 1, by omega, by go_num, hb⟩
            case measure => simp [intOf]; omega
      · have hmw : MaxOk m wr := hm2.below hb
        have hTw : ETab wr := hT2.below hb
        go_wp2_with fail
        refine (falls_any m _ hmw hTw).mono ?_
        rintro e w5 ⟨rfl, b5⟩
        go_wp2_with fail
        go_ret
        exact ⟨by exact rfl, hb2.trans ((hb.trans (b5.mono hb.size)).mono hb2.size)⟩
  · have hq1 : (nm.toList == [100, 101, 102, 97, 117, 108, 116, 45, 115, 114, 99]) = false := ne_bq (by rw [hnl.out]; exact h1)
    have hl : (C.length : Int) - 1 = 0 := by omega
    have hl1 : (C.length : Int) = 1 := by omega
    clear h1
    go_wp2_with fail
    go_loopw [6] (fun i wr => ∃ j : Nat, j ≤ C.length ∧ i = .int .i64 j ∧ Below w2.heap.size w2 wr) (fun i _ => C.length - (intOf i).toNat)
    case atStart => exact ⟨0, Nat.zero_le _, rfl, Below.refl _ w2⟩
    case round =>
      obtain ⟨j, hj, rfl, hb⟩ := hrel
      by_cases hlt : j < C.length
      · go_wp2_with fail
        go_loopw [7] (fun i wr => ∃ k : Nat, k ≤ j ∧ i = .int .i64 k ∧ Below w2.heap.size w2 wr) (fun i _ => j - (intOf i).toNat)
        case atStart => exact ⟨0, Nat.zero_le _, rfl, hb⟩
        case round =>
          obtain ⟨k, hk, rfl, hb⟩ := hrel
          by_cases hlt2 : k < j
          · have hkC : k < C.length := by omega
            have r1 := (hb.cell (p := ⟨g, j, none⟩) hg2).trans (RR.out j hlt)
            have r2 := (hb.cell (p := ⟨g, k, none⟩) hg2).trans (RR.out k hkC)
            have hq : (C[j] == C[k]) = false := by
              rw [beq_eq_false_iff_ne]
              intro e
              exact List.pairwise_iff_getElem.1 HN.out k j hkC hlt hlt2 e.symm
            go_wp2_with fail
            go_region
            all_goals go_wp2_with fail
            all_goals go_roundw
            all_goals first
              | exact ⟨k + 1, by omega, by go_num, hb.drew⟩
              | (simp [intOf]; omega)
          · go_wp2_with fail
            go_roundw
            case rel => exact ⟨j + 1, by omega, by go_num, hb⟩
            case measure => simp [intOf]; omega
      · have hmw : MaxOk m wr := hm2.below hb
        have hTw : ETab wr := hT2.below hb
        go_wp2_with fail
        refine (falls_any m _ hmw hTw).mono ?_
        rintro e w5 ⟨rfl, b5⟩
        go_wp2_with fail
        go_ret
        exact ⟨by exact rfl, hb2.trans ((hb.trans (b5.mono hb.size)).mono hb2.size)⟩
  · have hq1 : (nm.toList == [100, 101, 102, 97, 117, 108, 116, 45, 115, 114, 99]) = false := ne_bq (by rw [hnl.out]; exact h1)
    obtain ⟨l, hl0⟩ : ∃ l, C.length = l + 1 := ⟨C.length - 1, by omega⟩
    have hl : (C.length : Int) - 1 = (l : Int) := by omega
    have hl1 : (1 : Int) < (C.length : Int) := by omega
    have hlC : (l : Int) < (C.length : Int) := by omega
    have cl : w2.cell? ⟨g, l, none⟩ = some (.string ⟨#[100, 101, 102, 97, 117, 108, 116, 45, 115, 114, 99]⟩) := by
      rw [RR.out l (by omega)]
      rw [List.getLast?_eq_getElem?, List.getElem?_eq_getElem (by omega)] at h3
      injection h3 with h3
      have : C.length - 1 = l := by omega
      simp only [this] at h3
      rw [h3]
    clear h1 h3 hl0 h2
    go_wp2_with fail
    go_loopw [6] (fun i wr => ∃ j : Nat, j ≤ C.length ∧ i = .int .i64 j ∧ Below w2.heap.size w2 wr) (fun i _ => C.length - (intOf i).toNat)
    case atStart => exact ⟨0, Nat.zero_le _, rfl, Below.refl _ w2⟩
    case round =>
      obtain ⟨j, hj, rfl, hb⟩ := hrel
      by_cases hlt : j < C.length
      · go_wp2_with fail
        go_loopw [7] (fun i wr => ∃ k : Nat, k ≤ j ∧ i = .int .i64 k ∧ Below w2.heap.size w2 wr) (fun i _ => j - (intOf i).toNat)
        case atStart => exact ⟨0, Nat.zero_le _, rfl, hb⟩
        case round =>
          obtain ⟨k, hk, rfl, hb⟩ := hrel
          by_cases hlt2 : k < j
          · have hkC : k < C.length := by omega
            have r1 := (hb.cell (p := ⟨g, j, none⟩) hg2).trans (RR.out j hlt)
            have r2 := (hb.cell (p := ⟨g, k, none⟩) hg2).trans (RR.out k hkC)
            have hq : (C[j] == C[k]) = false := by
              rw [beq_eq_false_iff_ne]
              intro e
              exact List.pairwise_iff_getElem.1 HN.out k j hkC hlt hlt2 e.symm
            go_wp2_with fail
            go_region
            all_goals go_wp2_with fail
            all_goals go_roundw
            all_goals first
              | exact ⟨k + 1, by omega, by go_num, hb.drew⟩
              | (simp [intOf]; omega)
          · go_wp2_with fail
            go_roundw
            case rel => exact ⟨j + 1, by omega, by go_num, hb⟩
            case measure => simp [intOf]; omega
      · have hmw : MaxOk m wr := hm2.below hb
        have hTw : ETab wr := hT2.below hb
        go_wp2_with fail
        refine (falls_any m _ hmw hTw).mono ?_
        rintro e w5 ⟨rfl, b5⟩
        go_wp2_with fail
        go_ret
        exact ⟨by exact rfl, hb2.trans ((hb.trans (b5.mono hb.size)).mono hb2.size)⟩
end Go.Proofs.YtgaeecphohlmpaaDoor
