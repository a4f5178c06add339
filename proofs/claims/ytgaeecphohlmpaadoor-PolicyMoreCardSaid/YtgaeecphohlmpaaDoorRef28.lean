/- lazaretref28.Effective and Chain. -/
import Derived.Test.YtgaeecphohlmpaaDoorWds
import Derived.Deep.Cut
set_option linter.unusedVariables false
namespace Go.Proofs.YtgaeecphohlmpaaDoor
open Go.RowKit

theorem owns_set {w : World} {B n sz cap g k : Nat} {e : TypeId} {v : Value} {xs : List Value} (h : w.ownsRow B e sz v n xs) (hv : v = .slice (some ⟨g, 0, none⟩) n cap) (u : Value) : (w.setCell ⟨g, k, none⟩ u).ownsRow B e sz v n (xs.set k u) := by
  rcases h.2 with ⟨rfl, _⟩ | ⟨g', cap', cur, rfl, hg, hh, hle, hcm, hcs, htake⟩
  · cases hv
  · injection hv with e1 _ e3
    injection e1 with e1
    injection e1 with e1 _
    subst e1
    refine ⟨by simpa using h.1, .inr ⟨g', cap', cur.setIfInBounds k u, rfl, hg, ?_, hle, hcm, by simpa using hcs, ?_⟩⟩
    · unfold World.setCell; simp [Array.getElem?_modify, hh]
    · rw [← htake]; simp [List.take_set]

def dsN : List UInt8 := [100, 101, 102, 97, 117, 108, 116, 45, 115, 114, 99]
def aloneN : List (List UInt8) := [[115, 99, 114, 105, 112, 116, 45, 115, 114, 99], [115, 116, 121, 108, 101, 45, 115, 114, 99], [99, 104, 105, 108, 100, 45, 115, 114, 99], [99, 111, 110, 110, 101, 99, 116, 45, 115, 114, 99], [109, 97, 110, 105, 102, 101, 115, 116, 45, 115, 114, 99], [111, 98, 106, 101, 99, 116, 45, 115, 114, 99], [102, 111, 110, 116, 45, 115, 114, 99], [105, 109, 103, 45, 115, 114, 99], [109, 101, 100, 105, 97, 45, 115, 114, 99]]
def raC : Array Value := #[.string ⟨#[115, 99, 114, 105, 112, 116, 45, 115, 114, 99]⟩, .string ⟨#[115, 116, 121, 108, 101, 45, 115, 114, 99]⟩, .string ⟨#[99, 104, 105, 108, 100, 45, 115, 114, 99]⟩, .string ⟨#[99, 111, 110, 110, 101, 99, 116, 45, 115, 114, 99]⟩, .string ⟨#[109, 97, 110, 105, 102, 101, 115, 116, 45, 115, 114, 99]⟩, .string ⟨#[111, 98, 106, 101, 99, 116, 45, 115, 114, 99]⟩, .string ⟨#[102, 111, 110, 116, 45, 115, 114, 99]⟩, .string ⟨#[105, 109, 103, 45, 115, 114, 99]⟩, .string ⟨#[109, 101, 100, 105, 97, 45, 115, 114, 99]⟩]
theorem ra_at : ∀ j : Fin 9, raC[j.val]? = some (.string ⟨(aloneN.getD j.val []).toArray⟩) := by
  intro j
  match j with
  | ⟨0, _⟩ => rfl
  | ⟨1, _⟩ => rfl
  | ⟨2, _⟩ => rfl
  | ⟨3, _⟩ => rfl
  | ⟨4, _⟩ => rfl
  | ⟨5, _⟩ => rfl
  | ⟨6, _⟩ => rfl
  | ⟨7, _⟩ => rfl
  | ⟨8, _⟩ => rfl
def rkC : Array Value := #[.int .i64 8, .int .i64 9, .int .i64 10, .int .i64 11, .int .i64 12, .int .i64 13, .int .i64 14, .int .i64 15, .int .i64 16]
def rnC : Array Value := #[.string ⟨#[105, 109, 103, 45, 115, 114, 99]⟩, .string ⟨#[102, 111, 110, 116, 45, 115, 114, 99]⟩, .string ⟨#[109, 101, 100, 105, 97, 45, 115, 114, 99]⟩, .string ⟨#[102, 114, 97, 109, 101, 45, 115, 114, 99]⟩, .string ⟨#[111, 98, 106, 101, 99, 116, 45, 115, 114, 99]⟩, .string ⟨#[109, 97, 110, 105, 102, 101, 115, 116, 45, 115, 114, 99]⟩, .string ⟨#[99, 111, 110, 110, 101, 99, 116, 45, 115, 114, 99]⟩, .string ⟨#[98, 97, 115, 101, 45, 117, 114, 105]⟩, .string ⟨#[102, 111, 114, 109, 45, 97, 99, 116, 105, 111, 110]⟩]
theorem rk_at : ∀ j : Fin 9, rkC[j.val]? = some (.int .i64 (8 + j.val)) := by
  intro j
  match j with
  | ⟨0, _⟩ => rfl
  | ⟨1, _⟩ => rfl
  | ⟨2, _⟩ => rfl
  | ⟨3, _⟩ => rfl
  | ⟨4, _⟩ => rfl
  | ⟨5, _⟩ => rfl
  | ⟨6, _⟩ => rfl
  | ⟨7, _⟩ => rfl
  | ⟨8, _⟩ => rfl
theorem rn_at : ∀ j : Fin 9, rnC[j.val]? = some (.string ⟨(effS (8 + j.val)).toArray⟩) := by
  intro j
  match j with
  | ⟨0, _⟩ => rfl
  | ⟨1, _⟩ => rfl
  | ⟨2, _⟩ => rfl
  | ⟨3, _⟩ => rfl
  | ⟨4, _⟩ => rfl
  | ⟨5, _⟩ => rfl
  | ⟨6, _⟩ => rfl
  | ⟨7, _⟩ => rfl
  | ⟨8, _⟩ => rfl
theorem eff_out {k : Int} (h : ¬ (1 ≤ k ∧ k ≤ 16)) : effS k = [] := by
  unfold effS
  split
  · have : k = 0 := by omega
    subst this
    rfl
  · rfl

set_option maxHeartbeats 3200000 in
set_option maxRecDepth 100000 in
theorem reff_any (k : Int) (w : World) : Calls Tryd.prog 18 #[.int .i64 k] w fun e w' => e = .returned (.string ⟨(effS k).toArray⟩) ∧ Below w.heap.size w w' := by
  by_cases h17 : 1 ≤ k ∧ k ≤ 7
  · have h : k = 1 ∨ k = 2 ∨ k = 3 ∨ k = 4 ∨ k = 5 ∨ k = 6 ∨ k = 7 := by omega
    clear h17
    rcases h with rfl | rfl | rfl | rfl | rfl | rfl | rfl
    all_goals
      go_enter Tryd.func18, Tryd.ntmps18
      go_wp2_with fail
      go_ret
      exact ⟨by exact rfl, Below.refl _ w⟩
  have n1 : (k == 1) = false := by rw [beq_eq_false_iff_ne]; omega
  have n2 : (k == 2) = false := by rw [beq_eq_false_iff_ne]; omega
  have n3 : (k == 3) = false := by rw [beq_eq_false_iff_ne]; omega
  have n4 : (k == 4) = false := by rw [beq_eq_false_iff_ne]; omega
  have n5 : (k == 5) = false := by rw [beq_eq_false_iff_ne]; omega
  have n6 : (k == 6) = false := by rw [beq_eq_false_iff_ne]; omega
  have n7 : (k == 7) = false := by rw [beq_eq_false_iff_ne]; omega
  obtain ⟨W2, hW2⟩ : ∃ W2, W2 = (w.alloc (.cells rkC 3)).alloc (.cells rnC 9) := ⟨_, rfl⟩
  have hs2 : W2.heap.size = w.heap.size + 2 := by rw [hW2]; simp
  have hb2 : Below w.heap.size w W2 := by
    rw [hW2]
    exact ((Below.refl _ w).alloc (Nat.le_refl _) _).alloc (by simp) _
  have k1 : W2.heap[w.heap.size + 1]? = some (.cells rnC 9 (0, 0)) := by
    rw [hW2]
    have := heap_alloc_new (w.alloc (.cells rkC 3)) (.cells rnC 9)
    simpa using this
  have k0 : W2.heap[w.heap.size]? = some (.cells rkC 3 (0, 0)) := by
    rw [hW2, Below.heap_alloc _ _ _ (by simp)]
    exact heap_alloc_new w (.cells rkC 3)
  have c0 : Hid (∀ j : Nat, j < 9 → W2.cell? ⟨w.heap.size, j, none⟩ = some (.int .i64 (8 + j))) := by
    intro j hj
    rw [Lib.cell_of_heap k0]
    exact rk_at ⟨j, hj⟩
  have c1 : Hid (∀ j : Nat, j < 9 → W2.cell? ⟨w.heap.size + 1, j, none⟩ = some (.string ⟨(effS (8 + j)).toArray⟩)) := by
    intro j hj
    rw [Lib.cell_of_heap k1]
    exact rn_at ⟨j, hj⟩
  clear k0 k1
  have HW2 := Lib.hid hW2
  unfold rkC rnC at hW2
  go_enter Tryd.func18, Tryd.ntmps18
  go_wp2_with fail
  rw [← hW2]
  clear hW2
  go_loopw [5] (fun i wr => ∃ j : Nat, j ≤ 9 ∧ i = .int .i64 j ∧ (∀ c : Nat, c < j → k ≠ 8 + (c : Int)) ∧ Below (w.heap.size + 2) W2 wr) (fun i _ => 9 - (intOf i).toNat)
  case atStart => exact ⟨0, Nat.zero_le _, rfl, by intro c h; omega, Below.refl _ W2⟩
  case round =>
    obtain ⟨j, hj, rfl, hno, hb⟩ := hrel
    by_cases hlt : j < 9
    · have r0 := (hb.cell (p := ⟨w.heap.size, j, none⟩) (by show w.heap.size < _; omega)).trans (c0.out j hlt)
      have r1 := (hb.cell (p := ⟨w.heap.size + 1, j, none⟩) (by show w.heap.size + 1 < _; omega)).trans (c1.out j hlt)
      have hji : (j : Int) < 9 := by omega
      by_cases hk : k = 8 + (j : Int)
      · subst hk
        go_wp2_with fail
        go_ret
        exact ⟨rfl, hb2.trans (hb.mono (by omega))⟩
      · have hk2 : ¬ (8 + (j : Int)) = k := fun e => hk e.symm
        have hno2 : Hid (∀ c : Nat, c < j + 1 → k ≠ 8 + (c : Int)) := by
          intro c hc
          by_cases e : c = j
          · subst e; exact hk
          · exact hno c (by omega)
        go_wp2_with fail
        go_roundw
        case rel => exact ⟨j + 1, by omega, by go_num, hno2.out, hb⟩
        case measure => simp [intOf]; omega
    · have hs : Hid (effS k = []) := by
        refine eff_out fun h => ?_
        have h2 : (k - 8).toNat < j := by omega
        exact hno _ h2 (by omega)
      go_wp2_with fail
      go_ret
      exact ⟨by rw [hs.out]; exact rfl, hb2.trans (hb.mono (by omega))⟩


set_option maxHeartbeats 4000000 in
set_option maxRecDepth 100000 in
theorem rchain_any (n : ByteArray) (w : World) : Calls Tryd.prog 20 #[.string n] w fun e w' => ∃ v, e = .returned v ∧ w'.ownsRow w.heap.size 9 1 v (chainL n.data.toList).length (strCells (chainL n.data.toList)) ∧ Below w.heap.size w w' := by
  have hsz0 : w.heap.size ≤ (w.alloc (.cells #[.string n] 9)).heap.size := by simp
  by_cases h0 : n.data.toList = [115, 99, 114, 105, 112, 116, 45, 115, 114, 99, 45, 101, 108, 101, 109]
  · obtain rfl := of_lst h0
    clear h0
    have hown0 := ch0 w ⟨#[115, 99, 114, 105, 112, 116, 45, 115, 114, 99, 45, 101, 108, 101, 109]⟩
    have hb0 := (Below.refl _ w).alloc (Nat.le_refl _) (.cells #[.string ⟨#[115, 99, 114, 105, 112, 116, 45, 115, 114, 99, 45, 101, 108, 101, 109]⟩] 9)
    go_enter Tryd.func20, Tryd.ntmps20
    go_upto_region 2 with fail
    generalize hv0 : Value.slice (some ⟨w.heap.size, 0, none⟩) 1 1 = v0 at hown0 ⊢
    generalize hW0 : w.alloc (.cells #[.string ⟨#[115, 99, 114, 105, 112, 116, 45, 115, 114, 99, 45, 101, 108, 101, 109]⟩] 9) = W0 at hown0 hsz0 hb0 ⊢
    clear hv0 hW0
    go_wp2_with (first
      | (at_builtin; refine app1 rfl _ _ 23 rfl infoStr Tryd.underlying23 rfl (by decide) hown1 rfl rfl rfl (by omega) hsz1 ?_; intro v2 w2 hown2 hg2 hbw2; have hsz2 := Nat.le_trans hsz1 hg2.size; obtain ⟨a2, c2, hv2⟩ := owns_shape hown2; subst hv2)
      | (at_builtin; refine app1 rfl _ _ 23 rfl infoStr Tryd.underlying23 rfl (by decide) hown0 rfl rfl rfl (by omega) hsz0 ?_; intro v1 w1 hown1 hg1 hbw1; have hsz1 := Nat.le_trans hsz0 hg1.size; obtain ⟨a1, c1, hv1⟩ := owns_shape hown1; subst hv1))
    go_ret
    exact ⟨_, rfl, hown2, ((hb0.trans hbw1).trans hbw2)⟩
  by_cases h1 : n.data.toList = [115, 99, 114, 105, 112, 116, 45, 115, 114, 99, 45, 97, 116, 116, 114]
  · obtain rfl := of_lst h1
    clear h0 h1
    have hown0 := ch0 w ⟨#[115, 99, 114, 105, 112, 116, 45, 115, 114, 99, 45, 97, 116, 116, 114]⟩
    have hb0 := (Below.refl _ w).alloc (Nat.le_refl _) (.cells #[.string ⟨#[115, 99, 114, 105, 112, 116, 45, 115, 114, 99, 45, 97, 116, 116, 114]⟩] 9)
    go_enter Tryd.func20, Tryd.ntmps20
    go_upto_region 2 with fail
    generalize hv0 : Value.slice (some ⟨w.heap.size, 0, none⟩) 1 1 = v0 at hown0 ⊢
    generalize hW0 : w.alloc (.cells #[.string ⟨#[115, 99, 114, 105, 112, 116, 45, 115, 114, 99, 45, 97, 116, 116, 114]⟩] 9) = W0 at hown0 hsz0 hb0 ⊢
    clear hv0 hW0
    go_wp2_with (first
      | (at_builtin; refine app1 rfl _ _ 23 rfl infoStr Tryd.underlying23 rfl (by decide) hown1 rfl rfl rfl (by omega) hsz1 ?_; intro v2 w2 hown2 hg2 hbw2; have hsz2 := Nat.le_trans hsz1 hg2.size; obtain ⟨a2, c2, hv2⟩ := owns_shape hown2; subst hv2)
      | (at_builtin; refine app1 rfl _ _ 23 rfl infoStr Tryd.underlying23 rfl (by decide) hown0 rfl rfl rfl (by omega) hsz0 ?_; intro v1 w1 hown1 hg1 hbw1; have hsz1 := Nat.le_trans hsz0 hg1.size; obtain ⟨a1, c1, hv1⟩ := owns_shape hown1; subst hv1))
    go_ret
    exact ⟨_, rfl, hown2, ((hb0.trans hbw1).trans hbw2)⟩
  by_cases h2 : n.data.toList = [115, 116, 121, 108, 101, 45, 115, 114, 99, 45, 101, 108, 101, 109]
  · obtain rfl := of_lst h2
    clear h0 h1 h2
    have hown0 := ch0 w ⟨#[115, 116, 121, 108, 101, 45, 115, 114, 99, 45, 101, 108, 101, 109]⟩
    have hb0 := (Below.refl _ w).alloc (Nat.le_refl _) (.cells #[.string ⟨#[115, 116, 121, 108, 101, 45, 115, 114, 99, 45, 101, 108, 101, 109]⟩] 9)
    go_enter Tryd.func20, Tryd.ntmps20
    go_upto_region 2 with fail
    generalize hv0 : Value.slice (some ⟨w.heap.size, 0, none⟩) 1 1 = v0 at hown0 ⊢
    generalize hW0 : w.alloc (.cells #[.string ⟨#[115, 116, 121, 108, 101, 45, 115, 114, 99, 45, 101, 108, 101, 109]⟩] 9) = W0 at hown0 hsz0 hb0 ⊢
    clear hv0 hW0
    go_wp2_with (first
      | (at_builtin; refine app1 rfl _ _ 23 rfl infoStr Tryd.underlying23 rfl (by decide) hown1 rfl rfl rfl (by omega) hsz1 ?_; intro v2 w2 hown2 hg2 hbw2; have hsz2 := Nat.le_trans hsz1 hg2.size; obtain ⟨a2, c2, hv2⟩ := owns_shape hown2; subst hv2)
      | (at_builtin; refine app1 rfl _ _ 23 rfl infoStr Tryd.underlying23 rfl (by decide) hown0 rfl rfl rfl (by omega) hsz0 ?_; intro v1 w1 hown1 hg1 hbw1; have hsz1 := Nat.le_trans hsz0 hg1.size; obtain ⟨a1, c1, hv1⟩ := owns_shape hown1; subst hv1))
    go_ret
    exact ⟨_, rfl, hown2, ((hb0.trans hbw1).trans hbw2)⟩
  by_cases h3 : n.data.toList = [115, 116, 121, 108, 101, 45, 115, 114, 99, 45, 97, 116, 116, 114]
  · obtain rfl := of_lst h3
    clear h0 h1 h2 h3
    have hown0 := ch0 w ⟨#[115, 116, 121, 108, 101, 45, 115, 114, 99, 45, 97, 116, 116, 114]⟩
    have hb0 := (Below.refl _ w).alloc (Nat.le_refl _) (.cells #[.string ⟨#[115, 116, 121, 108, 101, 45, 115, 114, 99, 45, 97, 116, 116, 114]⟩] 9)
    go_enter Tryd.func20, Tryd.ntmps20
    go_upto_region 2 with fail
    generalize hv0 : Value.slice (some ⟨w.heap.size, 0, none⟩) 1 1 = v0 at hown0 ⊢
    generalize hW0 : w.alloc (.cells #[.string ⟨#[115, 116, 121, 108, 101, 45, 115, 114, 99, 45, 97, 116, 116, 114]⟩] 9) = W0 at hown0 hsz0 hb0 ⊢
    clear hv0 hW0
    go_wp2_with (first
      | (at_builtin; refine app1 rfl _ _ 23 rfl infoStr Tryd.underlying23 rfl (by decide) hown1 rfl rfl rfl (by omega) hsz1 ?_; intro v2 w2 hown2 hg2 hbw2; have hsz2 := Nat.le_trans hsz1 hg2.size; obtain ⟨a2, c2, hv2⟩ := owns_shape hown2; subst hv2)
      | (at_builtin; refine app1 rfl _ _ 23 rfl infoStr Tryd.underlying23 rfl (by decide) hown0 rfl rfl rfl (by omega) hsz0 ?_; intro v1 w1 hown1 hg1 hbw1; have hsz1 := Nat.le_trans hsz0 hg1.size; obtain ⟨a1, c1, hv1⟩ := owns_shape hown1; subst hv1))
    go_ret
    exact ⟨_, rfl, hown2, ((hb0.trans hbw1).trans hbw2)⟩
  by_cases h4 : n.data.toList = [119, 111, 114, 107, 101, 114, 45, 115, 114, 99]
  · obtain rfl := of_lst h4
    clear h0 h1 h2 h3 h4
    have hown0 := ch0 w ⟨#[119, 111, 114, 107, 101, 114, 45, 115, 114, 99]⟩
    have hb0 := (Below.refl _ w).alloc (Nat.le_refl _) (.cells #[.string ⟨#[119, 111, 114, 107, 101, 114, 45, 115, 114, 99]⟩] 9)
    go_enter Tryd.func20, Tryd.ntmps20
    go_upto_region 2 with fail
    generalize hv0 : Value.slice (some ⟨w.heap.size, 0, none⟩) 1 1 = v0 at hown0 ⊢
    generalize hW0 : w.alloc (.cells #[.string ⟨#[119, 111, 114, 107, 101, 114, 45, 115, 114, 99]⟩] 9) = W0 at hown0 hsz0 hb0 ⊢
    clear hv0 hW0
    go_wp2_with (first
      | (at_builtin; refine app1 rfl _ _ 23 rfl infoStr Tryd.underlying23 rfl (by decide) hown2 rfl rfl rfl (by omega) hsz2 ?_; intro v3 w3 hown3 hg3 hbw3; have hsz3 := Nat.le_trans hsz2 hg3.size; obtain ⟨a3, c3, hv3⟩ := owns_shape hown3; subst hv3)
      | (at_builtin; refine app1 rfl _ _ 23 rfl infoStr Tryd.underlying23 rfl (by decide) hown1 rfl rfl rfl (by omega) hsz1 ?_; intro v2 w2 hown2 hg2 hbw2; have hsz2 := Nat.le_trans hsz1 hg2.size; obtain ⟨a2, c2, hv2⟩ := owns_shape hown2; subst hv2)
      | (at_builtin; refine app1 rfl _ _ 23 rfl infoStr Tryd.underlying23 rfl (by decide) hown0 rfl rfl rfl (by omega) hsz0 ?_; intro v1 w1 hown1 hg1 hbw1; have hsz1 := Nat.le_trans hsz0 hg1.size; obtain ⟨a1, c1, hv1⟩ := owns_shape hown1; subst hv1))
    go_ret
    exact ⟨_, rfl, hown3, (((hb0.trans hbw1).trans hbw2).trans hbw3)⟩
  by_cases h5 : n.data.toList = [102, 114, 97, 109, 101, 45, 115, 114, 99]
  · obtain rfl := of_lst h5
    clear h0 h1 h2 h3 h4 h5
    have hown0 := ch0 w ⟨#[102, 114, 97, 109, 101, 45, 115, 114, 99]⟩
    have hb0 := (Below.refl _ w).alloc (Nat.le_refl _) (.cells #[.string ⟨#[102, 114, 97, 109, 101, 45, 115, 114, 99]⟩] 9)
    go_enter Tryd.func20, Tryd.ntmps20
    go_upto_region 2 with fail
    generalize hv0 : Value.slice (some ⟨w.heap.size, 0, none⟩) 1 1 = v0 at hown0 ⊢
    generalize hW0 : w.alloc (.cells #[.string ⟨#[102, 114, 97, 109, 101, 45, 115, 114, 99]⟩] 9) = W0 at hown0 hsz0 hb0 ⊢
    clear hv0 hW0
    go_wp2_with (first
      | (at_builtin; refine app1 rfl _ _ 23 rfl infoStr Tryd.underlying23 rfl (by decide) hown1 rfl rfl rfl (by omega) hsz1 ?_; intro v2 w2 hown2 hg2 hbw2; have hsz2 := Nat.le_trans hsz1 hg2.size; obtain ⟨a2, c2, hv2⟩ := owns_shape hown2; subst hv2)
      | (at_builtin; refine app1 rfl _ _ 23 rfl infoStr Tryd.underlying23 rfl (by decide) hown0 rfl rfl rfl (by omega) hsz0 ?_; intro v1 w1 hown1 hg1 hbw1; have hsz1 := Nat.le_trans hsz0 hg1.size; obtain ⟨a1, c1, hv1⟩ := owns_shape hown1; subst hv1))
    go_ret
    exact ⟨_, rfl, hown2, ((hb0.trans hbw1).trans hbw2)⟩
  have hA : ∀ j : Fin 9, chainL (aloneN.getD j.val []) = [aloneN.getD j.val [], dsN] := by decide +kernel
  have HA := Lib.hid hA
  clear hA
  obtain ⟨W2, hW2⟩ : ∃ W2, W2 = (w.alloc (.cells #[.string n] 9)).alloc (.cells raC 9) := ⟨_, rfl⟩
  have hs2 : W2.heap.size = w.heap.size + 2 := by rw [hW2]; simp
  have hb2 : Below w.heap.size w W2 := by
    rw [hW2]
    exact ((Below.refl _ w).alloc (Nat.le_refl _) _).alloc (by simp) _
  have hown0 : W2.ownsRow w.heap.size 9 1 (.slice (some ⟨w.heap.size, 0, none⟩) 1 1) 1 [.string n] := by
    rw [hW2]
    exact (ch0 w n).alloc _
  have k1 : W2.heap[w.heap.size + 1]? = some (.cells raC 9 (0, 0)) := by
    rw [hW2]
    have := heap_alloc_new (w.alloc (.cells #[.string n] 9)) (.cells raC 9)
    simpa using this
  have c1 : Hid (∀ j : Nat, j < 9 → W2.cell? ⟨w.heap.size + 1, j, none⟩ = some (.string ⟨(aloneN.getD j []).toArray⟩)) := by
    intro j hj
    rw [Lib.cell_of_heap k1]
    exact ra_at ⟨j, hj⟩
  clear k1
  have hnone : Hid ((∀ c : Nat, c < 9 → aloneN.getD c [] ≠ n.data.toList) → chainL n.data.toList = [n.data.toList]) := by
    intro hno
    have a0 := hno 0 (by omega)
    have a1 := hno 1 (by omega)
    have a2 := hno 2 (by omega)
    have a3 := hno 3 (by omega)
    have a4 := hno 4 (by omega)
    have a5 := hno 5 (by omega)
    have a6 := hno 6 (by omega)
    have a7 := hno 7 (by omega)
    have a8 := hno 8 (by omega)
    simp only [aloneN, List.getD_cons_zero, List.getD_cons_succ] at a0 a1 a2 a3 a4 a5 a6 a7 a8
    clear hno
    have : chainsT.find? (fun p => p.1 == n.data.toList) = none := by
      rw [List.find?_eq_none]
      intro p hp
      simp only [chainsT, List.mem_cons, List.not_mem_nil, or_false] at hp
      simp only [beq_iff_eq]
      rcases hp with rfl | rfl | rfl | rfl | rfl | rfl | rfl | rfl | rfl | rfl | rfl | rfl | rfl | rfl | rfl
      all_goals first
        | exact a0 | exact a1 | exact a2 | exact a3 | exact a4 | exact a5 | exact a6 | exact a7 | exact a8
        | exact fun e => h0 e.symm | exact fun e => h1 e.symm | exact fun e => h2 e.symm | exact fun e => h3 e.symm | exact fun e => h4 e.symm | exact fun e => h5 e.symm
    unfold chainL
    rw [this]
    rfl
  replace h0 := ne_bq h0
  replace h1 := ne_bq h1
  replace h2 := ne_bq h2
  replace h3 := ne_bq h3
  replace h4 := ne_bq h4
  replace h5 := ne_bq h5
  unfold raC at hW2
  go_enter Tryd.func20, Tryd.ntmps20
  go_wp2_with fail
  rw [← hW2]
  clear hW2
  go_loopw [5] (fun i wr => ∃ j : Nat, j ≤ 9 ∧ i = .int .i64 j ∧ Hid (∀ c : Nat, c < j → aloneN.getD c [] ≠ n.data.toList) ∧ wr = W2) (fun i _ => 9 - (intOf i).toNat)
  case atStart => exact ⟨0, Nat.zero_le _, rfl, by intro c h; omega, rfl⟩
  case round =>
    obtain ⟨j, hj, rfl, hno, rfl⟩ := hrel
    by_cases hlt : j < 9
    · have r1 := c1.out j hlt
      have hji : (j : Int) < 9 := by omega
      obtain ⟨am, ham⟩ : ∃ am : ByteArray, (⟨(aloneN.getD j []).toArray⟩ : ByteArray) = am := ⟨_, rfl⟩
      have hal : Hid (am.data.toList = aloneN.getD j []) := by show am.data.toList = _; rw [← ham]
      rw [ham] at r1
      clear ham
      by_cases hk : am.data.toList = n.data.toList
      · have heq : (am.toList == n.toList) = true := by rw [ByteArray.toList_eq, ByteArray.toList_eq, beq_iff_eq]; exact hk
        have hch : Hid (chainL n.data.toList = [n.data.toList, dsN]) := by
          show _ = _
          rw [← hk, hal.out]
          exact HA.out ⟨j, hlt⟩
        clear hk
        have hszW : w.heap.size ≤ wr.heap.size := by omega
        clear hs2
        generalize hv0 : Value.slice (some ⟨w.heap.size, 0, none⟩) 1 1 = v0 at hown0 ⊢
        clear hv0
        go_wp2_with ((at_builtin; refine app1 rfl _ _ 23 rfl infoStr Tryd.underlying23 rfl (by decide) hown0 rfl rfl rfl (by omega) hszW ?_; intro v1 w1 hown1 hg1 hbw1))
        go_ret
        rw [hch.out]
        refine ⟨_, rfl, ?_, hb2.trans hbw1⟩
        have e : strCells [n.data.toList, dsN] = [.string n] ++ [.string ⟨#[100, 101, 102, 97, 117, 108, 116, 45, 115, 114, 99]⟩] := by simp [strCells, dsN]
        rw [e]
        exact hown1
      · have heq : (am.toList == n.toList) = false := by rw [ByteArray.toList_eq, ByteArray.toList_eq, beq_eq_false_iff_ne]; exact hk
        have hno2 : Hid (∀ c : Nat, c < j + 1 → aloneN.getD c [] ≠ n.data.toList) := by
          intro c hc
          by_cases e : c = j
          · subst e; rw [← hal.out]; exact hk
          · exact hno.out c (by omega)
        go_wp2_with fail
        go_roundw
        case rel => exact ⟨j + 1, by omega, by go_num, hno2.out, by first | rfl | trivial⟩
        case measure => simp [intOf]; omega
    · have hch : Hid (chainL n.data.toList = [n.data.toList]) := hnone.out fun c hc => hno.out c (by omega)
      go_wp2_with fail
      go_ret
      rw [hch.out]
      refine ⟨_, rfl, ?_, hb2⟩
      have e : strCells [n.data.toList] = [.string n] := by simp [strCells]
      rw [e]
      exact hown0
end Go.Proofs.YtgaeecphohlmpaaDoor
