/- chains.Chain: which directives stand in for a name. -/
import Derived.Test.YtgaeecphohlmpaaDoorPol2
import Derived.Deep.Cut
set_option linter.unusedVariables false
namespace Go.Proofs.YtgaeecphohlmpaaDoor
open Go.RowKit

/-- 'append(s, u1, u2)': what the walk meets behind 'buildSlice'. -/
theorem app2 {P : Program} {wr : World} {ops : Array Oper} {rest : List Oper} {o : Oper} {a : Act} {Q : Exit → Act → World → Prop} (hgd : o.guard = none) (s x : Operand) (t : TypeId)
    (ho : o.op = .call { callee := .builtin .append, args := #[s, x], argTypes := #[t, t] })
    {base : Nat} {e : TypeId} {z : Value} {bytes : Nat} (hinfo : (P.info? e).map (fun i => (i.zero, i.size, i.bytes)) = some (some z, 1, bytes)) (ht : P.underlying t = some (.slice e)) (hzs : z.cells.size = 1) (hbytes : bytes ≤ 64)
    {v : Value} {n : Nat} {xs : List Value} {u u2 : Value} (hown : wr.ownsRow base e 1 v n xs) (hs : a.eval s = v) (hx : a.eval x = .slice (some ⟨wr.heap.size, 0, none⟩) 2 2) (hu : u.oneCell' = true) (hu2 : u2.oneCell' = true) (hn : n + 2 ≤ 1099511627776) (hbase : base ≤ wr.heap.size)
    (h : ∀ v' w', w'.ownsRow base e 1 v' (n + 2) (xs ++ [u, u2]) → wr.grownBy w' v.ownBlock → Below base wr w' → wpList P ops Q rest (a.put o.dst v') w') : wpList P ops Q (o :: rest) a (wr.alloc (.cells #[u, u2] e)) := by
  obtain ⟨i0, hi, hz0, hz1, hz2⟩ := info_parts hinfo
  refine wpList_append_own _ hgd s x t ho base e i0 z 1 bytes ht hi hz0 hz1 hz2 hzs (by decide) v n xs hs (hown.alloc _) ⟨wr.heap.size, 0, none⟩ 2 2 [u, u2] hx rfl ?_ ?_ ?_ ?_ ?_ ?_
  · intro j y hj
    match j, hj with
    | 0, hj => simp at hj; subst hj; simp [Addr.add]
    | 1, hj => simp at hj; subst hj; simp [Addr.add]
  · intro y hy; simp at hy; rcases hy with rfl | rfl
    · exact hu
    · exact hu2
  · unfold maxLen; omega
  · have : (n + 2) * bytes ≤ 1099511627776 * 64 := Nat.mul_le_mul hn hbytes
    omega
  · simp; omega
  · intro v' w' hown' hg _
    have hg2 : wr.grownBy w' v.ownBlock := ⟨hg.os, hg.tape, hg.output, Nat.le_trans (by simp) hg.size, fun k hk hne => (hg.block k (by simp; omega) hne).trans (Below.heap_alloc wr _ k hk)⟩
    exact h v' w' hown' hg2 ((Below.refl base wr).grown hg2 hbase fun k hk => (hown.lt k hk).1)

theorem ch0 (w : World) (n : ByteArray) : (w.alloc (.cells #[.string n] 9)).ownsRow w.heap.size 9 1 (.slice (some ⟨w.heap.size, 0, none⟩) 1 1) 1 [.string n] := by
  have := lit_owns w [n.data.toList] (by simp)
  simpa [strCells] using this
theorem of_lst {n : ByteArray} {l : List UInt8} (h : n.data.toList = l) : n = ⟨l.toArray⟩ := by
  subst h; simp
theorem ne_bq {n : ByteArray} {l : List UInt8} (h : ¬ n.data.toList = l) : (n.toList == l) = false := by
  rw [ByteArray.toList_eq, beq_eq_false_iff_ne]; exact h

def chainsT : List (List UInt8 × List (List UInt8)) := [
  ([115, 116, 121, 108, 101, 45, 115, 114, 99, 45, 101, 108, 101, 109], [[115, 116, 121, 108, 101, 45, 115, 114, 99], [100, 101, 102, 97, 117, 108, 116, 45, 115, 114, 99]]),
  ([115, 116, 121, 108, 101, 45, 115, 114, 99, 45, 97, 116, 116, 114], [[115, 116, 121, 108, 101, 45, 115, 114, 99], [100, 101, 102, 97, 117, 108, 116, 45, 115, 114, 99]]),
  ([102, 114, 97, 109, 101, 45, 115, 114, 99], [[99, 104, 105, 108, 100, 45, 115, 114, 99], [100, 101, 102, 97, 117, 108, 116, 45, 115, 114, 99]]),
  ([119, 111, 114, 107, 101, 114, 45, 115, 114, 99], [[99, 104, 105, 108, 100, 45, 115, 114, 99], [115, 99, 114, 105, 112, 116, 45, 115, 114, 99], [100, 101, 102, 97, 117, 108, 116, 45, 115, 114, 99]]),
  ([115, 99, 114, 105, 112, 116, 45, 115, 114, 99, 45, 101, 108, 101, 109], [[115, 99, 114, 105, 112, 116, 45, 115, 114, 99], [100, 101, 102, 97, 117, 108, 116, 45, 115, 114, 99]]),
  ([115, 99, 114, 105, 112, 116, 45, 115, 114, 99, 45, 97, 116, 116, 114], [[115, 99, 114, 105, 112, 116, 45, 115, 114, 99], [100, 101, 102, 97, 117, 108, 116, 45, 115, 114, 99]]),
  ([115, 99, 114, 105, 112, 116, 45, 115, 114, 99], [[100, 101, 102, 97, 117, 108, 116, 45, 115, 114, 99]]),
  ([115, 116, 121, 108, 101, 45, 115, 114, 99], [[100, 101, 102, 97, 117, 108, 116, 45, 115, 114, 99]]),
  ([99, 104, 105, 108, 100, 45, 115, 114, 99], [[100, 101, 102, 97, 117, 108, 116, 45, 115, 114, 99]]),
  ([99, 111, 110, 110, 101, 99, 116, 45, 115, 114, 99], [[100, 101, 102, 97, 117, 108, 116, 45, 115, 114, 99]]),
  ([109, 97, 110, 105, 102, 101, 115, 116, 45, 115, 114, 99], [[100, 101, 102, 97, 117, 108, 116, 45, 115, 114, 99]]),
  ([111, 98, 106, 101, 99, 116, 45, 115, 114, 99], [[100, 101, 102, 97, 117, 108, 116, 45, 115, 114, 99]]),
  ([102, 111, 110, 116, 45, 115, 114, 99], [[100, 101, 102, 97, 117, 108, 116, 45, 115, 114, 99]]),
  ([105, 109, 103, 45, 115, 114, 99], [[100, 101, 102, 97, 117, 108, 116, 45, 115, 114, 99]]),
  ([109, 101, 100, 105, 97, 45, 115, 114, 99], [[100, 101, 102, 97, 117, 108, 116, 45, 115, 114, 99]])]
/-- The chain of a name. -/
def chainL (n : List UInt8) : List (List UInt8) := n :: ((chainsT.find? fun p => p.1 == n).map (·.2)).getD []

set_option maxHeartbeats 4000000 in
set_option maxRecDepth 100000 in
theorem chain_any (n : ByteArray) (w : World) : Calls Tryd.prog 16 #[.string n] w fun e w' => ∃ v, e = .returned v ∧ w'.ownsRow w.heap.size 9 1 v (chainL n.data.toList).length (strCells (chainL n.data.toList)) ∧ Below w.heap.size w w' := by
  have hsz0 : w.heap.size ≤ (w.alloc (.cells #[.string n] 9)).heap.size := by simp
  by_cases h0 : n.data.toList = [115, 116, 121, 108, 101, 45, 115, 114, 99, 45, 101, 108, 101, 109]
  · obtain rfl := of_lst h0
    clear h0
    have hown0 := ch0 w ⟨#[115, 116, 121, 108, 101, 45, 115, 114, 99, 45, 101, 108, 101, 109]⟩
    have hb0 := (Below.refl _ w).alloc (Nat.le_refl _) (.cells #[.string ⟨#[115, 116, 121, 108, 101, 45, 115, 114, 99, 45, 101, 108, 101, 109]⟩] 9)
    go_enter Tryd.func16, Tryd.ntmps16
    go_upto_region 2 with fail
    generalize hv0 : Value.slice (some ⟨w.heap.size, 0, none⟩) 1 1 = v0 at hown0 ⊢
    generalize hW0 : w.alloc (.cells #[.string ⟨#[115, 116, 121, 108, 101, 45, 115, 114, 99, 45, 101, 108, 101, 109]⟩] 9) = W0 at hown0 hsz0 hb0 ⊢
    clear hv0 hW0
    go_wp2_with (first
      | (at_builtin; refine app2 rfl _ _ 23 rfl infoStr Tryd.underlying23 rfl (by decide) hown0 rfl rfl rfl rfl (by omega) hsz0 ?_; intro v1 w1 hown1 hg1 hbw1))
    go_ret
    exact ⟨_, rfl, hown1, (hb0.trans hbw1)⟩
  by_cases h1 : n.data.toList = [115, 116, 121, 108, 101, 45, 115, 114, 99, 45, 97, 116, 116, 114]
  · obtain rfl := of_lst h1
    clear h0 h1
    have hown0 := ch0 w ⟨#[115, 116, 121, 108, 101, 45, 115, 114, 99, 45, 97, 116, 116, 114]⟩
    have hb0 := (Below.refl _ w).alloc (Nat.le_refl _) (.cells #[.string ⟨#[115, 116, 121, 108, 101, 45, 115, 114, 99, 45, 97, 116, 116, 114]⟩] 9)
    go_enter Tryd.func16, Tryd.ntmps16
    go_upto_region 2 with fail
    generalize hv0 : Value.slice (some ⟨w.heap.size, 0, none⟩) 1 1 = v0 at hown0 ⊢
    generalize hW0 : w.alloc (.cells #[.string ⟨#[115, 116, 121, 108, 101, 45, 115, 114, 99, 45, 97, 116, 116, 114]⟩] 9) = W0 at hown0 hsz0 hb0 ⊢
    clear hv0 hW0
    go_wp2_with (first
      | (at_builtin; refine app2 rfl _ _ 23 rfl infoStr Tryd.underlying23 rfl (by decide) hown0 rfl rfl rfl rfl (by omega) hsz0 ?_; intro v1 w1 hown1 hg1 hbw1))
    go_ret
    exact ⟨_, rfl, hown1, (hb0.trans hbw1)⟩
  by_cases h2 : n.data.toList = [102, 114, 97, 109, 101, 45, 115, 114, 99]
  · obtain rfl := of_lst h2
    clear h0 h1 h2
    have hown0 := ch0 w ⟨#[102, 114, 97, 109, 101, 45, 115, 114, 99]⟩
    have hb0 := (Below.refl _ w).alloc (Nat.le_refl _) (.cells #[.string ⟨#[102, 114, 97, 109, 101, 45, 115, 114, 99]⟩] 9)
    go_enter Tryd.func16, Tryd.ntmps16
    go_upto_region 2 with fail
    generalize hv0 : Value.slice (some ⟨w.heap.size, 0, none⟩) 1 1 = v0 at hown0 ⊢
    generalize hW0 : w.alloc (.cells #[.string ⟨#[102, 114, 97, 109, 101, 45, 115, 114, 99]⟩] 9) = W0 at hown0 hsz0 hb0 ⊢
    clear hv0 hW0
    go_wp2_with (first
      | (at_builtin; refine app2 rfl _ _ 23 rfl infoStr Tryd.underlying23 rfl (by decide) hown0 rfl rfl rfl rfl (by omega) hsz0 ?_; intro v1 w1 hown1 hg1 hbw1))
    go_ret
    exact ⟨_, rfl, hown1, (hb0.trans hbw1)⟩
  by_cases h3 : n.data.toList = [119, 111, 114, 107, 101, 114, 45, 115, 114, 99]
  · obtain rfl := of_lst h3
    clear h0 h1 h2 h3
    have hown0 := ch0 w ⟨#[119, 111, 114, 107, 101, 114, 45, 115, 114, 99]⟩
    have hb0 := (Below.refl _ w).alloc (Nat.le_refl _) (.cells #[.string ⟨#[119, 111, 114, 107, 101, 114, 45, 115, 114, 99]⟩] 9)
    go_enter Tryd.func16, Tryd.ntmps16
    go_upto_region 2 with fail
    generalize hv0 : Value.slice (some ⟨w.heap.size, 0, none⟩) 1 1 = v0 at hown0 ⊢
    generalize hW0 : w.alloc (.cells #[.string ⟨#[119, 111, 114, 107, 101, 114, 45, 115, 114, 99]⟩] 9) = W0 at hown0 hsz0 hb0 ⊢
    clear hv0 hW0
    go_wp2_with (first
      | (at_builtin; refine app1 rfl _ _ 23 rfl infoStr Tryd.underlying23 rfl (by decide) hown2 rfl rfl rfl (by omega) hsz2 ?_; intro v3 w3 hown3 hg3 hbw3; have hsz3 := Nat.le_trans hsz2 hg3.size)
      | (at_builtin; refine app1 rfl _ _ 23 rfl infoStr Tryd.underlying23 rfl (by decide) hown1 rfl rfl rfl (by omega) hsz1 ?_; intro v2 w2 hown2 hg2 hbw2; have hsz2 := Nat.le_trans hsz1 hg2.size)
      | (at_builtin; refine app1 rfl _ _ 23 rfl infoStr Tryd.underlying23 rfl (by decide) hown0 rfl rfl rfl (by omega) hsz0 ?_; intro v1 w1 hown1 hg1 hbw1; have hsz1 := Nat.le_trans hsz0 hg1.size))
    go_ret
    exact ⟨_, rfl, hown3, (((hb0.trans hbw1).trans hbw2).trans hbw3)⟩
  by_cases h4 : n.data.toList = [115, 99, 114, 105, 112, 116, 45, 115, 114, 99, 45, 101, 108, 101, 109]
  · obtain rfl := of_lst h4
    clear h0 h1 h2 h3 h4
    have hown0 := ch0 w ⟨#[115, 99, 114, 105, 112, 116, 45, 115, 114, 99, 45, 101, 108, 101, 109]⟩
    have hb0 := (Below.refl _ w).alloc (Nat.le_refl _) (.cells #[.string ⟨#[115, 99, 114, 105, 112, 116, 45, 115, 114, 99, 45, 101, 108, 101, 109]⟩] 9)
    go_enter Tryd.func16, Tryd.ntmps16
    go_upto_region 2 with fail
    generalize hv0 : Value.slice (some ⟨w.heap.size, 0, none⟩) 1 1 = v0 at hown0 ⊢
    generalize hW0 : w.alloc (.cells #[.string ⟨#[115, 99, 114, 105, 112, 116, 45, 115, 114, 99, 45, 101, 108, 101, 109]⟩] 9) = W0 at hown0 hsz0 hb0 ⊢
    clear hv0 hW0
    go_wp2_with (first
      | (at_builtin; refine app1 rfl _ _ 23 rfl infoStr Tryd.underlying23 rfl (by decide) hown1 rfl rfl rfl (by omega) hsz1 ?_; intro v2 w2 hown2 hg2 hbw2; have hsz2 := Nat.le_trans hsz1 hg2.size)
      | (at_builtin; refine app1 rfl _ _ 23 rfl infoStr Tryd.underlying23 rfl (by decide) hown0 rfl rfl rfl (by omega) hsz0 ?_; intro v1 w1 hown1 hg1 hbw1; have hsz1 := Nat.le_trans hsz0 hg1.size))
    go_ret
    exact ⟨_, rfl, hown2, ((hb0.trans hbw1).trans hbw2)⟩
  by_cases h5 : n.data.toList = [115, 99, 114, 105, 112, 116, 45, 115, 114, 99, 45, 97, 116, 116, 114]
  · obtain rfl := of_lst h5
    clear h0 h1 h2 h3 h4 h5
    have hown0 := ch0 w ⟨#[115, 99, 114, 105, 112, 116, 45, 115, 114, 99, 45, 97, 116, 116, 114]⟩
    have hb0 := (Below.refl _ w).alloc (Nat.le_refl _) (.cells #[.string ⟨#[115, 99, 114, 105, 112, 116, 45, 115, 114, 99, 45, 97, 116, 116, 114]⟩] 9)
    go_enter Tryd.func16, Tryd.ntmps16
    go_upto_region 2 with fail
    generalize hv0 : Value.slice (some ⟨w.heap.size, 0, none⟩) 1 1 = v0 at hown0 ⊢
    generalize hW0 : w.alloc (.cells #[.string ⟨#[115, 99, 114, 105, 112, 116, 45, 115, 114, 99, 45, 97, 116, 116, 114]⟩] 9) = W0 at hown0 hsz0 hb0 ⊢
    clear hv0 hW0
    go_wp2_with (first
      | (at_builtin; refine app1 rfl _ _ 23 rfl infoStr Tryd.underlying23 rfl (by decide) hown1 rfl rfl rfl (by omega) hsz1 ?_; intro v2 w2 hown2 hg2 hbw2; have hsz2 := Nat.le_trans hsz1 hg2.size)
      | (at_builtin; refine app1 rfl _ _ 23 rfl infoStr Tryd.underlying23 rfl (by decide) hown0 rfl rfl rfl (by omega) hsz0 ?_; intro v1 w1 hown1 hg1 hbw1; have hsz1 := Nat.le_trans hsz0 hg1.size))
    go_ret
    exact ⟨_, rfl, hown2, ((hb0.trans hbw1).trans hbw2)⟩
  by_cases h6 : n.data.toList = [115, 99, 114, 105, 112, 116, 45, 115, 114, 99]
  · obtain rfl := of_lst h6
    clear h0 h1 h2 h3 h4 h5 h6
    have hown0 := ch0 w ⟨#[115, 99, 114, 105, 112, 116, 45, 115, 114, 99]⟩
    have hb0 := (Below.refl _ w).alloc (Nat.le_refl _) (.cells #[.string ⟨#[115, 99, 114, 105, 112, 116, 45, 115, 114, 99]⟩] 9)
    go_enter Tryd.func16, Tryd.ntmps16
    go_upto_region 2 with fail
    generalize hv0 : Value.slice (some ⟨w.heap.size, 0, none⟩) 1 1 = v0 at hown0 ⊢
    generalize hW0 : w.alloc (.cells #[.string ⟨#[115, 99, 114, 105, 112, 116, 45, 115, 114, 99]⟩] 9) = W0 at hown0 hsz0 hb0 ⊢
    clear hv0 hW0
    go_wp2_with (first
      | (at_builtin; refine app1 rfl _ _ 23 rfl infoStr Tryd.underlying23 rfl (by decide) hown0 rfl rfl rfl (by omega) hsz0 ?_; intro v1 w1 hown1 hg1 hbw1; have hsz1 := Nat.le_trans hsz0 hg1.size))
    go_ret
    exact ⟨_, rfl, hown1, (hb0.trans hbw1)⟩
  by_cases h7 : n.data.toList = [115, 116, 121, 108, 101, 45, 115, 114, 99]
  · obtain rfl := of_lst h7
    clear h0 h1 h2 h3 h4 h5 h6 h7
    have hown0 := ch0 w ⟨#[115, 116, 121, 108, 101, 45, 115, 114, 99]⟩
    have hb0 := (Below.refl _ w).alloc (Nat.le_refl _) (.cells #[.string ⟨#[115, 116, 121, 108, 101, 45, 115, 114, 99]⟩] 9)
    go_enter Tryd.func16, Tryd.ntmps16
    go_upto_region 2 with fail
    generalize hv0 : Value.slice (some ⟨w.heap.size, 0, none⟩) 1 1 = v0 at hown0 ⊢
    generalize hW0 : w.alloc (.cells #[.string ⟨#[115, 116, 121, 108, 101, 45, 115, 114, 99]⟩] 9) = W0 at hown0 hsz0 hb0 ⊢
    clear hv0 hW0
    go_wp2_with (first
      | (at_builtin; refine app1 rfl _ _ 23 rfl infoStr Tryd.underlying23 rfl (by decide) hown0 rfl rfl rfl (by omega) hsz0 ?_; intro v1 w1 hown1 hg1 hbw1; have hsz1 := Nat.le_trans hsz0 hg1.size))
    go_ret
    exact ⟨_, rfl, hown1, (hb0.trans hbw1)⟩
  by_cases h8 : n.data.toList = [99, 104, 105, 108, 100, 45, 115, 114, 99]
  · obtain rfl := of_lst h8
    clear h0 h1 h2 h3 h4 h5 h6 h7 h8
    have hown0 := ch0 w ⟨#[99, 104, 105, 108, 100, 45, 115, 114, 99]⟩
    have hb0 := (Below.refl _ w).alloc (Nat.le_refl _) (.cells #[.string ⟨#[99, 104, 105, 108, 100, 45, 115, 114, 99]⟩] 9)
    go_enter Tryd.func16, Tryd.ntmps16
    go_upto_region 2 with fail
    generalize hv0 : Value.slice (some ⟨w.heap.size, 0, none⟩) 1 1 = v0 at hown0 ⊢
    generalize hW0 : w.alloc (.cells #[.string ⟨#[99, 104, 105, 108, 100, 45, 115, 114, 99]⟩] 9) = W0 at hown0 hsz0 hb0 ⊢
    clear hv0 hW0
    go_wp2_with (first
      | (at_builtin; refine app1 rfl _ _ 23 rfl infoStr Tryd.underlying23 rfl (by decide) hown0 rfl rfl rfl (by omega) hsz0 ?_; intro v1 w1 hown1 hg1 hbw1; have hsz1 := Nat.le_trans hsz0 hg1.size))
    go_ret
    exact ⟨_, rfl, hown1, (hb0.trans hbw1)⟩
  by_cases h9 : n.data.toList = [99, 111, 110, 110, 101, 99, 116, 45, 115, 114, 99]
  · obtain rfl := of_lst h9
    clear h0 h1 h2 h3 h4 h5 h6 h7 h8 h9
    have hown0 := ch0 w ⟨#[99, 111, 110, 110, 101, 99, 116, 45, 115, 114, 99]⟩
    have hb0 := (Below.refl _ w).alloc (Nat.le_refl _) (.cells #[.string ⟨#[99, 111, 110, 110, 101, 99, 116, 45, 115, 114, 99]⟩] 9)
    go_enter Tryd.func16, Tryd.ntmps16
    go_upto_region 2 with fail
    generalize hv0 : Value.slice (some ⟨w.heap.size, 0, none⟩) 1 1 = v0 at hown0 ⊢
    generalize hW0 : w.alloc (.cells #[.string ⟨#[99, 111, 110, 110, 101, 99, 116, 45, 115, 114, 99]⟩] 9) = W0 at hown0 hsz0 hb0 ⊢
    clear hv0 hW0
    go_wp2_with (first
      | (at_builtin; refine app1 rfl _ _ 23 rfl infoStr Tryd.underlying23 rfl (by decide) hown0 rfl rfl rfl (by omega) hsz0 ?_; intro v1 w1 hown1 hg1 hbw1; have hsz1 := Nat.le_trans hsz0 hg1.size))
    go_ret
    exact ⟨_, rfl, hown1, (hb0.trans hbw1)⟩
  by_cases h10 : n.data.toList = [109, 97, 110, 105, 102, 101, 115, 116, 45, 115, 114, 99]
  · obtain rfl := of_lst h10
    clear h0 h1 h2 h3 h4 h5 h6 h7 h8 h9 h10
    have hown0 := ch0 w ⟨#[109, 97, 110, 105, 102, 101, 115, 116, 45, 115, 114, 99]⟩
    have hb0 := (Below.refl _ w).alloc (Nat.le_refl _) (.cells #[.string ⟨#[109, 97, 110, 105, 102, 101, 115, 116, 45, 115, 114, 99]⟩] 9)
    go_enter Tryd.func16, Tryd.ntmps16
    go_upto_region 2 with fail
    generalize hv0 : Value.slice (some ⟨w.heap.size, 0, none⟩) 1 1 = v0 at hown0 ⊢
    generalize hW0 : w.alloc (.cells #[.string ⟨#[109, 97, 110, 105, 102, 101, 115, 116, 45, 115, 114, 99]⟩] 9) = W0 at hown0 hsz0 hb0 ⊢
    clear hv0 hW0
    go_wp2_with (first
      | (at_builtin; refine app1 rfl _ _ 23 rfl infoStr Tryd.underlying23 rfl (by decide) hown0 rfl rfl rfl (by omega) hsz0 ?_; intro v1 w1 hown1 hg1 hbw1; have hsz1 := Nat.le_trans hsz0 hg1.size))
    go_ret
    exact ⟨_, rfl, hown1, (hb0.trans hbw1)⟩
  by_cases h11 : n.data.toList = [111, 98, 106, 101, 99, 116, 45, 115, 114, 99]
  · obtain rfl := of_lst h11
    clear h0 h1 h2 h3 h4 h5 h6 h7 h8 h9 h10 h11
    have hown0 := ch0 w ⟨#[111, 98, 106, 101, 99, 116, 45, 115, 114, 99]⟩
    have hb0 := (Below.refl _ w).alloc (Nat.le_refl _) (.cells #[.string ⟨#[111, 98, 106, 101, 99, 116, 45, 115, 114, 99]⟩] 9)
    go_enter Tryd.func16, Tryd.ntmps16
    go_upto_region 2 with fail
    generalize hv0 : Value.slice (some ⟨w.heap.size, 0, none⟩) 1 1 = v0 at hown0 ⊢
    generalize hW0 : w.alloc (.cells #[.string ⟨#[111, 98, 106, 101, 99, 116, 45, 115, 114, 99]⟩] 9) = W0 at hown0 hsz0 hb0 ⊢
    clear hv0 hW0
    go_wp2_with (first
      | (at_builtin; refine app1 rfl _ _ 23 rfl infoStr Tryd.underlying23 rfl (by decide) hown0 rfl rfl rfl (by omega) hsz0 ?_; intro v1 w1 hown1 hg1 hbw1; have hsz1 := Nat.le_trans hsz0 hg1.size))
    go_ret
    exact ⟨_, rfl, hown1, (hb0.trans hbw1)⟩
  by_cases h12 : n.data.toList = [102, 111, 110, 116, 45, 115, 114, 99]
  · obtain rfl := of_lst h12
    clear h0 h1 h2 h3 h4 h5 h6 h7 h8 h9 h10 h11 h12
    have hown0 := ch0 w ⟨#[102, 111, 110, 116, 45, 115, 114, 99]⟩
    have hb0 := (Below.refl _ w).alloc (Nat.le_refl _) (.cells #[.string ⟨#[102, 111, 110, 116, 45, 115, 114, 99]⟩] 9)
    go_enter Tryd.func16, Tryd.ntmps16
    go_upto_region 2 with fail
    generalize hv0 : Value.slice (some ⟨w.heap.size, 0, none⟩) 1 1 = v0 at hown0 ⊢
    generalize hW0 : w.alloc (.cells #[.string ⟨#[102, 111, 110, 116, 45, 115, 114, 99]⟩] 9) = W0 at hown0 hsz0 hb0 ⊢
    clear hv0 hW0
    go_wp2_with (first
      | (at_builtin; refine app1 rfl _ _ 23 rfl infoStr Tryd.underlying23 rfl (by decide) hown0 rfl rfl rfl (by omega) hsz0 ?_; intro v1 w1 hown1 hg1 hbw1; have hsz1 := Nat.le_trans hsz0 hg1.size))
    go_ret
    exact ⟨_, rfl, hown1, (hb0.trans hbw1)⟩
  by_cases h13 : n.data.toList = [105, 109, 103, 45, 115, 114, 99]
  · obtain rfl := of_lst h13
    clear h0 h1 h2 h3 h4 h5 h6 h7 h8 h9 h10 h11 h12 h13
    have hown0 := ch0 w ⟨#[105, 109, 103, 45, 115, 114, 99]⟩
    have hb0 := (Below.refl _ w).alloc (Nat.le_refl _) (.cells #[.string ⟨#[105, 109, 103, 45, 115, 114, 99]⟩] 9)
    go_enter Tryd.func16, Tryd.ntmps16
    go_upto_region 2 with fail
    generalize hv0 : Value.slice (some ⟨w.heap.size, 0, none⟩) 1 1 = v0 at hown0 ⊢
    generalize hW0 : w.alloc (.cells #[.string ⟨#[105, 109, 103, 45, 115, 114, 99]⟩] 9) = W0 at hown0 hsz0 hb0 ⊢
    clear hv0 hW0
    go_wp2_with (first
      | (at_builtin; refine app1 rfl _ _ 23 rfl infoStr Tryd.underlying23 rfl (by decide) hown0 rfl rfl rfl (by omega) hsz0 ?_; intro v1 w1 hown1 hg1 hbw1; have hsz1 := Nat.le_trans hsz0 hg1.size))
    go_ret
    exact ⟨_, rfl, hown1, (hb0.trans hbw1)⟩
  by_cases h14 : n.data.toList = [109, 101, 100, 105, 97, 45, 115, 114, 99]
  · obtain rfl := of_lst h14
    clear h0 h1 h2 h3 h4 h5 h6 h7 h8 h9 h10 h11 h12 h13 h14
    have hown0 := ch0 w ⟨#[109, 101, 100, 105, 97, 45, 115, 114, 99]⟩
    have hb0 := (Below.refl _ w).alloc (Nat.le_refl _) (.cells #[.string ⟨#[109, 101, 100, 105, 97, 45, 115, 114, 99]⟩] 9)
    go_enter Tryd.func16, Tryd.ntmps16
    go_upto_region 2 with fail
    generalize hv0 : Value.slice (some ⟨w.heap.size, 0, none⟩) 1 1 = v0 at hown0 ⊢
    generalize hW0 : w.alloc (.cells #[.string ⟨#[109, 101, 100, 105, 97, 45, 115, 114, 99]⟩] 9) = W0 at hown0 hsz0 hb0 ⊢
    clear hv0 hW0
    go_wp2_with (first
      | (at_builtin; refine app1 rfl _ _ 23 rfl infoStr Tryd.underlying23 rfl (by decide) hown0 rfl rfl rfl (by omega) hsz0 ?_; intro v1 w1 hown1 hg1 hbw1; have hsz1 := Nat.le_trans hsz0 hg1.size))
    go_ret
    exact ⟨_, rfl, hown1, (hb0.trans hbw1)⟩
  have hno : chainL n.data.toList = [n.data.toList] := by
    have : chainsT.find? (fun p => p.1 == n.data.toList) = none := by
      rw [List.find?_eq_none]
      intro p hp
      simp only [chainsT, List.mem_cons, List.not_mem_nil, or_false] at hp
      simp only [beq_iff_eq]
      rcases hp with rfl | rfl | rfl | rfl | rfl | rfl | rfl | rfl | rfl | rfl | rfl | rfl | rfl | rfl | rfl
      all_goals (intro e; simp_all)
    unfold chainL
    rw [this]
    rfl
  have hown0 := ch0 w n
  rw [hno]
  replace h0 := ne_bq h0
  replace h1 := ne_bq h1
  replace h2 := ne_bq h2
  replace h3 := ne_bq h3
  replace h4 := ne_bq h4
  replace h5 := ne_bq h5
  replace h6 := ne_bq h6
  replace h7 := ne_bq h7
  replace h8 := ne_bq h8
  replace h9 := ne_bq h9
  replace h10 := ne_bq h10
  replace h11 := ne_bq h11
  replace h12 := ne_bq h12
  replace h13 := ne_bq h13
  replace h14 := ne_bq h14
  go_enter Tryd.func16, Tryd.ntmps16
  go_wp2_with fail
  go_ret
  refine ⟨_, rfl, ?_, (Below.refl _ w).alloc (Nat.le_refl _) _⟩
  have : strCells [n.data.toList] = [.string n] := by simp [strCells]
  rw [this]
  exact hown0
end Go.Proofs.YtgaeecphohlmpaaDoor
