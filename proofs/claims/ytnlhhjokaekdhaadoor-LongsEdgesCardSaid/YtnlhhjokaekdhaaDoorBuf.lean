/- A slice of bytes that grows by appends, behind '[]byte(s)' or not: its block may be frozen behind its cells. Of no program. -/
import Derived.Test.YtnlhhjokaekdhaaDoorRow
import Derived.Lib.JoinLaws
set_option linter.unusedVariables false
namespace Go.Proofs.YtnlhhjokaekdhaaDoor
open Go.RowKit

def Buf (w : World) (B : Nat) (e : TypeId) (v : Value) (l : List UInt8) : Prop :=
  ∃ (g cap : Nat) (cs : Array Value) (fz : Nat × Nat), v = .slice (some ⟨g, 0, none⟩) l.length cap ∧ B ≤ g ∧ w.heap[g]? = some (.cells cs e fz) ∧ cs.size = cap ∧ l.length ≤ cap ∧ cap ≤ maxLen ∧ (∀ k, k < cap → ¬ (fz.1 ≤ k ∧ k < fz.2)) ∧ ∀ (k : Nat) (b : UInt8), l[k]? = some b → cs[k]? = some (Value.int .u8 (b.toNat : Int))
theorem Buf.shape {w : World} {B : Nat} {e : TypeId} {v : Value} {l : List UInt8} (h : Buf w B e v l) : ∃ ao cap, v = .slice ao l.length cap := by
  obtain ⟨g, cap, cs, fz, rfl, _⟩ := h
  exact ⟨_, _, rfl⟩
theorem Buf.below {w w' : World} {B : Nat} {e : TypeId} {v : Value} {l : List UInt8} (h : Buf w B e v l) (hb : Below w.heap.size w w') : Buf w' B e v l := by
  obtain ⟨g, cap, cs, fz, h1, h2, h3, h4⟩ := h
  exact ⟨g, cap, cs, fz, h1, h2, (hb.block g (Array.getElem?_eq_some_iff.1 h3).1).trans h3, h4⟩
theorem buf_bytes {P : Program} (w : World) (src dst e : TypeId) (s : ByteArray) (hs : P.underlying src = some .string) (hd : P.underlying dst = some (.slice e)) (he : P.underlying e = some (.int .u8)) (hm : s.size ≤ maxLen) :
    ∃ v w1, (convert src dst (.string s)).run P w = .ok v w1 ∧ Buf w1 w.heap.size e v s.data.toList ∧ Below w.heap.size w w1 := by
  have hlen : s.data.toList.length = s.size := by simp
  have hsd : s.data.size = s.size := rfl
  have hge := grownCap_ge w s.size 0 e
  have hbs : (bytesRow s (grownCap w s.size 0 e)).size = grownCap w s.size 0 e := by
    unfold bytesRow
    simp
    omega
  refine ⟨_, _, run_bytes_of_string w src dst e s hs hd he, ⟨w.heap.size, grownCap w s.size 0 e, bytesRow s (grownCap w s.size 0 e), ((bytesRow s (grownCap w s.size 0 e)).size, (bytesRow s (grownCap w s.size 0 e)).size + 1), by rw [hlen], Nat.le_refl _, ?_, hbs, by rw [hlen]; exact hge, grownCap_le_maxLen w s.size 0 e hm, ?_, ?_⟩, ((Below.refl _ w).drew).alloc (Nat.le_refl _) _⟩
  · show (w.heap.push _)[w.heap.size]? = _
    rw [Array.getElem?_push_size]
  · intro k hk
    rw [hbs]
    show ¬ (_ ≤ k ∧ _)
    omega
  · intro k b hb
    obtain ⟨hk, rfl⟩ := List.getElem?_eq_some_iff.1 hb
    have hk' : k < s.data.size := by simpa using hk
    rw [bytesRow_at s _ k hk']
    simp
theorem Buf.text {P : Program} {w : World} {B : Nat} {e : TypeId} {v : Value} {l : List UInt8} (h : Buf w B e v l) {src dst : TypeId} (hs : P.underlying src = some (.slice e)) (he : P.underlying e = some (.int .u8)) (hd : P.underlying dst = some .string) :
    (convert src dst v).run P w = .ok (.string ⟨l.toArray⟩) w := by
  obtain ⟨g, cap, cs, fz, rfl, h2, h3, h4, h5, h6, h7, h8⟩ := h
  refine run_convert_bytes_back w src dst e ⟨g, 0, none⟩ cap l hs he hd fun j hj => ?_
  have hadd : (⟨g, 0, none⟩ : Addr).add j = ⟨g, j, none⟩ := by unfold Addr.add; split <;> simp_all
  rw [hadd, Lib.cell_of_heap h3]
  exact h8 j _ (by simp [hj])
theorem buf_app {P : Program} {wr : World} {ops : Array Oper} {rest : List Oper} {o : Oper} {a : Act} {Q : Exit → Act → World → Prop} (hgd : o.guard = none) (s x : Operand) (t : TypeId)
    (ho : o.op = .call { callee := .builtin .append, args := #[s, x], argTypes := #[t, t] })
    {base : Nat} {e : TypeId} {z : Value} (hinfo : (P.info? e).map (fun i => (i.zero, i.size, i.bytes)) = some (some z, 1, 1)) (ht : P.underlying t = some (.slice e)) (hzs : z.cells.size = 1)
    {v : Value} {l : List UInt8} {c : UInt8} (hown : Buf wr base e v l) (hs : a.eval s = v) (hx : a.eval x = .slice (some ⟨wr.heap.size, 0, none⟩) 1 1) (hn : l.length + 1 ≤ 1099511627776) (hbase : base ≤ wr.heap.size)
    (h : ∀ v' w', Buf w' base e v' (l ++ [c]) → Below base wr w' → wpList P ops Q rest (a.put o.dst v') w') : wpList P ops Q (o :: rest) a (wr.alloc (.cells #[.int .u8 (c.toNat : Int)] e)) := by
  obtain ⟨i0, hi, hz0, hz1, hz2⟩ := info_parts hinfo
  obtain ⟨g, cap, cs, fz, hv, h2, h3, h4, h5, h6, h7, h8⟩ := hown
  have hlt := (Array.getElem?_eq_some_iff.1 h3).1
  have h3' : (wr.alloc (.cells #[.int .u8 (c.toNat : Int)] e)).heap[g]? = some (.cells cs e fz) := (Below.heap_alloc wr _ g hlt).trans h3
  have hnew : (wr.alloc (.cells #[.int .u8 (c.toNat : Int)] e)).heap[wr.heap.size]? = some (.cells #[.int .u8 (c.toNat : Int)] e (0, 0)) := heap_alloc_new wr _
  have hsrc : Src P i0.size t (.slice (some ⟨wr.heap.size, 0, none⟩) 1 1) 1 [.int .u8 (c.toNat : Int)] (wr.alloc (.cells #[.int .u8 (c.toNat : Int)] e)) := by
    refine Src.ofSlice _ ht ⟨wr.heap.size, 0, none⟩ 1 1 _ (by rw [hz1]; rfl) ?_ ?_
    · intro j y hj
      match j, hj with
      | 0, hj => simp at hj; subst hj; simp [Addr.add]
    · intro y hy; simp at hy; subst hy; rfl
  have hba : Below base wr (wr.alloc (.cells #[.int .u8 (c.toNat : Int)] e)) := (Below.refl _ wr).alloc hbase _
  have hcells : ∀ (cur : Array Value), (∀ (k : Nat) (b : UInt8), l[k]? = some b → cur[k]? = some (Value.int .u8 (b.toNat : Int))) → cur[l.length]? = some (Value.int .u8 (c.toNat : Int)) → ∀ (k : Nat) (b : UInt8), (l ++ [c])[k]? = some b → cur[k]? = some (Value.int .u8 (b.toNat : Int)) := by
    intro cur hc1 hc2 k b hb
    by_cases hk : k < l.length
    · rw [List.getElem?_append_left hk] at hb; exact hc1 k b hb
    · rw [List.getElem?_append_right (by omega)] at hb
      have hk0 : k = l.length := by
        have := (List.getElem?_eq_some_iff.1 hb).1
        simp at this
        omega
      subst hk0
      simp at hb
      subst hb
      exact hc2
  by_cases hroom : l.length + 1 ≤ cap
  · refine wpList_append_room_src _ hgd s x t t ho e i0 ht hi g 0 l.length cap (hs.trans hv) _ hx 1 [.int .u8 (c.toNat : Int)] hsrc hroom ?_ ?_ ?_
    · intro j hj
      have hj0 : j = 0 := by simpa using hj
      rw [hj0, hz1, Lib.cell_of_heap h3']
      have : l.length < cs.size := by omega
      simp [this]
    · intro j hj
      have hj0 : j = 0 := by simpa using hj
      unfold World.frozen?
      rw [h3']
      have := h7 l.length (by omega)
      rw [hj0, hz1]
      simp at this ⊢
      omega
    · have hset : (wr.alloc (.cells #[.int .u8 (c.toNat : Int)] e)).setCells g (0 + l.length * i0.size) [.int .u8 (c.toNat : Int)] = (wr.alloc (.cells #[.int .u8 (c.toNat : Int)] e)).setCell ⟨g, l.length, none⟩ (.int .u8 (c.toNat : Int)) := by
        rw [hz1]; simp [World.setCells]
      rw [hset]
      refine h _ _ ⟨g, cap, cs.setIfInBounds l.length (.int .u8 (c.toNat : Int)), fz, by simp, h2, ?_, by simpa using h4, by simpa using hroom, h6, h7, ?_⟩ (hba.setCell h2 _)
      · unfold World.setCell; simp [Array.getElem?_modify, h3']
      · refine hcells _ ?_ ?_
        · intro k b hb
          have hk : k < l.length := (List.getElem?_eq_some_iff.1 hb).1
          rw [Array.getElem?_setIfInBounds_ne (by omega)]
          exact h8 k b hb
        · rw [Array.getElem?_setIfInBounds_self]
          simp
          omega
  · have holds : ∀ j u, (Lib.byteCells l)[j]? = some u → (wr.alloc (.cells #[.int .u8 (c.toNat : Int)] e)).drew.cell? ((⟨g, 0, none⟩ : Addr).add j) = some u := by
      intro j u hu
      have hadd : (⟨g, 0, none⟩ : Addr).add j = ⟨g, j, none⟩ := by unfold Addr.add; split <;> simp_all
      have h3d : (wr.alloc (.cells #[.int .u8 (c.toNat : Int)] e)).drew.heap[g]? = some (.cells cs e fz) := h3'
      rw [hadd, Lib.cell_of_heap h3d]
      unfold Lib.byteCells at hu
      rw [List.getElem?_map] at hu
      cases hb : l[j]? with
      | none => rw [hb] at hu; cases hu
      | some b => rw [hb] at hu; cases hu; exact h8 j b hb
    have hlb : (Lib.byteCells l).length = l.length * i0.size := by rw [hz1, Lib.byteCells_length]; omega
    have hold := run_firstCells_some (P := P) (wr.alloc (.cells #[.int .u8 (c.toNat : Int)] e)).drew i0.size l.length ⟨g, 0, none⟩ l.length cap (Lib.byteCells l) hlb holds
    have hge := grownCap_ge (wr.alloc (.cells #[.int .u8 (c.toNat : Int)] e)) (l.length + 1) cap e
    have hmx := grownCap_le_maxLen (wr.alloc (.cells #[.int .u8 (c.toNat : Int)] e)) (l.length + 1) cap e (by unfold maxLen; omega)
    have hnx := nextslicecap_le (need := l.length + 1) (old := cap) (by omega)
    have hrun := run_append_grow_src (P := P) (wr.alloc (.cells #[.int .u8 (c.toNat : Int)] e)) t t o.type e i0 z ht hi hz0 (some ⟨g, 0, none⟩) l.length cap (Lib.byteCells l) hold _ 1 [.int .u8 (c.toNat : Int)] hsrc (by omega) (by omega) (by rw [hz2]; omega)
    obtain ⟨G, hG⟩ : ∃ G, grownCap (wr.alloc (.cells #[.int .u8 (c.toNat : Int)] e)) (l.length + 1) cap e = G := ⟨_, rfl⟩
    rw [hG] at hrun hge hmx
    refine wpList_plain hgd fun K hK' => ?_
    unfold Oper.wp
    simp [execOp, ho, resolve, invoke, builtin, hs.trans hv, hx, hrun, Result.andThen]
    refine hK' _ _ (h _ _ ⟨(wr.alloc (.cells #[.int .u8 (c.toNat : Int)] e)).heap.size, G, _, (0, 0), by simp, ?_, heap_alloc_new _ _, ?_, by simpa using hge, hmx, ?_, ?_⟩ ((hba.drew).alloc ?_ _))
    · simp; omega
    · simp [Builtin.zeroCells, hzs, Lib.byteCells_length]; omega
    · intro k _; simp
    · refine hcells _ ?_ ?_
      · intro k b hb
        have hk : k < l.length := (List.getElem?_eq_some_iff.1 hb).1
        have e1 : (Lib.byteCells l)[k]? = some (Value.int .u8 (b.toNat : Int)) := by unfold Lib.byteCells; rw [List.getElem?_map, hb]; rfl
        have e2 : k < (Lib.byteCells l).length := by rw [Lib.byteCells_length]; exact hk
        rw [Array.getElem?_append_left (by simp; omega)]
        first
          | (rw [Array.getElem?_append_left (by simpa using e2)]; simpa using e1)
          | (rw [List.getElem?_toArray, List.getElem?_append_left e2]; exact e1)
      · have e2 : (Lib.byteCells l).length = l.length := Lib.byteCells_length l
        rw [Array.getElem?_append_left (by simp; omega)]
        first
          | (rw [List.getElem?_toArray, List.getElem?_append_right (by omega), e2]; simp)
          | (rw [Array.getElem?_append_right (by simp; omega)]; simp [e2])
    · simp; omega
theorem buf_app' {P : Program} {wr : World} {ops : Array Oper} {rest : List Oper} {o : Oper} {a : Act} {Q : Exit → Act → World → Prop} (hgd : o.guard = none) (s x : Operand) (t : TypeId)
    (ho : o.op = .call { callee := .builtin .append, args := #[s, x], argTypes := #[t, t] })
    {base : Nat} {e : TypeId} {z : Value} (hinfo : (P.info? e).map (fun i => (i.zero, i.size, i.bytes)) = some (some z, 1, 1)) (ht : P.underlying t = some (.slice e)) (hzs : z.cells.size = 1)
    {v : Value} {l : List UInt8} {c : UInt8} {u : Int} (hown : Buf wr base e v l) (hs : a.eval s = v) (hx : a.eval x = .slice (some ⟨wr.heap.size, 0, none⟩) 1 1) (hn : l.length + 1 ≤ 1099511627776) (hbase : base ≤ wr.heap.size) (hu : (c.toNat : Int) = u)
    (h : ∀ v' w', Buf w' base e v' (l ++ [c]) → Below base wr w' → wpList P ops Q rest (a.put o.dst v') w') : wpList P ops Q (o :: rest) a (wr.alloc (.cells #[.int .u8 u] e)) := by
  subst hu
  exact buf_app hgd s x t ho hinfo ht hzs hown hs hx hn hbase h
end Go.Proofs.YtnlhhjokaekdhaaDoor
