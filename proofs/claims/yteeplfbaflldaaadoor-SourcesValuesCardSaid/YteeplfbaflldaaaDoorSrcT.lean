/- sources.Text: hostText at any port, Text at any source. -/
import Derived.Test.YteeplfbaflldaaaDoorSrcR
import Derived.Test.YteeplfbaflldaaaDoorSrc11
import Derived.Lib.ItoaLen
import Derived.Lib.AppendIntMem
set_option linter.unusedVariables false
set_option linter.unusedSimpArgs false
namespace Go.Proofs.YteeplfbaflldaaaDoor.S25
open Go.RowKit Go.Extern.Stop Go.Stop Go.Extern T10

/-- The table of powers of ten. -/
def PTab (w : World) : Prop := Lib.TabIs Tryd.prog w "internal/strconv.uint64pow10" .u64 Lib.pow10Tab
theorem PTab.far {w w' : World} (h : PTab w) {B : Nat} (b : Below B w w') (hB : w.heap.size ≤ B) : PTab w' := by
  unfold PTab Lib.TabIs World.var? at *
  cases hg : Tryd.prog.globalNamed "internal/strconv.uint64pow10" with
  | none => rw [hg] at h; simp at h
  | some g =>
    rw [hg] at h
    simp only [Option.bind_some] at h ⊢
    have hlt : g < w.heap.size := by
      rcases Nat.lt_or_ge g w.heap.size with h' | h'
      · exact h'
      · rw [Array.getElem?_eq_none h'] at h; simp at h
    rw [b.block g (by omega)]
    exact h
theorem itoa_any (n : Int) (h0 : -9223372036854775808 ≤ n) (h1 : n ≤ 9223372036854775807) (w : World) (hp : PTab w) :
    Calls Tryd.prog 22 #[.int .i64 n] w fun e w' => e = .returned (.string (ba (Lib.itoa n))) ∧ Below w.heap.size w w' := by
  refine (Tryd.strconv_Itoa n h0 h1 w hp).mono ?_
  rintro e w' ⟨rfl, k, os, rfl⟩
  exact ⟨rfl, Go.Lib.below_grow _ _ (Nat.le_refl _) k os⟩
set_option maxHeartbeats 3200000 in
set_option maxRecDepth 100000 in
theorem hostText_neg (kind bits port : Int) (text scheme host path : ByteArray) (wild : Bool) (w : World) (h1 : scheme.size ≤ 1000000) (h2 : host.size ≤ 1000000) (h3 : path.size ≤ 1000000) (hp1 : port ≠ -2) (hp2 : port < 0) :
    Calls Tryd.prog 36 #[srcV kind text bits scheme host wild port path] w fun e w' => e = .returned (.string (schemeB scheme (hostB host wild) ++ path)) ∧ Below w.heap.size w w' := by
  have B0 := Lib.hid ((Below.refl w.heap.size w).alloc (Nat.le_refl _) (.cells #[.int .i64 kind, .string text, .int .i64 bits, .string scheme, .string host, .bool wild, .int .i64 port, .string path] 41))
  have t1 : (port == -2) = false := by rw [beq_eq_false_iff_ne]; exact hp1
  have t2 : ¬ 0 ≤ port := by omega
  unfold srcV schemeB hostB
  cases hs : scheme.data.toList.isEmpty <;> cases wild <;> cases hh : host.data.toList.isEmpty
  all_goals
    have e1 := empty_eq hs
    have e2 := empty_eq hh
    clear hs hh hp1 hp2
    go_enter Tryd.func36, Tryd.ntmps36
    go_wp2_with fail
    go_ret
    exact ⟨by exact rfl, B0.out⟩
set_option maxHeartbeats 3200000 in
set_option maxRecDepth 100000 in
theorem hostText_num (kind bits port : Int) (text scheme host path : ByteArray) (wild : Bool) (w : World) (hT : PTab w) (h1 : scheme.size ≤ 1000000) (h2 : host.size ≤ 1000000) (h3 : path.size ≤ 1000000) (hp1 : 0 ≤ port) (hp2 : port ≤ 9223372036854775807) :
    Calls Tryd.prog 36 #[srcV kind text bits scheme host wild port path] w fun e w' => e = .returned (.string (schemeB scheme (hostB host wild) ++ (⟨#[58]⟩ ++ ba (Lib.itoa port)) ++ path)) ∧ Below w.heap.size w w' := by
  obtain ⟨W1, hW1⟩ : ∃ W1, W1 = w.alloc (.cells #[.int .i64 kind, .string text, .int .i64 bits, .string scheme, .string host, .bool wild, .int .i64 port, .string path] 41) := ⟨_, rfl⟩
  have B1 : Below w.heap.size w W1 := by rw [hW1]; exact (Below.refl _ w).alloc (Nat.le_refl _) _
  have k0 : W1.heap[w.heap.size]? = some (.cells #[.int .i64 kind, .string text, .int .i64 bits, .string scheme, .string host, .bool wild, .int .i64 port, .string path] 41 (0, 0)) := by rw [hW1]; exact heap_alloc_new w _
  have hlt1 : w.heap.size < W1.heap.size := by rw [hW1]; simp
  have t1 : (port == -2) = false := by rw [beq_eq_false_iff_ne]; omega
  have hit := itoa_any port (by omega) hp2 W1 (hT.far B1 (Nat.le_refl _))
  have hil : (ba (Lib.itoa port)).size ≤ 21 := by rw [ba_size]; exact Lib.itoa_length_le port (by omega) hp2
  obtain ⟨IT, hIT⟩ : ∃ IT, ba (Lib.itoa port) = IT := ⟨_, rfl⟩
  rw [hIT] at hit hil ⊢
  have HIT := Lib.hid hit
  have HB1 := Lib.hid B1
  have HK0 := Lib.hid k0
  have HW := Lib.hid hW1
  obtain ⟨⟨c0, c1, c2, c3, c4, c5, c6, c7⟩, f0, f1, f2, f3, f4, f5, f6, f7⟩ := eight k0
  unfold srcV schemeB hostB
  cases hs : scheme.data.toList.isEmpty <;> cases wild <;> cases hh : host.data.toList.isEmpty
  all_goals
    have e1 := empty_eq hs
    have e2 := empty_eq hh
    clear hs hh hp2 hit hIT B1 k0 hW1 hT
    go_enter Tryd.func36, Tryd.ntmps36
    go_upto_region 1 with fail
    rw [← HW.out]
    go_wp2_with (go_at_call 22; refine HIT.out.mono ?_; rintro e w2 ⟨rfl, b2⟩; obtain ⟨⟨d0, d1, d2, d3, d4, d5, d6, d7⟩, g0, g1, g2, g3, g4, g5, g6, g7⟩ := eight ((b2.block _ hlt1).trans HK0.out); have HB2 := Lib.hid (HB1.out.trans (b2.mono (Nat.le_of_lt hlt1))); clear b2)
    go_ret
    exact ⟨by exact rfl, HB2.out⟩
end Go.Proofs.YteeplfbaflldaaaDoor.S25
