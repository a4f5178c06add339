/- The contracts of Commas: the document's and the program's. -/
import Derived.Test.YthgecembedjnaaaDoorAscii4
import Derived.Test.YthgecembedjnaaaDoorLists3
set_option linter.unusedVariables false
namespace Go.Proofs.YthgecembedjnaaaDoor
open Go.RowKit

def cR (l : List UInt8) (k : Nat) : List (List UInt8) × List UInt8 := if k ≤ l.length then sRun 44 (l.take k) else (spl 44 l, [])
theorem cR_not (s : ByteArray) (k : Nat) (h : k < s.size) (hc : s[k] ≠ 44) : cR s.data.toList (k + 1) = ((cR s.data.toList k).1, (cR s.data.toList k).2 ++ [s[k]]) := by
  unfold cR
  rw [if_pos (by simp; omega), if_pos (by simp; omega), sRun_take 44 s k h]
  simp [sStep, hc]
theorem cR_hit (s : ByteArray) (k : Nat) (h : k < s.size) (hc : s[k] = 44) : cR s.data.toList (k + 1) = ((cR s.data.toList k).1 ++ [(cR s.data.toList k).2], []) := by
  unfold cR
  rw [if_pos (by simp; omega), if_pos (by simp; omega), sRun_take 44 s k h]
  simp [sStep, hc]
theorem cR_end (s : ByteArray) : cR s.data.toList (s.size + 1) = ((cR s.data.toList s.size).1 ++ [(cR s.data.toList s.size).2], []) := by
  unfold cR
  rw [if_neg (by simp), if_pos (by simp), List.take_of_length_le (by simp), sRun_spl]
theorem cR_len (l : List UInt8) (k : Nat) (h : k ≤ l.length) : (cR l k).1.length + (cR l k).2.length ≤ l.length := by
  unfold cR
  rw [if_pos h]
  have := sRun_len 44 (l.take k)
  simp at this
  omega
theorem cR_last (l : List UInt8) : cR l (l.length + 1) = (spl 44 l, []) := by
  unfold cR; rw [if_neg (by omega)]
theorem byte44 {x : UInt8} (h : x ≠ 44) : ((x.toNat : Int) != 44) = true := by
  rw [bne_iff_ne]
  intro e
  exact h (UInt8.toNat_inj.1 (by simpa using (show x.toNat = 44 by omega)))

set_option maxHeartbeats 1000000 in
set_option maxRecDepth 100000 in
theorem rcommas_any (s : ByteArray) (w : World) (hs : s.size ≤ 1073741824) :
    Calls Tryd.prog 32 #[.string s] w fun e w' => (∃ v, e = .returned v ∧ w'.ownsRow w.heap.size 9 1 v (commasL s.data.toList).length (strCells (commasL s.data.toList))) ∧ Below w.heap.size w w' := by
  go_enter Tryd.func32, Tryd.ntmps32
  go_wp2
  go_loopw [3, 4, 5] (fun b p i wr => ∃ (k : Nat) (t : ByteArray), k ≤ s.size + 1 ∧ i = .int .i64 k ∧ p = .string t ∧ Hid (t.data.toList = (cR s.data.toList k).2) ∧ wr.ownsRow w.heap.size 9 1 b (full (cR s.data.toList k).1).length (strCells (full (cR s.data.toList k).1)) ∧ Below w.heap.size w wr) (fun _ _ i _ => s.size + 1 - (intOf i).toNat)
  case atStart => exact ⟨0, ⟨#[]⟩, Nat.zero_le _, rfl, rfl, rfl, World.ownsRow_nil _ _ _ _, Below.refl _ _⟩
  case round =>
    obtain ⟨k, t, hk, rfl, rfl, ht, hown, hb⟩ := hrel
    have hsz := hb.size
    by_cases hle : k ≤ s.size
    · have hlen := cR_len s.data.toList k (by simpa using hle)
      have hfl := full_len (cR s.data.toList k).1
      have hll : s.data.toList.length ≤ s.size := by simp
      have hts : t.size ≤ s.size := by
        have := congrArg List.length ht.out
        simp at this
        omega
      by_cases hA : ∃ h : k < s.size, s[k] ≠ 44
      · obtain ⟨hlt, hc⟩ := hA
        have HU := Lib.hid (cR_not s k hlt hc)
        have hcb := byte44 hc
        clear hc
        go_wp2
        go_roundw
        case rel => exact ⟨k + 1, _, by omega, by go_num, rfl, by rw [HU.out, add_one _ _ _ hlt, ht.out]; rfl, by rw [HU.out]; exact hown, hb⟩
        case measure => (simp [intOf] <;> omega)
      · have HU : Hid (cR s.data.toList (k + 1) = ((cR s.data.toList k).1 ++ [(cR s.data.toList k).2], [])) := by
          by_cases hlt : k < s.size
          · exact cR_hit s k hlt (by
              by_cases e : s[k] = 44
              · exact e
              · exact absurd ⟨hlt, e⟩ hA)
          · have : k = s.size := by omega
            subst this
            exact cR_end s
        have hT : k < s.size → ∃ h : k < s.size, ((s[k].toNat : Int) != 44) = false := by
          intro hlt
          refine ⟨hlt, ?_⟩
          have e : s[k] = 44 := by
            by_cases e : s[k] = 44
            · exact e
            · exact absurd ⟨hlt, e⟩ hA
          rw [e]; rfl
        clear hA
        have hst : (stripL t.data.toList).length ≤ t.size := by
          unfold stripL
          have h1 := (List.dropWhile_sublist (l := (t.data.toList.dropWhile isSp).reverse) isSp).length_le
          have h2 := (List.dropWhile_sublist (l := t.data.toList) isSp).length_le
          simp at h1 h2 ⊢
          omega
        by_cases h0 : stripL t.data.toList = []
        · have hE : (stripL t.data.toList).isEmpty = true := by simpa using h0
          have HE : Hid (full ((cR s.data.toList k).1 ++ [(cR s.data.toList k).2]) = full (cR s.data.toList k).1) := by
            rw [full_append, ← ht.out, full_one_nil h0, List.append_nil]
            rfl
          clear h0
          by_cases hlt : k < s.size
          · obtain ⟨_, hcb⟩ := hT hlt
            go_wp2_with (go_at_call 27; refine (rstrip_any _ _ (by omega)).mono ?_; rintro e w' ⟨rfl, rfl⟩)
            go_roundw
            case rel => exact ⟨k + 1, ⟨#[]⟩, by omega, (by go_num), rfl, (by rw [HU.out]; rfl), (by rw [HU.out, HE.out]; exact hown), hb⟩
            case measure => (simp [intOf] <;> omega)
          · have : k = s.size := by omega
            subst this
            clear hT
            go_wp2_with (go_at_call 27; refine (rstrip_any _ _ (by omega)).mono ?_; rintro e w' ⟨rfl, rfl⟩)
            go_roundw
            case rel => exact ⟨s.size + 1, ⟨#[]⟩, by omega, (by go_num), rfl, (by rw [HU.out]; rfl), (by rw [HU.out, HE.out]; exact hown), hb⟩
            case measure => (simp [intOf] <;> omega)
        · have hE : (stripL t.data.toList).isEmpty = false := by simpa using h0
          have HE : Hid (full ((cR s.data.toList k).1 ++ [(cR s.data.toList k).2]) = full (cR s.data.toList k).1 ++ [stripL t.data.toList]) := by
            rw [full_append, ← ht.out, full_one h0]
            rfl
          clear h0
          by_cases hlt : k < s.size
          · obtain ⟨_, hcb⟩ := hT hlt
            go_wp2_with (first
              | (go_at_call 27; refine (rstrip_any _ _ (by omega)).mono ?_; rintro e w' ⟨rfl, rfl⟩)
              | (at_builtin; refine app1 rfl _ _ 28 rfl infoStr Tryd.underlying28 rfl (by decide) hown rfl rfl rfl (by omega) hsz ?_; intro v' w' hown' hg hbw))
            go_roundw
            case rel => exact ⟨k + 1, ⟨#[]⟩, by omega, (by go_num), rfl, (by rw [HU.out]; rfl), by rw [HU.out, HE.out, List.length_append, strCells_append]; exact hown', hb.trans hbw⟩
            case measure => (simp [intOf] <;> omega)
          · have : k = s.size := by omega
            subst this
            clear hT
            go_wp2_with (first
              | (go_at_call 27; refine (rstrip_any _ _ (by omega)).mono ?_; rintro e w' ⟨rfl, rfl⟩)
              | (at_builtin; refine app1 rfl _ _ 28 rfl infoStr Tryd.underlying28 rfl (by decide) hown rfl rfl rfl (by omega) hsz ?_; intro v' w' hown' hg hbw))
            go_roundw
            case rel => exact ⟨s.size + 1, ⟨#[]⟩, by omega, (by go_num), rfl, (by rw [HU.out]; rfl), by rw [HU.out, HE.out, List.length_append, strCells_append]; exact hown', hb.trans hbw⟩
            case measure => (simp [intOf] <;> omega)
    · have e : k = s.data.toList.length + 1 := by simp; omega
      have HE : Hid (full (cR s.data.toList k).1 = commasL s.data.toList) := by
        rw [e, cR_last]; rfl
      clear e
      go_wp2
      go_ret
      rw [HE.out] at hown
      exact ⟨⟨_, rfl, hown⟩, hb⟩

/-- What strings.Split hands back, at a text of one byte. -/
theorem split_facts (s : ByteArray) (d : UInt8) : ∃ ps : List ByteArray, Lib.splitB ⟨#[d]⟩ 0 (Lib.countB s ⟨#[d]⟩) s = ps ∧ Lib.countB s ⟨#[d]⟩ + 1 = ps.length ∧ ps.map (·.data.toList) = spl d s.data.toList := by
  refine ⟨_, rfl, ?_, ?_⟩
  · have h1 := Lib.splitB_data ⟨#[d]⟩ 0 (Lib.countB s ⟨#[d]⟩) s
    have h2 := split_spl d _ s.data.toList (Nat.le_refl _)
    have h3 := congrArg List.length h1
    rw [List.length_map] at h3
    rw [h3]
    have e : Lib.splitK [d] 0 (Lib.countB s ⟨#[d]⟩) s.data.toList = spl d s.data.toList := h2.1
    show _ = (Lib.splitK [d] 0 (Lib.countB s ⟨#[d]⟩) s.data.toList).length
    rw [e]
    exact h2.2
  · rw [Lib.splitB_data]
    exact (split_spl d _ s.data.toList (Nat.le_refl _)).1

set_option maxHeartbeats 1000000 in
set_option maxRecDepth 100000 in
theorem commas_any (s : ByteArray) (m : Int) (w : World) (hs : s.size ≤ 1073741824) (hm : w.cell? ⟨4, 0, none⟩ = some (.int .i64 m)) :
    Calls Tryd.prog 31 #[.string s] w fun e w' => (∃ v, e = .returned v ∧ w'.ownsRow w.heap.size 9 1 v (commasL s.data.toList).length (strCells (commasL s.data.toList))) ∧ Below w.heap.size w w' := by
  obtain ⟨ps, h1, h2, h3⟩ := split_facts s 44
  have hc := Tryd.strings_Split s ⟨#[44]⟩ m w (by omega) hm (by decide)
  rw [h1, h2] at hc
  have HC := Lib.hid hc
  have hN : ps.length ≤ s.size + 1 := by
    have h4 := congrArg List.length h3
    rw [List.length_map] at h4
    rw [h4]
    simpa using spl_len 44 s.data.toList
  have H3 := Lib.hid h3
  clear h1 h2 h3 hc hm
  go_enter Tryd.func31, Tryd.ntmps31
  go_wp2_with (go_at_call 66; refine HC.out.mono ?_; rintro e w' ⟨rfl, rfl⟩)
  go_loopw [3, 10] (fun b i wr => ∃ (k : Nat), k ≤ ps.length ∧ i = .int .i64 k ∧ wr.heap[w.heap.size]? = some (.cells (ps.map Value.string).toArray 9 (0, 0)) ∧ wr.ownsRow (w.heap.size + 1) 9 1 b (full ((spl 44 s.data.toList).take k)).length (strCells (full ((spl 44 s.data.toList).take k))) ∧ w.heap.size + 1 ≤ wr.heap.size ∧ Below w.heap.size w wr) (fun _ i _ => ps.length - (intOf i).toNat)
  case atStart => exact ⟨0, Nat.zero_le _, rfl, heap_alloc_new w _, World.ownsRow_nil _ _ _ _, by simp, (Below.refl _ w).alloc (Nat.le_refl _) _⟩
  case round =>
    obtain ⟨k, hk, rfl, hP, hown, hsz, hb⟩ := hrel
    have hfl := full_len ((spl 44 s.data.toList).take k)
    have htk : ((spl 44 s.data.toList).take k).length ≤ k := List.length_take_le _ _
    by_cases hlt : k < ps.length
    · obtain ⟨t, htp⟩ : ∃ t, ps[k]? = some t := ⟨_, List.getElem?_eq_getElem hlt⟩
      have hx : (spl 44 s.data.toList)[k]? = some t.data.toList := by
        rw [← H3.out, List.getElem?_map, htp]; rfl
      have hts : t.size ≤ s.size := by
        have := spl_mem (List.mem_of_getElem? hx)
        simpa using this
      have hcell : wr.cell? ⟨w.heap.size, k, none⟩ = some (.string t) := by
        rw [Lib.cell_of_heap hP]; simp [htp]
      have HT : Hid ((spl 44 s.data.toList).take (k + 1) = (spl 44 s.data.toList).take k ++ [t.data.toList]) := by
        have hk2 := (List.getElem?_eq_some_iff.1 hx)
        obtain ⟨hk3, hk4⟩ := hk2
        rw [List.take_succ_eq_append_getElem hk3, hk4]
        rfl
      have hst : (stripL t.data.toList).length ≤ t.size := by
        unfold stripL
        have h1 := (List.dropWhile_sublist (l := (t.data.toList.dropWhile isSp).reverse) isSp).length_le
        have h2 := (List.dropWhile_sublist (l := t.data.toList) isSp).length_le
        simp at h1 h2 ⊢
        omega
      clear htp hx
      by_cases h0 : stripL t.data.toList = []
      · have hE : (stripL t.data.toList).isEmpty = true := by simpa using h0
        have HE : Hid (full ((spl 44 s.data.toList).take (k + 1)) = full ((spl 44 s.data.toList).take k)) := by
          rw [HT.out, full_append, full_one_nil h0, List.append_nil]
          rfl
        clear h0
        go_wp2_with (go_at_call 26; refine (strip_any _ _ (by omega)).mono ?_; rintro e w' ⟨rfl, rfl⟩)
        go_roundw
        case rel => exact ⟨k + 1, by omega, by go_num, hP, by rw [HE.out]; exact hown, hsz, hb⟩
        case measure => simp [intOf]; omega
      · have hE : (stripL t.data.toList).isEmpty = false := by simpa using h0
        have HE : Hid (full ((spl 44 s.data.toList).take (k + 1)) = full ((spl 44 s.data.toList).take k) ++ [stripL t.data.toList]) := by
          rw [HT.out, full_append, full_one h0]
          rfl
        clear h0
        go_wp2_with (first
          | (go_at_call 26; refine (strip_any _ _ (by omega)).mono ?_; rintro e w' ⟨rfl, rfl⟩)
          | (at_builtin; refine app1 rfl _ _ 28 rfl infoStr Tryd.underlying28 rfl (by decide) hown rfl rfl rfl (by omega) hsz ?_; intro v' w' hown' hg hbw))
        go_roundw
        case rel =>
          refine ⟨k + 1, by omega, by go_num, (hbw.block _ (by omega)).trans hP, ?_, Nat.le_trans hsz hbw.size, hb.trans (hbw.mono (by omega))⟩
          rw [HE.out, List.length_append, strCells_append]
          exact hown'
        case measure => simp [intOf]; omega
    · have e : (spl 44 s.data.toList).take k = spl 44 s.data.toList := by
        apply List.take_of_length_le
        rw [← H3.out, List.length_map]; omega
      rw [e] at hown
      go_wp2
      go_ret
      exact ⟨⟨_, rfl, owns_mono hown (by omega)⟩, hb⟩
end Go.Proofs.YthgecembedjnaaaDoor
