/- The contract of Fields, the program's: its closure first. -/
import Derived.Test.YtgaeecphohlmpabDoorAscii3
import Derived.OneCell
import Derived.Deep.RegionHeld3
import Derived.Deep.AppendLies
import Derived.Deep.RegionLaw
set_option linter.unusedVariables false
namespace Go.Proofs.YtgaeecphohlmpabDoor
open Go.RowKit

set_option maxHeartbeats 3200000 in
set_option maxRecDepth 100000 in
theorem fend_cut (bs bl bf at' fr n base : Nat) (s : ByteArray) (v : Value) (xs : List Value) (w : World)
    (hS : w.heap[bs]? = some (.cells #[.string s] 9 (0, 0))) (hL : w.heap[bl]? = some (.cells #[v] 25 (0, 0))) (hF : w.heap[bf]? = some (.cells #[.int .i64 fr] 3 (0, 0)))
    (hown : w.ownsRow base 9 1 v n xs) (h1 : bs < base) (h2 : bl < base) (h3 : bf < base) (hbase : base ≤ w.heap.size) (hn : n + 1 ≤ 1099511627776) (hne : bl ≠ bf ∧ bs ≠ bl ∧ bs ≠ bf)
    (hlt : fr < at') (hle : at' ≤ s.size) (hs : s.size ≤ 1073741824) :
    Calls Tryd.prog 44 #[.int .i64 at', .pointer (some ⟨bf, 0, none⟩), .pointer (some ⟨bl, 0, none⟩), .pointer (some ⟨bs, 0, none⟩)] w fun e w' => e = .returned (.tuple #[]) ∧
      w'.heap[bs]? = some (.cells #[.string s] 9 (0, 0)) ∧ w'.heap[bf]? = some (.cells #[.int .i64 (at' + 1 : Nat)] 3 (0, 0)) ∧
      ∃ v', w'.heap[bl]? = some (.cells #[v'] 25 (0, 0)) ∧ w'.ownsRow base 9 1 v' (n + 1) (xs ++ [.string (s.extract fr at')]) ∧ Below (min bs (min bl bf)) w w' := by
  obtain ⟨i0, hi0, hz0, hz1, hz2⟩ := info_parts infoStr
  have cS := cell_of_one hS
  have cL := cell_of_one hL
  have cF := cell_of_one hF
  have fL := free_of_one hL
  have fF := free_of_one hF
  have fin : ∀ (u : Value) (w1 : World), w1.heap[bl]? = some (.cells #[v] 25 (0, 0)) → w1.heap[bf]? = some (.cells #[.int .i64 fr] 3 (0, 0)) → w1.heap[bs]? = some (.cells #[.string s] 9 (0, 0)) →
      w1.ownsRow base 9 1 u (n + 1) (xs ++ [.string (s.extract fr at')]) → (w.alloc (.cells #[.string (s.extract fr at')] 9)).drew.grownBy w1 v.ownBlock →
      ((w1.setCell ⟨bl, 0, none⟩ u).setCell ⟨bf, 0, none⟩ (.int .i64 (at' + 1 : Nat))).heap[bs]? = some (.cells #[.string s] 9 (0, 0)) ∧
      ((w1.setCell ⟨bl, 0, none⟩ u).setCell ⟨bf, 0, none⟩ (.int .i64 (at' + 1 : Nat))).heap[bf]? = some (.cells #[.int .i64 (at' + 1 : Nat)] 3 (0, 0)) ∧
      ∃ v', ((w1.setCell ⟨bl, 0, none⟩ u).setCell ⟨bf, 0, none⟩ (.int .i64 (at' + 1 : Nat))).heap[bl]? = some (.cells #[v'] 25 (0, 0)) ∧ ((w1.setCell ⟨bl, 0, none⟩ u).setCell ⟨bf, 0, none⟩ (.int .i64 (at' + 1 : Nat))).ownsRow base 9 1 v' (n + 1) (xs ++ [.string (s.extract fr at')]) ∧ Below (min bs (min bl bf)) w ((w1.setCell ⟨bl, 0, none⟩ u).setCell ⟨bf, 0, none⟩ (.int .i64 (at' + 1 : Nat))) := by
    intro u w1 e1 e2 e3 ho hg
    refine ⟨?_, ?_, u, ?_, ?_, ?_⟩
    · rw [Below.heap_setCell _ _ _ _ hne.2.2, Below.heap_setCell _ _ _ _ hne.2.1]; exact e3
    · exact one_setCell ((Below.heap_setCell w1 ⟨bl, 0, none⟩ _ bf (Ne.symm hne.1)).trans e2)
    · rw [Below.heap_setCell _ _ _ _ hne.1]; exact one_setCell e1
    · exact ownsRow_setCell_below (ownsRow_setCell_below ho h2 _) h3 _
    · refine Below.setCell (Below.setCell ((Below.refl _ w).trans ?_) (by show _ ≤ bl; omega) _) (by show _ ≤ bf; omega) _
      refine ⟨hg.os, hg.tape, hg.output, Nat.le_trans (by simp) hg.size, fun k hk => ?_⟩
      have hl := lt_of_block hS
      refine (hg.block k (by simp; omega) ?_).trans (Below.heap_alloc w _ k (by omega))
      intro e
      have := (hown.lt k e.symm).1
      omega
  have FIN := Lib.hid fin
  clear fin
  go_enter Tryd.func44, Tryd.ntmps44
  go_wp2_with fail
  have n1 := World.new_ne w _ cS
  have n2 := World.new_ne w _ cL
  have n3 := World.new_ne w _ cF
  have l1 := lt_of_block hS
  have l2 := lt_of_block hL
  have l3 := lt_of_block hF
  have o1 : v.ownBlock ≠ some bs := fun e => by have := (hown.lt _ e).1; omega
  have o2 : v.ownBlock ≠ some bl := fun e => by have := (hown.lt _ e).1; omega
  have o3 : v.ownBlock ≠ some bf := fun e => by have := (hown.lt _ e).1; omega
  have hb1 : (fr : Int) ≤ (at' : Int) := by omega
  have hb2 : (at' : Int) ≤ (s.size : Int) := by omega
  go_region_law
    ((refine step_append_lies _ (by rfl) _ _ _ (by rfl) base 9 i0 _ 1 16 Tryd.underlying25 hi0 hz0 hz1 hz2 rfl (by omega) v n xs (by rfl) ((hown.alloc _).drew)
        ⟨w.heap.size, 0, none⟩ 1 1 [.string (s.extract fr at')] (by rfl) (by rfl) (World.news_of_block (cs := #[.string (s.extract fr at')]) (t := 9) (fr := (0, 0)) (heap_alloc_new w _)) (by simp [Value.oneCell'])
        (by omega) (by unfold maxLen; omega) (by omega) (by simp; omega) (w.heap.size + 1) (by simp) ?_; intro gg cap w1 hown1 hgrow hat hlt; have fL1 : w1.frozen? ⟨bl, 0, none⟩ = false := ((hgrow.frozen_far (a := ⟨bl, 0, none⟩) (by simp; omega) (Ne.symm o2)).trans (World.frozen?_of_block (w := w) (Below.heap_alloc w _ bl l2))).trans fL; have cL1 : w1.cell? ⟨bl, 0, none⟩ = some v := ((hgrow.cell_far ⟨bl, 0, none⟩ (by simp; omega) (Ne.symm o2)).trans (World.cell?_of_block (w := w) (Below.heap_alloc w _ bl l2))).trans cL))
  all_goals
    have e1 : w1.heap[bl]? = some (.cells #[v] 25 (0, 0)) := (hgrow.block bl (by simp; omega) (Ne.symm o2)).trans ((Below.heap_alloc w _ bl l2).trans hL)
    have e2 : w1.heap[bf]? = some (.cells #[.int .i64 fr] 3 (0, 0)) := (hgrow.block bf (by simp; omega) (Ne.symm o3)).trans ((Below.heap_alloc w _ bf l3).trans hF)
    have e3 : w1.heap[bs]? = some (.cells #[.string s] 9 (0, 0)) := (hgrow.block bs (by simp; omega) (Ne.symm o1)).trans ((Below.heap_alloc w _ bs l1).trans hS)
    have g1 := FIN.out (.slice (some ⟨gg, 0, none⟩) (n + 1) cap) w1 e1 e2 e3 hown1 hgrow
    have g2 : ((w1.setCell ⟨bl, 0, none⟩ (.slice (some ⟨gg, 0, none⟩) (n + 1) cap))).cell? ⟨bf, 0, none⟩ = some (.int .i64 fr) := cell_of_one ((Below.heap_setCell w1 ⟨bl, 0, none⟩ _ bf (Ne.symm hne.1)).trans e2)
    have g3 : ((w1.setCell ⟨bl, 0, none⟩ (.slice (some ⟨gg, 0, none⟩) (n + 1) cap))).frozen? ⟨bf, 0, none⟩ = false := free_of_one ((Below.heap_setCell w1 ⟨bl, 0, none⟩ _ bf (Ne.symm hne.1)).trans e2)
    clear hgrow
    go_wp2
    go_end0
    exact ⟨rfl, g1⟩

set_option maxHeartbeats 1000000 in
theorem fend_skip (bs bl bf at' fr : Nat) (w : World) (hF : w.heap[bf]? = some (.cells #[.int .i64 fr] 3 (0, 0))) (hlt : at' ≤ fr) (hle : at' ≤ 1073741824) :
    Calls Tryd.prog 44 #[.int .i64 at', .pointer (some ⟨bf, 0, none⟩), .pointer (some ⟨bl, 0, none⟩), .pointer (some ⟨bs, 0, none⟩)] w fun e w' => e = .returned (.tuple #[]) ∧ w' = w.setCell ⟨bf, 0, none⟩ (.int .i64 (at' + 1 : Nat)) := by
  have cF := cell_of_one hF
  have fF := free_of_one hF
  go_enter Tryd.func44, Tryd.ntmps44
  go_wp2
  go_end0
  exact ⟨rfl, rfl⟩

theorem three_blocks (w : World) (a b c : Obj) : (((w.alloc a).alloc b).alloc c).heap[w.heap.size]? = some a ∧ (((w.alloc a).alloc b).alloc c).heap[w.heap.size + 1]? = some b ∧ (((w.alloc a).alloc b).alloc c).heap[w.heap.size + 2]? = some c := by
  refine ⟨?_, ?_, ?_⟩
  · rw [Below.heap_alloc _ _ _ (by simp; omega), Below.heap_alloc _ _ _ (by simp)]
    exact heap_alloc_new w a
  · rw [Below.heap_alloc _ _ _ (by simp)]
    have := heap_alloc_new (w.alloc a) b
    simpa using this
  · have := heap_alloc_new ((w.alloc a).alloc b) c
    simpa using this
theorem ext_dt (s : ByteArray) (a b : Nat) : (s.extract a b).data.toList = (s.data.toList.take b).drop a := by
  rw [ext_toList, List.drop_take]

set_option maxHeartbeats 1000000 in
set_option maxRecDepth 100000 in
theorem fields_any (s : ByteArray) (w : World) (hs : s.size ≤ 1073741824) :
    Calls Tryd.prog 39 #[.string s] w fun e w' => (∃ v, e = .returned v ∧ w'.ownsRow w.heap.size 9 1 v (fieldsL s.data.toList).length (strCells (fieldsL s.data.toList))) ∧ Below w.heap.size w w' := by
  go_enter Tryd.func39, Tryd.ntmps39
  go_wp2
  go_loopw [10] (fun i wr => ∃ (k fr : Nat) (v : Value), k ≤ s.size ∧ i = .int .i64 k ∧ fr ≤ k ∧ wr.heap[w.heap.size]? = some (.cells #[.string s] 9 (0, 0)) ∧ wr.heap[w.heap.size + 1]? = some (.cells #[v] 25 (0, 0)) ∧ wr.heap[w.heap.size + 2]? = some (.cells #[.int .i64 fr] 3 (0, 0)) ∧ Hid ((s.data.toList.take k).drop fr = (fRun (s.data.toList.take k)).2) ∧ wr.ownsRow (w.heap.size + 3) 9 1 v (fRun (s.data.toList.take k)).1.length (strCells (fRun (s.data.toList.take k)).1) ∧ w.heap.size + 3 ≤ wr.heap.size ∧ Below w.heap.size w wr) (fun i _ => s.size - (intOf i).toNat)
  case atStart =>
    refine ⟨0, 0, .slice none 0 0, Nat.zero_le _, rfl, Nat.le_refl _, ?_, ?_, ?_, rfl, World.ownsRow_nil _ _ _ _, by simp, ?_⟩
    · exact (three_blocks w _ _ _).1
    · exact (three_blocks w _ _ _).2.1
    · exact (three_blocks w _ _ _).2.2
    · exact (((Below.refl _ w).alloc (Nat.le_refl _) _).alloc (by simp) _).alloc (by simp; omega) _
  case round =>
    obtain ⟨k, fr, v, hk, rfl, hfr, hS, hL, hF, HD, hown, hsz, hb⟩ := hrel
    have hlen := fRun_len (s.data.toList.take k)
    have hlk : (s.data.toList.take k).length ≤ s.size := by simp; omega
    have cS := cell_of_one hS
    have cL := cell_of_one hL
    generalize hG : fRun (s.data.toList.take k) = F at *
    by_cases hlt : k < s.size
    · have HS : Hid (fRun (s.data.toList.take (k + 1)) = fStep F s[k]) := by rw [← hG]; exact fRun_take s k hlt
      have HT := Lib.hid (take_snoc s k hlt)
      clear hG
      by_cases hc : spI (s[k].toNat : Int) = true
      · have HU : Hid (fRun (s.data.toList.take (k + 1)) = (fEnd F, [])) := by rw [HS.out]; exact fStep_sp hc
        have HN : Hid ((s.data.toList.take (k + 1)).drop (k + 1) = []) := by
          apply List.drop_of_length_le; simp; omega
        by_cases hgt : fr < k
        · have hne : F.2 ≠ [] := by
            rw [← HD.out]
            intro e
            have := congrArg List.length e
            simp at this
            omega
          have HE := Lib.hid (fEnd_not hne)
          clear hne
          go_wp2_with (first
            | (go_at_call 45; refine (space_any _ _).mono ?_; rintro e w' ⟨rfl, rfl⟩)
            | (go_at_call 44; refine (fend_cut w.heap.size (w.heap.size + 1) (w.heap.size + 2) k fr _ (w.heap.size + 3) s v _ _ hS hL hF hown (by omega) (by omega) (by omega) hsz (by omega) ⟨by omega, by omega, by omega⟩ hgt (by omega) hs).mono ?_))
          rintro e w' ⟨rfl, a1, a2, v', a3, a4, a5⟩
          have hm : min w.heap.size (min (w.heap.size + 1) (w.heap.size + 2)) = w.heap.size := by omega
          rw [hm] at a5
          go_wp2
          go_roundw
          case rel =>
            refine ⟨k + 1, k + 1, v', by omega, by go_num, Nat.le_refl _, a1, a3, a2, by rw [HU.out]; exact HN.out, ?_, Nat.le_trans hsz a5.size, hb.trans a5⟩
            rw [HU.out, HE.out, strCells_append, List.length_append]
            have e : Value.string (s.extract fr k) = .string ⟨F.2.toArray⟩ := str_of (by rw [ext_dt]; exact HD.out)
            rw [e] at a4
            exact a4
          case measure => simp [intOf]; omega
        · have he : F.2 = [] := by
            rw [← HD.out]
            apply List.drop_of_length_le; simp; omega
          have HE := Lib.hid (fEnd_nil he)
          clear he
          go_wp2_with (first
            | (go_at_call 45; refine (space_any _ _).mono ?_; rintro e w' ⟨rfl, rfl⟩)
            | (go_at_call 44; refine (fend_skip w.heap.size (w.heap.size + 1) (w.heap.size + 2) k fr _ hF (by omega) (by omega)).mono ?_; rintro e w' ⟨rfl, rfl⟩))
          go_roundw
          case rel =>
            refine ⟨k + 1, k + 1, v, by omega, by go_num, Nat.le_refl _, ?_, ?_, one_setCell hF, by rw [HU.out]; exact HN.out, ?_, by simp [World.setCell]; exact hsz, hb.setCell (by show _ ≤ w.heap.size + 2; omega) _⟩
            · rw [Below.heap_setCell _ _ _ _ (by show _ ≠ w.heap.size + 2; omega)]; exact hS
            · rw [Below.heap_setCell _ _ _ _ (by show _ ≠ w.heap.size + 2; omega)]; exact hL
            · rw [HU.out, HE.out]; exact ownsRow_setCell_below hown (by show w.heap.size + 2 < _; omega) _
          case measure => simp [intOf]; omega
      · have hc' : spI (s[k].toNat : Int) = false := by simpa using hc
        have HU : Hid (fRun (s.data.toList.take (k + 1)) = (F.1, F.2 ++ [s[k]])) := by rw [HS.out]; exact fStep_not hc'
        clear hc
        go_wp2_with (go_at_call 45; refine (space_any _ _).mono ?_; rintro e w' ⟨rfl, rfl⟩)
        go_roundw
        case rel =>
          refine ⟨k + 1, fr, v, by omega, by go_num, by omega, hS, hL, hF, ?_, by rw [HU.out]; exact hown, hsz, hb⟩
          rw [HU.out, HT.out, List.drop_append_of_le_length (by simp; omega), HD.out]
          rfl
        case measure => simp [intOf]; omega
    · have e : s.data.toList.take k = s.data.toList := List.take_of_length_le (by simp; omega)
      have ek : k = s.size := by omega
      subst ek
      have HF : Hid (fieldsL s.data.toList = fEnd F) := by rw [← hG, e]; rfl
      clear hG e
      by_cases hgt : fr < s.size
      · have hne : F.2 ≠ [] := by
          rw [← HD.out]
          intro e
          have := congrArg List.length e
          simp at this
          omega
        have HE := Lib.hid (fEnd_not hne)
        clear hne
        go_wp2_with (go_at_call 44; refine (fend_cut w.heap.size (w.heap.size + 1) (w.heap.size + 2) s.size fr _ (w.heap.size + 3) s v _ _ hS hL hF hown (by omega) (by omega) (by omega) hsz (by omega) ⟨by omega, by omega, by omega⟩ hgt (by omega) hs).mono ?_)
        rintro e w' ⟨rfl, a1, a2, v', a3, a4, a5⟩
        have hm : min w.heap.size (min (w.heap.size + 1) (w.heap.size + 2)) = w.heap.size := by omega
        rw [hm] at a5
        have c3 := cell_of_one a3
        go_wp2
        go_ret
        refine ⟨⟨_, rfl, ?_⟩, hb.trans a5⟩
        rw [HF.out, HE.out, strCells_append, List.length_append]
        have e : Value.string (s.extract fr s.size) = .string ⟨F.2.toArray⟩ := str_of (by rw [ext_dt]; exact HD.out)
        rw [e] at a4
        exact owns_mono a4 (by omega)
      · have he : F.2 = [] := by
          rw [← HD.out]
          apply List.drop_of_length_le; simp; omega
        have HE := Lib.hid (fEnd_nil he)
        clear he
        go_wp2_with (go_at_call 44; refine (fend_skip w.heap.size (w.heap.size + 1) (w.heap.size + 2) s.size fr _ hF (by omega) (by omega)).mono ?_; rintro e w' ⟨rfl, rfl⟩)
        go_ret
        refine ⟨⟨_, rfl, ?_⟩, hb.setCell (by show _ ≤ w.heap.size + 2; omega) _⟩
        rw [HF.out, HE.out]
        exact owns_mono (ownsRow_setCell_below hown (by show w.heap.size + 2 < _; omega) _) (by omega)
end Go.Proofs.YtgaeecphohlmpabDoor
