/- tags: readRest. -/
import Derived.Test.YtbpdmbmooboimaaDoorTg4
import Derived.Test.YtbpdmbmooboimaaDoorTgP
import Derived.Maps.OwnSet
import Derived.Maps.OwnOps
import Derived.Carry
import Derived.Maps.Views
import Derived.StringKeys
import Derived.Deep.Cut
import Derived.Deep.RegionLaw
import Derived.Deep.AppendLies
import Derived.RegionTactic
set_option linter.unusedVariables false
set_option linter.unusedSimpArgs false
namespace Go.Proofs.YtbpdmbmooboimaaDoor.T10
open Go.RowKit R9 Go.Maps Go.WideMaps

def hasA (l : List At) (n : List UInt8) : Bool := l.any fun x => x.1 == n
theorem keep_snoc (l : List At) (a : At) : keepL (l ++ [a]) = addA (keepL l) a := by simp [keepL]
theorem keep_old {l : List At} {a : At} (h : hasA (keepL l).1 a.1 = true) : keepL (l ++ [a]) = ((keepL l).1, true) := by
  rw [keep_snoc, addA, if_pos (show ((keepL l).1.any fun x => x.1 == a.1) = true from h)]
theorem keep_new {l : List At} {a : At} (h : hasA (keepL l).1 a.1 = false) : keepL (l ++ [a]) = ((keepL l).1 ++ [a], (keepL l).2) := by
  rw [keep_snoc, addA, if_neg (by rw [show ((keepL l).1.any fun x => x.1 == a.1) = false from h]; simp)]
theorem keep_len (l : List At) : (keepL l).1.length ≤ l.length := by
  have key : ∀ (l : List At) (s : List At × Bool), (l.foldl addA s).1.length ≤ s.1.length + l.length := by
    intro l
    induction l with
    | nil => intro s; simp
    | cons a t ih =>
      intro s
      have h1 := ih (addA s a)
      have h2 : (addA s a).1.length ≤ s.1.length + 1 := by unfold addA; split <;> simp
      simp only [List.foldl_cons, List.length_cons]
      omega
  have := key l ([], false)
  simpa [keepL] using this
/-- How often each name has come so far. -/
def SeenN (D : DataW Unit) (K : List At) (k : Nat) : Prop :=
  IsMap D ∧ ∀ n : List UInt8, ∃ c : Nat, c ≤ k ∧ D.atKey (.string n) (.lit (.int .i64 0)) = .lit (.int .i64 (c : Int)) ∧ (c = 0 ↔ hasA K n = false)
theorem SeenN.start : SeenN (.map []) [] 0 := ⟨isMap_empty, fun n => ⟨0, Nat.le_refl _, rfl, by simp [hasA]⟩⟩
theorem SeenN.mono {D : DataW Unit} {K : List At} {k j : Nat} (h : SeenN D K k) (hj : k ≤ j) : SeenN D K j :=
  ⟨h.1, fun n => by obtain ⟨c, h1, h2, h3⟩ := h.2 n; exact ⟨c, by omega, h2, h3⟩⟩
theorem SeenN.step {D : DataW Unit} {K K' : List At} {k c : Nat} {nm : List UInt8} (h : SeenN D K k) (hc : D.atKey (.string nm) (.lit (.int .i64 0)) = .lit (.int .i64 (c : Int))) (hck : c ≤ k) (hacc : ∀ n, hasA K' n = (hasA K n || nm == n)) :
    SeenN (D.put (.string nm) (.lit (.int .i64 ((c : Int) + 1)))) K' (k + 1) := by
  refine ⟨h.1.put _ _, fun n => ?_⟩
  by_cases e : n = nm
  · subst e
    refine ⟨c + 1, by omega, ?_, ?_⟩
    · rw [atKey_put_same h.1 (by trivial)]; rfl
    · rw [hacc]; simp
  · obtain ⟨c', h1, h2, h3⟩ := h.2 n
    refine ⟨c', by omega, ?_, ?_⟩
    · rw [atKey_put_other (by intro e2; injection e2 with e2; exact e e2)]; exact h2
    · rw [hacc, h3]
      have : (nm == n) = false := by rw [beq_eq_false_iff_ne]; exact fun e2 => e e2.symm
      rw [this, Bool.or_false]
theorem lit_int_inj {a b : Int} (h : (DataW.lit (.int .i64 a) : DataW Unit) = .lit (.int .i64 b)) : a = b := by
  injection h with h
  injection h
theorem lawStr : Keyed Tryd.prog 9 := string_keyed Tryd.underlying9
theorem zeroI (w : World) : (zeroValue 3).run Tryd.prog w = .ok (.int .i64 0) w := by kernel_rfl
theorem infoAttr : (Tryd.prog.info? 83).map (fun i => (i.zero, i.size, i.bytes)) = some (some (.agg #[.string ⟨#[]⟩, .string ⟨#[]⟩]), 2, 32) := by kernel_rfl
theorem news2 (w : World) (a b : Value) (t : TypeId) : ∀ (j : Nat) (u : Value), ([a, b] : List Value)[j]? = some u → (w.alloc (.cells #[a, b] t)).cell? ((⟨w.heap.size, 0, none⟩ : Addr).add j) = some u := by
  intro j u hj
  match j, hj with
  | 0, hj => simp at hj; subst hj; simp [Addr.add]
  | 1, hj => simp at hj; subst hj; simp [Addr.add]
theorem RTab.belowB {B : Nat} {w w' : World} (h : RTab w) (hg : (1 : Nat) < B) (hb : Below B w w') : RTab w' := by
  obtain ⟨t, fr, h1⟩ := h
  exact ⟨t, fr, (hb.block _ hg).trans h1⟩
theorem MaxOk.belowB {B : Nat} {m : Int} {w w' : World} (h : MaxOk m w) (hg : (0 : Nat) < B) (hb : Below B w w') : MaxOk m w' :=
  (hb.cell (p := ⟨0, 0, none⟩) hg).trans h
theorem rest_same {n m : Nat} {r : List UInt8} {i : Nat} {acc : List At} {b : Bool} (h1 : r.length < n) (h2 : r.length < m) : restF n r acc b i = restF m r acc b i := by
  cases h : restF n r acc b i with
  | some x => exact (rest_fuel n m r i acc b x h h2).symm
  | none =>
    cases h' : restF m r acc b i with
    | none => rfl
    | some x => rw [rest_fuel m n r i acc b x h' h1] at h; cases h
/-- The cells of attributes. -/
def attC (l : List At) : List Value := l.flatMap fun a => [.string ⟨a.1.toArray⟩, .string ⟨a.2.toArray⟩]
theorem attC_len (l : List At) : (attC l).length = l.length * 2 := by
  induction l with
  | nil => rfl
  | cons a t ih =>
    have : attC (a :: t) = [.string ⟨a.1.toArray⟩, .string ⟨a.2.toArray⟩] ++ attC t := rfl
    rw [this, List.length_append, ih]
    simp
    omega
theorem attC_snoc (l : List At) (a : At) : attC (l ++ [a]) = attC l ++ [.string ⟨a.1.toArray⟩, .string ⟨a.2.toArray⟩] := by simp [attC]
/-- A token's cells. -/
def tokC (v0 v1 v2 sv : Value) (dup self : Bool) (v6 v7 v8 : Value) : Array Value := #[v0, v1, v2, sv, .bool dup, .bool self, v6, v7, v8]
def nextI : Option (List At × Bool × Nat) → Int
  | none => -1
  | some (_, _, j) => j
def RestRes (Z : Option (List At × Bool × Nat)) (p B : Nat) (v0 v1 v2 v6 v7 v8 : Value) (w' : World) : Prop :=
  ∃ K dup self sv, w'.heap[p]? = some (.cells (tokC v0 v1 v2 sv dup self v6 v7 v8) 25 (0, 0)) ∧ w'.ownsRow B 83 2 sv K.length (attC K) ∧
    (∀ acc b j, Z = some (acc, b, j) → K = (keepL acc).1 ∧ dup = (keepL acc).2 ∧ self = b)

theorem hset {w : World} {g : Nat} {cur : Array Value} {e : TypeId} {fz : Nat × Nat} (hh : w.heap[g]? = some (.cells cur e fz)) (k : Nat) (u : Value) : (w.setCell ⟨g, k, none⟩ u).heap[g]? = some (.cells (cur.setIfInBounds k u) e fz) := by
  unfold World.setCell; simp [Array.getElem?_modify, hh]
theorem map_setCell {w : World} {b n p : Nat} {D : DataW Unit} (h : w.ownsMap Tryd.prog 9 (plainElem Tryd.prog 3) b n D) (k : Nat) (u : Value) (hne : p ≠ b) : (w.setCell ⟨p, k, none⟩ u).ownsMap Tryd.prog 9 (plainElem Tryd.prog 3) b n D :=
  h.kept (row := some p) ⟨rfl, rfl, rfl, by simp [World.setCell], fun j hj hn => Below.heap_setCell w ⟨p, k, none⟩ u j (by intro e; exact hn (by rw [e]))⟩ (by intro e; injection e with e; exact hne e.symm)
theorem attr_name (r : List UInt8) : (attrL r).1.1 = cleanL (r.take (1 + upN stopB (r.drop 1))) := by
  unfold attrL
  simp only []
  split
  · split
    · rfl
    · split
      · rfl
      · split
        · split <;> rfl
        · rfl
  · rfl
set_option maxHeartbeats 6400000 in
set_option maxRecDepth 100000 in
theorem rest_any (s : ByteArray) (a p : Nat) (m : Int) (v0 v1 v2 v6 v7 v8 : Value) (w : World) (hT : RTab w) (hm : MaxOk m w) (ha : a ≤ s.size) (hs : s.size ≤ 5000)
    (hgT : (1 : Nat) < p) (hgM : (0 : Nat) < p) (hp : w.heap[p]? = some (.cells (tokC v0 v1 v2 (.slice none 0 0) false false v6 v7 v8) 25 (0, 0))) :
    Calls Tryd.prog 101 #[.string s, .int .i64 a, .pointer (some ⟨p, 0, none⟩)] w fun e w' => (e = .returned (.int .i64 (nextI (restF (s.size + 1) (s.data.toList.drop a) [] false a))) ∧ RestRes (restF (s.size + 1) (s.data.toList.drop a) [] false a) p w.heap.size v0 v1 v2 v6 v7 v8 w') ∧ Below p w w' := by
  obtain ⟨Z, hZ⟩ : ∃ Z, restF (s.size + 1) (s.data.toList.drop a) [] false a = Z := ⟨_, rfl⟩
  rw [hZ]
  have HZ0 := Lib.hid hZ
  have HT := Lib.hid hT
  have HM := Lib.hid hm
  have HP0 := Lib.hid hp
  have hpw := (Array.getElem?_eq_some_iff.1 hp).1
  have hsl : Hid (s.data.toList.length = s.size) := by show _ = _; simp
  clear hZ hT hm hp
  have hmm := @run_makeMap Tryd.prog
  go_enter Tryd.func101, Tryd.ntmps101
  go_wp2_with fail
  go_loopw [1] (fun i wr => ∃ (k fuel : Nat) (acc : List At) (self : Bool) (D : DataW Unit) (oa : Option Addr) (oc : Nat), k ≤ s.size ∧ i = .int .i64 k ∧ Hid (restF fuel (s.data.toList.drop k) acc self k = Z) ∧ Hid (s.size - k < fuel) ∧ acc.length ≤ k ∧
      Hid (wr.heap[p]? = some (.cells (tokC v0 v1 v2 (.slice oa (keepL acc).1.length oc) (keepL acc).2 self v6 v7 v8) 25 (0, 0))) ∧ wr.ownsMap Tryd.prog 9 (plainElem Tryd.prog 3) w.heap.size k D ∧ Hid (SeenN D (keepL acc).1 k) ∧
      wr.ownsRow (w.heap.size + 1) 83 2 (.slice oa (keepL acc).1.length oc) (keepL acc).1.length (attC (keepL acc).1) ∧ w.heap.size + 1 ≤ wr.heap.size ∧ Hid (Below p w wr)) (fun i _ => s.size - (intOf i).toNat)
  case atStart =>
    refine ⟨a, s.size + 1, [], false, .map [], none, 0, ha, rfl, HZ0.out, by show _ < _; omega, Nat.zero_le _, ?_, ?_, SeenN.start.mono (Nat.zero_le _), World.ownsRow_nil _ _ _ _, by simp, (Below.refl p w).alloc (by omega) _⟩
    · exact (Below.heap_alloc w _ _ hpw).trans HP0.out
    · exact (World.ownsMap_made (H := Unit) w Tryd.prog 9 (plainElem Tryd.prog 3)).mono (Nat.zero_le _)
  case round =>
    obtain ⟨k, fuel, acc, self, D, oa, oc, hk, rfl, HZ, HF, hacc, HP, hmap, HS, hown, hsz, HB⟩ := hrel
    by_cases hlt : k < s.size
    · have hki : (k : Int) < s.size := by omega
      obtain ⟨c, hc⟩ : ∃ c, s[k] = c := ⟨_, rfl⟩
      have hg := at_get hlt
      rw [hc] at hg
      have hd : s.data.toList.drop k = c :: s.data.toList.drop (k + 1) := by
        rw [List.drop_eq_getElem_cons (by rw [hsl.out]; exact hlt)]
        congr 1
      obtain ⟨n, hn⟩ : ∃ n, fuel = n + 1 := ⟨fuel - 1, by have := HF.out; omega⟩
      subst hn
      have hZ := HZ.out
      rw [hd] at hZ
      unfold restF at hZ
      obtain ⟨K, hK⟩ : ∃ K, keepL acc = K := ⟨_, rfl⟩
      have HK := Lib.hid hK
      have hKl : K.1.length ≤ k := by rw [← hK]; exact Nat.le_trans (keep_len acc) hacc
      rw [hK] at HP HS hown
      have hlp := (Array.getElem?_eq_some_iff.1 HP.out).1
      clear hK
      by_cases h62 : c = 62
      · rw [if_pos h62] at hZ
        have t0 := byte_is' (z := 62) h62 rfl
        have HZ' := Lib.hid hZ
        have hki2 : ¬ (s.size : Int) ≤ k := by omega
        obtain ⟨J, hJ⟩ : ∃ J, k + 1 = J := ⟨_, rfl⟩
        have hJi : (k : Int) + 1 = J := by omega
        clear h62 hg hd hZ
        go_wp2_with fail
        go_ret
        refine ⟨⟨?_, ?_⟩, HB.out⟩
        · rw [← HZ'.out]
          show _ = Ending.returned (.int .i64 ((k + 1 : Nat) : Int))
          rw [hJ]
          rfl
        · refine ⟨K.1, K.2, self, _, HP.out, owns_mono hown (by omega), ?_⟩
          intro acc' b' j' h
          rw [← HZ'.out] at h
          injection h with h
          injection h with h1 h
          injection h with h2 h
          subst h1 h2
          rw [HK.out]
          exact ⟨rfl, rfl, rfl⟩
      · rw [if_neg h62] at hZ
        have t0 := byte_not' (z := 62) h62 rfl
        have HBL := Lib.hid (fun W => blank_any (c.toNat : Int) W)
        by_cases hbl : blB c = true
        · rw [if_pos hbl] at hZ
          have hb2 : blI (c.toNat : Int) = true := hbl
          rw [hb2] at HBL
          have HZ' := Lib.hid hZ
          clear h62 hbl hb2 hg hd hZ
          go_wp2_with fail
          refine (HBL.out _).mono ?_
          rintro e w' ⟨rfl, rfl⟩
          go_wp2_with fail
          go_roundw
          case rel => exact ⟨k + 1, n, acc, self, D, oa, oc, by omega, by go_num, HZ'.out, by have := HF.out; show _ < _; omega, by omega, by rw [HK.out]; exact HP.out, hmap.mono (by omega), by rw [HK.out]; exact HS.out.mono (by omega), by rw [HK.out]; exact hown, hsz, HB⟩
          case measure => simp [intOf]; omega
        · rw [if_neg hbl] at hZ
          have hb2 : blI (c.toNat : Int) = false := by simpa [blB] using hbl
          rw [hb2] at HBL
          by_cases h47 : c = 47
          · rw [if_pos h47] at hZ
            have t1 := byte_is (z := 47) h47 rfl
            have HZ' := Lib.hid hZ
            have y5 : wr.cell? ⟨p, 5, none⟩ = some (.bool self) := by rw [Lib.cell_of_heap HP.out]; rfl
            have z5 := Lib.frozen_of_heap HP.out 5
            obtain ⟨J, hJ⟩ : ∃ J, k + 1 = J := ⟨_, rfl⟩
            have hJi : (k : Int) + 1 = J := by omega
            obtain ⟨S, hS⟩ : ∃ S, ((s.data.toList.drop (k + 1)).head? == some 62) = S := ⟨_, rfl⟩
            rw [hS, hJ] at HZ'
            rw [hJ, List.head?_drop] at hS
            clear h62 hbl hb2 h47 hg hd hZ hJ
            by_cases hJl : J < s.size
            · have iJ : (J : Int) < s.size := by omega
              rw [at_get hJl] at hS
              have hS2 : ((s[J].toNat : Int) == 62) = S := by
                rw [← hS]
                by_cases h : s[J] = 62
                · rw [byte_is (z := 62) h rfl, h]; rfl
                · rw [byte_not (z := 62) h rfl]; symm; simpa using h
              clear hS
              go_wp2_with fail
              refine (HBL.out _).mono ?_
              rintro e w' ⟨rfl, rfl⟩
              go_wp2_with fail
              go_roundw
              case rel =>
                refine ⟨J, n, acc, S, D, oa, oc, by omega, by go_num, HZ'.out, by have := HF.out; show _ < _; omega, by omega, ?_, ?_, by rw [HK.out]; exact HS.out.mono (by omega), ?_, by simp [World.setCell]; omega, HB.out.setCell (by exact Nat.le_refl _) _⟩
                · rw [HK.out]; exact hset HP.out 5 _
                · have hmp : (wr.setCell ⟨p, 5, none⟩ (.bool S)).ownsMap Tryd.prog 9 (plainElem Tryd.prog 3) w.heap.size k D := hmap.kept (row := some p) ⟨rfl, rfl, rfl, by simp [World.setCell], fun j hj hne => Below.heap_setCell wr ⟨p, 5, none⟩ _ j (by intro e; exact hne (by rw [e]))⟩ (by intro e; injection e with e; omega)
                  exact hmp.mono (by omega)
                · rw [HK.out]; exact ownsRow_setCell_below hown (by show p < _; omega) _
              case measure => simp [intOf]; omega
            · have iJ : ¬ (J : Int) < s.size := by omega
              rw [at_none hJl] at hS
              have hS2 : S = false := by rw [← hS]; rfl
              subst hS2
              clear hS
              go_wp2_with fail
              refine (HBL.out _).mono ?_
              rintro e w' ⟨rfl, rfl⟩
              go_wp2_with fail
              go_roundw
              case rel =>
                refine ⟨J, n, acc, false, D, oa, oc, by omega, by go_num, HZ'.out, by have := HF.out; show _ < _; omega, by omega, ?_, ?_, by rw [HK.out]; exact HS.out.mono (by omega), ?_, by simp [World.setCell]; omega, HB.out.setCell (by exact Nat.le_refl _) _⟩
                · rw [HK.out]; exact hset HP.out 5 _
                · have hmp : (wr.setCell ⟨p, 5, none⟩ (.bool false)).ownsMap Tryd.prog 9 (plainElem Tryd.prog 3) w.heap.size k D := hmap.kept (row := some p) ⟨rfl, rfl, rfl, by simp [World.setCell], fun j hj hne => Below.heap_setCell wr ⟨p, 5, none⟩ _ j (by intro e; exact hne (by rw [e]))⟩ (by intro e; injection e with e; omega)
                  exact hmp.mono (by omega)
                · rw [HK.out]; exact ownsRow_setCell_below hown (by show p < _; omega) _
              case measure => simp [intOf]; omega
          · rw [if_neg h47, ← hd] at hZ
            have t1 := byte_not (z := 47) h47 rfl
            obtain ⟨A, hA⟩ : ∃ A, attrL (s.data.toList.drop k) = A := ⟨_, rfl⟩
            obtain ⟨⟨an, av⟩, ak⟩ := A
            have hap := attr_pos (s.data.toList.drop k) (by rw [List.length_drop, hsl.out]; omega)
            rw [hA, List.length_drop, hsl.out] at hap
            rw [hA, List.drop_drop] at hZ
            simp only [] at hZ hap
            obtain ⟨J, hJ⟩ : ∃ J, k + ak = J := ⟨_, rfl⟩
            rw [hJ] at hZ
            have hJs : J ≤ s.size := by omega
            have hkJ : k + 1 ≤ J := by omega
            have HZ' := Lib.hid hZ
            have HT1 : RTab (wr.alloc (.cells #[.string ⟨#[]⟩, .string ⟨#[]⟩] 83)) := RTab.belowB HT.out hgT (HB.out.alloc (by omega) _)
            have HM1 : MaxOk m (wr.alloc (.cells #[.string ⟨#[]⟩, .string ⟨#[]⟩] 83)) := MaxOk.belowB HM.out hgM (HB.out.alloc (by omega) _)
            have HAT := Lib.hid (attr_any s k m _ HT1 HM1 hlt hs)
            rw [hA] at HAT
            have ea : retA k ((an, av), ak) = .tuple #[.agg #[.string ⟨an.toArray⟩, .string ⟨av.toArray⟩], .int .i64 (J : Int)] := by rw [← hJ]; rfl
            rw [ea] at HAT
            have HANL : Hid (an.length ≤ 15000) := by
              have h1 : an = cleanL ((s.data.toList.drop k).take (1 + upN stopB ((s.data.toList.drop k).drop 1))) := by
                have := congrArg (fun x => x.1.1) hA
                rw [← attr_name]; exact this.symm
              show _ ≤ _
              rw [h1]
              have h2 := clean_len ((s.data.toList.drop k).take (1 + upN stopB ((s.data.toList.drop k).drop 1)))
              have h3 := List.length_take_le' (1 + upN stopB ((s.data.toList.drop k).drop 1)) (s.data.toList.drop k)
              rw [List.length_drop, hsl.out] at h3
              omega
            clear HT1 HM1 hA hap hZ hJ ea h62 hbl hb2 h47 hd hg HZ
            go_wp2_with fail
            refine (HBL.out _).mono ?_
            rintro e w' ⟨rfl, rfl⟩
            go_wp2_with fail
            refine HAT.out.mono ?_
            rintro e w1 ⟨rfl, b1⟩
            obtain ⟨q, hq⟩ : ∃ q, wr.heap.size = q := ⟨_, rfl⟩
            have kq : w1.heap[q]? = some (.cells #[.string ⟨#[]⟩, .string ⟨#[]⟩] 83 (0, 0)) := by
              rw [b1.block _ (by simp; omega), ← hq]
              exact heap_alloc_new wr _
            have c0 : w1.cell? ⟨q, 0, none⟩ = some (.string ⟨#[]⟩) := by rw [Lib.cell_of_heap kq]; rfl
            have c1 : w1.cell? ⟨q, 1, none⟩ = some (.string ⟨#[]⟩) := by rw [Lib.cell_of_heap kq]; rfl
            have z0 := Lib.frozen_of_heap kq 0
            have z1 := Lib.frozen_of_heap kq 1
            have HKQ := Lib.hid kq
            clear kq
            obtain ⟨nb, hnb⟩ : ∃ nb : ByteArray, (⟨an.toArray⟩ : ByteArray) = nb := ⟨_, rfl⟩
            obtain ⟨vb, hvb⟩ : ∃ vb : ByteArray, (⟨av.toArray⟩ : ByteArray) = vb := ⟨_, rfl⟩
            have HNB := Lib.hid hnb
            have HVB := Lib.hid hvb
            go_upto_region 5 with fail
            obtain ⟨W2, hW2⟩ : ∃ W2, W2 = ((w1.setCell ⟨q, 0, none⟩ (.string nb)).setCell ⟨q, 1, none⟩ (.string vb)) := ⟨_, rfl⟩
            rw [← hW2]
            have KQ2 : Hid (W2.heap[q]? = some (.cells #[.string nb, .string vb] 83 (0, 0))) := by
              show _ = _
              rw [hW2]
              exact hset (hset HKQ.out 0 _) 1 _
            have HB2 : Hid (Below wr.heap.size wr W2) := by
              show Below _ _ _
              rw [hW2]
              exact (((((Below.refl _ wr).alloc (Nat.le_refl _) _).trans (b1.mono (by simp))).setCell (by show _ ≤ q; omega) _).setCell (by show _ ≤ q; omega) _)
            have hq2 : q < W2.heap.size := (Array.getElem?_eq_some_iff.1 KQ2.out).1
            have d0 : W2.cell? ⟨q, 0, none⟩ = some (.string nb) := by rw [Lib.cell_of_heap KQ2.out]; rfl
            have hmap2 : W2.ownsMap Tryd.prog 9 (plainElem Tryd.prog 3) w.heap.size k D := hmap.kept (row := none) ⟨HB2.out.os, HB2.out.tape, HB2.out.output, HB2.out.size, fun j hj _ => HB2.out.block j hj⟩ (by simp)
            have hown2 := owns_below hown HB2.out
            have HP2 : Hid (W2.heap[p]? = some (.cells (tokC v0 v1 v2 (.slice oa K.1.length oc) K.2 self v6 v7 v8) 25 (0, 0))) := (HB2.out.block p hlp).trans HP.out
            have hanl : an.length ≤ 1000000 := by
              have := HANL.out
              omega
            have hnbl : Hid (nb.data.toList = an) := by show nb.data.toList = _; rw [← hnb]
            have hnbs : nb.size ≤ 1000000 := by
              rw [← hnb]
              show an.toArray.size ≤ _
              rw [List.size_toArray]
              exact hanl
            have hkey : Hid (keyOf Tryd.prog 9 (.string nb) = some (.string an)) := by
              show keyOf Tryd.prog 9 (.string nb) = _
              rw [← hnbl.out]
              exact keyOf_string_mk Tryd.underlying9 (by unfold maxLen; omega)
            obtain ⟨cn, hcn1, hcn2, hcn3⟩ := HS.out.2 an
            have HCN2 := Lib.hid hcn2
            have HCN3 := Lib.hid hcn3
            have hat3 : Hid ((D.put (.string an) (.lit (.int .i64 ((cn : Int) + 1)))).atKey (.string an) (.lit (.int .i64 0)) = (.lit (.int .i64 ((cn : Int) + 1)) : DataW Unit)) := by
              show _ = _
              rw [atKey_put_same HS.out.1 (by trivial)]
            have hqm : some q ≠ some w.heap.size := by intro e; injection e with e; omega
            have HQ := Lib.hid hq
            clear hcn2 hcn3 hW2 b1 hnb hvb c0 c1 z0 z1 HKQ hmap hown
            by_cases hc0 : cn = 0
            · have heq1 : (((cn : Int) + 1) == 1) = true := by rw [hc0]; rfl
              have hcn1' : (cn : Int) ≤ (k : Int) := by omega
              have HNEW : Hid (keepL (acc ++ [(an, av)]) = (K.1 ++ [(an, av)], K.2)) := by
                show _ = _
                have h1 := HCN3.out.1 hc0
                rw [← HK.out] at h1 ⊢
                exact keep_new (a := (an, av)) h1
              clear hc0
              go_upto_region 7 with (first
                | (at_lookup; refine wpList_lookup_own_int (H := Unit) _ rfl _ _ 127 rfl 9 3 .i64 lawStr Tryd.underlying127 Tryd.underlying3 (zeroI _) w.heap.size (k + 1) _ rfl hmap3 _ _ rfl hkey.out ?_; intro c hat hwc; obtain rfl : c = (cn : Int) + 1 := lit_int_inj (hat.symm.trans hat3.out); clear hat hwc)
                | (at_lookup; refine wpList_lookup_own_int (H := Unit) _ rfl _ _ 127 rfl 9 3 .i64 lawStr Tryd.underlying127 Tryd.underlying3 (zeroI _) w.heap.size k _ rfl hmap2 _ _ rfl hkey.out ?_; intro c hat hwc; obtain rfl : c = (cn : Int) := lit_int_inj (hat.symm.trans HCN2.out); clear hat hwc)
                | (at_mapUpdate; refine wpList_mapUpdate_own (H := Unit) _ rfl _ _ _ 127 rfl 9 3 lawStr Tryd.underlying127 _ w.heap.size k _ rfl hmap2 (by unfold maxLen; omega) _ _ _ rfl rfl hkey.out (.lit (.int .i64 ((cn : Int) + 1))) [] (plainElem_int Tryd.underlying3 (WalkArith.wf_i64 (by omega))) ?_; intro w3 hmap3 hg3; have kq3 := (hg3.block q hq2 hqm).trans KQ2.out; have e0 : w3.cell? ⟨q, 0, none⟩ = some (.string nb) := (by rw [Lib.cell_of_heap kq3]; rfl); have HKQ3 := Lib.hid kq3; clear kq3))
              have hown3 : w3.ownsRow (w.heap.size + 1) 83 2 (.slice oa K.1.length oc) K.1.length (attC K.1) := hown2.kept hg3 (by
                rcases hown2.2 with ⟨h0, _⟩ | ⟨g, cp, cur, h0, hg0, _⟩
                · rw [h0]; simp [Value.ownBlock]
                · rw [h0]; simp [Value.ownBlock]; omega)
              obtain ⟨i0, hi0, hz0, hz1, hz2⟩ := info_parts infoAttr
              have HP3 : Hid (w3.heap[p]? = some (.cells (tokC v0 v1 v2 (.slice oa K.1.length oc) K.2 self v6 v7 v8) 25 (0, 0))) := (hg3.block p (by have := HB2.out.size; omega) (by intro e; injection e with e; omega)).trans HP2.out
              have hsz3 : q + 1 ≤ w3.heap.size := Nat.le_trans hq2 hg3.size
              have HB3 : Hid (Below p w w3) := (HB.out.trans (HB2.out.mono (by omega))).grown hg3 (by have := HB2.out.size; omega) (fun j hj => by cases hj; omega)
              have N2 : Hid (∀ u ∈ ([.string nb, .string vb] : List Value), u.oneCell' = true) := by
                intro u hu
                simp at hu
                rcases hu with rfl | rfl <;> rfl
              have H63 : Hid (K.1.length + 1 ≤ maxLen) := by show _ ≤ _; unfold maxLen; omega
              have HBY : Hid ((K.1.length + 1) * 32 ≤ 140737488355328) := by show _ ≤ _; omega
              have y0 : w3.cell? ⟨p, 3, none⟩ = some (.slice oa K.1.length oc) := by rw [Lib.cell_of_heap HP3.out]; rfl
              have y1 : w3.cell? ⟨q, 1, none⟩ = some (.string vb) := by rw [Lib.cell_of_heap HKQ3.out]; rfl
              have hlp3 : p < w3.heap.size := (Array.getElem?_eq_some_iff.1 HP3.out).1
              have HOB : Hid (∀ j, (Value.slice oa K.1.length oc).ownBlock = some j → w.heap.size + 1 ≤ j) := fun j hj => (hown3.lt j hj).1
              have HSZ : Hid (w.heap.size + 1 ≤ (w3.alloc (.cells #[.string nb, .string vb] 83)).drew.heap.size) := by show w.heap.size + 1 ≤ (w3.alloc _).heap.size; simp; omega
              have HLPA : Hid (p < (w3.alloc (.cells #[.string nb, .string vb] 83)).drew.heap.size) := by show _ < (w3.alloc _).heap.size; simp; omega
              have HKA : Hid ((w3.alloc (.cells #[.string nb, .string vb] 83)).drew.heap[p]? = some (.cells (tokC v0 v1 v2 (.slice oa K.1.length oc) K.2 self v6 v7 v8) 25 (0, 0))) := (Below.heap_alloc w3 _ _ hlp3).trans HP3.out
              have HNE : Hid (some p ≠ (Value.slice oa K.1.length oc).ownBlock) := fun e => by
                have h1 := HOB.out _ e.symm
                omega
              have N1 : ¬ p = w3.heap.size := by omega
              have N3 : ¬ p = q := by omega
              have N4 : ¬ q = p := by omega
              clear heq1
              go_wp2_with fail
              go_region_law (refine step_append_lies _ (by rfl) _ _ _ (by rfl) (w.heap.size + 1) 83 i0 _ 2 32 Tryd.underlying23 hi0 hz0 hz1 hz2 rfl (by omega) _ _ _ (by rfl) ((hown3.alloc _).drew) ⟨w3.heap.size, 0, none⟩ 1 1 [.string nb, .string vb] (by rfl) (by rfl) (news2 w3 _ _ _) N2.out (by omega) H63.out HBY.out HSZ.out (w3.heap.size + 1) (by simp) ?_; intro gg capg w6 hown6 hgrow hat hlt6; have t0 : w6.heap[p]? = some (.cells (tokC v0 v1 v2 (.slice oa K.1.length oc) K.2 self v6 v7 v8) 25 (0, 0)) := (hgrow.block _ HLPA.out HNE.out).trans HKA.out; have y6 : w6.cell? ⟨p, 3, none⟩ = some (.slice oa K.1.length oc) := (by rw [Lib.cell_of_heap t0]; rfl); have z6 := Lib.frozen_of_heap t0 3)
              all_goals
                go_wp2_with fail
                go_roundw
                case rel =>
                  have hgb : (w3.alloc (.cells #[.string nb, .string vb] 83)).drew.heap.size = w3.heap.size + 1 := by show (w3.alloc (.cells #[.string nb, .string vb] 83)).heap.size = _; simp
                  have hgs : (w3.alloc (.cells #[.string nb, .string vb] 83)).drew.heap.size ≤ w6.heap.size := hgrow.size
                  refine ⟨J, n, acc ++ [(an, av)], self, D.put (.string an) (.lit (.int .i64 ((cn : Int) + 1))), some ⟨gg, 0, none⟩, capg, hJs, by go_num, HZ'.out, ?_, ?_, ?_, ?_, ?_, ?_, ?_, ?_⟩
                  · have := HF.out; show _ < _; omega
                  · rw [List.length_append]; simp; omega
                  · rw [HNEW.out]
                    simp only [List.length_append, List.length_cons, List.length_nil]
                    exact hset t0 3 _
                  · exact (map_setCell ((show ((w3.alloc (.cells #[.string nb, .string vb] 83)).drew).ownsMap Tryd.prog 9 (plainElem Tryd.prog 3) w.heap.size (k + 1) _ from hmap3.alloc _).kept hgrow (by intro e; have := HOB.out _ e.symm; omega)) 3 _ (by omega)).mono hkJ
                  · rw [HNEW.out]
                    refine SeenN.mono ?_ hkJ
                    refine HS.out.step HCN2.out hcn1 fun x => ?_
                    simp [hasA]
                  · rw [HNEW.out]
                    simp only []
                    rw [attC_snoc, List.length_append]
                    refine ownsRow_setCell_below ?_ (by show p < _; omega) _
                    rw [HNB.out, HVB.out]
                    exact hown6
                  · simp [World.setCell]; omega
                  · exact ((((HB3.out.alloc (by omega) (.cells #[.string nb, .string vb] 83)).drew).grown hgrow (by rw [hgb]; omega) (fun j hj => by have := HOB.out j hj; omega)).setCell (by exact Nat.le_refl _) _)
                case measure => simp [intOf]; omega
            · have hne : (((cn : Int) + 1) == 1) = false := by rw [beq_eq_false_iff_ne]; omega
              have hcn1' : (cn : Int) ≤ (k : Int) := by omega
              have hhas : hasA K.1 an = true := by
                cases h : hasA K.1 an with
                | true => rfl
                | false => exact absurd (HCN3.out.2 h) hc0
              have HOLD : Hid (keepL (acc ++ [(an, av)]) = (K.1, true)) := by
                show _ = _
                rw [← HK.out] at hhas ⊢
                exact keep_old (a := (an, av)) hhas
              have HHAS := Lib.hid hhas
              clear hc0 hhas
              go_upto_region 8 with (first
                | (at_lookup; refine wpList_lookup_own_int (H := Unit) _ rfl _ _ 127 rfl 9 3 .i64 lawStr Tryd.underlying127 Tryd.underlying3 (zeroI _) w.heap.size (k + 1) _ rfl hmap3 _ _ rfl hkey.out ?_; intro c hat hwc; obtain rfl : c = (cn : Int) + 1 := lit_int_inj (hat.symm.trans hat3.out); clear hat hwc)
                | (at_lookup; refine wpList_lookup_own_int (H := Unit) _ rfl _ _ 127 rfl 9 3 .i64 lawStr Tryd.underlying127 Tryd.underlying3 (zeroI _) w.heap.size k _ rfl hmap2 _ _ rfl hkey.out ?_; intro c hat hwc; obtain rfl : c = (cn : Int) := lit_int_inj (hat.symm.trans HCN2.out); clear hat hwc)
                | (at_mapUpdate; refine wpList_mapUpdate_own (H := Unit) _ rfl _ _ _ 127 rfl 9 3 lawStr Tryd.underlying127 _ w.heap.size k _ rfl hmap2 (by unfold maxLen; omega) _ _ _ rfl rfl hkey.out (.lit (.int .i64 ((cn : Int) + 1))) [] (plainElem_int Tryd.underlying3 (WalkArith.wf_i64 (by omega))) ?_; intro w3 hmap3 hg3; have kq3 := (hg3.block q hq2 hqm).trans KQ2.out; have e0 : w3.cell? ⟨q, 0, none⟩ = some (.string nb) := (by rw [Lib.cell_of_heap kq3]; rfl); have HKQ3 := Lib.hid kq3; clear kq3))
              have hown3 : w3.ownsRow (w.heap.size + 1) 83 2 (.slice oa K.1.length oc) K.1.length (attC K.1) := hown2.kept hg3 (by
                rcases hown2.2 with ⟨h0, _⟩ | ⟨g, cp, cur, h0, hg0, _⟩
                · rw [h0]; simp [Value.ownBlock]
                · rw [h0]; simp [Value.ownBlock]; omega)
              have HP3 : Hid (w3.heap[p]? = some (.cells (tokC v0 v1 v2 (.slice oa K.1.length oc) K.2 self v6 v7 v8) 25 (0, 0))) := (hg3.block p (by have := HB2.out.size; omega) (by intro e; injection e with e; omega)).trans HP2.out
              have hsz3 : q + 1 ≤ w3.heap.size := Nat.le_trans hq2 hg3.size
              have HB3 : Hid (Below p w w3) := (HB.out.trans (HB2.out.mono (by omega))).grown hg3 (by have := HB2.out.size; omega) (fun j hj => by cases hj; omega)
              have y4 : w3.cell? ⟨p, 4, none⟩ = some (.bool K.2) := by rw [Lib.cell_of_heap HP3.out]; rfl
              have z4 := Lib.frozen_of_heap HP3.out 4
              clear hne
              go_wp2_with fail
              go_roundw
              case rel =>
                refine ⟨J, n, acc ++ [(an, av)], self, D.put (.string an) (.lit (.int .i64 ((cn : Int) + 1))), oa, oc, hJs, by go_num, HZ'.out, ?_, ?_, ?_, ?_, ?_, ?_, ?_, ?_⟩
                · have := HF.out; show _ < _; omega
                · rw [List.length_append]; simp; omega
                · rw [HOLD.out]
                  exact hset HP3.out 4 _
                · exact (map_setCell hmap3 4 _ (by omega)).mono hkJ
                · rw [HOLD.out]
                  refine SeenN.mono ?_ hkJ
                  refine HS.out.step HCN2.out hcn1 fun x => ?_
                  by_cases e : an = x
                  · rw [← e]; simp [HHAS.out]
                  · rw [show (an == x) = false by rw [beq_eq_false_iff_ne]; exact e, Bool.or_false]
                · rw [HOLD.out]
                  exact ownsRow_setCell_below hown3 (by show p < _; omega) _
                · simp [World.setCell]; omega
                · exact HB3.out.setCell (by exact Nat.le_refl _) _
              case measure => simp [intOf]; omega
    · have hki : ¬ (k : Int) < s.size := by omega
      have hki2 : (s.size : Int) ≤ k := by omega
      have HZ' : Hid (none = Z) := by
        show _ = _
        rw [← HZ.out, List.drop_of_length_le (by rw [hsl.out]; omega)]
        cases fuel <;> rfl
      go_wp2_with fail
      go_ret
      refine ⟨⟨by rw [← HZ'.out]; rfl, ?_⟩, HB.out⟩
      refine ⟨(keepL acc).1, (keepL acc).2, self, _, HP.out, owns_mono hown (by omega), ?_⟩
      intro acc' b' j' h
      rw [← HZ'.out] at h
      cases h
end Go.Proofs.YtbpdmbmooboimaaDoor.T10
