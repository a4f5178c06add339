/- sources: isBase64, readName. sources: strings.CutPrefix, readName. sources: readName. sources: parseQuoted, at a keyword. -/
import Derived.Test.YteeplfbaflldaaaDoorErr5
import Derived.Test.YteeplfbaflldaaaDoorLists3
set_option linter.unusedVariables false
set_option linter.unusedSimpArgs false
namespace Go.Proofs.YteeplfbaflldaaaDoor.S25
open Go.RowKit Go.Extern.Stop Go.Stop Go.Extern T10

def unpad (l : List UInt8) : List UInt8 := Lib.trimSuffix (Lib.trimSuffix l [61]) [61]
def b64B (l : List UInt8) : Bool := wordB b64C (unpad l)
theorem trim_len (l d : List UInt8) : (Lib.trimSuffix l d).length ≤ l.length := by
  unfold Lib.trimSuffix
  split
  · simp
  · exact Nat.le_refl _
set_option maxHeartbeats 1600000 in
set_option maxRecDepth 100000 in
theorem isBase64_any (s : ByteArray) (w : World) (hs : s.size ≤ 1000000) :
    Calls Tryd.prog 67 #[.string s] w fun e w' => e = .returned (.bool (b64B s.data.toList)) ∧ w = w' := by
  obtain ⟨s1, h1⟩ : ∃ s1 : ByteArray, (⟨(Lib.trimSuffix s.data.toList [61]).toArray⟩ : ByteArray) = s1 := ⟨_, rfl⟩
  obtain ⟨s2, h2⟩ : ∃ s2 : ByteArray, (⟨(Lib.trimSuffix s1.data.toList [61]).toArray⟩ : ByteArray) = s2 := ⟨_, rfl⟩
  have e1 : s1.data.toList = Lib.trimSuffix s.data.toList [61] := by rw [← h1]
  have e2 : s2.data.toList = unpad s.data.toList := by rw [← h2]; unfold unpad; rw [← e1]
  have hn1 : s1.size ≤ s.size := by
    have a := trim_len s.data.toList [61]
    rw [← e1] at a
    simpa using a
  have hn2 : s2.size ≤ s.size := by
    have a := trim_len s1.data.toList [61]
    have b : s2.data.toList = Lib.trimSuffix s1.data.toList [61] := by rw [← h2]
    rw [← b] at a
    have a2 : s2.size ≤ s1.size := by simpa using a
    omega
  have t1 := Tryd.strings_TrimSuffix s ⟨#[61]⟩ w (by omega)
  have t2 := Tryd.strings_TrimSuffix s1 ⟨#[61]⟩ w (by omega)
  have hw := isWord_any ⟨#[43, 47, 45, 95]⟩ b64C stops_2 s2 w (by omega)
  rw [e2] at hw
  rw [show (⟨(Lib.trimSuffix s.data.toList (⟨#[61]⟩ : ByteArray).data.toList).toArray⟩ : ByteArray) = s1 from h1] at t1
  rw [show (⟨(Lib.trimSuffix s1.data.toList (⟨#[61]⟩ : ByteArray).data.toList).toArray⟩ : ByteArray) = s2 from h2] at t2
  have T1 := Lib.hid t1
  have T2 := Lib.hid t2
  have HW := Lib.hid hw
  clear h1 h2 e1 e2 t1 t2 hw
  unfold b64B
  go_enter Tryd.func67, Tryd.ntmps67
  go_wp2_with fail
  refine T1.out.mono ?_
  rintro e w' ⟨rfl, rfl⟩
  go_wp2_with fail
  refine T2.out.mono ?_
  rintro e w' ⟨rfl, rfl⟩
  go_wp2_with fail
  refine HW.out.mono ?_
  rintro e w' ⟨rfl, rfl⟩
  go_wp2_with fail
  go_ret
  exact ⟨rfl, rfl⟩
end Go.Proofs.YteeplfbaflldaaaDoor.S25
set_option linter.unusedVariables false
set_option linter.unusedSimpArgs false
namespace Go.Proofs.YteeplfbaflldaaaDoor.S25
open Go.RowKit Go.Extern.Stop Go.Stop Go.Extern T10

theorem hasPrefix_len {l p : List UInt8} (h : Lib.hasPrefix l p = true) : p.length ≤ l.length := by
  have h2 : p <+: l := by simpa [Lib.hasPrefix] using h
  exact h2.length_le
set_option maxHeartbeats 1600000 in
set_option maxRecDepth 100000 in
theorem slcutPrefix_any (s p : ByteArray) (w : World) (hs : s.size ≤ 1000000) (hp : p.size ≤ 1000000) :
    Calls Tryd.prog 112 #[.string s, .string p] w fun e w' => e = .returned (match Lib.hasPrefix s.data.toList p.data.toList with | true => .tuple #[.string (s.extract p.size s.size), .bool true] | false => .tuple #[.string s, .bool false]) ∧ w' = w := by
  have HP := Lib.hid (Tryd.stringslite_HasPrefix s p w)
  cases h : Lib.hasPrefix s.data.toList p.data.toList with
  | true =>
    rw [h] at HP
    have hl : p.size ≤ s.size := by
      have := hasPrefix_len h
      simpa using this
    clear h
    go_enter Tryd.func112, Tryd.ntmps112
    go_wp2_with (go_at_call 121; refine HP.out.mono ?_; rintro e w' ⟨rfl, rfl⟩)
    go_ret2
    exact ⟨by exact rfl, rfl⟩
  | false =>
    rw [h] at HP
    clear h
    go_enter Tryd.func112, Tryd.ntmps112
    go_wp2_with (go_at_call 121; refine HP.out.mono ?_; rintro e w' ⟨rfl, rfl⟩)
    go_ret2
    exact ⟨by exact rfl, rfl⟩
set_option maxHeartbeats 1600000 in
set_option maxRecDepth 100000 in
theorem cutPrefix_any (s p : ByteArray) (w : World) (hs : s.size ≤ 1000000) (hp : p.size ≤ 1000000) :
    Calls Tryd.prog 95 #[.string s, .string p] w fun e w' => e = .returned (match Lib.hasPrefix s.data.toList p.data.toList with | true => .tuple #[.string (s.extract p.size s.size), .bool true] | false => .tuple #[.string s, .bool false]) ∧ w' = w := by
  have HP := Lib.hid (slcutPrefix_any s p w hs hp)
  cases h : Lib.hasPrefix s.data.toList p.data.toList with
  | true =>
    rw [h] at HP
    clear h
    go_enter Tryd.func95, Tryd.ntmps95
    go_wp2_with (go_at_call 112; refine HP.out.mono ?_; rintro e w' ⟨rfl, rfl⟩)
    go_ret2
    exact ⟨by exact rfl, rfl⟩
  | false =>
    rw [h] at HP
    clear h
    go_enter Tryd.func95, Tryd.ntmps95
    go_wp2_with (go_at_call 112; refine HP.out.mono ?_; rintro e w' ⟨rfl, rfl⟩)
    go_ret2
    exact ⟨by exact rfl, rfl⟩
end Go.Proofs.YteeplfbaflldaaaDoor.S25
set_option linter.unusedVariables false
set_option linter.unusedSimpArgs false
namespace Go.Proofs.YteeplfbaflldaaaDoor.S25
open Go.RowKit Go.Extern.Stop Go.Stop Go.Extern T10

theorem split_facts (s : ByteArray) (d : UInt8) : ∃ ps : List ByteArray, Lib.splitB ⟨#[d]⟩ 0 (Lib.countB s ⟨#[d]⟩) s = ps ∧ Lib.countB s ⟨#[d]⟩ + 1 = ps.length ∧ ps.map (·.data.toList) = spl d s.data.toList := by
  refine ⟨_, rfl, ?_, ?_⟩
  · have h1 := Lib.splitB_data ⟨#[d]⟩ 0 (Lib.countB s ⟨#[d]⟩) s
    have h2 := split_spl d _ s.data.toList (Nat.le_refl _)
    have h3 := congrArg List.length h1
    rw [List.length_map] at h3
    rw [h3]
    have e : Lib.splitK [d] 0 (Lib.countB s ⟨#[d]⟩) s.data.toList = spl d s.data.toList := h2.1
    show _ = (Lib.splitK [d] 0 (Lib.countB s ⟨#[d]⟩) s.data.toList).length
    rw [e]
    exact h2.2
  · rw [Lib.splitB_data]
    exact (split_spl d _ s.data.toList (Nat.le_refl _)).1
theorem spl_size {d : UInt8} : ∀ {l : List UInt8} {p : List UInt8}, p ∈ spl d l → p.length ≤ l.length := by
  intro l
  induction l with
  | nil => intro p hp; simp [spl] at hp; subst hp; exact Nat.le_refl _
  | cons x r ih =>
    intro p hp
    rw [spl_cons] at hp
    split at hp
    · rcases List.mem_cons.1 hp with rfl | hp
      · exact Nat.zero_le _
      · have := ih hp; simp; omega
    · cases hs : spl d r with
      | nil => exact absurd hs (spl_ne d r)
      | cons q qs =>
        rw [hs] at hp ih
        rcases List.mem_cons.1 hp with rfl | hp
        · have := ih (p := q) List.mem_cons_self; simp; omega
        · have := ih (p := p) (List.mem_cons_of_mem _ hp); simp; omega
def dashC (c : UInt8) : Bool := c == 45
/-- A host's labels: each letters, digits and dashes, one at least. -/
def labB (l : List UInt8) : Bool := (spl 46 l).all (wordB dashC)
/-- What stands behind the wildcard's two bytes. -/
def nameV (Z wild : Bool) (low s : ByteArray) : Value := match Z with
  | true => .tuple #[.string low, .bool wild, .nilIface]
  | false => .tuple #[.string ⟨#[]⟩, .bool false, faultV ⟨#[104, 111, 115, 116]⟩ s]
def restB (s : ByteArray) : ByteArray := match Lib.hasPrefix s.data.toList [42, 46] with
  | true => s.extract 2 s.size
  | false => s
theorem readName_star (w : World) :
    Calls Tryd.prog 72 #[.string ⟨#[42]⟩] w fun e w' => e = .returned (.tuple #[.string ⟨#[]⟩, .bool true, .nilIface]) ∧ w' = w := by
  go_enter Tryd.func72, Tryd.ntmps72
  go_wp2
  go_ret3
  exact ⟨by exact rfl, rfl⟩
set_option maxHeartbeats 600000 in
set_option maxRecDepth 100000 in
theorem readName_any (s : ByteArray) (m : Int) (w : World) (hs : s.size ≤ 1000000) (hne : s.data.toList ≠ [42]) (hm : w.cell? ⟨2, 0, none⟩ = some (.int .i64 m)) :
    Calls Tryd.prog 72 #[.string s] w fun e w' => e = .returned (nameV (labB (restB s).data.toList) (Lib.hasPrefix s.data.toList [42, 46]) ⟨(lowL (restB s).data.toList).toArray⟩ s) ∧ Below w.heap.size w w' := by
  have t1 : (s.toList == [42]) = false := by rw [ByteArray.toList_eq, beq_eq_false_iff_ne]; exact hne
  obtain ⟨q, hq⟩ : ∃ q, restB s = q := ⟨_, rfl⟩
  obtain ⟨wild, hwd⟩ : ∃ wild, Lib.hasPrefix s.data.toList [42, 46] = wild := ⟨_, rfl⟩
  have hqs : q.size ≤ s.size := by
    rw [← hq]
    unfold restB
    split
    · simp
    · exact Nat.le_refl _
  have hcp : Calls Tryd.prog 95 #[.string s, .string ⟨#[42, 46]⟩] w fun e w' => e = .returned (.tuple #[.string q, .bool wild]) ∧ w' = w := by
    refine (cutPrefix_any s ⟨#[42, 46]⟩ w hs (by decide)).mono ?_
    rintro e w' ⟨rfl, rfl⟩
    refine ⟨?_, rfl⟩
    rw [← hq, ← hwd]
    unfold restB
    cases hb : Lib.hasPrefix s.data.toList [42, 46] with
    | true => rfl
    | false => rfl
  rw [hq, hwd]
  have HCP := Lib.hid hcp
  obtain ⟨ps, h1, h2, h3⟩ := split_facts q 46
  have hc := Tryd.strings_Split q ⟨#[46]⟩ m w (by omega) hm (by decide)
  rw [h1, h2] at hc
  have HC := Lib.hid hc
  have hN : ps.length ≤ q.size + 1 := by
    have h4 := congrArg List.length h3
    rw [List.length_map] at h4
    rw [h4]
    simpa using spl_len 46 q.data.toList
  have HL : Hid (labB q.data.toList = ps.all (fun p => wordB dashC p.data.toList)) := by
    show labB q.data.toList = _
    unfold labB
    rw [← h3, List.all_map]
    rfl
  have HSZ : Hid (∀ t ∈ ps, t.size ≤ q.size) := by
    intro t ht
    have : t.data.toList ∈ spl 46 q.data.toList := by rw [← h3]; exact List.mem_map.2 ⟨t, ht, rfl⟩
    simpa using spl_size this
  obtain ⟨Z, hZ⟩ : ∃ Z, labB q.data.toList = Z := ⟨_, rfl⟩
  rw [hZ] at HL ⊢
  obtain ⟨low, hlow⟩ : ∃ low : ByteArray, (⟨(lowL q.data.toList).toArray⟩ : ByteArray) = low := ⟨_, rfl⟩
  rw [hlow]
  have HLO := Lib.hid hlow
  obtain ⟨W1, hW1⟩ : ∃ W1, W1 = w.alloc (.cells (ps.map Value.string).toArray 9) := ⟨_, rfl⟩
  have B1 : Below w.heap.size w W1 := by rw [hW1]; exact (Below.refl _ w).alloc (Nat.le_refl _) _
  have HB1 := Lib.hid B1
  have CP : Hid (∀ k t, ps[k]? = some t → W1.cell? ⟨w.heap.size, k, none⟩ = some (.string t)) := by
    intro k t ht
    have kb : W1.heap[w.heap.size]? = some (.cells (ps.map Value.string).toArray 9 (0, 0)) := by rw [hW1]; exact heap_alloc_new w _
    rw [Lib.cell_of_heap kb]
    simp [ht]
  have HW1 := Lib.hid hW1
  clear h1 h2 h3 hc hcp hq hwd hZ hlow hW1 B1 hm hne
  go_enter Tryd.func72, Tryd.ntmps72
  go_wp2_with (first | (go_at_call 95; refine HCP.out.mono ?_; rintro e w' ⟨rfl, rfl⟩) | (go_at_call 96; refine HC.out.mono ?_; rintro e w' ⟨rfl, rfl⟩))
  rw [← HW1.out]
  go_loop [2, 3, 17] (fun a b i => ∃ k : Nat, k ≤ ps.length ∧ a = .string q ∧ b = .bool wild ∧ i = .int .i64 k ∧ Hid ((ps.take k).all (fun p => wordB dashC p.data.toList) = true)) (fun _ _ i => ps.length - (intOf i).toNat)
  case atStart => exact ⟨0, Nat.zero_le _, rfl, rfl, rfl, rfl⟩
  case round =>
    obtain ⟨k, hk, rfl, rfl, rfl, HK⟩ := hrel
    by_cases hlt : k < ps.length
    · have hki : (k : Int) < ps.length := by omega
      obtain ⟨t, ht⟩ : ∃ t, ps[k] = t := ⟨_, rfl⟩
      have HT : Hid (ps[k]? = some t) := by show _ = _; rw [← ht]; exact List.getElem?_eq_getElem hlt
      clear ht
      have q0 := CP.out k t HT.out
      have hts := HSZ.out t (List.mem_of_getElem? HT.out)
      have HW := Lib.hid (isWord_any ⟨#[45]⟩ dashC stops_3 t W1 (by omega))
      cases hv : wordB dashC t.data.toList with
      | true =>
        rw [hv] at HW
        have HN : Hid ((ps.take (k + 1)).all (fun p => wordB dashC p.data.toList) = true) := by
          show _ = _
          rw [List.take_add_one, HT.out, List.all_append, HK.out]
          simp [hv]
        clear hv
        go_wp2_with (go_at_call 69; refine HW.out.mono ?_; rintro e w' ⟨rfl, rfl⟩)
        go_round
        case rel => exact ⟨k + 1, by omega, rfl, rfl, by go_num, HN.out⟩
        case measure => simp [intOf]; omega
      | false =>
        rw [hv] at HW
        have HN : Hid (Z = false) := by
          show _ = _
          rw [HL.out, List.all_eq_false]
          exact ⟨t, List.mem_of_getElem? HT.out, by rw [hv]; simp⟩
        clear hv
        go_wp2_with (go_at_call 69; refine HW.out.mono ?_; rintro e w' ⟨rfl, rfl⟩)
        go_ret3
        exact ⟨by rw [HN.out]; exact rfl, HB1.out⟩
    · have hkk : k = ps.length := by omega
      have HN : Hid (Z = true) := by
        show _ = _
        rw [HL.out, ← HK.out, hkk, List.take_length]
      have HLW := Lib.hid (lower_any q W1 (by omega))
      rw [HLO.out] at HLW
      go_wp2_with fail
      refine HLW.out.mono ?_
      rintro e w2 ⟨rfl, b2⟩
      go_wp2_with fail
      go_ret3
      exact ⟨by rw [HN.out]; exact rfl, HB1.out.trans (b2.mono HB1.out.size)⟩
end Go.Proofs.YteeplfbaflldaaaDoor.S25
set_option linter.unusedVariables false
set_option linter.unusedSimpArgs false
namespace Go.Proofs.YteeplfbaflldaaaDoor.S25
open Go.RowKit Go.Extern.Stop Go.Stop Go.Extern T10

theorem results_cell_tmp {fn : Func} {p u : Tmp} {ty : TypeId} (h : fn.results = #[.cell p ty, .tmp u]) (tmps : Array Value) (P : Program) (w : World) :
    (results fn tmps).run P w =
      ((asAddr (tmps.getD p undef)).run P w).andThen fun a w₁ => ((loadVar ty a).run P w₁).andThen fun x w₂ => .ok (.tuple #[x, tmps.getD u undef]) w₂ := by
  simp only [results, h]
  simp [Sem.run_bind, Result.andThen]
theorem eight {w : World} {p : Nat} {t : TypeId} {a b c d e f g h : Value} (k : w.heap[p]? = some (.cells #[a, b, c, d, e, f, g, h] t (0, 0))) :
    (w.cell? ⟨p, 0, none⟩ = some a ∧ w.cell? ⟨p, 1, none⟩ = some b ∧ w.cell? ⟨p, 2, none⟩ = some c ∧ w.cell? ⟨p, 3, none⟩ = some d ∧ w.cell? ⟨p, 4, none⟩ = some e ∧ w.cell? ⟨p, 5, none⟩ = some f ∧ w.cell? ⟨p, 6, none⟩ = some g ∧ w.cell? ⟨p, 7, none⟩ = some h) ∧
    (w.frozen? ⟨p, 0, none⟩ = false ∧ w.frozen? ⟨p, 1, none⟩ = false ∧ w.frozen? ⟨p, 2, none⟩ = false ∧ w.frozen? ⟨p, 3, none⟩ = false ∧ w.frozen? ⟨p, 4, none⟩ = false ∧ w.frozen? ⟨p, 5, none⟩ = false ∧ w.frozen? ⟨p, 6, none⟩ = false ∧ w.frozen? ⟨p, 7, none⟩ = false) := by
  refine ⟨⟨?_, ?_, ?_, ?_, ?_, ?_, ?_, ?_⟩, Lib.frozen_of_heap k 0, Lib.frozen_of_heap k 1, Lib.frozen_of_heap k 2, Lib.frozen_of_heap k 3, Lib.frozen_of_heap k 4, Lib.frozen_of_heap k 5, Lib.frozen_of_heap k 6, Lib.frozen_of_heap k 7⟩
  all_goals rw [Lib.cell_of_heap k]; rfl
/-- What eight stores into a block leave of another world. -/
theorem below_set8 {w w' : World} {p : Nat} (h : Below p w w') (a b c d e f g i : Value) : Below p w ((((((((w'.setCell ⟨p, 0, none⟩ a).setCell ⟨p, 1, none⟩ b).setCell ⟨p, 2, none⟩ c).setCell ⟨p, 3, none⟩ d).setCell ⟨p, 4, none⟩ e).setCell ⟨p, 5, none⟩ f).setCell ⟨p, 6, none⟩ g).setCell ⟨p, 7, none⟩ i) :=
  ((((((((h.setCell (by exact Nat.le_refl _) _).setCell (by exact Nat.le_refl _) _).setCell (by exact Nat.le_refl _) _).setCell (by exact Nat.le_refl _) _).setCell (by exact Nat.le_refl _) _).setCell (by exact Nat.le_refl _) _).setCell (by exact Nat.le_refl _) _).setCell (by exact Nat.le_refl _) _)
def srcV (kind : Int) (text : ByteArray) (bits : Int) (scheme host : ByteArray) (wild : Bool) (port : Int) (path : ByteArray) : Value :=
  .agg #[.int .i64 kind, .string text, .int .i64 bits, .string scheme, .string host, .bool wild, .int .i64 port, .string path]
def kws : List ByteArray := [⟨#[115, 101, 108, 102]⟩, ⟨#[117, 110, 115, 97, 102, 101, 45, 105, 110, 108, 105, 110, 101]⟩, ⟨#[117, 110, 115, 97, 102, 101, 45, 101, 118, 97, 108]⟩, ⟨#[115, 116, 114, 105, 99, 116, 45, 100, 121, 110, 97, 109, 105, 99]⟩, ⟨#[117, 110, 115, 97, 102, 101, 45, 104, 97, 115, 104, 101, 115]⟩, ⟨#[114, 101, 112, 111, 114, 116, 45, 115, 97, 109, 112, 108, 101]⟩, ⟨#[119, 97, 115, 109, 45, 117, 110, 115, 97, 102, 101, 45, 101, 118, 97, 108]⟩, ⟨#[117, 110, 115, 97, 102, 101, 45, 97, 108, 108, 111, 119, 45, 114, 101, 100, 105, 114, 101, 99, 116, 115]⟩]
set_option maxHeartbeats 3200000 in
set_option maxRecDepth 100000 in
theorem quoted_word (s kw : ByteArray) (w : World) (hs : s.size ≤ 1000000) (hk : kw ∈ kws) (hl : lowL s.data.toList = kw.data.toList) :
    Calls Tryd.prog 50 #[.string s] w fun e w' => e = .returned (.tuple #[srcV 1 kw 0 ⟨#[]⟩ ⟨#[]⟩ false (-1) ⟨#[]⟩, .nilIface]) ∧ Below w.heap.size w w' := by
  obtain ⟨W1, hW1⟩ : ∃ W1, W1 = w.alloc (.cells #[.int .i64 0, .string ⟨#[]⟩, .int .i64 0, .string ⟨#[]⟩, .string ⟨#[]⟩, .bool false, .int .i64 0, .string ⟨#[]⟩] 41) := ⟨_, rfl⟩
  have B1 : Below w.heap.size w W1 := by rw [hW1]; exact (Below.refl _ w).alloc (Nat.le_refl _) _
  have k0 : W1.heap[w.heap.size]? = some (.cells #[.int .i64 0, .string ⟨#[]⟩, .int .i64 0, .string ⟨#[]⟩, .string ⟨#[]⟩, .bool false, .int .i64 0, .string ⟨#[]⟩] 41 (0, 0)) := by rw [hW1]; exact heap_alloc_new w _
  have hlt1 : w.heap.size < W1.heap.size := by rw [hW1]; simp
  have hlo := lower_any s W1 (by omega)
  rw [hl, show (⟨kw.data.toList.toArray⟩ : ByteArray) = kw by simp] at hlo
  have HLO := Lib.hid hlo
  have HB1 := Lib.hid B1
  have HW := Lib.hid hW1
  have HK0 := Lib.hid k0
  clear hW1 k0 hlo hl B1
  simp only [kws, List.mem_cons, List.not_mem_nil, or_false] at hk
  go_enter Tryd.func50, Tryd.ntmps50
  go_upto_region 1 with fail
  rw [← HW.out]
  go_wp2_with fail
  refine HLO.out.mono ?_
  rintro e w2 ⟨rfl, b2⟩
  have k2 := (b2.block _ hlt1).trans HK0.out
  obtain ⟨⟨c0, c1, c2, c3, c4, c5, c6, c7⟩, f0, f1, f2, f3, f4, f5, f6, f7⟩ := eight k2
  have HB2 := Lib.hid (HB1.out.trans (b2.mono HB1.out.size))
  clear b2 k2
  obtain ⟨V, hV⟩ : ∃ V, srcV 1 kw 0 ⟨#[]⟩ ⟨#[]⟩ false (-1) ⟨#[]⟩ = V := ⟨_, rfl⟩
  have HV := Lib.hid hV
  clear hV
  rcases hk with rfl | rfl | rfl | rfl | rfl | rfl | rfl | rfl
  all_goals
    go_wp2_with fail
    refine bodyPost_ret (v := .tuple #[V, .nilIface]) ?_ rfl ?_
    · rw [results_cell_tmp rfl]
      rw [← HV.out]
      go_simp
      rfl
    · exact ⟨by rw [HV.out], below_set8 HB2.out _ _ _ _ _ _ _ _⟩
end Go.Proofs.YteeplfbaflldaaaDoor.S25
