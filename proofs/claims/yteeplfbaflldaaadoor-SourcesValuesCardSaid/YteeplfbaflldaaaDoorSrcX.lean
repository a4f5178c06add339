/- sources.Text, at any source. sources: how long what is read, and written, is. -/
import Derived.Test.YteeplfbaflldaaaDoorSrcT
set_option linter.unusedVariables false
set_option linter.unusedSimpArgs false
namespace Go.Proofs.YteeplfbaflldaaaDoor.S25
open Go.RowKit Go.Extern.Stop Go.Stop Go.Extern T10

theorem ba_app (a b : List UInt8) : ba a ++ ba b = ba (a ++ b) := by
  apply ByteArray.ext
  show (ba a ++ ba b).data = _
  rw [ByteArray.data_append]
  unfold ba
  simp
theorem hostB_ba (ho : List UInt8) (wi : Bool) : hostB (ba ho) wi = ba (nameT ho wi) := by
  unfold hostB nameT
  cases wi with
  | false => rfl
  | true =>
    cases ho with
    | nil => rfl
    | cons c r =>
      rw [if_pos rfl, if_neg (by simp)]
      exact ba_app [42, 46] (c :: r)
theorem schemeB_ba (sc t : List UInt8) : schemeB (ba sc) (ba t) = ba ((if sc = [] then [] else sc ++ [58, 47, 47]) ++ t) := by
  unfold schemeB
  cases sc with
  | nil => rfl
  | cons c r =>
    rw [if_neg (by simp)]
    show ba (c :: r) ++ ba [58, 47, 47] ++ ba t = _
    rw [ba_app, ba_app]
/-- A source's numbers are numbers, its texts no longer than may be. -/
def SrcOk (x : SrcL) : Prop := x.text.length ≤ 1000000 ∧ x.scheme.length ≤ 1000000 ∧ x.host.length ≤ 1000000 ∧ x.path.length ≤ 1000000 ∧ -9223372036854775808 ≤ x.port ∧ x.port ≤ 9223372036854775807 ∧ -9223372036854775808 ≤ x.bits ∧ x.bits ≤ 9223372036854775807
theorem hostText_any (x : SrcL) (w : World) (hT : PTab w) (hx : SrcOk x) :
    Calls Tryd.prog 36 #[srcW x] w fun e w' => e = .returned (.string (ba (hostT x))) ∧ Below w.heap.size w w' := by
  obtain ⟨h1, h2, h3, h4, h5, h6, h7, h8⟩ := hx
  have z2 : (ba x.scheme).size ≤ 1000000 := by rw [ba_size]; exact h2
  have z3 : (ba x.host).size ≤ 1000000 := by rw [ba_size]; exact h3
  have z4 : (ba x.path).size ≤ 1000000 := by rw [ba_size]; exact h4
  rw [hostT_eq]
  unfold srcW
  by_cases hp : x.port = -2
  · have := hostText_star x.kind x.bits (ba x.text) (ba x.scheme) (ba x.host) (ba x.path) x.wild w z2 z3 z4
    rw [hp]
    refine this.mono ?_
    rintro e w' ⟨rfl, hb⟩
    refine ⟨?_, hb⟩
    rw [hostB_ba, schemeB_ba]
    show Ending.returned (.string (_ ++ ba [58, 42] ++ _)) = _
    rw [ba_app, ba_app]
    rfl
  · by_cases hn : x.port < 0
    · refine (hostText_neg x.kind x.bits x.port (ba x.text) (ba x.scheme) (ba x.host) (ba x.path) x.wild w z2 z3 z4 hp hn).mono ?_
      rintro e w' ⟨rfl, hb⟩
      refine ⟨?_, hb⟩
      rw [hostB_ba, schemeB_ba, ba_app]
      have e : portT x.port = [] := by unfold portT; rw [if_neg hp, if_neg (by omega)]
      rw [e, List.append_nil]
    · refine (hostText_num x.kind x.bits x.port (ba x.text) (ba x.scheme) (ba x.host) (ba x.path) x.wild w hT z2 z3 z4 (by omega) h6).mono ?_
      rintro e w' ⟨rfl, hb⟩
      refine ⟨?_, hb⟩
      rw [hostB_ba, schemeB_ba]
      show Ending.returned (.string (_ ++ (ba [58] ++ _) ++ _)) = _
      rw [ba_app, ba_app, ba_app]
      have e : portT x.port = [58] ++ Lib.itoa x.port := by unfold portT; rw [if_neg hp, if_pos (by omega)]; rfl
      rw [e]
set_option maxHeartbeats 3200000 in
set_option maxRecDepth 100000 in
theorem Text_any (x : SrcL) (w : World) (hT : PTab w) (hx : SrcOk x) :
    Calls Tryd.prog 19 #[srcW x] w fun e w' => e = .returned (.string (ba (textS x))) ∧ Below w.heap.size w w' := by
  obtain ⟨W1, hW1⟩ : ∃ W1, W1 = w.alloc (.cells #[.int .i64 x.kind, .string (ba x.text), .int .i64 x.bits, .string (ba x.scheme), .string (ba x.host), .bool x.wild, .int .i64 x.port, .string (ba x.path)] 41) := ⟨_, rfl⟩
  have B1 : Below w.heap.size w W1 := by rw [hW1]; exact (Below.refl _ w).alloc (Nat.le_refl _) _
  have k0 : W1.heap[w.heap.size]? = some (.cells #[.int .i64 x.kind, .string (ba x.text), .int .i64 x.bits, .string (ba x.scheme), .string (ba x.host), .bool x.wild, .int .i64 x.port, .string (ba x.path)] 41 (0, 0)) := by rw [hW1]; exact heap_alloc_new w _
  have hlt1 : w.heap.size < W1.heap.size := by rw [hW1]; simp
  have T1 := hT.far B1 (Nat.le_refl _)
  have hho := hostText_any x W1 T1 hx
  unfold srcW srcV at hho
  obtain ⟨q1, q2, q3, q4, q5, q6, q7, q8⟩ := hx
  have hit : Hid (∀ W, Below W1.heap.size W1 W → Calls Tryd.prog 22 #[.int .i64 x.bits] W fun e w' => e = .returned (.string (ba (Lib.itoa x.bits))) ∧ Below W.heap.size W w') := fun W hB => itoa_any x.bits q7 q8 W (T1.far hB (Nat.le_refl _))
  have HI : Hid (ba (Lib.itoa x.bits) = ba (Lib.itoa x.bits)) := rfl
  have HHO := Lib.hid hho
  have HB1 := Lib.hid B1
  have HK0 := Lib.hid k0
  have HW := Lib.hid hW1
  obtain ⟨⟨c0, c1, c2, c3, c4, c5, c6, c7⟩, f0, f1, f2, f3, f4, f5, f6, f7⟩ := eight k0
  have hil : (ba (Lib.itoa x.bits)).size ≤ 21 := by rw [ba_size]; exact Lib.itoa_length_le x.bits q7 q8
  obtain ⟨IT, hIT⟩ : ∃ IT, ba (Lib.itoa x.bits) = IT := ⟨_, rfl⟩
  rw [hIT] at hit hil
  have HIT := Lib.hid hIT
  have z1 : (ba x.text).size ≤ 1000000 := by rw [ba_size]; exact q1
  have z2 : (ba x.scheme).size ≤ 1000000 := by rw [ba_size]; exact q2
  clear hIT B1 k0 hW1 hT T1 hho HI q1 q2 q3 q4 q5 q6 q7 q8
  by_cases k1 : x.kind = 1
  · have t1 : (x.kind == 1) = true := by rw [beq_iff_eq]; exact k1
    have HE : Hid (ba (textS x) = ⟨#[39]⟩ ++ ba x.text ++ ⟨#[39]⟩) := by
      show _ = ba [39] ++ ba x.text ++ ba [39]
      rw [ba_app, ba_app]; unfold textS; rw [if_pos k1]
    rw [HE.out]
    clear k1
    unfold srcW srcV
    go_enter Tryd.func19, Tryd.ntmps19
    go_upto_region 1 with fail
    rw [← HW.out]
    go_wp2_with fail
    go_ret
    exact ⟨rfl, HB1.out⟩
  · have t1 : (x.kind == 1) = false := by rw [beq_eq_false_iff_ne]; exact k1
    by_cases k4 : x.kind = 4
    · have t4 : (x.kind == 4) = true := by rw [beq_iff_eq]; exact k4
      have HE : Hid (ba (textS x) = ⟨#[39, 110, 111, 110, 99, 101, 45]⟩ ++ ba x.text ++ ⟨#[39]⟩) := by
        show _ = ba [39, 110, 111, 110, 99, 101, 45] ++ ba x.text ++ ba [39]
        rw [ba_app, ba_app]; unfold textS; rw [if_neg k1, if_pos k4]
      rw [HE.out]
      clear k1 k4
      unfold srcW srcV
      go_enter Tryd.func19, Tryd.ntmps19
      go_upto_region 1 with fail
      rw [← HW.out]
      go_wp2_with fail
      go_ret
      exact ⟨rfl, HB1.out⟩
    · have t4 : (x.kind == 4) = false := by rw [beq_eq_false_iff_ne]; exact k4
      by_cases k5 : x.kind = 5
      · have t5 : (x.kind == 5) = true := by rw [beq_iff_eq]; exact k5
        have HE : Hid (ba (textS x) = ⟨#[39, 115, 104, 97]⟩ ++ IT ++ ⟨#[45]⟩ ++ ba x.text ++ ⟨#[39]⟩) := by
          show _ = ba [39, 115, 104, 97] ++ IT ++ ba [45] ++ ba x.text ++ ba [39]
          rw [← HIT.out, ba_app, ba_app, ba_app, ba_app]; unfold textS; rw [if_neg k1, if_neg k4, if_pos k5]
        rw [HE.out]
        clear k1 k4 k5
        unfold srcW srcV
        go_enter Tryd.func19, Tryd.ntmps19
        go_upto_region 1 with fail
        rw [← HW.out]
        go_upto_region 7 with fail
        have HD : Hid (Below W1.heap.size W1 W1.drew) := (Below.refl _ W1).drew
        go_region_with (go_at_call 22; refine (hit.out _ ?hA).mono ?_; (case hA => first | exact Below.refl _ _ | exact HD.out | exact HD.out.drew); rintro e w2 ⟨rfl, b2⟩; have HB2 := Lib.hid (show Below W1.heap.size W1 w2 from (by first | exact b2 | exact HD.out.trans b2 | exact HD.out.drew.trans b2)); clear b2; obtain ⟨⟨d0, d1, d2, d3, d4, d5, d6, d7⟩, g0, g1, g2, g3, g4, g5, g6, g7⟩ := eight ((HB2.out.block _ hlt1).trans HK0.out))
        all_goals
          go_wp2_with fail
          go_ret
          exact ⟨rfl, HB1.out.trans (HB2.out.mono (Nat.le_of_lt hlt1))⟩
      · have t5 : (x.kind == 5) = false := by rw [beq_eq_false_iff_ne]; exact k5
        by_cases k2 : x.kind = 2
        · have t2 : (x.kind == 2) = true := by rw [beq_iff_eq]; exact k2
          have HE : Hid (ba (textS x) = ba x.scheme ++ ⟨#[58]⟩) := by
            show _ = ba x.scheme ++ ba [58]
            rw [ba_app]; unfold textS; rw [if_neg k1, if_neg k4, if_neg k5, if_pos k2]
          rw [HE.out]
          clear k1 k4 k5 k2
          unfold srcW srcV
          go_enter Tryd.func19, Tryd.ntmps19
          go_upto_region 1 with fail
          rw [← HW.out]
          go_wp2_with fail
          go_ret
          exact ⟨rfl, HB1.out⟩
        · have t2 : (x.kind == 2) = false := by rw [beq_eq_false_iff_ne]; exact k2
          by_cases k3 : x.kind = 3
          · have t3 : (x.kind == 3) = true := by rw [beq_iff_eq]; exact k3
            have HE : Hid (ba (textS x) = ba (hostT x)) := by
              show _ = _
              unfold textS; rw [if_neg k1, if_neg k4, if_neg k5, if_neg k2, if_pos k3]
            rw [HE.out]
            obtain ⟨HT, hHT⟩ : ∃ HT, ba (hostT x) = HT := ⟨_, rfl⟩
            rw [hHT] at HHO ⊢
            clear k1 k4 k5 k2 k3 hHT
            unfold srcW srcV
            go_enter Tryd.func19, Tryd.ntmps19
            go_upto_region 1 with fail
            rw [← HW.out]
            go_wp2_with (go_at_call 36; refine HHO.out.mono ?_; rintro e w2 ⟨rfl, b2⟩; have HB2 := Lib.hid (HB1.out.trans (b2.mono (Nat.le_of_lt hlt1))); clear b2)
            go_ret
            exact ⟨rfl, HB2.out⟩
          · have t3 : (x.kind == 3) = false := by rw [beq_eq_false_iff_ne]; exact k3
            have HE : Hid (ba (textS x) = ⟨#[]⟩) := by
              show _ = _
              unfold textS; rw [if_neg k1, if_neg k4, if_neg k5, if_neg k2, if_neg k3]; rfl
            rw [HE.out]
            clear k1 k4 k5 k2 k3
            unfold srcW srcV
            go_enter Tryd.func19, Tryd.ntmps19
            go_upto_region 1 with fail
            rw [← HW.out]
            go_wp2_with fail
            go_ret
            exact ⟨rfl, HB1.out⟩
end Go.Proofs.YteeplfbaflldaaaDoor.S25
set_option linter.unusedVariables false
set_option linter.unusedSimpArgs false
namespace Go.Proofs.YteeplfbaflldaaaDoor.S25
open Go.RowKit Go.Extern.Stop Go.Stop Go.Extern T10

theorem nameL_len {N ho : List UInt8} {wi : Bool} (h : nameL N = some (ho, wi)) : ho.length ≤ N.length := by
  unfold nameL at h
  split at h
  · injection h with h
    injection h with h1 h2
    rw [← h1]; simp
  · split at h
    · injection h with h
      injection h with h1 h2
      rw [← h1, lowL_len]
      unfold restL
      split
      · rw [List.length_drop]; omega
      · omega
    · cases h
theorem headL_len (l : List UInt8) : (headL l).length ≤ l.length := by
  unfold headL
  split
  · rw [List.length_take]; omega
  · omega
theorem pathL_len (l : List UInt8) : (pathL l).length ≤ l.length := by
  unfold pathL
  split
  · rw [List.length_drop]; omega
  · simp
theorem behL_len (l : List UInt8) : (behL l).length ≤ l.length := by
  unfold behL
  split
  · exact (cut_sizes l _).2
  · omega
theorem schL_len {l sc : List UInt8} (h : schL l = some sc) : sc.length ≤ l.length := by
  unfold schL at h
  split at h
  · split at h
    · injection h with h
      rw [← h, lowL_len]
      exact (cut_sizes l _).1
    · cases h
  · injection h with h
    rw [← h]; simp
theorem tailL_len {sc r : List UInt8} {x : SrcL} (h : tailL sc r = some x) : x.scheme = sc ∧ x.host.length ≤ r.length ∧ x.path.length ≤ r.length := by
  unfold tailL at h
  split at h
  · rename_i ho wi po h1 h2
    split at h
    · injection h with h
      subst h
      refine ⟨rfl, ?_, pathL_len r⟩
      have := nameL_len h1
      have h3 := (cut_sizes (headL r) [58]).1
      have h4 := headL_len r
      show ho.length ≤ _
      omega
    · cases h
  · cases h
theorem hostL_len {l : List UInt8} {x : SrcL} (h : hostL l = some x) : x.scheme.length ≤ l.length ∧ x.host.length ≤ l.length ∧ x.path.length ≤ l.length := by
  unfold hostL at h
  cases hs : schL l with
  | none => rw [hs] at h; cases h
  | some sc =>
    rw [hs] at h
    obtain ⟨h1, h2, h3⟩ := tailL_len h
    have h4 := schL_len hs
    have h5 := behL_len l
    rw [h1]
    exact ⟨h4, by omega, by omega⟩
theorem portT_len {p : Int} (h0 : -9223372036854775808 ≤ p) (h1 : p ≤ 9223372036854775807) : (portT p).length ≤ 22 := by
  unfold portT
  split
  · simp
  · split
    · have := Lib.itoa_length_le p h0 h1
      simp only [List.length_cons]; omega
    · simp
theorem nameT_len (ho : List UInt8) (wi : Bool) : (nameT ho wi).length ≤ ho.length + 2 := by
  unfold nameT
  split
  · split
    · simp
    · simp
  · omega
theorem hostT_len {x : SrcL} (hx : SrcOk x) : (hostT x).length ≤ x.scheme.length + x.host.length + x.path.length + 30 := by
  obtain ⟨h1, h2, h3, h4, h5, h6, h7, h8⟩ := hx
  have a1 := portT_len h5 h6
  have a2 := nameT_len x.host x.wild
  have a3 : (if x.scheme = [] then [] else x.scheme ++ [58, 47, 47] : List UInt8).length ≤ x.scheme.length + 3 := by
    split
    · simp
    · simp
  rw [hostT_eq, List.length_append, List.length_append, List.length_append]
  omega
theorem textS_len {x : SrcL} (hx : SrcOk x) : (textS x).length ≤ x.text.length + x.scheme.length + x.host.length + x.path.length + 60 := by
  have hh := hostT_len hx
  obtain ⟨h1, h2, h3, h4, h5, h6, h7, h8⟩ := hx
  have hi := Lib.itoa_length_le x.bits h7 h8
  unfold textS
  repeat' split
  all_goals try simp only [List.length_append, List.length_cons, List.length_nil]
  all_goals omega
theorem kws_len : ∀ k ∈ kws.map (·.data.toList), k.length ≤ 30 := by decide +kernel
theorem parse_ok {l : List UInt8} {x : SrcL} (hl : l.length ≤ 1000) (h : parseL l = some x) : SrcOk x ∧ x.text.length ≤ 1000 ∧ x.scheme.length ≤ 1000 ∧ x.host.length ≤ 1000 ∧ x.path.length ≤ 1000 := by
  unfold parseL at h
  split at h
  · have hq := quoL_inv h
    have hlen : ((l.drop 1).take (l.length - 2)).length ≤ l.length := by rw [List.length_take, List.length_drop]; omega
    rcases hq with ⟨k, hk, rfl⟩ | ⟨r, _, hr, rfl | rfl | rfl | rfl⟩
    · have := kws_len k hk
      exact ⟨⟨by show k.length ≤ _; omega, by simp, by simp, by simp, by simp, by simp, by simp, by simp⟩, by show k.length ≤ _; omega, by simp, by simp, by simp⟩
    all_goals exact ⟨⟨by show r.length ≤ _; omega, by simp, by simp, by simp, by simp, by simp, by simp, by simp⟩, by show r.length ≤ _; omega, by simp, by simp, by simp⟩
  · split at h
    · injection h with h
      subst h
      have h2 : (lowL (l.take (l.length - 1))).length ≤ l.length := by rw [lowL_len, List.length_take]; omega
      exact ⟨⟨by simp, by show (lowL _).length ≤ _; omega, by simp, by simp, by simp, by simp, by simp, by simp⟩, by simp, by show (lowL _).length ≤ _; omega, by simp, by simp⟩
    · have hk := hostL_inv h
      obtain ⟨a1, a2, a3⟩ := hostL_len h
      obtain ⟨b1, b2, b3, _, _, b6, _⟩ := hk
      have hp : -2 ≤ x.port ∧ x.port ≤ 65535 := by
        rcases b6 with b6 | b6 | ⟨u, b6, hu⟩ <;> rw [b6] <;> omega
      refine ⟨⟨by rw [b2]; simp, by omega, by omega, by omega, by omega, by omega, by rw [b3]; omega, by rw [b3]; omega⟩, by rw [b2]; simp, by omega, by omega, by omega⟩
end Go.Proofs.YteeplfbaflldaaaDoor.S25
