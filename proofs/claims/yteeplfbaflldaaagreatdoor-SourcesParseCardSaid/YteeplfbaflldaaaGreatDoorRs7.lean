/- lazaretref25: quoted. -/
import Derived.Test.YteeplfbaflldaaaGreatDoorSrcS
import Derived.Test.YteeplfbaflldaaaGreatDoorSrcX
import Derived.Deep.DeepCutAuto
set_option linter.unusedVariables false
set_option linter.unusedSimpArgs false
namespace Go.Proofs.YteeplfbaflldaaaGreatDoor.S25
open Go.RowKit Go.Extern.Stop Go.Stop Go.Extern T10

/-- What the document's functions hand back: a source, and whether it is one. -/
def QRes (o : Option SrcL) (e : Ending) : Prop := ∃ k t b sc ho wi po pa, e = .returned (.tuple #[srcV k t b sc ho wi po pa, .bool o.isSome]) ∧ ∀ x, o = some x → srcV k t b sc ho wi po pa = srcW x
theorem kws_at {k : Nat} {t : ByteArray} (h : kws[k]? = some t) {low : ByteArray} (he : low = t) : low.data.toList ∈ kws.map (·.data.toList) := by
  rw [he]; exact List.mem_map.2 ⟨t, List.mem_of_getElem? h, rfl⟩
theorem kws_none {low : ByteArray} (h : ∀ t, (∃ j, j < 8 ∧ kws[j]? = some t) → low ≠ t) : low.data.toList ∉ kws.map (·.data.toList) := by
  intro hm
  obtain ⟨t, h1, h2⟩ := List.mem_map.1 hm
  obtain ⟨j, hj⟩ := List.mem_iff_getElem?.1 h1
  refine h t ⟨j, ?_, hj⟩ ?_
  · have := (List.getElem?_eq_some_iff.1 hj).1
    simpa [kws] using this
  · rw [← ba_list low, ← ba_list t, h2]
theorem try_some {l h v : List UInt8} (hb : behindL l h = some v) (hv : b64B v = true) : tryB l h = some v := by
  unfold tryB
  rw [hb]
  simp only []
  rw [if_pos hv]
theorem try_bad {l h v : List UInt8} (hb : behindL l h = some v) (hv : b64B v = false) : tryB l h = none := by
  unfold tryB
  rw [hb]
  simp only []
  rw [if_neg (by rw [hv]; simp)]
theorem try_none {l h : List UInt8} (hb : behindL l h = none) : tryB l h = none := by
  unfold tryB
  rw [hb]
theorem behind_len {l h v : List UInt8} (hb : behindL l h = some v) : v.length ≤ l.length := by
  unfold behindL at hb
  split at hb
  · cases hb
  · split at hb
    · injection hb with hb
      rw [← hb, List.length_drop]; omega
    · cases hb
def shaL : List (List UInt8) := [[115, 104, 97, 50, 53, 54], [115, 104, 97, 51, 56, 52], [115, 104, 97, 53, 49, 50]]
theorem sha_head (j : Nat) (hj : j < 3) : ∃ f, shaL[j]? = some f ∧ (⟨#[115, 104, 97]⟩ : ByteArray) ++ ba (Lib.itoa ((256 + 128 * j : Nat) : Int)) ++ ⟨#[45]⟩ = ba (f ++ [45]) := by
  have key : ∀ d : List UInt8, (⟨#[115, 104, 97]⟩ : ByteArray) ++ ba d ++ ⟨#[45]⟩ = ba ([115, 104, 97] ++ d ++ [45]) := by
    intro d
    show ba [115, 104, 97] ++ ba d ++ ba [45] = _
    rw [ba_app, ba_app]
  match j with
  | 0 => exact ⟨_, rfl, by rw [key, show (((256 + 128 * 0 : Nat) : Int)) = 256 from rfl, itoa_256]; rfl⟩
  | 1 => exact ⟨_, rfl, by rw [key, show (((256 + 128 * 1 : Nat) : Int)) = 384 from rfl, itoa_384]; rfl⟩
  | 2 => exact ⟨_, rfl, by rw [key, show (((256 + 128 * 2 : Nat) : Int)) = 512 from rfl, itoa_512]; rfl⟩
theorem rquo_nonce {l v : List UInt8} (h : lowL l ∉ kws.map (·.data.toList)) (ht : tryB l ([110, 111, 110, 99, 101] ++ [45]) = some v) : rquoL l = some ⟨4, v, 0, [], [], false, -1, []⟩ := by
  unfold rquoL
  rw [if_neg h, ht]
theorem rquo_sha {l v f : List UInt8} {j : Nat} (h : lowL l ∉ kws.map (·.data.toList)) (ht : tryB l ([110, 111, 110, 99, 101] ++ [45]) = none) (hp : ∀ i g, i < j → shaL[i]? = some g → tryB l (g ++ [45]) = none) (hf : shaL[j]? = some f) (hv : tryB l (f ++ [45]) = some v) : rquoL l = some ⟨5, v, ((256 + 128 * j : Nat) : Int), [], [], false, -1, []⟩ := by
  unfold rquoL
  rw [if_neg h, ht]
  match j, hf with
  | 0, hf =>
    obtain rfl := Option.some.inj hf
    simp only []
    rw [hv]
    rfl
  | 1, hf =>
    obtain rfl := Option.some.inj hf
    simp only []
    rw [hp 0 _ (by omega) rfl]
    simp only []
    rw [hv]
    rfl
  | 2, hf =>
    obtain rfl := Option.some.inj hf
    simp only []
    rw [hp 0 _ (by omega) rfl]
    simp only []
    rw [hp 1 _ (by omega) rfl]
    simp only []
    rw [hv]
    rfl
  | j + 3, hf => cases hf
theorem rquo_none {l : List UInt8} (h : lowL l ∉ kws.map (·.data.toList)) (ht : tryB l ([110, 111, 110, 99, 101] ++ [45]) = none) (hp : ∀ i g, i < 3 → shaL[i]? = some g → tryB l (g ++ [45]) = none) : rquoL l = none := by
  unfold rquoL
  rw [if_neg h, ht]
  simp only []
  rw [hp 0 _ (by omega) rfl]
  simp only []
  rw [hp 1 _ (by omega) rfl]
  simp only []
  rw [hp 2 _ (by omega) rfl]
set_option maxHeartbeats 3200000 in
set_option maxRecDepth 100000 in
theorem rquoted_any (s : ByteArray) (w : World) (hs : s.size ≤ 1000000) (hT : PTab w) :
    Calls Tryz.prog 11 #[.string s] w fun e w' => QRes (rquoL s.data.toList) e ∧ Below w.heap.size w w' := by
  obtain ⟨W1, hW1⟩ : ∃ W1, W1 = w.alloc (.cells #[.int .i64 0, .string ⟨#[]⟩, .int .i64 0, .string ⟨#[]⟩, .string ⟨#[]⟩, .bool false, .int .i64 0, .string ⟨#[]⟩] 24) := ⟨_, rfl⟩
  have B1 : Below w.heap.size w W1 := by rw [hW1]; exact (Below.refl _ w).alloc (Nat.le_refl _) _
  have k0 : W1.heap[w.heap.size]? = some (.cells #[.int .i64 0, .string ⟨#[]⟩, .int .i64 0, .string ⟨#[]⟩, .string ⟨#[]⟩, .bool false, .int .i64 0, .string ⟨#[]⟩] 24 (0, 0)) := by rw [hW1]; exact heap_alloc_new w _
  have hlt1 : w.heap.size < W1.heap.size := by rw [hW1]; simp
  obtain ⟨W2, hW2⟩ : ∃ W2, W2 = W1.alloc (.cells #[.string ⟨#[115, 101, 108, 102]⟩, .string ⟨#[117, 110, 115, 97, 102, 101, 45, 105, 110, 108, 105, 110, 101]⟩, .string ⟨#[117, 110, 115, 97, 102, 101, 45, 101, 118, 97, 108]⟩, .string ⟨#[115, 116, 114, 105, 99, 116, 45, 100, 121, 110, 97, 109, 105, 99]⟩, .string ⟨#[117, 110, 115, 97, 102, 101, 45, 104, 97, 115, 104, 101, 115]⟩, .string ⟨#[114, 101, 112, 111, 114, 116, 45, 115, 97, 109, 112, 108, 101]⟩, .string ⟨#[119, 97, 115, 109, 45, 117, 110, 115, 97, 102, 101, 45, 101, 118, 97, 108]⟩, .string ⟨#[117, 110, 115, 97, 102, 101, 45, 97, 108, 108, 111, 119, 45, 114, 101, 100, 105, 114, 101, 99, 116, 115]⟩] 9) := ⟨_, rfl⟩
  have B12 : Below W1.heap.size W1 W2 := by rw [hW2]; exact (Below.refl _ W1).alloc (Nat.le_refl _) _
  have hlt2 : W1.heap.size < W2.heap.size := by rw [hW2]; simp
  have CP : Hid (∀ W, Below W2.heap.size W2 W → ∀ k t, kws[k]? = some t → W.cell? ⟨W1.heap.size, k, none⟩ = some (.string t)) := by
    intro W hB k t ht
    refine (hB.cell (p := ⟨W1.heap.size, k, none⟩) hlt2).trans ?_
    have kb : W2.heap[W1.heap.size]? = some (.cells (kws.map Value.string).toArray 9 (0, 0)) := by rw [hW2]; exact heap_alloc_new _ _
    rw [Lib.cell_of_heap kb]
    simp [ht]
  have RS : Hid (∀ W, Below W2.heap.size W2 W → W.heap[w.heap.size]? = some (.cells #[.int .i64 0, .string ⟨#[]⟩, .int .i64 0, .string ⟨#[]⟩, .string ⟨#[]⟩, .bool false, .int .i64 0, .string ⟨#[]⟩] 24 (0, 0)) ∧ Below w.heap.size w W) := by
    intro W hB
    have hB1 : Below W1.heap.size W1 W := B12.trans (hB.mono B12.size)
    exact ⟨(hB1.block _ hlt1).trans k0, B1.trans (hB1.mono B1.size)⟩
  have HT : Hid (∀ W, Below W2.heap.size W2 W → PTab W) := fun W hB => hT.far (RS.out W hB).2 (Nat.le_refl _)
  obtain ⟨l, hl⟩ : ∃ l, s.data.toList = l := ⟨_, rfl⟩
  obtain ⟨low, hlow⟩ : ∃ low : ByteArray, (⟨(lowL l).toArray⟩ : ByteArray) = low := ⟨_, rfl⟩
  have HLO : Hid (∀ W, Calls Tryz.prog 13 #[.string s] W fun e w' => e = .returned (.string low) ∧ Below W.heap.size W w') := by
    intro W
    have := rlower_any s W (by omega)
    rw [hl, hlow] at this
    exact this
  have HLL : Hid (low.data.toList = lowL l) := by show _ = _; rw [← hlow]
  rw [hl]
  have HL := Lib.hid hl
  have HW1 := Lib.hid hW1
  have HW2 := Lib.hid hW2
  clear hl hlow hT B1 B12 k0 hW1 hW2
  go_enter Tryz.func11, Tryz.ntmps11
  go_upto_region 1 with fail
  rw [← HW1.out]
  go_upto_region 2 with fail
  rw [← HW2.out]
  go_wp2_with fail
  go_loopw [3, 5] (fun r i wr => ∃ k : Nat, k ≤ 8 ∧ r = .bool false ∧ i = .int .i64 k ∧ Hid (∀ t, (∃ j, j < k ∧ kws[j]? = some t) → low ≠ t) ∧ Hid (Below W2.heap.size W2 wr)) (fun _ i _ => 8 - (intOf i).toNat)
  case atStart => exact ⟨0, by omega, rfl, rfl, (fun t ⟨j, h, _⟩ => absurd h (by omega)), Below.refl _ _⟩
  case round =>
    obtain ⟨k, hk, rfl, rfl, HK, HB⟩ := hrel
    by_cases hlt : k < 8
    · have hki : (k : Int) < 8 := by omega
      obtain ⟨t, ht⟩ : ∃ t, kws[k]? = some t := ⟨_, List.getElem?_eq_getElem (l := kws) (by simpa [kws] using hlt)⟩
      have q0 := CP.out _ HB.out k t ht
      have HTT := Lib.hid ht
      clear ht
      go_upto_region 5 with fail
      go_cut [22] (fun v wc => v = .bool (low.toList == t.toList) ∧ Hid (Below W2.heap.size W2 wc))
      case first =>
        have HD : Hid (Below W2.heap.size W2 wr.drew) := HB.out.drew
        go_region_with (go_at_call 13; refine (HLO.out _).mono ?_; rintro e w2 ⟨rfl, b2⟩; have HB2 : Hid (Below W2.heap.size W2 w2) := (by first | exact HB.out.trans (b2.mono HB.out.size) | exact HD.out.trans (b2.mono HD.out.size)); have q2 := CP.out _ HB2.out k t HTT.out; clear b2)
        all_goals
          go_wp2_with fail
          go_meet
          exact ⟨rfl, HB2.out⟩
      case rest =>
        obtain ⟨rfl, HB2⟩ := hcut
        have q2 := CP.out _ HB2.out k t HTT.out
        cases he : (low.toList == t.toList) with
        | true =>
          have hlt3 : low = t := by
            have := beq_iff_eq.1 he
            rw [ByteArray.toList_eq, ByteArray.toList_eq] at this
            rw [← ba_list low, ← ba_list t, this]
          have HM : Hid (rquoL l = some ⟨1, lowL l, 0, [], [], false, -1, []⟩) := by
            show _ = _
            unfold rquoL
            rw [if_pos]
            rw [← HLL.out]
            exact kws_at HTT.out hlt3
          obtain ⟨⟨c0, c1, c2, c3, c4, c5, c6, c7⟩, f0, f1, f2, f3, f4, f5, f6, f7⟩ := eight (RS.out _ HB2.out).1
          have HLT := Lib.hid hlt3
          clear hlt3
          go_wp2_with fail
          refine bodyPost_ret (v := .tuple #[srcV 1 t 0 ⟨#[]⟩ ⟨#[]⟩ false (-1) ⟨#[]⟩, .bool true]) ?_ rfl ?_
          · rw [results_cell_tmp rfl]
            go_simp
            rfl
          · refine ⟨⟨_, _, _, _, _, _, _, _, by rw [HM.out]; rfl, ?_⟩, below_set8 (RS.out _ HB2.out).2 _ _ _ _ _ _ _ _⟩
            intro x hx
            rw [HM.out] at hx
            injection hx with hx
            subst hx
            rw [← HLT.out]
            unfold srcW
            simp only [← HLL.out, ba_list]
            rfl
        | false =>
          have HN : Hid (∀ t', (∃ j, j < k + 1 ∧ kws[j]? = some t') → low ≠ t') := by
            rintro t' ⟨j, hj, hjt⟩
            by_cases hjk : j = k
            · subst hjk
              rw [HTT.out] at hjt
              injection hjt with hjt
              subst hjt
              rintro rfl
              simp at he
            · exact HK.out t' ⟨j, by omega, hjt⟩
          have HE := Lib.hid he
          go_wp2_with fail
          go_roundw
          case rel => exact ⟨k + 1, by omega, rfl, by go_num, HN.out, HB2.out⟩
          case measure => simp [intOf]; omega
    · have hki : ¬ (k : Int) < 8 := by omega
      have hk8 : k = 8 := by omega
      subst hk8
      have HNK : Hid (lowL l ∉ kws.map (·.data.toList)) := by
        have := kws_none HK.out
        rwa [HLL.out] at this
      go_upto_region 7 with fail
      have HBN := Lib.hid (rbehind_any s ⟨#[110, 111, 110, 99, 101, 45]⟩ wr hs (by decide))
      have hbn : Hid (Calls Tryz.prog 26 #[.string s, .string ⟨#[110, 111, 110, 99, 101, 45]⟩] wr fun e w' => e = .returned (behindV (behindL l ([110, 111, 110, 99, 101] ++ [45]))) ∧ Below wr.heap.size wr w') := by
        have := HBN.out
        rw [HL.out] at this
        exact this
      clear HBN
      cases hb : behindL l ([110, 111, 110, 99, 101] ++ [45]) with
      | none =>
        rw [hb] at hbn
        have HT1 := Lib.hid (try_none hb)
        clear hb
        simp only [behindV] at hbn
        go_wp2_with (go_at_call 26; refine hbn.out.mono ?_; rintro e w2 ⟨rfl, b2⟩; have HB2 : Hid (Below W2.heap.size W2 w2) := HB.out.trans (b2.mono HB.out.size); clear b2)
        go_loopw [3, 6, 7, 8] (fun r a b i wr => ∃ (j : Nat) (v6 : ByteArray) (v7 : Bool), j ≤ 3 ∧ r = .bool false ∧ a = .string v6 ∧ b = .bool v7 ∧ i = .int .i64 ((256 + 128 * j : Nat) : Int) ∧ Hid (∀ i g, i < j → shaL[i]? = some g → tryB l (g ++ [45]) = none) ∧ Hid (Below W2.heap.size W2 wr)) (fun _ _ _ i _ => 700 - (intOf i).toNat)
        case atStart => exact ⟨0, _, _, by omega, rfl, rfl, rfl, rfl, (fun i g h => absurd h (Nat.not_lt_zero _)), HB2.out⟩
        case round =>
          obtain ⟨j, v6, v7, hj, rfl, rfl, rfl, rfl, HP, HBz⟩ := hrel
          obtain ⟨bn, hbq⟩ : ∃ bn : Nat, 256 + 128 * j = bn := ⟨_, rfl⟩
          rw [hbq]
          have HBQ := Lib.hid hbq
          clear hbq
          by_cases hj3 : j < 3
          · have hle : (bn : Int) ≤ 512 := by have := HBQ.out; omega
            obtain ⟨f, hf, hcat⟩ := sha_head j hj3
            rw [HBQ.out] at hcat
            have HF := Lib.hid hf
            have hit := itoa_any (bn : Int) (by omega) (by omega) wr (HT.out wr HBz.out)
            have hil : (ba (Lib.itoa (bn : Int))).size ≤ 21 := by rw [ba_size]; exact Lib.itoa_length_le _ (by omega) (by omega)
            obtain ⟨IT, hIT⟩ : ∃ IT, ba (Lib.itoa (bn : Int)) = IT := ⟨_, rfl⟩
            rw [hIT] at hit hil hcat
            obtain ⟨HD, hHD⟩ : ∃ D, ba (f ++ [45]) = D := ⟨_, rfl⟩
            rw [hHD] at hcat
            have sHD : HD.size ≤ 1000 := by
              rw [← hHD, ba_size]
              have : f ∈ shaL := List.mem_of_getElem? hf
              have h2 : ∀ g ∈ shaL, (g ++ [45]).length ≤ 1000 := by decide
              exact h2 f this
            have HBH : Hid (∀ W, Calls Tryz.prog 26 #[.string s, .string ((⟨#[115, 104, 97]⟩ : ByteArray) ++ IT ++ ⟨#[45]⟩)] W fun e w' => e = .returned (behindV (behindL l (f ++ [45]))) ∧ Below W.heap.size W w') := by
              intro W
              have := rbehind_any s HD W hs sHD
              rw [HL.out, ← hHD, ba_data] at this
              rw [hcat, ← hHD]; exact this
            have HIT := Lib.hid hit
            clear hit hIT hHD hcat hf
            have hb1 : (bn : Int) + 128 = ((256 + 128 * (j + 1) : Nat) : Int) := by have := HBQ.out; omega
            have HB1 := Lib.hid hb1
            have hj1 : j + 1 ≤ 3 := by omega
            have hbnb : (bn : Int) ≤ 1000 := by omega
            clear hb1
            cases hb : behindL l (f ++ [45]) with
            | none =>
              have HN : Hid (∀ i g, i < j + 1 → shaL[i]? = some g → tryB l (g ++ [45]) = none) := by
                intro i g hi hg
                by_cases hij : i = j
                · subst hij
                  rw [HF.out] at hg
                  injection hg with hg
                  subst hg
                  exact try_none hb
                · exact HP.out i g (by omega) hg
              rw [hb] at HBH
              simp only [behindV] at HBH
              clear hb hj3
              go_wp2_with (first
                | (go_at_call 26; refine (HBH.out _).mono ?_; rintro e wy ⟨rfl, by2⟩; have HBy : Hid (Below W2.heap.size W2 wy) := HBx.out.trans (by2.mono HBx.out.size); clear by2)
                | (go_at_call 15; refine HIT.out.mono ?_; rintro e wx ⟨rfl, bx⟩; have HBx : Hid (Below W2.heap.size W2 wx) := HBz.out.trans (bx.mono HBz.out.size); clear bx))
              go_roundw
              case rel => exact ⟨j + 1, _, _, hj1, rfl, rfl, rfl, by rw [← HB1.out], HN.out, HBy.out⟩
              case measure => simp [intOf]; omega
            | some v =>
              have hvl := behind_len hb
              have HVS : Hid (v.length ≤ 1000000) := by
                show _ ≤ _
                have : l.length = s.size := by rw [← HL.out]; simp
                omega
              have HBS : Hid (∀ W, Calls Tryz.prog 27 #[.string (ba v)] W fun e w' => e = .returned (.bool (b64B v)) ∧ W = w') := fun W => rbase_any (ba v) W (by rw [ba_size]; exact HVS.out)
              cases hv : b64B v with
              | true =>
                have hm := rquo_sha HNK.out HT1.out HP.out HF.out (try_some hb hv)
                rw [HBQ.out] at hm
                have HM := Lib.hid hm
                rw [hv] at HBS
                rw [hb] at HBH
                simp only [behindV] at HBH
                clear hb hv hvl hm hj3
                go_wp2_with (first
                  | (go_at_call 27; refine (HBS.out _).mono ?_; rintro e w3 ⟨rfl, rfl⟩)
                  | (go_at_call 26; refine (HBH.out _).mono ?_; rintro e wy ⟨rfl, by2⟩; have HBy : Hid (Below W2.heap.size W2 wy) := HBx.out.trans (by2.mono HBx.out.size); clear by2; obtain ⟨⟨d0, d1, d2, d3, d4, d5, d6, d7⟩, g0, g1, g2, g3, g4, g5, g6, g7⟩ := eight (RS.out _ HBy.out).1)
                  | (go_at_call 15; refine HIT.out.mono ?_; rintro e wx ⟨rfl, bx⟩; have HBx : Hid (Below W2.heap.size W2 wx) := HBz.out.trans (bx.mono HBz.out.size); clear bx))
                refine bodyPost_ret (v := .tuple #[srcV 5 (ba v) (bn : Int) ⟨#[]⟩ ⟨#[]⟩ false (-1) ⟨#[]⟩, .bool true]) ?_ rfl ?_
                · rw [results_cell_tmp rfl]
                  go_simp
                  rfl
                · refine ⟨⟨_, _, _, _, _, _, _, _, by rw [HM.out]; rfl, ?_⟩, below_set8 (RS.out _ HBy.out).2 _ _ _ _ _ _ _ _⟩
                  intro x hx
                  rw [HM.out] at hx
                  injection hx with hx
                  subst hx
                  rfl
              | false =>
                have HN : Hid (∀ i g, i < j + 1 → shaL[i]? = some g → tryB l (g ++ [45]) = none) := by
                  intro i g hi hg
                  by_cases hij : i = j
                  · subst hij
                    rw [HF.out] at hg
                    injection hg with hg
                    subst hg
                    exact try_bad hb hv
                  · exact HP.out i g (by omega) hg
                rw [hv] at HBS
                rw [hb] at HBH
                simp only [behindV] at HBH
                clear hb hv hvl hj3
                go_wp2_with (first
                  | (go_at_call 27; refine (HBS.out _).mono ?_; rintro e w3 ⟨rfl, rfl⟩)
                  | (go_at_call 26; refine (HBH.out _).mono ?_; rintro e wy ⟨rfl, by2⟩; have HBy : Hid (Below W2.heap.size W2 wy) := HBx.out.trans (by2.mono HBx.out.size); clear by2)
                  | (go_at_call 15; refine HIT.out.mono ?_; rintro e wx ⟨rfl, bx⟩; have HBx : Hid (Below W2.heap.size W2 wx) := HBz.out.trans (bx.mono HBz.out.size); clear bx))
                go_roundw
                case rel => exact ⟨j + 1, _, _, hj1, rfl, rfl, rfl, by rw [← HB1.out], HN.out, HBy.out⟩
                case measure => simp [intOf]; omega
          · have hj33 : j = 3 := by omega
            subst hj33
            have hle : ¬ (bn : Int) ≤ 512 := by have := HBQ.out; omega
            have HM := Lib.hid (rquo_none HNK.out HT1.out HP.out)
            obtain ⟨⟨d0, d1, d2, d3, d4, d5, d6, d7⟩, g0, g1, g2, g3, g4, g5, g6, g7⟩ := eight (RS.out _ HBz.out).1
            go_wp2_with fail
            refine bodyPost_ret (v := .tuple #[srcV 0 ⟨#[]⟩ 0 ⟨#[]⟩ ⟨#[]⟩ false 0 ⟨#[]⟩, .bool false]) ?_ rfl ?_
            · rw [results_cell_tmp rfl]
              go_simp
              rfl
            · refine ⟨⟨_, _, _, _, _, _, _, _, by rw [HM.out]; rfl, ?_⟩, below_set8 (RS.out _ HBz.out).2 _ _ _ _ _ _ _ _⟩
              intro x hx
              rw [HM.out] at hx
              cases hx
      | some v =>
        rw [hb] at hbn
        simp only [behindV] at hbn
        have hvl := behind_len hb
        have HVS : Hid (v.length ≤ 1000000) := by
          show _ ≤ _
          have : l.length = s.size := by rw [← HL.out]; simp
          omega
        have HBS := Lib.hid (fun W => rbase_any (ba v) W (by rw [ba_size]; exact HVS.out))
        cases hv : b64B v with
        | true =>
          have HM := Lib.hid (rquo_nonce HNK.out (try_some hb hv))
          have HBS2 : Hid (∀ W, Calls Tryz.prog 27 #[.string (ba v)] W fun e w' => e = .returned (.bool true) ∧ W = w') := fun W => by
            have := HBS.out W
            rw [ba_data, hv] at this
            exact this
          clear hb hv HBS hvl
          go_wp2_with (first
            | (go_at_call 27; refine (HBS2.out _).mono ?_; rintro e w3 ⟨rfl, rfl⟩)
            | (go_at_call 26; refine hbn.out.mono ?_; rintro e w2 ⟨rfl, b2⟩; have HB2 : Hid (Below W2.heap.size W2 w2) := HB.out.trans (b2.mono HB.out.size); obtain ⟨⟨c0, c1, c2, c3, c4, c5, c6, c7⟩, f0, f1, f2, f3, f4, f5, f6, f7⟩ := eight (RS.out _ HB2.out).1; clear b2))
          refine bodyPost_ret (v := .tuple #[srcV 4 (ba v) 0 ⟨#[]⟩ ⟨#[]⟩ false (-1) ⟨#[]⟩, .bool true]) ?_ rfl ?_
          · rw [results_cell_tmp rfl]
            go_simp
            rfl
          · refine ⟨⟨_, _, _, _, _, _, _, _, by rw [HM.out]; rfl, ?_⟩, below_set8 (RS.out _ HB2.out).2 _ _ _ _ _ _ _ _⟩
            intro x hx
            rw [HM.out] at hx
            injection hx with hx
            subst hx
            rfl
        | false =>
          have HT1 := Lib.hid (try_bad hb hv)
          have HBS2 : Hid (∀ W, Calls Tryz.prog 27 #[.string (ba v)] W fun e w' => e = .returned (.bool false) ∧ W = w') := fun W => by
            have := HBS.out W
            rw [ba_data, hv] at this
            exact this
          clear hb hv HBS hvl
          go_wp2_with (first
            | (go_at_call 27; refine (HBS2.out _).mono ?_; rintro e w3 ⟨rfl, rfl⟩)
            | (go_at_call 26; refine hbn.out.mono ?_; rintro e w2 ⟨rfl, b2⟩; have HB2 : Hid (Below W2.heap.size W2 w2) := HB.out.trans (b2.mono HB.out.size); clear b2))
          go_loopw [3, 6, 7, 8] (fun r a b i wr => ∃ (j : Nat) (v6 : ByteArray) (v7 : Bool), j ≤ 3 ∧ r = .bool false ∧ a = .string v6 ∧ b = .bool v7 ∧ i = .int .i64 ((256 + 128 * j : Nat) : Int) ∧ Hid (∀ i g, i < j → shaL[i]? = some g → tryB l (g ++ [45]) = none) ∧ Hid (Below W2.heap.size W2 wr)) (fun _ _ _ i _ => 700 - (intOf i).toNat)
          case atStart => exact ⟨0, _, _, by omega, rfl, rfl, rfl, rfl, (fun i g h => absurd h (Nat.not_lt_zero _)), HB2.out⟩
          case round =>
            obtain ⟨j, v6, v7, hj, rfl, rfl, rfl, rfl, HP, HBz⟩ := hrel
            obtain ⟨bn, hbq⟩ : ∃ bn : Nat, 256 + 128 * j = bn := ⟨_, rfl⟩
            rw [hbq]
            have HBQ := Lib.hid hbq
            clear hbq
            by_cases hj3 : j < 3
            · have hle : (bn : Int) ≤ 512 := by have := HBQ.out; omega
              obtain ⟨f, hf, hcat⟩ := sha_head j hj3
              rw [HBQ.out] at hcat
              have HF := Lib.hid hf
              have hit := itoa_any (bn : Int) (by omega) (by omega) wr (HT.out wr HBz.out)
              have hil : (ba (Lib.itoa (bn : Int))).size ≤ 21 := by rw [ba_size]; exact Lib.itoa_length_le _ (by omega) (by omega)
              obtain ⟨IT, hIT⟩ : ∃ IT, ba (Lib.itoa (bn : Int)) = IT := ⟨_, rfl⟩
              rw [hIT] at hit hil hcat
              obtain ⟨HD, hHD⟩ : ∃ D, ba (f ++ [45]) = D := ⟨_, rfl⟩
              rw [hHD] at hcat
              have sHD : HD.size ≤ 1000 := by
                rw [← hHD, ba_size]
                have : f ∈ shaL := List.mem_of_getElem? hf
                have h2 : ∀ g ∈ shaL, (g ++ [45]).length ≤ 1000 := by decide
                exact h2 f this
              have HBH : Hid (∀ W, Calls Tryz.prog 26 #[.string s, .string ((⟨#[115, 104, 97]⟩ : ByteArray) ++ IT ++ ⟨#[45]⟩)] W fun e w' => e = .returned (behindV (behindL l (f ++ [45]))) ∧ Below W.heap.size W w') := by
                intro W
                have := rbehind_any s HD W hs sHD
                rw [HL.out, ← hHD, ba_data] at this
                rw [hcat, ← hHD]; exact this
              have HIT := Lib.hid hit
              clear hit hIT hHD hcat hf
              have hb1 : (bn : Int) + 128 = ((256 + 128 * (j + 1) : Nat) : Int) := by have := HBQ.out; omega
              have HB1 := Lib.hid hb1
              have hj1 : j + 1 ≤ 3 := by omega
              have hbnb : (bn : Int) ≤ 1000 := by omega
              clear hb1
              cases hb : behindL l (f ++ [45]) with
              | none =>
                have HN : Hid (∀ i g, i < j + 1 → shaL[i]? = some g → tryB l (g ++ [45]) = none) := by
                  intro i g hi hg
                  by_cases hij : i = j
                  · subst hij
                    rw [HF.out] at hg
                    injection hg with hg
                    subst hg
                    exact try_none hb
                  · exact HP.out i g (by omega) hg
                rw [hb] at HBH
                simp only [behindV] at HBH
                clear hb hj3
                go_wp2_with (first
                  | (go_at_call 26; refine (HBH.out _).mono ?_; rintro e wy ⟨rfl, by2⟩; have HBy : Hid (Below W2.heap.size W2 wy) := HBx.out.trans (by2.mono HBx.out.size); clear by2)
                  | (go_at_call 15; refine HIT.out.mono ?_; rintro e wx ⟨rfl, bx⟩; have HBx : Hid (Below W2.heap.size W2 wx) := HBz.out.trans (bx.mono HBz.out.size); clear bx))
                go_roundw
                case rel => exact ⟨j + 1, _, _, hj1, rfl, rfl, rfl, by rw [← HB1.out], HN.out, HBy.out⟩
                case measure => simp [intOf]; omega
              | some v =>
                have hvl := behind_len hb
                have HVS : Hid (v.length ≤ 1000000) := by
                  show _ ≤ _
                  have : l.length = s.size := by rw [← HL.out]; simp
                  omega
                have HBS : Hid (∀ W, Calls Tryz.prog 27 #[.string (ba v)] W fun e w' => e = .returned (.bool (b64B v)) ∧ W = w') := fun W => rbase_any (ba v) W (by rw [ba_size]; exact HVS.out)
                cases hv : b64B v with
                | true =>
                  have hm := rquo_sha HNK.out HT1.out HP.out HF.out (try_some hb hv)
                  rw [HBQ.out] at hm
                  have HM := Lib.hid hm
                  rw [hv] at HBS
                  rw [hb] at HBH
                  simp only [behindV] at HBH
                  clear hb hv hvl hm hj3
                  go_wp2_with (first
                    | (go_at_call 27; refine (HBS.out _).mono ?_; rintro e w3 ⟨rfl, rfl⟩)
                    | (go_at_call 26; refine (HBH.out _).mono ?_; rintro e wy ⟨rfl, by2⟩; have HBy : Hid (Below W2.heap.size W2 wy) := HBx.out.trans (by2.mono HBx.out.size); clear by2; obtain ⟨⟨d0, d1, d2, d3, d4, d5, d6, d7⟩, g0, g1, g2, g3, g4, g5, g6, g7⟩ := eight (RS.out _ HBy.out).1)
                    | (go_at_call 15; refine HIT.out.mono ?_; rintro e wx ⟨rfl, bx⟩; have HBx : Hid (Below W2.heap.size W2 wx) := HBz.out.trans (bx.mono HBz.out.size); clear bx))
                  refine bodyPost_ret (v := .tuple #[srcV 5 (ba v) (bn : Int) ⟨#[]⟩ ⟨#[]⟩ false (-1) ⟨#[]⟩, .bool true]) ?_ rfl ?_
                  · rw [results_cell_tmp rfl]
                    go_simp
                    rfl
                  · refine ⟨⟨_, _, _, _, _, _, _, _, by rw [HM.out]; rfl, ?_⟩, below_set8 (RS.out _ HBy.out).2 _ _ _ _ _ _ _ _⟩
                    intro x hx
                    rw [HM.out] at hx
                    injection hx with hx
                    subst hx
                    rfl
                | false =>
                  have HN : Hid (∀ i g, i < j + 1 → shaL[i]? = some g → tryB l (g ++ [45]) = none) := by
                    intro i g hi hg
                    by_cases hij : i = j
                    · subst hij
                      rw [HF.out] at hg
                      injection hg with hg
                      subst hg
                      exact try_bad hb hv
                    · exact HP.out i g (by omega) hg
                  rw [hv] at HBS
                  rw [hb] at HBH
                  simp only [behindV] at HBH
                  clear hb hv hvl hj3
                  go_wp2_with (first
                    | (go_at_call 27; refine (HBS.out _).mono ?_; rintro e w3 ⟨rfl, rfl⟩)
                    | (go_at_call 26; refine (HBH.out _).mono ?_; rintro e wy ⟨rfl, by2⟩; have HBy : Hid (Below W2.heap.size W2 wy) := HBx.out.trans (by2.mono HBx.out.size); clear by2)
                    | (go_at_call 15; refine HIT.out.mono ?_; rintro e wx ⟨rfl, bx⟩; have HBx : Hid (Below W2.heap.size W2 wx) := HBz.out.trans (bx.mono HBz.out.size); clear bx))
                  go_roundw
                  case rel => exact ⟨j + 1, _, _, hj1, rfl, rfl, rfl, by rw [← HB1.out], HN.out, HBy.out⟩
                  case measure => simp [intOf]; omega
            · have hj33 : j = 3 := by omega
              subst hj33
              have hle : ¬ (bn : Int) ≤ 512 := by have := HBQ.out; omega
              have HM := Lib.hid (rquo_none HNK.out HT1.out HP.out)
              obtain ⟨⟨d0, d1, d2, d3, d4, d5, d6, d7⟩, g0, g1, g2, g3, g4, g5, g6, g7⟩ := eight (RS.out _ HBz.out).1
              go_wp2_with fail
              refine bodyPost_ret (v := .tuple #[srcV 0 ⟨#[]⟩ 0 ⟨#[]⟩ ⟨#[]⟩ false 0 ⟨#[]⟩, .bool false]) ?_ rfl ?_
              · rw [results_cell_tmp rfl]
                go_simp
                rfl
              · refine ⟨⟨_, _, _, _, _, _, _, _, by rw [HM.out]; rfl, ?_⟩, below_set8 (RS.out _ HBz.out).2 _ _ _ _ _ _ _ _⟩
                intro x hx
                rw [HM.out] at hx
                cases hx
end Go.Proofs.YteeplfbaflldaaaGreatDoor.S25
