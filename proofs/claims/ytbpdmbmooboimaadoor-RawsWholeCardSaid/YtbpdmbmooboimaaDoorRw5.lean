/- raws: scriptEnd, resolved. (Made by tools/gen/rw5.py.) -/
import Derived.Test.YtbpdmbmooboimaaDoorRwq
import Derived.Test.YtbpdmbmooboimaaDoorBuild2
import Derived.Test.YtbpdmbmooboimaaDoorTg3
set_option linter.unusedVariables false
set_option linter.unusedSimpArgs false
namespace Go.Proofs.YtbpdmbmooboimaaDoor.R11
open Go.RowKit R9 T10

theorem ends_c {r nm : List UInt8} {c : UInt8} (h : r.head? = some c) (hc : c ≠ 60) : endsL r nm = false := by
  cases hq : endsL r nm with
  | false => rfl
  | true =>
    cases r with
    | nil => cases h
    | cons x t => injection h with h; subst h; exact absurd (ends_head hq).1 hc
theorem pre_head {r t : List UInt8} {x : UInt8} (h : (x :: t).isPrefixOf r = true) : r.head? = some x := by
  cases r with
  | nil => simp [List.isPrefixOf] at h
  | cons y s => simp [List.isPrefixOf] at h; rw [h.1]; rfl
theorem sc_exit {nm l : List UInt8} {k q : Nat} {c : UInt8} (hc : l[k]? = some c) (hq : q < 2) (he : endsL (l.drop k) nm = true) : scan nm q (l.drop k) = 0 := by
  rw [scan_at nm q hc, if_pos ⟨hq, he⟩]
theorem sc_zero {nm l : List UInt8} {k : Nat} {c : UInt8} (hc : l[k]? = some c) (hp : [60, 33, 45, 45].isPrefixOf (l.drop k) = false) (he : endsL (l.drop k) nm = false) : scan nm 0 (l.drop k) = scan nm 0 (l.drop (k + 1)) + 1 := by
  rw [scan_at nm 0 hc, if_neg (by rw [he]; simp)]
  unfold nxt
  rw [hp]
  rfl
theorem sc_front {nm l : List UInt8} {k : Nat} {c : UInt8} (hc : l[k]? = some c) (hp : [60, 33, 45, 45].isPrefixOf (l.drop k) = true) : scan nm 0 (l.drop k) = scan nm 1 (l.drop (k + 2)) + 2 ∧ k + 4 ≤ l.length := by
  obtain ⟨h0, h1, h2, h3⟩ := (pre4 _ _ _ _ _ _).1 hp
  have hl := (List.getElem?_eq_some_iff.1 h3).1
  have hl1 := (List.getElem?_eq_some_iff.1 h1).1
  have he : endsL (l.drop k) nm = false := by
    cases hq : endsL (l.drop k) nm with
    | false => rfl
    | true =>
      rw [List.drop_eq_getElem_cons (List.getElem?_eq_some_iff.1 hc).1] at hq
      have := (ends_head hq).2
      rw [List.head?_drop, h1] at this
      simp at this
  rw [scan_at nm 0 hc, if_neg (by rw [he]; simp)]
  unfold nxt
  rw [if_pos rfl, if_pos hp]
  have e : l.drop (k + 1) = 33 :: l.drop (k + 2) := by
    rw [List.drop_eq_getElem_cons hl1]
    congr 1
    exact (List.getElem?_eq_some_iff.1 h1).2
  rw [e, scan_plain nm 1 (by omega) 33 _ (by decide) (by decide)]
  exact ⟨rfl, by omega⟩
theorem sc_close {nm l : List UInt8} {k q : Nat} {c : UInt8} (hc : l[k]? = some c) (hq : 0 < q) (hp : [45, 45, 62].isPrefixOf (l.drop k) = true) : scan nm q (l.drop k) = scan nm 0 (l.drop (k + 1)) + 1 := by
  have he : ∀ n, endsL (l.drop k) n = false := fun n => ends_c (pre_head hp) (by decide)
  rw [scan_at nm q hc, if_neg (by rw [he]; simp)]
  unfold nxt
  rw [if_neg (by omega), if_pos hp]
theorem sc_inner {nm l : List UInt8} {k : Nat} {c : UInt8} (hc : l[k]? = some c) (hp : [45, 45, 62].isPrefixOf (l.drop k) = false) (he : endsL (l.drop k) nm = false) : scan nm 1 (l.drop k) = scan nm (if begL (l.drop k) = true then 2 else 1) (l.drop (k + 1)) + 1 := by
  rw [scan_at nm 1 hc, if_neg (by rw [he]; simp)]
  unfold nxt
  rw [hp]
  simp
theorem sc_outer {nm l : List UInt8} {k : Nat} {c : UInt8} (hc : l[k]? = some c) (hp : [45, 45, 62].isPrefixOf (l.drop k) = false) : scan nm 2 (l.drop k) = scan nm (if endsL (l.drop k) scr = true then 1 else 2) (l.drop (k + 1)) + 1 := by
  rw [scan_at nm 2 hc, if_neg (by omega)]
  unfold nxt
  rw [hp]
  simp
set_option maxHeartbeats 3200000 in
set_option maxRecDepth 100000 in
theorem scriptEnd_any (s nm : ByteArray) (a : Nat) (w : World) (hs : s.size ≤ 1000000) (hn : nm.size ≤ 1000) (ha : a ≤ s.size) :
    Calls Tryd.prog 49 #[.string s, .int .i64 (a : Int), .string nm] w fun e w' => e = .returned (.int .i64 ((a + scan nm.data.toList 0 (s.data.toList.drop a) : Nat) : Int)) ∧ Below w.heap.size w w' := by
  obtain ⟨Z, hZ⟩ : ∃ Z, a + scan nm.data.toList 0 (s.data.toList.drop a) = Z := ⟨_, rfl⟩
  rw [hZ]
  have hsl : s.data.toList.length = s.size := by simp
  have HSL := Lib.hid hsl
  clear hsl
  go_enter Tryd.func49, Tryd.ntmps49
  go_wp2_with fail
  go_step3
  go_wp2_with fail
  go_step3
  go_wp2_with fail
  go_loopw [1, 7] (fun i st wr => ∃ (k : Nat) (z : Int), k ≤ s.size ∧ (z = 0 ∨ z = 1 ∨ z = 2) ∧ i = .int .i64 k ∧ st = .int .i64 z ∧ Hid (k + scan nm.data.toList z.toNat (s.data.toList.drop k) = Z) ∧ Hid (Below w.heap.size w wr)) (fun i _ _ => s.size - (intOf i).toNat)
  case atStart => exact ⟨a, 0, ha, .inl rfl, rfl, rfl, hZ, Below.refl _ _⟩
  case round =>
    obtain ⟨k, z, hk, hz, rfl, rfl, HZ0, HB⟩ := hrel
    clear hZ
    by_cases hlt : k < s.size
    · have hki : (k : Int) < s.size := by omega
      have hg := at_get hlt
      obtain ⟨c, hc⟩ : ∃ c, s[k] = c := ⟨_, rfl⟩
      rw [hc] at hg
      have hdk : s.data.toList.drop k = c :: s.data.toList.drop (k + 1) := by
        rw [List.drop_eq_getElem_cons (List.getElem?_eq_some_iff.1 hg).1, (List.getElem?_eq_some_iff.1 hg).2]
      by_cases hpl : c ≠ 60 ∧ c ≠ 45
      · have t0 := byte_not' (z := 60) hpl.1 rfl
        have t1 := byte_not' (z := 45) hpl.2 rfl
        have HS : Hid (scan nm.data.toList z.toNat (s.data.toList.drop k) = scan nm.data.toList z.toNat (s.data.toList.drop (k + 1)) + 1) := by
          show _ = _
          rw [hdk]
          exact scan_plain _ _ (by omega) c _ hpl.1 hpl.2
        clear hg hdk hpl
        go_wp2_with fail
        go_roundw
        case rel => exact ⟨k + 1, z, by omega, hz, by go_num, rfl, by have h1 := HZ0.out; have h2 := HS.out; show _ = _; omega, HB.out⟩
        case measure => simp [intOf]; omega
      · have hcc : c = 60 ∨ c = 45 := by
          by_cases h60 : c = 60
          · exact .inl h60
          · by_cases h : c = 45
            · exact .inr h
            · exact absurd ⟨h60, h⟩ hpl
        obtain ⟨T, hT⟩ : ∃ T, s.extract k s.size = T := ⟨_, rfl⟩
        have hTl : T.data.toList = s.data.toList.drop k := by rw [← hT]; exact ext_tail s k
        have HP1 := Lib.hid (fun W => hp_any T ⟨#[60, 33, 45, 45]⟩ W)
        have HP2 := Lib.hid (fun W => hp_any T ⟨#[45, 45, 62]⟩ W)
        rw [hTl] at HP1 HP2
        rw [show (⟨#[60, 33, 45, 45]⟩ : ByteArray).data.toList = [60, 33, 45, 45] from rfl] at HP1
        rw [show (⟨#[45, 45, 62]⟩ : ByteArray).data.toList = [45, 45, 62] from rfl] at HP2
        have HE := Lib.hid (fun W => ends_any s nm k W hs hn hk)
        have HE2 := Lib.hid (fun W => ends_any s ⟨#[115, 99, 114, 105, 112, 116]⟩ k W hs (by decide) hk)
        have HBG := Lib.hid (fun W => begins_any s ⟨#[115, 99, 114, 105, 112, 116]⟩ k W hs (by decide) hlt)
        rw [show (⟨#[115, 99, 114, 105, 112, 116]⟩ : ByteArray).data.toList = scr from rfl] at HE2 HBG
        have HG := Lib.hid hg
        obtain ⟨p1, hp1⟩ : ∃ p, [60, 33, 45, 45].isPrefixOf (s.data.toList.drop k) = p := ⟨_, rfl⟩
        obtain ⟨p2, hp2⟩ : ∃ p, [45, 45, 62].isPrefixOf (s.data.toList.drop k) = p := ⟨_, rfl⟩
        obtain ⟨e1, he1⟩ : ∃ p, endsL (s.data.toList.drop k) nm.data.toList = p := ⟨_, rfl⟩
        obtain ⟨e2, he2⟩ : ∃ p, endsL (s.data.toList.drop k) scr = p := ⟨_, rfl⟩
        obtain ⟨bb, hbb⟩ : ∃ p, begL (s.data.toList.drop k) = p := ⟨_, rfl⟩
        have hbb' : ((s.data.toList.drop k).head? == some 60 && wordL ((s.data.toList.drop k).drop 1) scr) = bb := hbb
        rw [hp1] at HP1
        rw [hp2] at HP2
        rw [he1] at HE
        rw [he2] at HE2
        rw [hbb'] at HBG
        have HQ1 := Lib.hid hp1
        have HQ2 := Lib.hid hp2
        have HQ3 := Lib.hid he1
        have HQ4 := Lib.hid he2
        have HQ5 := Lib.hid hbb
        clear hp1 hp2 he1 he2 hbb hbb' hTl hdk hg hpl
        rcases hcc with h60 | h60
        · have t0 := byte_is' (z := 60) h60 rfl
          clear h60
          rcases hz with rfl | rfl | rfl
          · have HZ : Hid (k + scan nm.data.toList 0 (s.data.toList.drop k) = Z) := HZ0.out
            cases p1 with
            | true =>
              have hfr := sc_front (nm := nm.data.toList) HG.out HQ1.out
              have hk4 : k + 4 ≤ s.size := by have := hfr.2; rw [HSL.out] at this; exact this
              have HS := Lib.hid (hfr.1)
              go_wp2_with fail
              refine (HP1.out _).mono ?_
              rintro e w1 ⟨rfl, rfl⟩
              go_wp2_with fail
              go_roundw
              case rel => exact ⟨k + 2, 1, by omega, .inr (.inl rfl), by go_num, rfl, by have h1 := HZ.out; have h2 := HS.out; show k + 2 + scan nm.data.toList 1 (s.data.toList.drop (k + 2)) = Z; omega, HB.out⟩
              case measure => simp [intOf]; omega
            | false =>
              cases e1 with
              | true =>
                have HS := Lib.hid (sc_exit HG.out (show 0 < 2 by omega) HQ3.out)
                go_wp2_with fail
                refine (HP1.out _).mono ?_
                rintro e w1 ⟨rfl, rfl⟩
                go_wp2_with fail
                refine (HE.out _).mono ?_
                rintro e w2 ⟨rfl, b9⟩
                go_wp2_with fail
                rw [Exit.noGoto_ret]
                go_ret
                exact ⟨by have h1 := HZ.out; have h2 := HS.out; rw [← h1, h2]; rfl, HB.out.trans (b9.mono HB.out.size)⟩
              | false =>
                have HS := Lib.hid (sc_zero HG.out HQ1.out HQ3.out)
                go_wp2_with fail
                refine (HP1.out _).mono ?_
                rintro e w1 ⟨rfl, rfl⟩
                go_wp2_with fail
                refine (HE.out _).mono ?_
                rintro e w2 ⟨rfl, b9⟩
                go_wp2_with fail
                go_roundw
                case rel => exact ⟨k + 1, 0, by omega, .inl rfl, by go_num, rfl, by have h1 := HZ.out; have h2 := HS.out; show k + 1 + scan nm.data.toList 0 (s.data.toList.drop (k + 1)) = Z; omega, HB.out.trans (b9.mono HB.out.size)⟩
                case measure => simp [intOf]; omega
          · have HZ : Hid (k + scan nm.data.toList 1 (s.data.toList.drop k) = Z) := HZ0.out
            cases p2 with
            | true =>
              have HS := Lib.hid (sc_close (q := 1) (nm := nm.data.toList) HG.out (by omega) HQ2.out)
              go_wp2_with fail
              refine (HP2.out _).mono ?_
              rintro e w1 ⟨rfl, rfl⟩
              go_wp2_with fail
              go_roundw
              case rel => exact ⟨k + 1, 0, by omega, .inl rfl, by go_num, rfl, by have h1 := HZ.out; have h2 := HS.out; show k + 1 + scan nm.data.toList 0 (s.data.toList.drop (k + 1)) = Z; omega, HB.out⟩
              case measure => simp [intOf]; omega
            | false =>
              cases e1 with
              | true =>
                have HS := Lib.hid (sc_exit HG.out (show 1 < 2 by omega) HQ3.out)
                go_wp2_with fail
                refine (HP2.out _).mono ?_
                rintro e w1 ⟨rfl, rfl⟩
                go_wp2_with fail
                refine (HE.out _).mono ?_
                rintro e w2 ⟨rfl, b9⟩
                go_wp2_with fail
                rw [Exit.noGoto_ret]
                go_ret
                exact ⟨by have h1 := HZ.out; have h2 := HS.out; rw [← h1, h2]; rfl, HB.out.trans (b9.mono HB.out.size)⟩
              | false =>
                cases bb with
                | true =>
                  have HS := Lib.hid (sc_inner HG.out HQ2.out HQ3.out)
                  rw [HQ5.out, if_pos rfl] at HS
                  go_wp2_with fail
                  refine (HP2.out _).mono ?_
                  rintro e w1 ⟨rfl, rfl⟩
                  go_wp2_with fail
                  refine (HE.out _).mono ?_
                  rintro e w2 ⟨rfl, b8⟩
                  go_wp2_with fail
                  refine (HBG.out _).mono ?_
                  rintro e w3 ⟨rfl, b9⟩
                  go_wp2_with fail
                  go_roundw
                  case rel => exact ⟨k + 1, 2, by omega, .inr (.inr rfl), by go_num, rfl, by have h1 := HZ.out; have h2 := HS.out; show k + 1 + scan nm.data.toList 2 (s.data.toList.drop (k + 1)) = Z; omega, (HB.out.trans (b8.mono HB.out.size)).trans (b9.mono (HB.out.trans (b8.mono HB.out.size)).size)⟩
                  case measure => simp [intOf]; omega
                | false =>
                  have HS := Lib.hid (sc_inner HG.out HQ2.out HQ3.out)
                  rw [HQ5.out, if_neg (by simp)] at HS
                  go_wp2_with fail
                  refine (HP2.out _).mono ?_
                  rintro e w1 ⟨rfl, rfl⟩
                  go_wp2_with fail
                  refine (HE.out _).mono ?_
                  rintro e w2 ⟨rfl, b8⟩
                  go_wp2_with fail
                  refine (HBG.out _).mono ?_
                  rintro e w3 ⟨rfl, b9⟩
                  go_wp2_with fail
                  go_roundw
                  case rel => exact ⟨k + 1, 1, by omega, .inr (.inl rfl), by go_num, rfl, by have h1 := HZ.out; have h2 := HS.out; show k + 1 + scan nm.data.toList 1 (s.data.toList.drop (k + 1)) = Z; omega, (HB.out.trans (b8.mono HB.out.size)).trans (b9.mono (HB.out.trans (b8.mono HB.out.size)).size)⟩
                  case measure => simp [intOf]; omega
          · have HZ : Hid (k + scan nm.data.toList 2 (s.data.toList.drop k) = Z) := HZ0.out
            cases p2 with
            | true =>
              have HS := Lib.hid (sc_close (q := 2) (nm := nm.data.toList) HG.out (by omega) HQ2.out)
              go_wp2_with fail
              refine (HP2.out _).mono ?_
              rintro e w1 ⟨rfl, rfl⟩
              go_wp2_with fail
              go_roundw
              case rel => exact ⟨k + 1, 0, by omega, .inl rfl, by go_num, rfl, by have h1 := HZ.out; have h2 := HS.out; show k + 1 + scan nm.data.toList 0 (s.data.toList.drop (k + 1)) = Z; omega, HB.out⟩
              case measure => simp [intOf]; omega
            | false =>
              cases e2 with
              | true =>
                have HS := Lib.hid (sc_outer (nm := nm.data.toList) HG.out HQ2.out)
                rw [HQ4.out, if_pos rfl] at HS
                go_wp2_with fail
                refine (HP2.out _).mono ?_
                rintro e w1 ⟨rfl, rfl⟩
                go_wp2_with fail
                refine (HE2.out _).mono ?_
                rintro e w2 ⟨rfl, b9⟩
                go_wp2_with fail
                go_roundw
                case rel => exact ⟨k + 1, 1, by omega, .inr (.inl rfl), by go_num, rfl, by have h1 := HZ.out; have h2 := HS.out; show k + 1 + scan nm.data.toList 1 (s.data.toList.drop (k + 1)) = Z; omega, HB.out.trans (b9.mono HB.out.size)⟩
                case measure => simp [intOf]; omega
              | false =>
                have HS := Lib.hid (sc_outer (nm := nm.data.toList) HG.out HQ2.out)
                rw [HQ4.out, if_neg (by simp)] at HS
                go_wp2_with fail
                refine (HP2.out _).mono ?_
                rintro e w1 ⟨rfl, rfl⟩
                go_wp2_with fail
                refine (HE2.out _).mono ?_
                rintro e w2 ⟨rfl, b9⟩
                go_wp2_with fail
                go_roundw
                case rel => exact ⟨k + 1, 2, by omega, .inr (.inr rfl), by go_num, rfl, by have h1 := HZ.out; have h2 := HS.out; show k + 1 + scan nm.data.toList 2 (s.data.toList.drop (k + 1)) = Z; omega, HB.out.trans (b9.mono HB.out.size)⟩
                case measure => simp [intOf]; omega
        · have t0 := byte_not' (c := c) (d := 60) (z := 60) (by rw [h60]; decide) rfl
          have t1 := byte_is' (z := 45) h60 rfl
          clear h60
          rcases hz with rfl | rfl | rfl
          · have HZ : Hid (k + scan nm.data.toList 0 (s.data.toList.drop k) = Z) := HZ0.out
            cases p1 with
            | true =>
              have hfr := sc_front (nm := nm.data.toList) HG.out HQ1.out
              have hk4 : k + 4 ≤ s.size := by have := hfr.2; rw [HSL.out] at this; exact this
              have HS := Lib.hid (hfr.1)
              go_wp2_with fail
              refine (HP1.out _).mono ?_
              rintro e w1 ⟨rfl, rfl⟩
              go_wp2_with fail
              go_roundw
              case rel => exact ⟨k + 2, 1, by omega, .inr (.inl rfl), by go_num, rfl, by have h1 := HZ.out; have h2 := HS.out; show k + 2 + scan nm.data.toList 1 (s.data.toList.drop (k + 2)) = Z; omega, HB.out⟩
              case measure => simp [intOf]; omega
            | false =>
              cases e1 with
              | true =>
                have HS := Lib.hid (sc_exit HG.out (show 0 < 2 by omega) HQ3.out)
                go_wp2_with fail
                refine (HP1.out _).mono ?_
                rintro e w1 ⟨rfl, rfl⟩
                go_wp2_with fail
                refine (HE.out _).mono ?_
                rintro e w2 ⟨rfl, b9⟩
                go_wp2_with fail
                rw [Exit.noGoto_ret]
                go_ret
                exact ⟨by have h1 := HZ.out; have h2 := HS.out; rw [← h1, h2]; rfl, HB.out.trans (b9.mono HB.out.size)⟩
              | false =>
                have HS := Lib.hid (sc_zero HG.out HQ1.out HQ3.out)
                go_wp2_with fail
                refine (HP1.out _).mono ?_
                rintro e w1 ⟨rfl, rfl⟩
                go_wp2_with fail
                refine (HE.out _).mono ?_
                rintro e w2 ⟨rfl, b9⟩
                go_wp2_with fail
                go_roundw
                case rel => exact ⟨k + 1, 0, by omega, .inl rfl, by go_num, rfl, by have h1 := HZ.out; have h2 := HS.out; show k + 1 + scan nm.data.toList 0 (s.data.toList.drop (k + 1)) = Z; omega, HB.out.trans (b9.mono HB.out.size)⟩
                case measure => simp [intOf]; omega
          · have HZ : Hid (k + scan nm.data.toList 1 (s.data.toList.drop k) = Z) := HZ0.out
            cases p2 with
            | true =>
              have HS := Lib.hid (sc_close (q := 1) (nm := nm.data.toList) HG.out (by omega) HQ2.out)
              go_wp2_with fail
              refine (HP2.out _).mono ?_
              rintro e w1 ⟨rfl, rfl⟩
              go_wp2_with fail
              go_roundw
              case rel => exact ⟨k + 1, 0, by omega, .inl rfl, by go_num, rfl, by have h1 := HZ.out; have h2 := HS.out; show k + 1 + scan nm.data.toList 0 (s.data.toList.drop (k + 1)) = Z; omega, HB.out⟩
              case measure => simp [intOf]; omega
            | false =>
              cases e1 with
              | true =>
                have HS := Lib.hid (sc_exit HG.out (show 1 < 2 by omega) HQ3.out)
                go_wp2_with fail
                refine (HP2.out _).mono ?_
                rintro e w1 ⟨rfl, rfl⟩
                go_wp2_with fail
                refine (HE.out _).mono ?_
                rintro e w2 ⟨rfl, b9⟩
                go_wp2_with fail
                rw [Exit.noGoto_ret]
                go_ret
                exact ⟨by have h1 := HZ.out; have h2 := HS.out; rw [← h1, h2]; rfl, HB.out.trans (b9.mono HB.out.size)⟩
              | false =>
                cases bb with
                | true =>
                  have HS := Lib.hid (sc_inner HG.out HQ2.out HQ3.out)
                  rw [HQ5.out, if_pos rfl] at HS
                  go_wp2_with fail
                  refine (HP2.out _).mono ?_
                  rintro e w1 ⟨rfl, rfl⟩
                  go_wp2_with fail
                  refine (HE.out _).mono ?_
                  rintro e w2 ⟨rfl, b8⟩
                  go_wp2_with fail
                  refine (HBG.out _).mono ?_
                  rintro e w3 ⟨rfl, b9⟩
                  go_wp2_with fail
                  go_roundw
                  case rel => exact ⟨k + 1, 2, by omega, .inr (.inr rfl), by go_num, rfl, by have h1 := HZ.out; have h2 := HS.out; show k + 1 + scan nm.data.toList 2 (s.data.toList.drop (k + 1)) = Z; omega, (HB.out.trans (b8.mono HB.out.size)).trans (b9.mono (HB.out.trans (b8.mono HB.out.size)).size)⟩
                  case measure => simp [intOf]; omega
                | false =>
                  have HS := Lib.hid (sc_inner HG.out HQ2.out HQ3.out)
                  rw [HQ5.out, if_neg (by simp)] at HS
                  go_wp2_with fail
                  refine (HP2.out _).mono ?_
                  rintro e w1 ⟨rfl, rfl⟩
                  go_wp2_with fail
                  refine (HE.out _).mono ?_
                  rintro e w2 ⟨rfl, b8⟩
                  go_wp2_with fail
                  refine (HBG.out _).mono ?_
                  rintro e w3 ⟨rfl, b9⟩
                  go_wp2_with fail
                  go_roundw
                  case rel => exact ⟨k + 1, 1, by omega, .inr (.inl rfl), by go_num, rfl, by have h1 := HZ.out; have h2 := HS.out; show k + 1 + scan nm.data.toList 1 (s.data.toList.drop (k + 1)) = Z; omega, (HB.out.trans (b8.mono HB.out.size)).trans (b9.mono (HB.out.trans (b8.mono HB.out.size)).size)⟩
                  case measure => simp [intOf]; omega
          · have HZ : Hid (k + scan nm.data.toList 2 (s.data.toList.drop k) = Z) := HZ0.out
            cases p2 with
            | true =>
              have HS := Lib.hid (sc_close (q := 2) (nm := nm.data.toList) HG.out (by omega) HQ2.out)
              go_wp2_with fail
              refine (HP2.out _).mono ?_
              rintro e w1 ⟨rfl, rfl⟩
              go_wp2_with fail
              go_roundw
              case rel => exact ⟨k + 1, 0, by omega, .inl rfl, by go_num, rfl, by have h1 := HZ.out; have h2 := HS.out; show k + 1 + scan nm.data.toList 0 (s.data.toList.drop (k + 1)) = Z; omega, HB.out⟩
              case measure => simp [intOf]; omega
            | false =>
              cases e2 with
              | true =>
                have HS := Lib.hid (sc_outer (nm := nm.data.toList) HG.out HQ2.out)
                rw [HQ4.out, if_pos rfl] at HS
                go_wp2_with fail
                refine (HP2.out _).mono ?_
                rintro e w1 ⟨rfl, rfl⟩
                go_wp2_with fail
                refine (HE2.out _).mono ?_
                rintro e w2 ⟨rfl, b9⟩
                go_wp2_with fail
                go_roundw
                case rel => exact ⟨k + 1, 1, by omega, .inr (.inl rfl), by go_num, rfl, by have h1 := HZ.out; have h2 := HS.out; show k + 1 + scan nm.data.toList 1 (s.data.toList.drop (k + 1)) = Z; omega, HB.out.trans (b9.mono HB.out.size)⟩
                case measure => simp [intOf]; omega
              | false =>
                have HS := Lib.hid (sc_outer (nm := nm.data.toList) HG.out HQ2.out)
                rw [HQ4.out, if_neg (by simp)] at HS
                go_wp2_with fail
                refine (HP2.out _).mono ?_
                rintro e w1 ⟨rfl, rfl⟩
                go_wp2_with fail
                refine (HE2.out _).mono ?_
                rintro e w2 ⟨rfl, b9⟩
                go_wp2_with fail
                go_roundw
                case rel => exact ⟨k + 1, 2, by omega, .inr (.inr rfl), by go_num, rfl, by have h1 := HZ.out; have h2 := HS.out; show k + 1 + scan nm.data.toList 2 (s.data.toList.drop (k + 1)) = Z; omega, HB.out.trans (b9.mono HB.out.size)⟩
                case measure => simp [intOf]; omega
    · have hki : ¬ (k : Int) < s.size := by omega
      have HS : Hid (scan nm.data.toList z.toNat (s.data.toList.drop k) = 0) := by show _ = _; rw [drop_over hlt]; exact scan_nil _ _
      clear hlt
      go_wp2_with fail
      go_ret
      exact ⟨by have h1 := HZ0.out; have h2 := HS.out; rw [← h1, h2]; rfl, HB.out⟩
theorem isB_below {B b : Nat} {bs : List Value} {w w' : World} (h : IsB B b bs w) (hb : Below w.heap.size w w') : IsB B b bs w' := by
  have key : ∀ p, Lib.BuilderAtF 86 5 B b p bs w → Lib.BuilderAtF 86 5 B b p bs w' := by
    rintro p ⟨h1, v, h2, ⟨h3, h4⟩, h5⟩
    refine ⟨h1, v, (hb.block b (Array.getElem?_eq_some_iff.1 h2).1).trans h2, ⟨h3, ?_⟩, h5⟩
    rcases h4 with h4 | ⟨g, cap, cur, fz, a1, a2, a3, a4⟩
    · exact .inl h4
    · exact .inr ⟨g, cap, cur, fz, a1, a2, (hb.block g (Array.getElem?_eq_some_iff.1 a3).1).trans a3, a4⟩
  exact h.elim (fun x => .inl (key _ x)) (fun x => .inr (key _ x))
theorem one_byte (s : ByteArray) (k : Nat) (c : UInt8) (h : s.data.toList[k]? = some c) : (s.extract k (k + 1)).data.toList = [c] := by
  have hl := (List.getElem?_eq_some_iff.1 h).1
  rw [ext_toList, List.drop_eq_getElem_cons hl, (List.getElem?_eq_some_iff.1 h).2, Nat.add_sub_cancel_left]
  rfl
theorem clean_one (c : UInt8) : cleanR [c] = cleanC c := by simp [cleanR]
set_option maxHeartbeats 3200000 in
set_option maxRecDepth 100000 in
theorem resolved_any (s : ByteArray) (m : Int) (w : World) (hT : RTab w) (hm : MaxOk m w) (hs : s.size ≤ 5000) :
    Calls Tryd.prog 50 #[.string s] w fun e w' => e = .returned (.string (bytesOf (resL s.data.toList))) ∧ Below w.heap.size w w' := by
  obtain ⟨Z, hZ⟩ : ∃ Z, resL s.data.toList = Z := ⟨_, rfl⟩
  rw [hZ]
  have HT := Lib.hid hT
  have HM := Lib.hid hm
  clear hT hm
  have HZ0 : Hid (([] : List UInt8) ++ resL (s.data.toList.drop 0) = Z) := hZ
  clear hZ
  go_enter Tryd.func50, Tryd.ntmps50
  go_wp2
  go_loopw [4] (fun i wr => ∃ (k : Nat) (o : List UInt8), k ≤ s.size ∧ o.length ≤ 4 * k ∧ i = .int .i64 k ∧ Hid (o ++ resL (s.data.toList.drop k) = Z) ∧ IsB w.heap.size w.heap.size (Lib.byteCells o) wr ∧ Below w.heap.size w wr) (fun i _ => s.size - (intOf i).toNat)
  case atStart =>
    exact ⟨0, [], Nat.zero_le _, Nat.zero_le _, rfl, HZ0, Lib.IsBuilderF.of (Lib.fresh_isBuilder 86 5 w), (Below.refl _ w).alloc (Nat.le_refl _) _⟩
  case round =>
    obtain ⟨k, o, hk, ho, rfl, HZ, hI, hb⟩ := hrel
    have hsz := hb.size
    by_cases hlt : k < s.size
    · have hki : (k : Int) < s.size := by omega
      have hlen : (Lib.byteCells o).length ≤ 4 * k := by rw [Lib.byteCells_length]; exact ho
      have HFI := Lib.hid (find_in s k false wr (HT.out.below (hb.mono (Nat.le_refl _))) hlt hs)
      have hg := at_get hlt
      obtain ⟨c, hc⟩ : ∃ c, s[k] = c := ⟨_, rfl⟩
      rw [hc] at hg
      cases hf : findS (s.data.toList.drop k) false with
      | some x =>
        obtain ⟨ch, j⟩ := x
        have hj := find_bounds hf
        rw [List.length_drop] at hj
        have hl : s.data.toList.length = s.size := by simp
        have hv := res_hit hf
        have he := enc_len ch
        have e1 : ret3 k (some (ch, j)) = .tuple #[.string (Utf8.encode ch), .int .i64 ((k + j : Nat) : Int), .bool true] := rfl
        rw [hf, e1] at HFI
        clear e1
        obtain ⟨T, hT⟩ : ∃ T, Utf8.encode ch = T := ⟨_, rfl⟩
        rw [hT] at HFI hv he
        obtain ⟨J, hJ⟩ : ∃ J, k + j = J := ⟨_, rfl⟩
        rw [hJ] at HFI hv
        have HV := Lib.hid hv
        have hTs : T.size ≤ 4 := by simpa using he
        have hJ2 : k + 3 ≤ J := by omega
        have hJs : J ≤ s.size := by omega
        clear hf hj hl hv hT hg he hJ
        go_wp2_with fail
        refine HFI.out.mono ?_
        rintro e w' ⟨rfl, rfl⟩
        go_wp2_with fail
        refine (writeString_k w.heap.size w.heap.size _ T _ hI (by omega) hsz).mono ?_
        rintro e W1 ⟨rfl, h1, b1, k1⟩
        go_wp2_with fail
        go_roundw
        case rel =>
          refine ⟨J, o ++ T.data.toList, hJs, ?_, rfl, ?_, ?_, hb.trans b1⟩
          · rw [List.length_append]; simp; omega
          · show _ = _
            rw [List.append_assoc, ← HV.out]; exact HZ.out
          · rw [Lib.byteCells_append]; exact h1
        case measure => simp [intOf]; omega
      | none =>
        have hv := res_miss hg hf
        have e1 : ret3 k none = .tuple #[.string ⟨#[]⟩, .int .i64 0, .bool false] := rfl
        rw [hf, e1] at HFI
        clear e1
        have HV := Lib.hid hv
        obtain ⟨J, hJ⟩ : ∃ J, k + 1 = J := ⟨_, rfl⟩
        have hJi : (k : Int) + 1 = J := by omega
        have hJs : (J : Int) ≤ s.size := by omega
        have hkJ : (k : Int) ≤ J := by omega
        obtain ⟨X, hX⟩ : ∃ X, s.extract k J = X := ⟨_, rfl⟩
        have hXl : X.data.toList = [c] := by rw [← hX, ← hJ]; exact one_byte s k c hg
        have hXs : X.size ≤ 1000000 := by rw [← hX]; simp; omega
        have HCL := Lib.hid (clean_any X m wr hXs (HM.out.below (hb.mono (Nat.le_refl _))))
        rw [hXl, clean_one] at HCL
        obtain ⟨T, hT⟩ : ∃ T, bytesOf (cleanC c) = T := ⟨_, rfl⟩
        have hTl : T.data.toList = cleanC c := by rw [← hT]; exact bytesOf_data _
        have hTs : T.size ≤ 3 := by rw [← hT, bytesOf_size]; exact (cleanC_len c).1
        rw [hT] at HCL
        have HTL := Lib.hid hTl
        rw [hJ] at HV
        have HJ := Lib.hid hJ
        clear hf hv hg hXl hT hTl hJ
        go_wp2_with fail
        refine HFI.out.mono ?_
        rintro e w' ⟨rfl, rfl⟩
        go_wp2_with fail
        refine HCL.out.mono ?_
        rintro e W0 ⟨rfl, b0⟩
        go_wp2_with fail
        refine (writeString_k w.heap.size w.heap.size _ T _ (isB_below hI b0) (by omega) (Nat.le_trans hsz b0.size)).mono ?_
        rintro e W1 ⟨rfl, h1, b1, k1⟩
        go_wp2_with fail
        go_roundw
        case rel =>
          have hJ := HJ.out
          refine ⟨J, o ++ T.data.toList, by omega, ?_, rfl, ?_, ?_, (hb.trans (b0.mono hsz)).trans b1⟩
          · rw [List.length_append]; simp; omega
          · show _ = _
            rw [List.append_assoc, HTL.out, ← HV.out]; exact HZ.out
          · rw [Lib.byteCells_append]; exact h1
        case measure => simp [intOf]; have := HJ.out; omega
    · have hki : ¬ (k : Int) < s.size := by omega
      have hZo : Hid (Z = o) := by
        have h := HZ.out
        rw [List.drop_of_length_le (by simp; omega)] at h
        show _ = _
        rw [← h]
        simp [resL, resF]
      go_wp2_with fail
      refine (Tryd.Builder_String_any_k w.heap.size w.heap.size o _ hI (by omega)).mono ?_
      rintro e W1 ⟨rfl, _, b1, _⟩
      go_wp2_with fail
      go_ret
      exact ⟨by rw [hZo.out]; rfl, hb.trans b1⟩
end Go.Proofs.YtbpdmbmooboimaaDoor.R11
