/- lazaretref09.Find: the loop of the names. -/
import Derived.Test.YtbpdmbmooboimaaDoorRt1
import Derived.Test.YtbpdmbmooboimaaDoorLNms
import Derived.Test.YtbpdmbmooboimaaDoorLp
import Derived.Deep.Cut
set_option linter.unusedVariables false
set_option linter.unusedSimpArgs false
namespace Go.Proofs.YtbpdmbmooboimaaDoor.R9
open Go.RowKit

def textOf (o : Option (List UInt8 × Nat)) : ByteArray := match o with
  | none => ⟨#[]⟩
  | some q => ⟨q.1.toArray⟩
def nextOf (A : Nat) (o : Option (List UInt8 × Nat)) : Nat := match o with
  | none => 0
  | some q => A + q.2
theorem upd_text (A : Nat) (o : Option (List UInt8 × Nat)) (tx : List UInt8) (e : Nat) (hA : 0 < A := by omega) : textOf (upd o tx e) = if nextOf A o < A + e then ⟨tx.toArray⟩ else textOf o := by
  cases o with
  | none =>
    have h : nextOf A none < A + e := by show 0 < A + e; omega
    rw [if_pos h]
    rfl
  | some q =>
    show textOf (if q.2 < e then some (tx, e) else some q) = if A + q.2 < A + e then _ else _
    by_cases h : q.2 < e
    · rw [if_pos h, if_pos (by omega)]; rfl
    · rw [if_neg h, if_neg (by omega)]
theorem upd_next (A : Nat) (o : Option (List UInt8 × Nat)) (tx : List UInt8) (e : Nat) (hA : 0 < A := by omega) : nextOf A (upd o tx e) = if nextOf A o < A + e then A + e else nextOf A o := by
  cases o with
  | none =>
    have h : nextOf A none < A + e := by show 0 < A + e; omega
    rw [if_pos h]
    rfl
  | some q =>
    show nextOf A (if q.2 < e then some (tx, e) else some q) = if A + q.2 < A + e then _ else A + q.2
    by_cases h : q.2 < e
    · rw [if_pos h, if_pos (by omega)]; rfl
    · rw [if_neg h, if_neg (by omega)]; rfl
theorem best_take (r : List UInt8) (i : Nat) (h : i < namesT.length) : bestL r (namesT.take (i + 1)) = stepN r (bestL r (namesT.take i)) namesT[i] := by
  unfold bestL
  rw [List.take_succ_eq_append_getElem h, List.foldl_append]
  rfl
theorem pref_semi (l : List UInt8) (A n : Nat) : pref (l.drop (A + n)) [59] = ((l.drop A)[n]? == some 59) := by
  unfold pref
  rw [List.getElem?_drop]
  cases hd : l.drop (A + n) with
  | nil =>
    have : l[A + n]? = none := by
      rw [List.getElem?_eq_none]
      have := congrArg List.length hd
      rw [List.length_drop] at this
      simp at this
      omega
    rw [this]
    rfl
  | cons x t =>
    have : l[A + n]? = some x := by
      have h1 : (l.drop (A + n))[0]? = some x := by rw [hd]; rfl
      rw [List.getElem?_drop] at h1
      exact h1
    rw [this]
    simp
set_option maxHeartbeats 3200000 in
set_option maxRecDepth 100000 in
theorem bloop_any (code : Code) (hcode : loopOf 20 Tryd.f52 = some code) (R : Act → World → Prop) {x2 x3 x4 x5 x6 x7 x8 x9 x10 x11 x12 x13 x14 x19 x20 x21 x22 x23 x24 x25 x26 x27 x28 x29 x30 x31 x32 x33 x34 x35 x36 x37 x38 x39 x40 x41 x42 x43 x44 x45 x46 x47 x48 x49 x50 x51 x52 x53 x54 x55 x56 x57 x58 x59 x60 x61 x62 x63 x64 x65 x66 x67 x68 x69 x70 x71 x72 x73 x74 x75 x76 x77 x78 x79 x80 x81 x82 x83 x84 x85 x86 x87 x88 x89 x90 x91 x92 x93 x94 x95 x96 x97 x98 x99 x100 x101 x102 x103 x104 x105 x106 x107 x108 x109 x110 x111 x112 x113 x114 x115 x116 x117 x118 x119 x120 x121 x122 x123 x124 x125 x126 x127 x128 x129 x130 x131 x132 x133 x134 x135 x136 x137 x138 x139 x140 x141 x142 x143 x144 x145 x146 x147 x148 x149 x150 x151 x152 x153 x154 x155 x156 x157 x158 x159 x160 x161 x162 x163 x164 x165 x166 x167 x168 x169 x170 : Value} {ds : List Deferred} {w : World} (s : ByteArray) (a A : Nat) (hA : a + 1 = A) (ha : A ≤ s.size) (hs : s.size ≤ 5000) (b : Nat)
    (hcell : ∀ i (h : i < namesT.length), w.cell? ⟨b, i * 3, none⟩ = some (.string ⟨namesT[i].1.toArray⟩) ∧ w.cell? ⟨b, i * 3 + 1, none⟩ = some (.string ⟨namesT[i].2.1.toArray⟩) ∧ w.cell? ⟨b, i * 3 + 2, none⟩ = some (.bool namesT[i].2.2))
    (hQ : ∀ (u18 u19 u88 u89 u90 u91 u92 u93 u94 u95 u96 u97 u98 u99 u100 u101 u102 u103 u104 u105 u106 u107 u108 u109 u110 u111 u112 u113 u114 u115 u116 u117 u118 u119 u120 u121 u122 u123 u124 u125 u126 u127 u128 u129 u130 u131 u132 : Value), R ⟨List.toArray (.string s :: .int .i64 a :: x2 :: x3 :: x4 :: x5 :: x6 :: x7 :: x8 :: x9 :: x10 :: x11 :: x12 :: x13 :: x14 :: .slice (some ⟨b, 0, none⟩) 52 52 :: .string (textOf (bestL (s.data.toList.drop A) namesT)) :: .int .i64 (nextOf A (bestL (s.data.toList.drop A) namesT) : Nat) :: u18 :: u19 :: x20 :: x21 :: x22 :: x23 :: x24 :: x25 :: x26 :: x27 :: x28 :: x29 :: x30 :: x31 :: x32 :: x33 :: x34 :: x35 :: x36 :: x37 :: x38 :: x39 :: x40 :: x41 :: x42 :: x43 :: x44 :: x45 :: x46 :: x47 :: x48 :: x49 :: x50 :: x51 :: x52 :: x53 :: x54 :: x55 :: x56 :: x57 :: x58 :: x59 :: x60 :: x61 :: x62 :: x63 :: x64 :: x65 :: x66 :: x67 :: x68 :: x69 :: x70 :: x71 :: x72 :: x73 :: x74 :: x75 :: x76 :: x77 :: x78 :: x79 :: x80 :: x81 :: x82 :: x83 :: x84 :: x85 :: x86 :: x87 :: u88 :: u89 :: u90 :: u91 :: u92 :: u93 :: u94 :: u95 :: u96 :: u97 :: u98 :: u99 :: u100 :: u101 :: u102 :: u103 :: u104 :: u105 :: u106 :: u107 :: u108 :: u109 :: u110 :: u111 :: u112 :: u113 :: u114 :: u115 :: u116 :: u117 :: u118 :: u119 :: u120 :: u121 :: u122 :: u123 :: u124 :: u125 :: u126 :: u127 :: u128 :: u129 :: u130 :: u131 :: u132 :: x133 :: x134 :: x135 :: x136 :: x137 :: x138 :: x139 :: x140 :: x141 :: x142 :: x143 :: x144 :: x145 :: x146 :: x147 :: x148 :: x149 :: x150 :: x151 :: x152 :: x153 :: x154 :: x155 :: x156 :: x157 :: x158 :: x159 :: x160 :: x161 :: x162 :: x163 :: x164 :: x165 :: x166 :: x167 :: x168 :: x169 :: x170 :: []), ds⟩ w) :
    code.wp Tryd.prog (LoopQ 2 R) ⟨List.toArray (.string s :: .int .i64 a :: x2 :: x3 :: x4 :: x5 :: x6 :: x7 :: x8 :: x9 :: x10 :: x11 :: x12 :: x13 :: x14 :: .slice (some ⟨b, 0, none⟩) 52 52 :: .string ⟨#[]⟩ :: .int .i64 0 :: .int .i64 0 :: x19 :: x20 :: x21 :: x22 :: x23 :: x24 :: x25 :: x26 :: x27 :: x28 :: x29 :: x30 :: x31 :: x32 :: x33 :: x34 :: x35 :: x36 :: x37 :: x38 :: x39 :: x40 :: x41 :: x42 :: x43 :: x44 :: x45 :: x46 :: x47 :: x48 :: x49 :: x50 :: x51 :: x52 :: x53 :: x54 :: x55 :: x56 :: x57 :: x58 :: x59 :: x60 :: x61 :: x62 :: x63 :: x64 :: x65 :: x66 :: x67 :: x68 :: x69 :: x70 :: x71 :: x72 :: x73 :: x74 :: x75 :: x76 :: x77 :: x78 :: x79 :: x80 :: x81 :: x82 :: x83 :: x84 :: x85 :: x86 :: x87 :: x88 :: x89 :: x90 :: x91 :: x92 :: x93 :: x94 :: x95 :: x96 :: x97 :: x98 :: x99 :: x100 :: x101 :: x102 :: x103 :: x104 :: x105 :: x106 :: x107 :: x108 :: x109 :: x110 :: x111 :: x112 :: x113 :: x114 :: x115 :: x116 :: x117 :: x118 :: x119 :: x120 :: x121 :: x122 :: x123 :: x124 :: x125 :: x126 :: x127 :: x128 :: x129 :: x130 :: x131 :: x132 :: x133 :: x134 :: x135 :: x136 :: x137 :: x138 :: x139 :: x140 :: x141 :: x142 :: x143 :: x144 :: x145 :: x146 :: x147 :: x148 :: x149 :: x150 :: x151 :: x152 :: x153 :: x154 :: x155 :: x156 :: x157 :: x158 :: x159 :: x160 :: x161 :: x162 :: x163 :: x164 :: x165 :: x166 :: x167 :: x168 :: x169 :: x170 :: []), ds⟩ w := by
  have hlit := Option.some.inj hcode.symm
  subst hlit
  obtain ⟨r, hr⟩ : ∃ r, s.data.toList.drop A = r := ⟨_, rfl⟩
  rw [hr] at hQ
  have HCELL := Lib.hid hcell
  have HQ := Lib.hid hQ
  have HR := Lib.hid hr
  have HL : Hid (namesT.length = 52) := rfl
  clear hcell hQ hr
  go_loop [16, 17, 18] (fun tx nx k => ∃ i : Nat, i ≤ 52 ∧ k = .int .i64 i ∧ tx = .string (textOf (bestL r (namesT.take i))) ∧ nx = .int .i64 (nextOf A (bestL r (namesT.take i)) : Nat)) (fun _ _ k => 52 - (intOf k).toNat)
  case atStart => exact ⟨0, by omega, rfl, rfl, rfl⟩
  case round =>
    obtain ⟨i, hi, rfl, rfl, rfl⟩ := hrel
    by_cases hlt : i < 52
    · have hli : i < namesT.length := hlt
      have hii : (i : Int) < 52 := by omega
      have hi0 : (0 : Int) ≤ i := by omega
      have HBT := best_take r i hli
      obtain ⟨c0, c1, c2⟩ := HCELL.out i hli
      obtain ⟨h2, h7⟩ := (names_all _ (List.getElem_mem hli)).1
      generalize namesT[i] = x at HBT c0 c1 c2 h2 h7
      obtain ⟨nm, tx, lo⟩ := x
      simp only at HBT c0 c1 c2 h2 h7
      clear hli
      obtain ⟨NM, hNM⟩ : ∃ NM : ByteArray, (⟨nm.toArray⟩ : ByteArray) = NM := ⟨_, rfl⟩
      obtain ⟨TX, hTX⟩ : ∃ TX : ByteArray, (⟨tx.toArray⟩ : ByteArray) = TX := ⟨_, rfl⟩
      rw [hNM] at c0
      rw [hTX] at c1
      have HTX := Lib.hid hTX
      have hnl : NM.data.toList = nm := by rw [← hNM]
      have hns : NM.size = nm.length := by rw [← hnl]; simp
      obtain ⟨T0, hT0⟩ : ∃ T, textOf (bestL r (namesT.take i)) = T := ⟨_, rfl⟩
      obtain ⟨N0, hN0⟩ : ∃ T, nextOf A (bestL r (namesT.take i)) = T := ⟨_, rfl⟩
      rw [hT0, hN0]
      have HT0 := Lib.hid hT0
      have HN0 := Lib.hid hN0
      obtain ⟨E, hE⟩ : ∃ E, A + nm.length = E := ⟨_, rfl⟩
      have hE2 : A + NM.size = E := by omega
      have hAi : (a : Int) + 1 = (A : Int) := by omega
      have hEi : (A : Int) + (NM.size : Int) = (E : Int) := by omega
      have HB1 := begins_any s NM A w ha hs (by omega)
      rw [hnl, HR.out] at HB1
      by_cases hp : pref r nm = true
      · have hEs : E ≤ s.size := by
          have h1 := congrArg List.length (pref_take hp)
          rw [List.length_take, ← HR.out, List.length_drop] at h1
          have h3 : s.data.toList.length = s.size := by simp
          omega
        have HB2 := begins_any s ⟨#[59]⟩ E w hEs hs (by decide)
        have h59 : pref (s.data.toList.drop E) (⟨#[59]⟩ : ByteArray).data.toList = (r[nm.length]? == some 59) := by
          rw [← hE, ← HR.out]
          exact pref_semi _ _ _
        rw [h59] at HB2
        rw [hp] at HB1
        have HH1 := Lib.hid HB1
        have HEE := Lib.hid hE
        have hA0 : 0 < A := by omega
        by_cases hs59 : r[nm.length]? = some 59
        · have hbt : (r[nm.length]? == some 59) = true := by rw [hs59]; rfl
          rw [hbt] at HB2
          have HH2 := Lib.hid HB2
          have HST : Hid (bestL r (namesT.take (i + 1)) = upd (bestL r (namesT.take i)) tx (nm.length + 1)) := by show _ = _; rw [HBT, stepN, endOf]; simp only [hp, hs59, if_true]
          obtain ⟨E1, hE1⟩ : ∃ E1, E + 1 = E1 := ⟨_, rfl⟩
          have hE1i : (E : Int) + 1 = (E1 : Int) := by omega
          have hE1b : E1 ≤ 10000 := by omega
          clear HBT HB1 HB2 h59 hbt hp hT0 hN0 hNM hTX hnl hns hE2 hE
          go_wp2_with fail
          refine HH1.out.mono ?_
          rintro e w' ⟨rfl, rfl⟩
          go_wp2_with fail
          refine HH2.out.mono ?_
          rintro e w' ⟨rfl, rfl⟩
          by_cases hgt : N0 < E1
          · have hgti : (N0 : Int) < E1 := by omega
            have HTU : Hid (textOf (bestL r (namesT.take (i + 1))) = TX) := by show _ = _; rw [HST.out, upd_text A _ _ _ hA0, HN0.out, if_pos (by have := HEE.out; omega)]; exact HTX.out
            have HNU : Hid (nextOf A (bestL r (namesT.take (i + 1))) = E1) := by show _ = _; rw [HST.out, upd_next A _ _ _ hA0, HN0.out, if_pos (by have := HEE.out; omega)]; have := HEE.out; omega
            clear hgt
            go_wp2_with fail
            go_round
            case rel => exact ⟨i + 1, by omega, by go_num, by rw [HTU.out], by rw [HNU.out]⟩
            case measure => simp [intOf]; omega
          · have hgti : ¬ (N0 : Int) < E1 := by omega
            have HTU : Hid (textOf (bestL r (namesT.take (i + 1))) = T0) := by show _ = _; rw [HST.out, upd_text A _ _ _ hA0, HN0.out, if_neg (by have := HEE.out; omega)]; exact HT0.out
            have HNU : Hid (nextOf A (bestL r (namesT.take (i + 1))) = N0) := by show _ = _; rw [HST.out, upd_next A _ _ _ hA0, HN0.out, if_neg (by have := HEE.out; omega)]
            clear hgt
            go_wp2_with fail
            go_round
            case rel => exact ⟨i + 1, by omega, by go_num, by rw [HTU.out], by rw [HNU.out]⟩
            case measure => simp [intOf]; omega
        · have hbt : (r[nm.length]? == some 59) = false := by rw [beq_eq_false_iff_ne]; exact hs59
          rw [hbt] at HB2
          have HH2 := Lib.hid HB2
          cases lo with
          | false =>
            have HST : Hid (bestL r (namesT.take (i + 1)) = bestL r (namesT.take i)) := by show _ = _; rw [HBT, stepN, endOf]; simp only [hp, if_true, if_neg hs59, Bool.false_eq_true, if_false]
            clear HBT HB1 HB2 h59 hbt hp hT0 hN0 hNM hTX hnl hns hE2 hE hs59
            go_wp2_with fail
            refine HH1.out.mono ?_
            rintro e w' ⟨rfl, rfl⟩
            go_wp2_with fail
            refine HH2.out.mono ?_
            rintro e w' ⟨rfl, rfl⟩
            go_wp2_with fail
            go_round
            case rel => exact ⟨i + 1, by omega, by go_num, by rw [HST.out, HT0.out], by rw [HST.out, HN0.out]⟩
            case measure => simp [intOf]; omega
          | true =>
            have HST : Hid (bestL r (namesT.take (i + 1)) = upd (bestL r (namesT.take i)) tx nm.length) := by show _ = _; rw [HBT, stepN, endOf]; simp only [hp, if_true, if_neg hs59]
            clear HBT HB1 HB2 h59 hbt hp hT0 hN0 hNM hTX hnl hns hE2 hE hs59
            go_wp2_with fail
            refine HH1.out.mono ?_
            rintro e w' ⟨rfl, rfl⟩
            go_wp2_with fail
            refine HH2.out.mono ?_
            rintro e w' ⟨rfl, rfl⟩
            by_cases hgt : N0 < E
            · have hgti : (N0 : Int) < E := by omega
              have HTU : Hid (textOf (bestL r (namesT.take (i + 1))) = TX) := by show _ = _; rw [HST.out, upd_text A _ _ _ hA0, HN0.out, if_pos (by have := HEE.out; omega)]; exact HTX.out
              have HNU : Hid (nextOf A (bestL r (namesT.take (i + 1))) = E) := by show _ = _; rw [HST.out, upd_next A _ _ _ hA0, HN0.out, if_pos (by have := HEE.out; omega)]; have := HEE.out; omega
              clear hgt
              go_wp2_with fail
              go_round
              case rel => exact ⟨i + 1, by omega, by go_num, by rw [HTU.out], by rw [HNU.out]⟩
              case measure => simp [intOf]; omega
            · have hgti : ¬ (N0 : Int) < E := by omega
              have HTU : Hid (textOf (bestL r (namesT.take (i + 1))) = T0) := by show _ = _; rw [HST.out, upd_text A _ _ _ hA0, HN0.out, if_neg (by have := HEE.out; omega)]; exact HT0.out
              have HNU : Hid (nextOf A (bestL r (namesT.take (i + 1))) = N0) := by show _ = _; rw [HST.out, upd_next A _ _ _ hA0, HN0.out, if_neg (by have := HEE.out; omega)]
              clear hgt
              go_wp2_with fail
              go_round
              case rel => exact ⟨i + 1, by omega, by go_num, by rw [HTU.out], by rw [HNU.out]⟩
              case measure => simp [intOf]; omega
      · have hpf : pref r nm = false := by simpa using hp
        have HST : Hid (bestL r (namesT.take (i + 1)) = bestL r (namesT.take i)) := by show _ = _; rw [HBT, stepN, endOf]; simp only [hpf, Bool.false_eq_true, if_false]
        rw [hpf] at HB1
        have HH1 := Lib.hid HB1
        clear HBT HB1 hp hpf hT0 hN0 hNM hTX hnl hns hE2 hE
        go_wp2_with fail
        refine HH1.out.mono ?_
        rintro e w' ⟨rfl, rfl⟩
        go_wp2_with fail
        go_round
        case rel => exact ⟨i + 1, by omega, by go_num, by rw [HST.out, HT0.out], by rw [HST.out, HN0.out]⟩
        case measure => simp [intOf]; omega
    · obtain rfl : i = 52 := by omega
      rw [List.take_of_length_le (by rw [HL.out]; omega)]
      go_wp2_with fail
      exact ⟨rfl, HQ.out _ _ _ _ _ _ _ _ _ _ _ _ _ _ _ _ _ _ _ _ _ _ _ _ _ _ _ _ _ _ _ _ _ _ _ _ _ _ _ _ _ _ _ _ _ _ _⟩
end Go.Proofs.YtbpdmbmooboimaaDoor.R9
