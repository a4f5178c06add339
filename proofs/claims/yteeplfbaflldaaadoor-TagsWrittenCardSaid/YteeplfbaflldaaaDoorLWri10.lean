/- lazaretlaw10.TagsWritten. -/
import Derived.Test.YteeplfbaflldaaaDoorTg8
import Derived.Test.YteeplfbaflldaaaDoorTg9
set_option linter.unusedVariables false
set_option linter.unusedSimpArgs false
namespace Go.Proofs.YteeplfbaflldaaaDoor.T10
open Go.RowKit R9

def txtL (l : List At) : List UInt8 := l.flatMap fun a => attrT (plainL a.1) a.2
def fL (a : At) : At := (plainL a.1, oL a.2)
theorem rest_many : ∀ (l : List At) (r : List UInt8) (k : Nat) (acc : List At) (b : Bool) (i : Nat), restF (k + 2 * l.length) (txtL l ++ r) acc b i = restF k r (acc ++ l.map fL) b (i + (txtL l).length)
  | [], r, k, acc, b, i => by simp [txtL]
  | a :: t, r, k, acc, b, i => by
    have e : txtL (a :: t) ++ r = attrT (plainL a.1) a.2 ++ (txtL t ++ r) := by simp [txtL]
    rw [e, show k + 2 * (a :: t).length = (k + 2 * t.length) + 2 by simp; omega, rest_written, rest_many t]
    congr 1
    · simp [fL]
    · have : (txtL (a :: t)).length = (attrT (plainL a.1) a.2).length + (txtL t).length := by simp [txtL]
      rw [this]; omega
theorem written_read (n : List UInt8) (l : List At) (self : Bool) (tail : List UInt8) :
    readL ([97, 98, 62] ++ 60 :: (plainL n ++ (txtL l ++ ((if self = true then [47, 62] else [62]) ++ tail)))) 3 = some ⟨false, plainL n, (keepL (l.map fL)).1, (keepL (l.map fL)).2, self, 4 + (plainL n).length + (txtL l).length + (if self = true then 2 else 1)⟩ := by
  have h1 : restF (3 + 2 * l.length) (txtL l ++ ((if self = true then [47, 62] else [62]) ++ tail)) [] false ([97, 98, 62].length + 1 + (plainL n).length) = some (l.map fL, self, 4 + (plainL n).length + (txtL l).length + (if self = true then 2 else 1)) := by
    rw [rest_many]
    cases self with
    | true =>
      show some _ = some _
      simp
    | false =>
      show some _ = some _
      simp
  refine read_start (pre := [97, 98, 62]) (nm := plainL n) (plain_ok n) (plain_al n) (fun c hc => ?_) h1
  cases l with
  | nil =>
    cases self with
    | true => simp [txtL] at hc; subst hc; exact .inr rfl
    | false => simp [txtL] at hc; subst hc; exact .inr rfl
  | cons a t =>
    have e : txtL (a :: t) = 32 :: ((plainL a.1 ++ 61 :: 34 :: (escL a.2 ++ [34])) ++ txtL t) := by simp [txtL, attrT]
    rw [e] at hc
    simp at hc
    subst hc
    exact .inl rfl
theorem txt_snoc (l : List At) (k : Nat) (a : At) (h : l[k]? = some a) : txtL (l.take (k + 1)) = txtL (l.take k) ++ attrT (plainL a.1) a.2 ∧ (l.take (k + 1)).map fL = (l.take k).map fL ++ [fL a] := by
  obtain ⟨h1, h2⟩ := List.getElem?_eq_some_iff.1 h
  rw [List.take_succ_eq_append_getElem h1, h2]
  exact ⟨by simp [txtL], by simp⟩
theorem any_snoc {l : List At} {n : List UInt8} {j : Nat} {x : At} (h : l[j]? = some x) : (l.take (j + 1)).any (fun y => y.1 == n) = ((l.take j).any (fun y => y.1 == n) || x.1 == n) := by
  obtain ⟨h1, h2⟩ := List.getElem?_eq_some_iff.1 h
  rw [List.take_succ_eq_append_getElem h1, h2]
  simp

set_option maxHeartbeats 12800000 in
set_option maxRecDepth 100000 in
theorem tagsWritten_law (name : ByteArray) (lv : Value) (ats : List At) (self : Bool) (m : Int) (w : World) (hl : AttIn w lv ats) (hT : RTab w) (hm : MaxOk m w) :
    Calls Tryd.prog 4 #[.string name, lv, .bool self] w fun e w' => e = .returned (.bool true) ∧ Below w.heap.size w w' := by
  have HT := Lib.hid hT
  have HM := Lib.hid hm
  have HTG := Lib.hid (fun W (hb : Below w.heap.size w W) => tagged_any m W (HT.out.below hb) (HM.out.below hb))
  obtain ⟨la, lc, rfl, hl2, hl3, hl4⟩ := hl
  have HL4 := Lib.hid hl4
  obtain ⟨n, hn⟩ : ∃ n, ats.length = n := ⟨_, rfl⟩
  have HN := Lib.hid hn
  rw [hn] at hl2 ⊢
  unfold maxLen at hl3
  clear hT hm hl4 hn
  by_cases hs1 : (20 : Int) < name.size
  · clear hl2 hl3
    go_enter Tryd.func4, Tryd.ntmps4
    go_wp2_with fail
    refine (HTG.out _ (Below.refl _ _)).mono ?_
    rintro e w' ⟨rfl, b⟩
    go_wp2_with fail
    go_ret
    exact ⟨by exact rfl, b⟩
  · by_cases hs2 : (10 : Int) < n
    · clear hl2 hl3
      go_enter Tryd.func4, Tryd.ntmps4
      go_wp2_with fail
      refine (HTG.out _ (Below.refl _ _)).mono ?_
      rintro e w' ⟨rfl, b⟩
      go_wp2_with fail
      go_ret
      exact ⟨by exact rfl, b⟩
    · have HPL := Lib.hid (fun W => plain_any name W (by omega))
      obtain ⟨nb, hnb⟩ : ∃ X : ByteArray, (⟨(plainL name.data.toList).toArray⟩ : ByteArray) = X := ⟨_, rfl⟩
      have hnl : Hid (nb.data.toList = plainL name.data.toList) := by show _ = _; rw [← hnb]
      have HNB := Lib.hid hnb
      rw [hnb] at HPL
      have nbs : nb.size ≤ 21 := by
        rw [← hnb]; show (plainL name.data.toList).toArray.size ≤ _; rw [List.size_toArray]; simp [plainL]; omega
      obtain ⟨S0, hS0⟩ : ∃ S, (⟨#[97, 98, 62, 60]⟩ : ByteArray) ++ nb = S := ⟨_, rfl⟩
      have hS0s : Hid (S0.size ≤ 25) := by show _ ≤ _; rw [← hS0, ByteArray.size_append, show (⟨#[97, 98, 62, 60]⟩ : ByteArray).size = 4 from rfl]; omega
      have hS0l : Hid (S0.data.toList = [97, 98, 62, 60] ++ plainL name.data.toList ++ txtL (ats.take 0)) := by
        show _ = _
        rw [← hS0, app_data, hnl.out]
        simp [txtL]
      clear hnb hl2 hl3
      go_enter Tryd.func4, Tryd.ntmps4
      go_wp2_with fail
      refine (HPL.out _).mono ?_
      rintro e w1 ⟨rfl, b1⟩
      have HB1 := Lib.hid b1
      clear b1
      obtain ⟨W1, hW1⟩ : ∃ W1, W1 = w1.alloc (.cells #[.int .i64 2, .string nb, .string ⟨#[]⟩, .slice none 0 0, .bool false, .bool self, .bool false, .int .i64 3, .int .i64 0] 25) := ⟨_, rfl⟩
      have k1 : W1.heap[w1.heap.size]? = some (.cells #[.int .i64 2, .string nb, .string ⟨#[]⟩, .slice none 0 0, .bool false, .bool self, .bool false, .int .i64 3, .int .i64 0] 25 (0, 0)) := by
        rw [hW1]; exact heap_alloc_new w1 _
      have BW1 : Hid (Below w.heap.size w W1) := by show Below _ _ _; rw [hW1]; exact HB1.out.alloc HB1.out.size _
      have hq1 : w1.heap.size < W1.heap.size := by rw [hW1]; simp
      have HW1 := Lib.hid hW1
      have K1 := Lib.hid k1
      clear hW1 k1
      go_upto_region 4 with fail
      rw [← HW1.out]
      go_wp2_with fail
      refine (HPL.out _).mono ?_
      rintro e w2 ⟨rfl, b2⟩
      obtain ⟨q, hq⟩ : ∃ q, w1.heap.size = q := ⟨_, rfl⟩
      have hqw : w.heap.size ≤ q := by rw [← hq]; exact HB1.out.size
      have KQ : Hid (w2.heap[q]? = some (.cells #[.int .i64 2, .string nb, .string ⟨#[]⟩, .slice none 0 0, .bool false, .bool self, .bool false, .int .i64 3, .int .i64 0] 25 (0, 0))) := by
        show _ = _
        rw [← hq]
        exact (b2.block _ hq1).trans K1.out
      have BW2 : Hid (Below w.heap.size w w2) := BW1.out.trans (b2.mono BW1.out.size)
      have hq2 : q + 1 ≤ w2.heap.size := by have := b2.size; omega
      have HQ := Lib.hid hq
      clear b2 hq1
      go_upto_region 6 with fail
      go_loopw [8, 9] (fun v i wr => ∃ (k : Nat) (S : ByteArray) (oa : Option Addr) (oc : Nat), k ≤ n ∧ i = .int .i64 k ∧ v = .string S ∧ S.size ≤ 25 + 425 * k ∧ Hid (S.data.toList = [97, 98, 62, 60] ++ plainL name.data.toList ++ txtL (ats.take k)) ∧
          Hid (wr.heap[q]? = some (.cells #[.int .i64 2, .string nb, .string ⟨#[]⟩, .slice oa (keepL ((ats.take k).map fL)).1.length oc, .bool (keepL ((ats.take k).map fL)).2, .bool self, .bool false, .int .i64 3, .int .i64 0] 25 (0, 0))) ∧
          Hid (wr.ownsRow (q + 1) 32 2 (.slice oa (keepL ((ats.take k).map fL)).1.length oc) (keepL ((ats.take k).map fL)).1.length (attC (keepL ((ats.take k).map fL)).1)) ∧ q + 1 ≤ wr.heap.size ∧ Hid (Below w.heap.size w wr)) (fun _ i _ => n - (intOf i).toNat)
      case atStart => exact ⟨0, S0, none, 0, Nat.zero_le _, rfl, rfl, hS0s.out, hS0l, KQ.out, World.ownsRow_nil _ _ _ _, hq2, BW2⟩
      case round =>
        obtain ⟨k, S, oa, oc, hk, rfl, rfl, hSs, HS, HKQ, HOWN, hsz, HB⟩ := hrel
        obtain ⟨K, hK⟩ : ∃ K, keepL ((ats.take k).map fL) = K := ⟨_, rfl⟩
        rw [hK] at HKQ HOWN
        have HK := Lib.hid hK
        have hKl : K.1.length ≤ k := by
          rw [← hK]
          refine Nat.le_trans (keep_len _) ?_
          rw [List.length_map]
          exact List.length_take_le _ _
        clear hK hS0 hS0s hS0l KQ BW2
        by_cases hlt : k < n
        · have hki : (k : Int) < n := by omega
          have hlen : k < ats.length := by rw [HN.out]; exact hlt
          have hne : ats ≠ [] := by intro e; rw [e] at hlen; simp at hlen
          obtain ⟨b1, o1, rfl, hb1, x⟩ := HL4.out hne
          obtain ⟨x0, x1⟩ := x k hlen
          obtain ⟨a, ha⟩ : ∃ a, ats[k] = a := ⟨_, rfl⟩
          have HA : Hid (ats[k]? = some a) := by show _ = _; rw [← ha]; exact List.getElem?_eq_getElem hlen
          rw [ha] at x0 x1
          obtain ⟨xb, hxb⟩ : ∃ X : ByteArray, (⟨a.1.toArray⟩ : ByteArray) = X := ⟨_, rfl⟩
          obtain ⟨yb, hyb⟩ : ∃ X : ByteArray, (⟨a.2.toArray⟩ : ByteArray) = X := ⟨_, rfl⟩
          have hxl : Hid (xb.data.toList = a.1) := by show _ = _; rw [← hxb]
          have hyl : Hid (yb.data.toList = a.2) := by show _ = _; rw [← hyb]
          rw [hxb] at x0
          rw [hyb] at x1
          have X0 := (HB.out.cell (p := ⟨b1, o1 + k * 2, none⟩) hb1).trans x0
          have X1 := (HB.out.cell (p := ⟨b1, o1 + k * 2 + 1, none⟩) hb1).trans x1
          have HX0 := Lib.hid x0
          have HX1 := Lib.hid x1
          have HBL := Lib.hid hb1
          clear x x0 x1 ha hxb hyb hb1
          by_cases hz1 : (60 : Int) < xb.size
          · go_wp2_with fail
            refine (HTG.out _ HB.out).mono ?_
            rintro e w' ⟨rfl, b⟩
            go_wp2_with fail
            go_ret
            exact ⟨by exact rfl, HB.out.trans (b.mono HB.out.size)⟩
          · by_cases hz2 : (60 : Int) < yb.size
            · go_wp2_with fail
              refine (HTG.out _ HB.out).mono ?_
              rintro e w' ⟨rfl, b⟩
              go_wp2_with fail
              go_ret
              exact ⟨by exact rfl, HB.out.trans (b.mono HB.out.size)⟩
            · have HPX := Lib.hid (fun W => plain_any xb W (by omega))
              have HWY := Lib.hid (fun W => written_any yb W (by omega))
              obtain ⟨pb, hpb⟩ : ∃ X : ByteArray, (⟨(plainL xb.data.toList).toArray⟩ : ByteArray) = X := ⟨_, rfl⟩
              obtain ⟨vb, hvb⟩ : ∃ X : ByteArray, (⟨(34 :: (escL yb.data.toList ++ [34])).toArray⟩ : ByteArray) = X := ⟨_, rfl⟩
              obtain ⟨ob, hob⟩ : ∃ X : ByteArray, (⟨(oL yb.data.toList).toArray⟩ : ByteArray) = X := ⟨_, rfl⟩
              have hpl : Hid (pb.data.toList = plainL a.1) := by show _ = _; rw [← hpb, hxl.out]
              have hvl : Hid (vb.data.toList = 34 :: (escL a.2 ++ [34])) := by show _ = _; rw [← hvb, hyl.out]
              have HPB : Hid ((⟨(plainL a.1).toArray⟩ : ByteArray) = pb) := by show _ = _; rw [← hpb, hxl.out]
              have HOB : Hid ((⟨(oL a.2).toArray⟩ : ByteArray) = ob) := by show _ = _; rw [← hob, hyl.out]
              rw [hpb] at HPX
              rw [hvb, hob] at HWY
              have pbs : pb.size ≤ 61 := by
                rw [← hpb]; show (plainL xb.data.toList).toArray.size ≤ _; rw [List.size_toArray]; simp [plainL]; omega
              have vbs : vb.size ≤ 362 := by
                have h1 := esc_len yb.data.toList
                have h2 : yb.data.toList.length = yb.size := by simp
                rw [← hvb]; show (34 :: (escL yb.data.toList ++ [34])).toArray.size ≤ _; rw [List.size_toArray]; simp; omega
              obtain ⟨A1, hA1⟩ : ∃ X, S ++ (⟨#[32]⟩ : ByteArray) = X := ⟨_, rfl⟩
              obtain ⟨A2, hA2⟩ : ∃ X, A1 ++ pb = X := ⟨_, rfl⟩
              obtain ⟨A3, hA3⟩ : ∃ X, A2 ++ (⟨#[61]⟩ : ByteArray) = X := ⟨_, rfl⟩
              obtain ⟨A4, hA4⟩ : ∃ X, A3 ++ vb = X := ⟨_, rfl⟩
              have e1 : A1.size = S.size + 1 := by rw [← hA1, ByteArray.size_append]; rfl
              have e2 : A2.size = A1.size + pb.size := by rw [← hA2, ByteArray.size_append]
              have e3 : A3.size = A2.size + 1 := by rw [← hA3, ByteArray.size_append]; rfl
              have e4 : A4.size = A3.size + vb.size := by rw [← hA4, ByteArray.size_append]
              have f0 : S.size ≤ 5000 := by omega
              have f1 : A1.size ≤ 5000 := by omega
              have f2 : A2.size ≤ 5000 := by omega
              have f3 : A3.size ≤ 5000 := by omega
              have f4 : Hid (A4.size ≤ 25 + 425 * (k + 1)) := by show _ ≤ _; omega
              have f5 : vb.size ≤ 5000 := by omega
              have f6 : pb.size ≤ 5000 := by omega
              have HS4 : Hid (A4.data.toList = [97, 98, 62, 60] ++ plainL name.data.toList ++ txtL (ats.take (k + 1))) := by
                show _ = _
                rw [(txt_snoc ats k a HA.out).1, ← hA4, ← hA3, ← hA2, ← hA1, app_data, app_data, app_data, app_data, HS.out, hpl.out, hvl.out]
                simp [attrT]
              have HM1 : Hid (keepL ((ats.take (k + 1)).map fL) = addA K (plainL a.1, oL a.2)) := by
                show _ = _
                rw [(txt_snoc ats k a HA.out).2, keep_snoc, HK.out]
                rfl
              clear hpb hvb hob e1 e2 e3 e4 pbs vbs
              go_wp2_with fail
              refine (HPX.out _).mono ?_
              rintro e wa ⟨rfl, ba⟩
              have BA : Hid (Below w.heap.size w wa) := HB.out.trans (ba.mono HB.out.size)
              have KA : Hid (wa.heap[q]? = _) := (ba.block q (by omega)).trans HKQ.out
              have OA := Lib.hid (owns_below HOWN.out ba)
              have sza := Nat.le_trans hsz ba.size
              have X1a := (BA.out.cell (p := ⟨b1, o1 + k * 2 + 1, none⟩) HBL.out).trans HX1.out
              clear ba X0 X1
              go_wp2_with fail
              refine (HWY.out _).mono ?_
              rintro e wb ⟨rfl, bb⟩
              have BB : Hid (Below w.heap.size w wb) := BA.out.trans (bb.mono BA.out.size)
              have kb : wb.heap[q]? = _ := (bb.block q (by omega)).trans KA.out
              have KB := Lib.hid kb
              have own := owns_below OA.out bb
              have OB := Lib.hid own
              have szb := Nat.le_trans sza bb.size
              obtain ⟨ao, cap, hv1, hv2, hv3, hv4⟩ := att_in own
              injection hv1 with g1 g2 g3
              subst g1 g3
              have HV4 := Lib.hid hv4
              obtain ⟨⟨c0, c1, c2, c3, c4, c5, c6, c7, c8⟩, z0, z1, z2, z3, z4, z5, z6, z7, z8⟩ := nine kb
              have hKi : (K.1.length : Int) ≤ 1000 := by omega
              have hPE : Hid (∀ y : List UInt8, (((⟨y.toArray⟩ : ByteArray).toList == pb.toList)) = (y == plainL a.1)) := by
                intro y
                rw [ByteArray.toList_eq, ByteArray.toList_eq, hpl.out]
              clear kb own bb X1a hv2 hv3 hv4
              go_upto_region 15 with fail
              go_loop [13, 14] (fun h i => ∃ (j : Nat) (H : Bool), j ≤ K.1.length ∧ i = .int .i64 j ∧ h = .bool H ∧ Hid (H = (K.1.take j).any fun y => y.1 == plainL a.1)) (fun _ i => K.1.length - (intOf i).toNat)
              case atStart => exact ⟨0, false, Nat.zero_le _, rfl, rfl, by show _ = _; simp⟩
              case round =>
                obtain ⟨j, H, hj, rfl, rfl, HH⟩ := hrel
                by_cases hjl : j < K.1.length
                · have hji : (j : Int) < K.1.length := by omega
                  have hKne : K.1 ≠ [] := by intro e; rw [e] at hjl; simp at hjl
                  obtain ⟨b2, o2, hoa, hb2, y⟩ := HV4.out hKne
                  obtain ⟨y0, _⟩ := y j hjl
                  obtain ⟨r, hr⟩ : ∃ r, K.1[j] = r := ⟨_, rfl⟩
                  rw [hr] at y0
                  have HNX : Hid ((K.1.take (j + 1)).any (fun y => y.1 == plainL a.1) = ((K.1.take j).any (fun y => y.1 == plainL a.1) || r.1 == plainL a.1)) := any_snoc (by rw [← hr]; exact List.getElem?_eq_getElem hjl)
                  have hpe := hPE.out r.1
                  obtain ⟨rb, hrb⟩ : ∃ X : ByteArray, (⟨r.1.toArray⟩ : ByteArray) = X := ⟨_, rfl⟩
                  rw [hrb] at hpe y0
                  obtain ⟨T, hT⟩ : ∃ T, (r.1 == plainL a.1) = T := ⟨_, rfl⟩
                  rw [hT] at hpe HNX
                  subst hoa
                  clear y hr hrb hT
                  cases H with
                  | true =>
                    go_wp2_with fail
                    go_round
                    case rel => exact ⟨j + 1, true, by omega, by go_num, rfl, by show _ = _; rw [HNX.out, ← HH.out]; rfl⟩
                    case measure => simp [intOf]; omega
                  | false =>
                    go_wp2_with fail
                    go_round
                    case rel => exact ⟨j + 1, T, by omega, by go_num, rfl, by show _ = _; rw [HNX.out, ← HH.out]; rfl⟩
                    case measure => simp [intOf]; omega
                · have hji : ¬ (j : Int) < K.1.length := by omega
                  have HE : Hid (H = hasA K.1 (plainL a.1)) := by
                    have h := HH.out
                    rw [List.take_of_length_le (by omega)] at h
                    exact h
                  cases H with
                  | true =>
                    have HM2 : Hid (keepL ((ats.take (k + 1)).map fL) = (K.1, true)) := by
                      show _ = _
                      rw [HM1.out]
                      unfold addA
                      rw [if_pos (show (K.1.any fun x => x.1 == plainL a.1) = true from HE.out.symm)]
                    go_wp2_with fail
                    go_roundw
                    case rel =>
                      refine ⟨k + 1, A4, oa, oc, by omega, by go_num, rfl, f4.out, HS4, ?_, ?_, by simp [World.setCell]; exact szb, BB.out.setCell (by exact hqw) _⟩
                      · rw [HM2.out]; exact hset KB.out 4 _
                      · rw [HM2.out]; exact ownsRow_setCell_below OB.out (by show q < q + 1; omega) _
                    case measure => simp [intOf]; omega
                  | false =>
                    have HM2 : Hid (keepL ((ats.take (k + 1)).map fL) = (K.1 ++ [(plainL a.1, oL a.2)], K.2)) := by
                      show _ = _
                      rw [HM1.out]
                      unfold addA
                      rw [if_neg (by rw [show (K.1.any fun x => x.1 == plainL a.1) = false from HE.out.symm]; simp)]
                    obtain ⟨i0, hi0, hz0', hz1', hz2'⟩ := info_parts infoAttr
                    have N2 : Hid (∀ u ∈ ([.string pb, .string ob] : List Value), u.oneCell' = true) := by
                      intro u hu
                      simp at hu
                      rcases hu with rfl | rfl <;> rfl
                    have hown3 := OB.out
                    have HOBK : Hid (∀ j, (Value.slice oa K.1.length oc).ownBlock = some j → q + 1 ≤ j) := fun j hj => (OB.out.lt j hj).1
                    have hqb : q < wb.heap.size := by omega
                    go_wp2_with (at_builtin; refine wpList_append_own _ rfl _ _ 23 rfl (q + 1) 32 i0 _ 2 32 Tryd.underlying23 hi0 hz0' hz1' hz2' rfl (by decide) _ _ _ rfl (hown3.alloc _) ⟨wb.heap.size, 0, none⟩ 1 1 [.string pb, .string ob] rfl rfl (news2 wb _ _ _) N2.out (by unfold maxLen; omega) (by omega) (by simp; omega) ?_; intro v' w4 hown4 hg4 hnil4; clear hnil4; have k4 : w4.heap[q]? = some (.cells #[.int .i64 2, .string nb, .string ⟨#[]⟩, .slice oa K.1.length oc, .bool K.2, .bool self, .bool false, .int .i64 3, .int .i64 0] 25 (0, 0)) := (hg4.block q (by simp; omega) (fun e => by have := HOBK.out q e.symm; omega)).trans ((Below.heap_alloc wb _ _ hqb).trans KB.out); obtain ⟨o4, p4, hv4'⟩ := owns_shape hown4; subst hv4'; have y4 : w4.cell? ⟨q, 3, none⟩ = some (.slice oa K.1.length oc) := (by rw [Lib.cell_of_heap k4]; rfl); have zz4 := Lib.frozen_of_heap k4 3; have HK4 := Lib.hid k4; clear k4)
                    go_roundw
                    case rel =>
                      refine ⟨k + 1, A4, o4, p4, by omega, by go_num, rfl, f4.out, HS4, ?_, ?_, ?_, ?_⟩
                      · rw [HM2.out]
                        simp only [List.length_append, List.length_cons, List.length_nil]
                        exact hset HK4.out 3 _
                      · rw [HM2.out]
                        simp only []
                        rw [attC_snoc, List.length_append]
                        refine ownsRow_setCell_below ?_ (by show q < q + 1; omega) _
                        rw [HPB.out, HOB.out]
                        exact hown4
                      · have := hg4.size
                        simp at this
                        simp [World.setCell]; omega
                      · exact (((BB.out.alloc BB.out.size _).grown hg4 (by simp; have := BB.out.size; omega) (fun j hj => by have := HOBK.out j hj; omega)).setCell (by exact hqw) _)
                    case measure => simp [intOf]; omega
        · have hki : ¬ (k : Int) < n := by omega
          have htk : ats.take k = ats := List.take_of_length_le (by rw [HN.out]; omega)
          have HSF : Hid (S.data.toList = [97, 98, 62, 60] ++ plainL name.data.toList ++ txtL ats) := by
            show _ = _
            rw [HS.out, htk]
          have hKF : keepL (ats.map fL) = K := by rw [← HK.out, htk]
          clear htk
          cases self with
          | true =>
            obtain ⟨A1, hA1⟩ : ∃ X, S ++ (⟨#[47]⟩ : ByteArray) = X := ⟨_, rfl⟩
            have e1 : A1.size = S.size + 1 := by rw [← hA1, ByteArray.size_append]; rfl
            obtain ⟨A2, hA2⟩ : ∃ X, A1 ++ (⟨#[62]⟩ : ByteArray) = X := ⟨_, rfl⟩
            have e2 : A2.size = A1.size + 1 := by rw [← hA2, ByteArray.size_append]; rfl
            have f1 : A1.size ≤ 5000 := by omega
            obtain ⟨A3, hA3⟩ : ∃ X, A2 ++ (⟨#[60, 120, 32, 121, 61, 34]⟩ : ByteArray) = X := ⟨_, rfl⟩
            have e3 : A3.size = A2.size + 6 := by rw [← hA3, ByteArray.size_append]; rfl
            have f0 : S.size ≤ 5000 := by omega
            have f2 : A2.size ≤ 5000 := by omega
            have l3 : A3.data.toList = [97, 98, 62] ++ 60 :: (plainL name.data.toList ++ (txtL ats ++ ((if true = true then [47, 62] else [62]) ++ [60, 120, 32, 121, 61, 34]))) := by
              rw [← hA3, ← hA2, ← hA1, app_data, app_data, app_data, HSF.out]
              simp
            have r3 := written_read name.data.toList ats true [60, 120, 32, 121, 61, 34]
            rw [show ((if true = true then [47, 62] else [62]) : List UInt8) = (if true = true then [47, 62] else [62]) from rfl, ← l3, hKF] at r3
            obtain ⟨N, hN⟩ : ∃ N, A2.size = N := ⟨_, rfl⟩
            have hN2 : 4 + (plainL name.data.toList).length + (txtL ats).length + (if true = true then 2 else 1) = N := by
              have hl : S.data.toList.length = S.size := by simp
              rw [HSF.out] at hl
              simp at hl
              simp
              omega
            rw [hN2] at r3
            have HRD := Lib.hid (fun W (hb : Below w.heap.size w W) => read_any A3 3 m W (HT.out.below hb) (HM.out.below hb) (by omega) (by omega))
            rw [r3] at HRD
            have hNe : ((N : Int) == (N : Int)) = true := by simp
            have hNA : (A2.size : Int) = N := by omega
            obtain ⟨L, hL⟩ : ∃ L, K.1.length = L := ⟨_, rfl⟩
            obtain ⟨U, hU⟩ : ∃ U, K.2 = U := ⟨_, rfl⟩
            have HU := Lib.hid hU
            have HL := Lib.hid hL
            rw [hL, hU] at HKQ
            have own0 := att_in HOWN.out
            obtain ⟨⟨c0, c1, c2, c3, c4, c5, c6, c7, c8⟩, z0, z1, z2, z3, z4, z5, z6, z7, z8⟩ := nine HKQ.out
            have HOO := Lib.hid own0
            obtain ⟨W5, hW5⟩ : ∃ W5, W5 = wr.setCell ⟨q, 8, none⟩ (.int .i64 (N : Int)) := ⟨_, rfl⟩
            have k5 : W5.heap[q]? = some (.cells #[.int .i64 2, .string nb, .string ⟨#[]⟩, .slice oa L oc, .bool U, .bool true, .bool false, .int .i64 3, .int .i64 (N : Int)] 25 (0, 0)) := by
              rw [hW5]; exact hset HKQ.out 8 _
            have B5 : Hid (Below w.heap.size w W5) := by show Below _ _ _; rw [hW5]; exact HB.out.setCell (by exact hqw) _
            have A5 : Hid (AttIn W5 (.slice oa L oc) K.1) := by
              show AttIn _ _ _
              rw [hW5, ← HL.out]
              exact att_in (ownsRow_setCell_below HOWN.out (by show q < q + 1; omega) _)
            have hq5 : q < W5.heap.size := by rw [hW5]; simp [World.setCell]; omega
            have HW5 := Lib.hid hW5
            have K5 := Lib.hid k5
            have HNV : Hid (⟨(plainL name.data.toList).toArray⟩ = nb) := HNB.out
            clear r3 l3 e2 e3 hN2 own0 hL hU hW5 k5 hN e1
            go_upto_region 25 with fail
            rw [← HW5.out]
            go_wp2_with fail
            refine (HRD.out _ B5.out).mono ?_
            rintro e w6 ⟨⟨ob2, oc2, rfl, own2⟩, b6⟩
            have A6 := Lib.hid (att_in own2)
            have ev : tokV ⟨false, plainL name.data.toList, K.1, K.2, true, N⟩ 3 (.slice ob2 (K.1).length oc2) = .agg #[.int .i64 2, .string nb, .string ⟨#[]⟩, .slice ob2 L oc2, .bool U, .bool true, .bool false, .int .i64 3, .int .i64 (N : Int)] := by rw [← HNV.out, ← HL.out, ← HU.out]; rfl
            rw [ev]
            obtain ⟨W7, hW7⟩ : ∃ W7, W7 = w6.alloc (.cells #[.int .i64 2, .string nb, .string ⟨#[]⟩, .slice ob2 L oc2, .bool U, .bool true, .bool false, .int .i64 3, .int .i64 (N : Int)] 25) := ⟨_, rfl⟩
            have k7 : W7.heap[w6.heap.size]? = some (.cells #[.int .i64 2, .string nb, .string ⟨#[]⟩, .slice ob2 L oc2, .bool U, .bool true, .bool false, .int .i64 3, .int .i64 (N : Int)] 25 (0, 0)) := by
              rw [hW7]; exact heap_alloc_new w6 _
            have B57 : Below W5.heap.size W5 W7 := by rw [hW7]; exact b6.alloc b6.size _
            have BW7 : Hid (Below w.heap.size w W7) := B5.out.trans (B57.mono B5.out.size)
            have kq : W7.heap[q]? = _ := (B57.block q hq5).trans K5.out
            have a7 : AttIn W7 (.slice ob2 L oc2) K.1 := by
              have h := A6.out.below ((Below.refl _ w6).alloc (Nat.le_refl _) (.cells #[.int .i64 2, .string nb, .string ⟨#[]⟩, .slice ob2 L oc2, .bool U, .bool true, .bool false, .int .i64 3, .int .i64 (N : Int)] 25)) (Nat.le_refl _)
              rw [← hW7] at h
              rw [← HL.out]
              exact h
            have HC := Lib.hid (tsame_is (.slice ob2 L oc2) (.slice oa L oc) K.1 2 3 (N : Int) nb ⟨#[]⟩ U true false W7 a7 (A5.out.below B57 (Nat.le_refl _)))
            unfold tokA at HC
            have HW7 := Lib.hid hW7
            clear hW7 b6 B57 own2 ev a7 c0 c1 c2 c3 c4 c5 c6 c7 c8 z0 z1 z2 z3 z4 z5 z6 z7 z8
            go_upto_region 26 with fail
            rw [← HW7.out]
            obtain ⟨⟨c0, c1, c2, c3, c4, c5, c6, c7, c8⟩, _⟩ := nine kq
            obtain ⟨⟨d0, d1, d2, d3, d4, d5, d6, d7, d8⟩, _⟩ := nine k7
            clear kq k7
            go_wp2_with fail
            refine HC.out.mono ?_
            rintro e w8 ⟨rfl, b8⟩
            have B8 : Hid (Below w.heap.size w w8) := BW7.out.trans (b8.mono BW7.out.size)
            clear b8
            go_wp2_with fail
            refine (HTG.out _ B8.out).mono ?_
            rintro e w9 ⟨rfl, b9⟩
            go_wp2_with fail
            go_ret
            exact ⟨by exact rfl, B8.out.trans (b9.mono B8.out.size)⟩
          | false =>
            obtain ⟨A2, hA2⟩ : ∃ X, S ++ (⟨#[62]⟩ : ByteArray) = X := ⟨_, rfl⟩
            have e2 : A2.size = S.size + 1 := by rw [← hA2, ByteArray.size_append]; rfl
            obtain ⟨A3, hA3⟩ : ∃ X, A2 ++ (⟨#[60, 120, 32, 121, 61, 34]⟩ : ByteArray) = X := ⟨_, rfl⟩
            have e3 : A3.size = A2.size + 6 := by rw [← hA3, ByteArray.size_append]; rfl
            have f0 : S.size ≤ 5000 := by omega
            have f2 : A2.size ≤ 5000 := by omega
            have l3 : A3.data.toList = [97, 98, 62] ++ 60 :: (plainL name.data.toList ++ (txtL ats ++ ((if true = false then [47, 62] else [62]) ++ [60, 120, 32, 121, 61, 34]))) := by
              rw [← hA3, ← hA2, app_data, app_data, HSF.out]
              simp
            have r3 := written_read name.data.toList ats false [60, 120, 32, 121, 61, 34]
            rw [show ((if false = true then [47, 62] else [62]) : List UInt8) = (if true = false then [47, 62] else [62]) from rfl, ← l3, hKF] at r3
            obtain ⟨N, hN⟩ : ∃ N, A2.size = N := ⟨_, rfl⟩
            have hN2 : 4 + (plainL name.data.toList).length + (txtL ats).length + (if false = true then 2 else 1) = N := by
              have hl : S.data.toList.length = S.size := by simp
              rw [HSF.out] at hl
              simp at hl
              simp
              omega
            rw [hN2] at r3
            have HRD := Lib.hid (fun W (hb : Below w.heap.size w W) => read_any A3 3 m W (HT.out.below hb) (HM.out.below hb) (by omega) (by omega))
            rw [r3] at HRD
            have hNe : ((N : Int) == (N : Int)) = true := by simp
            have hNA : (A2.size : Int) = N := by omega
            obtain ⟨L, hL⟩ : ∃ L, K.1.length = L := ⟨_, rfl⟩
            obtain ⟨U, hU⟩ : ∃ U, K.2 = U := ⟨_, rfl⟩
            have HU := Lib.hid hU
            have HL := Lib.hid hL
            rw [hL, hU] at HKQ
            have own0 := att_in HOWN.out
            obtain ⟨⟨c0, c1, c2, c3, c4, c5, c6, c7, c8⟩, z0, z1, z2, z3, z4, z5, z6, z7, z8⟩ := nine HKQ.out
            have HOO := Lib.hid own0
            obtain ⟨W5, hW5⟩ : ∃ W5, W5 = wr.setCell ⟨q, 8, none⟩ (.int .i64 (N : Int)) := ⟨_, rfl⟩
            have k5 : W5.heap[q]? = some (.cells #[.int .i64 2, .string nb, .string ⟨#[]⟩, .slice oa L oc, .bool U, .bool false, .bool false, .int .i64 3, .int .i64 (N : Int)] 25 (0, 0)) := by
              rw [hW5]; exact hset HKQ.out 8 _
            have B5 : Hid (Below w.heap.size w W5) := by show Below _ _ _; rw [hW5]; exact HB.out.setCell (by exact hqw) _
            have A5 : Hid (AttIn W5 (.slice oa L oc) K.1) := by
              show AttIn _ _ _
              rw [hW5, ← HL.out]
              exact att_in (ownsRow_setCell_below HOWN.out (by show q < q + 1; omega) _)
            have hq5 : q < W5.heap.size := by rw [hW5]; simp [World.setCell]; omega
            have HW5 := Lib.hid hW5
            have K5 := Lib.hid k5
            have HNV : Hid (⟨(plainL name.data.toList).toArray⟩ = nb) := HNB.out
            clear r3 l3 e2 e3 hN2 own0 hL hU hW5 k5 hN 
            go_upto_region 25 with fail
            rw [← HW5.out]
            go_wp2_with fail
            refine (HRD.out _ B5.out).mono ?_
            rintro e w6 ⟨⟨ob2, oc2, rfl, own2⟩, b6⟩
            have A6 := Lib.hid (att_in own2)
            have ev : tokV ⟨false, plainL name.data.toList, K.1, K.2, false, N⟩ 3 (.slice ob2 (K.1).length oc2) = .agg #[.int .i64 2, .string nb, .string ⟨#[]⟩, .slice ob2 L oc2, .bool U, .bool false, .bool false, .int .i64 3, .int .i64 (N : Int)] := by rw [← HNV.out, ← HL.out, ← HU.out]; rfl
            rw [ev]
            obtain ⟨W7, hW7⟩ : ∃ W7, W7 = w6.alloc (.cells #[.int .i64 2, .string nb, .string ⟨#[]⟩, .slice ob2 L oc2, .bool U, .bool false, .bool false, .int .i64 3, .int .i64 (N : Int)] 25) := ⟨_, rfl⟩
            have k7 : W7.heap[w6.heap.size]? = some (.cells #[.int .i64 2, .string nb, .string ⟨#[]⟩, .slice ob2 L oc2, .bool U, .bool false, .bool false, .int .i64 3, .int .i64 (N : Int)] 25 (0, 0)) := by
              rw [hW7]; exact heap_alloc_new w6 _
            have B57 : Below W5.heap.size W5 W7 := by rw [hW7]; exact b6.alloc b6.size _
            have BW7 : Hid (Below w.heap.size w W7) := B5.out.trans (B57.mono B5.out.size)
            have kq : W7.heap[q]? = _ := (B57.block q hq5).trans K5.out
            have a7 : AttIn W7 (.slice ob2 L oc2) K.1 := by
              have h := A6.out.below ((Below.refl _ w6).alloc (Nat.le_refl _) (.cells #[.int .i64 2, .string nb, .string ⟨#[]⟩, .slice ob2 L oc2, .bool U, .bool false, .bool false, .int .i64 3, .int .i64 (N : Int)] 25)) (Nat.le_refl _)
              rw [← hW7] at h
              rw [← HL.out]
              exact h
            have HC := Lib.hid (tsame_is (.slice ob2 L oc2) (.slice oa L oc) K.1 2 3 (N : Int) nb ⟨#[]⟩ U false false W7 a7 (A5.out.below B57 (Nat.le_refl _)))
            unfold tokA at HC
            have HW7 := Lib.hid hW7
            clear hW7 b6 B57 own2 ev a7 c0 c1 c2 c3 c4 c5 c6 c7 c8 z0 z1 z2 z3 z4 z5 z6 z7 z8
            go_upto_region 26 with fail
            rw [← HW7.out]
            obtain ⟨⟨c0, c1, c2, c3, c4, c5, c6, c7, c8⟩, _⟩ := nine kq
            obtain ⟨⟨d0, d1, d2, d3, d4, d5, d6, d7, d8⟩, _⟩ := nine k7
            clear kq k7
            go_wp2_with fail
            refine HC.out.mono ?_
            rintro e w8 ⟨rfl, b8⟩
            have B8 : Hid (Below w.heap.size w w8) := BW7.out.trans (b8.mono BW7.out.size)
            clear b8
            go_wp2_with fail
            refine (HTG.out _ B8.out).mono ?_
            rintro e w9 ⟨rfl, b9⟩
            go_wp2_with fail
            go_ret
            exact ⟨by exact rfl, B8.out.trans (b9.mono B8.out.size)⟩
end Go.Proofs.YteeplfbaflldaaaDoor.T10
