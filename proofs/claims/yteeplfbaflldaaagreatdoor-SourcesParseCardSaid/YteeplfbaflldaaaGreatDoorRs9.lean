/- lazaretref25: host, whole. -/
import Derived.Test.YteeplfbaflldaaaGreatDoorRs8
set_option linter.unusedVariables false
set_option linter.unusedSimpArgs false
namespace Go.Proofs.YteeplfbaflldaaaGreatDoor.S25
open Go.RowKit Go.Extern.Stop Go.Stop Go.Extern T10

theorem cut_if (l d : List UInt8) : Lib.cut l d = if 0 ≤ Lib.index l d then (l.take (Lib.index l d).toNat, l.drop ((Lib.index l d).toNat + d.length), true) else (l, [], false) := rfl
theorem index_room2 {l d : List UInt8} (h : 0 ≤ Lib.index l d) : (Lib.index l d).toNat + d.length ≤ l.length := by
  have := index_room l d h
  omega
/-- The document's host is the program's, by its parts. -/
theorem host_same {l : List UInt8} {sch okp is star lab wi : Bool} {sc ho pa nm nm2 : ByteArray} {po : Int}
    (h1 : schL l = if sch = true then some sc.data.toList else none)
    (h2 : pa.data.toList = pathL (behL l)) (h3 : (pathL (behL l)).all pathC = okp)
    (h4 : portS (headL (behL l)) = if is = true then some po else none)
    (h5 : (Lib.cut (headL (behL l)) [58]).1 = nm.data.toList)
    (h6 : (nm.toList == [42]) = star) (h7 : wi = Lib.hasPrefix nm.data.toList [42, 46])
    (h8 : nm2 = if wi = true then nm.extract 2 nm.size else nm) (h9 : ho.data.toList = lowL nm2.data.toList) (h10 : labB nm2.data.toList = lab) :
    QRes (hostL l) (.returned (rhostV sch (okp && is) star lab wi sc ho po pa)) := by
  have hn : nm2.data.toList = restL nm.data.toList := by
    rw [h8]
    unfold restL
    rw [← h7]
    cases wi with
    | true => exact ext_drop nm 2
    | false => rfl
  have hpa : ba (pathL (behL l)) = pa := by rw [← h2, ba_list]
  have hho : ba (lowL nm2.data.toList) = ho := by rw [← h9, ba_list]
  unfold hostL
  rw [h1]
  cases sch with
  | false => exact ⟨_, _, _, _, _, _, _, _, rfl, fun x hx => by cases hx⟩
  | true =>
    rw [if_pos rfl]
    simp only []
    unfold tailL
    rw [h4, h5, h3]
    have hsc : ba sc.data.toList = sc := ba_list sc
    cases star with
    | true =>
      have hnm : nm.data.toList = [42] := by
        rw [ByteArray.toList_eq] at h6
        exact beq_iff_eq.1 h6
      have e : nameL nm.data.toList = some ([], true) := by unfold nameL; rw [if_pos hnm]
      rw [e]
      cases is <;> cases okp
      · exact ⟨_, _, _, _, _, _, _, _, rfl, fun x hx => by cases hx⟩
      · exact ⟨_, _, _, _, _, _, _, _, rfl, fun x hx => by cases hx⟩
      · exact ⟨_, _, _, _, _, _, _, _, rfl, fun x hx => by cases hx⟩
      · refine ⟨_, _, _, _, _, _, _, _, rfl, fun x hx => ?_⟩
        have hx2 := Option.some.inj hx
        subst hx2
        unfold srcW
        rw [hsc, hpa]
        rfl
    | false =>
      have hnm : nm.data.toList ≠ [42] := by
        rw [ByteArray.toList_eq] at h6
        exact beq_eq_false_iff_ne.1 h6
      have e : nameL nm.data.toList = if lab = true then some (lowL nm2.data.toList, wi) else none := by
        unfold nameL
        rw [if_neg hnm, ← hn, h10, h7]
      rw [e]
      cases lab <;> cases is <;> cases okp
      all_goals first
        | (refine ⟨_, _, _, _, _, _, _, _, rfl, fun x hx => ?_⟩; cases hx; done)
        | skip
      refine ⟨_, _, _, _, _, _, _, _, rfl, fun x hx => ?_⟩
      have hx2 := Option.some.inj hx
      subst hx2
      unfold srcW
      rw [hsc, hpa, hho]
      rfl
theorem rhost_any (s : ByteArray) (w : World) (hs : s.size ≤ 1000000) :
    Calls Tryz.prog 14 #[.string s] w fun e w' => QRes (hostL s.data.toList) e ∧ Below w.heap.size w w' := by
  have hsl : s.data.toList.length = s.size := by simp
  obtain ⟨l, hl⟩ : ∃ l, s.data.toList = l := ⟨_, rfl⟩
  obtain ⟨I1, hI1⟩ : ∃ I, Lib.index l [58, 47, 47] = I := ⟨_, rfl⟩
  rw [hl] at hsl
  have g1 := Lib.index_ge l [58, 47, 47]
  have rm1 : 0 ≤ I1 → I1.toNat + 3 ≤ l.length := fun h => by
    have := index_room2 (l := l) (d := [58, 47, 47]) (by rw [hI1]; exact h)
    rw [hI1] at this
    exact this
  -- the scheme
  obtain ⟨sch, sc, q1, q2, q3⟩ : ∃ (sch : Bool) (sc : ByteArray), (0 ≤ I1 → schB (l.take I1.toNat) = sch ∧ sc = ba (lowL (l.take I1.toNat))) ∧ (¬ 0 ≤ I1 → sc = ⟨#[]⟩ ∧ sch = true) ∧ schL l = if sch = true then some sc.data.toList else none := by
    by_cases h : 0 ≤ I1
    · refine ⟨_, _, fun _ => ⟨rfl, rfl⟩, fun h2 => absurd h h2, ?_⟩
      unfold schL
      rw [cut_if, hI1, if_pos h]
      simp only [if_true]
      rfl
    · refine ⟨true, ⟨#[]⟩, fun h2 => absurd h2 h, fun _ => ⟨rfl, rfl⟩, ?_⟩
      unfold schL
      rw [cut_if, hI1, if_neg h]
      rfl
  obtain ⟨r, hr⟩ : ∃ r, r = if 0 ≤ I1 then s.extract (I1.toNat + 3) s.size else s := ⟨_, rfl⟩
  have hrl : r.data.toList = behL l := by
    rw [hr]
    unfold behL
    rw [cut_if, hI1]
    by_cases h : 0 ≤ I1
    · rw [if_pos h, if_pos h]
      simp only [if_true]
      rw [ext_drop, hl]
      rfl
    · rw [if_neg h, if_neg h]
      simp only [Bool.false_eq_true, if_false]
      exact hl
  have hbl := behL_len l
  have hrs : r.size ≤ 1000000 := by
    have : r.data.toList.length = r.size := by simp
    rw [← this, hrl]; omega
  -- the path
  obtain ⟨I2, hI2⟩ : ∃ I, Lib.index r.data.toList [47] = I := ⟨_, rfl⟩
  have hI2b : Lib.indexByte (behL l) 47 = I2 := by rw [← hI2, Lib.index_one, hrl]
  have rm2 : 0 ≤ I2 → I2.toNat ≤ r.size := fun h => by
    have := index_room2 (l := r.data.toList) (d := [47]) (by rw [hI2]; exact h)
    rw [hI2] at this
    have h3 : r.data.toList.length = r.size := by simp
    simp only [List.length_cons, List.length_nil] at this
    omega
  obtain ⟨pa, hpa⟩ : ∃ pa, pa = if 0 ≤ I2 then r.extract I2.toNat r.size else ⟨#[]⟩ := ⟨_, rfl⟩
  obtain ⟨h, hh⟩ : ∃ h, h = if 0 ≤ I2 then r.extract 0 I2.toNat else r := ⟨_, rfl⟩
  have hpl : pa.data.toList = pathL (behL l) := by
    rw [hpa]
    unfold pathL
    rw [hI2b]
    by_cases h0 : 0 ≤ I2
    · rw [if_pos h0, if_pos h0, ext_drop, hrl]
    · rw [if_neg h0, if_neg h0]
  have hhl : h.data.toList = headL (behL l) := by
    rw [hh]
    unfold headL
    rw [hI2b]
    by_cases h0 : 0 ≤ I2
    · rw [if_pos h0, if_pos h0, ext_take, hrl]
    · rw [if_neg h0, if_neg h0, hrl]
  have hps : pa.size ≤ 1000000 := by
    have h3 : pa.data.toList.length = pa.size := by simp
    have := pathL_len (behL l)
    rw [← h3, hpl]; omega
  have hhs : h.size ≤ 1000000 := by
    have h3 : h.data.toList.length = h.size := by simp
    have := headL_len (behL l)
    rw [← h3, hhl]; omega
  -- the port
  obtain ⟨I3, hI3⟩ : ∃ I, Lib.index h.data.toList [58] = I := ⟨_, rfl⟩
  have rm3 : 0 ≤ I3 → I3.toNat + 1 ≤ h.size := fun h0 => by
    have := index_room2 (l := h.data.toList) (d := [58]) (by rw [hI3]; exact h0)
    rw [hI3] at this
    have h3 : h.data.toList.length = h.size := by simp
    simp only [List.length_cons, List.length_nil] at this
    omega
  obtain ⟨po, is, p1, p2, p3⟩ : ∃ (po : Int) (is : Bool), (0 ≤ I3 → po = (rportP (h.data.toList.drop (I3.toNat + 1))).1 ∧ is = (rportP (h.data.toList.drop (I3.toNat + 1))).2) ∧ (¬ 0 ≤ I3 → po = -1 ∧ is = true) ∧ portS (headL (behL l)) = if is = true then some po else none := by
    rw [← hhl]
    unfold portS
    rw [cut_if, hI3]
    by_cases h0 : 0 ≤ I3
    · refine ⟨_, _, fun _ => ⟨rfl, rfl⟩, fun h2 => absurd h0 h2, ?_⟩
      rw [if_pos h0]
      simp only [if_true]
      exact rport_same _
    · refine ⟨-1, true, fun h2 => absurd h2 h0, fun _ => ⟨rfl, rfl⟩, ?_⟩
      rw [if_neg h0]
      rfl
  obtain ⟨nm, hnm⟩ : ∃ nm, nm = if 0 ≤ I3 then h.extract 0 I3.toNat else h := ⟨_, rfl⟩
  have hnl : (Lib.cut (headL (behL l)) [58]).1 = nm.data.toList := by
    rw [← hhl, cut_if, hI3, hnm]
    by_cases h0 : 0 ≤ I3
    · rw [if_pos h0, if_pos h0, ext_take]
    · rw [if_neg h0, if_neg h0]
  have hns : nm.size ≤ 1000000 := by
    rw [hnm]
    split
    · simp; omega
    · exact hhs
  obtain ⟨wi, hwi⟩ : ∃ wi, wi = Lib.hasPrefix nm.data.toList [42, 46] := ⟨_, rfl⟩
  obtain ⟨nm2, hnm2⟩ : ∃ nm2, nm2 = if wi = true then nm.extract 2 nm.size else nm := ⟨_, rfl⟩
  have hn2 : nm2.size ≤ 1000000 := by
    rw [hnm2]
    split
    · simp; omega
    · exact hns
  refine (rhost_walk s r h nm nm2 pa sc (ba (lowL nm2.data.toList)) I1 I2 I3 po sch ((pathL (behL l)).all pathC) is wi (labB nm2.data.toList) (nm.toList == [42]) w hs
    (fun W => by have := rfind_any s ⟨#[58, 47, 47]⟩ W hs (by decide) (by decide); rw [hl] at this; rw [← hI1]; exact this)
    (fun h0 => by have := rm1 h0; omega)
    (fun h0 W => by have := rscheme_any (s.extract 0 I1.toNat) W (by simp; omega); rw [ext_take, hl, (q1 h0).1] at this; exact this)
    (fun h0 W => by have := rlower_any (s.extract 0 I1.toNat) W (by simp; omega); rw [ext_take, hl] at this; rw [(q1 h0).2]; exact this)
    q2 hr hrs
    (fun W => by have := rfind_any r ⟨#[47]⟩ W hrs (by decide) (by decide); rw [← hI2]; exact this)
    rm2 hpa hh hhs
    (fun W => by have := rpath_any pa W hps; rw [hpl] at this; exact this)
    (fun W => by have := rfind_any h ⟨#[58]⟩ W hhs (by decide) (by decide); rw [← hI3]; exact this)
    rm3
    (fun h0 W => by have := rport_any (h.extract (I3.toNat + 1) h.size) W (by simp; omega); rw [ext_drop, ← (p1 h0).1, ← (p1 h0).2] at this; exact this)
    p2 hnm hns rfl hwi hnm2
    (fun W => rlower_any nm2 W (by omega))
    (fun W => rlabels_any nm2 W hn2)).mono ?_
  rintro e w' ⟨rfl, hb⟩
  refine ⟨?_, hb⟩
  rw [hl]
  exact host_same q3 hpl rfl p3 hnl rfl hwi hnm2 rfl rfl
end Go.Proofs.YteeplfbaflldaaaGreatDoor.S25
