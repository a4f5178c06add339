/- lazaretref05.roots. -/
import Derived.Test.YtnlhhjokaekdhaaDoorRts5
import Derived.Test.YtnlhhjokaekdhaaDoorBuild2
set_option linter.unusedVariables false
set_option linter.unusedSimpArgs false
namespace Go.Proofs.YtnlhhjokaekdhaaDoor.R4
open Go.RowKit

def u64V (l : List Int) : List Value := l.map (Value.int .u64)
theorem infoU64 : (Tryd.prog.info? 40).map (fun i => (i.zero, i.size, i.bytes)) = some (some (.int .u64 0), 1, 8) := by kernel_rfl
theorem owns_base {w : World} {B B' size n : Nat} {e : TypeId} {v : Value} {xs : List Value} (h : w.ownsRow B e size v n xs) (hB : B' ≤ B) : w.ownsRow B' e size v n xs :=
  ⟨h.1, h.2.imp id fun ⟨g, cap, cur, hv, hg, r⟩ => ⟨g, cap, cur, hv, Nat.le_trans hB hg, r⟩⟩
/-- What roots gives: j of them. -/
def rootsL (K fr d : Nat) : Nat → List Int
  | 0 => []
  | j + 1 => rootsL K fr d j ++ [rootV ((prAt K).getD (fr + j) 0).toNat d]
theorem rootsL_len (K fr d : Nat) : ∀ j, (rootsL K fr d j).length = j
  | 0 => rfl
  | j + 1 => by simp [rootsL, rootsL_len K fr d j]
set_option maxHeartbeats 3200000 in
set_option maxRecDepth 100000 in
theorem roots_any (fr many d K : Nat) (w : World) (hd : d ≤ 3) (hK : K ≤ 1000) (h1 : (prAt (K - 1)).length < fr + many) (h2 : (prAt K).length = fr + many) (h0 : 0 < K)
    (hR : ∀ (p : Nat) (w : World), p ≤ 65535 → Calls Tryd.prog 33 #[.int .i64 p, .int .i64 d] w fun e w' => e = .returned (.int .u64 ((rootN p d 69 : Int) % 18446744073709551616)) ∧ Below w.heap.size w w') :
    Calls Tryd.prog 39 #[.int .i64 fr, .int .i64 many, .int .i64 d] w fun e w' => ∃ v, e = .returned v ∧ w'.ownsRow w.heap.size 40 1 v many (u64V (rootsL K fr d many)) ∧ Below w.heap.size w w' := by
  have hroom := prAt_room K
  have HP := Lib.hid (fun W => primes_any (fr + many) K W hK h1 h2 h0)
  have H2 := Lib.hid h2
  have HR := Lib.hid hR
  have hfm : fr + many ≤ 1000 := by omega
  have HTW := Lib.hid (prAt_two K)
  clear h1 h2 hR hroom
  obtain ⟨T, hT⟩ : ∃ T, fr + many = T := ⟨_, rfl⟩
  have hTi : (fr : Int) + (many : Int) = (T : Int) := by omega
  rw [hT] at HP H2 hfm
  have HT := Lib.hid hT
  clear hT
  go_enter Tryd.func39, Tryd.ntmps39
  go_wp2_with fail
  refine (HP.out _).mono ?_
  rintro e w1 ⟨v1, rfl, o1, b1⟩
  obtain ⟨ap, cp, hv1, _⟩ := int_shape (owns_slice o1 (by rw [intV_len]))
  subst hv1
  rw [H2.out] at o1
  rw [H2.out]
  have OP := Lib.hid o1
  have BP := Lib.hid b1
  clear o1 b1
  go_wp2_with fail
  go_loopw [8, 9] (fun v i wr => ∃ j : Nat, j ≤ many ∧ i = .int .i64 ((fr + j : Nat) : Int) ∧ Hid (wr.ownsRow w1.heap.size 40 1 v j (u64V (rootsL K fr d j))) ∧ Hid (Below w1.heap.size w1 wr)) (fun _ i _ => T - (intOf i).toNat)
  case atStart => exact ⟨0, Nat.zero_le _, rfl, ⟨rfl, .inl ⟨rfl, rfl⟩⟩, Below.refl _ w1⟩
  case round =>
    obtain ⟨j, hj, rfl, O, B⟩ := hrel
    obtain ⟨F, hF⟩ : ∃ F, fr + j = F := ⟨_, rfl⟩
    rw [hF]
    have HF := Lib.hid hF
    by_cases hlt : j < many
    · have hFT : F < T := by have := HT.out; omega
      have hFi : (F : Int) < T := by omega
      have hF0 : (0 : Int) ≤ F := by omega
      have HPW : Hid (SliceIn wr (.slice ap T cp) (intV (prAt K))) := SliceIn.below (owns_slice OP.out (by rw [intV_len, H2.out])) B.out
      obtain ⟨b, off, c2, e1, kb, yb⟩ := int_at HPW.out (i := F) (by rw [H2.out]; exact hFT)
      rw [H2.out] at e1
      injection e1 with f1 _ f3
      subst f1 f3
      have hmem : (prAt K).getD F 0 ∈ prAt K := by
        rw [List.getD_eq_getElem?_getD, List.getElem?_eq_getElem (by rw [H2.out]; exact hFT)]
        exact List.getElem_mem _
      have hb2 := HTW.out _ hmem
      obtain ⟨pn, hpn⟩ : ∃ pn : Nat, (prAt K).getD F 0 = (pn : Int) := ⟨((prAt K).getD F 0).toNat, by omega⟩
      have HST : Hid (rootsL K fr d (j + 1) = rootsL K fr d j ++ [rootV pn d]) := by show _ = _; rw [rootsL, hF, hpn, Int.toNat_natCast]
      rw [hpn] at yb hb2
      have hp3 : pn ≤ 65535 := by omega
      clear hmem hb2 hpn hF
      go_wp2_with fail
      refine (HR.out pn _ hp3).mono ?_
      rintro e w2 ⟨rfl, b2⟩
      obtain ⟨x, hx⟩ : ∃ x, (rootN pn d 69 : Int) % 18446744073709551616 = x := ⟨_, rfl⟩
      rw [hx]
      have HX : Hid (rootV pn d = x) := hx
      have hsz : w1.heap.size ≤ w2.heap.size := Nat.le_trans B.out.size b2.size
      have hown := owns_below O.out b2
      have B2 : Hid (Below w1.heap.size w1 w2) := B.out.trans (b2.mono B.out.size)
      clear b2 yb hx
      go_wp2_with (at_builtin; refine app1 rfl _ _ 65 rfl infoU64 Tryd.underlying65 rfl (by decide) hown rfl rfl rfl (by omega) hsz ?_; intro v' w' hown' hg hbw)
      refine ⟨⟨j + 1, by omega, by have := HF.out; congr 1; omega, ?_, B2.out.trans hbw⟩, by have := HF.out; simp [intOf]; omega⟩
      show World.ownsRow _ _ _ _ _ _ _
      rw [HST.out, HX.out]
      have : u64V (rootsL K fr d j ++ [x]) = u64V (rootsL K fr d j) ++ [.int .u64 x] := by simp [u64V]
      rw [this]
      exact hown'
    · obtain rfl : j = many := by omega
      have hFT : ¬ (F : Int) < T := by have := HT.out; have := HF.out; omega
      clear hF
      go_wp2_with fail
      go_ret
      exact ⟨_, rfl, owns_base O.out BP.out.size, BP.out.trans (B.out.mono BP.out.size)⟩
end Go.Proofs.YtnlhhjokaekdhaaDoor.R4
