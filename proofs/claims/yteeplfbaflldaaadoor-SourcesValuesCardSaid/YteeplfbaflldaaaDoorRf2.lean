/- refs.findNumber. -/
import Derived.Test.YteeplfbaflldaaaDoorRf1
import Derived.Test.YteeplfbaflldaaaDoorLp
import Derived.Deep.Cut
set_option linter.unusedVariables false
set_option linter.unusedSimpArgs false
namespace Go.Proofs.YteeplfbaflldaaaDoor.R9
open Go.RowKit

/-- Is a byte a digit to a base? -/
def isD (base : Int) (c : UInt8) : Bool := hexB c.toNat && decide (hexV c.toNat < base)
/-- The number that digits are; no more than the least that is no character's. -/
def numV (base : Int) (ds : List UInt8) : Int := ds.foldl (fun n c => min (n * base + hexV c.toNat) 1114112) 0
theorem byte_ne {x c : UInt8} {z : Int} (h : ¬ x = c) (hc : ((c.toNat : Nat) : Int) = z) : ((x.toNat : Int) == z) = false := by
  subst hc
  rw [beq_eq_false_iff_ne]
  intro e
  exact h (UInt8.toNat_inj.1 (by omega))
theorem numV_snoc (base : Int) (ds : List UInt8) (c : UInt8) : numV base (ds ++ [c]) = min (numV base ds * base + hexV c.toNat) 1114112 := by unfold numV; rw [List.foldl_append]; rfl
theorem hexV_in (c : Int) (h : hexB c = true) : 0 ≤ hexV c ∧ hexV c ≤ 15 := by
  unfold hexV
  split
  · omega
  · split
    · omega
    · split <;> omega
theorem numV_in (base : Int) (hb : 0 ≤ base) : ∀ ds : List UInt8, ds.all (isD base) = true → 0 ≤ numV base ds ∧ numV base ds ≤ 1114112 := by
  suffices h : ∀ (ds : List UInt8) (n : Int), 0 ≤ n ∧ n ≤ 1114112 → ds.all (isD base) = true → 0 ≤ ds.foldl (fun n c => min (n * base + hexV c.toNat) 1114112) n ∧ ds.foldl (fun n c => min (n * base + hexV c.toNat) 1114112) n ≤ 1114112 from fun ds hd => h ds 0 (by omega) hd
  intro ds
  induction ds with
  | nil => intro n h _; exact h
  | cons c r ih =>
    intro n h hd
    rw [List.all_cons, Bool.and_eq_true] at hd
    rw [List.foldl_cons]
    refine ih _ ?_ hd.2
    have h1 := hd.1
    unfold isD at h1
    rw [Bool.and_eq_true] at h1
    have h2 := hexV_in _ h1.1
    have h3 : 0 ≤ n * base := Int.mul_nonneg h.1 hb
    omega
theorem while_take (p : UInt8 → Bool) (r : List UInt8) (k : Nat) (hk : k ≤ r.length) (ha : (r.take k).all p = true) (hs : ∀ h : k < r.length, p r[k] = false) : r.takeWhile p = r.take k := by
  conv => lhs; rw [← List.take_append_drop k r]
  rw [List.takeWhile_append_of_pos (by simpa using ha)]
  have : (r.drop k).takeWhile p = [] := by
    by_cases h : k < r.length
    · rw [List.drop_eq_getElem_cons h, List.takeWhile_cons, hs h]; rfl
    · rw [List.drop_of_length_le (by omega)]; rfl
  rw [this, List.append_nil]

set_option maxHeartbeats 3200000 in
set_option maxRecDepth 100000 in
theorem nloop_any (code : Code) (hcode : loopOf 6 Tryd.f109 = some code) (R : Act → World → Prop) {x1 x2 x3 x4 x5 x6 x10 x11 x12 x13 x14 x15 x16 x17 x18 x19 x20 x21 x22 x23 x24 x25 x26 x27 x28 x29 x30 x31 x32 x33 x34 x35 x36 x37 x38 x39 x40 x41 x42 x43 x44 x45 x46 x47 x48 x49 x50 x51 x52 x53 x54 x55 x56 x57 x58 x59 x60 x61 x62 x63 x64 x65 x66 x67 x68 x69 x70 x71 x72 x73 x74 x75 : Value} {ds : List Deferred} {w : World} (s : ByteArray) (base : Int) (a : Nat) (hb : base = 10 ∨ base = 16) (ha : a ≤ s.size) (hs : s.size ≤ 5000)
    (hQ : ∀ (u10 u11 u31 u32 u33 u34 u35 u36 u37 u38 u39 u40 u41 u42 u43 u44 u45 u46 u47 u48 u49 u50 u51 u52 u53 u54 u55 u56 : Value), R ⟨List.toArray (.string s :: x1 :: x2 :: x3 :: x4 :: x5 :: x6 :: .int .i64 base :: .int .i64 (numV base ((s.data.toList.drop a).takeWhile (isD base))) :: .int .i64 ((a + ((s.data.toList.drop a).takeWhile (isD base)).length : Nat) : Int) :: u10 :: u11 :: x12 :: x13 :: x14 :: x15 :: x16 :: x17 :: x18 :: x19 :: x20 :: x21 :: x22 :: x23 :: x24 :: x25 :: x26 :: x27 :: x28 :: x29 :: x30 :: u31 :: u32 :: u33 :: u34 :: u35 :: u36 :: u37 :: u38 :: u39 :: u40 :: u41 :: u42 :: u43 :: u44 :: u45 :: u46 :: u47 :: u48 :: u49 :: u50 :: u51 :: u52 :: u53 :: u54 :: u55 :: u56 :: x57 :: x58 :: x59 :: x60 :: x61 :: x62 :: x63 :: x64 :: x65 :: x66 :: x67 :: x68 :: x69 :: x70 :: x71 :: x72 :: x73 :: x74 :: x75 :: []), ds⟩ w) :
    code.wp Tryd.prog (LoopQ 0 R) ⟨List.toArray (.string s :: x1 :: x2 :: x3 :: x4 :: x5 :: x6 :: .int .i64 base :: .int .i64 0 :: .int .i64 a :: x10 :: x11 :: x12 :: x13 :: x14 :: x15 :: x16 :: x17 :: x18 :: x19 :: x20 :: x21 :: x22 :: x23 :: x24 :: x25 :: x26 :: x27 :: x28 :: x29 :: x30 :: x31 :: x32 :: x33 :: x34 :: x35 :: x36 :: x37 :: x38 :: x39 :: x40 :: x41 :: x42 :: x43 :: x44 :: x45 :: x46 :: x47 :: x48 :: x49 :: x50 :: x51 :: x52 :: x53 :: x54 :: x55 :: x56 :: x57 :: x58 :: x59 :: x60 :: x61 :: x62 :: x63 :: x64 :: x65 :: x66 :: x67 :: x68 :: x69 :: x70 :: x71 :: x72 :: x73 :: x74 :: x75 :: []), ds⟩ w := by
  have hlit := Option.some.inj hcode.symm
  subst hlit
  obtain ⟨r, hr⟩ : ∃ r, s.data.toList.drop a = r := ⟨_, rfl⟩
  rw [hr] at hQ
  have hrl : r.length = s.size - a := by rw [← hr, List.length_drop]; simp
  go_loop [8, 9] (fun n i => ∃ (k J : Nat), k ≤ r.length ∧ a + k = J ∧ i = .int .i64 J ∧ n = .int .i64 (numV base (r.take k)) ∧ (r.take k).all (isD base) = true) (fun _ i => s.size - (intOf i).toNat)
  case atStart => exact ⟨0, a, Nat.zero_le _, rfl, rfl, rfl, rfl⟩
  case round =>
    obtain ⟨k, J, hk, hJ, rfl, rfl, hall⟩ := hrel
    have hall2 := hall
    have HQ := Lib.hid hQ
    obtain ⟨n, hn⟩ : ∃ n, numV base (r.take k) = n := ⟨_, rfl⟩
    have hnb := numV_in base (by omega) _ hall
    rw [hn] at hnb
    rw [hn]
    by_cases hlt : k < r.length
    · have hJs : J < s.size := by omega
      have hJi : (J : Int) < s.size := by omega
      obtain ⟨c, hc⟩ : ∃ c, s[J] = c := ⟨_, rfl⟩
      have hrc : r[k] = c := by
        have h1 : r[k]? = s.data.toList[a + k]? := by rw [← hr, List.getElem?_drop]
        have h2 : a + k < s.data.toList.length := by simp; omega
        rw [List.getElem?_eq_getElem hlt, List.getElem?_eq_getElem h2] at h1
        have h3 := Option.some.inj h1
        rw [h3, ← hc]
        subst hJ
        rfl
      have HTK : Hid (r.take (k + 1) = r.take k ++ [c]) := by show _ = _; rw [List.take_succ_eq_append_getElem hlt, hrc]
      have hc8 := c.toNat_lt
      have HX := Lib.hid (hex_any (c.toNat : Int) w (by omega) (by omega))
      obtain ⟨V, hV⟩ : ∃ V, hexV (c.toNat : Int) = V := ⟨_, rfl⟩
      by_cases hB : hexB (c.toNat : Int) = true
      · have hV2 := hexV_in _ hB
        rw [hV] at hV2
        by_cases hVb : V < base
        · have hD : isD base c = true := by unfold isD; rw [hB, hV]; simpa using hVb
          have HALL : Hid ((r.take (k + 1)).all (isD base) = true) := by show _ = _; rw [HTK.out, List.all_append, hall, List.all_cons, hD]; rfl
          have HNEW : Hid (numV base (r.take (k + 1)) = min (n * base + V) 1114112) := by show _ = _; rw [HTK.out, numV_snoc, hn, hV]
          rw [hV, hB] at HX
          have HJ := Lib.hid hJ
          have HK : Hid (k + 1 ≤ r.length) := hlt
          have hJb : J ≤ 5000 := by omega
          clear hall hall2 hn hrl hr hc8 hV hB hD hlt hrc hJ
          rcases hb with rfl | rfl
          · go_wp2_with fail
            refine HX.out.mono ?_
            rintro e w' ⟨rfl, rfl⟩
            go_wp2_with fail
            go_round
            case rel => exact ⟨k + 1, J + 1, HK.out, by have := HJ.out; omega, by go_num, by rw [HNEW.out]; congr 1; split <;> omega, HALL.out⟩
            case measure => simp [intOf]; omega
          · go_wp2_with fail
            refine HX.out.mono ?_
            rintro e w' ⟨rfl, rfl⟩
            go_wp2_with fail
            go_round
            case rel => exact ⟨k + 1, J + 1, HK.out, by have := HJ.out; omega, by go_num, by rw [HNEW.out]; congr 1; split <;> omega, HALL.out⟩
            case measure => simp [intOf]; omega
        · have hD : isD base c = false := by unfold isD; rw [hB, hV]; simpa using hVb
          have hw := while_take (isD base) r k hk hall (fun h => by rw [hrc]; exact hD)
          rw [hw, hn, List.length_take, Nat.min_eq_left hk, hJ] at HQ
          rw [hV, hB] at HX
          clear hall hall2 hn hrl hr hc8 hV hB hD hlt hrc hJ hw hQ
          rcases hb with rfl | rfl
          · go_wp2_with fail
            refine HX.out.mono ?_
            rintro e w' ⟨rfl, rfl⟩
            go_wp2_with fail
            exact ⟨rfl, HQ.out _ _ _ _ _ _ _ _ _ _ _ _ _ _ _ _ _ _ _ _ _ _ _ _ _ _ _ _⟩
          · go_wp2_with fail
            refine HX.out.mono ?_
            rintro e w' ⟨rfl, rfl⟩
            go_wp2_with fail
            exact ⟨rfl, HQ.out _ _ _ _ _ _ _ _ _ _ _ _ _ _ _ _ _ _ _ _ _ _ _ _ _ _ _ _⟩
      · have hBf : hexB (c.toNat : Int) = false := by simpa using hB
        have hD : isD base c = false := by unfold isD; rw [hBf]; rfl
        have hw := while_take (isD base) r k hk hall (fun h => by rw [hrc]; exact hD)
        rw [hw, hn, List.length_take, Nat.min_eq_left hk, hJ] at HQ
        rw [hV, hBf] at HX
        clear hall hall2 hn hrl hr hc8 hV hB hBf hD hlt hrc hJ hw hQ
        go_wp2_with fail
        refine HX.out.mono ?_
        rintro e w' ⟨rfl, rfl⟩
        go_wp2_with fail
        exact ⟨rfl, HQ.out _ _ _ _ _ _ _ _ _ _ _ _ _ _ _ _ _ _ _ _ _ _ _ _ _ _ _ _⟩
    · have hw := while_take (isD base) r k hk hall (fun h => absurd h hlt)
      have hJi : ¬ (J : Int) < s.size := by omega
      rw [hw, hn, List.length_take, Nat.min_eq_left hk, hJ] at HQ
      clear hall hall2 hn hrl hr hlt hJ hw hQ
      go_wp2_with fail
      exact ⟨rfl, HQ.out _ _ _ _ _ _ _ _ _ _ _ _ _ _ _ _ _ _ _ _ _ _ _ _ _ _ _ _⟩

/-- The base, and how many bytes tell it. -/
def baseK (r : List UInt8) : Int × Nat := match r.head? with
  | some c => if c = 120 ∨ c = 88 then (16, 1) else (10, 0)
  | none => (10, 0)
/-- What stands behind the sign of a number: its character, and how many bytes it takes. -/
def numR (r : List UInt8) : Option (Int × Nat) :=
  if (r.drop (baseK r).2).takeWhile (isD (baseK r).1) = [] then none else
    some (charN (numV (baseK r).1 ((r.drop (baseK r).2).takeWhile (isD (baseK r).1))), (baseK r).2 + ((r.drop (baseK r).2).takeWhile (isD (baseK r).1)).length +
      (if ((r.drop ((baseK r).2 + ((r.drop (baseK r).2).takeWhile (isD (baseK r).1)).length)).head? = some 59) then 1 else 0))
/-- The answer of a finder that began at a place. -/
def ret3 (a : Nat) : Option (Int × Nat) → Value
  | none => .tuple #[.string ⟨#[]⟩, .int .i64 0, .bool false]
  | some (c, k) => .tuple #[.string (Utf8.encode c), .int .i64 ((a + k : Nat) : Int), .bool true]
theorem ret_num {C z : Int} {a k : Nat} (h : z = ((a + k : Nat) : Int)) : Ending.returned (.tuple #[.string (Utf8.encode C), .int .i64 z, .bool true]) = .returned (ret3 a (some (C, k))) := by rw [h]; rfl

set_option maxHeartbeats 3200000 in
set_option maxRecDepth 100000 in
theorem number_any (s : ByteArray) (a : Nat) (w : World) (hT : RTab w) (ha : a ≤ s.size) (hs : s.size ≤ 5000) :
    Calls Tryd.prog 109 #[.string s, .int .i64 a] w fun e w' => e = .returned (ret3 a (numR (s.data.toList.drop a))) ∧ w = w' := by
  have HT := Lib.hid hT
  clear hT
  by_cases hlt : a < s.size
  · have hai : (a : Int) < s.size := by omega
    have hhd : (s.data.toList.drop a).head? = some s[a] := by
      have hl : a < s.data.toList.length := by simpa using hlt
      rw [List.head?_drop, List.getElem?_eq_getElem hl]
      rfl
    by_cases hx : s[a] = 120 ∨ s[a] = 88
    · have HB : Hid (baseK (s.data.toList.drop a) = (16, 1)) := by show _ = _; unfold baseK; rw [hhd]; simp only [if_pos hx]
      obtain ⟨A, hA⟩ : ∃ A, a + 1 = A := ⟨_, rfl⟩
      have HA := Lib.hid hA
      have HA1 : Hid (A ≤ s.size) := by show _ ≤ _; omega
      have hAi : (a : Int) + 1 = (A : Int) := by omega
      clear hA hhd
      rcases hx with hx | hx
      · have hq : ((s[a].toNat : Int) == 120) = true := by rw [hx]; rfl
        clear hx
        go_enter Tryd.func109, Tryd.ntmps109
        go_wp2_with fail
        try rw [hAi]
        clear hAi hq
        refine loop_out (nloop_any _ rfl _ s 16 A (by decide) HA1.out hs ?hQ1) (fun _ _ h => h)
        intro u10 u11 u31 u32 u33 u34 u35 u36 u37 u38 u39 u40 u41 u42 u43 u44 u45 u46 u47 u48 u49 u50 u51 u52 u53 u54 u55 u56
        obtain ⟨D, hD⟩ : ∃ D, (s.data.toList.drop A).takeWhile (isD 16) = D := ⟨_, rfl⟩
        rw [hD]
        have hall : D.all (isD 16) = true := by rw [← hD]; exact List.all_takeWhile
        have hnb := numV_in 16 (by decide) D hall
        have hDl : A + D.length ≤ s.size := by
          have h1 := (List.takeWhile_prefix (isD 16) (l := s.data.toList.drop A)).length_le
          rw [hD, List.length_drop] at h1
          have h2 : s.data.toList.length = s.size := by simp
          have h3 := HA1.out
          omega
        have HR : Hid (numR (s.data.toList.drop a) = if D = [] then none else some (charN (numV 16 D), 1 + D.length + (if (s.data.toList.drop (A + D.length)).head? = some 59 then 1 else 0))) := by
          show _ = _
          unfold numR
          rw [HB.out]
          simp only [List.drop_drop, HA.out, hD]
          rw [← HA.out]; simp only [Nat.add_assoc]
        obtain ⟨n, hn⟩ : ∃ n, numV 16 D = n := ⟨_, rfl⟩
        rw [hn] at hnb HR
        rw [hn]
        clear hn hall
        by_cases hD0 : D = []
        · rw [if_pos hD0] at HR
          have hJ : A + D.length = A := by rw [hD0]; rfl
          rw [hJ]
          clear hD hD0 hJ hDl hnb
          go_wp2_with fail
          go_ret3
          exact ⟨by rw [HR.out]; rfl, rfl⟩
        · rw [if_neg hD0] at HR
          obtain ⟨J, hJ⟩ : ∃ J, A + D.length = J := ⟨_, rfl⟩
          have hlen : 0 < D.length := List.length_pos_iff.2 hD0
          rw [hJ] at HR hDl
          rw [hJ]
          have hne : ((J : Int) == (A : Int)) = false := by simp; omega
          have HCH := Lib.hid (char_any n w HT.out hnb.1 hnb.2)
          obtain ⟨C, hC⟩ : ∃ C, charN n = C := ⟨_, rfl⟩
          rw [hC] at HCH HR
          have HJ := Lib.hid hJ
          have HAL := Lib.hid (HA.out)
          clear hJ hlen hD0 hD hC
          by_cases hJs : J < s.size
          · have hJi : (J : Int) < s.size := by omega
            have hhd : (s.data.toList.drop J).head? = some s[J] := by
              have hl : J < s.data.toList.length := by simpa using hJs
              rw [List.head?_drop, List.getElem?_eq_getElem hl]
              rfl
            rw [hhd] at HR
            by_cases h59 : s[J] = 59
            · have hq : ((s[J].toNat : Int) == 59) = true := by rw [h59]; rfl
              rw [if_pos (by rw [h59])] at HR
              clear hhd h59 hnb
              go_wp2_with fail
              refine HCH.out.mono ?_
              rintro e w' ⟨rfl, rfl⟩
              go_wp2_with fail
              go_ret3
              refine ⟨?_, rfl⟩
              rw [HR.out]
              have h1 := HJ.out
              have h2 := HAL.out
              exact ret_num (by omega)
            · have hq : ((s[J].toNat : Int) == 59) = false := byte_ne (c := 59) h59 rfl
              rw [if_neg (by simpa using h59)] at HR
              clear hhd h59 hnb
              go_wp2_with fail
              refine HCH.out.mono ?_
              rintro e w' ⟨rfl, rfl⟩
              go_wp2_with fail
              go_ret3
              refine ⟨?_, rfl⟩
              rw [HR.out]
              have h1 := HJ.out
              have h2 := HAL.out
              exact ret_num (by omega)
          · have hJi : ¬ (J : Int) < s.size := by omega
            have hhd : (s.data.toList.drop J).head? = none := by
              rw [List.head?_drop, List.getElem?_eq_none (by simpa using hJs)]
            rw [hhd, if_neg (by decide)] at HR
            clear hhd hnb
            go_wp2_with fail
            refine HCH.out.mono ?_
            rintro e w' ⟨rfl, rfl⟩
            go_wp2_with fail
            go_ret3
            refine ⟨?_, rfl⟩
            rw [HR.out]
            have h1 := HJ.out
            have h2 := HAL.out
            exact ret_num (by omega)

      · have hq0 : ((s[a].toNat : Int) == 120) = false := by rw [hx]; rfl
        have hq : ((s[a].toNat : Int) == 88) = true := by rw [hx]; rfl
        clear hx
        go_enter Tryd.func109, Tryd.ntmps109
        go_wp2_with fail
        try rw [hAi]
        clear hAi hq hq0
        refine loop_out (nloop_any _ rfl _ s 16 A (by decide) HA1.out hs ?hQ2) (fun _ _ h => h)
        intro u10 u11 u31 u32 u33 u34 u35 u36 u37 u38 u39 u40 u41 u42 u43 u44 u45 u46 u47 u48 u49 u50 u51 u52 u53 u54 u55 u56
        obtain ⟨D, hD⟩ : ∃ D, (s.data.toList.drop A).takeWhile (isD 16) = D := ⟨_, rfl⟩
        rw [hD]
        have hall : D.all (isD 16) = true := by rw [← hD]; exact List.all_takeWhile
        have hnb := numV_in 16 (by decide) D hall
        have hDl : A + D.length ≤ s.size := by
          have h1 := (List.takeWhile_prefix (isD 16) (l := s.data.toList.drop A)).length_le
          rw [hD, List.length_drop] at h1
          have h2 : s.data.toList.length = s.size := by simp
          have h3 := HA1.out
          omega
        have HR : Hid (numR (s.data.toList.drop a) = if D = [] then none else some (charN (numV 16 D), 1 + D.length + (if (s.data.toList.drop (A + D.length)).head? = some 59 then 1 else 0))) := by
          show _ = _
          unfold numR
          rw [HB.out]
          simp only [List.drop_drop, HA.out, hD]
          rw [← HA.out]; simp only [Nat.add_assoc]
        obtain ⟨n, hn⟩ : ∃ n, numV 16 D = n := ⟨_, rfl⟩
        rw [hn] at hnb HR
        rw [hn]
        clear hn hall
        by_cases hD0 : D = []
        · rw [if_pos hD0] at HR
          have hJ : A + D.length = A := by rw [hD0]; rfl
          rw [hJ]
          clear hD hD0 hJ hDl hnb
          go_wp2_with fail
          go_ret3
          exact ⟨by rw [HR.out]; rfl, rfl⟩
        · rw [if_neg hD0] at HR
          obtain ⟨J, hJ⟩ : ∃ J, A + D.length = J := ⟨_, rfl⟩
          have hlen : 0 < D.length := List.length_pos_iff.2 hD0
          rw [hJ] at HR hDl
          rw [hJ]
          have hne : ((J : Int) == (A : Int)) = false := by simp; omega
          have HCH := Lib.hid (char_any n w HT.out hnb.1 hnb.2)
          obtain ⟨C, hC⟩ : ∃ C, charN n = C := ⟨_, rfl⟩
          rw [hC] at HCH HR
          have HJ := Lib.hid hJ
          have HAL := Lib.hid (HA.out)
          clear hJ hlen hD0 hD hC
          by_cases hJs : J < s.size
          · have hJi : (J : Int) < s.size := by omega
            have hhd : (s.data.toList.drop J).head? = some s[J] := by
              have hl : J < s.data.toList.length := by simpa using hJs
              rw [List.head?_drop, List.getElem?_eq_getElem hl]
              rfl
            rw [hhd] at HR
            by_cases h59 : s[J] = 59
            · have hq : ((s[J].toNat : Int) == 59) = true := by rw [h59]; rfl
              rw [if_pos (by rw [h59])] at HR
              clear hhd h59 hnb
              go_wp2_with fail
              refine HCH.out.mono ?_
              rintro e w' ⟨rfl, rfl⟩
              go_wp2_with fail
              go_ret3
              refine ⟨?_, rfl⟩
              rw [HR.out]
              have h1 := HJ.out
              have h2 := HAL.out
              exact ret_num (by omega)
            · have hq : ((s[J].toNat : Int) == 59) = false := byte_ne (c := 59) h59 rfl
              rw [if_neg (by simpa using h59)] at HR
              clear hhd h59 hnb
              go_wp2_with fail
              refine HCH.out.mono ?_
              rintro e w' ⟨rfl, rfl⟩
              go_wp2_with fail
              go_ret3
              refine ⟨?_, rfl⟩
              rw [HR.out]
              have h1 := HJ.out
              have h2 := HAL.out
              exact ret_num (by omega)
          · have hJi : ¬ (J : Int) < s.size := by omega
            have hhd : (s.data.toList.drop J).head? = none := by
              rw [List.head?_drop, List.getElem?_eq_none (by simpa using hJs)]
            rw [hhd, if_neg (by decide)] at HR
            clear hhd hnb
            go_wp2_with fail
            refine HCH.out.mono ?_
            rintro e w' ⟨rfl, rfl⟩
            go_wp2_with fail
            go_ret3
            refine ⟨?_, rfl⟩
            rw [HR.out]
            have h1 := HJ.out
            have h2 := HAL.out
            exact ret_num (by omega)

    · have HB : Hid (baseK (s.data.toList.drop a) = (10, 0)) := by show _ = _; unfold baseK; rw [hhd]; simp only [if_neg hx]
      have hx1 : ¬ s[a] = 120 := fun h => hx (.inl h)
      have hx2 : ¬ s[a] = 88 := fun h => hx (.inr h)
      have hq0 : ((s[a].toNat : Int) == 120) = false := byte_ne (c := 120) hx1 rfl
      have hq : ((s[a].toNat : Int) == 88) = false := byte_ne (c := 88) hx2 rfl
      clear hx hx1 hx2 hhd
      go_enter Tryd.func109, Tryd.ntmps109
      go_wp2_with fail
      clear hq hq0
      refine loop_out (nloop_any _ rfl _ s 10 a (by decide) ha hs ?hQ3) (fun _ _ h => h)
      intro u10 u11 u31 u32 u33 u34 u35 u36 u37 u38 u39 u40 u41 u42 u43 u44 u45 u46 u47 u48 u49 u50 u51 u52 u53 u54 u55 u56
      obtain ⟨D, hD⟩ : ∃ D, (s.data.toList.drop a).takeWhile (isD 10) = D := ⟨_, rfl⟩
      rw [hD]
      have hall : D.all (isD 10) = true := by rw [← hD]; exact List.all_takeWhile
      have hnb := numV_in 10 (by decide) D hall
      have hDl : a + D.length ≤ s.size := by
        have h1 := (List.takeWhile_prefix (isD 10) (l := s.data.toList.drop a)).length_le
        rw [hD, List.length_drop] at h1
        have h2 : s.data.toList.length = s.size := by simp
        skip
        omega
      have HR : Hid (numR (s.data.toList.drop a) = if D = [] then none else some (charN (numV 10 D), 0 + D.length + (if (s.data.toList.drop (a + D.length)).head? = some 59 then 1 else 0))) := by
        show _ = _
        unfold numR
        rw [HB.out]
        simp only [List.drop_drop, Nat.zero_add, Nat.add_zero, hD]
        skip
      obtain ⟨n, hn⟩ : ∃ n, numV 10 D = n := ⟨_, rfl⟩
      rw [hn] at hnb HR
      rw [hn]
      clear hn hall
      by_cases hD0 : D = []
      · rw [if_pos hD0] at HR
        have hJ : a + D.length = a := by rw [hD0]; rfl
        rw [hJ]
        clear hD hD0 hJ hDl hnb
        go_wp2_with fail
        go_ret3
        exact ⟨by rw [HR.out]; rfl, rfl⟩
      · rw [if_neg hD0] at HR
        obtain ⟨J, hJ⟩ : ∃ J, a + D.length = J := ⟨_, rfl⟩
        have hlen : 0 < D.length := List.length_pos_iff.2 hD0
        rw [hJ] at HR hDl
        rw [hJ]
        have hne : ((J : Int) == (a : Int)) = false := by simp; omega
        have HCH := Lib.hid (char_any n w HT.out hnb.1 hnb.2)
        obtain ⟨C, hC⟩ : ∃ C, charN n = C := ⟨_, rfl⟩
        rw [hC] at HCH HR
        have HJ := Lib.hid hJ
        have HAL := Lib.hid ((rfl : a = a))
        clear hJ hlen hD0 hD hC
        by_cases hJs : J < s.size
        · have hJi : (J : Int) < s.size := by omega
          have hhd : (s.data.toList.drop J).head? = some s[J] := by
            have hl : J < s.data.toList.length := by simpa using hJs
            rw [List.head?_drop, List.getElem?_eq_getElem hl]
            rfl
          rw [hhd] at HR
          by_cases h59 : s[J] = 59
          · have hq : ((s[J].toNat : Int) == 59) = true := by rw [h59]; rfl
            rw [if_pos (by rw [h59])] at HR
            clear hhd h59 hnb
            go_wp2_with fail
            refine HCH.out.mono ?_
            rintro e w' ⟨rfl, rfl⟩
            go_wp2_with fail
            go_ret3
            refine ⟨?_, rfl⟩
            rw [HR.out]
            have h1 := HJ.out
            have h2 := HAL.out
            exact ret_num (by omega)
          · have hq : ((s[J].toNat : Int) == 59) = false := byte_ne (c := 59) h59 rfl
            rw [if_neg (by simpa using h59)] at HR
            clear hhd h59 hnb
            go_wp2_with fail
            refine HCH.out.mono ?_
            rintro e w' ⟨rfl, rfl⟩
            go_wp2_with fail
            go_ret3
            refine ⟨?_, rfl⟩
            rw [HR.out]
            have h1 := HJ.out
            have h2 := HAL.out
            exact ret_num (by omega)
        · have hJi : ¬ (J : Int) < s.size := by omega
          have hhd : (s.data.toList.drop J).head? = none := by
            rw [List.head?_drop, List.getElem?_eq_none (by simpa using hJs)]
          rw [hhd, if_neg (by decide)] at HR
          clear hhd hnb
          go_wp2_with fail
          refine HCH.out.mono ?_
          rintro e w' ⟨rfl, rfl⟩
          go_wp2_with fail
          go_ret3
          refine ⟨?_, rfl⟩
          rw [HR.out]
          have h1 := HJ.out
          have h2 := HAL.out
          exact ret_num (by omega)

  · have hai : ¬ (a : Int) < s.size := by omega
    have HB : Hid (baseK (s.data.toList.drop a) = (10, 0)) := by
      show _ = _
      unfold baseK
      rw [List.head?_drop, List.getElem?_eq_none (by simpa using hlt)]
    go_enter Tryd.func109, Tryd.ntmps109
    go_wp2_with fail
    refine loop_out (nloop_any _ rfl _ s 10 a (by decide) ha hs ?hQ4) (fun _ _ h => h)
    intro u10 u11 u31 u32 u33 u34 u35 u36 u37 u38 u39 u40 u41 u42 u43 u44 u45 u46 u47 u48 u49 u50 u51 u52 u53 u54 u55 u56
    obtain ⟨D, hD⟩ : ∃ D, (s.data.toList.drop a).takeWhile (isD 10) = D := ⟨_, rfl⟩
    rw [hD]
    have hall : D.all (isD 10) = true := by rw [← hD]; exact List.all_takeWhile
    have hnb := numV_in 10 (by decide) D hall
    have hDl : a + D.length ≤ s.size := by
      have h1 := (List.takeWhile_prefix (isD 10) (l := s.data.toList.drop a)).length_le
      rw [hD, List.length_drop] at h1
      have h2 : s.data.toList.length = s.size := by simp
      skip
      omega
    have HR : Hid (numR (s.data.toList.drop a) = if D = [] then none else some (charN (numV 10 D), 0 + D.length + (if (s.data.toList.drop (a + D.length)).head? = some 59 then 1 else 0))) := by
      show _ = _
      unfold numR
      rw [HB.out]
      simp only [List.drop_drop, Nat.zero_add, Nat.add_zero, hD]
      skip
    obtain ⟨n, hn⟩ : ∃ n, numV 10 D = n := ⟨_, rfl⟩
    rw [hn] at hnb HR
    rw [hn]
    clear hn hall
    by_cases hD0 : D = []
    · rw [if_pos hD0] at HR
      have hJ : a + D.length = a := by rw [hD0]; rfl
      rw [hJ]
      clear hD hD0 hJ hDl hnb
      go_wp2_with fail
      go_ret3
      exact ⟨by rw [HR.out]; rfl, rfl⟩
    · rw [if_neg hD0] at HR
      obtain ⟨J, hJ⟩ : ∃ J, a + D.length = J := ⟨_, rfl⟩
      have hlen : 0 < D.length := List.length_pos_iff.2 hD0
      rw [hJ] at HR hDl
      rw [hJ]
      have hne : ((J : Int) == (a : Int)) = false := by simp; omega
      have HCH := Lib.hid (char_any n w HT.out hnb.1 hnb.2)
      obtain ⟨C, hC⟩ : ∃ C, charN n = C := ⟨_, rfl⟩
      rw [hC] at HCH HR
      have HJ := Lib.hid hJ
      have HAL := Lib.hid ((rfl : a = a))
      clear hJ hlen hD0 hD hC
      by_cases hJs : J < s.size
      · have hJi : (J : Int) < s.size := by omega
        have hhd : (s.data.toList.drop J).head? = some s[J] := by
          have hl : J < s.data.toList.length := by simpa using hJs
          rw [List.head?_drop, List.getElem?_eq_getElem hl]
          rfl
        rw [hhd] at HR
        by_cases h59 : s[J] = 59
        · have hq : ((s[J].toNat : Int) == 59) = true := by rw [h59]; rfl
          rw [if_pos (by rw [h59])] at HR
          clear hhd h59 hnb
          go_wp2_with fail
          refine HCH.out.mono ?_
          rintro e w' ⟨rfl, rfl⟩
          go_wp2_with fail
          go_ret3
          refine ⟨?_, rfl⟩
          rw [HR.out]
          have h1 := HJ.out
          have h2 := HAL.out
          exact ret_num (by omega)
        · have hq : ((s[J].toNat : Int) == 59) = false := byte_ne (c := 59) h59 rfl
          rw [if_neg (by simpa using h59)] at HR
          clear hhd h59 hnb
          go_wp2_with fail
          refine HCH.out.mono ?_
          rintro e w' ⟨rfl, rfl⟩
          go_wp2_with fail
          go_ret3
          refine ⟨?_, rfl⟩
          rw [HR.out]
          have h1 := HJ.out
          have h2 := HAL.out
          exact ret_num (by omega)
      · have hJi : ¬ (J : Int) < s.size := by omega
        have hhd : (s.data.toList.drop J).head? = none := by
          rw [List.head?_drop, List.getElem?_eq_none (by simpa using hJs)]
        rw [hhd, if_neg (by decide)] at HR
        clear hhd hnb
        go_wp2_with fail
        refine HCH.out.mono ?_
        rintro e w' ⟨rfl, rfl⟩
        go_wp2_with fail
        go_ret3
        refine ⟨?_, rfl⟩
        rw [HR.out]
        have h1 := HJ.out
        have h2 := HAL.out
        exact ret_num (by omega)
end Go.Proofs.YteeplfbaflldaaaDoor.R9
