/- Arguments that are slices of bytes, alone or in an array of three: as the walks want them. -/
import Derived.Test.YteeplfbaflldaaaDoorLet25
import Derived.Test.YteeplfbaflldaaaDoorFin
import Derived.WideKeyPair
set_option linter.unusedVariables false
namespace Go.Proofs.YteeplfbaflldaaaDoor.S25
open Go.ChangeShapes Go.WideShapes Go.ChangeAt Go.RowKit Go.Deep Go.WideMaps

theorem u8_back {n : Int} (h0 : 0 ≤ n) (h1 : n ≤ 255) : (((UInt8.ofNat n.toNat).toNat : Nat) : Int) = n := by
  have : (UInt8.ofNat n.toNat).toNat = n.toNat := by
    rw [UInt8.toNat_ofNat']
    omega
  rw [this]; omega
theorem byteV_of {zs : List Int} (h : ∀ z ∈ zs, 0 ≤ z ∧ z ≤ 255) : byteV (zs.map fun n => UInt8.ofNat n.toNat) = zs.map (Value.int .u8) := by
  unfold byteV
  rw [List.map_map]
  refine List.map_congr_left fun n hn => ?_
  show Value.int .u8 _ = _
  rw [u8_back (h n hn).1 (h n hn).2]
theorem bytes_of_trod {H : Type} {enc : TypeId × Value → H} {W : World} {v : Value} {fuel : Nat} {x : DataW H × List MemPlace} (h : DataW.trod enc Tryd.prog W 0 (fun _ => true) true fuel 47 [v] = some x) :
    ∃ (z : List UInt8) (a : Option Addr) (c : Nat), v = .slice a z.length c ∧ SliceIn W (.slice a z.length c) (byteV z) := by
  rcases open_ints Tryd.underlying47 Tryd.underlying5 (by kernel_rfl) h with ⟨hcs, hx⟩ | ⟨a, len, cap, zs, hcs, _, hl, hm, hz, hx, hcell, hwz⟩
  · simp only [List.cons.injEq, and_true] at hcs
    exact ⟨[], none, 0, hcs, ⟨none, 0, rfl, Nat.le_refl _, by unfold maxLen; omega, fun hne => absurd rfl hne⟩⟩
  · simp only [List.cons.injEq, and_true] at hcs
    have hlen : (zs.take len).length = len := by
      rw [List.length_take, hz]; simp; omega
    have hbd : ∀ z ∈ zs.take len, 0 ≤ z ∧ z ≤ 255 := fun z hz' => by
      have := bounds_u8 (hwz z (List.mem_of_mem_take hz'))
      omega
    have hsl := byteV_of hbd
    refine ⟨(zs.take len).map fun n => UInt8.ofNat n.toNat, some a, cap, by rw [List.length_map, hlen]; exact hcs, ?_⟩
    rw [hsl]
    refine ⟨some a, cap, by rw [List.length_map, List.length_map], by rw [List.length_map, hlen]; exact hl, hm, fun hne => ?_⟩
    have hpos : 0 < len := by
      rcases Nat.eq_zero_or_pos len with h0 | h0
      · subst h0; simp at hne
      · exact h0
    have hz0 : 0 < zs.length := by rw [hz]; simp; omega
    have h0 := hcell 0 hz0
    obtain ⟨_, hadd⟩ := add_plain h0
    refine ⟨a.block, a.off, ?_, ?_, fun i hi => ?_⟩
    · have := World.cell?_spot h0
      obtain ⟨b, off, spot⟩ := a
      have hspot : spot = none := by simpa [Addr.add] using this
      subst hspot
      rfl
    · have := World.block_lt_of_cell? W _ h0
      rw [hadd 0] at this
      exact this
    · have hi2 : i < len := by rw [List.length_map, hlen] at hi; exact hi
      have := hcell i (by rw [hz]; simp; omega)
      rw [hadd i] at this
      rw [this]
      simp [List.getD, show i < zs.length by rw [hz]; simp; omega]
set_option maxRecDepth 100000 in
theorem bytes_in {H : Type} {enc : TypeId × Value → H} {W : World} {v : Value} {d : DataW H} {p : List MemPlace} {base : Nat}
    (hv : Value.okWide Tryd.prog W .any base 47 v) (h : DataW.Trod enc Tryd.prog W 0 (fun _ => true) true 47 v d p) :
    ∃ (z : List UInt8) (a : Option Addr) (c : Nat), v = .slice a z.length c ∧ SliceIn W (.slice a z.length c) (byteV z) := by
  obtain ⟨a0, len, cap, rfl⟩ := okWide_slice Tryd.underlying47 hv
  obtain ⟨fuel, hf⟩ := h
  exact bytes_of_trod (fuel := fuel) (x := (d, p)) hf
set_option maxRecDepth 100000 in
theorem threeB_in {H : Type} {enc : TypeId × Value → H} {W : World} {v : Value} {d : DataW H} {p : List MemPlace} {base : Nat}
    (hv : Value.okWide Tryd.prog W .any base 48 v) (h : DataW.Trod enc Tryd.prog W 0 (fun _ => true) true 48 v d p) :
    ∃ (a0 a1 a2 : Option Addr) (c0 c1 c2 : Nat) (z0 z1 z2 : List UInt8), v = .agg #[.slice a0 z0.length c0, .slice a1 z1.length c1, .slice a2 z2.length c2] ∧ SliceIn W (.slice a0 z0.length c0) (byteV z0) ∧ SliceIn W (.slice a1 z1.length c1) (byteV z1) ∧ SliceIn W (.slice a2 z2.length c2) (byteV z2) := by
  have hu : Tryd.prog.underlying 48 = some (.array 3 47) := Tryd.underlying48
  have size : Tryd.prog.cellsOf 48 = 3 := by kernel_rfl
  have one : Tryd.prog.cellsOf 47 = 1 := by kernel_rfl
  have hshape : ∃ c0 c1 c2, v = .agg #[c0, c1, c2] := by
    simp only [Value.okWide, hu] at hv
    obtain ⟨cs, h1, h2, _⟩ := hv
    rw [size] at h2
    obtain ⟨l⟩ := cs
    match l, h2 with
    | [c0, c1, c2], _ => exact ⟨c0, c1, c2, h1⟩
  obtain ⟨v0, v1, v2, rfl⟩ := hshape
  obtain ⟨fuel, hf⟩ := h
  cases fuel with
  | zero => simp [DataW.trod] at hf
  | succ n =>
    rw [DataW.trod_step] at hf
    unfold DataW.trodStep at hf
    simp only [hu, Value.cells] at hf
    rw [if_pos (by rw [size]; rfl)] at hf
    simp only [Option.map_eq_some_iff] at hf
    obtain ⟨xs, hx, e1⟩ := hf
    rw [show List.range 3 = [0, 1, 2] from rfl, List.mapM_cons, List.mapM_cons, List.mapM_cons, List.mapM_nil] at hx
    simp only [bind, Option.bind_eq_some_iff, pure, Option.some.injEq, one] at hx
    obtain ⟨y0, t0, _, ⟨y1, t1, _, ⟨y2, t2, _, rfl, rfl⟩, rfl⟩, rfl⟩ := hx
    obtain ⟨z0, a0, c0, e0, s0⟩ := bytes_of_trod t0
    obtain ⟨z1, a1, c1, e1', s1⟩ := bytes_of_trod t1
    obtain ⟨z2, a2, c2, e2', s2⟩ := bytes_of_trod t2
    subst e0 e1' e2'
    exact ⟨a0, a1, a2, c0, c1, c2, z0, z1, z2, rfl, s0, s1, s2⟩
end Go.Proofs.YteeplfbaflldaaaDoor.S25
