/- Numbers by digits to the base 65536, as lists: times, above. -/
import Derived.Test.YtnlhhjokaekdhaaDoorArr
import Derived.Test.YtnlhhjokaekdhaaDoorLz
import Derived.Test.YtnlhhjokaekdhaaDoorArgs
import Derived.OwnWalk
set_option linter.unusedVariables false
set_option linter.unusedSimpArgs false
namespace Go.Proofs.YtnlhhjokaekdhaaDoor.R4
open Go.RowKit

theorem owns_slice {w : World} {B n : Nat} {e : TypeId} {v : Value} {xs : List Value} (h : w.ownsRow B e 1 v n xs) (hn : xs.length = n) : SliceIn w v xs := by
  subst hn
  rcases h.2 with ⟨rfl, h0⟩ | ⟨g, cap, cur, rfl, hg, hh, hle, hcm, hcs, htake⟩
  · exact ⟨none, 0, by rw [h0], by omega, by unfold maxLen; omega, fun hne => absurd (List.length_eq_zero_iff.1 h0) hne⟩
  · refine ⟨_, cap, rfl, hle, hcm, fun hne => ⟨g, 0, rfl, (Array.getElem?_eq_some_iff.1 hh).1, fun i hi => ?_⟩⟩
    have := h.cells (g := g) rfl i _ (List.getElem?_eq_getElem hi)
    have hadd : (⟨g, 0, none⟩ : Addr).add i = ⟨g, 0 + i, none⟩ := by unfold Addr.add; split <;> simp_all
    rw [hadd] at this
    exact this
theorem owns_free {w : World} {B n sz cap g : Nat} {e : TypeId} {v : Value} {xs : List Value} (h : w.ownsRow B e sz v n xs) (hv : v = .slice (some ⟨g, 0, none⟩) n cap) (k : Nat) : w.frozen? ⟨g, k, none⟩ = false := by
  rcases h.2 with ⟨rfl, _⟩ | ⟨g', cap', cur, rfl, hg, hh, hle, hcm, hcs, htake⟩
  · cases hv
  · injection hv with e1 _ e3
    injection e1 with e1
    injection e1 with e1 _
    subst e1
    exact Lib.frozen_of_heap hh k
theorem owns_set {w : World} {B n sz cap g k : Nat} {e : TypeId} {v : Value} {xs : List Value} (h : w.ownsRow B e sz v n xs) (hv : v = .slice (some ⟨g, 0, none⟩) n cap) (u : Value) : (w.setCell ⟨g, k, none⟩ u).ownsRow B e sz v n (xs.set k u) := by
  rcases h.2 with ⟨rfl, _⟩ | ⟨g', cap', cur, rfl, hg, hh, hle, hcm, hcs, htake⟩
  · cases hv
  · injection hv with e1 _ e3
    injection e1 with e1
    injection e1 with e1 _
    subst e1
    refine ⟨by simpa using h.1, .inr ⟨g', cap', cur.setIfInBounds k u, rfl, hg, ?_, hle, hcm, by simpa using hcs, ?_⟩⟩
    · unfold World.setCell; simp [Array.getElem?_modify, hh]
    · rw [← htake]; simp [List.take_set]

def dsN : List UInt8 := [100, 101, 102, 97, 117, 108, 116, 45, 115, 114, 99]
def aloneN : List (List UInt8) := [[115, 99, 114, 105, 112, 116, 45, 115, 114, 99], [115, 116, 121, 108, 101, 45, 115, 114, 99], [99, 104, 105, 108, 100, 45, 115, 114, 99], [99, 111, 110, 110, 101, 99, 116, 45, 115, 114, 99], [109, 97, 110, 105, 102, 101, 115, 116, 45, 115, 114, 99], [111, 98, 106, 101, 99, 116, 45, 115, 114, 99], [102, 111, 110, 116, 45, 115, 114, 99], [105, 109, 103, 45, 115, 114, 99], [109, 101, 100, 105, 97, 45, 115, 114, 99]]
def raC : Array Value := #[.string ⟨#[115, 99, 114, 105, 112, 116, 45, 115, 114, 99]⟩, .string ⟨#[115, 116, 121, 108, 101, 45, 115, 114, 99]⟩, .string ⟨#[99, 104, 105, 108, 100, 45, 115, 114, 99]⟩, .string ⟨#[99, 111, 110, 110, 101, 99, 116, 45, 115, 114, 99]⟩, .string ⟨#[109, 97, 110, 105, 102, 101, 115, 116, 45, 115, 114, 99]⟩, .string ⟨#[111, 98, 106, 101, 99, 116, 45, 115, 114, 99]⟩, .string ⟨#[102, 111, 110, 116, 45, 115, 114, 99]⟩, .string ⟨#[105, 109, 103, 45, 115, 114, 99]⟩, .string ⟨#[109, 101, 100, 105, 97, 45, 115, 114, 99]⟩]
def intV (l : List Int) : List Value := l.map (Value.int .i64)
theorem intV_len (l : List Int) : (intV l).length = l.length := by simp [intV]
theorem intV_get {l : List Int} {i : Nat} (h : i < l.length) : (intV l)[i]? = some (.int .i64 (l.getD i 0)) := by
  unfold intV
  rw [List.getElem?_map, List.getElem?_eq_getElem h]
  simp [List.getD, h]
theorem intV_set (l : List Int) (i : Nat) (x : Int) : (intV l).set i (.int .i64 x) = intV (l.set i x) := by
  unfold intV
  rw [List.map_set]
/-- Digits. -/
def Dig (l : List Int) : Prop := ∀ x ∈ l, 0 ≤ x ∧ x ≤ 65535
theorem Dig.get {l : List Int} (h : Dig l) (i : Nat) : 0 ≤ l.getD i 0 ∧ l.getD i 0 ≤ 65535 := by
  rw [List.getD_eq_getElem?_getD]
  cases e : l[i]? with
  | none => simp
  | some x => exact h x (List.mem_of_getElem? e)
theorem Dig.set {l : List Int} (h : Dig l) (i : Nat) {x : Int} (h0 : 0 ≤ x) (h1 : x ≤ 65535) : Dig (l.set i x) := by
  intro y hy
  rcases List.mem_or_eq_of_mem_set hy with e | e
  · exact h y e
  · subst e; exact ⟨h0, h1⟩
theorem Dig.zeros (n : Nat) : Dig (List.replicate n 0) := by
  intro x hx
  rw [List.eq_of_mem_replicate hx]
  exact ⟨by omega, by omega⟩
def innL (ai : Int) (b : List Int) (i : Nat) (out : List Int) : Nat → List Int × Int
  | 0 => (out, 0)
  | k + 1 => match innL ai b i out k with
    | (o, c) => (o.set (i + k) ((o.getD (i + k) 0 + ai * b.getD k 0 + c) % 65536), (o.getD (i + k) 0 + ai * b.getD k 0 + c) / 65536)
def outr (a b : List Int) : Nat → List Int
  | 0 => List.replicate (a.length + b.length) 0
  | i + 1 => match innL (a.getD i 0) b i (outr a b i) b.length with
    | (o, c) => o.set (i + b.length) c
def timesL (a b : List Int) : List Int := outr a b a.length
theorem mul_dig {x y : Int} (hx : 0 ≤ x ∧ x ≤ 65535) (hy : 0 ≤ y ∧ y ≤ 65535) : 0 ≤ x * y ∧ x * y ≤ 4294836225 := by
  refine ⟨Int.mul_nonneg hx.1 hy.1, ?_⟩
  have := Int.mul_le_mul hx.2 hy.2 hy.1 (by omega)
  omega
theorem innL_dig {ai : Int} {b out : List Int} {i : Nat} (ha : 0 ≤ ai ∧ ai ≤ 65535) (hb : Dig b) (ho : Dig out) : ∀ k, Dig (innL ai b i out k).1 ∧ 0 ≤ (innL ai b i out k).2 ∧ (innL ai b i out k).2 ≤ 65535 ∧ (innL ai b i out k).1.length = out.length
  | 0 => ⟨ho, by show (0 : Int) ≤ 0; omega, by show (0 : Int) ≤ 65535; omega, rfl⟩
  | k + 1 => by
    obtain ⟨h1, h2, h3, h4⟩ := innL_dig (i := i) ha hb ho k
    have e : innL ai b i out (k + 1) = ((innL ai b i out k).1.set (i + k) (((innL ai b i out k).1.getD (i + k) 0 + ai * b.getD k 0 + (innL ai b i out k).2) % 65536), ((innL ai b i out k).1.getD (i + k) 0 + ai * b.getD k 0 + (innL ai b i out k).2) / 65536) := by
      rw [innL]
    have hg := h1.get (i + k)
    have hm := mul_dig ha (hb.get k)
    rw [e]
    generalize ai * b.getD k 0 = M at *
    generalize (innL ai b i out k).1.getD (i + k) 0 = G at *
    generalize (innL ai b i out k).2 = C at *
    refine ⟨h1.set _ (by omega) (by omega), by show 0 ≤ _ / _; omega, by show _ / _ ≤ _; omega, by simp [h4]⟩
theorem innL_step (ai : Int) (b out : List Int) (i k : Nat) : innL ai b i out (k + 1) = ((innL ai b i out k).1.set (i + k) (((innL ai b i out k).1.getD (i + k) 0 + ai * b.getD k 0 + (innL ai b i out k).2) % 65536), ((innL ai b i out k).1.getD (i + k) 0 + ai * b.getD k 0 + (innL ai b i out k).2) / 65536) := by rw [innL]
theorem outr_dig {a b : List Int} (ha : Dig a) (hb : Dig b) : ∀ i, Dig (outr a b i) ∧ (outr a b i).length = a.length + b.length
  | 0 => ⟨Dig.zeros _, by simp [outr]⟩
  | i + 1 => by
    obtain ⟨h1, h2⟩ := outr_dig ha hb i
    obtain ⟨g1, g2, g3, g4⟩ := innL_dig (i := i) (ha.get i) hb h1 b.length
    rw [outr]
    exact ⟨g1.set _ g2 g3, by rw [List.length_set, g4, h2]⟩
theorem outr_step (a b : List Int) (i : Nat) : outr a b (i + 1) = (innL (a.getD i 0) b i (outr a b i) b.length).1.set (i + b.length) (innL (a.getD i 0) b i (outr a b i) b.length).2 := by rw [outr]
def aboveL (a b : List Int) : Nat → Bool
  | 0 => false
  | i + 1 => if a.getD i 0 = b.getD i 0 then aboveL a b i else decide (b.getD i 0 < a.getD i 0)
end Go.Proofs.YtnlhhjokaekdhaaDoor.R4
