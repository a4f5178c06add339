/- Letters by fours, bytes by threes: what encoding and decoding have to do with each other. Of no program. -/
import Derived.Test.YtfbmabbehiicmaaDoorB64d
import Derived.Test.YtfbmabbehiicmaaDoorLin
set_option linter.unusedVariables false
namespace Go.Proofs.YtfbmabbehiicmaaDoor

def encC : List UInt8 → List UInt8
  | [] => []
  | [a] => [L64 (a.toNat / 4), L64 (a.toNat % 4 * 16)]
  | [a, b] => [L64 (a.toNat / 4), L64 (a.toNat % 4 * 16 + b.toNat / 16), L64 (b.toNat % 16 * 4)]
  | a :: b :: c :: r => L64 (a.toNat / 4) :: L64 (a.toNat % 4 * 16 + b.toNat / 16) :: L64 (b.toNat % 16 * 4 + c.toNat / 64) :: L64 (c.toNat % 64) :: encC r
theorem encA_one (B : Nat) (a : UInt8) (r : List UInt8) : encA B 0 (a :: r) = L64 (a.toNat / 4) :: encA (stepB B a) 2 r := by
  have ha := a.toNat_lt
  rw [encA]
  simp [emitE]
  unfold stepB
  congr 1
  omega
theorem encA_two (B : Nat) (a b : UInt8) (r : List UInt8) : encA (stepB B a) 2 (b :: r) = L64 (a.toNat % 4 * 16 + b.toNat / 16) :: encA (stepB (stepB B a) b) 4 r := by
  have ha := a.toNat_lt
  have hb := b.toNat_lt
  rw [encA]
  simp [emitE]
  unfold stepB
  congr 1
  omega
theorem encA_three (B : Nat) (b c : UInt8) (r : List UInt8) : encA (stepB B b) 4 (c :: r) = L64 (b.toNat % 16 * 4 + c.toNat / 64) :: L64 (c.toNat % 64) :: encA (stepB (stepB B b) c) 0 r := by
  have ha := b.toNat_lt
  have hb := c.toNat_lt
  rw [encA]
  simp [emitE]
  unfold stepB
  refine ⟨congrArg L64 (by omega), congrArg L64 (by omega)⟩
theorem encA_eq : ∀ (l : List UInt8) (B : Nat), encA B 0 l = encC l
  | [], B => by simp [encA, encC]
  | [a], B => by
    have ha := a.toNat_lt
    rw [encA_one, encA, encC, if_neg (by decide)]
    unfold stepB
    congr 3
    omega
  | [a, b], B => by
    have ha := a.toNat_lt
    have hb := b.toNat_lt
    rw [encA_one, encA_two, encA, encC, if_neg (by decide)]
    unfold stepB
    congr 4
    omega
  | a :: b :: c :: r, B => by
    rw [encA_one, encA_two, encA_three, encC, encA_eq r]
theorem encE_eq (l : List UInt8) : encE l = padE (encC l) := by unfold encE; rw [encA_eq]

def b8 (n : Nat) : UInt8 := UInt8.ofNat n
def decC : List UInt8 → Option (List UInt8)
  | [] => some []
  | [x] => (valN x.toNat).bind fun v => if v = 0 then some [] else none
  | [x, y] => (valN x.toNat).bind fun v => (valN y.toNat).bind fun w => if w % 16 = 0 then some [b8 (v * 4 + w / 16)] else none
  | [x, y, z] => (valN x.toNat).bind fun v => (valN y.toNat).bind fun w => (valN z.toNat).bind fun q => if q % 4 = 0 then some [b8 (v * 4 + w / 16), b8 (w % 16 * 16 + q / 4)] else none
  | x :: y :: z :: u :: r => (valN x.toNat).bind fun v => (valN y.toNat).bind fun w => (valN z.toNat).bind fun q => (valN u.toNat).bind fun p => (decC r).map fun t => b8 (v * 4 + w / 16) :: b8 (w % 16 * 16 + q / 4) :: b8 (q % 4 * 64 + p) :: t
theorem decA_step0 (B : Nat) (x : UInt8) (r : List UInt8) : decA B 0 (x :: r) = (valN x.toNat).bind fun v => decA (stepD B v) 6 r := by
  cases h : valN x.toNat with
  | none => rw [decA_bad h]; rfl
  | some v => rw [decA_cons0 h]; rfl
theorem decA_step (B H : Nat) (h0 : H ≠ 0) (x : UInt8) (r : List UInt8) : decA B H (x :: r) = (valN x.toNat).bind fun v => (decA (stepD B v) (H - 2) r).map fun t => UInt8.ofNat (stepD B v / 2 ^ (H - 2) % 256) :: t := by
  cases h : valN x.toNat with
  | none => rw [decA_bad h]; rfl
  | some v => rw [decA_cons h h0]; rfl
theorem d6 (B v w : Nat) (hv : v < 64) (hw : w < 64) : stepD (stepD B v) w / 2 ^ (6 - 2) % 256 = v * 4 + w / 16 := by unfold stepD; omega
theorem d4 (B v w : Nat) (hv : v < 64) (hw : w < 64) : stepD (stepD B v) w / 2 ^ (4 - 2) % 256 = v % 16 * 16 + w / 4 := by unfold stepD; omega
theorem d2 (B v w : Nat) (hv : v < 64) (hw : w < 64) : stepD (stepD B v) w / 2 ^ (2 - 2) % 256 = v % 4 * 64 + w := by unfold stepD; omega
theorem z6 (B v : Nat) (hv : v < 64) : (stepD B v % 2 ^ 6 = 0) = (v = 0) := by unfold stepD; apply propext; omega
theorem z4 (B v : Nat) (hv : v < 64) : (stepD B v % 2 ^ 4 = 0) = (v % 16 = 0) := by unfold stepD; apply propext; omega
theorem z2 (B v : Nat) (hv : v < 64) : (stepD B v % 2 ^ 2 = 0) = (v % 4 = 0) := by unfold stepD; apply propext; omega
theorem bind_eq {α β : Type} {o : Option α} {f g : α → Option β} (h : ∀ a, o = some a → f a = g a) : o.bind f = o.bind g := by
  cases o with
  | none => rfl
  | some a => exact h a rfl
theorem map_bind' {α β γ : Type} (o : Option α) (f : α → Option β) (g : β → γ) : (o.bind f).map g = o.bind fun a => (f a).map g := by cases o <;> rfl
theorem decA_eq : ∀ (l : List UInt8) (B : Nat), decA B 0 l = decC l
  | [], B => by simp [decA, decC, Nat.mod_one]
  | [x], B => by
    rw [decA_step0, decC]
    refine bind_eq fun v hv => ?_
    rw [decA]
    simp only [z6 B v (valN_lt hv)]
  | [x, y], B => by
    rw [decA_step0, decC]
    refine bind_eq fun v hv => ?_
    rw [decA_step _ _ (by decide)]
    refine bind_eq fun w hw => ?_
    rw [d6 B v w (valN_lt hv) (valN_lt hw), decA]
    simp only [show 6 - 2 = 4 from rfl, z4 _ w (valN_lt hw)]
    split <;> rfl
  | [x, y, z], B => by
    rw [decA_step0, decC]
    refine bind_eq fun v hv => ?_
    rw [decA_step _ _ (by decide)]
    refine bind_eq fun w hw => ?_
    rw [d6 B v w (valN_lt hv) (valN_lt hw), show 6 - 2 = 4 from rfl, decA_step _ _ (by decide), map_bind']
    refine bind_eq fun q hq => ?_
    rw [d4 _ w q (valN_lt hw) (valN_lt hq), decA]
    simp only [show 4 - 2 = 2 from rfl, z2 _ q (valN_lt hq)]
    split <;> rfl
  | x :: y :: z :: u :: r, B => by
    rw [decA_step0, decC]
    refine bind_eq fun v hv => ?_
    rw [decA_step _ _ (by decide)]
    refine bind_eq fun w hw => ?_
    rw [d6 B v w (valN_lt hv) (valN_lt hw), show 6 - 2 = 4 from rfl, decA_step _ _ (by decide), map_bind']
    refine bind_eq fun q hq => ?_
    rw [d4 _ w q (valN_lt hw) (valN_lt hq), show 4 - 2 = 2 from rfl, decA_step _ _ (by decide), map_bind', map_bind']
    refine bind_eq fun p hp => ?_
    rw [d2 _ q p (valN_lt hq) (valN_lt hp), show 2 - 2 = 0 from rfl, decA_eq r]
    cases decC r <;> rfl
theorem decE_eq (l : List UInt8) : decE l = if (unpadE l).length % 4 = 1 then none else decC (unpadE l) := by unfold decE; rw [decA_eq]

theorem val_L64 : ∀ n : Fin 64, valN (L64 n.val).toNat = some n.val := by decide +kernel
def plainB (c : UInt8) : UInt8 := if c = 45 then 43 else if c = 95 then 47 else c
def plainL (l : List UInt8) : List UInt8 := l.map plainB
theorem L64_val : ∀ c : Fin 256, valN c.val = none ∨ valN c.val = some ((valN c.val).getD 0) ∧ L64 ((valN c.val).getD 0) = plainB (UInt8.ofNat c.val) := by decide +kernel
theorem L64_of {c : UInt8} {v : Nat} (h : valN c.toNat = some v) : L64 v = plainB c := by
  have := L64_val ⟨c.toNat, c.toNat_lt⟩
  simp only [h] at this
  simpa using this
theorem val_of {n : Nat} (h : n < 64) : valN (L64 n).toNat = some n := val_L64 ⟨n, h⟩
theorem val_61 : valN 61 = none := by decide
theorem val_plain : ∀ c : Fin 256, valN (plainB (UInt8.ofNat c.val)).toNat = valN c.val := by decide +kernel
theorem valN_plain (c : UInt8) : valN (plainB c).toNat = valN c.toNat := by
  have := val_plain ⟨c.toNat, c.toNat_lt⟩
  simpa using this
theorem b8_toNat {n : Nat} (h : n < 256) : (b8 n).toNat = n := by unfold b8; rw [UInt8.toNat_ofNat']; omega
theorem b8_of {n : Nat} {c : UInt8} (h : n = c.toNat) : b8 n = c := by rw [h]; unfold b8; simp
/-- What is encoded is decoded. -/
theorem dec_encC : ∀ l : List UInt8, decC (encC l) = some l
  | [] => rfl
  | [a] => by
    have ha := a.toNat_lt
    rw [encC, decC, val_of (by omega), val_of (by omega)]
    simp only [Option.bind_some]
    rw [if_pos (by omega), b8_of (c := a) (by omega)]
  | [a, b] => by
    have ha := a.toNat_lt
    have hb := b.toNat_lt
    rw [encC, decC, val_of (by omega), val_of (by omega), val_of (by omega)]
    simp only [Option.bind_some]
    rw [if_pos (by omega), b8_of (c := a) (by omega), b8_of (c := b) (by omega)]
  | a :: b :: c :: r => by
    have ha := a.toNat_lt
    have hb := b.toNat_lt
    have hc := c.toNat_lt
    rw [encC, decC, val_of (by omega), val_of (by omega), val_of (by omega), val_of (by omega), dec_encC r]
    simp only [Option.bind_some, Option.map_some]
    rw [b8_of (c := a) (by omega), b8_of (c := b) (by omega), b8_of (c := c) (by omega)]
theorem encC_len : ∀ l : List UInt8, (encC l).length = (4 * l.length + 2) / 3 ∧ (encC l).length % 4 ≠ 1 ∧ (encC l).length ≤ 2 * l.length
  | [] => by simp [encC]
  | [a] => by simp [encC]
  | [a, b] => by simp [encC]
  | a :: b :: c :: r => by
    have ih := encC_len r
    rw [encC]
    simp
    omega
/-- Letters alone. -/
def letL (l : List UInt8) : Prop := ∀ c ∈ l, ∃ n, n < 64 ∧ c = L64 n
theorem encC_let : ∀ l : List UInt8, letL (encC l)
  | [] => fun c h => by simp [encC] at h
  | [a] => fun c h => by
    have ha := a.toNat_lt
    simp [encC] at h
    rcases h with rfl | rfl
    · exact ⟨_, by omega, rfl⟩
    · exact ⟨_, by omega, rfl⟩
  | [a, b] => fun c h => by
    have ha := a.toNat_lt
    have hb := b.toNat_lt
    simp [encC] at h
    rcases h with rfl | rfl | rfl
    · exact ⟨_, by omega, rfl⟩
    · exact ⟨_, by omega, rfl⟩
    · exact ⟨_, by omega, rfl⟩
  | a :: b :: c :: r => fun d h => by
    have ha := a.toNat_lt
    have hb := b.toNat_lt
    have hc := c.toNat_lt
    simp [encC] at h
    rcases h with rfl | rfl | rfl | rfl | h
    · exact ⟨_, by omega, rfl⟩
    · exact ⟨_, by omega, rfl⟩
    · exact ⟨_, by omega, rfl⟩
    · exact ⟨_, by omega, rfl⟩
    · exact encC_let r d h
theorem L64_not : ∀ n : Fin 64, L64 n.val ≠ 61 ∧ L64 n.val ≠ 45 ∧ L64 n.val ≠ 95 := by decide +kernel
theorem letL.no61 {l : List UInt8} (h : letL l) : ∀ c ∈ l, c ≠ 61 := fun c hc => by
  obtain ⟨n, hn, rfl⟩ := h c hc
  exact (L64_not ⟨n, hn⟩).1
theorem letL.plain {l : List UInt8} (h : letL l) : plainL l = l := by
  unfold plainL
  conv => rhs; rw [← List.map_id l]
  refine List.map_congr_left fun c hc => ?_
  obtain ⟨n, hn, rfl⟩ := h c hc
  have := L64_not ⟨n, hn⟩
  unfold plainB
  rw [if_neg this.2.1, if_neg this.2.2]
  rfl
theorem trim_yes (l : List UInt8) : Lib.trimSuffix (l ++ [61]) [61] = l := by
  unfold Lib.trimSuffix Lib.hasSuffix
  rw [if_pos (by simp)]
  simp
theorem trim_no {l : List UInt8} (h : ∀ c ∈ l, c ≠ 61) : Lib.trimSuffix l [61] = l := by
  unfold Lib.trimSuffix Lib.hasSuffix
  rw [if_neg]
  intro e
  rw [List.isSuffixOf_iff_suffix] at e
  exact h 61 (e.subset (by simp)) rfl
theorem unpad_pad {l : List UInt8} (h : ∀ c ∈ l, c ≠ 61) (hl : l.length % 4 ≠ 1) : unpadE (padE l) = l := by
  have hlen : (padE l).length % 4 = 0 := by unfold padE; simp; omega
  unfold unpadE
  rw [if_neg (by rw [hlen]; simp)]
  unfold padE
  obtain h0 | h0 | h0 : l.length % 4 = 0 ∨ l.length % 4 = 2 ∨ l.length % 4 = 3 := by omega
  · rw [h0]; simp [trim_no h]
  · rw [h0]
    rw [show l ++ List.replicate ((4 - 2) % 4) 61 = (l ++ [61]) ++ [61] by simp [List.replicate], trim_yes, trim_yes]
  · rw [h0]
    rw [show l ++ List.replicate ((4 - 3) % 4) 61 = l ++ [61] by simp, trim_yes, trim_no h]
theorem unpad_self {l : List UInt8} (h : ∀ c ∈ l, c ≠ 61) : unpadE l = l := by
  unfold unpadE
  split
  · rfl
  · rw [trim_no h, trim_no h]
theorem decE_encE (l : List UInt8) : decE (encE l) = some l := by
  rw [encE_eq, decE_eq, unpad_pad (encC_let l).no61 (encC_len l).2.1, if_neg (encC_len l).2.1, dec_encC]
theorem decE_encC (l : List UInt8) : decE (encC l) = some l := by
  rw [decE_eq, unpad_self (encC_let l).no61, if_neg (encC_len l).2.1, dec_encC]
theorem encE_len (l : List UInt8) : (encE l).length = (l.length + 2) / 3 * 4 := by
  rw [encE_eq]
  unfold padE
  have := encC_len l
  rw [List.length_append, List.length_replicate]
  omega
end Go.Proofs.YtfbmabbehiicmaaDoor
