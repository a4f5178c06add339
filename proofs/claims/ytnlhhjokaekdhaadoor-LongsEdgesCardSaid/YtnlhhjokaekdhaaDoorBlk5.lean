/- The message's blocks are the text's whole blocks and then its ending's. -/
import Derived.Test.YtnlhhjokaekdhaaDoorSum5
import Derived.Test.YtnlhhjokaekdhaaDoorMsg5
set_option linter.unusedVariables false
namespace Go.Proofs.YtnlhhjokaekdhaaDoor.L5
open Go.RowKit
open Go.Proofs.YtnlhhjokaekdhaaDoor.R4 (zeros5M msg5L zeros5M_at)

theorem msg5_parts (l : List UInt8) : msg5L l = l.take (l.length / 128 * 128) ++ endOf l := by
  have hd : (l.drop (l.length / 128 * 128)).length = l.length % 128 := by rw [List.length_drop]; omega
  unfold msg5L endOf endL
  rw [hd]
  have hz : zeros5M l.length = zeros (l.length % 128) := by unfold zeros5M zeros; omega
  have h0 : bytesBy 0 divs8 = List.replicate 8 0 := by decide
  rw [hz, h0]
  simp only [← List.append_assoc]
  rw [List.take_append_drop]
theorem blocks_same (v : St) (l m : List UInt8) : ∀ k, (∀ j, j < k → blk l j = blk m j) → blocks v l k = blocks v m k
  | 0, _ => rfl
  | k + 1, h => by rw [blocks, blocks, blocks_same v l m k (fun j hj => h j (by omega)), h k (by omega)]
theorem blocks_more (v : St) (l m : List UInt8) (q : Nat) : ∀ k, (∀ j, j < k → blk l (q + j) = blk m j) → blocks v l (q + k) = blocks (blocks v l q) m k
  | 0, _ => rfl
  | k + 1, h => by rw [← Nat.add_assoc, blocks, blocks, blocks_more v l m q k (fun j hj => h j (by omega)), h k (by omega)]
theorem msg5_blocks (v : St) (l : List UInt8) : blocks v (msg5L l) ((msg5L l).length / 128) = blocks (blocks v l (l.length / 128)) (endOf l) ((endOf l).length / 128) := by
  obtain ⟨q, hq⟩ : ∃ q, l.length / 128 = q := ⟨_, rfl⟩
  obtain ⟨E, hE⟩ : ∃ E, endOf l = E := ⟨_, rfl⟩
  have hm := msg5_parts l
  rw [hq, hE] at hm
  have hal : (l.take (q * 128)).length = q * 128 := by rw [List.length_take]; omega
  have hlen : (msg5L l).length / 128 = q + E.length / 128 := by rw [hm, List.length_append, hal]; omega
  have hfirst : ∀ j, j < q → blk (msg5L l) j = blk l j := by
    intro j hj
    unfold blk
    rw [hm, List.drop_append, List.take_append, List.length_drop, hal]
    rw [show 128 - (q * 128 - j * 128) = 0 by omega, List.take_zero, List.append_nil, List.drop_take, List.take_take]
    congr 1
    omega
  have hmore : ∀ j, blk (msg5L l) (q + j) = blk E j := by
    intro j
    unfold blk
    rw [hm, List.drop_append, hal, List.drop_of_length_le (by rw [hal]; omega), List.nil_append]
    congr 2
    omega
  rw [hq, hE, hlen, blocks_more v (msg5L l) E q _ (fun j _ => hmore j), blocks_same v (msg5L l) l q hfirst]
theorem whole_msg (v : St) (l : List UInt8) : wholeS v l = blocks v (msg5L l) ((msg5L l).length / 128) := by
  rw [msg5_blocks]
  rfl
theorem msg5_len (l : List UInt8) : (msg5L l).length % 128 = 0 ∧ (msg5L l).length ≤ l.length + 160 := by
  have h := zeros5M_at l.length
  have e : (msg5L l).length = l.length + 1 + zeros5M l.length + 16 := by
    unfold msg5L
    simp [bytesBy, divs8]
    omega
  rw [e]
  omega
end Go.Proofs.YtnlhhjokaekdhaaDoor.L5
