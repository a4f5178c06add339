/- The message's blocks are the text's whole blocks and then its ending's. -/
import Derived.Test.YtnlhhjokaekdhaaDoorSum4
import Derived.Test.YtnlhhjokaekdhaaDoorMsg4
set_option linter.unusedVariables false
namespace Go.Proofs.YtnlhhjokaekdhaaDoor.R4
open Go.RowKit

theorem msg_parts (l : List UInt8) : msgL l = l.take (64 * (l.length / 64)) ++ endOf l := by
  have hd : (l.drop (64 * (l.length / 64))).length = l.length % 64 := by rw [List.length_drop]; omega
  unfold msgL endOf endL
  rw [hd]
  have hz : zerosM l.length = zeros (l.length % 64) := by unfold zerosM zeros; omega
  rw [hz, ← List.append_assoc, ← List.append_assoc, List.take_append_drop]
theorem blocks_same (v : St) (l m : List UInt8) : ∀ k, (∀ j, j < k → blk l j = blk m j) → blocks v l k = blocks v m k
  | 0, _ => rfl
  | k + 1, h => by rw [blocks, blocks, blocks_same v l m k (fun j hj => h j (by omega)), h k (by omega)]
theorem blocks_more (v : St) (l m : List UInt8) (q : Nat) : ∀ k, (∀ j, j < k → blk l (q + j) = blk m j) → blocks v l (q + k) = blocks (blocks v l q) m k
  | 0, _ => rfl
  | k + 1, h => by rw [← Nat.add_assoc, blocks, blocks, blocks_more v l m q k (fun j hj => h j (by omega)), h k (by omega)]
theorem msg_blocks (v : St) (l : List UInt8) : blocks v (msgL l) ((msgL l).length / 64) = blocks (blocks v l (l.length / 64)) (endOf l) ((endOf l).length / 64) := by
  obtain ⟨q, hq⟩ : ∃ q, l.length / 64 = q := ⟨_, rfl⟩
  obtain ⟨E, hE⟩ : ∃ E, endOf l = E := ⟨_, rfl⟩
  have hm := msg_parts l
  rw [hq, hE] at hm
  have hal : (l.take (64 * q)).length = 64 * q := by rw [List.length_take]; omega
  have hlen : (msgL l).length / 64 = q + E.length / 64 := by rw [hm, List.length_append, hal]; omega
  have hfirst : ∀ j, j < q → blk (msgL l) j = blk l j := by
    intro j hj
    unfold blk
    rw [hm, List.drop_append, List.take_append, List.length_drop, hal]
    rw [show 64 - (64 * q - 64 * j) = 0 by omega, List.take_zero, List.append_nil, List.drop_take, List.take_take]
    congr 1
    omega
  have hmore : ∀ j, blk (msgL l) (q + j) = blk E j := by
    intro j
    unfold blk
    rw [hm, List.drop_append, hal, List.drop_of_length_le (by rw [hal]; omega), List.nil_append]
    congr 2
    omega
  rw [hq, hE, hlen, blocks_more v (msgL l) E q _ (fun j _ => hmore j), blocks_same v (msgL l) l q hfirst]
theorem sum_msg (l : List UInt8) : sumL l = outL (blocks f0S (msgL l) ((msgL l).length / 64)) 8 := by
  unfold sumL
  rw [msg_blocks]
theorem msg_len (l : List UInt8) : (msgL l).length % 64 = 0 ∧ (msgL l).length ≤ l.length + 80 := by
  have h := zerosM_at l.length
  have e : (msgL l).length = l.length + 1 + zerosM l.length + 8 := by
    unfold msgL
    simp [bytesBy, divs8]
    omega
  rw [e]
  omega
end Go.Proofs.YtnlhhjokaekdhaaDoor.R4
