/- longs.Sum512, longs.Sum384; the chapter's sums, closed. -/
import Derived.Test.YtnlhhjokaekdhaaDoorWho5
import Derived.Test.YtnlhhjokaekdhaaDoorHex4
set_option linter.unusedVariables false
set_option linter.unusedSimpArgs false
namespace Go.Proofs.YtnlhhjokaekdhaaDoor.L5
open Go.RowKit

def f384S : St := ⟨14680500436340154072, 7105036623409894663, 10473403895298186519, 1526699215303891257, 7436329637833083697, 10282925794625328401, 15784041429090275239, 5167115440072839076⟩
def f512S : St := ⟨7640891576956012808, 13503953896175478587, 4354685564936845355, 11912009170470909681, 5840696475078001361, 11170449401992604703, 2270897969802886507, 6620516959819538809⟩
theorem f384_cells : u64A f384L = f384S.cells := by rfl
theorem f512_cells : u64A f512L = f512S.cells := by rfl
def sum512L (l : List UInt8) : List UInt8 := outL (wholeS f512S l) 8
def sum384L (l : List UInt8) : List UInt8 := (outL (wholeS f384S l) 8).take 48
theorem out8_len (v : St) : (outL v 8).length = 64 := by
  unfold outL
  rw [flat_len]
  rfl
theorem sum512_len (l : List UInt8) : (sum512L l).length = 64 := out8_len _
theorem sum384_len (l : List UInt8) : (sum384L l).length = 48 := by
  unfold sum384L
  rw [List.length_take, out8_len]
  rfl
def msg1 : List UInt8 := [97, 98, 99]
set_option maxRecDepth 1000000 in
theorem ex0 : hexL (sum384L msg1) = [99, 98, 48, 48, 55, 53, 51, 102, 52, 53, 97, 51, 53, 101, 56, 98, 98, 53, 97, 48, 51, 100, 54, 57, 57, 97, 99, 54, 53, 48, 48, 55, 50, 55, 50, 99, 51, 50, 97, 98, 48, 101, 100, 101, 100, 49, 54, 51, 49, 97, 56, 98, 54, 48, 53, 97, 52, 51, 102, 102, 53, 98, 101, 100, 56, 48, 56, 54, 48, 55, 50, 98, 97, 49, 101, 55, 99, 99, 50, 51, 53, 56, 98, 97, 101, 99, 97, 49, 51, 52, 99, 56, 50, 53, 97, 55] := by decide +kernel
set_option maxRecDepth 1000000 in
theorem ex1 : hexL (sum512L msg1) = [100, 100, 97, 102, 51, 53, 97, 49, 57, 51, 54, 49, 55, 97, 98, 97, 99, 99, 52, 49, 55, 51, 52, 57, 97, 101, 50, 48, 52, 49, 51, 49, 49, 50, 101, 54, 102, 97, 52, 101, 56, 57, 97, 57, 55, 101, 97, 50, 48, 97, 57, 101, 101, 101, 101, 54, 52, 98, 53, 53, 100, 51, 57, 97, 50, 49, 57, 50, 57, 57, 50, 97, 50, 55, 52, 102, 99, 49, 97, 56, 51, 54, 98, 97, 51, 99, 50, 51, 97, 51, 102, 101, 101, 98, 98, 100, 52, 53, 52, 100, 52, 52, 50, 51, 54, 52, 51, 99, 101, 56, 48, 101, 50, 97, 57, 97, 99, 57, 52, 102, 97, 53, 52, 99, 97, 52, 57, 102] := by decide +kernel
set_option maxRecDepth 1000000 in
theorem ex2 : hexL (sum512L []) = [99, 102, 56, 51, 101, 49, 51, 53, 55, 101, 101, 102, 98, 56, 98, 100, 102, 49, 53, 52, 50, 56, 53, 48, 100, 54, 54, 100, 56, 48, 48, 55, 100, 54, 50, 48, 101, 52, 48, 53, 48, 98, 53, 55, 49, 53, 100, 99, 56, 51, 102, 52, 97, 57, 50, 49, 100, 51, 54, 99, 101, 57, 99, 101, 52, 55, 100, 48, 100, 49, 51, 99, 53, 100, 56, 53, 102, 50, 98, 48, 102, 102, 56, 51, 49, 56, 100, 50, 56, 55, 55, 101, 101, 99, 50, 102, 54, 51, 98, 57, 51, 49, 98, 100, 52, 55, 52, 49, 55, 97, 56, 49, 97, 53, 51, 56, 51, 50, 55, 97, 102, 57, 50, 55, 100, 97, 51, 101] := by decide +kernel

set_option maxHeartbeats 3200000 in
set_option maxRecDepth 100000 in
theorem sum512_any (s : ByteArray) (w : World) (hs : s.size ≤ 1099511627776) (hT : LTab5 w) :
    Calls Tryd.prog 17 #[.string s] w fun e w' => e = .returned (.string ⟨(sum512L s.data.toList).toArray⟩) ∧ Below w.heap.size w w' := by
  obtain ⟨tf, frf, hff⟩ := hT.f512
  rw [f512_cells] at hff
  obtain ⟨y0, y1, y2, y3, y4, y5, y6, y7⟩ := cells8 hff
  have HW := Lib.hid (whole_any f512S s w hs hT)
  have HTD := Lib.hid (fun W => told_any (wholeS f512S s.data.toList) W)
  obtain ⟨V, hV⟩ : ∃ V, wholeS f512S s.data.toList = V := ⟨_, rfl⟩
  rw [hV] at HW HTD
  have HS : Hid (sum512L s.data.toList = outL V 8) := by show _ = _; rw [sum512L, hV]
  obtain ⟨O, hO⟩ : ∃ O : ByteArray, (⟨(outL V 8).toArray⟩ : ByteArray) = O := ⟨_, rfl⟩
  have HOL : Hid (O.data.toList = outL V 8) := by show _ = _; rw [← hO]
  have hol : O.size = 64 := by
    have e1 : O.data.toList.length = O.size := by simp
    rw [← e1, HOL.out, out8_len]
  have hol1 : (48 : Int) ≤ O.size := by omega
  rw [hO] at HTD
  clear hff hT hV hO hol
  unfold St.cells at HW HTD
  unfold f512S at y0 y1 y2 y3 y4 y5 y6 y7 HW
  go_enter Tryd.func17, Tryd.ntmps17
  go_wp2_with fail
  refine HW.out.mono ?_
  rintro e w1 ⟨rfl, b1⟩
  have B1 := Lib.hid b1
  clear b1 y0 y1 y2 y3 y4 y5 y6 y7
  go_wp2_with fail
  refine (HTD.out w1).mono ?_
  rintro e w2 ⟨rfl, b2⟩
  have B2 : Hid (Below w.heap.size w w2) := B1.out.trans (b2.mono B1.out.size)
  clear b2
  go_wp2_with fail
  go_ret
  exact ⟨by rw [HS.out, ← HOL.out]; rfl, B2.out⟩

set_option maxHeartbeats 3200000 in
set_option maxRecDepth 100000 in
theorem sum384_any (s : ByteArray) (w : World) (hs : s.size ≤ 1099511627776) (hT : LTab5 w) :
    Calls Tryd.prog 19 #[.string s] w fun e w' => e = .returned (.string ⟨(sum384L s.data.toList).toArray⟩) ∧ Below w.heap.size w w' := by
  obtain ⟨tf, frf, hff⟩ := hT.f384
  rw [f384_cells] at hff
  obtain ⟨y0, y1, y2, y3, y4, y5, y6, y7⟩ := cells8 hff
  have HW := Lib.hid (whole_any f384S s w hs hT)
  have HTD := Lib.hid (fun W => told_any (wholeS f384S s.data.toList) W)
  obtain ⟨V, hV⟩ : ∃ V, wholeS f384S s.data.toList = V := ⟨_, rfl⟩
  rw [hV] at HW HTD
  have HS : Hid (sum384L s.data.toList = (outL V 8).take 48) := by show _ = _; rw [sum384L, hV]
  obtain ⟨O, hO⟩ : ∃ O : ByteArray, (⟨(outL V 8).toArray⟩ : ByteArray) = O := ⟨_, rfl⟩
  have HOL : Hid (O.data.toList = outL V 8) := by show _ = _; rw [← hO]
  have hol : O.size = 64 := by
    have e1 : O.data.toList.length = O.size := by simp
    rw [← e1, HOL.out, out8_len]
  have hol1 : (48 : Int) ≤ O.size := by omega
  rw [hO] at HTD
  clear hff hT hV hO hol
  unfold St.cells at HW HTD
  unfold f384S at y0 y1 y2 y3 y4 y5 y6 y7 HW
  go_enter Tryd.func19, Tryd.ntmps19
  go_wp2_with fail
  refine HW.out.mono ?_
  rintro e w1 ⟨rfl, b1⟩
  have B1 := Lib.hid b1
  clear b1 y0 y1 y2 y3 y4 y5 y6 y7
  go_wp2_with fail
  refine (HTD.out w1).mono ?_
  rintro e w2 ⟨rfl, b2⟩
  have B2 : Hid (Below w.heap.size w w2) := B1.out.trans (b2.mono B1.out.size)
  clear b2
  go_wp2_with fail
  go_ret
  refine ⟨?_, B2.out⟩
  rw [HS.out, ← HOL.out]
  show Ending.returned (.string (O.extract 0 48)) = _
  have e : O.extract 0 48 = ⟨(O.data.toList.take 48).toArray⟩ := ByteArray.ext (Array.ext' (by rw [ByteArray.data_extract, Array.toList_extract, List.extract_eq_take_drop]; simp))
  rw [e]

end Go.Proofs.YtnlhhjokaekdhaaDoor.L5
