/- digest.mix. -/
import Derived.Test.YtnlhhjokaekdhaaDoorSch4
import Derived.Test.YtnlhhjokaekdhaaDoorRot5
set_option linter.unusedVariables false
set_option linter.unusedSimpArgs false
namespace Go.Proofs.YtnlhhjokaekdhaaDoor
open Go.RowKit

def kL : List Int := [1116352408, 1899447441, 3049323471, 3921009573, 961987163, 1508970993, 2453635748, 2870763221, 3624381080, 310598401, 607225278, 1426881987, 1925078388, 2162078206, 2614888103, 3248222580, 3835390401, 4022224774, 264347078, 604807628, 770255983, 1249150122, 1555081692, 1996064986, 2554220882, 2821834349, 2952996808, 3210313671, 3336571891, 3584528711, 113926993, 338241895, 666307205, 773529912, 1294757372, 1396182291, 1695183700, 1986661051, 2177026350, 2456956037, 2730485921, 2820302411, 3259730800, 3345764771, 3516065817, 3600352804, 4094571909, 275423344, 430227734, 506948616, 659060556, 883997877, 958139571, 1322822218, 1537002063, 1747873779, 1955562222, 2024104815, 2227730452, 2361852424, 2428436474, 2756734187, 3204031479, 3329325298]
def fL : List Int := [1779033703, 3144134277, 1013904242, 2773480762, 1359893119, 2600822924, 528734635, 1541459225]
def u32A (l : List Int) : Array Value := (l.map (Value.int .u32)).toArray
/-- The tables as they are laid. -/
structure DTab (w : World) : Prop where
  k : ∃ t fr, w.heap[(3 : Nat)]? = some (.cells (u32A kL) t fr)
  f : ∃ t fr, w.heap[(0 : Nat)]? = some (.cells (u32A fL) t fr)
theorem DTab.below {w w' : World} (h : DTab w) (hb : Below w.heap.size w w') : DTab w' := by
  obtain ⟨⟨t, fr, h1⟩, ⟨t2, fr2, h2⟩⟩ := h
  exact ⟨⟨t, fr, (hb.block _ (Array.getElem?_eq_some_iff.1 h1).1).trans h1⟩, ⟨t2, fr2, (hb.block _ (Array.getElem?_eq_some_iff.1 h2).1).trans h2⟩⟩
/-- The eight numbers that a sum is made of. -/
structure St where
  a : Int
  b : Int
  c : Int
  d : Int
  e : Int
  f : Int
  g : Int
  h : Int
def St.cells (s : St) : Array Value := #[.int .u32 s.a, .int .u32 s.b, .int .u32 s.c, .int .u32 s.d, .int .u32 s.e, .int .u32 s.f, .int .u32 s.g, .int .u32 s.h]
def big1 (e : Int) : Int := xor32 (xor32 (rotF e 6) (rotF e 11)) (rotF e 25)
def big0 (a : Int) : Int := xor32 (xor32 (rotF a 2) (rotF a 13)) (rotF a 22)
def chI (e f g : Int) : Int := xor32 (and32 e f) (and32 (xor32 (if IntKind.u32.signed = true then -1 else IntKind.u32.max) e) g)
def majI (a b c : Int) : Int := xor32 (xor32 (and32 a b) (and32 a c)) (and32 b c)
def sT (s : St) (k x : Int) : Int := s.h + big1 s.e + chI s.e s.f s.g + k + x
def rnd (s : St) (k x : Int) : St := ⟨w32 (sT s k x + (big0 s.a + majI s.a s.b s.c)), s.a, s.b, s.c, w32 (s.d + sT s k x), s.e, s.f, s.g⟩
def addSt (v s : St) (k : Nat) : St := ⟨if 0 < k then w32 (v.a + s.a) else v.a, if 1 < k then w32 (v.b + s.b) else v.b, if 2 < k then w32 (v.c + s.c) else v.c, if 3 < k then w32 (v.d + s.d) else v.d,
  if 4 < k then w32 (v.e + s.e) else v.e, if 5 < k then w32 (v.f + s.f) else v.f, if 6 < k then w32 (v.g + s.g) else v.g, if 7 < k then w32 (v.h + s.h) else v.h⟩
def rnds (v : St) (ws : List Int) : Nat → St
  | 0 => v
  | n + 1 => rnd (rnds v ws n) (kL.getD n 0) (ws.getD n 0)
/-- What the eight become by a block. -/
def mixS (v : St) (l : List UInt8) : St := addSt v (rnds v (sch l 64) 64) 8
theorem u32A_get {l : List Int} {i : Nat} (h : i < l.length) : (u32A l)[i]? = some (Value.int .u32 (l.getD i 0)) := by
  unfold u32A
  rw [List.getElem?_toArray, List.getElem?_map, List.getElem?_eq_getElem h]
  simp [List.getD, h]
def zero8 : Array Value := #[.int .u32 0, .int .u32 0, .int .u32 0, .int .u32 0, .int .u32 0, .int .u32 0, .int .u32 0, .int .u32 0]
/-- The memory of the rounds. -/
structure MixAt (B bs : Nat) (L : List Value) (v s : St) (w wr : World) : Prop where
  box : wr.heap[B]? = some (.cells v.cells 44 (0, 0))
  res : wr.heap[B + 1]? = some (.cells zero8 44 (0, 0))
  sched : wr.heap[bs]? = some (.cells L.toArray 74 (0, 0))
  vb : wr.heap[bs + 1]? = some (.cells s.cells 44 (0, 0))
  below : Below B w wr
  ord : B + 2 ≤ bs ∧ bs + 2 ≤ wr.heap.size
theorem MixAt.drew {B bs : Nat} {L : List Value} {v s : St} {w wr : World} (h : MixAt B bs L v s w wr) : MixAt B bs L v s w wr.drew := ⟨h.box, h.res, h.sched, h.vb, h.below.drew, h.ord⟩
theorem MixAt.drewN {B bs : Nat} {L : List Value} {v s : St} {w wr : World} (h : MixAt B bs L v s w wr) (n : Nat) : MixAt B bs L v s w (wr.drewN n) := ⟨h.box, h.res, h.sched, h.vb, below_drewN h.below n, h.ord⟩
theorem arr8 (c0 c1 c2 c3 c4 c5 c6 c7 a b c d e f g h : Value) : ((((((((#[c0, c1, c2, c3, c4, c5, c6, c7] : Array Value).setIfInBounds 0 a).setIfInBounds 1 b).setIfInBounds 2 c).setIfInBounds 3 d).setIfInBounds 4 e).setIfInBounds 5 f).setIfInBounds 6 g).setIfInBounds 7 h = #[a, b, c, d, e, f, g, h] := by
  apply Array.ext'
  simp only [Array.toList_setIfInBounds, List.set_cons_zero, List.set_cons_succ]
theorem set8 {w : World} {g : Nat} {s : St} {t : TypeId} {fr : Nat × Nat} (h : w.heap[g]? = some (.cells s.cells t fr)) (s' : St) :
    ((((((((w.setCell ⟨g, 0, none⟩ (.int .u32 s'.a)).setCell ⟨g, 1, none⟩ (.int .u32 s'.b)).setCell ⟨g, 2, none⟩ (.int .u32 s'.c)).setCell ⟨g, 3, none⟩ (.int .u32 s'.d)).setCell ⟨g, 4, none⟩ (.int .u32 s'.e)).setCell ⟨g, 5, none⟩ (.int .u32 s'.f)).setCell ⟨g, 6, none⟩ (.int .u32 s'.g)).setCell ⟨g, 7, none⟩ (.int .u32 s'.h)).heap[g]? = some (.cells s'.cells t fr) := by
  have h1 := heap_setA (heap_setA (heap_setA (heap_setA (heap_setA (heap_setA (heap_setA (heap_setA h 0 (.int .u32 s'.a)) 1 (.int .u32 s'.b)) 2 (.int .u32 s'.c)) 3 (.int .u32 s'.d)) 4 (.int .u32 s'.e)) 5 (.int .u32 s'.f)) 6 (.int .u32 s'.g)) 7 (.int .u32 s'.h)
  rw [h1]
  unfold St.cells
  rw [arr8]
theorem set8_ne {w : World} {g j : Nat} (hj : j ≠ g) (s' : St) :
    ((((((((w.setCell ⟨g, 0, none⟩ (.int .u32 s'.a)).setCell ⟨g, 1, none⟩ (.int .u32 s'.b)).setCell ⟨g, 2, none⟩ (.int .u32 s'.c)).setCell ⟨g, 3, none⟩ (.int .u32 s'.d)).setCell ⟨g, 4, none⟩ (.int .u32 s'.e)).setCell ⟨g, 5, none⟩ (.int .u32 s'.f)).setCell ⟨g, 6, none⟩ (.int .u32 s'.g)).setCell ⟨g, 7, none⟩ (.int .u32 s'.h)).heap[j]? = w.heap[j]? := by
  rw [Below.heap_setCell _ _ _ j hj, Below.heap_setCell _ _ _ j hj, Below.heap_setCell _ _ _ j hj, Below.heap_setCell _ _ _ j hj, Below.heap_setCell _ _ _ j hj, Below.heap_setCell _ _ _ j hj, Below.heap_setCell _ _ _ j hj, Below.heap_setCell _ _ _ j hj]
theorem MixAt.set {B bs : Nat} {L : List Value} {v s : St} {w wr : World} (h : MixAt B bs L v s w wr) (s' : St) : MixAt B bs L v s' w ((((((((wr.setCell ⟨bs + 1, 0, none⟩ (.int .u32 s'.a)).setCell ⟨bs + 1, 1, none⟩ (.int .u32 s'.b)).setCell ⟨bs + 1, 2, none⟩ (.int .u32 s'.c)).setCell ⟨bs + 1, 3, none⟩ (.int .u32 s'.d)).setCell ⟨bs + 1, 4, none⟩ (.int .u32 s'.e)).setCell ⟨bs + 1, 5, none⟩ (.int .u32 s'.f)).setCell ⟨bs + 1, 6, none⟩ (.int .u32 s'.g)).setCell ⟨bs + 1, 7, none⟩ (.int .u32 s'.h)) := by
  have ho := h.ord
  refine ⟨by rw [set8_ne (by omega)]; exact h.box, by rw [set8_ne (by omega)]; exact h.res, by rw [set8_ne (by omega)]; exact h.sched, set8 h.vb s', ?_, ho.1, by simp [World.setCell]; exact ho.2⟩
  have hB : B ≤ bs + 1 := by omega
  exact (((((((h.below.setCell (by exact hB) _).setCell (by exact hB) _).setCell (by exact hB) _).setCell (by exact hB) _).setCell (by exact hB) _).setCell (by exact hB) _).setCell (by exact hB) _).setCell (by exact hB) _
/-- One cell of the box more. -/
theorem MixAt.box1 {B bs : Nat} {L : List Value} {v s : St} {w wr : World} (h : MixAt B bs L v s w wr) (v' : St) (k : Nat) (u : Value) (he : v.cells.setIfInBounds k u = v'.cells) : MixAt B bs L v' s w (wr.setCell ⟨B, k, none⟩ u).drew := by
  have ho := h.ord
  refine ⟨?_, ?_, ?_, ?_, (h.below.setCell (by show B ≤ B; omega) _).drew, ho.1, by show _ ≤ (wr.setCell _ _).heap.size; simp [World.setCell]; exact ho.2⟩
  · show (wr.setCell _ _).heap[_]? = _
    rw [heap_setA h.box, he]
  · show (wr.setCell _ _).heap[_]? = _
    rw [Below.heap_setCell _ _ _ _ (by show _ ≠ B; omega)]; exact h.res
  · show (wr.setCell _ _).heap[_]? = _
    rw [Below.heap_setCell _ _ _ _ (by show _ ≠ B; omega)]; exact h.sched
  · show (wr.setCell _ _).heap[_]? = _
    rw [Below.heap_setCell _ _ _ _ (by show _ ≠ B; omega)]; exact h.vb
theorem quiet_1 {P : Program} {f : FuncId} {args : Array Value} {w : World} {n : Nat} {v : Value} (h : Calls P f args (w.drewN n) fun e w' => e = .returned v ∧ w.drewN n = w') : Calls P f args (w.drewN n) fun e w' => e = .returned v ∧ ∃ k, w' = w.drewN k :=
  h.mono fun _ _ ⟨he, hw⟩ => ⟨he, n, hw.symm⟩
theorem cells8 {w : World} {g : Nat} {s : St} {t : TypeId} {fr : Nat × Nat} (h : w.heap[g]? = some (.cells s.cells t fr)) :
    w.cell? ⟨g, 0, none⟩ = some (.int .u32 s.a) ∧ w.cell? ⟨g, 1, none⟩ = some (.int .u32 s.b) ∧ w.cell? ⟨g, 2, none⟩ = some (.int .u32 s.c) ∧ w.cell? ⟨g, 3, none⟩ = some (.int .u32 s.d) ∧
    w.cell? ⟨g, 4, none⟩ = some (.int .u32 s.e) ∧ w.cell? ⟨g, 5, none⟩ = some (.int .u32 s.f) ∧ w.cell? ⟨g, 6, none⟩ = some (.int .u32 s.g) ∧ w.cell? ⟨g, 7, none⟩ = some (.int .u32 s.h) := by
  refine ⟨?_, ?_, ?_, ?_, ?_, ?_, ?_, ?_⟩ <;> (rw [Lib.cell_of_heap h]; rfl)
theorem there_z (w : World) : (w.alloc (.cells z64 74)).there w.heap.size 0 64 := there_of (cur := z64) (heap_alloc_new w _)

set_option maxHeartbeats 6400000 in
set_option maxRecDepth 100000 in
theorem mix_any (v : St) (s : ByteArray) (w : World) (hs : s.size = 64) (hT : DTab w) :
    Calls Tryd.prog 28 #[.agg v.cells, .string s] w fun e w' => e = .returned (.agg (mixS v s.data.toList).cells) ∧ Below w.heap.size w w' := by
  obtain ⟨W1, hW1⟩ : ∃ W1, W1 = (w.alloc (.cells v.cells 44)).alloc (.cells #[.int .u32 0, .int .u32 0, .int .u32 0, .int .u32 0, .int .u32 0, .int .u32 0, .int .u32 0, .int .u32 0] 44) := ⟨_, rfl⟩
  have hb1 : Below w.heap.size w W1 := by rw [hW1]; exact ((Below.refl _ w).alloc (Nat.le_refl _) _).alloc (by simp) _
  have hs1 : W1.heap.size = w.heap.size + 2 := by rw [hW1]; simp
  have kb : W1.heap[w.heap.size]? = some (.cells v.cells 44 (0, 0)) := by
    rw [hW1, Below.heap_alloc _ _ _ (by simp)]; exact heap_alloc_new w _
  have kr : W1.heap[w.heap.size + 1]? = some (.cells #[.int .u32 0, .int .u32 0, .int .u32 0, .int .u32 0, .int .u32 0, .int .u32 0, .int .u32 0, .int .u32 0] 44 (0, 0)) := by
    rw [hW1]
    have := heap_alloc_new (w.alloc (.cells v.cells 44)) (.cells #[.int .u32 0, .int .u32 0, .int .u32 0, .int .u32 0, .int .u32 0, .int .u32 0, .int .u32 0, .int .u32 0] 44)
    simpa using this
  have HSC := Lib.hid (schedule_any s W1 hs)
  obtain ⟨WS, hWS⟩ : ∃ WS, sch s.data.toList 64 = WS := ⟨_, rfl⟩
  obtain ⟨L, hL⟩ : ∃ L, WS.map (Value.int .u32) = L := ⟨_, rfl⟩
  rw [hWS, hL] at HSC
  have HWS := Lib.hid hWS
  have hLl : L.toArray.size = 64 := by rw [List.size_toArray, ← hL, List.length_map, ← hWS, sch_len]
  have HI : Hid ((Tryd.prog.info? 74).map (·.size) = some L.toArray.size) := by show _ = _; rw [hLl]; exact info64
  have HONE : Hid (L.toArray.all (·.oneCell') = true) := all_oneCell_toArray (by
    intro u hu
    rw [← hL] at hu
    obtain ⟨x, _, rfl⟩ := List.mem_map.1 hu
    rfl)
  have HLS := Lib.hid hLl
  have HL := Lib.hid hL
  have HB1 := Lib.hid hb1
  have HS1 := Lib.hid hs1
  have HKB := Lib.hid kb
  have HKR := Lib.hid kr
  have HT := Lib.hid hT
  have HW1 := Lib.hid hW1
  clear hs hL hLl hWS hb1 hs1 kb kr hT
  unfold St.cells at hW1
  have HWV : Hid (W1 = (w.alloc (.cells #[.int .u32 v.a, .int .u32 v.b, .int .u32 v.c, .int .u32 v.d, .int .u32 v.e, .int .u32 v.f, .int .u32 v.g, .int .u32 v.h] 44)).alloc (.cells #[.int .u32 0, .int .u32 0, .int .u32 0, .int .u32 0, .int .u32 0, .int .u32 0, .int .u32 0, .int .u32 0] 44)) := hW1
  clear hW1
  unfold St.cells
  go_enter Tryd.func28, Tryd.ntmps28
  go_upto_region 2 with (first
    | (with_reducible refine wpList_store_mid rfl 74 (.tmp 5) (.tmp 18) rfl w2.heap.size 0 L.toArray rfl rfl HTH.out HI.out HONE.out ?_)
    | (go_at_call 51; rw [← HWV.out]; refine HSC.out.mono ?_; rintro e w2 ⟨rfl, b2⟩; have B2 := Lib.hid b2; clear b2; have hth := there_z w2; rw [← HLS.out] at hth; unfold z64 at hth; have HTH := Lib.hid hth; clear hth))
  obtain ⟨W3, hW3⟩ : ∃ W3, W3 = (w2.alloc (.cells z64 74)).setCells w2.heap.size 0 L := ⟨_, rfl⟩
  obtain ⟨bs, hbs⟩ : ∃ bs, w2.heap.size = bs := ⟨_, rfl⟩
  have hz2 := B2.out.size
  have hz1 := HS1.out
  have hs3 : W3.heap.size = bs + 1 := by rw [hW3, size_setCells, ← hbs]; simp
  have old : ∀ j, j < bs → W3.heap[j]? = w2.heap[j]? := fun j hj => by
    rw [hW3, heap_setCells_ne (by omega), Below.heap_alloc _ _ _ (by omega)]
  have ks : W3.heap[bs]? = some (.cells L.toArray 74 (0, 0)) := by
    rw [hW3, hbs, ← hbs]
    have := heap_setAll (heap_alloc_new w2 (.cells z64 74)) L (by rw [List.size_toArray] at *; exact HLS.out.symm ▸ rfl)
    exact this
  have kb3 : W3.heap[w.heap.size]? = some (.cells v.cells 44 (0, 0)) := (old _ (by omega)).trans ((B2.out.block _ (by omega)).trans HKB.out)
  have kr3 : W3.heap[w.heap.size + 1]? = some (.cells zero8 44 (0, 0)) := (old _ (by omega)).trans ((B2.out.block _ (by omega)).trans HKR.out)
  have hb3 : Below w.heap.size w W3 := by
    rw [hW3]
    exact below_setCells _ _ _ ((HB1.out.trans (B2.out.mono (by omega))).alloc (by omega) _) (by omega)
  have HM0 : Hid (MixAt w.heap.size bs L v v w (W3.alloc (.cells v.cells 44))) := by
    refine ⟨?_, ?_, ?_, ?_, hb3.alloc (by omega) _, by omega, by simp; omega⟩
    · rw [Below.heap_alloc _ _ _ (by omega)]; exact kb3
    · rw [Below.heap_alloc _ _ _ (by omega)]; exact kr3
    · rw [Below.heap_alloc _ _ _ (by omega)]; exact ks
    · rw [← hs3]; exact heap_alloc_new W3 _
  obtain ⟨y0, y1, y2, y3, y4, y5, y6, y7⟩ := cells8 kb3
  unfold z64 at hW3
  rw [← hW3]
  rw [hbs]
  have HS3 : Hid (W3.heap.size = bs + 1) := hs3
  clear hW3 hs3 old ks kb3 kr3 hb3 hz2 hz1 HSC HTH HI HONE
  go_wp2_with fail
  rw [HS3.out]
  go_loopw [20] (fun i wr => ∃ k : Nat, k ≤ 64 ∧ i = .int .i64 k ∧ Hid (MixAt w.heap.size bs L v (rnds v WS k) w wr)) (fun i _ => 64 - (intOf i).toNat)
  case atStart => exact ⟨0, Nat.zero_le _, rfl, HM0⟩
  case round =>
    obtain ⟨k, hk, rfl, H⟩ := hrel
    by_cases hlt : k < 64
    · have hki : (k : Int) < 64 := by omega
      obtain ⟨σ, hσ⟩ : ∃ σ, rnds v WS k = σ := ⟨_, rfl⟩
      obtain ⟨K, hK⟩ : ∃ K, kL.getD k 0 = K := ⟨_, rfl⟩
      obtain ⟨X, hX⟩ : ∃ X, WS.getD k 0 = X := ⟨_, rfl⟩
      have HR : Hid (rnds v WS (k + 1) = rnd σ K X) := by show _ = _; rw [rnds, hσ, hK, hX]
      rw [hσ] at H
      have CK : Hid (∀ W, Below w.heap.size w W → W.cell? ⟨(3 : Nat), k, none⟩ = some (.int .u32 K)) := by
        intro W hW
        obtain ⟨tk, frk, hkk⟩ := (HT.out.below hW).k
        rw [Lib.cell_of_heap hkk, u32A_get (by exact hlt), hK]
      have CX : Hid (∀ W, MixAt w.heap.size bs L v σ w W → W.cell? ⟨bs, k, none⟩ = some (.int .u32 X)) := by
        intro W hW
        have hl : WS.length = 64 := by have := HLS.out; rw [← HL.out] at this; simpa using this
        rw [Lib.cell_of_heap hW.sched, ← HL.out]
        have := u32A_get (l := WS) (i := k) (by omega)
        unfold u32A at this
        rw [this, hX]
      obtain ⟨x0, x1, x2, x3, x4, x5, x6, x7⟩ := cells8 H.out.vb
      clear hσ hK hX
      go_wp2_with fail
      go_region
      obtain ⟨w5, hw5⟩ : ∃ w5, wr.drew = w5 := ⟨_, rfl⟩
      have H5 : Hid (MixAt w.heap.size bs L v σ w w5) := by rw [← hw5]; exact H.out.drew
      rw [hw5]
      clear hw5 x0 x1 x2 x3 x4 x5 x6 x7
      obtain ⟨x0, x1, x2, x3, x4, x5, x6, x7⟩ := cells8 H5.out.vb
      have ck := CK.out w5 H5.out.below
      have cx := CX.out w5 H5.out
      go_wp2_with fail
      go_quiet ((go_at_call 52; exact quiet_1 (right_k _ _ _ (by decide))))
      have f0 := Lib.frozen_of_heap H5.out.vb 0
      have f1 := Lib.frozen_of_heap H5.out.vb 1
      have f2 := Lib.frozen_of_heap H5.out.vb 2
      have f3 := Lib.frozen_of_heap H5.out.vb 3
      have f4 := Lib.frozen_of_heap H5.out.vb 4
      have f5 := Lib.frozen_of_heap H5.out.vb 5
      have f6 := Lib.frozen_of_heap H5.out.vb 6
      have f7 := Lib.frozen_of_heap H5.out.vb 7
      go_wp2_with (go_at_call 52; refine (right_k _ _ _ (by decide)).mono ?_; rintro e w7 ⟨rfl, rfl⟩)
      go_roundw
      case rel => exact ⟨k + 1, by omega, by go_num, by rw [HR.out]; exact (H5.out.drewN _).set (rnd σ K X)⟩
      case measure => simp [intOf]; omega
    · have hk64 : k = 64 := by omega
      rw [hk64] at H
      have hn64 : ¬ (k : Int) < 64 := by omega
      obtain ⟨σ, hσ⟩ : ∃ σ, rnds v WS 64 = σ := ⟨_, rfl⟩
      rw [hσ] at H
      have HSG := Lib.hid hσ
      clear hlt hk hk64 hσ
      go_wp2_with fail
      go_loopw [98] (fun i wr => ∃ k : Nat, k ≤ 8 ∧ i = .int .i64 k ∧ Hid (MixAt w.heap.size bs L (addSt v σ k) σ w wr)) (fun i _ => 8 - (intOf i).toNat)
      case atStart => exact ⟨0, Nat.zero_le _, rfl, H⟩
      case round =>
        obtain ⟨j, hj, rfl, H⟩ := hrel
        by_cases hlt : j < 8
        · rcases (by omega : j = 0 ∨ j = 1 ∨ j = 2 ∨ j = 3 ∨ j = 4 ∨ j = 5 ∨ j = 6 ∨ j = 7) with rfl | rfl | rfl | rfl | rfl | rfl | rfl | rfl
          all_goals
            obtain ⟨x0, x1, x2, x3, x4, x5, x6, x7⟩ := cells8 H.out.vb
            obtain ⟨y0, y1, y2, y3, y4, y5, y6, y7⟩ := cells8 H.out.box
            have f0 := Lib.frozen_of_heap H.out.box 0
            have f1 := Lib.frozen_of_heap H.out.box 1
            have f2 := Lib.frozen_of_heap H.out.box 2
            have f3 := Lib.frozen_of_heap H.out.box 3
            have f4 := Lib.frozen_of_heap H.out.box 4
            have f5 := Lib.frozen_of_heap H.out.box 5
            have f6 := Lib.frozen_of_heap H.out.box 6
            have f7 := Lib.frozen_of_heap H.out.box 7
            simp only [addSt, Nat.lt_irrefl, if_false, if_true, Nat.not_lt_zero, reduceIte, Nat.reduceLT] at y0 y1 y2 y3 y4 y5 y6 y7
            go_wp2_with fail
            go_region
            go_wp2_with fail
            go_roundw
          all_goals first
            | (simp [intOf]; done)
            | (simp [intOf]; omega)
            | (refine ⟨1, by omega, by go_num, ?_⟩; exact H.out.box1 _ 0 _ rfl)
            | (refine ⟨2, by omega, by go_num, ?_⟩; exact H.out.box1 _ 1 _ rfl)
            | (refine ⟨3, by omega, by go_num, ?_⟩; exact H.out.box1 _ 2 _ rfl)
            | (refine ⟨4, by omega, by go_num, ?_⟩; exact H.out.box1 _ 3 _ rfl)
            | (refine ⟨5, by omega, by go_num, ?_⟩; exact H.out.box1 _ 4 _ rfl)
            | (refine ⟨6, by omega, by go_num, ?_⟩; exact H.out.box1 _ 5 _ rfl)
            | (refine ⟨7, by omega, by go_num, ?_⟩; exact H.out.box1 _ 6 _ rfl)
            | (refine ⟨8, by omega, by go_num, ?_⟩; exact H.out.box1 _ 7 _ rfl)
        · have hj8 : j = 8 := by omega
          rw [hj8] at H
          have hn8 : ¬ (j : Int) < 8 := by omega
          obtain ⟨τ, hτ⟩ : ∃ τ, addSt v σ 8 = τ := ⟨_, rfl⟩
          rw [hτ] at H
          have HTA := Lib.hid hτ
          clear hlt hj hj8 hτ
          obtain ⟨y0, y1, y2, y3, y4, y5, y6, y7⟩ := cells8 H.out.box
          have kr := H.out.res
          have r0 : wr.cell? ⟨w.heap.size + 1, 0, none⟩ = some (.int .u32 0) := by rw [Lib.cell_of_heap kr]; rfl
          have r1 : wr.cell? ⟨w.heap.size + 1, 1, none⟩ = some (.int .u32 0) := by rw [Lib.cell_of_heap kr]; rfl
          have r2 : wr.cell? ⟨w.heap.size + 1, 2, none⟩ = some (.int .u32 0) := by rw [Lib.cell_of_heap kr]; rfl
          have r3 : wr.cell? ⟨w.heap.size + 1, 3, none⟩ = some (.int .u32 0) := by rw [Lib.cell_of_heap kr]; rfl
          have r4 : wr.cell? ⟨w.heap.size + 1, 4, none⟩ = some (.int .u32 0) := by rw [Lib.cell_of_heap kr]; rfl
          have r5 : wr.cell? ⟨w.heap.size + 1, 5, none⟩ = some (.int .u32 0) := by rw [Lib.cell_of_heap kr]; rfl
          have r6 : wr.cell? ⟨w.heap.size + 1, 6, none⟩ = some (.int .u32 0) := by rw [Lib.cell_of_heap kr]; rfl
          have r7 : wr.cell? ⟨w.heap.size + 1, 7, none⟩ = some (.int .u32 0) := by rw [Lib.cell_of_heap kr]; rfl
          have f0 := Lib.frozen_of_heap kr 0
          have f1 := Lib.frozen_of_heap kr 1
          have f2 := Lib.frozen_of_heap kr 2
          have f3 := Lib.frozen_of_heap kr 3
          have f4 := Lib.frozen_of_heap kr 4
          have f5 := Lib.frozen_of_heap kr 5
          have f6 := Lib.frozen_of_heap kr 6
          have f7 := Lib.frozen_of_heap kr 7
          have HKR2 := Lib.hid kr
          clear kr
          go_wp2_with fail
          refine bodyPost_ret (v := .agg τ.cells) ?_ rfl ?_
          · refine results_cell_row rfl _ _ (w.heap.size + 1) 44 τ.cells (0, 0) _ rfl ?_ Tryd.underlying44 rfl (by rfl)
            exact set8 (s := ⟨0, 0, 0, 0, 0, 0, 0, 0⟩) HKR2.out τ
          · refine ⟨by rw [← HTA.out, ← HSG.out, ← HWS.out]; rfl, ?_⟩
            have hB : w.heap.size ≤ w.heap.size + 1 := by omega
            exact (((((((H.out.below.setCell (by exact hB) _).setCell (by exact hB) _).setCell (by exact hB) _).setCell (by exact hB) _).setCell (by exact hB) _).setCell (by exact hB) _).setCell (by exact hB) _).setCell (by exact hB) _
end Go.Proofs.YtnlhhjokaekdhaaDoor
