/- longs.mix. -/
import Derived.Test.YtnlhhjokaekdhaaDoorSch5
import Derived.Test.YtnlhhjokaekdhaaDoorMix4
set_option linter.unusedVariables false
set_option linter.unusedSimpArgs false
namespace Go.Proofs.YtnlhhjokaekdhaaDoor.L5
open Go.RowKit

def kL : List Int := [4794697086780616226, 8158064640168781261, 13096744586834688815, 16840607885511220156, 4131703408338449720, 6480981068601479193, 10538285296894168987, 12329834152419229976, 15566598209576043074, 1334009975649890238, 2608012711638119052, 6128411473006802146, 8268148722764581231, 9286055187155687089, 11230858885718282805, 13951009754708518548, 16472876342353939154, 17275323862435702243, 1135362057144423861, 2597628984639134821, 3308224258029322869, 5365058923640841347, 6679025012923562964, 8573033837759648693, 10970295158949994411, 12119686244451234320, 12683024718118986047, 13788192230050041572, 14330467153632333762, 15395433587784984357, 489312712824947311, 1452737877330783856, 2861767655752347644, 3322285676063803686, 5560940570517711597, 5996557281743188959, 7280758554555802590, 8532644243296465576, 9350256976987008742, 10552545826968843579, 11727347734174303076, 12113106623233404929, 14000437183269869457, 14369950271660146224, 15101387698204529176, 15463397548674623760, 17586052441742319658, 1182934255886127544, 1847814050463011016, 2177327727835720531, 2830643537854262169, 3796741975233480872, 4115178125766777443, 5681478168544905931, 6601373596472566643, 7507060721942968483, 8399075790359081724, 8693463985226723168, 9568029438360202098, 10144078919501101548, 10430055236837252648, 11840083180663258601, 13761210420658862357, 14299343276471374635, 14566680578165727644, 15097957966210449927, 16922976911328602910, 17689382322260857208, 500013540394364858, 748580250866718886, 1242879168328830382, 1977374033974150939, 2944078676154940804, 3659926193048069267, 4368137639120453308, 4836135668995329356, 5532061633213252278, 6448918945643986474, 6902733635092675308, 7801388544844847127]
def f384L : List Int := [14680500436340154072, 7105036623409894663, 10473403895298186519, 1526699215303891257, 7436329637833083697, 10282925794625328401, 15784041429090275239, 5167115440072839076]
def f512L : List Int := [7640891576956012808, 13503953896175478587, 4354685564936845355, 11912009170470909681, 5840696475078001361, 11170449401992604703, 2270897969802886507, 6620516959819538809]
def u64A (l : List Int) : Array Value := (l.map (Value.int .u64)).toArray
/-- The tables as they are laid. -/
structure LTab5 (w : World) : Prop where
  k : ∃ t fr, w.heap[(4 : Nat)]? = some (.cells (u64A kL) t fr)
  f384 : ∃ t fr, w.heap[(2 : Nat)]? = some (.cells (u64A f384L) t fr)
  f512 : ∃ t fr, w.heap[(1 : Nat)]? = some (.cells (u64A f512L) t fr)
theorem LTab5.below {w w' : World} (h : LTab5 w) (hb : Below w.heap.size w w') : LTab5 w' := by
  obtain ⟨⟨t, fr, h1⟩, ⟨t2, fr2, h2⟩, ⟨t3, fr3, h3⟩⟩ := h
  exact ⟨⟨t, fr, (hb.block _ (Array.getElem?_eq_some_iff.1 h1).1).trans h1⟩, ⟨t2, fr2, (hb.block _ (Array.getElem?_eq_some_iff.1 h2).1).trans h2⟩, ⟨t3, fr3, (hb.block _ (Array.getElem?_eq_some_iff.1 h3).1).trans h3⟩⟩
/-- The eight numbers that a sum is made of. -/
structure St where
  a : Int
  b : Int
  c : Int
  d : Int
  e : Int
  f : Int
  g : Int
  h : Int
def St.cells (s : St) : Array Value := #[.int .u64 s.a, .int .u64 s.b, .int .u64 s.c, .int .u64 s.d, .int .u64 s.e, .int .u64 s.f, .int .u64 s.g, .int .u64 s.h]
def big1 (e : Int) : Int := bits .xor .u64 (bits .xor .u64 (rotF e 14) (rotF e 18)) (rotF e 41)
def big0 (a : Int) : Int := bits .xor .u64 (bits .xor .u64 (rotF a 28) (rotF a 34)) (rotF a 39)
def chI (e f g : Int) : Int := bits .xor .u64 (bits .and .u64 e f) (bits .and .u64 (bits .xor .u64 (if IntKind.u64.signed = true then -1 else IntKind.u64.max) e) g)
def majI (a b c : Int) : Int := bits .xor .u64 (bits .xor .u64 (bits .and .u64 a b) (bits .and .u64 a c)) (bits .and .u64 b c)
def sT (s : St) (k x : Int) : Int := IntKind.u64.wrap (IntKind.u64.wrap (IntKind.u64.wrap (IntKind.u64.wrap (s.h + big1 s.e) + chI s.e s.f s.g) + k) + x)
def sU (s : St) : Int := IntKind.u64.wrap (big0 s.a + majI s.a s.b s.c)
def rnd (s : St) (k x : Int) : St := ⟨w64 (sT s k x + sU s), s.a, s.b, s.c, w64 (s.d + sT s k x), s.e, s.f, s.g⟩
def addSt (v s : St) (k : Nat) : St := ⟨if 0 < k then w64 (v.a + s.a) else v.a, if 1 < k then w64 (v.b + s.b) else v.b, if 2 < k then w64 (v.c + s.c) else v.c, if 3 < k then w64 (v.d + s.d) else v.d,
  if 4 < k then w64 (v.e + s.e) else v.e, if 5 < k then w64 (v.f + s.f) else v.f, if 6 < k then w64 (v.g + s.g) else v.g, if 7 < k then w64 (v.h + s.h) else v.h⟩
def rnds (v : St) (ws : List Int) : Nat → St
  | 0 => v
  | n + 1 => rnd (rnds v ws n) (kL.getD n 0) (ws.getD n 0)
/-- What the eight become by a block. -/
def mixS (v : St) (l : List UInt8) : St := addSt v (rnds v (sch l 80) 80) 8
theorem u64A_get {l : List Int} {i : Nat} (h : i < l.length) : (u64A l)[i]? = some (Value.int .u64 (l.getD i 0)) := by
  unfold u64A
  rw [List.getElem?_toArray, List.getElem?_map, List.getElem?_eq_getElem h]
  simp [List.getD, h]
def zero8 : Array Value := #[.int .u64 0, .int .u64 0, .int .u64 0, .int .u64 0, .int .u64 0, .int .u64 0, .int .u64 0, .int .u64 0]
/-- The memory of the rounds. -/
structure MixAt (B bs : Nat) (L : List Value) (v s : St) (w wr : World) : Prop where
  box : wr.heap[B]? = some (.cells v.cells 62 (0, 0))
  res : wr.heap[B + 1]? = some (.cells zero8 62 (0, 0))
  sched : wr.heap[bs]? = some (.cells L.toArray 95 (0, 0))
  vb : wr.heap[bs + 1]? = some (.cells s.cells 62 (0, 0))
  below : Below B w wr
  ord : B + 2 ≤ bs ∧ bs + 2 ≤ wr.heap.size
theorem MixAt.drew {B bs : Nat} {L : List Value} {v s : St} {w wr : World} (h : MixAt B bs L v s w wr) : MixAt B bs L v s w wr.drew := ⟨h.box, h.res, h.sched, h.vb, h.below.drew, h.ord⟩
theorem MixAt.drewN {B bs : Nat} {L : List Value} {v s : St} {w wr : World} (h : MixAt B bs L v s w wr) (n : Nat) : MixAt B bs L v s w (wr.drewN n) := ⟨h.box, h.res, h.sched, h.vb, below_drewN h.below n, h.ord⟩
theorem arr8 (c0 c1 c2 c3 c4 c5 c6 c7 a b c d e f g h : Value) : ((((((((#[c0, c1, c2, c3, c4, c5, c6, c7] : Array Value).setIfInBounds 0 a).setIfInBounds 1 b).setIfInBounds 2 c).setIfInBounds 3 d).setIfInBounds 4 e).setIfInBounds 5 f).setIfInBounds 6 g).setIfInBounds 7 h = #[a, b, c, d, e, f, g, h] := by
  apply Array.ext'
  simp only [Array.toList_setIfInBounds, List.set_cons_zero, List.set_cons_succ]
theorem set8 {w : World} {g : Nat} {s : St} {t : TypeId} {fr : Nat × Nat} (h : w.heap[g]? = some (.cells s.cells t fr)) (s' : St) :
    ((((((((w.setCell ⟨g, 0, none⟩ (.int .u64 s'.a)).setCell ⟨g, 1, none⟩ (.int .u64 s'.b)).setCell ⟨g, 2, none⟩ (.int .u64 s'.c)).setCell ⟨g, 3, none⟩ (.int .u64 s'.d)).setCell ⟨g, 4, none⟩ (.int .u64 s'.e)).setCell ⟨g, 5, none⟩ (.int .u64 s'.f)).setCell ⟨g, 6, none⟩ (.int .u64 s'.g)).setCell ⟨g, 7, none⟩ (.int .u64 s'.h)).heap[g]? = some (.cells s'.cells t fr) := by
  have h1 := heap_setA (heap_setA (heap_setA (heap_setA (heap_setA (heap_setA (heap_setA (heap_setA h 0 (.int .u64 s'.a)) 1 (.int .u64 s'.b)) 2 (.int .u64 s'.c)) 3 (.int .u64 s'.d)) 4 (.int .u64 s'.e)) 5 (.int .u64 s'.f)) 6 (.int .u64 s'.g)) 7 (.int .u64 s'.h)
  rw [h1]
  unfold St.cells
  rw [arr8]
theorem set8_ne {w : World} {g j : Nat} (hj : j ≠ g) (s' : St) :
    ((((((((w.setCell ⟨g, 0, none⟩ (.int .u64 s'.a)).setCell ⟨g, 1, none⟩ (.int .u64 s'.b)).setCell ⟨g, 2, none⟩ (.int .u64 s'.c)).setCell ⟨g, 3, none⟩ (.int .u64 s'.d)).setCell ⟨g, 4, none⟩ (.int .u64 s'.e)).setCell ⟨g, 5, none⟩ (.int .u64 s'.f)).setCell ⟨g, 6, none⟩ (.int .u64 s'.g)).setCell ⟨g, 7, none⟩ (.int .u64 s'.h)).heap[j]? = w.heap[j]? := by
  rw [Below.heap_setCell _ _ _ j hj, Below.heap_setCell _ _ _ j hj, Below.heap_setCell _ _ _ j hj, Below.heap_setCell _ _ _ j hj, Below.heap_setCell _ _ _ j hj, Below.heap_setCell _ _ _ j hj, Below.heap_setCell _ _ _ j hj, Below.heap_setCell _ _ _ j hj]
theorem MixAt.set {B bs : Nat} {L : List Value} {v s : St} {w wr : World} (h : MixAt B bs L v s w wr) (s' : St) : MixAt B bs L v s' w ((((((((wr.setCell ⟨bs + 1, 0, none⟩ (.int .u64 s'.a)).setCell ⟨bs + 1, 1, none⟩ (.int .u64 s'.b)).setCell ⟨bs + 1, 2, none⟩ (.int .u64 s'.c)).setCell ⟨bs + 1, 3, none⟩ (.int .u64 s'.d)).setCell ⟨bs + 1, 4, none⟩ (.int .u64 s'.e)).setCell ⟨bs + 1, 5, none⟩ (.int .u64 s'.f)).setCell ⟨bs + 1, 6, none⟩ (.int .u64 s'.g)).setCell ⟨bs + 1, 7, none⟩ (.int .u64 s'.h)) := by
  have ho := h.ord
  refine ⟨by rw [set8_ne (by omega)]; exact h.box, by rw [set8_ne (by omega)]; exact h.res, by rw [set8_ne (by omega)]; exact h.sched, set8 h.vb s', ?_, ho.1, by simp [World.setCell]; exact ho.2⟩
  have hB : B ≤ bs + 1 := by omega
  exact (((((((h.below.setCell (by exact hB) _).setCell (by exact hB) _).setCell (by exact hB) _).setCell (by exact hB) _).setCell (by exact hB) _).setCell (by exact hB) _).setCell (by exact hB) _).setCell (by exact hB) _
/-- One cell of the box more. -/
theorem MixAt.box1 {B bs : Nat} {L : List Value} {v s : St} {w wr : World} (h : MixAt B bs L v s w wr) (v' : St) (k : Nat) (u : Value) (he : v.cells.setIfInBounds k u = v'.cells) : MixAt B bs L v' s w (wr.setCell ⟨B, k, none⟩ u).drew := by
  have ho := h.ord
  refine ⟨?_, ?_, ?_, ?_, (h.below.setCell (by show B ≤ B; omega) _).drew, ho.1, by show _ ≤ (wr.setCell _ _).heap.size; simp [World.setCell]; exact ho.2⟩
  · show (wr.setCell _ _).heap[_]? = _
    rw [heap_setA h.box, he]
  · show (wr.setCell _ _).heap[_]? = _
    rw [Below.heap_setCell _ _ _ _ (by show _ ≠ B; omega)]; exact h.res
  · show (wr.setCell _ _).heap[_]? = _
    rw [Below.heap_setCell _ _ _ _ (by show _ ≠ B; omega)]; exact h.sched
  · show (wr.setCell _ _).heap[_]? = _
    rw [Below.heap_setCell _ _ _ _ (by show _ ≠ B; omega)]; exact h.vb
theorem quiet_1 {P : Program} {f : FuncId} {args : Array Value} {w : World} {n : Nat} {v : Value} (h : Calls P f args (w.drewN n) fun e w' => e = .returned v ∧ w.drewN n = w') : Calls P f args (w.drewN n) fun e w' => e = .returned v ∧ ∃ k, w' = w.drewN k :=
  h.mono fun _ _ ⟨he, hw⟩ => ⟨he, n, hw.symm⟩
theorem cells8 {w : World} {g : Nat} {s : St} {t : TypeId} {fr : Nat × Nat} (h : w.heap[g]? = some (.cells s.cells t fr)) :
    w.cell? ⟨g, 0, none⟩ = some (.int .u64 s.a) ∧ w.cell? ⟨g, 1, none⟩ = some (.int .u64 s.b) ∧ w.cell? ⟨g, 2, none⟩ = some (.int .u64 s.c) ∧ w.cell? ⟨g, 3, none⟩ = some (.int .u64 s.d) ∧
    w.cell? ⟨g, 4, none⟩ = some (.int .u64 s.e) ∧ w.cell? ⟨g, 5, none⟩ = some (.int .u64 s.f) ∧ w.cell? ⟨g, 6, none⟩ = some (.int .u64 s.g) ∧ w.cell? ⟨g, 7, none⟩ = some (.int .u64 s.h) := by
  refine ⟨?_, ?_, ?_, ?_, ?_, ?_, ?_, ?_⟩ <;> (rw [Lib.cell_of_heap h]; rfl)
theorem there_z (w : World) : (w.alloc (.cells Tryd.zeroCells95 95)).there w.heap.size 0 80 := by
  have := there_of (heap_alloc_new w (.cells Tryd.zeroCells95 95))
  rw [← row_zero, rowF_size] at this
  rw [← row_zero]
  exact this

set_option maxHeartbeats 6400000 in
set_option maxRecDepth 100000 in
theorem mix_any (v : St) (s : ByteArray) (w : World) (hs : s.size = 128) (hT : LTab5 w) :
    Calls Tryd.prog 59 #[.agg v.cells, .string s] w fun e w' => e = .returned (.agg (mixS v s.data.toList).cells) ∧ Below w.heap.size w w' := by
  obtain ⟨W1, hW1⟩ : ∃ W1, W1 = (w.alloc (.cells v.cells 62)).alloc (.cells #[.int .u64 0, .int .u64 0, .int .u64 0, .int .u64 0, .int .u64 0, .int .u64 0, .int .u64 0, .int .u64 0] 62) := ⟨_, rfl⟩
  have hb1 : Below w.heap.size w W1 := by rw [hW1]; exact ((Below.refl _ w).alloc (Nat.le_refl _) _).alloc (by simp) _
  have hs1 : W1.heap.size = w.heap.size + 2 := by rw [hW1]; simp
  have kb : W1.heap[w.heap.size]? = some (.cells v.cells 62 (0, 0)) := by
    rw [hW1, Below.heap_alloc _ _ _ (by simp)]; exact heap_alloc_new w _
  have kr : W1.heap[w.heap.size + 1]? = some (.cells #[.int .u64 0, .int .u64 0, .int .u64 0, .int .u64 0, .int .u64 0, .int .u64 0, .int .u64 0, .int .u64 0] 62 (0, 0)) := by
    rw [hW1]
    have := heap_alloc_new (w.alloc (.cells v.cells 62)) (.cells #[.int .u64 0, .int .u64 0, .int .u64 0, .int .u64 0, .int .u64 0, .int .u64 0, .int .u64 0, .int .u64 0] 62)
    simpa using this
  have HSC := Lib.hid (schedule_any s W1 hs)
  obtain ⟨WS, hWS⟩ : ∃ WS, sch s.data.toList 80 = WS := ⟨_, rfl⟩
  obtain ⟨L, hL⟩ : ∃ L, WS.map (Value.int .u64) = L := ⟨_, rfl⟩
  rw [hWS, hL] at HSC
  have HWS := Lib.hid hWS
  have hLl : L.toArray.size = 80 := by rw [List.size_toArray, ← hL, List.length_map, ← hWS, sch_len]
  have HI : Hid ((Tryd.prog.info? 95).map (·.size) = some L.toArray.size) := by show _ = _; rw [hLl]; exact info80
  have HONE : Hid (L.toArray.all (·.oneCell') = true) := all_oneCell_toArray (by
    intro u hu
    rw [← hL] at hu
    obtain ⟨x, _, rfl⟩ := List.mem_map.1 hu
    rfl)
  have HLS := Lib.hid hLl
  have HL := Lib.hid hL
  have HB1 := Lib.hid hb1
  have HS1 := Lib.hid hs1
  have HKB := Lib.hid kb
  have HKR := Lib.hid kr
  have HT := Lib.hid hT
  have HW1 := Lib.hid hW1
  clear hs hL hLl hWS hb1 hs1 kb kr hT
  unfold St.cells at hW1
  have HWV : Hid (W1 = (w.alloc (.cells #[.int .u64 v.a, .int .u64 v.b, .int .u64 v.c, .int .u64 v.d, .int .u64 v.e, .int .u64 v.f, .int .u64 v.g, .int .u64 v.h] 62)).alloc (.cells #[.int .u64 0, .int .u64 0, .int .u64 0, .int .u64 0, .int .u64 0, .int .u64 0, .int .u64 0, .int .u64 0] 62)) := hW1
  clear hW1
  unfold St.cells
  go_enter Tryd.func59, Tryd.ntmps59
  go_upto_region 2 with (first
    | (with_reducible refine wpList_store_mid rfl 95 (.tmp 5) (.tmp 18) rfl w2.heap.size 0 L.toArray rfl rfl HTH.out HI.out HONE.out ?_)
    | (go_at_call 76; rw [← HWV.out]; refine HSC.out.mono ?_; rintro e w2 ⟨rfl, b2⟩; have B2 := Lib.hid b2; clear b2; have hth := there_z w2; rw [← HLS.out] at hth; have HTH := Lib.hid hth; clear hth))
  obtain ⟨W3, hW3⟩ : ∃ W3, W3 = (w2.alloc (.cells Tryd.zeroCells95 95)).setCells w2.heap.size 0 L := ⟨_, rfl⟩
  obtain ⟨bs, hbs⟩ : ∃ bs, w2.heap.size = bs := ⟨_, rfl⟩
  have hz2 := B2.out.size
  have hz1 := HS1.out
  have hs3 : W3.heap.size = bs + 1 := by rw [hW3, size_setCells, ← hbs]; simp
  have old : ∀ j, j < bs → W3.heap[j]? = w2.heap[j]? := fun j hj => by
    rw [hW3, heap_setCells_ne (by omega), Below.heap_alloc _ _ _ (by omega)]
  have ks : W3.heap[bs]? = some (.cells L.toArray 95 (0, 0)) := by
    rw [hW3, hbs, ← hbs]
    have := heap_setAll (heap_alloc_new w2 (.cells Tryd.zeroCells95 95)) L (by rw [List.size_toArray] at *; exact HLS.out.symm ▸ rfl)
    exact this
  have kb3 : W3.heap[w.heap.size]? = some (.cells v.cells 62 (0, 0)) := (old _ (by omega)).trans ((B2.out.block _ (by omega)).trans HKB.out)
  have kr3 : W3.heap[w.heap.size + 1]? = some (.cells zero8 62 (0, 0)) := (old _ (by omega)).trans ((B2.out.block _ (by omega)).trans HKR.out)
  have hb3 : Below w.heap.size w W3 := by
    rw [hW3]
    exact below_setCells _ _ _ ((HB1.out.trans (B2.out.mono (by omega))).alloc (by omega) _) (by omega)
  have HM0 : Hid (MixAt w.heap.size bs L v v w (W3.alloc (.cells v.cells 62))) := by
    refine ⟨?_, ?_, ?_, ?_, hb3.alloc (by omega) _, by omega, by simp; omega⟩
    · rw [Below.heap_alloc _ _ _ (by omega)]; exact kb3
    · rw [Below.heap_alloc _ _ _ (by omega)]; exact kr3
    · rw [Below.heap_alloc _ _ _ (by omega)]; exact ks
    · rw [← hs3]; exact heap_alloc_new W3 _
  obtain ⟨y0, y1, y2, y3, y4, y5, y6, y7⟩ := cells8 kb3
  rw [← hW3]
  rw [hbs]
  have HS3 : Hid (W3.heap.size = bs + 1) := hs3
  clear hW3 hs3 old ks kb3 kr3 hb3 hz2 hz1 HSC HTH HI HONE
  go_wp2_with fail
  rw [HS3.out]
  go_loopw [20] (fun i wr => ∃ k : Nat, k ≤ 80 ∧ i = .int .i64 k ∧ Hid (MixAt w.heap.size bs L v (rnds v WS k) w wr)) (fun i _ => 80 - (intOf i).toNat)
  case atStart => exact ⟨0, Nat.zero_le _, rfl, HM0⟩
  case round =>
    obtain ⟨k, hk, rfl, H⟩ := hrel
    by_cases hlt : k < 80
    · have hki : (k : Int) < 80 := by omega
      obtain ⟨σ, hσ⟩ : ∃ σ, rnds v WS k = σ := ⟨_, rfl⟩
      obtain ⟨K, hK⟩ : ∃ K, kL.getD k 0 = K := ⟨_, rfl⟩
      obtain ⟨X, hX⟩ : ∃ X, WS.getD k 0 = X := ⟨_, rfl⟩
      have HR : Hid (rnds v WS (k + 1) = rnd σ K X) := by show _ = _; rw [rnds, hσ, hK, hX]
      rw [hσ] at H
      have CK : Hid (∀ W, Below w.heap.size w W → W.cell? ⟨(4 : Nat), k, none⟩ = some (.int .u64 K)) := by
        intro W hW
        obtain ⟨tk, frk, hkk⟩ := (HT.out.below hW).k
        rw [Lib.cell_of_heap hkk, u64A_get (by exact hlt), hK]
      have CX : Hid (∀ W, MixAt w.heap.size bs L v σ w W → W.cell? ⟨bs, k, none⟩ = some (.int .u64 X)) := by
        intro W hW
        have hl : WS.length = 80 := by have := HLS.out; rw [← HL.out] at this; simpa using this
        rw [Lib.cell_of_heap hW.sched, ← HL.out]
        have := u64A_get (l := WS) (i := k) (by omega)
        unfold u64A at this
        rw [this, hX]
      obtain ⟨x0, x1, x2, x3, x4, x5, x6, x7⟩ := cells8 H.out.vb
      clear hσ hK hX
      go_wp2_with fail
      go_region
      obtain ⟨w5, hw5⟩ : ∃ w5, wr.drew = w5 := ⟨_, rfl⟩
      have H5 : Hid (MixAt w.heap.size bs L v σ w w5) := by rw [← hw5]; exact H.out.drew
      rw [hw5]
      clear hw5 x0 x1 x2 x3 x4 x5 x6 x7
      obtain ⟨x0, x1, x2, x3, x4, x5, x6, x7⟩ := cells8 H5.out.vb
      have ck := CK.out w5 H5.out.below
      have cx := CX.out w5 H5.out
      go_wp2_with fail
      go_quiet ((go_at_call 77; exact quiet_1 (right_k _ _ _ (by decide))))
      obtain ⟨T, hT⟩ : ∃ T, sT σ K X = T := ⟨_, rfl⟩
      obtain ⟨U, hU⟩ : ∃ U, sU σ = U := ⟨_, rfl⟩
      have HRN : Hid (rnd σ K X = ⟨w64 (T + U), σ.a, σ.b, σ.c, w64 (σ.d + T), σ.e, σ.f, σ.g⟩) := by show _ = _; rw [rnd, hT, hU]
      unfold sT big1 chI at hT
      unfold sU big0 majI at hU
      rw [hT]
      have HU := Lib.hid hU
      clear hT hU
      go_upto_region 9 with (go_at_call 77; refine (right_k _ _ _ (by decide)).mono ?_; rintro e w7 ⟨rfl, rfl⟩)
      rw [HU.out]
      have f0 := Lib.frozen_of_heap H5.out.vb 0
      have f1 := Lib.frozen_of_heap H5.out.vb 1
      have f2 := Lib.frozen_of_heap H5.out.vb 2
      have f3 := Lib.frozen_of_heap H5.out.vb 3
      have f4 := Lib.frozen_of_heap H5.out.vb 4
      have f5 := Lib.frozen_of_heap H5.out.vb 5
      have f6 := Lib.frozen_of_heap H5.out.vb 6
      have f7 := Lib.frozen_of_heap H5.out.vb 7
      go_wp2_with fail
      go_roundw
      case rel => exact ⟨k + 1, by omega, by go_num, by rw [HR.out, HRN.out]; exact (H5.out.drewN _).set ⟨w64 (T + U), σ.a, σ.b, σ.c, w64 (σ.d + T), σ.e, σ.f, σ.g⟩⟩
      case measure => simp [intOf]; omega
    · have hk64 : k = 80 := by omega
      rw [hk64] at H
      have hn64 : ¬ (k : Int) < 80 := by omega
      obtain ⟨σ, hσ⟩ : ∃ σ, rnds v WS 80 = σ := ⟨_, rfl⟩
      rw [hσ] at H
      have HSG := Lib.hid hσ
      clear hlt hk hk64 hσ
      go_wp2_with fail
      go_loopw [98] (fun i wr => ∃ k : Nat, k ≤ 8 ∧ i = .int .i64 k ∧ Hid (MixAt w.heap.size bs L (addSt v σ k) σ w wr)) (fun i _ => 8 - (intOf i).toNat)
      case atStart => exact ⟨0, Nat.zero_le _, rfl, H⟩
      case round =>
        obtain ⟨j, hj, rfl, H⟩ := hrel
        by_cases hlt : j < 8
        · rcases (by omega : j = 0 ∨ j = 1 ∨ j = 2 ∨ j = 3 ∨ j = 4 ∨ j = 5 ∨ j = 6 ∨ j = 7) with rfl | rfl | rfl | rfl | rfl | rfl | rfl | rfl
          all_goals
            obtain ⟨x0, x1, x2, x3, x4, x5, x6, x7⟩ := cells8 H.out.vb
            obtain ⟨y0, y1, y2, y3, y4, y5, y6, y7⟩ := cells8 H.out.box
            have f0 := Lib.frozen_of_heap H.out.box 0
            have f1 := Lib.frozen_of_heap H.out.box 1
            have f2 := Lib.frozen_of_heap H.out.box 2
            have f3 := Lib.frozen_of_heap H.out.box 3
            have f4 := Lib.frozen_of_heap H.out.box 4
            have f5 := Lib.frozen_of_heap H.out.box 5
            have f6 := Lib.frozen_of_heap H.out.box 6
            have f7 := Lib.frozen_of_heap H.out.box 7
            simp only [addSt, Nat.lt_irrefl, if_false, if_true, Nat.not_lt_zero, reduceIte, Nat.reduceLT] at y0 y1 y2 y3 y4 y5 y6 y7
            go_wp2_with fail
            go_region
            go_wp2_with fail
            go_roundw
          all_goals first
            | (simp [intOf]; done)
            | (simp [intOf]; omega)
            | (refine ⟨1, by omega, by go_num, ?_⟩; exact H.out.box1 _ 0 _ rfl)
            | (refine ⟨2, by omega, by go_num, ?_⟩; exact H.out.box1 _ 1 _ rfl)
            | (refine ⟨3, by omega, by go_num, ?_⟩; exact H.out.box1 _ 2 _ rfl)
            | (refine ⟨4, by omega, by go_num, ?_⟩; exact H.out.box1 _ 3 _ rfl)
            | (refine ⟨5, by omega, by go_num, ?_⟩; exact H.out.box1 _ 4 _ rfl)
            | (refine ⟨6, by omega, by go_num, ?_⟩; exact H.out.box1 _ 5 _ rfl)
            | (refine ⟨7, by omega, by go_num, ?_⟩; exact H.out.box1 _ 6 _ rfl)
            | (refine ⟨8, by omega, by go_num, ?_⟩; exact H.out.box1 _ 7 _ rfl)
        · have hj8 : j = 8 := by omega
          rw [hj8] at H
          have hn8 : ¬ (j : Int) < 8 := by omega
          obtain ⟨τ, hτ⟩ : ∃ τ, addSt v σ 8 = τ := ⟨_, rfl⟩
          rw [hτ] at H
          have HTA := Lib.hid hτ
          clear hlt hj hj8 hτ
          obtain ⟨y0, y1, y2, y3, y4, y5, y6, y7⟩ := cells8 H.out.box
          have kr := H.out.res
          have r0 : wr.cell? ⟨w.heap.size + 1, 0, none⟩ = some (.int .u64 0) := by rw [Lib.cell_of_heap kr]; rfl
          have r1 : wr.cell? ⟨w.heap.size + 1, 1, none⟩ = some (.int .u64 0) := by rw [Lib.cell_of_heap kr]; rfl
          have r2 : wr.cell? ⟨w.heap.size + 1, 2, none⟩ = some (.int .u64 0) := by rw [Lib.cell_of_heap kr]; rfl
          have r3 : wr.cell? ⟨w.heap.size + 1, 3, none⟩ = some (.int .u64 0) := by rw [Lib.cell_of_heap kr]; rfl
          have r4 : wr.cell? ⟨w.heap.size + 1, 4, none⟩ = some (.int .u64 0) := by rw [Lib.cell_of_heap kr]; rfl
          have r5 : wr.cell? ⟨w.heap.size + 1, 5, none⟩ = some (.int .u64 0) := by rw [Lib.cell_of_heap kr]; rfl
          have r6 : wr.cell? ⟨w.heap.size + 1, 6, none⟩ = some (.int .u64 0) := by rw [Lib.cell_of_heap kr]; rfl
          have r7 : wr.cell? ⟨w.heap.size + 1, 7, none⟩ = some (.int .u64 0) := by rw [Lib.cell_of_heap kr]; rfl
          have f0 := Lib.frozen_of_heap kr 0
          have f1 := Lib.frozen_of_heap kr 1
          have f2 := Lib.frozen_of_heap kr 2
          have f3 := Lib.frozen_of_heap kr 3
          have f4 := Lib.frozen_of_heap kr 4
          have f5 := Lib.frozen_of_heap kr 5
          have f6 := Lib.frozen_of_heap kr 6
          have f7 := Lib.frozen_of_heap kr 7
          have HKR2 := Lib.hid kr
          clear kr
          go_wp2_with fail
          refine bodyPost_ret (v := .agg τ.cells) ?_ rfl ?_
          · refine results_cell_row rfl _ _ (w.heap.size + 1) 62 τ.cells (0, 0) _ rfl ?_ Tryd.underlying62 rfl (by rfl)
            exact set8 (s := ⟨0, 0, 0, 0, 0, 0, 0, 0⟩) HKR2.out τ
          · refine ⟨by rw [← HTA.out, ← HSG.out, ← HWS.out]; rfl, ?_⟩
            have hB : w.heap.size ≤ w.heap.size + 1 := by omega
            exact (((((((H.out.below.setCell (by exact hB) _).setCell (by exact hB) _).setCell (by exact hB) _).setCell (by exact hB) _).setCell (by exact hB) _).setCell (by exact hB) _).setCell (by exact hB) _).setCell (by exact hB) _
end Go.Proofs.YtnlhhjokaekdhaaDoor.L5
