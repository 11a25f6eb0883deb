/-
  The law's own question: is the package there?
-/
import Derived.Test.YtikpglemnnbdcaaDoorHmacDerive
import Derived.Test.YtikpglemnnbdcaaDoorHmacCalls
namespace Go.Proofs.YtikpglemnnbdcaaDoor
open Go.RowKit Go.Hold Go.Sh

set_option maxRecDepth 100000 in
@[go_sem] theorem run_bldB2 (w : World) (a b : Int) : (bldB 2 #[(0, .int .u8 a), (1, .int .u8 b)]).run Tryd.prog w = .ok (.slice (some ⟨w.heap.size, 0, none⟩) 2 2) (w.alloc (.cells #[.int .u8 a, .int .u8 b] 5)) := by
  obtain ⟨ie, h1, h2, h3, _⟩ := info_parts info_u8
  refine run_buildSlice w _ _ 2 _ #[.int .u8 a, .int .u8 b] ie _ Tryd.underlying22 h1 h2 (by rw [h3]; decide) (by rw [h3]; decide) ?_
  rw [h3]; kernel_rfl
set_option maxRecDepth 100000 in
@[go_sem] theorem run_bldB4 (w : World) : (bldB 4 #[(0, .int .u8 74), (1, .int .u8 101), (2, .int .u8 102), (3, .int .u8 101)]).run Tryd.prog w = .ok (.slice (some ⟨w.heap.size, 0, none⟩) 4 4) (w.alloc (.cells (bysA jefe) 5)) := by
  obtain ⟨ie, h1, h2, h3, _⟩ := info_parts info_u8
  refine run_buildSlice w _ _ 4 _ (bysA jefe) ie _ Tryd.underlying22 h1 h2 (by rw [h3]; decide) (by rw [h3]; decide) ?_
  rw [h3]; kernel_rfl
set_option maxRecDepth 100000 in
@[go_sem] theorem run_bldB28 (w : World) : (bldB 28 #[(0, .int .u8 119), (1, .int .u8 104), (2, .int .u8 97), (3, .int .u8 116), (4, .int .u8 32), (5, .int .u8 100), (6, .int .u8 111), (7, .int .u8 32), (8, .int .u8 121), (9, .int .u8 97), (10, .int .u8 32), (11, .int .u8 119), (12, .int .u8 97), (13, .int .u8 110), (14, .int .u8 116), (15, .int .u8 32), (16, .int .u8 102), (17, .int .u8 111), (18, .int .u8 114), (19, .int .u8 32), (20, .int .u8 110), (21, .int .u8 111), (22, .int .u8 116), (23, .int .u8 104), (24, .int .u8 105), (25, .int .u8 110), (26, .int .u8 103), (27, .int .u8 63)]).run Tryd.prog w = .ok (.slice (some ⟨w.heap.size, 0, none⟩) 28 28) (w.alloc (.cells (bysA wdyw) 5)) := by
  obtain ⟨ie, h1, h2, h3, _⟩ := info_parts info_u8
  refine run_buildSlice w _ _ 28 _ (bysA wdyw) ie _ Tryd.underlying22 h1 h2 (by rw [h3]; decide) (by rw [h3]; decide) ?_
  rw [h3]; kernel_rfl
theorem jefe_bts : ∀ i, jefe.getD i 0 < 256 := getD_lt fun x hx => by
  simp only [jefe, List.mem_cons, List.not_mem_nil, or_false] at hx
  omega
theorem wdyw_bts : ∀ i, wdyw.getD i 0 < 256 := getD_lt fun x hx => by
  simp only [wdyw, List.mem_cons, List.not_mem_nil, or_false] at hx
  omega
/-- A row of bytes, marked or not. -/
def CellsAt (w : World) (g : Nat) (l : List Nat) : Prop := ∃ f, w.heap[g]? = some (.cells (bysA l) 5 f)
theorem CellsAt.bytes {w : World} {g : Nat} {l : List Nat} (h : CellsAt w g l) : BytesAt w g 0 l := by
  obtain ⟨f, h⟩ := h
  exact ⟨(Array.getElem?_eq_some_iff.1 h).1, fun i hi => by rw [Nat.zero_add, cell_of_row _ _ i _ _ _ h]; exact bysA_get l i hi⟩
/-- The memory grows; what cells there are stay. -/
def Keeps (W w w' : World) : Prop := Below W.heap.size w w' ∧ ∀ (g : Nat) (c : Array Value) (t : TypeId) (f : Nat × Nat), w.heap[g]? = some (Obj.cells c t f) → ∃ f', w'.heap[g]? = some (Obj.cells c t f')
theorem keeps_below {W w w' : World} (hb : Below W.heap.size W w) (h : Below w.heap.size w w') : Keeps W w w' :=
  ⟨h.mono hb.size, fun g c t f hg => ⟨f, by rw [h.block g (Array.getElem?_eq_some_iff.1 hg).1]; exact hg⟩⟩
theorem CellsAt.keep {W w w' : World} {g : Nat} {l : List Nat} (h : CellsAt w g l) (hk : Keeps W w w') : CellsAt w' g l := by
  obtain ⟨f, h⟩ := h
  exact hk.2 _ _ _ _ h
def cvBB (v : Value) : Sem Value := convert 22 22 v
/-- The mark of a constant's row. -/
theorem run_cvBB {W w : World} {g n c : Nat} {l : List Nat} (hg : W.heap.size ≤ g) (h : CellsAt w g l) : ∃ w', (convert 22 22 (.slice (some ⟨g, 0, none⟩) n c)).run Tryd.prog w = .ok (.slice (some ⟨g, 0, none⟩) n c) w' ∧ Keeps W w w' := by
  obtain ⟨f, h⟩ := h
  have hsh : w.shape? g = some (5, (bysA l).size) := by unfold World.shape?; rw [h]
  refine ⟨w.freeze ⟨g, (bysA l).size, none⟩ 1, ?_, ?_, ?_⟩
  · simp [convert, run_underlying Tryd.underlying22, run_underlying Tryd.underlying5, markStringish, hsh]
  · unfold World.freeze
    rw [if_neg (by decide)]
    exact ⟨rfl, rfl, rfl, by simp, fun k hk => by simp only [Array.getElem?_modify]; rw [if_neg (by omega)]⟩
  · intro g' c t f' hg'
    unfold World.freeze
    rw [if_neg (by decide)]
    simp only [Array.getElem?_modify]
    by_cases e : g = g'
    · rw [if_pos e, hg']; exact ⟨_, rfl⟩
    · rw [if_neg e]; exact ⟨f', hg'⟩
/-- What is known of each operation of the question. -/
def alvR (W : World) (x : Nat) (p : Option Addr) (M Da Db : St) : Nat → Value → World → Prop
  | 0, v, _ => v = .pointer (some ⟨x, 0, none⟩)
  | 1, v, _ => v = .int .u8 91
  | 2, v, _ => v = .bool true
  | 3, v, _ => v = .bool true
  | 4, v, _ => v = .pointer (some ⟨x, 31, none⟩)
  | 5, v, _ => v = .int .u8 67
  | 6, v, _ => v = .bool true
  | 7, v, _ => v = .bool true
  | 8, v, _ => v = .bool true
  | 9, v, _ => v = .int .i64 0
  | 10, v, _ => v = .bool true
  | 11, v, _ => v = .bool true
  | 12, v, _ => v = .bool true
  | 13, v, _ => v = .slice p 40 40
  | 14, v, _ => v = .int .i64 40
  | 15, v, _ => v = .bool true
  | 16, v, _ => v = .bool true
  | 17, v, _ => v = .bool true
  | 18, v, _ => v = .agg (keA M)
  | 19, v, _ => v = .agg (keA Da)
  | 20, v, _ => v = .agg (keA M)
  | 21, v, _ => v = .agg (keA Db)
  | 22, v, _ => v = .bool true
  | 23, v, _ => v = .bool true
  | 24, v, _ => v = .bool true
  | 25, v, w => ∃ g, v = .slice (some ⟨g, 0, none⟩) 2 2 ∧ W.heap.size ≤ g ∧ CellsAt w g [97, 98]
  | 26, v, w => ∃ g, v = .slice (some ⟨g, 0, none⟩) 2 2 ∧ W.heap.size ≤ g ∧ CellsAt w g [97, 98]
  | 27, v, w => ∃ g, v = .slice (some ⟨g, 0, none⟩) 2 2 ∧ W.heap.size ≤ g ∧ CellsAt w g [97, 98]
  | 28, v, w => ∃ g, v = .slice (some ⟨g, 0, none⟩) 2 2 ∧ W.heap.size ≤ g ∧ CellsAt w g [97, 98]
  | 29, v, _ => v = .bool true
  | 30, v, _ => v = .bool true
  | 31, v, _ => v = .bool true
  | 32, v, w => ∃ g, v = .slice (some ⟨g, 0, none⟩) 2 2 ∧ W.heap.size ≤ g ∧ CellsAt w g [97, 98]
  | 33, v, w => ∃ g, v = .slice (some ⟨g, 0, none⟩) 2 2 ∧ W.heap.size ≤ g ∧ CellsAt w g [97, 98]
  | 34, v, w => ∃ g, v = .slice (some ⟨g, 0, none⟩) 2 2 ∧ W.heap.size ≤ g ∧ CellsAt w g [97, 97]
  | 35, v, w => ∃ g, v = .slice (some ⟨g, 0, none⟩) 2 2 ∧ W.heap.size ≤ g ∧ CellsAt w g [97, 97]
  | 36, v, _ => v = .bool false
  | 37, v, _ => v = .bool true
  | 38, v, _ => v = .bool true
  | 39, v, _ => v = .bool true
  | 40, v, _ => v = .agg (keA M)
  | 41, v, _ => v = .agg (bysA ((keyN M).take 16))
  | 42, v, _ => v = .int .u8 91
  | 43, v, _ => v = .bool true
  | 44, v, _ => v = .bool true
  | _, _, _ => True
theorem alvR_mono (W : World) (x : Nat) (p : Option Addr) (M Da Db : St) : ∀ i v w w', alvR W x p M Da Db i v w → Keeps W w w' → alvR W x p M Da Db i v w'
  | 0, _, _, _, h, _ => h
  | 1, _, _, _, h, _ => h
  | 2, _, _, _, h, _ => h
  | 3, _, _, _, h, _ => h
  | 4, _, _, _, h, _ => h
  | 5, _, _, _, h, _ => h
  | 6, _, _, _, h, _ => h
  | 7, _, _, _, h, _ => h
  | 8, _, _, _, h, _ => h
  | 9, _, _, _, h, _ => h
  | 10, _, _, _, h, _ => h
  | 11, _, _, _, h, _ => h
  | 12, _, _, _, h, _ => h
  | 13, _, _, _, h, _ => h
  | 14, _, _, _, h, _ => h
  | 15, _, _, _, h, _ => h
  | 16, _, _, _, h, _ => h
  | 17, _, _, _, h, _ => h
  | 18, _, _, _, h, _ => h
  | 19, _, _, _, h, _ => h
  | 20, _, _, _, h, _ => h
  | 21, _, _, _, h, _ => h
  | 22, _, _, _, h, _ => h
  | 23, _, _, _, h, _ => h
  | 24, _, _, _, h, _ => h
  | 25, _, _, _, h, hk => by obtain ⟨g, h1, h2, h3⟩ := h; exact ⟨g, h1, h2, h3.keep hk⟩
  | 26, _, _, _, h, hk => by obtain ⟨g, h1, h2, h3⟩ := h; exact ⟨g, h1, h2, h3.keep hk⟩
  | 27, _, _, _, h, hk => by obtain ⟨g, h1, h2, h3⟩ := h; exact ⟨g, h1, h2, h3.keep hk⟩
  | 28, _, _, _, h, hk => by obtain ⟨g, h1, h2, h3⟩ := h; exact ⟨g, h1, h2, h3.keep hk⟩
  | 29, _, _, _, h, _ => h
  | 30, _, _, _, h, _ => h
  | 31, _, _, _, h, _ => h
  | 32, _, _, _, h, hk => by obtain ⟨g, h1, h2, h3⟩ := h; exact ⟨g, h1, h2, h3.keep hk⟩
  | 33, _, _, _, h, hk => by obtain ⟨g, h1, h2, h3⟩ := h; exact ⟨g, h1, h2, h3.keep hk⟩
  | 34, _, _, _, h, hk => by obtain ⟨g, h1, h2, h3⟩ := h; exact ⟨g, h1, h2, h3.keep hk⟩
  | 35, _, _, _, h, hk => by obtain ⟨g, h1, h2, h3⟩ := h; exact ⟨g, h1, h2, h3.keep hk⟩
  | 36, _, _, _, h, _ => h
  | 37, _, _, _, h, _ => h
  | 38, _, _, _, h, _ => h
  | 39, _, _, _, h, _ => h
  | 40, _, _, _, h, _ => h
  | 41, _, _, _, h, _ => h
  | 42, _, _, _, h, _ => h
  | 43, _, _, _, h, _ => h
  | 44, _, _, _, h, _ => h
  | _ + 45, _, _, _, _, _ => trivial
theorem keqs_ab {a b : St} (h : (sByte a 0 == sByte b 0) = false) : keqs a b = false := by
  unfold keqs
  rw [show List.range 32 = 0 :: (List.range 31).map (· + 1) from rfl, List.all_cons, h]
  rfl
theorem run_indexTag {A : Array Value} {v : Value} (hv : A[0]? = some v) (w : World) : (Instr.index 36 (.agg A) (.int .i64 0)).run Tryd.prog w = .ok v w := by
  have hu := Tryd.underlying36
  have hi : (Tryd.prog.info? 5).map (fun i => (i.zero, i.size, i.bytes)) = some (some (.int .u8 0), 1, 1) := by kernel_rfl
  obtain ⟨i0, hi, hz0, hz1, hz2⟩ := info_parts hi
  have hu8 := Tryd.underlying5
  simp [Instr.index, asIntOf, run_underlying hu, sizeOf, typeInfo, hi, hz1, part, isAgg, run_underlying hu8, hv, Sem.run_bind]
set_option maxHeartbeats 2000000 in
set_option maxRecDepth 100000 in
theorem alive_c (w : World) (hT : Tabs w) : Calls Tryd.prog 9 #[] w fun e w' => e = .returned (.bool true) ∧ Below w.heap.size w w' := by
  have HT := Lib.hid hT
  obtain ⟨M, eM⟩ : ∃ y, y = mac jefe wdyw := ⟨_, rfl⟩
  obtain ⟨Da, eDa⟩ : ∃ y, y = drv (keyN M) (purp ++ strB ⟨#[97]⟩) := ⟨_, rfl⟩
  obtain ⟨Db, eDb⟩ : ∃ y, y = drv (keyN M) (purp ++ strB ⟨#[98]⟩) := ⟨_, rfl⟩
  have hab : keqs Da Db = false := keqs_ab (by rw [eDa, eDb, eM]; exact jefe_ab)
  have hM0 : sByte M 0 = 91 := by rw [eM]; exact jefe_mac.1
  have hM31 : sByte M 31 = 67 := by rw [eM]; exact jefe_mac.2
  have EM := Lib.hid eM
  have HDa := Lib.hid (fun (W : World) (hW : Tabs W) => by
    have := derive_c (keyN M) ⟨#[97]⟩ W hW (keyN_length M) (keyN_bts M) (by decide)
    rw [← keA_bys, ← eDa] at this; exact this)
  have HDb := Lib.hid (fun (W : World) (hW : Tabs W) => by
    have := derive_c (keyN M) ⟨#[98]⟩ W hW (keyN_length M) (keyN_bts M) (by decide)
    rw [← keA_bys, ← eDb] at this; exact this)
  have HSh := Lib.hid (fun (W : World) => by
    have := short_c (keyN M) (keyN_length M) W
    rw [← keA_bys] at this; exact this)
  have hix := run_indexTag (A := bysA ((keyN M).take 16)) (v := .int .u8 91) (by
    rw [bysA_get _ 0 (by rw [List.length_take, keyN_length]; decide)]
    have : ((keyN M).take 16).getD 0 0 = 91 := by
      have h := keyN_get M 0 (by decide)
      rw [hM0] at h
      simpa [List.getD] using h
    rw [this]; rfl)
  have Hix := Lib.hid hix
  have hr0 := run_conv (w.alloc (.cells (bysA jefe) 5 ((bysA jefe).size, (bysA jefe).size + 1))) (bysA wdyw) 28 28
  rw [World.size_alloc] at hr0
  clear hT eM eDa eDb hix
  go_enter Tryd.func9, Tryd.ntmps9
  go_wp2_with fail
  generalize hW : World.alloc _ _ = W0
  have J0 := Lib.hid (show BytesAt W0 w.heap.size 0 jefe by rw [← hW]; exact (bytes_new w jefe _ _).grow (below_alloc (Below.refl _ _) _))
  have Y0 := Lib.hid (show BytesAt W0 (w.heap.size + 1) 0 wdyw by
    rw [← hW]
    have := bytes_new (w.alloc (.cells (bysA jefe) 5 ((bysA jefe).size, (bysA jefe).size + 1))) wdyw 5 ((bysA wdyw).size, (bysA wdyw).size + 1)
    rw [World.size_alloc] at this; exact this)
  have B0 := Lib.hid (show Below w.heap.size w W0 by rw [← hW]; repeat (first | apply below_alloc | exact Below.refl _ _))
  clear hW hr0
  generalize w.heap.size + 1 = y at *
  refine (mac_c 4 28 (some ⟨w.heap.size, 0, none⟩) (some ⟨y, 0, none⟩) jefe wdyw W0 (HT.out.grow B0.out) (by decide) jefe_bts (Bs0.some J0.out) (by decide) (by decide) wdyw_bts (Bs0.some Y0.out) (fun h => by cases h)).mono ?_
  rintro e W1 ⟨rfl, hb1⟩
  rw [← EM.out]
  have B1 := Lib.hid (B0.out.trans (hb1.mono B0.out.size))
  clear hb1 J0 Y0
  go_wp2_with fail
  generalize hW : World.alloc _ _ = W2
  have X2 := Lib.hid (show RowAt W2 W1.heap.size (keA M) by rw [← hW]; exact RowAt.of (block_new W1 _))
  have B2 := Lib.hid (show Below w.heap.size w W2 by rw [← hW]; exact below_alloc B1.out _)
  clear hW
  generalize W1.heap.size = x at *
  obtain ⟨r1, r2, r3⟩ := X2.out
  have HE := expand_c 0 40 none (keyN M) [] W2 (HT.out.grow B2.out) (keyN_length M) (keyN_bts M) (by decide) bts_0 (.inl rfl) (fun _ => rfl) (by decide)
  rw [← keA_bys] at HE
  have HE := Lib.hid HE
  go_wp2_with fail
  refine HE.out.mono ?_
  rintro e W3 ⟨p, rfl, _, _, hb3⟩
  have X3 := Lib.hid (X2.out.grow hb3)
  have B3 := Lib.hid (B2.out.trans (hb3.mono B2.out.size))
  clear hb3 HE r1 r2 r3 X2
  go_wp2_with fail
  refine wp_region_grows W3 45 (Keeps W3) (alvR W3 x p M Da Db) [45] [0, 1, 2, 3, 4, 5, 6, 7, 8, 9, 10, 11, 12, 13, 14, 15, 16, 17, 18, 19, 20, 21, 22, 23, 24, 25, 26, 27, 28, 29, 30, 31, 32, 33, 34, 35, 36, 37, 38, 39, 40, 41, 42, 43, 44] [some 14, some 15, some 16, some 17, some 18, some 19, some 20, some 21, some 22, some 23, some 24, some 25, some 26, some 27, some 28, some 29, some 30, some 31, some 32, some 33, some 34, some 35, some 36, some 37, some 38, some 39, some 40, some 41, some 42, some 43, some 44, some 45, some 46, some 47, some 48, some 49, some 50, some 51, some 52, some 53, some 54, some 55, some 56, some 57, some 58] (by kernel_rfl) (by kernel_rfl) (by kernel_rfl) (by kernel_rfl) ((Below.refl _ _).drew) (fun w w' h hk => h.trans hk.1) (alvR_mono _ _ _ _ _ _) ?_
  intro vals
  simp only [List.take_succ_cons, List.take_zero]
  refine ⟨grow_val [] [] (by kernel_rfl) (by kernel_rfl) (fun K w1 hb hd hK => ?_), ?_⟩
  · simp only [putZ]
    refine ⟨(wanted_none rfl), ?_⟩
    go_simp
    exact hK _ _ _ (keeps_below hb (Below.refl _ _)) rfl
  refine ⟨grow_val [0] [some 14] (by kernel_rfl) (by kernel_rfl) (fun K w1 hb hd hK => ?_), ?_⟩
  · have d0 : vals 0 = .pointer (some ⟨x, 0, none⟩) := hd 0 (by simp)
    obtain ⟨r1, r2, r3⟩ := X3.out.grow hb
    have k0 := (X3.out.grow hb).cellAt 0 (keA_get M 0 (by decide))
    have k31 := (X3.out.grow hb).cellAt 31 (keA_get M 31 (by decide))
    rw [hM0] at k0
    rw [hM31] at k31
    simp only [List.map_cons, List.map_nil, putZ, d0]
    refine ⟨(wanted_none rfl), ?_⟩
    go_simp
    exact hK _ _ _ (keeps_below hb (Below.refl _ _)) rfl
  refine ⟨grow_val [1] [some 15] (by kernel_rfl) (by kernel_rfl) (fun K w1 hb hd hK => ?_), ?_⟩
  · have d1 : vals 1 = .int .u8 91 := hd 1 (by simp)
    simp only [List.map_cons, List.map_nil, putZ, d1]
    refine ⟨(wanted_none rfl), ?_⟩
    go_simp
    exact hK _ _ _ (keeps_below hb (Below.refl _ _)) rfl
  refine ⟨grow_val [2] [some 16] (by kernel_rfl) (by kernel_rfl) (fun K w1 hb hd hK => ?_), ?_⟩
  · have d2 : vals 2 = .bool true := hd 2 (by simp)
    simp only [List.map_cons, List.map_nil, putZ, d2]
    refine ⟨(wanted_none rfl), ?_⟩
    go_simp
    exact hK _ _ _ (keeps_below hb (Below.refl _ _)) rfl
  refine ⟨grow_val [3] [some 17] (by kernel_rfl) (by kernel_rfl) (fun K w1 hb hd hK => ?_), ?_⟩
  · have d3 : vals 3 = .bool true := hd 3 (by simp)
    simp only [List.map_cons, List.map_nil, putZ, d3]
    refine ⟨(wanted_some rfl rfl rfl), ?_⟩
    go_simp
    exact hK _ _ _ (keeps_below hb (Below.refl _ _)) rfl
  refine ⟨grow_val [3, 4] [some 17, some 18] (by kernel_rfl) (by kernel_rfl) (fun K w1 hb hd hK => ?_), ?_⟩
  · have d3 : vals 3 = .bool true := hd 3 (by simp)
    have d4 : vals 4 = .pointer (some ⟨x, 31, none⟩) := hd 4 (by simp)
    obtain ⟨r1, r2, r3⟩ := X3.out.grow hb
    have k0 := (X3.out.grow hb).cellAt 0 (keA_get M 0 (by decide))
    have k31 := (X3.out.grow hb).cellAt 31 (keA_get M 31 (by decide))
    rw [hM0] at k0
    rw [hM31] at k31
    simp only [List.map_cons, List.map_nil, putZ, d3, d4]
    refine ⟨(wanted_some rfl rfl rfl), ?_⟩
    go_simp
    exact hK _ _ _ (keeps_below hb (Below.refl _ _)) rfl
  refine ⟨grow_val [3, 5] [some 17, some 19] (by kernel_rfl) (by kernel_rfl) (fun K w1 hb hd hK => ?_), ?_⟩
  · have d3 : vals 3 = .bool true := hd 3 (by simp)
    have d5 : vals 5 = .int .u8 67 := hd 5 (by simp)
    simp only [List.map_cons, List.map_nil, putZ, d3, d5]
    refine ⟨(wanted_some rfl rfl rfl), ?_⟩
    go_simp
    exact hK _ _ _ (keeps_below hb (Below.refl _ _)) rfl
  refine ⟨grow_val [3, 6] [some 17, some 20] (by kernel_rfl) (by kernel_rfl) (fun K w1 hb hd hK => ?_), ?_⟩
  · have d3 : vals 3 = .bool true := hd 3 (by simp)
    have d6 : vals 6 = .bool true := hd 6 (by simp)
    simp only [List.map_cons, List.map_nil, putZ, d3, d6]
    refine ⟨(wanted_none rfl), ?_⟩
    go_simp
    exact hK _ _ _ (keeps_below hb (Below.refl _ _)) rfl
  refine ⟨grow_val [7] [some 21] (by kernel_rfl) (by kernel_rfl) (fun K w1 hb hd hK => ?_), ?_⟩
  · have d7 : vals 7 = .bool true := hd 7 (by simp)
    simp only [List.map_cons, List.map_nil, putZ, d7]
    refine ⟨(wanted_none rfl), ?_⟩
    go_simp
    exact hK _ _ _ (keeps_below hb (Below.refl _ _)) rfl
  refine ⟨grow_val [8] [some 22] (by kernel_rfl) (by kernel_rfl) (fun K w1 hb hd hK => ?_), ?_⟩
  · have d8 : vals 8 = .bool true := hd 8 (by simp)
    simp only [List.map_cons, List.map_nil, putZ, d8]
    refine ⟨(wanted_some rfl rfl rfl), ?_⟩
    go_simp
    exact hK _ _ _ (keeps_below hb (Below.refl _ _)) rfl
  refine ⟨grow_val [8, 9] [some 22, some 23] (by kernel_rfl) (by kernel_rfl) (fun K w1 hb hd hK => ?_), ?_⟩
  · have d8 : vals 8 = .bool true := hd 8 (by simp)
    have d9 : vals 9 = .int .i64 0 := hd 9 (by simp)
    simp only [List.map_cons, List.map_nil, putZ, d8, d9]
    refine ⟨(wanted_some rfl rfl rfl), ?_⟩
    go_simp
    exact hK _ _ _ (keeps_below hb (Below.refl _ _)) rfl
  refine ⟨grow_val [8, 10] [some 22, some 24] (by kernel_rfl) (by kernel_rfl) (fun K w1 hb hd hK => ?_), ?_⟩
  · have d8 : vals 8 = .bool true := hd 8 (by simp)
    have d10 : vals 10 = .bool true := hd 10 (by simp)
    simp only [List.map_cons, List.map_nil, putZ, d8, d10]
    refine ⟨(wanted_none rfl), ?_⟩
    go_simp
    exact hK _ _ _ (keeps_below hb (Below.refl _ _)) rfl
  refine ⟨grow_val [11] [some 25] (by kernel_rfl) (by kernel_rfl) (fun K w1 hb hd hK => ?_), ?_⟩
  · have d11 : vals 11 = .bool true := hd 11 (by simp)
    simp only [List.map_cons, List.map_nil, putZ, d11]
    refine ⟨(wanted_none rfl), ?_⟩
    go_simp
    exact hK _ _ _ (keeps_below hb (Below.refl _ _)) rfl
  refine ⟨grow_val [12] [some 26] (by kernel_rfl) (by kernel_rfl) (fun K w1 hb hd hK => ?_), ?_⟩
  · have d12 : vals 12 = .bool true := hd 12 (by simp)
    simp only [List.map_cons, List.map_nil, putZ, d12]
    refine ⟨(wanted_some rfl rfl rfl), ?_⟩
    go_simp
    exact hK _ _ _ (keeps_below hb (Below.refl _ _)) rfl
  refine ⟨grow_val [12, 13] [some 26, some 27] (by kernel_rfl) (by kernel_rfl) (fun K w1 hb hd hK => ?_), ?_⟩
  · have d12 : vals 12 = .bool true := hd 12 (by simp)
    have d13 : vals 13 = .slice p 40 40 := hd 13 (by simp)
    simp only [List.map_cons, List.map_nil, putZ, d12, d13]
    refine ⟨(wanted_some rfl rfl rfl), ?_⟩
    go_simp
    exact hK _ _ _ (keeps_below hb (Below.refl _ _)) rfl
  refine ⟨grow_val [12, 14] [some 26, some 28] (by kernel_rfl) (by kernel_rfl) (fun K w1 hb hd hK => ?_), ?_⟩
  · have d12 : vals 12 = .bool true := hd 12 (by simp)
    have d14 : vals 14 = .int .i64 40 := hd 14 (by simp)
    simp only [List.map_cons, List.map_nil, putZ, d12, d14]
    refine ⟨(wanted_some rfl rfl rfl), ?_⟩
    go_simp
    exact hK _ _ _ (keeps_below hb (Below.refl _ _)) rfl
  refine ⟨grow_val [12, 15] [some 26, some 29] (by kernel_rfl) (by kernel_rfl) (fun K w1 hb hd hK => ?_), ?_⟩
  · have d12 : vals 12 = .bool true := hd 12 (by simp)
    have d15 : vals 15 = .bool true := hd 15 (by simp)
    simp only [List.map_cons, List.map_nil, putZ, d12, d15]
    refine ⟨(wanted_none rfl), ?_⟩
    go_simp
    exact hK _ _ _ (keeps_below hb (Below.refl _ _)) rfl
  refine ⟨grow_val [16] [some 30] (by kernel_rfl) (by kernel_rfl) (fun K w1 hb hd hK => ?_), ?_⟩
  · have d16 : vals 16 = .bool true := hd 16 (by simp)
    simp only [List.map_cons, List.map_nil, putZ, d16]
    refine ⟨(wanted_none rfl), ?_⟩
    go_simp
    exact hK _ _ _ (keeps_below hb (Below.refl _ _)) rfl
  refine ⟨grow_val [17] [some 31] (by kernel_rfl) (by kernel_rfl) (fun K w1 hb hd hK => ?_), ?_⟩
  · have d17 : vals 17 = .bool true := hd 17 (by simp)
    obtain ⟨r1, r2, r3⟩ := X3.out.grow hb
    have k0 := (X3.out.grow hb).cellAt 0 (keA_get M 0 (by decide))
    have k31 := (X3.out.grow hb).cellAt 31 (keA_get M 31 (by decide))
    rw [hM0] at k0
    rw [hM31] at k31
    simp only [List.map_cons, List.map_nil, putZ, d17]
    refine ⟨(wanted_some rfl rfl rfl), ?_⟩
    go_simp
    exact hK _ _ _ (keeps_below hb (Below.refl _ _)) rfl
  refine ⟨grow_call [17, 18] [some 31, some 32] (by kernel_rfl) (by kernel_rfl) (fun K w1 hb hd hK => ?_), ?_⟩
  · have d17 : vals 17 = .bool true := hd 17 (by simp)
    have d18 : vals 18 = .agg (keA M) := hd 18 (by simp)
    simp only [List.map_cons, List.map_nil, putZ, d17, d18]
    refine ⟨(wanted_some rfl rfl rfl), ?_⟩
    go_simp
    refine (HDa.out w1 ((HT.out.grow B3.out).grow hb)).mono ?_
    rintro e w' ⟨rfl, hb'⟩
    exact ⟨_, rfl, hK _ _ (keeps_below hb hb') rfl⟩
  refine ⟨grow_val [17] [some 31] (by kernel_rfl) (by kernel_rfl) (fun K w1 hb hd hK => ?_), ?_⟩
  · have d17 : vals 17 = .bool true := hd 17 (by simp)
    obtain ⟨r1, r2, r3⟩ := X3.out.grow hb
    have k0 := (X3.out.grow hb).cellAt 0 (keA_get M 0 (by decide))
    have k31 := (X3.out.grow hb).cellAt 31 (keA_get M 31 (by decide))
    rw [hM0] at k0
    rw [hM31] at k31
    simp only [List.map_cons, List.map_nil, putZ, d17]
    refine ⟨(wanted_some rfl rfl rfl), ?_⟩
    go_simp
    exact hK _ _ _ (keeps_below hb (Below.refl _ _)) rfl
  refine ⟨grow_call [17, 20] [some 31, some 34] (by kernel_rfl) (by kernel_rfl) (fun K w1 hb hd hK => ?_), ?_⟩
  · have d17 : vals 17 = .bool true := hd 17 (by simp)
    have d20 : vals 20 = .agg (keA M) := hd 20 (by simp)
    simp only [List.map_cons, List.map_nil, putZ, d17, d20]
    refine ⟨(wanted_some rfl rfl rfl), ?_⟩
    go_simp
    refine (HDb.out w1 ((HT.out.grow B3.out).grow hb)).mono ?_
    rintro e w' ⟨rfl, hb'⟩
    exact ⟨_, rfl, hK _ _ (keeps_below hb hb') rfl⟩
  refine ⟨grow_val [17, 19, 21] [some 31, some 33, some 35] (by kernel_rfl) (by kernel_rfl) (fun K w1 hb hd hK => ?_), ?_⟩
  · have d17 : vals 17 = .bool true := hd 17 (by simp)
    have d19 : vals 19 = .agg (keA Da) := hd 19 (by simp)
    have d21 : vals 21 = .agg (keA Db) := hd 21 (by simp)
    simp only [List.map_cons, List.map_nil, putZ, d17, d19, d21]
    refine ⟨(wanted_some rfl rfl rfl), ?_⟩
    go_simp
    exact hK _ _ _ (keeps_below hb (Below.refl _ _)) rfl
  refine ⟨grow_val [17, 22] [some 31, some 36] (by kernel_rfl) (by kernel_rfl) (fun K w1 hb hd hK => ?_), ?_⟩
  · have d17 : vals 17 = .bool true := hd 17 (by simp)
    have d22 : vals 22 = .bool true := hd 22 (by simp)
    simp only [List.map_cons, List.map_nil, putZ, d17, d22]
    refine ⟨(wanted_none rfl), ?_⟩
    go_simp
    exact hK _ _ _ (keeps_below hb (Below.refl _ _)) rfl
  refine ⟨grow_val [23] [some 37] (by kernel_rfl) (by kernel_rfl) (fun K w1 hb hd hK => ?_), ?_⟩
  · have d23 : vals 23 = .bool true := hd 23 (by simp)
    simp only [List.map_cons, List.map_nil, putZ, d23]
    refine ⟨(wanted_none rfl), ?_⟩
    go_simp
    exact hK _ _ _ (keeps_below hb (Below.refl _ _)) rfl
  refine ⟨grow_val [24] [some 38] (by kernel_rfl) (by kernel_rfl) (fun K w1 hb hd hK => ?_), ?_⟩
  · have d24 : vals 24 = .bool true := hd 24 (by simp)
    simp only [List.map_cons, List.map_nil, putZ, d24]
    refine ⟨(wanted_some rfl rfl rfl), ?_⟩
    go_simp
    exact hK _ _ _ (keeps_below hb (below_alloc (Below.refl _ _) _)) ⟨_, rfl, hb.size, _, block_new w1 _⟩
  refine ⟨grow_val [24, 25] [some 38, some 39] (by kernel_rfl) (by kernel_rfl) (fun K w1 hb hd hK => ?_), ?_⟩
  · have d24 : vals 24 = .bool true := hd 24 (by simp)
    obtain ⟨g25, d25, h25, c25⟩ : ∃ g, vals 25 = .slice (some ⟨g, 0, none⟩) 2 2 ∧ W3.heap.size ≤ g ∧ CellsAt w1 g [97, 98] := hd 25 (by simp)
    obtain ⟨w2, hr, hk⟩ := run_cvBB (n := 2) (c := 2) h25 c25
    simp only [List.map_cons, List.map_nil, putZ, d24, d25]
    refine ⟨(wanted_some rfl rfl rfl), ?_⟩
    go_simp
    exact hK _ _ _ hk ⟨g25, rfl, h25, c25.keep hk⟩
  refine ⟨grow_val [24] [some 38] (by kernel_rfl) (by kernel_rfl) (fun K w1 hb hd hK => ?_), ?_⟩
  · have d24 : vals 24 = .bool true := hd 24 (by simp)
    simp only [List.map_cons, List.map_nil, putZ, d24]
    refine ⟨(wanted_some rfl rfl rfl), ?_⟩
    go_simp
    exact hK _ _ _ (keeps_below hb (below_alloc (Below.refl _ _) _)) ⟨_, rfl, hb.size, _, block_new w1 _⟩
  refine ⟨grow_val [24, 27] [some 38, some 41] (by kernel_rfl) (by kernel_rfl) (fun K w1 hb hd hK => ?_), ?_⟩
  · have d24 : vals 24 = .bool true := hd 24 (by simp)
    obtain ⟨g27, d27, h27, c27⟩ : ∃ g, vals 27 = .slice (some ⟨g, 0, none⟩) 2 2 ∧ W3.heap.size ≤ g ∧ CellsAt w1 g [97, 98] := hd 27 (by simp)
    obtain ⟨w2, hr, hk⟩ := run_cvBB (n := 2) (c := 2) h27 c27
    simp only [List.map_cons, List.map_nil, putZ, d24, d27]
    refine ⟨(wanted_some rfl rfl rfl), ?_⟩
    go_simp
    exact hK _ _ _ hk ⟨g27, rfl, h27, c27.keep hk⟩
  refine ⟨grow_call [24, 26, 28] [some 38, some 40, some 42] (by kernel_rfl) (by kernel_rfl) (fun K w1 hb hd hK => ?_), ?_⟩
  · have d24 : vals 24 = .bool true := hd 24 (by simp)
    obtain ⟨g26, d26, h26, c26⟩ : ∃ g, vals 26 = .slice (some ⟨g, 0, none⟩) 2 2 ∧ W3.heap.size ≤ g ∧ CellsAt w1 g [97, 98] := hd 26 (by simp)
    obtain ⟨g28, d28, h28, c28⟩ : ∃ g, vals 28 = .slice (some ⟨g, 0, none⟩) 2 2 ∧ W3.heap.size ≤ g ∧ CellsAt w1 g [97, 98] := hd 28 (by simp)
    simp only [List.map_cons, List.map_nil, putZ, d24, d26, d28]
    refine ⟨(wanted_some rfl rfl rfl), ?_⟩
    go_simp
    refine (equal_c 2 2 (some ⟨g26, 0, none⟩) (some ⟨g28, 0, none⟩) [97, 98] [97, 98] w1 (by decide) (bts_2 _ _ (by decide) (by decide)) (Bs0.some c26.bytes) (bts_2 _ _ (by decide) (by decide)) (Bs0.some c28.bytes)).mono ?_
    rintro e w' ⟨rfl, hb'⟩
    exact ⟨_, rfl, hK _ _ (keeps_below hb hb') rfl⟩
  refine ⟨grow_val [24, 29] [some 38, some 43] (by kernel_rfl) (by kernel_rfl) (fun K w1 hb hd hK => ?_), ?_⟩
  · have d24 : vals 24 = .bool true := hd 24 (by simp)
    have d29 : vals 29 = .bool true := hd 29 (by simp)
    simp only [List.map_cons, List.map_nil, putZ, d24, d29]
    refine ⟨(wanted_none rfl), ?_⟩
    go_simp
    exact hK _ _ _ (keeps_below hb (Below.refl _ _)) rfl
  refine ⟨grow_val [30] [some 44] (by kernel_rfl) (by kernel_rfl) (fun K w1 hb hd hK => ?_), ?_⟩
  · have d30 : vals 30 = .bool true := hd 30 (by simp)
    simp only [List.map_cons, List.map_nil, putZ, d30]
    refine ⟨(wanted_none rfl), ?_⟩
    go_simp
    exact hK _ _ _ (keeps_below hb (Below.refl _ _)) rfl
  refine ⟨grow_val [31] [some 45] (by kernel_rfl) (by kernel_rfl) (fun K w1 hb hd hK => ?_), ?_⟩
  · have d31 : vals 31 = .bool true := hd 31 (by simp)
    simp only [List.map_cons, List.map_nil, putZ, d31]
    refine ⟨(wanted_some rfl rfl rfl), ?_⟩
    go_simp
    exact hK _ _ _ (keeps_below hb (below_alloc (Below.refl _ _) _)) ⟨_, rfl, hb.size, _, block_new w1 _⟩
  refine ⟨grow_val [31, 32] [some 45, some 46] (by kernel_rfl) (by kernel_rfl) (fun K w1 hb hd hK => ?_), ?_⟩
  · have d31 : vals 31 = .bool true := hd 31 (by simp)
    obtain ⟨g32, d32, h32, c32⟩ : ∃ g, vals 32 = .slice (some ⟨g, 0, none⟩) 2 2 ∧ W3.heap.size ≤ g ∧ CellsAt w1 g [97, 98] := hd 32 (by simp)
    obtain ⟨w2, hr, hk⟩ := run_cvBB (n := 2) (c := 2) h32 c32
    simp only [List.map_cons, List.map_nil, putZ, d31, d32]
    refine ⟨(wanted_some rfl rfl rfl), ?_⟩
    go_simp
    exact hK _ _ _ hk ⟨g32, rfl, h32, c32.keep hk⟩
  refine ⟨grow_val [31] [some 45] (by kernel_rfl) (by kernel_rfl) (fun K w1 hb hd hK => ?_), ?_⟩
  · have d31 : vals 31 = .bool true := hd 31 (by simp)
    simp only [List.map_cons, List.map_nil, putZ, d31]
    refine ⟨(wanted_some rfl rfl rfl), ?_⟩
    go_simp
    exact hK _ _ _ (keeps_below hb (below_alloc (Below.refl _ _) _)) ⟨_, rfl, hb.size, _, block_new w1 _⟩
  refine ⟨grow_val [31, 34] [some 45, some 48] (by kernel_rfl) (by kernel_rfl) (fun K w1 hb hd hK => ?_), ?_⟩
  · have d31 : vals 31 = .bool true := hd 31 (by simp)
    obtain ⟨g34, d34, h34, c34⟩ : ∃ g, vals 34 = .slice (some ⟨g, 0, none⟩) 2 2 ∧ W3.heap.size ≤ g ∧ CellsAt w1 g [97, 97] := hd 34 (by simp)
    obtain ⟨w2, hr, hk⟩ := run_cvBB (n := 2) (c := 2) h34 c34
    simp only [List.map_cons, List.map_nil, putZ, d31, d34]
    refine ⟨(wanted_some rfl rfl rfl), ?_⟩
    go_simp
    exact hK _ _ _ hk ⟨g34, rfl, h34, c34.keep hk⟩
  refine ⟨grow_call [31, 33, 35] [some 45, some 47, some 49] (by kernel_rfl) (by kernel_rfl) (fun K w1 hb hd hK => ?_), ?_⟩
  · have d31 : vals 31 = .bool true := hd 31 (by simp)
    obtain ⟨g33, d33, h33, c33⟩ : ∃ g, vals 33 = .slice (some ⟨g, 0, none⟩) 2 2 ∧ W3.heap.size ≤ g ∧ CellsAt w1 g [97, 98] := hd 33 (by simp)
    obtain ⟨g35, d35, h35, c35⟩ : ∃ g, vals 35 = .slice (some ⟨g, 0, none⟩) 2 2 ∧ W3.heap.size ≤ g ∧ CellsAt w1 g [97, 97] := hd 35 (by simp)
    simp only [List.map_cons, List.map_nil, putZ, d31, d33, d35]
    refine ⟨(wanted_some rfl rfl rfl), ?_⟩
    go_simp
    refine (equal_c 2 2 (some ⟨g33, 0, none⟩) (some ⟨g35, 0, none⟩) [97, 98] [97, 97] w1 (by decide) (bts_2 _ _ (by decide) (by decide)) (Bs0.some c33.bytes) (bts_2 _ _ (by decide) (by decide)) (Bs0.some c35.bytes)).mono ?_
    rintro e w' ⟨rfl, hb'⟩
    exact ⟨_, rfl, hK _ _ (keeps_below hb hb') rfl⟩
  refine ⟨grow_val [31, 36] [some 45, some 50] (by kernel_rfl) (by kernel_rfl) (fun K w1 hb hd hK => ?_), ?_⟩
  · have d31 : vals 31 = .bool true := hd 31 (by simp)
    have d36 : vals 36 = .bool false := hd 36 (by simp)
    simp only [List.map_cons, List.map_nil, putZ, d31, d36]
    refine ⟨(wanted_some rfl rfl rfl), ?_⟩
    go_simp
    exact hK _ _ _ (keeps_below hb (Below.refl _ _)) rfl
  refine ⟨grow_val [31, 37] [some 45, some 51] (by kernel_rfl) (by kernel_rfl) (fun K w1 hb hd hK => ?_), ?_⟩
  · have d31 : vals 31 = .bool true := hd 31 (by simp)
    have d37 : vals 37 = .bool true := hd 37 (by simp)
    simp only [List.map_cons, List.map_nil, putZ, d31, d37]
    refine ⟨(wanted_none rfl), ?_⟩
    go_simp
    exact hK _ _ _ (keeps_below hb (Below.refl _ _)) rfl
  refine ⟨grow_val [38] [some 52] (by kernel_rfl) (by kernel_rfl) (fun K w1 hb hd hK => ?_), ?_⟩
  · have d38 : vals 38 = .bool true := hd 38 (by simp)
    simp only [List.map_cons, List.map_nil, putZ, d38]
    refine ⟨(wanted_none rfl), ?_⟩
    go_simp
    exact hK _ _ _ (keeps_below hb (Below.refl _ _)) rfl
  refine ⟨grow_val [39] [some 53] (by kernel_rfl) (by kernel_rfl) (fun K w1 hb hd hK => ?_), ?_⟩
  · have d39 : vals 39 = .bool true := hd 39 (by simp)
    obtain ⟨r1, r2, r3⟩ := X3.out.grow hb
    have k0 := (X3.out.grow hb).cellAt 0 (keA_get M 0 (by decide))
    have k31 := (X3.out.grow hb).cellAt 31 (keA_get M 31 (by decide))
    rw [hM0] at k0
    rw [hM31] at k31
    simp only [List.map_cons, List.map_nil, putZ, d39]
    refine ⟨(wanted_some rfl rfl rfl), ?_⟩
    go_simp
    exact hK _ _ _ (keeps_below hb (Below.refl _ _)) rfl
  refine ⟨grow_call [39, 40] [some 53, some 54] (by kernel_rfl) (by kernel_rfl) (fun K w1 hb hd hK => ?_), ?_⟩
  · have d39 : vals 39 = .bool true := hd 39 (by simp)
    have d40 : vals 40 = .agg (keA M) := hd 40 (by simp)
    simp only [List.map_cons, List.map_nil, putZ, d39, d40]
    refine ⟨(wanted_some rfl rfl rfl), ?_⟩
    go_simp
    refine (HSh.out w1).mono ?_
    rintro e w' ⟨rfl, hb'⟩
    exact ⟨_, rfl, hK _ _ (keeps_below hb hb') rfl⟩
  refine ⟨grow_val [39, 41] [some 53, some 55] (by kernel_rfl) (by kernel_rfl) (fun K w1 hb hd hK => ?_), ?_⟩
  · have d39 : vals 39 = .bool true := hd 39 (by simp)
    have d41 : vals 41 = .agg (bysA ((keyN M).take 16)) := hd 41 (by simp)
    have hix := Hix.out
    simp only [List.map_cons, List.map_nil, putZ, d39, d41]
    refine ⟨(wanted_some rfl rfl rfl), ?_⟩
    go_simp
    exact hK _ _ _ (keeps_below hb (Below.refl _ _)) rfl
  refine ⟨grow_val [39, 42] [some 53, some 56] (by kernel_rfl) (by kernel_rfl) (fun K w1 hb hd hK => ?_), ?_⟩
  · have d39 : vals 39 = .bool true := hd 39 (by simp)
    have d42 : vals 42 = .int .u8 91 := hd 42 (by simp)
    simp only [List.map_cons, List.map_nil, putZ, d39, d42]
    refine ⟨(wanted_some rfl rfl rfl), ?_⟩
    go_simp
    exact hK _ _ _ (keeps_below hb (Below.refl _ _)) rfl
  refine ⟨grow_val [39, 43] [some 53, some 57] (by kernel_rfl) (by kernel_rfl) (fun K w1 hb hd hK => ?_), ?_⟩
  · have d39 : vals 39 = .bool true := hd 39 (by simp)
    have d43 : vals 43 = .bool true := hd 43 (by simp)
    simp only [List.map_cons, List.map_nil, putZ, d39, d43]
    refine ⟨(wanted_none rfl), ?_⟩
    go_simp
    exact hK _ _ _ (keeps_below hb (Below.refl _ _)) rfl
  intro W4 hb4 hd
  have d44 : vals 44 = .bool true := hd 44 (by simp)
  clear hd
  have B4 := Lib.hid (B3.out.trans (hb4.mono B3.out.size))
  simp only [List.map_cons, List.map_nil, putZ, d44, pick, List.getElem?_cons_succ, List.getElem?_cons_zero]
  clear d44 hb4
  generalize vals 0 = v0
  generalize vals 1 = v1
  generalize vals 2 = v2
  generalize vals 3 = v3
  generalize vals 4 = v4
  generalize vals 5 = v5
  generalize vals 6 = v6
  generalize vals 7 = v7
  generalize vals 8 = v8
  generalize vals 9 = v9
  generalize vals 10 = v10
  generalize vals 11 = v11
  generalize vals 12 = v12
  generalize vals 13 = v13
  generalize vals 14 = v14
  generalize vals 15 = v15
  generalize vals 16 = v16
  generalize vals 17 = v17
  generalize vals 18 = v18
  generalize vals 19 = v19
  generalize vals 20 = v20
  generalize vals 21 = v21
  generalize vals 22 = v22
  generalize vals 23 = v23
  generalize vals 24 = v24
  generalize vals 25 = v25
  generalize vals 26 = v26
  generalize vals 27 = v27
  generalize vals 28 = v28
  generalize vals 29 = v29
  generalize vals 30 = v30
  generalize vals 31 = v31
  generalize vals 32 = v32
  generalize vals 33 = v33
  generalize vals 34 = v34
  generalize vals 35 = v35
  generalize vals 36 = v36
  generalize vals 37 = v37
  generalize vals 38 = v38
  generalize vals 39 = v39
  generalize vals 40 = v40
  generalize vals 41 = v41
  generalize vals 42 = v42
  generalize vals 43 = v43
  go_wp2_with fail
  go_ret
  exact ⟨rfl, B4.out⟩
end Go.Proofs.YtikpglemnnbdcaaDoor
