/-
  The reference of layer 5: a word that is turned, a word out of bytes, a quarter.
-/
import Derived.Test.YtcaleepbnjlbpaaChaWords
import Derived.Test.YtcaleepbnjlbpaaSlicesW
import Derived.Test.YtcaleepbnjlbpaaPickT
namespace Go.Proofs.Ytcaleepbnjlbpaa
open Go.RowKit Go.Hold Go.Sh Go.Ch

set_option maxHeartbeats 400000 in
theorem left_c (x : Int) (n k : Nat) (hk : n + k = 32) (w : World) : Calls Try.prog 25 #[.int .u32 x, .int .i64 (n : Int)] w fun e w' => e = .returned (.int .u32 (rl x n)) ∧ w' = w := by
  have hs : IntKind.i64.wrap (32 - (n : Int)) = (k : Int) := by rw [IntWalk.i64_in _ (by omega)]; omega
  have hw : IntKind.u64.wrap (n : Int) = (n : Int) := IntWalk.u64_in _ (by omega)
  have hv : IntKind.u64.wrap (k : Int) = (k : Int) := IntWalk.u64_in _ (by omega)
  have h1 : (0 : Int) ≤ (k : Int) := by omega
  have h2 : (k : Int) ≤ 32 := by omega
  have h3 : (0 : Int) ≤ (n : Int) := by omega
  have h4 : (n : Int) ≤ 32 := by omega
  have hr := rl_eq x n k hk
  go_enter Try.func25, Try.ntmps25
  go_wp2_with fail
  go_ret
  exact ⟨rfl, rfl⟩
theorem left_16 (x : Int) (w : World) : Calls Try.prog 25 #[.int .u32 x, .int .i64 16] w fun e w' => e = .returned (.int .u32 (rl x 16)) ∧ w' = w := left_c x 16 16 rfl w
theorem left_12 (x : Int) (w : World) : Calls Try.prog 25 #[.int .u32 x, .int .i64 12] w fun e w' => e = .returned (.int .u32 (rl x 12)) ∧ w' = w := left_c x 12 20 rfl w
theorem left_8 (x : Int) (w : World) : Calls Try.prog 25 #[.int .u32 x, .int .i64 8] w fun e w' => e = .returned (.int .u32 (rl x 8)) ∧ w' = w := left_c x 8 24 rfl w
theorem left_7 (x : Int) (w : World) : Calls Try.prog 25 #[.int .u32 x, .int .i64 7] w fun e w' => e = .returned (.int .u32 (rl x 7)) ∧ w' = w := left_c x 7 25 rfl w

/-! ### A word out of bytes -/
theorem packL (x0 x1 x2 x3 : Nat) (h0 : x0 < 256) (h1 : x1 < 256) (h2 : x2 < 256) (h3 : x3 < 256) :
    o32 (o32 (o32 (x0 : Int) ((x1 : Int) * 256 % 4294967296)) ((x2 : Int) * 65536 % 4294967296)) ((x3 : Int) * 16777216 % 4294967296) = ((x0 + x1 * 256 + x2 * 65536 + x3 * 16777216 : Nat) : Int) := by
  have e1 := byte_on x0 x1 1 (by simpa using h0) h1 (by decide)
  have e2 := byte_on (x0 + x1 * 256) x2 2 (by omega) h2 (by decide)
  have e3 := byte_on (x0 + x1 * 256 + x2 * 65536) x3 3 (by omega) h3 (by decide)
  have p1 : (2 : Int) ^ (1 * 8) = 256 := by decide
  have p2 : (2 : Int) ^ (2 * 8) = 65536 := by decide
  have p3 : (2 : Int) ^ (3 * 8) = 16777216 := by decide
  rw [p1] at e1
  rw [p2] at e2
  rw [p3] at e3
  rw [e1]
  simp only [Nat.pow_one] at *
  rw [e2]
  rw [show (256 : Nat) ^ 2 = 65536 by decide]
  rw [e3]
set_option maxHeartbeats 1000000 in
set_option maxRecDepth 100000 in
theorem word_c (g cap x0 x1 x2 x3 : Nat) (h0 : x0 < 256) (h1 : x1 < 256) (h2 : x2 < 256) (h3 : x3 < 256) (w : World) (hB : BytesAt w g 0 [x0, x1, x2, x3]) :
    Calls Try.prog 24 #[.slice (some ⟨g, 0, none⟩) 4 cap] w fun e w' => e = .returned (.int .u32 ((x0 + x1 * 256 + x2 * 65536 + x3 * 16777216 : Nat) : Int)) ∧ Below w.heap.size w w' := by
  have hc0 : w.cell? ⟨g, 0, none⟩ = some (.int .u8 (x0 : Int)) := hB.2 0 (show 0 < 4 by decide)
  have hc1 : w.cell? ⟨g, 1, none⟩ = some (.int .u8 (x1 : Int)) := hB.2 1 (show 1 < 4 by decide)
  have hc2 : w.cell? ⟨g, 2, none⟩ = some (.int .u8 (x2 : Int)) := hB.2 2 (show 2 < 4 by decide)
  have hc3 : w.cell? ⟨g, 3, none⟩ = some (.int .u8 (x3 : Int)) := hB.2 3 (show 3 < 4 by decide)
  have hgl := hB.1
  have hp := packL x0 x1 x2 x3 h0 h1 h2 h3
  have hm0 : IntKind.u32.wrap (x0 : Int) = (x0 : Int) := IntWalk.u32_in _ (by omega)
  have hm1 : IntKind.u32.wrap (x1 : Int) = (x1 : Int) := IntWalk.u32_in _ (by omega)
  have hm2 : IntKind.u32.wrap (x2 : Int) = (x2 : Int) := IntWalk.u32_in _ (by omega)
  have hm3 : IntKind.u32.wrap (x3 : Int) = (x3 : Int) := IntWalk.u32_in _ (by omega)
  obtain ⟨y1, ey1⟩ : ∃ y, y = (x1 : Int) * 256 % 4294967296 := ⟨_, rfl⟩
  have hy1 : IntKind.u32.wrap ((x1 : Int) * 256) = y1 := by rw [IntKind.wrap_u32, ey1]
  obtain ⟨y2, ey2⟩ : ∃ y, y = (x2 : Int) * 65536 % 4294967296 := ⟨_, rfl⟩
  have hy2 : IntKind.u32.wrap ((x2 : Int) * 65536) = y2 := by rw [IntKind.wrap_u32, ey2]
  obtain ⟨y3, ey3⟩ : ∃ y, y = (x3 : Int) * 16777216 % 4294967296 := ⟨_, rfl⟩
  have hy3 : IntKind.u32.wrap ((x3 : Int) * 16777216) = y3 := by rw [IntKind.wrap_u32, ey3]
  rw [← ey1, ← ey2, ← ey3] at hp
  generalize ((x0 + x1 * 256 + x2 * 65536 + x3 * 16777216 : Nat) : Int) = x at *
  clear ey1 ey2 ey3 hB h0 h1 h2 h3
  go_enter Try.func24, Try.ntmps24
  go_wp2_with fail
  refine wp_region_fast (fun w' => ∃ o d, w' = w.plus o d) (by kernel_rfl) (by kernel_rfl) ⟨#[], _, rfl⟩ ?_
  iterate 23 (refine wpHold_val ⟨_, #[], 0, rfl⟩ (wanted_none rfl) (by rintro K _ ⟨o, d, rfl⟩ hK; go_simp; exact hK _ ⟨o, d, rfl⟩) ?_)
  refine wpHold_nil ?_
  rintro _ ⟨o1, n1, rfl⟩
  go_wp2_with fail
  go_ret
  exact ⟨rfl, below_more (Below.refl _ _) _ _⟩

/-! ### A quarter -/
theorem quartW_eq (s : List Int) (i j k l : Nat) : quart s i j k l = (((s.set i (qr (s.getD i 0) (s.getD j 0) (s.getD k 0) (s.getD l 0)).a).set j (qr (s.getD i 0) (s.getD j 0) (s.getD k 0) (s.getD l 0)).b).set k (qr (s.getD i 0) (s.getD j 0) (s.getD k 0) (s.getD l 0)).c).set l (qr (s.getD i 0) (s.getD j 0) (s.getD k 0) (s.getD l 0)).d := rfl
set_option maxHeartbeats 1000000 in
set_option maxRecDepth 100000 in
theorem rquarter_c (g cap i j k l : Nat) (s : List Int) (w : World) (hs : s.length = 16) (hi : i < j) (hj : j < k) (hk : k < l) (hl : l < 16) (h : WordsAt w g s) :
    Calls Try.prog 19 #[.slice (some ⟨g, 0, none⟩) 16 cap, .int .i64 (i : Int), .int .i64 (j : Int), .int .i64 (k : Int), .int .i64 (l : Int)] w fun e w' => ∃ g' c', e = .returned (.slice (some ⟨g', 0, none⟩) 16 c') ∧ WordsAt w' g' (quart s i j k l) ∧ Below w.heap.size w w' := by
  obtain ⟨ie, hie, hz0, hz1, hz2⟩ := info_parts info_u32
  have H := Lib.hid h
  have Hq := Lib.hid (quartW_eq s i j k l)
  have Hs := Lib.hid hs
  have hi0 : (0 : Int) ≤ (i : Int) := by omega
  have hi1 : (i : Int) < 16 := by omega
  have hj0 : (0 : Int) ≤ (j : Int) := by omega
  have hj1 : (j : Int) < 16 := by omega
  have hk0 : (0 : Int) ≤ (k : Int) := by omega
  have hk1 : (k : Int) < 16 := by omega
  have hl0 : (0 : Int) ≤ (l : Int) := by omega
  have hl1 : (l : Int) < 16 := by omega
  have hci := h.2 i (by omega)
  have hcj := h.2 j (by omega)
  have hck := h.2 k (by omega)
  have hcl := h.2 l (by omega)
  have hgl := h.1
  generalize s.getD i 0 = a0 at *
  generalize s.getD j 0 = b0 at *
  generalize s.getD k 0 = c0 at *
  generalize s.getD l 0 = d0 at *
  have n1 : ¬ i = j := by omega
  have n2 : ¬ i = k := by omega
  have n3 : ¬ i = l := by omega
  have n4 : ¬ j = k := by omega
  have n5 : ¬ j = l := by omega
  have n6 : ¬ k = l := by omega
  clear h hs
  go_enter Try.func19, Try.ntmps19
  go_wp2_with fail
  refine wp_region_fast (fun w' => ∃ o d, w' = w.plus o d) (by kernel_rfl) (by kernel_rfl) ⟨#[], _, rfl⟩ ?_
  iterate 20 (refine wpHold_val ⟨_, #[], 0, rfl⟩ (wanted_none rfl) (by rintro K _ ⟨o, d, rfl⟩ hK; go_simp; exact hK _ ⟨o, d, rfl⟩) ?_)
  refine wpHold_nil ?_
  rintro _ ⟨o1, n1, rfl⟩
  have B1 := Lib.hid (below_more (Below.refl w.heap.size w) o1 n1)
  have H1 := Lib.hid (H.out.grow B1.out)
  clear hci hcj hck hcl
  generalize w.plus o1 n1 = W1 at *
  go_wp2_with fail
  refine (left_16 _ _).mono ?_
  rintro e w' ⟨rfl, hwE⟩
  rw [hwE]
  clear hwE w'
  go_wp2_with fail
  refine (left_12 _ _).mono ?_
  rintro e w' ⟨rfl, hwE⟩
  rw [hwE]
  clear hwE w'
  go_wp2_with fail
  refine (left_8 _ _).mono ?_
  rintro e w' ⟨rfl, hwE⟩
  rw [hwE]
  clear hwE w'
  go_wp2_with fail
  refine (left_7 _ _).mono ?_
  rintro e w' ⟨rfl, hwE⟩
  rw [hwE]
  clear hwE w'
  have hsz1 := B1.out.size
  have BA := Lib.hid (below_alloc B1.out (.cells #[] 25))
  have HW := Lib.hid (H1.out.grow (below_alloc (Below.refl _ _) (.cells #[] 25)))
  obtain ⟨v3, w3, hr3, hO3, hgrow3⟩ := app_ownW (k := 16) (cap := cap) (ownW_empty W1 w.heap.size hsz1) HW.out Hs.out.symm (by simp; omega) (by rw [Hs.out]; decide)
  have B3 := Lib.hid (ownW_below BA.out (ownW_empty W1 w.heap.size hsz1) (by simp; omega) hgrow3)
  rw [List.nil_append] at hO3
  obtain ⟨g7, c7, ev7, hg7, hgl7, _⟩ := hO3.addr (k := 16) Hs.out (by decide)
  subst ev7
  have S7 := Lib.hid (hO3.slw hgl7)
  have hcw : ∀ x, x < 16 → w3.cell? ⟨g7, x, none⟩ = some (.int .u32 (s.getD x 0)) := fun x hx => S7.out.1.2 x (by rw [Hs.out]; exact hx)
  have hfw : ∀ x, x < 16 → w3.frozen? ⟨g7, x, none⟩ = false := fun x hx => S7.out.2 x (by rw [Hs.out]; exact hx)
  have hci := hcw i (by omega)
  have hcj := hcw j (by omega)
  have hck := hcw k (by omega)
  have hcl := hcw l (by omega)
  have hfi := hfw i (by omega)
  have hfj := hfw j (by omega)
  have hfk := hfw k (by omega)
  have hfl := hfw l (by omega)
  clear hcw hfw hO3 hgrow3 BA HW H1 B1 hsz1
  go_wp2_with (at_builtin; refine Lib.wpList_append_run _ rfl _ _ _ _ rfl _ _ rfl rfl _ _ hr3 ?_)
  go_wp2_with fail
  go_ret
  refine ⟨g7, c7, rfl, ?_, ?_⟩
  · have h4 := (((S7.out.set (i := i) (x := (qr a0 b0 c0 d0).a) (by rw [Hs.out]; omega)).set (i := j) (x := (qr a0 b0 c0 d0).b) (by rw [List.length_set, Hs.out]; omega)).set (i := k) (x := (qr a0 b0 c0 d0).c) (by rw [List.length_set, List.length_set, Hs.out]; omega)).set (i := l) (x := (qr a0 b0 c0 d0).d) (by rw [List.length_set, List.length_set, List.length_set, Hs.out]; omega)
    rw [← Hq.out] at h4
    exact h4.1
  · exact (((B3.out.setCell (p := ⟨_, _, none⟩) hg7 _).setCell (p := ⟨_, _, none⟩) hg7 _).setCell (p := ⟨_, _, none⟩) hg7 _).setCell (p := ⟨_, _, none⟩) hg7 _
end Go.Proofs.Ytcaleepbnjlbpaa
