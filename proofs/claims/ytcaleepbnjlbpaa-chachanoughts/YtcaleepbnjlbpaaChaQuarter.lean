/-
  Package chacha: a quarter.
-/
import Derived.Test.YtcaleepbnjlbpaaChaWords
import Derived.Test.YtcaleepbnjlbpaaPickT
namespace Go.Proofs.Ytcaleepbnjlbpaa
open Go.RowKit Go.Hold Go.Sh Go.Ch

theorem quart_eq (s : List Int) (i j k l : Nat) : quart s i j k l = (((s.set i (qr (s.getD i 0) (s.getD j 0) (s.getD k 0) (s.getD l 0)).a).set j (qr (s.getD i 0) (s.getD j 0) (s.getD k 0) (s.getD l 0)).b).set k (qr (s.getD i 0) (s.getD j 0) (s.getD k 0) (s.getD l 0)).c).set l (qr (s.getD i 0) (s.getD j 0) (s.getD k 0) (s.getD l 0)).d := rfl
theorem wos_cell {w : World} {g : Nat} {s : List Int} (h : RowAt w g (wosA s)) (i : Nat) (hi : i < s.length) : w.cell? ⟨g, i, none⟩ = some (.int .u32 (s.getD i 0)) := h.cellAt i (wosA_get s i hi)
set_option maxHeartbeats 1000000 in
set_option maxRecDepth 100000 in
theorem quarter_c (g i j k l : Nat) (s : List Int) (w : World) (hs : s.length = 16) (hi : i < j) (hj : j < k) (hk : k < l) (hl : l < 16) (h : RowAt w g (wosA s)) :
    Calls Try.prog 23 #[.pointer (some ⟨g, 0, none⟩), .int .i64 (i : Int), .int .i64 (j : Int), .int .i64 (k : Int), .int .i64 (l : Int)] w fun e w' => e = .returned (.tuple #[]) ∧ Sets w g (wosA (quart s i j k l)) w' := by
  have H := Lib.hid h
  have Hq := Lib.hid (quart_eq s i j k l)
  have Hs := Lib.hid hs
  have hi0 : (0 : Int) ≤ (i : Int) := by omega
  have hi1 : (i : Int) < 16 := by omega
  have hj0 : (0 : Int) ≤ (j : Int) := by omega
  have hj1 : (j : Int) < 16 := by omega
  have hk0 : (0 : Int) ≤ (k : Int) := by omega
  have hk1 : (k : Int) < 16 := by omega
  have hl0 : (0 : Int) ≤ (l : Int) := by omega
  have hl1 : (l : Int) < 16 := by omega
  have hci := wos_cell h i (by omega)
  have hcj := wos_cell h j (by omega)
  have hck := wos_cell h k (by omega)
  have hcl := wos_cell h l (by omega)
  have hgl := h.2.2
  generalize s.getD i 0 = a0 at *
  generalize s.getD j 0 = b0 at *
  generalize s.getD k 0 = c0 at *
  generalize s.getD l 0 = d0 at *
  have n1 : ¬ i = j := by omega
  have n2 : ¬ i = k := by omega
  have n3 : ¬ i = l := by omega
  have n4 : ¬ j = k := by omega
  have n5 : ¬ j = l := by omega
  have n6 : ¬ k = l := by omega
  clear h hs
  go_enter Try.func23, Try.ntmps23
  go_wp2_with fail
  refine wp_region_fast (fun w' => ∃ o d, w' = w.plus o d) (by kernel_rfl) (by kernel_rfl) ⟨#[], _, rfl⟩ ?_
  iterate 24 (refine wpHold_val ⟨_, #[], 0, rfl⟩ (wanted_none rfl) (by rintro K _ ⟨o, d, rfl⟩ hK; go_simp; exact hK _ ⟨o, d, rfl⟩) ?_)
  refine wpHold_nil ?_
  rintro _ ⟨o1, n1, rfl⟩
  have S1 := Lib.hid ((Sets.refl H.out).grow (below_more (Below.refl _ _) o1 n1))
  clear hci hcj hck hcl
  generalize w.plus o1 n1 = W1 at *
  go_wp2_with fail
  refine (rotP_16 _ _).mono ?_
  rintro e w' ⟨rfl, hwE⟩
  rw [hwE]
  clear hwE w'
  go_wp2_with fail
  refine (rotP_12 _ _).mono ?_
  rintro e w' ⟨rfl, hwE⟩
  rw [hwE]
  clear hwE w'
  go_wp2_with fail
  refine (rotP_8 _ _).mono ?_
  rintro e w' ⟨rfl, hwE⟩
  rw [hwE]
  clear hwE w'
  go_wp2_with fail
  refine (rotP_7 _ _).mono ?_
  rintro e w' ⟨rfl, hwE⟩
  rw [hwE]
  clear hwE w'
  go_wp2_with fail
  refine wp_region_pickT W1 [0, 1, 2, 3, 4, 5, 6, 7, 8, 9, 10, 11, 12, 15, 18, 21] [true, true, true, true, true, true, true, true, true, true, true, true, true, true, true, true] [13, 14, 16, 17, 19, 20, 22, 23] (by kernel_rfl) (by kernel_rfl) (by intro c a d v w h; cases d <;> exact h) ((Below.refl _ _).drew) ?_
  simp only [pick, List.getElem?_cons_succ, List.getElem?_cons_zero]
  iterate 16 (refine wpHoldF_late (wanted_none rfl) (fun w => by go_simp; rfl) ?_)
  refine wpHoldF_nil ?_
  intro W2 hb2
  have S2 := Lib.hid (S1.out.grow hb2)
  have R2 := S2.out.row H.out
  have hci := wos_cell R2 i (by rw [Hs.out]; omega)
  have hcj := wos_cell R2 j (by rw [Hs.out]; omega)
  have hck := wos_cell R2 k (by rw [Hs.out]; omega)
  have hcl := wos_cell R2 l (by rw [Hs.out]; omega)
  have hfi := R2.frozenAt i
  have hfj := R2.frozenAt j
  have hfk := R2.frozenAt k
  have hfl := R2.frozenAt l
  clear hb2 R2 S1
  go_wp2_with fail
  go_end0
  refine ⟨rfl, ?_⟩
  have h4 := (((S2.out.cell (i := i) (v := .int .u32 (qr a0 b0 c0 d0).a) H.out).cell (i := j) (v := .int .u32 (qr a0 b0 c0 d0).b) H.out).cell (i := k) (v := .int .u32 (qr a0 b0 c0 d0).c) H.out).cell (i := l) (v := .int .u32 (qr a0 b0 c0 d0).d) H.out
  rw [wosA_set, wosA_set, wosA_set, wosA_set, ← Hq.out] at h4
  exact h4
end Go.Proofs.Ytcaleepbnjlbpaa
