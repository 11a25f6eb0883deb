/-
  The reference of layer 3: its constants, and words out of bytes.
-/
import Derived.Test.YtikpglemnnbdcaaDoorRShaPadded
import Derived.Great.BuildSlice
namespace Go.Proofs.YtikpglemnnbdcaaDoor
open Go.RowKit Go.Hold Go.Sh

def bldS (t : TypeId) (n : Nat) (ps : Array (Nat × Value)) : Sem Value := Instr.buildSlice t n ps
@[go_sem ↓] theorem fold_bld8 (ps : Array (Nat × Value)) : Instr.buildSlice 61 8 ps = bldS 61 8 ps := rfl
@[go_sem ↓] theorem fold_bld64 (ps : Array (Nat × Value)) : Instr.buildSlice 61 64 ps = bldS 61 64 ps := rfl
set_option maxRecDepth 100000 in
@[go_sem] theorem run_bld8 (w : World) (a b c d e f g h : Int) : (bldS 61 8 #[(0, .int .u32 a), (1, .int .u32 b), (2, .int .u32 c), (3, .int .u32 d), (4, .int .u32 e), (5, .int .u32 f), (6, .int .u32 g), (7, .int .u32 h)]).run Tryd.prog w = .ok (.slice (some ⟨w.heap.size, 0, none⟩) 8 8) (w.alloc (.cells (stA ⟨a, b, c, d, e, f, g, h⟩) 49)) := by
  obtain ⟨ie, h1, h2, h3, _⟩ := info_parts info_u32
  refine run_buildSlice w _ _ 8 _ (stA ⟨a, b, c, d, e, f, g, h⟩) ie _ Tryd.underlying61 h1 h2 (by rw [h3]; decide) (by rw [h3]; decide) ?_
  rw [h3]; kernel_rfl
set_option maxRecDepth 100000 in
@[go_sem] theorem run_bldK (w : World) : (bldS 61 64 #[(0, .int .u32 1116352408), (1, .int .u32 1899447441), (2, .int .u32 3049323471), (3, .int .u32 3921009573), (4, .int .u32 961987163), (5, .int .u32 1508970993), (6, .int .u32 2453635748), (7, .int .u32 2870763221), (8, .int .u32 3624381080), (9, .int .u32 310598401), (10, .int .u32 607225278), (11, .int .u32 1426881987), (12, .int .u32 1925078388), (13, .int .u32 2162078206), (14, .int .u32 2614888103), (15, .int .u32 3248222580), (16, .int .u32 3835390401), (17, .int .u32 4022224774), (18, .int .u32 264347078), (19, .int .u32 604807628), (20, .int .u32 770255983), (21, .int .u32 1249150122), (22, .int .u32 1555081692), (23, .int .u32 1996064986), (24, .int .u32 2554220882), (25, .int .u32 2821834349), (26, .int .u32 2952996808), (27, .int .u32 3210313671), (28, .int .u32 3336571891), (29, .int .u32 3584528711), (30, .int .u32 113926993), (31, .int .u32 338241895), (32, .int .u32 666307205), (33, .int .u32 773529912), (34, .int .u32 1294757372), (35, .int .u32 1396182291), (36, .int .u32 1695183700), (37, .int .u32 1986661051), (38, .int .u32 2177026350), (39, .int .u32 2456956037), (40, .int .u32 2730485921), (41, .int .u32 2820302411), (42, .int .u32 3259730800), (43, .int .u32 3345764771), (44, .int .u32 3516065817), (45, .int .u32 3600352804), (46, .int .u32 4094571909), (47, .int .u32 275423344), (48, .int .u32 430227734), (49, .int .u32 506948616), (50, .int .u32 659060556), (51, .int .u32 883997877), (52, .int .u32 958139571), (53, .int .u32 1322822218), (54, .int .u32 1537002063), (55, .int .u32 1747873779), (56, .int .u32 1955562222), (57, .int .u32 2024104815), (58, .int .u32 2227730452), (59, .int .u32 2361852424), (60, .int .u32 2428436474), (61, .int .u32 2756734187), (62, .int .u32 3204031479), (63, .int .u32 3329325298)]).run Tryd.prog w = .ok (.slice (some ⟨w.heap.size, 0, none⟩) 64 64) (w.alloc (.cells (wosA Ks) 49)) := by
  obtain ⟨ie, h1, h2, h3, _⟩ := info_parts info_u32
  refine run_buildSlice w _ _ 64 _ (wosA Ks) ie _ Tryd.underlying61 h1 h2 (by rw [h3]; decide) (by rw [h3]; decide) ?_
  rw [h3]; kernel_rfl
theorem words_row {w : World} {g : Nat} {l : List Int} (h : RowAt w g (wosA l)) : WordsAt w g l := ⟨h.2.2, fun i hi => h.cellAt i (wosA_get l i hi)⟩
theorem words_new (w : World) (l : List Int) (t : TypeId) : WordsAt (w.alloc (.cells (wosA l) t)) w.heap.size l := words_row (RowAt.of (block_new w _))
set_option maxHeartbeats 1000000 in
set_option maxRecDepth 100000 in
theorem constants_c (w : World) : Calls Tryd.prog 39 #[] w fun e w' => ∃ g, e = .returned (.slice (some ⟨g, 0, none⟩) 64 64) ∧ WordsAt w' g Ks ∧ Below w.heap.size w w' := by
  go_enter Tryd.func39, Tryd.ntmps39
  go_wp2_with fail
  go_ret
  exact ⟨_, rfl, words_new w Ks _, below_alloc (Below.refl _ _) _⟩
set_option maxHeartbeats 1000000 in
set_option maxRecDepth 100000 in
theorem first_c (w : World) : Calls Tryd.prog 33 #[] w fun e w' => ∃ g, e = .returned (.slice (some ⟨g, 0, none⟩) 8 8) ∧ RowAt w' g (stA st0) ∧ w.heap.size ≤ g ∧ Below w.heap.size w w' := by
  go_enter Tryd.func33, Tryd.ntmps33
  go_wp2_with fail
  go_ret
  exact ⟨_, rfl, RowAt.of (block_new w _), Nat.le_refl _, below_alloc (Below.refl _ _) _⟩

/-! ### A word out of bytes -/
theorem or_add (a b i : Nat) (h : b < 2 ^ i) : a * 2 ^ i ||| b = a * 2 ^ i + b := by
  have := Nat.shiftLeft_add_eq_or_of_lt h a
  rw [Nat.shiftLeft_eq] at this
  exact this.symm
theorem pack4 (x0 x1 x2 x3 : Nat) (h0 : x0 < 256) (h1 : x1 < 256) (h2 : x2 < 256) (h3 : x3 < 256) :
    o32 (o32 (o32 ((x0 : Int) * 16777216 % 4294967296) ((x1 : Int) * 65536 % 4294967296)) ((x2 : Int) * 256 % 4294967296)) (x3 : Int) = (((((0 * 256 + x0) * 256 + x1) * 256 + x2) * 256 + x3 : Nat) : Int) := by
  unfold o32
  rw [show (x0 : Int) * 16777216 % 4294967296 = ((x0 * 2 ^ 24 : Nat) : Int) by omega, show (x1 : Int) * 65536 % 4294967296 = ((x1 * 65536 : Nat) : Int) by omega, show (x2 : Int) * 256 % 4294967296 = ((x2 * 256 : Nat) : Int) by omega]
  rw [u32_or_nat _ _ (by omega) (by omega), or_add x0 (x1 * 65536) 24 (by omega), show x0 * 2 ^ 24 + x1 * 65536 = (x0 * 256 + x1) * 2 ^ 16 by omega]
  rw [u32_or_nat _ _ (by omega) (by omega), or_add _ (x2 * 256) 16 (by omega), show (x0 * 256 + x1) * 2 ^ 16 + x2 * 256 = (x0 * 65536 + x1 * 256 + x2) * 2 ^ 8 by omega]
  rw [u32_or_nat _ _ (by omega) (by omega), or_add _ x3 8 (by omega)]
  omega
theorem pk4_eq (b : List Nat) (j : Nat) : pk4 b j = (((((0 * 256 + b.getD (4 * j + 0) 0) * 256 + b.getD (4 * j + 1) 0) * 256 + b.getD (4 * j + 2) 0) * 256 + b.getD (4 * j + 3) 0 : Nat) : Int) := rfl
end Go.Proofs.YtikpglemnnbdcaaDoor
