/-
  The reference of layer 3: the digest of bytes.
-/
import Derived.Test.YtikpglemnnbdcaaDoorRShaBlock
namespace Go.Proofs.YtikpglemnnbdcaaDoor
open Go.RowKit Go.Hold Go.Sh

theorem slB_lh (b o len cap lo hi : Nat) (h : lo ≤ hi) (h' : hi ≤ cap) (w : World) : (slB (.slice (some ⟨b, o, none⟩) len cap) (some (.int .i64 (lo : Int))) (some (.int .i64 (hi : Int))) none).run Tryd.prog w = .ok (.slice (some ⟨b, adv o lo cap, none⟩) (hi - lo) (cap - lo)) w := by
  unfold slB
  rw [run_sliceAt_slice _ _ _ _ _ _ elem8, run_slice_lh _ _ _ _ _ elem8 _ _ _ _ (by omega) (by omega) (by omega), size8]
  unfold adv
  by_cases e : cap = lo
  · simp [sliced, Result.andThen, e]
  · simp [sliced, Result.andThen, e, Addr.add_mid]
theorem pad_bts {l : List Nat} (h : ∀ i, l.getD i 0 < 256) : ∀ i, (pad l).getD i 0 < 256 := by
  unfold pad
  refine bts_app (bts_app h (getD_lt fun x hx => ?_)) (bts_len8 _)
  rcases List.mem_cons.1 hx with rfl | hx
  · decide
  · exact mem_lt (bts_zs _) x hx
theorem BytesAt.mid {w : World} {b o : Nat} {l : List Nat} (h : BytesAt w b o l) (n k : Nat) : BytesAt w b (o + n) ((l.drop n).take k) := by
  refine ⟨h.1, fun i hi => ?_⟩
  rw [List.length_take, List.length_drop] at hi
  rw [Nat.add_assoc, h.2 (n + i) (by omega)]
  simp [List.getD, List.getElem?_drop, show i < k by omega]
theorem WordsAt.word {w : World} {g : Nat} {s : St} (h : WordsAt w g (stL s)) (j : Nat) (hj : j < 8) : w.cell? ⟨g, j, none⟩ = some (.int .u32 (sWord s j)) := by
  rw [h.2 j hj]
  have : j = 0 ∨ j = 1 ∨ j = 2 ∨ j = 3 ∨ j = 4 ∨ j = 5 ∨ j = 6 ∨ j = 7 := by omega
  rcases this with rfl | rfl | rfl | rfl | rfl | rfl | rfl | rfl <;> rfl

set_option maxHeartbeats 1000000 in
set_option maxRecDepth 100000 in
theorem rsum_c (cap : Nat) (p : Option Addr) (l : List Nat) (w : World) (hl : l.length ≤ 100000) (hlb : ∀ i, l.getD i 0 < 256) (hB : Bs0 w p l) (hpc : p = none → cap = 0) :
    Calls Tryd.prog 26 #[.slice p l.length cap] w fun e w' => e = .returned (.agg (keA (dig l))) ∧ Below w.heap.size w w' := by
  have HB := Lib.hid hB
  have Hpl := Lib.hid (pad_length l)
  have Hpb := Lib.hid (pad_bts hlb)
  have hpl : (pad l).length ≤ 200000 := by rw [Hpl.out]; omega
  obtain ⟨N, eN⟩ : ∃ N, N = (pad l).length := ⟨_, rfl⟩
  obtain ⟨M, eM⟩ : ∃ M, M = (l.length + 72) / 64 := ⟨_, rfl⟩
  have hNM : N = 64 * M := by rw [eN, eM]; exact Hpl.out
  rw [← eN] at hpl
  have EN := Lib.hid eN
  have HP := Lib.hid (fun ob => padded_c cap p l (w.alloc ob) hl (hB.grow (below_alloc (Below.refl _ _) _)) hpc)
  have hrun : dig l = hruns st0 (pad l) M := by unfold dig hrun; rw [← eN, hNM, show 64 * M / 64 = M by omega]
  obtain ⟨D, eD⟩ : ∃ D, D = dig l := ⟨_, rfl⟩
  rw [← eD] at hrun ⊢
  have Hrun := Lib.hid hrun
  have HNM := Lib.hid hNM
  clear hB hrun eM eN hNM eD
  obtain ⟨n, en⟩ : ∃ n, n = l.length := ⟨_, rfl⟩
  rw [← en] at HP ⊢
  clear en hl
  go_enter Tryd.func26, Tryd.ntmps26
  go_wp2_with fail
  refine (HP.out _).mono ?_
  rintro e W1 ⟨g, c, rfl, hby, hcap, hb1⟩
  have hR1 := Lib.hid (show RowAt W1 w.heap.size (byI (keyZ st0 0)) from RowAt.grow (RowAt.of (block_new w _)) hb1)
  have B1 := Lib.hid ((below_alloc (Below.refl w.heap.size w) _).trans (hb1.mono (by simp)))
  have HY1 := Lib.hid hby
  rw [← EN.out] at hcap ⊢
  clear hby hb1 HP
  go_wp2_with fail
  refine (first_c _).mono ?_
  rintro e W2 ⟨g4, rfl, hrow4, _, hb2⟩
  have hR2 := Lib.hid (hR1.out.grow hb2)
  have B2 := Lib.hid (B1.out.trans (hb2.mono B1.out.size))
  have HY2 := Lib.hid (HY1.out.grow hb2)
  have HW2 := Lib.hid (show WordsAt W2 g4 (stL st0) from words_row hrow4)
  clear hrow4 hb2 hR1 B1 HY1
  go_wp2_with fail
  go_loopw [4, 5] (fun v t wr => ∃ j g4 c4 i : Nat, j ≤ M ∧ i = 64 * j ∧ t = .int .i64 i ∧ v = .slice (some ⟨g4, 0, none⟩) 8 c4 ∧ WordsAt wr g4 (stL (hruns st0 (pad l) j)) ∧ Below W2.heap.size W2 wr) (fun _ t _ => N - (intOf t).toNat)
  case atStart => exact ⟨0, g4, 8, 0, Nat.zero_le _, rfl, rfl, rfl, HW2.out, Below.refl _ _⟩
  case round =>
    obtain ⟨j, g4, c4, i, hj, hij, rfl, rfl, hwd, hbel⟩ := hrel
    have hi0 : (0 : Int) ≤ (i : Int) := by omega
    have hNM := HNM.out
    by_cases hjM : j < M
    · have hlt : (i : Int) < (N : Int) := by omega
      obtain ⟨i2, ei2⟩ : ∃ y, y = i + 64 := ⟨_, rfl⟩
      have hw1 : IntKind.i64.wrap ((i : Int) + 64) = (i2 : Int) := by rw [IntWalk.i64_in _ (by omega)]; omega
      have hsl := slB_lh g 0 N c i i2 (by omega) (by omega)
      rw [show i2 - i = 64 by omega] at hsl
      have hY := HY2.out.grow hbel
      have hadv : adv 0 i c = i := by unfold adv; rw [if_neg (by omega), Nat.zero_add]
      rw [hadv] at hsl
      obtain ⟨c6, ec6⟩ : ∃ y, y = c - i := ⟨_, rfl⟩
      rw [← ec6] at hsl
      have HBl := Lib.hid (block_c g4 c4 g i c6 (hruns st0 (pad l) j) (((pad l).drop (64 * j)).take 64) wr hwd (by rw [List.length_take, List.length_drop, ← EN.out]; omega) (bts_take (bts_drop Hpb.out _) _) (by have h := hY.mid (64 * j) 64; rw [← hij, Nat.zero_add] at h; rw [← hij]; exact h))
      have Hbel := Lib.hid hbel
      have Hij := Lib.hid hij
      have Hi2 := Lib.hid ei2
      clear hwd hbel hY hadv ec6 hij ei2 hNM
      go_wp2_with fail
      refine HBl.out.mono ?_
      rintro e W5 ⟨g5, c5, rfl, hwd5, hb5⟩
      have HW5 := Lib.hid (show WordsAt W5 g5 (stL (hruns st0 (pad l) (j + 1))) from hwd5)
      have HB5 := Lib.hid (Hbel.out.trans (hb5.mono Hbel.out.size))
      clear hwd5 hb5 HBl
      go_wp2_with fail
      go_roundw
      case rel => exact ⟨j + 1, g5, c5, i2, by omega, by have := Hij.out; have := Hi2.out; omega, rfl, rfl, HW5.out, HB5.out⟩
      case measure => have := Hi2.out; have := HNM.out; have := Hij.out; simp [intOf]; omega
    · obtain rfl : j = M := by omega
      have hlt : ¬ (i : Int) < (N : Int) := by omega
      have HW := Lib.hid hwd
      have hR3 := Lib.hid (hR2.out.grow hbel)
      have B3 := Lib.hid (B2.out.trans (hbel.mono B2.out.size))
      rw [← Hrun.out] at HW
      have hsb := B3.out.size
      clear hwd hbel hNM hij
      go_wp2_with fail
      generalize hW : World.alloc _ _ = W6
      have K6 := Lib.hid (show RowAt W6 wr.heap.size (byI (keyZ D 0)) by rw [← hW]; clear hW; exact ⟨by go_simp, by go_simp; rfl, by go_simp⟩)
      have R6 := Lib.hid (show RowAt W6 w.heap.size (byI (keyZ st0 0)) by rw [← hW]; exact hR3.out.grow (below_alloc (Below.refl _ _) _))
      have HW6 := Lib.hid (show WordsAt W6 g4 (stL D) by rw [← hW]; exact HW.out.grow (below_alloc (Below.refl _ _) _))
      have B6 := Lib.hid (show Below w.heap.size w W6 by rw [← hW]; exact below_alloc B3.out _)
      have hr6 : w.heap.size < wr.heap.size := hR3.out.2.2
      have hg6 : g4 < wr.heap.size := HW.out.1
      clear hW
      generalize wr.heap.size = x at *
      clear hR3 HW B3
      go_loopw [7] (fun i wr => ∃ k : Nat, k ≤ 32 ∧ i = .int .i64 k ∧ RowAt wr x (byI (keyZ D k)) ∧ Below x W6 wr) (fun i _ => 32 - (intOf i).toNat)
      case atStart => exact ⟨0, by decide, rfl, K6.out, Below.refl _ _⟩
      case round =>
        obtain ⟨k, hk, rfl, hrow, hbel⟩ := hrel
        by_cases hk32 : k < 32
        · have hk0 : (0 : Int) ≤ (k : Int) := by omega
          have hk1 : (k : Int) < 32 := by omega
          have hq : (k : Int).tdiv 4 = ((k / 4 : Nat) : Int) := rfl
          have hm := cast_tmod k
          have hc := HW6.out.word (k / 4) (by omega)
          rw [← hbel.cell hg6] at hc
          have hck := hrow.cellAt k (byI_get _ _ (keyZ_get D k k hk32))
          have hfk := hrow.frozenAt k
          have Hset := Lib.hid (keyZ_set D k hk32)
          have h0 : (0 : Int) ≤ ((k / 4 : Nat) : Int) := by omega
          have h8 : ((k / 4 : Nat) : Int) < 8 := by omega
          obtain ⟨m, em⟩ : ∃ y, y = k % 4 * 8 := ⟨_, rfl⟩
          obtain ⟨y, ey⟩ : ∃ y, y = 24 - k % 4 * 8 := ⟨_, rfl⟩
          have h1 : IntKind.i64.wrap (8 * ((k % 4 : Nat) : Int)) = (m : Int) := by rw [IntWalk.i64_in _ (by omega)]; omega
          have h2 : IntKind.i64.wrap (24 - (m : Int)) = (y : Int) := by rw [IntWalk.i64_in _ (by omega)]; omega
          have h3 : IntKind.u64.wrap (y : Int) = (y : Int) := by rw [IntWalk.u64_in _ (by omega)]
          have hy0 : (0 : Int) ≤ (y : Int) := by omega
          have hy1 : (y : Int) ≤ 32 := by omega
          obtain ⟨v, ev⟩ : ∃ v, v = sByte D k := ⟨_, rfl⟩
          rw [← ev] at Hset
          unfold sByte at ev
          rw [← ey] at ev
          have hv := ev.symm
          clear em ey ev
          generalize sWord D (k / 4) = z at hc hv
          generalize k / 4 = q at *
          generalize k % 4 = r4 at *
          have Hrow := Lib.hid hrow
          have Hbel := Lib.hid hbel
          clear hrow hbel
          go_wp2_with fail
          go_roundw
          case rel =>
            refine ⟨k + 1, by omega, by go_num, ?_, ?_⟩
            · rw [← Hset.out, ← byI_set]; exact Hrow.out.setCell _ _
            · exact Hbel.out.setCell (p := ⟨_, _, none⟩) (Nat.le_refl _) _
          case measure => simp [intOf]; omega
        · obtain rfl : k = 32 := by omega
          rw [keyZ_all] at hrow
          have hr : RowAt wr x (keA D) := hrow
          obtain ⟨q1, q2, q3⟩ := R6.out.keep hbel hr6
          obtain ⟨r1, r2, r3⟩ := hr
          have hz : (byI (keyZ st0 0)).size = 32 := by rw [byI_size, keyZ_length]
          have Hbel := Lib.hid hbel
          have hne : ¬ w.heap.size = x := by omega
          clear hrow hbel
          go_wp2_with fail
          refine bodyPost_ret (v := .agg (keA D)) (results_key Tryd.results26 (keA_size D) _ _ _ rfl (by go_simp) (by go_simp)) rfl ⟨rfl, ?_⟩
          exact below_setRow (B6.out.trans (Hbel.out.mono (by omega))) (Nat.le_refl _) _
end Go.Proofs.YtikpglemnnbdcaaDoor
