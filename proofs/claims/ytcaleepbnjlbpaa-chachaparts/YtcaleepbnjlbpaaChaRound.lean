/-
  Package chacha: a double round; words as bytes.
-/
import Derived.Test.YtcaleepbnjlbpaaChaQuarter
namespace Go.Proofs.Ytcaleepbnjlbpaa
open Go.RowKit Go.Hold Go.Sh Go.Ch

set_option maxHeartbeats 1000000 in
set_option maxRecDepth 100000 in
theorem doubleRound_c (g : Nat) (s : List Int) (w : World) (hs : s.length = 16) (h : RowAt w g (wosA s)) :
    Calls Try.prog 16 #[.pointer (some ⟨g, 0, none⟩)] w fun e w' => e = .returned (.tuple #[]) ∧ Sets w g (wosA (drnd s)) w' := by
  have H := Lib.hid h
  have Hs := Lib.hid hs
  clear h hs
  go_enter Try.func16, Try.ntmps16
  go_wp2_with fail
  go_loopw [4] (fun i wr => ∃ n : Nat, n ≤ 4 ∧ i = .int .i64 n ∧ Sets w g (wosA (cols s n)) wr) (fun i _ => 4 - (intOf i).toNat)
  case atStart => exact ⟨0, by decide, rfl, Sets.refl H.out⟩
  case round =>
    obtain ⟨n, hn, rfl, hset⟩ := hrel
    by_cases hn4 : n < 4
    · have hn0 : (n : Int) < 4 := by omega
      have h1 : IntKind.i64.wrap (4 + (n : Int)) = ((4 + n : Nat) : Int) := by rw [IntWalk.i64_in _ (by omega)]; omega
      have h2 : IntKind.i64.wrap (8 + (n : Int)) = ((8 + n : Nat) : Int) := by rw [IntWalk.i64_in _ (by omega)]; omega
      have h3 : IntKind.i64.wrap (12 + (n : Int)) = ((12 + n : Nat) : Int) := by rw [IntWalk.i64_in _ (by omega)]; omega
      have HQ := Lib.hid (quarter_c g n (4 + n) (8 + n) (12 + n) (cols s n) wr (by rw [cols_length, Hs.out]) (by omega) (by omega) (by omega) (by omega) (hset.row H.out))
      have HE := Lib.hid (show cols s (n + 1) = quart (cols s n) n (4 + n) (8 + n) (12 + n) from rfl)
      generalize ((4 + n : Nat) : Int) = x1 at *
      generalize ((8 + n : Nat) : Int) = x2 at *
      generalize ((12 + n : Nat) : Int) = x3 at *
      have HS := Lib.hid hset
      clear hset
      go_wp2_with fail
      refine HQ.out.mono ?_
      rintro e W ⟨rfl, hW⟩
      have HW := Lib.hid (HS.out.trans H.out hW)
      clear hW
      go_wp2_with fail
      go_roundw
      case rel => exact ⟨n + 1, by omega, by go_num, by rw [HE.out]; exact HW.out⟩
      case measure => simp [intOf]; omega
    · obtain rfl : n = 4 := by omega
      have HS := Lib.hid hset
      clear hset
      rw [show ((4 : Nat) : Int) = 4 from rfl]
      go_wp2_with fail
      obtain ⟨W2, eW2⟩ : ∃ x, x = wr := ⟨_, rfl⟩
      rw [← eW2] at HS ⊢
      clear eW2
      go_loopw [17] (fun i wr => ∃ n : Nat, n ≤ 4 ∧ i = .int .i64 n ∧ Sets w g (wosA (dias (cols s 4) n)) wr) (fun i _ => 4 - (intOf i).toNat)
      case atStart => exact ⟨0, by decide, rfl, HS.out⟩
      case round =>
        obtain ⟨n, hn, rfl, hset⟩ := hrel
        by_cases hn4 : n < 4
        · have hn0 : (n : Int) < 4 := by omega
          have h1 : IntKind.i64.wrap ((n : Int) + 1) = ((n + 1 : Nat) : Int) := by rw [IntWalk.i64_in _ (by omega)]; omega
          have h2 : IntKind.i64.wrap ((n : Int) + 2) = ((n + 2 : Nat) : Int) := by rw [IntWalk.i64_in _ (by omega)]; omega
          have h3 : IntKind.i64.wrap ((n : Int) + 3) = ((n + 3 : Nat) : Int) := by rw [IntWalk.i64_in _ (by omega)]; omega
          have t1 : ((n + 1 : Nat) : Int).tmod 4 = (((n + 1) % 4 : Nat) : Int) := rfl
          have t2 : ((n + 2 : Nat) : Int).tmod 4 = (((n + 2) % 4 : Nat) : Int) := rfl
          have t3 : ((n + 3 : Nat) : Int).tmod 4 = (((n + 3) % 4 : Nat) : Int) := rfl
          have m1 : IntKind.i64.wrap (4 + (((n + 1) % 4 : Nat) : Int)) = ((4 + (n + 1) % 4 : Nat) : Int) := by rw [IntWalk.i64_in _ (by omega)]; omega
          have m2 : IntKind.i64.wrap (8 + (((n + 2) % 4 : Nat) : Int)) = ((8 + (n + 2) % 4 : Nat) : Int) := by rw [IntWalk.i64_in _ (by omega)]; omega
          have m3 : IntKind.i64.wrap (12 + (((n + 3) % 4 : Nat) : Int)) = ((12 + (n + 3) % 4 : Nat) : Int) := by rw [IntWalk.i64_in _ (by omega)]; omega
          have HQ := Lib.hid (quarter_c g n (4 + (n + 1) % 4) (8 + (n + 2) % 4) (12 + (n + 3) % 4) (dias (cols s 4) n) wr (by rw [dias_length, cols_length, Hs.out]) (by omega) (by omega) (by omega) (by omega) (hset.row H.out))
          have HE := Lib.hid (show dias (cols s 4) (n + 1) = quart (dias (cols s 4) n) n (4 + (n + 1) % 4) (8 + (n + 2) % 4) (12 + (n + 3) % 4) from rfl)
          generalize ((4 + (n + 1) % 4 : Nat) : Int) = x1 at *
          generalize ((8 + (n + 2) % 4 : Nat) : Int) = x2 at *
          generalize ((12 + (n + 3) % 4 : Nat) : Int) = x3 at *
          generalize (((n + 1) % 4 : Nat) : Int) = y1 at *
          generalize (((n + 2) % 4 : Nat) : Int) = y2 at *
          generalize (((n + 3) % 4 : Nat) : Int) = y3 at *
          generalize ez1 : ((n + 1 : Nat) : Int) = z1 at *
          have Ez1 := Lib.hid ez1
          clear ez1
          generalize ((n + 2 : Nat) : Int) = z2 at *
          generalize ((n + 3 : Nat) : Int) = z3 at *
          have HS := Lib.hid hset
          clear hset
          go_wp2_with fail
          refine HQ.out.mono ?_
          rintro e W ⟨rfl, hW⟩
          have HW := Lib.hid (HS.out.trans H.out hW)
          clear hW
          go_wp2_with fail
          go_roundw
          case rel => exact ⟨n + 1, by omega, by rw [Ez1.out], by rw [HE.out]; exact HW.out⟩
          case measure => have := Ez1.out; simp [intOf]; omega
        · obtain rfl : n = 4 := by omega
          have HS := Lib.hid hset
          clear hset
          go_wp2_with fail
          go_end0
          exact ⟨rfl, HS.out⟩

set_option maxHeartbeats 1000000 in
set_option maxRecDepth 100000 in
theorem wblock_c (s : List Int) (hs : s.length = 16) (w : World) :
    Calls Try.prog 17 #[.agg (wosA s)] w fun e w' => e = .returned (.agg (bysA (outB s))) ∧ Below w.heap.size w w' := by
  have hsz := wosA_size' hs
  go_enter Try.func17, Try.ntmps17
  go_wp2_with fail
  generalize hW : World.alloc _ _ = W1
  have R0 := Lib.hid (show RowAt W1 w.heap.size (wosA s) by rw [← hW]; clear hW; exact ⟨by go_simp, by go_simp, by go_simp⟩)
  have Q0 := Lib.hid (show RowAt W1 (w.heap.size + 1) (bysA (outP s 0)) by rw [← hW, outP_zero]; clear hW; exact ⟨by go_simp, by go_simp; rfl, by go_simp⟩)
  have K0 := Lib.hid (show RowAt W1 (w.heap.size + 1 + 1) (bysA (outP s 0)) by rw [← hW, outP_zero]; clear hW; exact ⟨by go_simp, by go_simp; rfl, by go_simp⟩)
  have B0 := Lib.hid (show Below w.heap.size w W1 by rw [← hW]; repeat (first | apply below_more | apply below_alloc | apply Below.drew | exact Below.refl _ _))
  clear hW
  go_loopw [5] (fun i wr => ∃ k : Nat, k ≤ 64 ∧ i = .int .i64 k ∧ RowAt wr (w.heap.size + 1 + 1) (bysA (outP s k)) ∧ Below (w.heap.size + 1 + 1) W1 wr) (fun i _ => 64 - (intOf i).toNat)
  case atStart => exact ⟨0, by decide, rfl, K0.out, Below.refl _ _⟩
  case round =>
    obtain ⟨k, hk, rfl, hrow, hbel⟩ := hrel
    by_cases hk64 : k < 64
    · have hk0 : (0 : Int) ≤ (k : Int) := by omega
      have hk1 : (k : Int) < 64 := by omega
      have hq : (k : Int).tdiv 4 = ((k / 4 : Nat) : Int) := rfl
      have hm : (k : Int).tmod 4 = ((k % 4 : Nat) : Int) := rfl
      have hc := wos_cell (R0.out.keep hbel (by omega)) (k / 4) (by omega)
      have hck := hrow.cellAt k (bysA_get _ k (by rw [outP_length]; exact hk64))
      have hfk := hrow.frozenAt k
      have Hset := Lib.hid (outP_set s k hk64)
      have h0 : (0 : Int) ≤ ((k / 4 : Nat) : Int) := by omega
      have h8 : ((k / 4 : Nat) : Int) < 16 := by omega
      obtain ⟨m, em⟩ : ∃ y, y = k % 4 * 8 := ⟨_, rfl⟩
      have h1 : IntKind.i64.wrap (((k % 4 : Nat) : Int) * 8) = (m : Int) := by rw [IntWalk.i64_in _ (by omega)]; omega
      have hm0 : (0 : Int) ≤ (m : Int) := by omega
      have hm1 : (m : Int) ≤ 32 := by omega
      obtain ⟨v, ev⟩ : ∃ v, v = oB s k := ⟨_, rfl⟩
      rw [← ev] at Hset
      have hv : s.getD (k / 4) 0 / 2 ^ m % 256 = (v : Int) := by rw [ev, oI_nat, em]; rfl
      clear em ev
      generalize s.getD (k / 4) 0 = x at hc hv
      have hqw : IntKind.i64.wrap ((k / 4 : Nat) : Int) = ((k / 4 : Nat) : Int) := IntWalk.i64_in _ (by omega)
      generalize k / 4 = q at *
      generalize k % 4 = r4 at *
      have Hrow := Lib.hid hrow
      have Hbel := Lib.hid hbel
      clear hrow hbel
      go_wp2_with fail
      go_roundw
      case rel =>
        refine ⟨k + 1, by omega, by go_num, ?_, ?_⟩
        · rw [← Hset.out, ← bysA_set]; exact Hrow.out.setCell _ _
        · exact Hbel.out.setCell (p := ⟨_, _, none⟩) (Nat.le_refl _) _
      case measure => simp [intOf]; omega
    · obtain rfl : k = 64 := by omega
      rw [outP_all] at hrow
      obtain ⟨q1, q2, q3⟩ := Q0.out.keep hbel (by omega)
      obtain ⟨r1, r2, r3⟩ := hrow
      have hz := bysA_size' (outP_length s 0)
      have hy := bysA_size' (outB_length s)
      have Hbel := Lib.hid hbel
      clear hbel
      go_wp2_with fail
      refine bodyPost_ret (v := .agg (bysA (outB s))) (results_b64 Try.results17 hy _ _ _ rfl (by go_simp) (by go_simp)) rfl ⟨rfl, ?_⟩
      exact below_setRow (B0.out.trans (Hbel.out.mono (by omega))) (by omega) _
end Go.Proofs.Ytcaleepbnjlbpaa
