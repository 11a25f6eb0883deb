/-
  So many bytes of any stream, and any bytes turned by them, are the document's, or refused.
-/
import Derived.Test.YtcaleepbnjlbpaaChaAlive
import Derived.Test.YtcaleepbnjlbpaaRChaStream
namespace Go.Proofs.Ytcaleepbnjlbpaa
open Go.RowKit Go.Hold Go.Sh Go.Ch

/-- What both answer for a stream: the same bytes, and the same error. -/
theorem stream_both (k n : List Nat) (c : Nat) (z : Int) (hk : k.length = 32) (hkb : ∀ i, k.getD i 0 < 256) (hn : n.length = 12) (hnb : ∀ i, n.getD i 0 < 256) (hc : c < 4294967296) :
    ∃ (X : List Nat) (er : Int), (∀ w, Calls Try.prog 11 #[.agg (bysA k), .agg (bysA n), .int .u32 (c : Int), .int .i64 z] w fun e w' => ∃ p cp, e = .returned (.tuple #[.slice p X.length cp, .int .i64 er]) ∧ Bs0 w' p X ∧ Below w.heap.size w w') ∧
      (∀ w, Calls Try.prog 12 #[.agg (bysA k), .agg (bysA n), .int .u32 (c : Int), .int .i64 z] w fun e w' => ∃ p cp, e = .returned (.tuple #[.slice p X.length cp, .int .i64 er]) ∧ Bs0 w' p X ∧ Below w.heap.size w w') := by
  have bad : ∀ er : Int, (z < 0 ∧ er = 2 ∨ 65536 < z ∧ er = 3 ∨ 0 ≤ z ∧ z ≤ 65536 ∧ 4294967296 < c + (z.toNat + 63) / 64 ∧ er = 3) → _ := fun er h =>
    (⟨[], er, fun w => (stream_bad k n c z er hc w h).mono (by rintro e w' ⟨rfl, h⟩; exact ⟨none, 0, rfl, .inl rfl, h⟩), fun w => (rstream_bad k n c z er hc w h).mono (by rintro e w' ⟨rfl, h⟩; exact ⟨none, 0, rfl, .inl rfl, h⟩)⟩ :
    ∃ (X : List Nat) (er : Int), (∀ w, Calls Try.prog 11 #[.agg (bysA k), .agg (bysA n), .int .u32 (c : Int), .int .i64 z] w fun e w' => ∃ p cp, e = .returned (.tuple #[.slice p X.length cp, .int .i64 er]) ∧ Bs0 w' p X ∧ Below w.heap.size w w') ∧
      (∀ w, Calls Try.prog 12 #[.agg (bysA k), .agg (bysA n), .int .u32 (c : Int), .int .i64 z] w fun e w' => ∃ p cp, e = .returned (.tuple #[.slice p X.length cp, .int .i64 er]) ∧ Bs0 w' p X ∧ Below w.heap.size w w'))
  by_cases h1 : z < 0
  · exact bad 2 (.inl ⟨h1, rfl⟩)
  by_cases h2 : 65536 < z
  · exact bad 3 (.inr (.inl ⟨h2, rfl⟩))
  by_cases h3 : 4294967296 < c + (z.toNat + 63) / 64
  · exact bad 3 (.inr (.inr ⟨by omega, by omega, h3, rfl⟩))
  obtain ⟨m, rfl⟩ : ∃ m : Nat, z = (m : Int) := ⟨z.toNat, by omega⟩
  rw [Int.toNat_natCast] at h3
  refine ⟨strm k n c m, 0, fun w => (stream_c k n c m hk hkb hn hnb (by omega) (by omega) hc w).mono ?_, fun w => (rstream_c k n c m hk hkb hn hnb (by omega) (by omega) hc w).mono ?_⟩
  · rintro e w' ⟨g, rfl, h1, _, h2⟩
    rw [strm_length]
    exact ⟨_, m, rfl, Bs0.some (bytes_row h1), h2⟩
  · rintro e w' ⟨p, cp, rfl, h1, h2⟩
    rw [strm_length]
    exact ⟨p, cp, rfl, h1, h2⟩
/-- What both answer for bytes. -/
theorem xor_both (k n l : List Nat) (c m cap : Nat) (p : Option Addr) (hk : k.length = 32) (hkb : ∀ i, k.getD i 0 < 256) (hn : n.length = 12) (hnb : ∀ i, n.getD i 0 < 256) (hl : m = l.length) (hlb : ∀ i, l.getD i 0 < 256) (hm : m ≤ 2000) (hc : c < 4294967296) :
    ∃ (X : List Nat) (er : Int), (∀ w, Bs0 w p l → Calls Try.prog 13 #[.agg (bysA k), .agg (bysA n), .int .u32 (c : Int), .slice p m cap] w fun e w' => ∃ q cq, e = .returned (.tuple #[.slice q X.length cq, .int .i64 er]) ∧ Bs0 w' q X ∧ Below w.heap.size w w') ∧
      (∀ w, Bs0 w p l → Calls Try.prog 14 #[.agg (bysA k), .agg (bysA n), .int .u32 (c : Int), .slice p m cap] w fun e w' => ∃ q cq, e = .returned (.tuple #[.slice q X.length cq, .int .i64 er]) ∧ Bs0 w' q X ∧ Below w.heap.size w w') := by
  by_cases h3 : 4294967296 < c + (m + 63) / 64
  · refine ⟨[], 3, fun w _ => (xor_bad k n c m cap p hk hn hc w (.inr ⟨by omega, h3⟩)).mono ?_, fun w _ => (rxor_bad k n c m cap p hk hn hc w (.inr ⟨by omega, h3⟩)).mono ?_⟩
    · rintro e w' ⟨rfl, h⟩; exact ⟨none, 0, rfl, .inl rfl, h⟩
    · rintro e w' ⟨rfl, h⟩; exact ⟨none, 0, rfl, .inl rfl, h⟩
  · refine ⟨mixd (strm k n c m) l, 0, fun w hB => (xor_c k n l c m cap p hk hkb hn hnb hl hlb (by omega) (by omega) hc w hB).mono ?_, fun w hB => (rxor_c k n l c m cap p hk hkb hn hnb hl hlb (by omega) (by omega) hc w hB).mono ?_⟩
    · rintro e w' ⟨g, rfl, h1, _, h2⟩
      rw [mixd_length, ← hl]
      exact ⟨_, m, rfl, Bs0.some (bytes_row h1), h2⟩
    · rintro e w' ⟨q, cq, rfl, h1, h2⟩
      rw [mixd_length, ← hl]
      exact ⟨q, cq, rfl, h1, h2⟩
set_option maxHeartbeats 2000000 in
set_option maxRecDepth 100000 in
theorem streams_any (cap : Nat) (p : Option Addr) (z0 z1 : Int) (k l : List Nat) (w : World) (hk : k.length = 32) (hkb : ∀ i, k.getD i 0 < 256) (hlb : ∀ i, l.getD i 0 < 256) (hB : Bs0 w p l) :
    Calls Try.prog 4 #[.agg (bysA k), .slice p l.length cap, .agg #[.int .i64 z0, .int .i64 z1]] w fun e w' => e = .returned (.bool true) ∧ Below w.heap.size w w' := by
  have hks := bysA_size' hk
  obtain ⟨m, em⟩ : ∃ m, m = l.length := ⟨_, rfl⟩
  rw [← em]
  have Em := Lib.hid em
  have HB := Lib.hid hB
  go_enter Try.func4, Try.ntmps4
  go_wp2_with fail
  refine (alive5_c _).mono ?_
  rintro e W1 ⟨rfl, hb1⟩
  have hA := below_alloc (below_alloc (Below.refl w.heap.size w) (.cells (bysA k) 23)) (.cells #[.int .i64 z0, .int .i64 z1] 32)
  have K1 := Lib.hid (((RowAt.of (block_new w (.cells (bysA k) 23))).grow (below_alloc (Below.refl _ _) (.cells #[.int .i64 z0, .int .i64 z1] 32))).grow hb1)
  have N1 := Lib.hid ((RowAt.of (block_new (w.alloc (.cells (bysA k) 23)) (.cells #[.int .i64 z0, .int .i64 z1] 32))).grow hb1)
  rw [World.size_alloc] at N1
  have B1 := Lib.hid (hA.trans (hb1.mono hA.size))
  clear hA hb1 em
  have c0 : W1.cell? ⟨w.heap.size + 1, 0, none⟩ = some (.int .i64 z0) := N1.out.cellAt 0 rfl
  have c1 : W1.cell? ⟨w.heap.size + 1, 1, none⟩ = some (.int .i64 z1) := N1.out.cellAt 1 rfl
  by_cases hm : 2000 < m
  · have hm' : (2000 : Int) < (m : Int) := by omega
    go_wp2_with fail
    go_ret
    exact ⟨rfl, B1.out⟩
  have hm' : ¬ (2000 : Int) < (m : Int) := by omega
  by_cases h2 : 2000 < z1 ∧ z1 ≤ 65536
  · obtain ⟨h2, h3⟩ := h2
    go_wp2_with fail
    go_ret
    exact ⟨rfl, B1.out⟩
  have hz : ¬ 2000 < z1 ∨ (2000 < z1 ∧ ¬ z1 ≤ 65536) := by omega
  clear h2
  have hn : (k.take 12).length = 12 := by rw [List.length_take, hk]; rfl
  have hnb := bts_take hkb 12
  have hns := bysA_size' hn
  obtain ⟨c, ec⟩ : ∃ c : Nat, IntKind.u32.wrap z0 = (c : Int) ∧ c < 4294967296 := ⟨(IntKind.u32.wrap z0).toNat, by rw [IntKind.wrap_u32]; omega, by rw [IntKind.wrap_u32]; omega⟩
  obtain ⟨ec, hc⟩ := ec
  obtain ⟨X, er, hS, hRS⟩ := stream_both k (k.take 12) c z1 hk hkb hn hnb hc
  obtain ⟨Y, fr, hX, hRX⟩ := xor_both k (k.take 12) l c m cap p hk hkb hn hnb Em.out hlb (by omega) hc
  have HS := Lib.hid hS
  have HRS := Lib.hid hRS
  have HX := Lib.hid (fun W (hW : Below w.heap.size w W) => hX W (HB.out.grow hW))
  have HRX := Lib.hid (fun W (hW : Below w.heap.size w W) => hRX W (HB.out.grow hW))
  have hld := load_non (bytes_row K1.out) (by omega)
  generalize k.take 12 = n at *
  obtain ⟨nx, enx⟩ : ∃ n, n = X.length := ⟨_, rfl⟩
  rw [← enx] at HS HRS
  have Enx := Lib.hid enx
  obtain ⟨ny, eny⟩ : ∃ n, n = Y.length := ⟨_, rfl⟩
  rw [← eny] at HX HRX
  have Eny := Lib.hid eny
  have harr := fun g W => arr_non g 0 32 W
  have n3 := N1.out.2.2
  clear hk hkb hn hnb hlb hB hm hS hRS hX hRX enx eny hc
  generalize w.heap.size + 1 = ga at *
  generalize w.heap.size = gk at K1 hld ⊢
  obtain ⟨k1, k2, k3⟩ := K1.out
  rcases hz with h2 | ⟨h2, h3⟩
  all_goals
    go_wp2_with fail
    have hA := below_alloc (Below.refl W1.heap.size W1) (.cells (bysA n) 33)
    have K2 := Lib.hid (K1.out.grow hA)
    have A2 := Lib.hid (N1.out.grow hA)
    have V2 := Lib.hid (RowAt.of (block_new W1 (.cells (bysA n) 33)))
    have B2 := Lib.hid (B1.out.trans (hA.mono B1.out.size))
    clear hA k1 k2 k3 n3 hld c0 c1
    generalize W1.heap.size = gv at *
    generalize W1.alloc (.cells (bysA n) 33) = W2 at *
    refine (HS.out _).mono ?_
    rintro e W3 ⟨p3, c3, rfl, hX3, hb3⟩
    have K3 := Lib.hid (K2.out.grow hb3)
    have A3 := Lib.hid (A2.out.grow hb3)
    have V3 := Lib.hid (V2.out.grow hb3)
    have B3 := Lib.hid (B2.out.trans (hb3.mono B2.out.size))
    have Y3 := Lib.hid hX3
    clear hb3 hX3 K2 A2 V2 B2
    obtain ⟨k1, k2, k3⟩ := K3.out
    obtain ⟨v1, v2, v3⟩ := V3.out
    have c0 : W3.cell? ⟨ga, 0, none⟩ = some (.int .i64 z0) := A3.out.cellAt 0 rfl
    have c1 : W3.cell? ⟨ga, 1, none⟩ = some (.int .i64 z1) := A3.out.cellAt 1 rfl
    go_wp2_with fail
    clear k1 k2 k3 v1 v2 v3 c0 c1
    refine (HRS.out _).mono ?_
    rintro e W4 ⟨p4, c4, rfl, hX4, hb4⟩
    have K4 := Lib.hid (K3.out.grow hb4)
    have A4 := Lib.hid (A3.out.grow hb4)
    have V4 := Lib.hid (V3.out.grow hb4)
    have B4 := Lib.hid (B3.out.trans (hb4.mono B3.out.size))
    have Y4 := Lib.hid hX4
    have Y3' := Lib.hid (Y3.out.grow hb4)
    clear Y3
    have Y3 := Y3'
    clear Y3'
    clear hb4 hX4 K3 A3 V3 B3
    obtain ⟨k1, k2, k3⟩ := K4.out
    obtain ⟨v1, v2, v3⟩ := V4.out
    have c0 : W4.cell? ⟨ga, 0, none⟩ = some (.int .i64 z0) := A4.out.cellAt 0 rfl
    have c1 : W4.cell? ⟨ga, 1, none⟩ = some (.int .i64 z1) := A4.out.cellAt 1 rfl
    go_wp2_with fail
    clear k1 k2 k3 v1 v2 v3 c0 c1
    refine (HX.out _ B4.out).mono ?_
    rintro e W5 ⟨p5, c5, rfl, hX5, hb5⟩
    have K5 := Lib.hid (K4.out.grow hb5)
    have A5 := Lib.hid (A4.out.grow hb5)
    have V5 := Lib.hid (V4.out.grow hb5)
    have B5 := Lib.hid (B4.out.trans (hb5.mono B4.out.size))
    have Y5 := Lib.hid hX5
    have Y3' := Lib.hid (Y3.out.grow hb5)
    clear Y3
    have Y3 := Y3'
    clear Y3'
    have Y4' := Lib.hid (Y4.out.grow hb5)
    clear Y4
    have Y4 := Y4'
    clear Y4'
    clear hb5 hX5 K4 A4 V4 B4
    obtain ⟨k1, k2, k3⟩ := K5.out
    obtain ⟨v1, v2, v3⟩ := V5.out
    have c0 : W5.cell? ⟨ga, 0, none⟩ = some (.int .i64 z0) := A5.out.cellAt 0 rfl
    have c1 : W5.cell? ⟨ga, 1, none⟩ = some (.int .i64 z1) := A5.out.cellAt 1 rfl
    go_wp2_with fail
    clear k1 k2 k3 v1 v2 v3 c0 c1
    refine (HRX.out _ B5.out).mono ?_
    rintro e W6 ⟨p6, c6, rfl, hX6, hb6⟩
    have K6 := Lib.hid (K5.out.grow hb6)
    have A6 := Lib.hid (A5.out.grow hb6)
    have V6 := Lib.hid (V5.out.grow hb6)
    have B6 := Lib.hid (B5.out.trans (hb6.mono B5.out.size))
    have Y6 := Lib.hid hX6
    have Y3' := Lib.hid (Y3.out.grow hb6)
    clear Y3
    have Y3 := Y3'
    clear Y3'
    have Y4' := Lib.hid (Y4.out.grow hb6)
    clear Y4
    have Y4 := Y4'
    clear Y4'
    have Y5' := Lib.hid (Y5.out.grow hb6)
    clear Y5
    have Y5 := Y5'
    clear Y5'
    clear hb6 hX6 K5 A5 V5 B5
    have hcv3 : (cvBS (.slice p3 nx c3)).run Try.prog W6 = .ok (.string (toS X)) W6 := run_cvBS Y3.out Enx.out
    have hcv4 : (cvBS (.slice p4 nx c4)).run Try.prog W6 = .ok (.string (toS X)) W6 := run_cvBS Y4.out Enx.out
    have hcv5 : (cvBS (.slice p5 ny c5)).run Try.prog W6 = .ok (.string (toS Y)) W6 := run_cvBS Y5.out Eny.out
    have hcv6 : (cvBS (.slice p6 ny c6)).run Try.prog W6 = .ok (.string (toS Y)) W6 := run_cvBS Y6.out Eny.out
    generalize toS X = SX at *
    generalize toS Y = SY at *
    go_wp2_with fail
    go_ret
    exact ⟨rfl, B6.out⟩
end Go.Proofs.Ytcaleepbnjlbpaa
