/-
  Package chacha: so many bytes of a stream.
-/
import Derived.Test.YtcaleepbnjlbpaaChaBlock
import Derived.Test.YtcaleepbnjlbpaaCopyAt
namespace Go.Proofs.Ytcaleepbnjlbpaa
open Go.RowKit Go.Hold Go.Sh Go.Ch

set_option maxHeartbeats 400000 in
theorem blocksOf_c (n : Nat) (hn : n ≤ 1000000) (w : World) : Calls Try.prog 20 #[.int .i64 (n : Int)] w fun e w' => e = .returned (.int .i64 (((n + 63) / 64 : Nat) : Int)) ∧ w' = w := by
  have h1 : IntKind.i64.wrap ((n : Int) + 64) = ((n + 64 : Nat) : Int) := by rw [IntWalk.i64_in _ (by omega)]; omega
  have h2 : IntKind.i64.wrap (((n + 64 : Nat) : Int) - 1) = ((n + 63 : Nat) : Int) := by rw [IntWalk.i64_in _ (by omega)]; omega
  have h3 : ((n + 63 : Nat) : Int).tdiv 64 = (((n + 63) / 64 : Nat) : Int) := rfl
  have h4 : IntKind.i64.wrap (((n + 63) / 64 : Nat) : Int) = (((n + 63) / 64 : Nat) : Int) := by rw [IntWalk.i64_in _ (by omega)]
  generalize (((n + 63) / 64 : Nat) : Int) = x at *
  generalize ((n + 63 : Nat) : Int) = y at *
  generalize ((n + 64 : Nat) : Int) = z at *
  go_enter Try.func20, Try.ntmps20
  go_wp2_with fail
  go_ret
  exact ⟨rfl, rfl⟩

set_option maxHeartbeats 400000 in
set_option maxRecDepth 100000 in
/-- What is refused. -/
theorem stream_bad (k n : List Nat) (c : Nat) (z er : Int) (hc : c < 4294967296) (w : World)
    (h : z < 0 ∧ er = 2 ∨ 65536 < z ∧ er = 3 ∨ 0 ≤ z ∧ z ≤ 65536 ∧ 4294967296 < c + (z.toNat + 63) / 64 ∧ er = 3) :
    Calls Try.prog 11 #[.agg (bysA k), .agg (bysA n), .int .u32 (c : Int), .int .i64 z] w fun e w' => e = .returned (.tuple #[.slice none 0 0, .int .i64 er]) ∧ Below w.heap.size w w' := by
  rcases h with ⟨h1, rfl⟩ | ⟨h1, rfl⟩ | ⟨h0, h1, h2, rfl⟩
  · go_enter Try.func11, Try.ntmps11
    go_wp2_with fail
    refine bodyPost_ret (v := .tuple #[.slice none 0 0, .int .i64 2]) (results_tmp2 Try.results11 _ _ _) rfl ⟨rfl, by repeat (first | apply below_alloc | exact Below.refl _ _)⟩
  · have h0 : ¬ z < 0 := by omega
    go_enter Try.func11, Try.ntmps11
    go_wp2_with fail
    refine bodyPost_ret (v := .tuple #[.slice none 0 0, .int .i64 3]) (results_tmp2 Try.results11 _ _ _) rfl ⟨rfl, by repeat (first | apply below_alloc | exact Below.refl _ _)⟩
  · obtain ⟨m, rfl⟩ : ∃ m : Nat, z = (m : Int) := ⟨z.toNat, by omega⟩
    rw [Int.toNat_natCast] at h2
    have h3 : ¬ (m : Int) < 0 := by omega
    have h4 : ¬ (65536 : Int) < (m : Int) := by omega
    have HB := Lib.hid (blocksOf_c m (by omega))
    obtain ⟨x, ex⟩ : ∃ x, x = (m + 63) / 64 := ⟨_, rfl⟩
    rw [← ex] at HB h2
    have h5 : IntKind.u64.wrap (c : Int) = (c : Int) := IntWalk.u64_in _ (by omega)
    have h6 : IntKind.u64.wrap (x : Int) = (x : Int) := IntWalk.u64_in _ (by omega)
    have h7 : IntKind.u64.wrap ((c : Int) + (x : Int)) = ((c + x : Nat) : Int) := by rw [IntWalk.u64_in _ (by omega)]; omega
    have h8 : (4294967296 : Int) < ((c + x : Nat) : Int) := by omega
    generalize ((c + x : Nat) : Int) = y at *
    clear ex
    go_enter Try.func11, Try.ntmps11
    go_wp2_with fail
    refine (HB.out _).mono ?_
    rintro e w' ⟨rfl, hwE⟩
    rw [hwE]
    clear hwE w'
    go_wp2_with fail
    refine bodyPost_ret (v := .tuple #[.slice none 0 0, .int .i64 3]) (results_tmp2 Try.results11 _ _ _) rfl ⟨rfl, by repeat (first | apply below_alloc | exact Below.refl _ _)⟩

set_option maxHeartbeats 1000000 in
set_option maxRecDepth 100000 in
theorem stream_c (k n : List Nat) (c m : Nat) (hk : k.length = 32) (hkb : ∀ i, k.getD i 0 < 256) (hn : n.length = 12) (hnb : ∀ i, n.getD i 0 < 256) (hm : m ≤ 65536) (hc : c + (m + 63) / 64 ≤ 4294967296) (hc' : c < 4294967296) (w : World) :
    Calls Try.prog 11 #[.agg (bysA k), .agg (bysA n), .int .u32 (c : Int), .int .i64 (m : Int)] w fun e w' => ∃ g, e = .returned (.tuple #[.slice (some ⟨g, 0, none⟩) m m, .int .i64 0]) ∧ RowAt w' g (bysA (strm k n c m)) ∧ w.heap.size ≤ g ∧ Below w.heap.size w w' := by
  have hks := bysA_size' hk
  have hns := bysA_size' hn
  have h3 : ¬ (m : Int) < 0 := by omega
  have h4 : ¬ (65536 : Int) < (m : Int) := by omega
  have HB := Lib.hid (blocksOf_c m (by omega))
  obtain ⟨x, ex⟩ : ∃ x, x = (m + 63) / 64 := ⟨_, rfl⟩
  rw [← ex] at HB hc
  have h5 : IntKind.u64.wrap (c : Int) = (c : Int) := IntWalk.u64_in _ (by omega)
  have h6 : IntKind.u64.wrap (x : Int) = (x : Int) := IntWalk.u64_in _ (by omega)
  have h7 : IntKind.u64.wrap ((c : Int) + (x : Int)) = ((c + x : Nat) : Int) := by rw [IntWalk.u64_in _ (by omega)]; omega
  have h8 : ¬ (4294967296 : Int) < ((c + x : Nat) : Int) := by omega
  generalize ((c + x : Nat) : Int) = y at *
  have Ex := Lib.hid ex
  have Hc := Lib.hid hc
  have Hm := Lib.hid hm
  have hxb : (x : Int) ≤ 2000 := by omega
  clear ex hc hm
  have hmk := fun W => run_mkS W m (by have := Hm.out; omega)
  have HBl := Lib.hid (fun c' => chablock_c k n c' hk hkb hn hnb)
  clear hk hkb hn hnb
  go_enter Try.func11, Try.ntmps11
  go_wp2_with fail
  refine (HB.out _).mono ?_
  rintro e w' ⟨rfl, hwE⟩
  rw [hwE]
  clear hwE w'
  go_wp2_with fail
  generalize hW : World.alloc _ _ = W1
  have K1 := Lib.hid (show RowAt W1 w.heap.size (bysA k) by rw [← hW]; clear hW; exact ⟨by go_simp, by go_simp, by go_simp⟩)
  have N1 := Lib.hid (show RowAt W1 (w.heap.size + 1) (bysA n) by rw [← hW]; clear hW; exact ⟨by go_simp, by go_simp, by go_simp⟩)
  have S1 := Lib.hid (show RowAt W1 (w.heap.size + 1 + 1) (bysA (strP k n c m (64 * 0))) by rw [← hW, Nat.mul_zero, strP_zero]; clear hW; exact ⟨by go_simp, by go_simp, by go_simp⟩)
  have B1 := Lib.hid (show Below w.heap.size w W1 by rw [← hW]; repeat (first | apply below_more | apply below_alloc | apply Below.drew | exact Below.refl _ _))
  clear hW
  have l0 : w.heap.size ≤ w.heap.size + 1 + 1 := by omega
  have e0 : w.heap.size ≠ w.heap.size + 1 + 1 := by omega
  have e1 : w.heap.size + 1 ≠ w.heap.size + 1 + 1 := by omega
  generalize w.heap.size + 1 + 1 = g at *
  generalize w.heap.size + 1 = gn at *
  go_loopw [29] (fun i wr => ∃ j : Nat, j ≤ x ∧ i = .int .i64 j ∧ Sets W1 g (bysA (strP k n c m (64 * j))) wr) (fun i _ => x - (intOf i).toNat)
  case atStart => exact ⟨0, Nat.zero_le _, rfl, Sets.refl S1.out⟩
  case round =>
    obtain ⟨j, hj, rfl, hset⟩ := hrel
    by_cases hjx : j < x
    · have hj0 : (j : Int) < (x : Int) := by omega
      have hju : 64 * j < m := by have := Ex.out; omega
      have hjw : IntKind.u32.wrap (j : Int) = (j : Int) := IntWalk.u32_in _ (by have := Hm.out; omega)
      obtain ⟨cj, ecj⟩ : ∃ y, y = c + j := ⟨_, rfl⟩
      have hcj : add32 (c : Int) (j : Int) = (cj : Int) := by unfold add32; rw [IntWalk.u32_in _ (by have := Hc.out; omega), ecj]; omega
      obtain ⟨k1, k2, k3⟩ := hset.old K1.out e0
      obtain ⟨n1, n2, n3⟩ := hset.old N1.out e1
      have hgl := (hset.row S1.out).2.2
      obtain ⟨u, eu⟩ : ∃ u, u = 64 * j := ⟨_, rfl⟩
      have hjm : IntKind.i64.wrap ((j : Int) * 64) = (u : Int) := by rw [IntWalk.i64_in _ (by have := Hm.out; omega), eu]; omega
      have hsl := slB_lo g 0 m m u (by omega)
      rw [show adv 0 u m = u by unfold adv; rw [if_neg (by omega), Nat.zero_add]] at hsl
      obtain ⟨t, et⟩ : ∃ t, t = min 64 (m - u) := ⟨_, rfl⟩
      have Hst := Lib.hid (strP_step k n c m j t hju (by rw [et, eu]))
      rw [← ecj, ← eu] at Hst
      rw [← eu] at hset
      have hPl := strP_length k n c m u
      have hbl := blk_length k n cj
      have hbz := bysA_size' hbl
      have HBj := Lib.hid (HBl.out cj wr)
      generalize blk k n cj = b at *
      generalize strP k n c m u = P at *
      have Et := Lib.hid et
      have Eu := Lib.hid eu
      have HPl := Lib.hid hPl
      have Hbl := Lib.hid hbl
      have Hju := Lib.hid hju
      have HS := Lib.hid hset
      clear hset ecj eu et hPl hbl hju
      go_wp2_with fail
      refine HBj.out.mono ?_
      rintro e W2 ⟨rfl, hb2⟩
      have S2 := Lib.hid (HS.out.grow hb2)
      clear hb2 k1 k2 k3 n1 n2 n3
      go_wp2_with fail
      generalize hW : World.alloc _ _ = W3
      have b3 := Lib.hid (show RowAt W3 W2.heap.size (bysA b) by rw [← hW]; clear hW; exact ⟨by go_simp, by go_simp, by go_simp⟩)
      have S3 := Lib.hid (show Sets W1 g (bysA P) W3 by rw [← hW]; exact S2.out.grow (below_alloc (Below.refl _ _) _))
      clear hW S2
      generalize W2.heap.size = gb at *
      refine wp_region_pickT W3 [0, 1, 2, 3, 4] [true, true, true, true, true] [5] (by kernel_rfl) (by kernel_rfl) (by intro c a d v w h; cases d <;> exact h) ((Below.refl _ _).drew) ?_
      simp only [pick, List.getElem?_cons_succ, List.getElem?_cons_zero]
      iterate 5 (refine wpHoldF_late (wanted_none rfl) (fun w => by go_simp; rfl) ?_)
      refine wpHoldF_nil ?_
      intro W4 hb4
      have S4 := Lib.hid (S3.out.grow hb4)
      have hcp := copy_at (c2 := m - u) (cap := 64) (d := m - u) (s := 64) (u := u) (k := t) (S4.out.row S1.out) (by rw [HPl.out, Eu.out]; have := Hju.out; omega) (by rw [HPl.out]) Hbl.out.symm (by rw [HPl.out, Hbl.out, Et.out]) (Bs0.some (bytes_row (b3.out.grow hb4)))
      rw [Hst.out] at hcp
      have S5 := Lib.hid (S4.out.set (c' := bysA (strP k n c m (64 * (j + 1)))) S1.out)
      generalize W4.setRow g (bysA (strP k n c m (64 * (j + 1)))) = W5 at *
      clear hb4
      go_wp2_with fail
      go_roundw
      case rel => exact ⟨j + 1, by omega, by go_num, S5.out⟩
      case measure => simp [intOf]; omega
    · obtain rfl : j = x := by omega
      have R2 := Lib.hid (hset.row S1.out)
      have B2 := Lib.hid (hset.below B1.out l0 B1.out.size)
      clear hset
      go_wp2_with fail
      refine bodyPost_ret (v := .tuple #[.slice (some ⟨g, 0, none⟩) m m, .int .i64 0]) (results_tmp2 Try.results11 _ _ _) rfl ⟨g, rfl, ?_, l0, B2.out⟩
      have h1 := R2.out
      rw [strP_all k n c m _ (by have := Ex.out; omega)] at h1
      exact h1
end Go.Proofs.Ytcaleepbnjlbpaa
