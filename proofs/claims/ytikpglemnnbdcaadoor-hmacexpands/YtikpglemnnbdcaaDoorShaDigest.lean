/-
  Package sha: the digest of what a hash has.
-/
import Derived.Test.YtikpglemnnbdcaaDoorShaHash
namespace Go.Proofs.YtikpglemnnbdcaaDoor
open Go.RowKit Go.Hold Go.Sh

theorem cast_tmod64 (k : Nat) : (k : Int).tmod 64 = ((k % 64 : Nat) : Int) := rfl
set_option maxHeartbeats 2000000 in
set_option maxRecDepth 100000 in
theorem digest_c (g n : Nat) (s : St) (r : List Nat) (w : World) (hT : Tabs w) (h : RowAt w g (hasA true n s r)) (hr : r.length = 64) (hrb : ∀ i, r.getD i 0 < 256) (hn : n < 1152921504606846976) :
    Calls Tryd.prog 30 #[.pointer (some ⟨g, 0, none⟩)] w fun e w' => e = .returned (.agg (keA (digF n s r))) ∧ Below w.heap.size w w' := by
  have HT := Lib.hid hT
  obtain ⟨h1, h2, h3⟩ := h
  have hs : (hasA true n s r).size = 74 := by rw [hasA_size, hr]
  have hrs := rsPart_has true n s r hr
  have hbr : (bysA r).size = 64 := by rw [bysA_size, hr]
  have h4 : g < w.heap.size + 1 := by omega
  have h5 : g < w.heap.size + 1 + 1 := by omega
  have h6 : g < w.heap.size + 1 + 1 + 1 := by omega
  have hgw := h3
  clear hT
  go_enter Tryd.func30, Tryd.ntmps30
  go_wp2_with fail
  go_region
  · generalize hW : World.drew _ = W1
    have hR0 := Lib.hid (show ∃ c, c.size = 32 ∧ RowAt W1 w.heap.size c by rw [← hW]; clear hW; exact ⟨byI (List.replicate 32 0), by simp [byI], by go_simp, by go_simp; rfl, by go_simp⟩)
    have hP0 := Lib.hid (show RowAt W1 (w.heap.size + 1) (stA s) by rw [← hW]; clear hW; exact ⟨by go_simp, by go_simp, by go_simp⟩)
    have hQ0 := Lib.hid (show RowAt W1 (w.heap.size + 1 + 1) (bysA r) by rw [← hW]; clear hW; exact ⟨by go_simp, by go_simp, by go_simp⟩)
    have hG0 := Lib.hid (show RowAt W1 g (hasA true n s r) by rw [← hW]; clear hW; exact ⟨by go_simp, by go_simp, by go_simp⟩)
    have B0 := Lib.hid (show Below w.heap.size w W1 by rw [← hW]; repeat (first | apply below_more | apply below_alloc | apply Below.drew | exact Below.refl _ _))
    clear hW
    obtain ⟨p, ep⟩ : ∃ p, p = w.heap.size + 1 := ⟨_, rfl⟩
    obtain ⟨q, eq⟩ : ∃ q, q = w.heap.size + 1 + 1 := ⟨_, rfl⟩
    have npq : ¬ p = q := by omega
    have nqp : ¬ q = p := by omega
    have lp : w.heap.size < p := by omega
    have lq : w.heap.size < q := by omega
    rw [← eq] at hQ0 ⊢
    rw [← ep] at hP0 ⊢
    clear ep eq h1 h2 h3 h4 h5 h6
    have hcn := hG0.out.cellAt 1 (show (hasA true n s r)[1]? = some (.int .i64 n) from rfl)
    have hu := cast_tmod64 n
    obtain ⟨u, eu⟩ : ∃ u, u = n % 64 := ⟨_, rfl⟩
    rw [← eu] at hu
    have hu0 : (0 : Int) ≤ (u : Int) := by omega
    have hu1 : (u : Int) < 64 := by omega
    have hul : u < r.length := by omega
    have hqu := hQ0.out.cellAt u (bysA_get r u hul)
    have hqf := hQ0.out.frozenAt u
    have HE := Lib.hid eu
    clear eu
    have hQ1 := Lib.hid (show RowAt (W1.setCell ⟨q, u, none⟩ (.int .u8 128)) q (bysA (r.set u 128)) from (by rw [← bysA_set]; exact hQ0.out.setCell u _))
    have hset := setCell_row hQ0.out u (.int .u8 128)
    have hP1 := Lib.hid (hP0.out.other npq ((bysA r).setIfInBounds u (.int .u8 128)))
    have hG1 := Lib.hid (hG0.out.other (show g ≠ q by omega) ((bysA r).setIfInBounds u (.int .u8 128)))
    obtain ⟨c0, hc0, hR1⟩ := hR0.out
    replace hR1 := Lib.hid (show ∃ c, c.size = 32 ∧ RowAt _ w.heap.size c from ⟨c0, hc0, hR1.other (show w.heap.size ≠ q by omega) ((bysA r).setIfInBounds u (.int .u8 128))⟩)
    have B1 := Lib.hid (below_setRow B0.out (show w.heap.size ≤ q by omega) ((bysA r).setIfInBounds u (.int .u8 128)))
    rw [← hset] at hP1 hG1 hR1 B1
    have hl1 : (r.set u 128).length = 64 := by rw [List.length_set, hr]
    have hs1 : (bysA (r.set u 128)).size = 64 := by rw [bysA_size, hl1]
    have hb1 := bts_set hrb (show 128 < 256 by decide) u
    clear hset hc0 c0
    by_cases h56 : 56 ≤ u
    · have h56' : (56 : Int) ≤ (u : Int) := by omega
      obtain ⟨a1, a2, a3⟩ := hP1.out
      obtain ⟨b1, b2, b3⟩ := hQ1.out
      go_wp2_with fail
      clear hcn hqu hqf hQ0 hP0 hG0 hR0 B0
      generalize W1.setCell ⟨q, u, none⟩ (.int .u8 128) = W2 at *
      refine (behind_c _ _ hl1 hb1 _ (HT.out.grow B1.out)).mono ?_
      rintro e w' ⟨rfl, hbw⟩
      have hzz : (bysA (zs 64)).size = 64 := by rw [bysA_size]; rfl
      have hP2 := Lib.hid (((hP1.out.grow hbw).set (stA (scmp s (r.set u 128)))).other npq (bysA (zs 64)))
      have hQ2 := Lib.hid (((hQ1.out.grow hbw).other nqp (stA (scmp s (r.set u 128)))).set (bysA (zs 64)))
      have hG2 := Lib.hid (((hG1.out.grow hbw).other (show g ≠ p by omega) (stA (scmp s (r.set u 128)))).other (show g ≠ q by omega) (bysA (zs 64)))
      obtain ⟨c0, hc0, hR2⟩ := hR1.out
      replace hR2 := Lib.hid (show ∃ c, c.size = 32 ∧ RowAt _ w.heap.size c from ⟨c0, hc0, ((hR2.grow hbw).other (show w.heap.size ≠ p by omega) (stA (scmp s (r.set u 128)))).other (show w.heap.size ≠ q by omega) (bysA (zs 64))⟩)
      have B2 := Lib.hid (below_setRow (below_setRow (B1.out.trans (hbw.mono B1.out.size)) (show w.heap.size ≤ p by omega) (stA (scmp s (r.set u 128)))) (show w.heap.size ≤ q by omega) (bysA (zs 64)))
      have A1 := hP1.out.grow hbw
      have A2 := hQ1.out.grow hbw
      clear a1 a2 a3 b1 b2 b3
      obtain ⟨a1, a2, a3⟩ := A1
      obtain ⟨b1, b2, b3⟩ := A2
      have hcm := hG2.out.cellAt 1 (show (hasA true n s r)[1]? = some (.int .i64 n) from rfl)
      clear hbw
      go_wp2_with fail
      generalize (w'.setRow p (stA (scmp s (r.set u 128)))).setRow q (bysA (zs 64)) = W3 at *
      clear a1 a2 a3 b1 b2 b3 hP1 hQ1 hG1 hR1 B1 hc0 c0 hcm
      refine (putLength_c q n _ rfl hn _ hQ2.out).mono ?_
      rintro e w' ⟨rfl, rfl⟩
      have hP9 := Lib.hid (hP2.out.other npq (bysA ((zs 64).take 56 ++ len8 n)))
      have hQ9 := Lib.hid (hQ2.out.set (bysA ((zs 64).take 56 ++ len8 n)))
      obtain ⟨c0, hc0, hR9⟩ := hR2.out
      replace hR9 := Lib.hid (hR9.other (show w.heap.size ≠ q by omega) (bysA ((zs 64).take 56 ++ len8 n)))
      have B9 := Lib.hid (below_setRow B2.out (show w.heap.size ≤ q by omega) (bysA ((zs 64).take 56 ++ len8 n)))
      generalize W3.setRow q (bysA ((zs 64).take 56 ++ len8 n)) = W9 at *
      have hs9 : (bysA ((zs 64).take 56 ++ len8 n)).size = 64 := by rw [bysA_size]; exact rfl
      obtain ⟨a1, a2, a3⟩ := hP9.out
      obtain ⟨b1, b2, b3⟩ := hQ9.out
      obtain ⟨r1, r2, r3⟩ := hR9.out
      go_wp2_with fail
      refine (behind_c _ _ rfl (bts_app (bts_take (bts_zs 64) 56) (bts_len8 n)) _ (HT.out.grow B9.out)).mono ?_
      rintro e w' ⟨rfl, hbw⟩
      obtain ⟨oc1, nc1, rfl⟩ := below_plus hbw
      clear hbw
      go_wp2_with fail
      refine (key_c _ _).mono ?_
      rintro e w' ⟨rfl, hbw⟩
      obtain ⟨oc2, nc2, rfl⟩ := below_plus hbw
      clear hbw
      have hlt : w.heap.size < W9.heap.size + oc1.size := by omega
      go_wp2_with fail
      refine bodyPost_ret (v := .agg (keA (digF n s r))) (results_key Tryd.results30 (keA_size _) _ _ _ rfl (by go_simp) (by go_simp; unfold digF; rw [← HE.out, if_pos h56])) rfl ⟨rfl, ?_⟩
      repeat (first | apply below_more | refine below_setRow ?_ (Nat.le_refl _) _ | exact B9.out)
    · have h56' : ¬ (56 : Int) ≤ (u : Int) := by omega
      have hcm := hG1.out.cellAt 1 (show (hasA true n s r)[1]? = some (.int .i64 n) from rfl)
      go_wp2_with fail
      clear hcn hqu hqf hQ0 hP0 hG0 hR0 B0 hcm
      generalize W1.setCell ⟨q, u, none⟩ (.int .u8 128) = W2 at *
      refine (putLength_c q n _ hl1 hn _ hQ1.out).mono ?_
      rintro e w' ⟨rfl, rfl⟩
      have hP9 := Lib.hid (hP1.out.other npq (bysA ((r.set u 128).take 56 ++ len8 n)))
      have hQ9 := Lib.hid (hQ1.out.set (bysA ((r.set u 128).take 56 ++ len8 n)))
      obtain ⟨c0, hc0, hR9⟩ := hR1.out
      replace hR9 := Lib.hid (hR9.other (show w.heap.size ≠ q by omega) (bysA ((r.set u 128).take 56 ++ len8 n)))
      have B9 := Lib.hid (below_setRow B1.out (show w.heap.size ≤ q by omega) (bysA ((r.set u 128).take 56 ++ len8 n)))
      generalize W2.setRow q (bysA ((r.set u 128).take 56 ++ len8 n)) = W9 at *
      have hs9 : (bysA ((r.set u 128).take 56 ++ len8 n)).size = 64 := by rw [bysA_size]; exact (by rw [List.length_append, List.length_take, hl1]; rfl)
      obtain ⟨a1, a2, a3⟩ := hP9.out
      obtain ⟨b1, b2, b3⟩ := hQ9.out
      obtain ⟨r1, r2, r3⟩ := hR9.out
      go_wp2_with fail
      refine (behind_c _ _ (by rw [List.length_append, List.length_take, hl1]; rfl) (bts_app (bts_take hb1 56) (bts_len8 n)) _ (HT.out.grow B9.out)).mono ?_
      rintro e w' ⟨rfl, hbw⟩
      obtain ⟨oc1, nc1, rfl⟩ := below_plus hbw
      clear hbw
      go_wp2_with fail
      refine (key_c _ _).mono ?_
      rintro e w' ⟨rfl, hbw⟩
      obtain ⟨oc2, nc2, rfl⟩ := below_plus hbw
      clear hbw
      have hlt : w.heap.size < W9.heap.size + oc1.size := by omega
      go_wp2_with fail
      refine bodyPost_ret (v := .agg (keA (digF n s r))) (results_key Tryd.results30 (keA_size _) _ _ _ rfl (by go_simp) (by go_simp; unfold digF; rw [← HE.out, if_neg h56])) rfl ⟨rfl, ?_⟩
      repeat (first | apply below_more | refine below_setRow ?_ (Nat.le_refl _) _ | exact B9.out)
  · generalize hW : World.drew _ = W1
    have hR0 := Lib.hid (show ∃ c, c.size = 32 ∧ RowAt W1 w.heap.size c by rw [← hW]; clear hW; exact ⟨byI (List.replicate 32 0), by simp [byI], by go_simp, by go_simp; rfl, by go_simp⟩)
    have hP0 := Lib.hid (show RowAt W1 (w.heap.size + 1 + 1) (stA s) by rw [← hW]; clear hW; exact ⟨by go_simp, by go_simp, by go_simp⟩)
    have hQ0 := Lib.hid (show RowAt W1 (w.heap.size + 1) (bysA r) by rw [← hW]; clear hW; exact ⟨by go_simp, by go_simp, by go_simp⟩)
    have hG0 := Lib.hid (show RowAt W1 g (hasA true n s r) by rw [← hW]; clear hW; exact ⟨by go_simp, by go_simp, by go_simp⟩)
    have B0 := Lib.hid (show Below w.heap.size w W1 by rw [← hW]; repeat (first | apply below_more | apply below_alloc | apply Below.drew | exact Below.refl _ _))
    clear hW
    obtain ⟨p, ep⟩ : ∃ p, p = w.heap.size + 1 + 1 := ⟨_, rfl⟩
    obtain ⟨q, eq⟩ : ∃ q, q = w.heap.size + 1 := ⟨_, rfl⟩
    have npq : ¬ p = q := by omega
    have nqp : ¬ q = p := by omega
    have lp : w.heap.size < p := by omega
    have lq : w.heap.size < q := by omega
    rw [← ep] at hP0 ⊢
    rw [← eq] at hQ0 ⊢
    clear ep eq h1 h2 h3 h4 h5 h6
    have hcn := hG0.out.cellAt 1 (show (hasA true n s r)[1]? = some (.int .i64 n) from rfl)
    have hu := cast_tmod64 n
    obtain ⟨u, eu⟩ : ∃ u, u = n % 64 := ⟨_, rfl⟩
    rw [← eu] at hu
    have hu0 : (0 : Int) ≤ (u : Int) := by omega
    have hu1 : (u : Int) < 64 := by omega
    have hul : u < r.length := by omega
    have hqu := hQ0.out.cellAt u (bysA_get r u hul)
    have hqf := hQ0.out.frozenAt u
    have HE := Lib.hid eu
    clear eu
    have hQ1 := Lib.hid (show RowAt (W1.setCell ⟨q, u, none⟩ (.int .u8 128)) q (bysA (r.set u 128)) from (by rw [← bysA_set]; exact hQ0.out.setCell u _))
    have hset := setCell_row hQ0.out u (.int .u8 128)
    have hP1 := Lib.hid (hP0.out.other npq ((bysA r).setIfInBounds u (.int .u8 128)))
    have hG1 := Lib.hid (hG0.out.other (show g ≠ q by omega) ((bysA r).setIfInBounds u (.int .u8 128)))
    obtain ⟨c0, hc0, hR1⟩ := hR0.out
    replace hR1 := Lib.hid (show ∃ c, c.size = 32 ∧ RowAt _ w.heap.size c from ⟨c0, hc0, hR1.other (show w.heap.size ≠ q by omega) ((bysA r).setIfInBounds u (.int .u8 128))⟩)
    have B1 := Lib.hid (below_setRow B0.out (show w.heap.size ≤ q by omega) ((bysA r).setIfInBounds u (.int .u8 128)))
    rw [← hset] at hP1 hG1 hR1 B1
    have hl1 : (r.set u 128).length = 64 := by rw [List.length_set, hr]
    have hs1 : (bysA (r.set u 128)).size = 64 := by rw [bysA_size, hl1]
    have hb1 := bts_set hrb (show 128 < 256 by decide) u
    clear hset hc0 c0
    by_cases h56 : 56 ≤ u
    · have h56' : (56 : Int) ≤ (u : Int) := by omega
      obtain ⟨a1, a2, a3⟩ := hP1.out
      obtain ⟨b1, b2, b3⟩ := hQ1.out
      go_wp2_with fail
      clear hcn hqu hqf hQ0 hP0 hG0 hR0 B0
      generalize W1.setCell ⟨q, u, none⟩ (.int .u8 128) = W2 at *
      refine (behind_c _ _ hl1 hb1 _ (HT.out.grow B1.out)).mono ?_
      rintro e w' ⟨rfl, hbw⟩
      have hzz : (bysA (zs 64)).size = 64 := by rw [bysA_size]; rfl
      have hP2 := Lib.hid (((hP1.out.grow hbw).set (stA (scmp s (r.set u 128)))).other npq (bysA (zs 64)))
      have hQ2 := Lib.hid (((hQ1.out.grow hbw).other nqp (stA (scmp s (r.set u 128)))).set (bysA (zs 64)))
      have hG2 := Lib.hid (((hG1.out.grow hbw).other (show g ≠ p by omega) (stA (scmp s (r.set u 128)))).other (show g ≠ q by omega) (bysA (zs 64)))
      obtain ⟨c0, hc0, hR2⟩ := hR1.out
      replace hR2 := Lib.hid (show ∃ c, c.size = 32 ∧ RowAt _ w.heap.size c from ⟨c0, hc0, ((hR2.grow hbw).other (show w.heap.size ≠ p by omega) (stA (scmp s (r.set u 128)))).other (show w.heap.size ≠ q by omega) (bysA (zs 64))⟩)
      have B2 := Lib.hid (below_setRow (below_setRow (B1.out.trans (hbw.mono B1.out.size)) (show w.heap.size ≤ p by omega) (stA (scmp s (r.set u 128)))) (show w.heap.size ≤ q by omega) (bysA (zs 64)))
      have A1 := hP1.out.grow hbw
      have A2 := hQ1.out.grow hbw
      clear a1 a2 a3 b1 b2 b3
      obtain ⟨a1, a2, a3⟩ := A1
      obtain ⟨b1, b2, b3⟩ := A2
      have hcm := hG2.out.cellAt 1 (show (hasA true n s r)[1]? = some (.int .i64 n) from rfl)
      clear hbw
      go_wp2_with fail
      generalize (w'.setRow p (stA (scmp s (r.set u 128)))).setRow q (bysA (zs 64)) = W3 at *
      clear a1 a2 a3 b1 b2 b3 hP1 hQ1 hG1 hR1 B1 hc0 c0 hcm
      refine (putLength_c q n _ rfl hn _ hQ2.out).mono ?_
      rintro e w' ⟨rfl, rfl⟩
      have hP9 := Lib.hid (hP2.out.other npq (bysA ((zs 64).take 56 ++ len8 n)))
      have hQ9 := Lib.hid (hQ2.out.set (bysA ((zs 64).take 56 ++ len8 n)))
      obtain ⟨c0, hc0, hR9⟩ := hR2.out
      replace hR9 := Lib.hid (hR9.other (show w.heap.size ≠ q by omega) (bysA ((zs 64).take 56 ++ len8 n)))
      have B9 := Lib.hid (below_setRow B2.out (show w.heap.size ≤ q by omega) (bysA ((zs 64).take 56 ++ len8 n)))
      generalize W3.setRow q (bysA ((zs 64).take 56 ++ len8 n)) = W9 at *
      have hs9 : (bysA ((zs 64).take 56 ++ len8 n)).size = 64 := by rw [bysA_size]; exact rfl
      obtain ⟨a1, a2, a3⟩ := hP9.out
      obtain ⟨b1, b2, b3⟩ := hQ9.out
      obtain ⟨r1, r2, r3⟩ := hR9.out
      go_wp2_with fail
      refine (behind_c _ _ rfl (bts_app (bts_take (bts_zs 64) 56) (bts_len8 n)) _ (HT.out.grow B9.out)).mono ?_
      rintro e w' ⟨rfl, hbw⟩
      obtain ⟨oc1, nc1, rfl⟩ := below_plus hbw
      clear hbw
      go_wp2_with fail
      refine (key_c _ _).mono ?_
      rintro e w' ⟨rfl, hbw⟩
      obtain ⟨oc2, nc2, rfl⟩ := below_plus hbw
      clear hbw
      have hlt : w.heap.size < W9.heap.size + oc1.size := by omega
      go_wp2_with fail
      refine bodyPost_ret (v := .agg (keA (digF n s r))) (results_key Tryd.results30 (keA_size _) _ _ _ rfl (by go_simp) (by go_simp; unfold digF; rw [← HE.out, if_pos h56])) rfl ⟨rfl, ?_⟩
      repeat (first | apply below_more | refine below_setRow ?_ (Nat.le_refl _) _ | exact B9.out)
    · have h56' : ¬ (56 : Int) ≤ (u : Int) := by omega
      have hcm := hG1.out.cellAt 1 (show (hasA true n s r)[1]? = some (.int .i64 n) from rfl)
      go_wp2_with fail
      clear hcn hqu hqf hQ0 hP0 hG0 hR0 B0 hcm
      generalize W1.setCell ⟨q, u, none⟩ (.int .u8 128) = W2 at *
      refine (putLength_c q n _ hl1 hn _ hQ1.out).mono ?_
      rintro e w' ⟨rfl, rfl⟩
      have hP9 := Lib.hid (hP1.out.other npq (bysA ((r.set u 128).take 56 ++ len8 n)))
      have hQ9 := Lib.hid (hQ1.out.set (bysA ((r.set u 128).take 56 ++ len8 n)))
      obtain ⟨c0, hc0, hR9⟩ := hR1.out
      replace hR9 := Lib.hid (hR9.other (show w.heap.size ≠ q by omega) (bysA ((r.set u 128).take 56 ++ len8 n)))
      have B9 := Lib.hid (below_setRow B1.out (show w.heap.size ≤ q by omega) (bysA ((r.set u 128).take 56 ++ len8 n)))
      generalize W2.setRow q (bysA ((r.set u 128).take 56 ++ len8 n)) = W9 at *
      have hs9 : (bysA ((r.set u 128).take 56 ++ len8 n)).size = 64 := by rw [bysA_size]; exact (by rw [List.length_append, List.length_take, hl1]; rfl)
      obtain ⟨a1, a2, a3⟩ := hP9.out
      obtain ⟨b1, b2, b3⟩ := hQ9.out
      obtain ⟨r1, r2, r3⟩ := hR9.out
      go_wp2_with fail
      refine (behind_c _ _ (by rw [List.length_append, List.length_take, hl1]; rfl) (bts_app (bts_take hb1 56) (bts_len8 n)) _ (HT.out.grow B9.out)).mono ?_
      rintro e w' ⟨rfl, hbw⟩
      obtain ⟨oc1, nc1, rfl⟩ := below_plus hbw
      clear hbw
      go_wp2_with fail
      refine (key_c _ _).mono ?_
      rintro e w' ⟨rfl, hbw⟩
      obtain ⟨oc2, nc2, rfl⟩ := below_plus hbw
      clear hbw
      have hlt : w.heap.size < W9.heap.size + oc1.size := by omega
      go_wp2_with fail
      refine bodyPost_ret (v := .agg (keA (digF n s r))) (results_key Tryd.results30 (keA_size _) _ _ _ rfl (by go_simp) (by go_simp; unfold digF; rw [← HE.out, if_neg h56])) rfl ⟨rfl, ?_⟩
      repeat (first | apply below_more | refine below_setRow ?_ (Nat.le_refl _) _ | exact B9.out)
end Go.Proofs.YtikpglemnnbdcaaDoor
