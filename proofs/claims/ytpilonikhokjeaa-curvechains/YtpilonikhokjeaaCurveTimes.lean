/-
  Package curve: a point times a scalar.
-/
import Derived.Test.YtpilonikhokjeaaCurveOps
namespace Go.Proofs.Ytpilonikhokjeaa
open Go.RowKit Go.Shelf Go.Hold

/-- Two pairs in their places, or changed. -/
def SwapR (sv : Int) (x z x' z' X Z X' Z' : Nat) : Prop := (sv = 0 ∧ X = x ∧ Z = z ∧ X' = x' ∧ Z' = z') ∨ (sv = 1 ∧ X = x' ∧ Z = z' ∧ X' = x ∧ Z' = z)
theorem swapIf_K (sv : Int) (x z x' z' X Z X' Z' : Nat) (h : SwapR sv x z x' z' X Z X' Z') (w : World) :
    Calls Try.prog 28 #[.int .u8 sv, fv x z, fv x' z'] w fun e w' => e = .returned (.tuple #[fv X Z, fv X' Z']) ∧ Below w.heap.size w w' := by
  rcases h with ⟨rfl, rfl, rfl, rfl, rfl⟩ | ⟨rfl, rfl, rfl, rfl, rfl⟩
  · exact swapIf_any false _ _ _ _ w
  · exact swapIf_any true _ _ _ _ w
theorem twice_V (x z X Z : Nat) (hx : x < 115792089237316195423570985008687907853269984665640564039457584007913129639936) (hz : z < 115792089237316195423570985008687907853269984665640564039457584007913129639936) (h : Cv.ntw (x, z) = (X, Z)) (w : World) :
    Calls Try.prog 29 #[fv x z] w fun e w' => e = .returned (fv X Z) ∧ Below w.heap.size w w' := by
  have := twice_K x z hx hz w; rw [h] at this; exact this
theorem sum_V (x z x3 z3 x1 X Z : Nat) (hx : x < 115792089237316195423570985008687907853269984665640564039457584007913129639936) (hz : z < 115792089237316195423570985008687907853269984665640564039457584007913129639936) (hx3 : x3 < 115792089237316195423570985008687907853269984665640564039457584007913129639936) (hz3 : z3 < 115792089237316195423570985008687907853269984665640564039457584007913129639936) (hx1 : x1 < 115792089237316195423570985008687907853269984665640564039457584007913129639936) (h : Cv.nsm x1 (x, z) (x3, z3) = (X, Z)) (w : World) :
    Calls Try.prog 30 #[fv x z, fv x3 z3, kv x1] w fun e w' => e = .returned (fv X Z) ∧ Below w.heap.size w w' := by
  have := sum_K x z x3 z3 x1 hx hz hx3 hz3 hx1 w; rw [h] at this; exact this
namespace Cv
theorem ntw_lt (p : Nat × Nat) : (ntw p).1 < Fp.P ∧ (ntw p).2 < Fp.P := ⟨nmul_lt _ _, nmul_lt _ _⟩
theorem nsm_lt (x1 : Nat) (p r : Nat × Nat) : (nsm x1 p r).1 < Fp.P ∧ (nsm x1 p r).2 < Fp.P := ⟨nmul_lt _ _, nmul_lt _ _⟩
/-- What the four numbers keep to. -/
def Small (s : (Nat × Nat) × (Nat × Nat)) : Prop := s.1.1 < 115792089237316195423570985008687907853269984665640564039457584007913129639936 ∧ s.1.2 < 115792089237316195423570985008687907853269984665640564039457584007913129639936 ∧ s.2.1 < 115792089237316195423570985008687907853269984665640564039457584007913129639936 ∧ s.2.2 < 115792089237316195423570985008687907853269984665640564039457584007913129639936
theorem small_lad (x1 m : Nat) (hx1 : x1 < 115792089237316195423570985008687907853269984665640564039457584007913129639936) : ∀ j, Small (nlad x1 m j)
  | 0 => ⟨show 1 < 115792089237316195423570985008687907853269984665640564039457584007913129639936 by decide, show 0 < 115792089237316195423570985008687907853269984665640564039457584007913129639936 by decide, hx1, show 1 < 115792089237316195423570985008687907853269984665640564039457584007913129639936 by decide⟩
  | j + 1 => by
    show Small (nstp x1 (m / 2 ^ (254 - j) % 2 == 1) (nlad x1 m j))
    cases (m / 2 ^ (254 - j) % 2 == 1)
    · exact ⟨Nat.lt_trans (ntw_lt _).1 P_lt, Nat.lt_trans (ntw_lt _).2 P_lt, Nat.lt_trans (nsm_lt _ _ _).1 P_lt, Nat.lt_trans (nsm_lt _ _ _).2 P_lt⟩
    · exact ⟨Nat.lt_trans (nsm_lt _ _ _).1 P_lt, Nat.lt_trans (nsm_lt _ _ _).2 P_lt, Nat.lt_trans (ntw_lt _).1 P_lt, Nat.lt_trans (ntw_lt _).2 P_lt⟩
/-- The bit that a byte has at its place. -/
theorem bit_of (m j : Nat) : m / 256 ^ (j / 8) % 256 / 2 ^ (j % 8) % 2 = m / 2 ^ j % 2 := by
  have e : (256 : Nat) ^ (j / 8) = 2 ^ (8 * (j / 8)) := by rw [Nat.pow_mul]
  have e2 : j = 8 * (j / 8) + j % 8 := (Nat.div_add_mod j 8).symm
  have hr : j % 8 < 8 := Nat.mod_lt _ (by decide)
  rw [e]
  conv => rhs; rw [e2, Nat.pow_add, ← Nat.div_div_eq_div_mul]
  generalize m / 2 ^ (8 * (j / 8)) = x
  generalize j % 8 = r at *
  have h8 : r = 0 ∨ r = 1 ∨ r = 2 ∨ r = 3 ∨ r = 4 ∨ r = 5 ∨ r = 6 ∨ r = 7 := by omega
  rcases h8 with rfl | rfl | rfl | rfl | rfl | rfl | rfl | rfl <;> simp only [Nat.reducePow] <;> omega
theorem and1 (a : Nat) (ha : a < 256) : bits .and .u8 (a : Int) 1 = ((a % 2 : Nat) : Int) := by
  rw [show (1 : Int) = ((1 : Nat) : Int) from rfl, and8 a 1 ha (by decide), show (1 : Nat) = 2 ^ 1 - 1 from rfl, Nat.and_two_pow_sub_one_eq_mod]
theorem bit_and (m j : Nat) : bits .and .u8 (bt m (j / 8) / 2 ^ (j % 8)) 1 = ((m / 2 ^ j % 2 : Nat) : Int) := by
  have h1 : bt m (j / 8) / 2 ^ (j % 8) = ((m / 256 ^ (j / 8) % 256 / 2 ^ (j % 8) : Nat) : Int) := by
    unfold bt
    rw [Int.natCast_ediv]
    congr 1
  have hlt : m / 256 ^ (j / 8) % 256 / 2 ^ (j % 8) < 256 := Nat.lt_of_le_of_lt (Nat.div_le_self _ _) (Nat.mod_lt _ (by decide))
  rw [h1, and1 _ hlt, bit_of]
/-- One bit's numbers. -/
theorem round_num (x1 m j : Nat) (hx1 : x1 < 115792089237316195423570985008687907853269984665640564039457584007913129639936) (hj : j < 255) : ∃ (sv : Int) (x2 z2 x3 z3 a az b bz t tz u uz X Z X' Z' : Nat), nlad x1 m (255 - (j + 1)) = ((x2, z2), (x3, z3)) ∧ bits .and .u8 (bt m (j / 8) / 2 ^ (j % 8)) 1 = sv ∧
    SwapR sv x2 z2 x3 z3 a az b bz ∧ ntw (a, az) = (t, tz) ∧ nsm x1 (a, az) (b, bz) = (u, uz) ∧ SwapR sv t tz u uz X Z X' Z' ∧ nlad x1 m (255 - j) = ((X, Z), (X', Z')) ∧ a < 115792089237316195423570985008687907853269984665640564039457584007913129639936 ∧ az < 115792089237316195423570985008687907853269984665640564039457584007913129639936 ∧ b < 115792089237316195423570985008687907853269984665640564039457584007913129639936 ∧ bz < 115792089237316195423570985008687907853269984665640564039457584007913129639936 := by
  have hn : nlad x1 m (255 - j) = nstp x1 (m / 2 ^ j % 2 == 1) (nlad x1 m (255 - (j + 1))) := by
    have e : 255 - j = (255 - (j + 1)) + 1 := by omega
    rw [e]
    show nstp x1 (m / 2 ^ (254 - (255 - (j + 1))) % 2 == 1) _ = _
    rw [show 254 - (255 - (j + 1)) = j by omega]
  obtain ⟨s1, s2, s3, s4⟩ := small_lad x1 m hx1 (255 - (j + 1))
  generalize nlad x1 m (255 - (j + 1)) = s at *
  obtain ⟨⟨x2, z2⟩, ⟨x3, z3⟩⟩ := s
  have hb := bit_and m j
  have hlt := Nat.mod_lt (m / 2 ^ j) (show 0 < 2 by decide)
  rw [hn]
  generalize m / 2 ^ j % 2 = bit at *
  rcases (show bit = 0 ∨ bit = 1 by omega) with rfl | rfl
  · exact ⟨0, x2, z2, x3, z3, x2, z2, x3, z3, _, _, _, _, _, _, _, _, rfl, hb, .inl ⟨rfl, rfl, rfl, rfl, rfl⟩, rfl, rfl, .inl ⟨rfl, rfl, rfl, rfl, rfl⟩, rfl, s1, s2, s3, s4⟩
  · exact ⟨1, x2, z2, x3, z3, x3, z3, x2, z2, _, _, _, _, _, _, _, _, rfl, hb, .inr ⟨rfl, rfl, rfl, rfl, rfl⟩, rfl, rfl, .inr ⟨rfl, rfl, rfl, rfl, rfl⟩, rfl, s3, s4, s1, s2⟩
end Cv

set_option maxHeartbeats 2000000 in
set_option maxRecDepth 100000 in
theorem times_K (x1 m : Nat) (hx1 : x1 < 115792089237316195423570985008687907853269984665640564039457584007913129639936) (w : World) :
    Calls Try.prog 21 #[kv x1, kv m] w fun e w' => e = .returned (kv (Cv.nT m x1)) ∧ Below w.heap.size w w' := by
  go_enter Try.func21, Try.ntmps21
  go_wp2_with fail
  go_region
  · go_wp2_with fail
    generalize hW : World.drew _ = W1
    have R1x0 := Lib.hid (show RowAt W1 (w.heap.size) (keyA x1) by rw [← hW]; clear hW; exact ⟨by go_simp, by go_simp, by go_simp⟩)
    have R1x1 := Lib.hid (show RowAt W1 (w.heap.size + 1) (keyA m) by rw [← hW]; clear hW; exact ⟨by go_simp, by go_simp, by go_simp⟩)
    have R1x2 := Lib.hid (show RowAt W1 (w.heap.size + 1 + 1) (#[.int .u8 0, .int .u8 0, .int .u8 0, .int .u8 0, .int .u8 0, .int .u8 0, .int .u8 0, .int .u8 0, .int .u8 0, .int .u8 0, .int .u8 0, .int .u8 0, .int .u8 0, .int .u8 0, .int .u8 0, .int .u8 0, .int .u8 0, .int .u8 0, .int .u8 0, .int .u8 0, .int .u8 0, .int .u8 0, .int .u8 0, .int .u8 0, .int .u8 0, .int .u8 0, .int .u8 0, .int .u8 0, .int .u8 0, .int .u8 0, .int .u8 0, .int .u8 0]) by rw [← hW]; clear hW; exact ⟨by go_simp, by go_simp, by go_simp⟩)
    have R1x3 := Lib.hid (show RowAt W1 (w.heap.size + 1 + 1 + 1) (fracA 1 0) by rw [← hW]; clear hW; exact ⟨by go_simp, by go_simp, by go_simp⟩)
    have R1x4 := Lib.hid (show RowAt W1 (w.heap.size + 1 + 1 + 1 + 1) (fracA x1 1) by rw [← hW]; clear hW; exact ⟨by go_simp, by go_simp, by go_simp⟩)
    have HB1 := Lib.hid (show Below w.heap.size w W1 by rw [← hW]; repeat (first | apply below_more | apply below_alloc | apply Below.drew | refine below_setRow ?_ (by omega) _ | exact Below.refl _ _))
    clear hW
    obtain ⟨R1x0a, R1x0b, R1x0c⟩ := R1x0.out
    obtain ⟨R1x1a, R1x1b, R1x1c⟩ := R1x1.out
    obtain ⟨R1x2a, R1x2b, R1x2c⟩ := R1x2.out
    obtain ⟨R1x3a, R1x3b, R1x3c⟩ := R1x3.out
    obtain ⟨R1x4a, R1x4b, R1x4c⟩ := R1x4.out
    go_loopw [7] (fun i w' => ∃ (k : Nat), k ≤ 255 ∧ i = .int .i64 ((k : Int) - 1) ∧ RowAt w' w.heap.size (keyA x1) ∧ RowAt w' (w.heap.size + 1) (keyA m) ∧ RowAt w' (w.heap.size + 1 + 1) #[.int .u8 0, .int .u8 0, .int .u8 0, .int .u8 0, .int .u8 0, .int .u8 0, .int .u8 0, .int .u8 0, .int .u8 0, .int .u8 0, .int .u8 0, .int .u8 0, .int .u8 0, .int .u8 0, .int .u8 0, .int .u8 0, .int .u8 0, .int .u8 0, .int .u8 0, .int .u8 0, .int .u8 0, .int .u8 0, .int .u8 0, .int .u8 0, .int .u8 0, .int .u8 0, .int .u8 0, .int .u8 0, .int .u8 0, .int .u8 0, .int .u8 0, .int .u8 0] ∧
      RowAt w' (w.heap.size + 1 + 1 + 1) (fracA (Cv.nlad x1 m (255 - k)).1.1 (Cv.nlad x1 m (255 - k)).1.2) ∧ RowAt w' (w.heap.size + 1 + 1 + 1 + 1) (fracA (Cv.nlad x1 m (255 - k)).2.1 (Cv.nlad x1 m (255 - k)).2.2) ∧ Below w.heap.size w w') (fun i _ => (intOf i + 1).toNat)
    case atStart => exact ⟨255, Nat.le_refl _, rfl, R1x0.out, R1x1.out, R1x2.out, R1x3.out, R1x4.out, HB1.out⟩
    case round =>
      clear R1x0a R1x0b R1x0c R1x0 R1x1a R1x1b R1x1c R1x1 R1x2a R1x2b R1x2c R1x2 R1x3a R1x3b R1x3c R1x3 R1x4a R1x4b R1x4c R1x4 HB1
      obtain ⟨k, hk, rfl, Q1, Q2, Q3, Q4, Q5, HB⟩ := hrel
      have T1 := Lib.hid Q1
      have T2 := Lib.hid Q2
      have T3 := Lib.hid Q3
      have HB2 := Lib.hid HB
      clear HB
      rcases Nat.eq_zero_or_pos k with rfl | hpos
      · have hs := Cv.small_lad x1 m hx1 255
        rw [Nat.sub_zero] at Q4 Q5
        obtain ⟨s, hq⟩ : ∃ s, Cv.nlad x1 m 255 = s := ⟨_, rfl⟩
        rw [hq] at Q4 Q5 hs
        obtain ⟨⟨x2, z2⟩, q⟩ := s
        have hx2 : x2 < 115792089237316195423570985008687907853269984665640564039457584007913129639936 := hs.1
        have hz2 : z2 < 115792089237316195423570985008687907853269984665640564039457584007913129639936 := hs.2.1
        obtain ⟨i, ei⟩ : ∃ y, y = z2 ^ Fp.E % Fp.P := ⟨_, rfl⟩
        have li : i < 115792089237316195423570985008687907853269984665640564039457584007913129639936 := by rw [ei]; exact mod_lt _
        obtain ⟨r, er⟩ : ∃ y, y = Cv.nmul x2 i := ⟨_, rfl⟩
        have Hi := Lib.hid ei.symm
        have Hr := Lib.hid er.symm
        have Hres : Hid (Cv.nT m x1 = r) := by
          show _ = _
          rw [er, ei]; unfold Cv.nT; rw [hq]
        clear ei er hq hs T1 T2 T3
        obtain ⟨Q1a, Q1b, Q1c⟩ := Q1
        obtain ⟨Q2a, Q2b, Q2c⟩ := Q2
        obtain ⟨Q3a, Q3b, Q3c⟩ := Q3
        obtain ⟨Q4a, Q4b, Q4c⟩ := Q4
        obtain ⟨Q5a, Q5b, Q5c⟩ := Q5
        go_wp2_with fail
        refine wp_region_hold (fun w' => ∃ o d, w' = wr.plus o d) 6 (by kernel_rfl) (by kernel_rfl) ⟨#[], _, rfl⟩ ?_
        simp only [List.take_succ_cons, List.take_zero, List.drop_succ_cons, List.drop_zero]
        iterate 4 (refine wpHold_val ⟨_, #[], 0, rfl⟩ (wanted_none rfl) (by rintro K _ ⟨o, d, rfl⟩ hK; go_simp; exact hK _ ⟨o, d, rfl⟩) ?_)
        refine wpHold_call (v := kv i) (wanted_none rfl) (by rintro K _ ⟨o, d, rfl⟩ hK; go_simp; refine (inv_K z2 i hz2 Hi.out _).mono ?_; rintro e w' ⟨rfl, hbw⟩; obtain ⟨o', n', rfl⟩ := below_plus hbw; exact ⟨_, rfl, hK _ ⟨_, _, World.plus_plus _ _ _ _ _⟩⟩) ?_
        refine wpHold_call (v := kv r) (wanted_none rfl) (by rintro K _ ⟨o, d, rfl⟩ hK; go_simp; refine (mul_K x2 i r hx2 li Hr.out _).mono ?_; rintro e w' ⟨rfl, hbw⟩; obtain ⟨o', n', rfl⟩ := below_plus hbw; exact ⟨_, rfl, hK _ ⟨_, _, World.plus_plus _ _ _ _ _⟩⟩) ?_
        refine wpHold_nil ?_
        rintro _ ⟨oh31, nh31, rfl⟩
        go_wp2_with fail
        refine bodyPost_ret (v := kv r) (results_key Try.results21 _ _ _ rfl (by go_simp) (by go_simp)) rfl ⟨by rw [Hres.out], ?_⟩
        exact below_more (below_setRow HB2.out (by omega) _) _ _
      · obtain ⟨j, rfl⟩ : ∃ j, k = j + 1 := ⟨k - 1, by omega⟩
        rw [show (((j + 1 : Nat) : Int) - 1) = (j : Int) by omega]
        have hj0 : (0 : Int) ≤ j := by omega
        have hj1 : (j : Int) ≤ 254 := by omega
        have hc := T2.out.cellAt (j / 8) (keyA_get m (j / 8) (by omega))
        obtain ⟨sv, x2, z2, x3, z3, a, az, b, bz, t, tz, u, uz, X, Z, X', Z', e1, hbit, S1, e2, e3, S2, e4, la, laz, lb, lbz⟩ := Cv.round_num x1 m j hx1 (by omega)
        rw [e1] at Q4 Q5
        have E2 := Lib.hid e2
        have E3 := Lib.hid e3
        have E4 := Lib.hid e4
        have HS1 := Lib.hid S1
        have HS2 := Lib.hid S2
        clear e1 e2 e3 e4 S1 S2
        obtain ⟨T1a, T1b, T1c⟩ := Q1
        obtain ⟨T2a, T2b, T2c⟩ := Q2
        obtain ⟨T3a, T3b, T3c⟩ := Q3
        have T4 := Lib.hid Q4
        have T5 := Lib.hid Q5
        obtain ⟨T4a, T4b, T4c⟩ := Q4
        obtain ⟨T5a, T5b, T5c⟩ := Q5
        go_wp2_with fail
        refine (swapIf_K sv x2 z2 x3 z3 a az b bz HS1.out _).mono ?_
        rintro e w' ⟨rfl, hbw⟩
        obtain ⟨oc1, nc1, rfl⟩ := below_plus hbw
        clear hbw
        go_wp2_with fail
        generalize hW : World.plus _ _ _ = W41
        have R41x0 := Lib.hid (show RowAt W41 (w.heap.size) (keyA x1) by rw [← hW]; clear hW; exact ⟨by go_simp, by go_simp, by go_simp⟩)
        have R41x1 := Lib.hid (show RowAt W41 (w.heap.size + 1) (keyA m) by rw [← hW]; clear hW; exact ⟨by go_simp, by go_simp, by go_simp⟩)
        have R41x2 := Lib.hid (show RowAt W41 (w.heap.size + 1 + 1) (#[.int .u8 0, .int .u8 0, .int .u8 0, .int .u8 0, .int .u8 0, .int .u8 0, .int .u8 0, .int .u8 0, .int .u8 0, .int .u8 0, .int .u8 0, .int .u8 0, .int .u8 0, .int .u8 0, .int .u8 0, .int .u8 0, .int .u8 0, .int .u8 0, .int .u8 0, .int .u8 0, .int .u8 0, .int .u8 0, .int .u8 0, .int .u8 0, .int .u8 0, .int .u8 0, .int .u8 0, .int .u8 0, .int .u8 0, .int .u8 0, .int .u8 0, .int .u8 0]) by rw [← hW]; clear hW; exact ⟨by go_simp, by go_simp, by go_simp⟩)
        have R41x3 := Lib.hid (show RowAt W41 (w.heap.size + 1 + 1 + 1) (fracA a az) by rw [← hW]; clear hW; exact ⟨by go_simp, by go_simp, by go_simp⟩)
        have R41x4 := Lib.hid (show RowAt W41 (w.heap.size + 1 + 1 + 1 + 1) (fracA b bz) by rw [← hW]; clear hW; exact ⟨by go_simp, by go_simp, by go_simp⟩)
        have HB41 := Lib.hid (show Below w.heap.size w W41 by rw [← hW]; repeat (first | apply below_more | apply below_alloc | apply Below.drew | refine below_setRow ?_ (by omega) _ | exact HB2.out))
        clear hW
        clear T1a T1b T1c T2a T2b T2c T3a T3b T3c T4a T4b T4c T5a T5b T5c T1 T2 T3 T4 T5 HB2
        obtain ⟨R41x0a, R41x0b, R41x0c⟩ := R41x0.out
        obtain ⟨R41x1a, R41x1b, R41x1c⟩ := R41x1.out
        obtain ⟨R41x2a, R41x2b, R41x2c⟩ := R41x2.out
        obtain ⟨R41x3a, R41x3b, R41x3c⟩ := R41x3.out
        obtain ⟨R41x4a, R41x4b, R41x4c⟩ := R41x4.out
        clear hc hbit HS1
        refine wp_region_hold (fun w' => ∃ o d, w' = W41.plus o d) 6 (by kernel_rfl) (by kernel_rfl) ⟨#[], _, rfl⟩ ?_
        simp only [List.take_succ_cons, List.take_zero, List.drop_succ_cons, List.drop_zero]
        refine wpHold_val ⟨_, #[], 0, rfl⟩ (wanted_none rfl) (by rintro K _ ⟨o, d, rfl⟩ hK; go_simp; exact hK _ ⟨o, d, rfl⟩) ?_
        refine wpHold_call (v := fv t tz) (wanted_none rfl) (by rintro K _ ⟨o, d, rfl⟩ hK; go_simp; refine (twice_V a az t tz la laz E2.out _).mono ?_; rintro e w' ⟨rfl, hbw⟩; obtain ⟨o', n', rfl⟩ := below_plus hbw; exact ⟨_, rfl, hK _ ⟨_, _, World.plus_plus _ _ _ _ _⟩⟩) ?_
        iterate 3 (refine wpHold_val ⟨_, #[], 0, rfl⟩ (wanted_none rfl) (by rintro K _ ⟨o, d, rfl⟩ hK; go_simp; exact hK _ ⟨o, d, rfl⟩) ?_)
        refine wpHold_call (v := fv u uz) (wanted_none rfl) (by rintro K _ ⟨o, d, rfl⟩ hK; go_simp; refine (sum_V a az b bz x1 u uz la laz lb lbz hx1 E3.out _).mono ?_; rintro e w' ⟨rfl, hbw⟩; obtain ⟨o', n', rfl⟩ := below_plus hbw; exact ⟨_, rfl, hK _ ⟨_, _, World.plus_plus _ _ _ _ _⟩⟩) ?_
        refine wpHold_nil ?_
        rintro _ ⟨oh42, nh42, rfl⟩
        go_wp2_with fail
        refine (swapIf_K sv t tz u uz X Z X' Z' HS2.out _).mono ?_
        rintro e w' ⟨rfl, hbw⟩
        obtain ⟨oc2, nc2, rfl⟩ := below_plus hbw
        clear hbw
        go_wp2_with fail
        generalize hW : World.plus _ _ _ = W43
        have R43x0 := Lib.hid (show RowAt W43 (w.heap.size) (keyA x1) by rw [← hW]; clear hW; exact ⟨by go_simp, by go_simp, by go_simp⟩)
        have R43x1 := Lib.hid (show RowAt W43 (w.heap.size + 1) (keyA m) by rw [← hW]; clear hW; exact ⟨by go_simp, by go_simp, by go_simp⟩)
        have R43x2 := Lib.hid (show RowAt W43 (w.heap.size + 1 + 1) (#[.int .u8 0, .int .u8 0, .int .u8 0, .int .u8 0, .int .u8 0, .int .u8 0, .int .u8 0, .int .u8 0, .int .u8 0, .int .u8 0, .int .u8 0, .int .u8 0, .int .u8 0, .int .u8 0, .int .u8 0, .int .u8 0, .int .u8 0, .int .u8 0, .int .u8 0, .int .u8 0, .int .u8 0, .int .u8 0, .int .u8 0, .int .u8 0, .int .u8 0, .int .u8 0, .int .u8 0, .int .u8 0, .int .u8 0, .int .u8 0, .int .u8 0, .int .u8 0]) by rw [← hW]; clear hW; exact ⟨by go_simp, by go_simp, by go_simp⟩)
        have R43x3 := Lib.hid (show RowAt W43 (w.heap.size + 1 + 1 + 1) (fracA X Z) by rw [← hW]; clear hW; exact ⟨by go_simp, by go_simp, by go_simp⟩)
        have R43x4 := Lib.hid (show RowAt W43 (w.heap.size + 1 + 1 + 1 + 1) (fracA X' Z') by rw [← hW]; clear hW; exact ⟨by go_simp, by go_simp, by go_simp⟩)
        have HB43 := Lib.hid (show Below w.heap.size w W43 by rw [← hW]; repeat (first | apply below_more | apply below_alloc | apply Below.drew | refine below_setRow ?_ (by omega) _ | exact HB41.out))
        clear hW
        clear R41x0a R41x0b R41x0c R41x1a R41x1b R41x1c R41x2a R41x2b R41x2c R41x3a R41x3b R41x3c R41x4a R41x4b R41x4c R41x0 R41x1 R41x2 R41x3 R41x4 HB41
        obtain ⟨R43x0a, R43x0b, R43x0c⟩ := R43x0.out
        obtain ⟨R43x1a, R43x1b, R43x1c⟩ := R43x1.out
        obtain ⟨R43x2a, R43x2b, R43x2c⟩ := R43x2.out
        obtain ⟨R43x3a, R43x3b, R43x3c⟩ := R43x3.out
        obtain ⟨R43x4a, R43x4b, R43x4c⟩ := R43x4.out
        go_roundw
        case rel => exact ⟨j, by omega, by go_num, R43x0.out, R43x1.out, R43x2.out, by rw [E4.out]; exact R43x3.out, by rw [E4.out]; exact R43x4.out, HB43.out⟩
        case measure => simp [intOf]
  · go_wp2_with fail
    generalize hW : World.drew _ = W1
    have R1x0 := Lib.hid (show RowAt W1 (w.heap.size) (keyA x1) by rw [← hW]; clear hW; exact ⟨by go_simp, by go_simp, by go_simp⟩)
    have R1x1 := Lib.hid (show RowAt W1 (w.heap.size + 1) (keyA m) by rw [← hW]; clear hW; exact ⟨by go_simp, by go_simp, by go_simp⟩)
    have R1x2 := Lib.hid (show RowAt W1 (w.heap.size + 1 + 1) (#[.int .u8 0, .int .u8 0, .int .u8 0, .int .u8 0, .int .u8 0, .int .u8 0, .int .u8 0, .int .u8 0, .int .u8 0, .int .u8 0, .int .u8 0, .int .u8 0, .int .u8 0, .int .u8 0, .int .u8 0, .int .u8 0, .int .u8 0, .int .u8 0, .int .u8 0, .int .u8 0, .int .u8 0, .int .u8 0, .int .u8 0, .int .u8 0, .int .u8 0, .int .u8 0, .int .u8 0, .int .u8 0, .int .u8 0, .int .u8 0, .int .u8 0, .int .u8 0]) by rw [← hW]; clear hW; exact ⟨by go_simp, by go_simp, by go_simp⟩)
    have R1x3 := Lib.hid (show RowAt W1 (w.heap.size + 1 + 1 + 1 + 1) (fracA 1 0) by rw [← hW]; clear hW; exact ⟨by go_simp, by go_simp, by go_simp⟩)
    have R1x4 := Lib.hid (show RowAt W1 (w.heap.size + 1 + 1 + 1) (fracA x1 1) by rw [← hW]; clear hW; exact ⟨by go_simp, by go_simp, by go_simp⟩)
    have HB1 := Lib.hid (show Below w.heap.size w W1 by rw [← hW]; repeat (first | apply below_more | apply below_alloc | apply Below.drew | refine below_setRow ?_ (by omega) _ | exact Below.refl _ _))
    clear hW
    obtain ⟨R1x0a, R1x0b, R1x0c⟩ := R1x0.out
    obtain ⟨R1x1a, R1x1b, R1x1c⟩ := R1x1.out
    obtain ⟨R1x2a, R1x2b, R1x2c⟩ := R1x2.out
    obtain ⟨R1x3a, R1x3b, R1x3c⟩ := R1x3.out
    obtain ⟨R1x4a, R1x4b, R1x4c⟩ := R1x4.out
    go_loopw [7] (fun i w' => ∃ (k : Nat), k ≤ 255 ∧ i = .int .i64 ((k : Int) - 1) ∧ RowAt w' w.heap.size (keyA x1) ∧ RowAt w' (w.heap.size + 1) (keyA m) ∧ RowAt w' (w.heap.size + 1 + 1) #[.int .u8 0, .int .u8 0, .int .u8 0, .int .u8 0, .int .u8 0, .int .u8 0, .int .u8 0, .int .u8 0, .int .u8 0, .int .u8 0, .int .u8 0, .int .u8 0, .int .u8 0, .int .u8 0, .int .u8 0, .int .u8 0, .int .u8 0, .int .u8 0, .int .u8 0, .int .u8 0, .int .u8 0, .int .u8 0, .int .u8 0, .int .u8 0, .int .u8 0, .int .u8 0, .int .u8 0, .int .u8 0, .int .u8 0, .int .u8 0, .int .u8 0, .int .u8 0] ∧
      RowAt w' (w.heap.size + 1 + 1 + 1 + 1) (fracA (Cv.nlad x1 m (255 - k)).1.1 (Cv.nlad x1 m (255 - k)).1.2) ∧ RowAt w' (w.heap.size + 1 + 1 + 1) (fracA (Cv.nlad x1 m (255 - k)).2.1 (Cv.nlad x1 m (255 - k)).2.2) ∧ Below w.heap.size w w') (fun i _ => (intOf i + 1).toNat)
    case atStart => exact ⟨255, Nat.le_refl _, rfl, R1x0.out, R1x1.out, R1x2.out, R1x3.out, R1x4.out, HB1.out⟩
    case round =>
      clear R1x0a R1x0b R1x0c R1x0 R1x1a R1x1b R1x1c R1x1 R1x2a R1x2b R1x2c R1x2 R1x3a R1x3b R1x3c R1x3 R1x4a R1x4b R1x4c R1x4 HB1
      obtain ⟨k, hk, rfl, Q1, Q2, Q3, Q4, Q5, HB⟩ := hrel
      have T1 := Lib.hid Q1
      have T2 := Lib.hid Q2
      have T3 := Lib.hid Q3
      have HB2 := Lib.hid HB
      clear HB
      rcases Nat.eq_zero_or_pos k with rfl | hpos
      · have hs := Cv.small_lad x1 m hx1 255
        rw [Nat.sub_zero] at Q4 Q5
        obtain ⟨s, hq⟩ : ∃ s, Cv.nlad x1 m 255 = s := ⟨_, rfl⟩
        rw [hq] at Q4 Q5 hs
        obtain ⟨⟨x2, z2⟩, q⟩ := s
        have hx2 : x2 < 115792089237316195423570985008687907853269984665640564039457584007913129639936 := hs.1
        have hz2 : z2 < 115792089237316195423570985008687907853269984665640564039457584007913129639936 := hs.2.1
        obtain ⟨i, ei⟩ : ∃ y, y = z2 ^ Fp.E % Fp.P := ⟨_, rfl⟩
        have li : i < 115792089237316195423570985008687907853269984665640564039457584007913129639936 := by rw [ei]; exact mod_lt _
        obtain ⟨r, er⟩ : ∃ y, y = Cv.nmul x2 i := ⟨_, rfl⟩
        have Hi := Lib.hid ei.symm
        have Hr := Lib.hid er.symm
        have Hres : Hid (Cv.nT m x1 = r) := by
          show _ = _
          rw [er, ei]; unfold Cv.nT; rw [hq]
        clear ei er hq hs T1 T2 T3
        obtain ⟨Q1a, Q1b, Q1c⟩ := Q1
        obtain ⟨Q2a, Q2b, Q2c⟩ := Q2
        obtain ⟨Q3a, Q3b, Q3c⟩ := Q3
        obtain ⟨Q4a, Q4b, Q4c⟩ := Q4
        obtain ⟨Q5a, Q5b, Q5c⟩ := Q5
        go_wp2_with fail
        refine wp_region_hold (fun w' => ∃ o d, w' = wr.plus o d) 6 (by kernel_rfl) (by kernel_rfl) ⟨#[], _, rfl⟩ ?_
        simp only [List.take_succ_cons, List.take_zero, List.drop_succ_cons, List.drop_zero]
        iterate 4 (refine wpHold_val ⟨_, #[], 0, rfl⟩ (wanted_none rfl) (by rintro K _ ⟨o, d, rfl⟩ hK; go_simp; exact hK _ ⟨o, d, rfl⟩) ?_)
        refine wpHold_call (v := kv i) (wanted_none rfl) (by rintro K _ ⟨o, d, rfl⟩ hK; go_simp; refine (inv_K z2 i hz2 Hi.out _).mono ?_; rintro e w' ⟨rfl, hbw⟩; obtain ⟨o', n', rfl⟩ := below_plus hbw; exact ⟨_, rfl, hK _ ⟨_, _, World.plus_plus _ _ _ _ _⟩⟩) ?_
        refine wpHold_call (v := kv r) (wanted_none rfl) (by rintro K _ ⟨o, d, rfl⟩ hK; go_simp; refine (mul_K x2 i r hx2 li Hr.out _).mono ?_; rintro e w' ⟨rfl, hbw⟩; obtain ⟨o', n', rfl⟩ := below_plus hbw; exact ⟨_, rfl, hK _ ⟨_, _, World.plus_plus _ _ _ _ _⟩⟩) ?_
        refine wpHold_nil ?_
        rintro _ ⟨oh31, nh31, rfl⟩
        go_wp2_with fail
        refine bodyPost_ret (v := kv r) (results_key Try.results21 _ _ _ rfl (by go_simp) (by go_simp)) rfl ⟨by rw [Hres.out], ?_⟩
        exact below_more (below_setRow HB2.out (by omega) _) _ _
      · obtain ⟨j, rfl⟩ : ∃ j, k = j + 1 := ⟨k - 1, by omega⟩
        rw [show (((j + 1 : Nat) : Int) - 1) = (j : Int) by omega]
        have hj0 : (0 : Int) ≤ j := by omega
        have hj1 : (j : Int) ≤ 254 := by omega
        have hc := T2.out.cellAt (j / 8) (keyA_get m (j / 8) (by omega))
        obtain ⟨sv, x2, z2, x3, z3, a, az, b, bz, t, tz, u, uz, X, Z, X', Z', e1, hbit, S1, e2, e3, S2, e4, la, laz, lb, lbz⟩ := Cv.round_num x1 m j hx1 (by omega)
        rw [e1] at Q4 Q5
        have E2 := Lib.hid e2
        have E3 := Lib.hid e3
        have E4 := Lib.hid e4
        have HS1 := Lib.hid S1
        have HS2 := Lib.hid S2
        clear e1 e2 e3 e4 S1 S2
        obtain ⟨T1a, T1b, T1c⟩ := Q1
        obtain ⟨T2a, T2b, T2c⟩ := Q2
        obtain ⟨T3a, T3b, T3c⟩ := Q3
        have T4 := Lib.hid Q4
        have T5 := Lib.hid Q5
        obtain ⟨T4a, T4b, T4c⟩ := Q4
        obtain ⟨T5a, T5b, T5c⟩ := Q5
        go_wp2_with fail
        refine (swapIf_K sv x2 z2 x3 z3 a az b bz HS1.out _).mono ?_
        rintro e w' ⟨rfl, hbw⟩
        obtain ⟨oc3, nc3, rfl⟩ := below_plus hbw
        clear hbw
        go_wp2_with fail
        generalize hW : World.plus _ _ _ = W41
        have R41x0 := Lib.hid (show RowAt W41 (w.heap.size) (keyA x1) by rw [← hW]; clear hW; exact ⟨by go_simp, by go_simp, by go_simp⟩)
        have R41x1 := Lib.hid (show RowAt W41 (w.heap.size + 1) (keyA m) by rw [← hW]; clear hW; exact ⟨by go_simp, by go_simp, by go_simp⟩)
        have R41x2 := Lib.hid (show RowAt W41 (w.heap.size + 1 + 1) (#[.int .u8 0, .int .u8 0, .int .u8 0, .int .u8 0, .int .u8 0, .int .u8 0, .int .u8 0, .int .u8 0, .int .u8 0, .int .u8 0, .int .u8 0, .int .u8 0, .int .u8 0, .int .u8 0, .int .u8 0, .int .u8 0, .int .u8 0, .int .u8 0, .int .u8 0, .int .u8 0, .int .u8 0, .int .u8 0, .int .u8 0, .int .u8 0, .int .u8 0, .int .u8 0, .int .u8 0, .int .u8 0, .int .u8 0, .int .u8 0, .int .u8 0, .int .u8 0]) by rw [← hW]; clear hW; exact ⟨by go_simp, by go_simp, by go_simp⟩)
        have R41x3 := Lib.hid (show RowAt W41 (w.heap.size + 1 + 1 + 1 + 1) (fracA a az) by rw [← hW]; clear hW; exact ⟨by go_simp, by go_simp, by go_simp⟩)
        have R41x4 := Lib.hid (show RowAt W41 (w.heap.size + 1 + 1 + 1) (fracA b bz) by rw [← hW]; clear hW; exact ⟨by go_simp, by go_simp, by go_simp⟩)
        have HB41 := Lib.hid (show Below w.heap.size w W41 by rw [← hW]; repeat (first | apply below_more | apply below_alloc | apply Below.drew | refine below_setRow ?_ (by omega) _ | exact HB2.out))
        clear hW
        clear T1a T1b T1c T2a T2b T2c T3a T3b T3c T4a T4b T4c T5a T5b T5c T1 T2 T3 T4 T5 HB2
        obtain ⟨R41x0a, R41x0b, R41x0c⟩ := R41x0.out
        obtain ⟨R41x1a, R41x1b, R41x1c⟩ := R41x1.out
        obtain ⟨R41x2a, R41x2b, R41x2c⟩ := R41x2.out
        obtain ⟨R41x3a, R41x3b, R41x3c⟩ := R41x3.out
        obtain ⟨R41x4a, R41x4b, R41x4c⟩ := R41x4.out
        clear hc hbit HS1
        refine wp_region_hold (fun w' => ∃ o d, w' = W41.plus o d) 6 (by kernel_rfl) (by kernel_rfl) ⟨#[], _, rfl⟩ ?_
        simp only [List.take_succ_cons, List.take_zero, List.drop_succ_cons, List.drop_zero]
        refine wpHold_val ⟨_, #[], 0, rfl⟩ (wanted_none rfl) (by rintro K _ ⟨o, d, rfl⟩ hK; go_simp; exact hK _ ⟨o, d, rfl⟩) ?_
        refine wpHold_call (v := fv t tz) (wanted_none rfl) (by rintro K _ ⟨o, d, rfl⟩ hK; go_simp; refine (twice_V a az t tz la laz E2.out _).mono ?_; rintro e w' ⟨rfl, hbw⟩; obtain ⟨o', n', rfl⟩ := below_plus hbw; exact ⟨_, rfl, hK _ ⟨_, _, World.plus_plus _ _ _ _ _⟩⟩) ?_
        iterate 3 (refine wpHold_val ⟨_, #[], 0, rfl⟩ (wanted_none rfl) (by rintro K _ ⟨o, d, rfl⟩ hK; go_simp; exact hK _ ⟨o, d, rfl⟩) ?_)
        refine wpHold_call (v := fv u uz) (wanted_none rfl) (by rintro K _ ⟨o, d, rfl⟩ hK; go_simp; refine (sum_V a az b bz x1 u uz la laz lb lbz hx1 E3.out _).mono ?_; rintro e w' ⟨rfl, hbw⟩; obtain ⟨o', n', rfl⟩ := below_plus hbw; exact ⟨_, rfl, hK _ ⟨_, _, World.plus_plus _ _ _ _ _⟩⟩) ?_
        refine wpHold_nil ?_
        rintro _ ⟨oh42, nh42, rfl⟩
        go_wp2_with fail
        refine (swapIf_K sv t tz u uz X Z X' Z' HS2.out _).mono ?_
        rintro e w' ⟨rfl, hbw⟩
        obtain ⟨oc4, nc4, rfl⟩ := below_plus hbw
        clear hbw
        go_wp2_with fail
        generalize hW : World.plus _ _ _ = W43
        have R43x0 := Lib.hid (show RowAt W43 (w.heap.size) (keyA x1) by rw [← hW]; clear hW; exact ⟨by go_simp, by go_simp, by go_simp⟩)
        have R43x1 := Lib.hid (show RowAt W43 (w.heap.size + 1) (keyA m) by rw [← hW]; clear hW; exact ⟨by go_simp, by go_simp, by go_simp⟩)
        have R43x2 := Lib.hid (show RowAt W43 (w.heap.size + 1 + 1) (#[.int .u8 0, .int .u8 0, .int .u8 0, .int .u8 0, .int .u8 0, .int .u8 0, .int .u8 0, .int .u8 0, .int .u8 0, .int .u8 0, .int .u8 0, .int .u8 0, .int .u8 0, .int .u8 0, .int .u8 0, .int .u8 0, .int .u8 0, .int .u8 0, .int .u8 0, .int .u8 0, .int .u8 0, .int .u8 0, .int .u8 0, .int .u8 0, .int .u8 0, .int .u8 0, .int .u8 0, .int .u8 0, .int .u8 0, .int .u8 0, .int .u8 0, .int .u8 0]) by rw [← hW]; clear hW; exact ⟨by go_simp, by go_simp, by go_simp⟩)
        have R43x3 := Lib.hid (show RowAt W43 (w.heap.size + 1 + 1 + 1 + 1) (fracA X Z) by rw [← hW]; clear hW; exact ⟨by go_simp, by go_simp, by go_simp⟩)
        have R43x4 := Lib.hid (show RowAt W43 (w.heap.size + 1 + 1 + 1) (fracA X' Z') by rw [← hW]; clear hW; exact ⟨by go_simp, by go_simp, by go_simp⟩)
        have HB43 := Lib.hid (show Below w.heap.size w W43 by rw [← hW]; repeat (first | apply below_more | apply below_alloc | apply Below.drew | refine below_setRow ?_ (by omega) _ | exact HB41.out))
        clear hW
        clear R41x0a R41x0b R41x0c R41x1a R41x1b R41x1c R41x2a R41x2b R41x2c R41x3a R41x3b R41x3c R41x4a R41x4b R41x4c R41x0 R41x1 R41x2 R41x3 R41x4 HB41
        obtain ⟨R43x0a, R43x0b, R43x0c⟩ := R43x0.out
        obtain ⟨R43x1a, R43x1b, R43x1c⟩ := R43x1.out
        obtain ⟨R43x2a, R43x2b, R43x2c⟩ := R43x2.out
        obtain ⟨R43x3a, R43x3b, R43x3c⟩ := R43x3.out
        obtain ⟨R43x4a, R43x4b, R43x4c⟩ := R43x4.out
        go_roundw
        case rel => exact ⟨j, by omega, by go_num, R43x0.out, R43x1.out, R43x2.out, by rw [E4.out]; exact R43x3.out, by rw [E4.out]; exact R43x4.out, HB43.out⟩
        case measure => simp [intOf]
end Go.Proofs.Ytpilonikhokjeaa
