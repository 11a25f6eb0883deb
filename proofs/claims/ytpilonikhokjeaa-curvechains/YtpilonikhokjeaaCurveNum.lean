/-
  The ladder of X25519 over numbers: what package curve and the reference reckon; in either order; the point 9.
-/
import Derived.Test.YtpilonikhokjeaaEdField
namespace Go.Proofs.Ytpilonikhokjeaa
open Fp
namespace Cv
def nadd (x y : Nat) : Nat := (x + y) % P
def nsub (x y : Nat) : Nat := (x % P + (P - y % P)) % P
def nmul (x y : Nat) : Nat := x * y % P
theorem nadd_lt (x y : Nat) : nadd x y < P := Nat.mod_lt _ P_pos
theorem nsub_lt (x y : Nat) : nsub x y < P := Nat.mod_lt _ P_pos
theorem nmul_lt (x y : Nat) : nmul x y < P := Nat.mod_lt _ P_pos
def ntw2 (aa bb e : Nat) : Nat × Nat := (nmul aa bb, nmul e (nadd aa (nmul 121665 e)))
def ntw1 (aa bb : Nat) : Nat × Nat := ntw2 aa bb (nsub aa bb)
/-- A pair, doubled. -/
def ntw (p : Nat × Nat) : Nat × Nat := ntw1 (nmul (nadd p.1 p.2) (nadd p.1 p.2)) (nmul (nsub p.1 p.2) (nsub p.1 p.2))
def nsm1 (x1 d c : Nat) : Nat × Nat := (nmul (nadd d c) (nadd d c), nmul x1 (nmul (nsub d c) (nsub d c)))
/-- The sum of two pairs. -/
def nsm (x1 : Nat) (p r : Nat × Nat) : Nat × Nat := nsm1 x1 (nmul (nsub r.1 r.2) (nadd p.1 p.2)) (nmul (nadd r.1 r.2) (nsub p.1 p.2))
def nstp (x1 : Nat) (b : Bool) (s : (Nat × Nat) × (Nat × Nat)) : (Nat × Nat) × (Nat × Nat) :=
  if b then (nsm x1 s.2 s.1, ntw s.2) else (ntw s.1, nsm x1 s.1 s.2)
/-- j bits of m, from bit 254 down. -/
def nlad (x1 m : Nat) : Nat → (Nat × Nat) × (Nat × Nat)
  | 0 => ((1, 0), (x1, 1))
  | j + 1 => nstp x1 (m / 2 ^ (254 - j) % 2 == 1) (nlad x1 m j)
/-- A point times a scalar. -/
def nT (m x1 : Nat) : Nat := nmul (nlad x1 m 255).1.1 ((nlad x1 m 255).1.2 ^ E % P)
theorem nT_lt (m x1 : Nat) : nT m x1 < P := nmul_lt _ _

/-! ### The same in the field -/
open Ed
def qq (p : Nat × Nat) : Fin P × Fin P := (q p.1, q p.2)
theorem q_nadd (x y : Nat) : q (nadd x y) = q x + q y := q_add x y
theorem q_nsub (x y : Nat) : q (nsub x y) = q x - q y := q_sub x y
theorem q_nmul (x y : Nat) : q (nmul x y) = q x * q y := q_mul x y
theorem qq_tw (p : Nat × Nat) : qq (ntw p) = tw kk (qq p) := by
  simp only [qq, ntw, ntw1, ntw2, tw, q_nadd, q_nsub, q_nmul]; rfl
theorem qq_sm (x1 : Nat) (p r : Nat × Nat) : qq (nsm x1 p r) = sm (q x1) (qq p) (qq r) := by
  simp only [qq, nsm, nsm1, sm, q_nadd, q_nsub, q_nmul]
theorem qq_lad (x1 m : Nat) : ∀ j, (qq (nlad x1 m j).1, qq (nlad x1 m j).2) = lad kk (q x1) m j
  | 0 => rfl
  | j + 1 => by
    show _ = stp kk (q x1) (m / 2 ^ (254 - j) % 2 == 1) (lad kk (q x1) m j)
    rw [← qq_lad x1 m j]
    show (qq (nstp x1 (m / 2 ^ (254 - j) % 2 == 1) (nlad x1 m j)).1, qq (nstp x1 (m / 2 ^ (254 - j) % 2 == 1) (nlad x1 m j)).2) = _
    cases (m / 2 ^ (254 - j) % 2 == 1) <;> simp only [nstp, stp, if_true, if_false, Bool.false_eq_true, qq_tw, qq_sm]
theorem q_T (m x1 : Nat) : q (nT m x1) = T fld kk m (q x1) := by
  unfold nT T
  rw [q_nmul, q_inv, ← qq_lad]; rfl
theorem nT_order (u a b : Nat) (ha : a < 2 ^ 255) (hb : b < 2 ^ 255) (ha2 : a % 2 = 0) (hb2 : b % 2 = 0) : nT b (nT a u) = nT a (nT b u) := by
  refine q_inj (nT_lt _ _) (nT_lt _ _) ?_
  rw [q_T, q_T, q_T, q_T]
  exact T_order (q u) a b ha hb ha2 hb2
theorem nT_zero (m : Nat) : nT m 0 = 0 := by
  refine q_inj (nT_lt _ _) P_pos ?_
  rw [q_T, q_0, T_zero]

/-! ### The scalar of a secret -/
def clampN (k : Nat) : Nat := k % 2 ^ 254 / 8 * 8 + 2 ^ 254
theorem clampN_lt (k : Nat) : clampN k < 2 ^ 255 := by
  unfold clampN
  have h1 := Nat.mod_lt k (show 0 < 2 ^ 254 by decide +kernel)
  have e : (2 : Nat) ^ 255 = 2 ^ 254 + 2 ^ 254 := by decide +kernel
  rw [e]
  generalize 2 ^ 254 = z at *
  omega
theorem clampN_8 (k : Nat) : ∃ t, clampN k = 8 * t ∧ 2 ^ 251 ≤ t ∧ t < 2 ^ 252 := by
  refine ⟨k % 2 ^ 254 / 8 + 2 ^ 251, ?_, Nat.le_add_left _ _, ?_⟩
  · unfold clampN
    have e : (2 : Nat) ^ 254 = 8 * 2 ^ 251 := by decide +kernel
    rw [Nat.mul_add, ← e, Nat.mul_comm]
  · have h1 := Nat.mod_lt k (show 0 < 2 ^ 254 by decide +kernel)
    have e : (2 : Nat) ^ 254 = 8 * 2 ^ 251 := by decide +kernel
    have e2 : (2 : Nat) ^ 252 = 2 ^ 251 + 2 ^ 251 := by decide +kernel
    rw [e] at h1 ⊢
    rw [e2]
    generalize 2 ^ 251 = z at *
    omega
theorem clampN_even (k : Nat) : clampN k % 2 = 0 := by
  obtain ⟨t, ht, _⟩ := clampN_8 k
  omega
theorem clampN_idem (k : Nat) : clampN (clampN k) = clampN k := by
  obtain ⟨t, ht, h1, h2⟩ := clampN_8 k
  have e : (2 : Nat) ^ 254 = 8 * 2 ^ 251 := by decide +kernel
  have e2 : (2 : Nat) ^ 252 = 2 ^ 251 + 2 ^ 251 := by decide +kernel
  rw [ht]
  unfold clampN
  rw [e]
  rw [e2] at h2
  have h3 : 8 * t % (8 * 2 ^ 251) = 8 * (t - 2 ^ 251) := by
    rw [Nat.mul_mod_mul_left, Nat.mod_eq_sub_mod h1, Nat.mod_eq_of_lt (by omega)]
  rw [h3]
  generalize 2 ^ 251 = z at *
  omega

/-! ### The order of the point 9 -/
theorem pr1224481 : Pr 1224481 := pr_tr 1107 (by decide) (by decide +kernel) (by decide)
theorem pr531581 : Pr 531581 := pr_tr 730 (by decide) (by decide +kernel) (by decide)
theorem prL1 : Pr 1257559732178653 := by
  refine pr_of_pock (F := 1224481 * 531581) (by decide) (by decide) fun d hd hdn => ?_
  have c : Nat.Coprime 1224481 531581 := by decide +kernel
  exact c.mul_dvd_of_dvd_of_dvd (pock1 256 pr1224481 (by decide +kernel) (by decide +kernel) (by decide +kernel) (by decide +kernel) (by decide +kernel) hd hdn)
    (pock1 256 pr531581 (by decide +kernel) (by decide +kernel) (by decide +kernel) (by decide +kernel) (by decide +kernel) hd hdn)
theorem prL2 : Pr 4434155615661930479 := by
  refine pr_of_pock (F := 1257559732178653) (by decide +kernel) (by decide +kernel) fun d hd hdn => ?_
  exact pock1 256 prL1 (by decide +kernel) (by decide +kernel) (by decide +kernel) (by decide +kernel) (by decide +kernel) hd hdn
theorem prL3 : Pr 172054593956031949258510691 := by
  refine pr_of_pock (F := 4434155615661930479) (by decide +kernel) (by decide +kernel) fun d hd hdn => ?_
  exact pock1 256 prL2 (by decide +kernel) (by decide +kernel) (by decide +kernel) (by decide +kernel) (by decide +kernel) hd hdn
theorem prL4 : Pr 19757330305831588566944191468367130476339 := by
  refine pr_of_pock (F := 172054593956031949258510691) (by decide +kernel) (by decide +kernel) fun d hd hdn => ?_
  exact pock1 256 prL3 (by decide +kernel) (by decide +kernel) (by decide +kernel) (by decide +kernel) (by decide +kernel) hd hdn
theorem prL5 : Pr 276602624281642239937218680557139826668747 := by
  refine pr_of_pock (F := 19757330305831588566944191468367130476339) (by decide +kernel) (by decide +kernel) fun d hd hdn => ?_
  exact pock1 256 prL4 (by decide +kernel) (by decide +kernel) (by decide +kernel) (by decide +kernel) (by decide +kernel) hd hdn
/-- The order of the point 9. -/
def L : Nat := 7237005577332262213973186563042994240857116359379907606001950938285454250989
theorem L_eq : L = 2 ^ 252 + 27742317777372353535851937790883648493 := by decide +kernel
theorem prL : Pr L := by
  refine pr_of_pock (F := 276602624281642239937218680557139826668747) (by decide +kernel) (by decide +kernel) fun d hd hdn => ?_
  exact pock1 256 prL5 (by decide +kernel) (by decide +kernel) (by decide +kernel) (by decide +kernel) (by decide +kernel) hd hdn
theorem L_not_dvd (k : Nat) : ¬ L ∣ clampN k := by
  obtain ⟨t, ht, h1, h2⟩ := clampN_8 k
  rw [ht]
  intro h
  rcases prL.dvd_mul h with h | h
  · have := Nat.le_of_dvd (by decide) h
    exact absurd this (by decide +kernel)
  · have hp : 0 < t := Nat.lt_of_lt_of_le (by decide +kernel) h1
    have := Nat.le_of_dvd hp h
    have hL : 2 ^ 252 < L := by decide +kernel
    omega
set_option maxRecDepth 100000 in
theorem lad_L : (nlad 9 L 255).1.2 = 0 := by decide +kernel

theorem v_of_rep (F : Fld P) (M : Mont P) {p x : Fin P × Fin P} (hp : M.On p) (h : Rep M.e p.2 x) (hz : x.2 = 0) : p = O := by
  obtain ⟨c, hc, _, h2⟩ := h
  rw [hz] at h2
  have h3 := F.zero_of h2.symm hc
  have h4 : p.2 = 1 := by generalize p.2 = v at *; clear h2 hz; grind -splitMatch -splitIte -splitIndPred -funext -lia -linarith (splits := 0) (ematch := 0)
  have h5 := v_one F M hp (by rw [h4]; exact Fin.ext rfl)
  exact Prod.ext h5 h4
/-- A multiple of a point of order L is nought only if L divides the number. -/
theorem smul_L (M : Mont P) {p : Fin P × Fin P} (hp : M.On p) (hne : 1 - p.2 ≠ 0) (hL : smul fld M.toCrv p L = O) (k : Nat) (hk : ¬ L ∣ k) : smul fld M.toCrv p k ≠ O := by
  intro h
  obtain ⟨u, hu⟩ := exists_inv (f := k) (m := L) ((Pr.cop prL hk).symm) (by decide +kernel)
  have hu1 : k * u = L * (k * u / L) + 1 := by
    have := Nat.div_add_mod (k * u) L
    rw [hu, Nat.mod_eq_of_lt (show 1 < L by decide +kernel)] at this
    exact this.symm
  have e1 : smul fld M.toCrv p (k * u) = O := by rw [smul_mul fld M.toCrv hp, h, smul_O]
  rw [hu1, smul_add fld M.toCrv hp, smul_mul fld M.toCrv hp, hL, smul_O, smul_one, O_add] at e1
  apply hne
  rw [e1]
  show (1 : Fin P) - 1 = 0
  exact Fin.sub_self
theorem xof_ne (M : Mont P) {p : Fin P × Fin P} (hp : M.On p) (hne : 1 - p.2 ≠ 0) (hL : smul fld M.toCrv p L = O) (k : Nat) (hk : ¬ L ∣ k) : xof fld M.e (smul fld M.toCrv p k).2 ≠ 0 := by
  intro h
  have ho := on_smul fld M.toCrv hp k
  have h2 : (smul fld M.toCrv p k).2 * (smul fld M.toCrv p k).2 = 1 := by
    rcases xof_zero fld M h with h | h
    · generalize (smul fld M.toCrv p k).2 = v at *; clear hne hL; grind -splitMatch -splitIte -splitIndPred -funext -lia -linarith (splits := 0) (ematch := 0)
    · generalize (smul fld M.toCrv p k).2 = v at *; clear hne hL; grind -splitMatch -splitIte -splitIndPred -funext -lia -linarith (splits := 0) (ematch := 0)
  have h3 := dbl_small fld M ho h2
  rw [← smul_add fld M.toCrv hp] at h3
  refine smul_L M hp hne hL (k + k) (fun hd => ?_) h3
  rw [← Nat.two_mul] at hd
  rcases prL.dvd_mul hd with h | h
  · have := Nat.le_of_dvd (by decide) h
    exact absurd this (by decide +kernel)
  · exact hk h
theorem nine : ∃ M : Mont P, M.k = kk ∧ ∃ p, M.On p ∧ q 9 * (1 - p.2) = M.e * (1 + p.2) ∧ 1 + p.2 ≠ 0 ∧ 1 - p.2 ≠ 0 ∧ smul fld M.toCrv p L = O := by
  obtain ⟨M, hk, _, p, hp, hx, h1, h2⟩ := exists_mont fld Ed.A kk (q 9) (fun h => by have := congrArg Fin.val h; exact absurd this (by decide +kernel)) kk_A A_not_sq sq_mul
  refine ⟨M, hk, p, hp, hx, h1, h2, ?_⟩
  have hL : L < 2 ^ 255 := by decide +kernel
  have hr := (lad_rep fld M hp hx h1 h2 L hL 255 (Nat.le_refl _)).1
  rw [Nat.sub_self, Nat.pow_zero, Nat.div_one, hk, ← qq_lad] at hr
  refine v_of_rep fld M (on_smul fld M.toCrv hp L) hr ?_
  show q (nlad 9 L 255).1.2 = 0
  rw [lad_L]; rfl
theorem nT_nine (a : Nat) (ha : a < 2 ^ 255) (hd : ¬ L ∣ a) : nT a 9 ≠ 0 := by
  obtain ⟨M, hk, p, hp, hx, h1, h2, hL⟩ := nine
  intro h
  have : q (nT a 9) = 0 := by rw [h]; rfl
  rw [q_T, ← hk, T_rep fld M hp hx h1 h2 a ha] at this
  exact xof_ne M hp h2 hL a hd this
theorem nT_nine2 (a b : Nat) (ha : a < 2 ^ 255) (hb : b < 2 ^ 255) (hb2 : b % 2 = 0) (hd : ¬ L ∣ a) (hd' : ¬ L ∣ b) : nT b (nT a 9) ≠ 0 := by
  obtain ⟨M, hk, p, hp, hx, h1, h2, hL⟩ := nine
  intro h
  have : q (nT b (nT a 9)) = 0 := by rw [h]; rfl
  rw [q_T, q_T, ← hk, T_T fld M hp hx h1 h2 a b ha hb hb2] at this
  refine xof_ne M hp h2 hL (a * b) (fun h => ?_) this
  rcases prL.dvd_mul h with h | h
  · exact hd h
  · exact hd' h
/-- The point that belongs to a secret is not nought. -/
theorem public_ne (k : Nat) : nT (clampN k) 9 ≠ 0 := nT_nine _ (clampN_lt k) (L_not_dvd k)
/-- What two secrets share is not nought, and is one for both. -/
theorem pair_ne (j k : Nat) : nT (clampN k) (nT (clampN j) 9) ≠ 0 := nT_nine2 _ _ (clampN_lt j) (clampN_lt k) (clampN_even k) (L_not_dvd j) (L_not_dvd k)
theorem pair_order (u j k : Nat) : nT (clampN k) (nT (clampN j) u) = nT (clampN j) (nT (clampN k) u) := nT_order u _ _ (clampN_lt j) (clampN_lt k) (clampN_even j) (clampN_even k)
end Cv
#print axioms Cv.pair_ne
end Go.Proofs.Ytpilonikhokjeaa
