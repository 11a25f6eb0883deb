/-
  The field of X25519: 2^255 - 19 elements. Which numbers are squares; the order of the point 9.
-/
import Derived.Test.YtpilonikhokjeaaEdTimes
namespace Go.Proofs.Ytpilonikhokjeaa.Ed
open Fp
instance neP : NeZero P := ⟨by decide +kernel⟩
/-- A number, modulo p. -/
def q (x : Nat) : Fin P := Fin.ofNat P x
theorem q_val (x : Nat) : (q x).val = x % P := rfl
theorem q_of (x : Fin P) : q x.val = x := Fin.ext (by rw [q_val, Nat.mod_eq_of_lt x.isLt])
theorem q_eq {x y : Nat} : q x = q y ↔ x % P = y % P := by
  constructor
  · intro h; have := congrArg Fin.val h; simpa [q_val] using this
  · intro h; exact Fin.ext (by rw [q_val, q_val, h])
theorem q_add (x y : Nat) : q ((x + y) % P) = q x + q y := Fin.ext (by rw [Fin.val_add, q_val, q_val, q_val, Nat.mod_mod, ← Nat.add_mod])
theorem q_mul (x y : Nat) : q (x * y % P) = q x * q y := Fin.ext (by rw [Fin.val_mul, q_val, q_val, q_val, Nat.mod_mod, ← Nat.mul_mod])
theorem q_sub (x y : Nat) : q ((x % P + (P - y % P)) % P) = q x - q y := Fin.ext (by
  rw [Fin.val_sub, q_val, q_val, q_val, Nat.mod_mod, Nat.add_comm])
theorem q_0 : q 0 = 0 := rfl
theorem q_1 : q 1 = 1 := rfl
theorem q_zero {x : Nat} : q x = 0 ↔ x % P = 0 := by rw [← q_0, q_eq, Nat.zero_mod]
theorem q_inj {x y : Nat} (hx : x < P) (hy : y < P) (h : q x = q y) : x = y := by
  have := q_eq.1 h
  rwa [Nat.mod_eq_of_lt hx, Nat.mod_eq_of_lt hy] at this
/-- The inverse, as a power. -/
def fld : Fld P where
  inv x := q (x.val ^ E % P)
  inv_mul x h := by
    have hx : x.val % P ≠ 0 := fun e => h (by rw [← q_of x]; exact q_zero.2 e)
    have := inv_mul x.val hx
    conv => lhs; rw [← q_of x]
    rw [← q_mul, q_of, this]; rfl
  inv_zero := by
    show q ((0 : Fin P).val ^ E % P) = 0
    rw [show (0 : Fin P).val = 0 from rfl, Fp.inv_zero]; rfl
  one_ne := fun h => by
    have := congrArg Fin.val h
    have h1 : (1 : Fin P).val = 1 := rfl
    rw [h1] at this
    exact absurd this (by decide)
  two_ne := fun h => by
    have := congrArg Fin.val h
    have h1 : (2 : Fin P).val = 2 := rfl
    rw [h1] at this
    exact absurd this (by decide)
theorem q_inv (x : Nat) : q (x ^ E % P) = fld.inv (q x) := by
  show q (x ^ E % P) = q ((q x).val ^ E % P)
  rw [q_val, Fp.pow_mod]

/-! ### Squares -/
/-- The power that tells squares. -/
def H : Nat := 28948022309329048855892746252171976963317496166410141009864396001978282409974
theorem H_2 : H * 2 = P - 1 := by decide +kernel
def G : Nat := 14474011154664524427946373126085988481658748083205070504932198000989141204987
theorem G_2 : G * 2 = H := by decide +kernel
def K : Nat := 7237005577332262213973186563042994240829374041602535252466099000494570602494
theorem K_2 : K * 2 = G + 1 := by decide +kernel
def pr (x : Fin P) (k : Nat) : Fin P := q (x.val ^ k % P)
theorem pr_add (x : Fin P) (j k : Nat) : pr x (j + k) = pr x j * pr x k := by
  unfold pr
  rw [← q_mul, Nat.pow_add, ← Nat.mul_mod]
theorem pr_mul (x y : Fin P) (k : Nat) : pr (x * y) k = pr x k * pr y k := by
  unfold pr
  rw [← q_mul, Fin.val_mul, Fp.pow_mod, Nat.mul_pow, ← Nat.mul_mod]
theorem pr_fermat {x : Fin P} (h : x ≠ 0) : pr x (P - 1) = 1 := by
  unfold pr
  rw [fermat prP (fun hd => h (by rw [← q_of x]; exact q_zero.2 (Nat.mod_eq_zero_of_dvd hd)))]; rfl
theorem pr_one (x : Fin P) : pr x 1 = x := by unfold pr; rw [Nat.pow_one, Nat.mod_eq_of_lt x.isLt, q_of]
theorem pr_H {x : Fin P} (h : x ≠ 0) : pr x H = 1 ∨ pr x H = -1 := by
  apply fld.sq_eq
  rw [← pr_add, ← Nat.mul_two, H_2, pr_fermat h]; rfl
theorem pr_sq {x : Fin P} (h : x ≠ 0) (hs : Sq x) : pr x H = 1 := by
  obtain ⟨t, rfl⟩ := hs
  have ht : t ≠ 0 := fun e => h (by rw [e]; exact Fin.ext (by rw [Fin.val_mul]; rfl))
  rw [pr_mul, ← pr_add, ← Nat.mul_two, H_2, pr_fermat ht]
def Two : Fin P := q 2
theorem two_H : pr Two H = -1 := by
  unfold pr
  have h2 : Two.val = 2 := rfl
  rw [h2, ← pm_eq P 256 2 H (by decide +kernel)]
  exact Fin.ext (by decide +kernel)
theorem neg_one_sq : (-1 : Fin P) = pr Two G * pr Two G := by rw [← pr_add, ← Nat.mul_two, G_2, two_H]
theorem sq_of_H {x : Fin P} (h : pr x H = 1) : Sq x := by
  have h4 : pr x G = 1 ∨ pr x G = -1 := by
    apply fld.sq_eq
    rw [← pr_add, ← Nat.mul_two, G_2, h]; rfl
  have hk : pr x K * pr x K = pr x G * x := by
    rw [← pr_add, ← Nat.mul_two, K_2, pr_add, pr_one]
  rcases h4 with h4 | h4
  · refine ⟨pr x K, ?_⟩
    rw [hk, h4]
    generalize x = y
    clear hk h4 h
    have := fld.one_ne
    exact (Fin.one_mul y).symm
  · refine ⟨pr x K * pr Two G, ?_⟩
    have e : ∀ a b : Fin P, a * b * (a * b) = (a * a) * (b * b) := fun a b => by grind -splitMatch -splitIte -splitIndPred -funext -lia -linarith (splits := 0) (ematch := 0)
    rw [e, hk, h4, ← neg_one_sq]
    have e2 : ∀ y : Fin P, y = -1 * y * -1 := fun y => by grind -splitMatch -splitIte -splitIndPred -funext -lia -linarith (splits := 0) (ematch := 0)
    exact e2 x
theorem sq_mul (x y : Fin P) (hx : ¬ Sq x) (hy : ¬ Sq y) : Sq (x * y) := by
  have e0 : ∀ a : Fin P, a = 0 → Sq a := fun a h => ⟨0, by rw [h]; exact Fin.ext (by rw [Fin.val_mul]; rfl)⟩
  have hx0 : x ≠ 0 := fun h => hx (e0 _ h)
  have hy0 : y ≠ 0 := fun h => hy (e0 _ h)
  apply sq_of_H
  rw [pr_mul]
  rcases pr_H hx0 with h1 | h1
  · exact absurd (sq_of_H h1) hx
  · rcases pr_H hy0 with h2 | h2
    · exact absurd (sq_of_H h2) hy
    · rw [h1, h2]; exact Fin.ext (by decide +kernel)
/-- Montgomery's number. -/
def A : Fin P := q 486662
theorem A_not_sq : ¬ Sq (A * A - 4) := by
  intro h
  have hv : (A * A - 4).val = 236839902240 := by decide +kernel
  have h0 : A * A - 4 ≠ 0 := fun e => by rw [e] at hv; exact absurd hv (by decide +kernel)
  have h1 := pr_sq h0 h
  unfold pr at h1
  rw [hv, ← pm_eq P 256 236839902240 H (by decide +kernel)] at h1
  have h2 := congrArg Fin.val h1
  exact absurd h2 (by decide +kernel)
def kk : Fin P := q 121665
theorem kk_A : 4 * kk = A - 2 := Fin.ext (by decide +kernel)

/-- Two even scalars, in either order. -/
theorem T_order (u : Fin P) (a b : Nat) (ha : a < 2 ^ 255) (hb : b < 2 ^ 255) (ha2 : a % 2 = 0) (hb2 : b % 2 = 0) : T fld kk b (T fld kk a u) = T fld kk a (T fld kk b u) :=
  T_comm fld A kk kk_A A_not_sq sq_mul u a b ha hb ha2 hb2
end Go.Proofs.Ytpilonikhokjeaa.Ed
