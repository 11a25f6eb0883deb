/-
  Package field's numbers: products by a word, and what is left modulo 2^255 - 19.
-/
import Derived.Test.YtpilonikhokjeaaFieldWords
import Derived.Test.YtpilonikhokjeaaPlus
import Derived.Test.YtpilonikhokjeaaHold
namespace Go.Proofs.Ytpilonikhokjeaa
open Go.RowKit Go.Shelf

/-- A number times a word, and a number more, in five words. -/
def MaR (a0 a1 a2 a3 y m0 m1 m2 m3 r0 r1 r2 r3 h : Int) : Prop := W4 r0 r1 r2 r3 ∧ Word h ∧ V r0 r1 r2 r3 + h * 115792089237316195423570985008687907853269984665640564039457584007913129639936 = V a0 a1 a2 a3 * y + V m0 m1 m2 m3
theorem maR_of {a0 a1 a2 a3 y m0 m1 m2 m3 r0 r1 r2 r3 h0 h1 h2 h3 : Int} (f0 : MwR a0 y m0 0 r0 h0) (f1 : MwR a1 y m1 h0 r1 h1) (f2 : MwR a2 y m2 h1 r2 h2) (f3 : MwR a3 y m3 h2 r3 h3) : MaR a0 a1 a2 a3 y m0 m1 m2 m3 r0 r1 r2 r3 h3 := by
  obtain ⟨w0, _, e0⟩ := f0; obtain ⟨w1, _, e1⟩ := f1; obtain ⟨w2, _, e2⟩ := f2; obtain ⟨w3, wh, e3⟩ := f3
  refine ⟨⟨w0, w1, w2, w3⟩, wh, ?_⟩
  unfold V
  rw [Int.add_mul, Int.add_mul, Int.add_mul, Int.mul_right_comm a1, Int.mul_right_comm a2, Int.mul_right_comm a3]
  generalize a0 * y = p0 at *; generalize a1 * y = p1 at *; generalize a2 * y = p2 at *; generalize a3 * y = p3 at *
  omega
theorem word0 : Word 0 := ⟨by decide, by decide⟩

set_option maxHeartbeats 1000000 in
theorem multiplyAdd_any (a0 a1 a2 a3 y m0 m1 m2 m3 : Int) (ha : W4 a0 a1 a2 a3) (hy : Word y) (hm : W4 m0 m1 m2 m3) (w : World) :
    Calls Try.prog 55 #[nv a0 a1 a2 a3, .int .u64 y, nv m0 m1 m2 m3] w (Ret5 (MaR a0 a1 a2 a3 y m0 m1 m2 m3) w) := by
  obtain ⟨ha0, ha1, ha2, ha3⟩ := ha
  obtain ⟨hm0, hm1, hm2, hm3⟩ := hm
  go_enter Try.func55, Try.ntmps55
  go_wp2_with fail
  refine (multiplyWord_any a0 y m0 0 ha0 hy hm0 word0 _).mono ?_
  rintro e w' ⟨r0, h0, f0, rfl, rfl⟩
  go_wp2_with fail
  refine (multiplyWord_any a1 y m1 h0 ha1 hy hm1 f0.2.1 _).mono ?_
  rintro e w' ⟨r1, h1, f1, rfl, rfl⟩
  go_wp2_with fail
  refine (multiplyWord_any a2 y m2 h1 ha2 hy hm2 f1.2.1 _).mono ?_
  rintro e w' ⟨r2, h2, f2, rfl, rfl⟩
  go_wp2_with fail
  refine (multiplyWord_any a3 y m3 h2 ha3 hy hm3 f2.2.1 _).mono ?_
  rintro e w' ⟨r3, h3, f3, rfl, rfl⟩
  have hr := maR_of f0 f1 f2 f3
  clear ha0 ha1 ha2 ha3 hm0 hm1 hm2 hm3 f0 f1 f2 f3 hy
  go_wp2_with fail
  refine bodyPost_ret (v := .tuple #[nv r0 r1 r2 r3, .int .u64 h3]) (by simp [results, Try.results55, go_sem]) rfl ⟨r0, r1, r2, r3, h3, hr, rfl, ?_⟩
  exact (((Below.refl _ _).alloc (Nat.le_refl _) _).alloc (by simp) _).alloc (by simp; omega) _

theorem or_top (h d : Int) (h0 : 0 ≤ h) (h1 : h ≤ 38) (hd : Word d) : bits .or .u64 (h * 2) (d / 9223372036854775808) = h * 2 + d / 9223372036854775808 := by
  obtain ⟨d0, d1⟩ := hd
  obtain ⟨n, rfl⟩ := Int.eq_ofNat_of_zero_le h0
  obtain ⟨m, hm⟩ := Int.eq_ofNat_of_zero_le (a := d / 9223372036854775808) (by omega)
  rw [hm]
  have h := bits_or_u64_nat (n * 2) m (by omega) (by omega)
  have hm1 : m < 2 ^ 1 := by omega
  have e : n * 2 ||| m = n * 2 + m := by
    have := Nat.two_pow_add_eq_or_of_lt hm1 n
    rw [Nat.mul_comm n 2]; simpa using this.symm
  rw [e] at h
  exact_mod_cast h

/-- A number's bit 255, and what is below it. -/
theorem topV {a b c d : Int} (h : W4 a b c d) : V a b c d = V a b c (d % 9223372036854775808) + d / 9223372036854775808 * 57896044618658097711785492504343953926634992332820282019728792003956564819968 ∧
    0 ≤ V a b c (d % 9223372036854775808) ∧ V a b c (d % 9223372036854775808) < 57896044618658097711785492504343953926634992332820282019728792003956564819968 ∧ 0 ≤ d / 9223372036854775808 ∧ d / 9223372036854775808 ≤ 1 ∧ W4 a b c (d % 9223372036854775808) := by
  unfold W4 Word V at *; omega
theorem settle_core {lo t x g n : Int} (h1 : 0 ≤ lo) (h2 : lo < 57896044618658097711785492504343953926634992332820282019728792003956564819968) (h3 : 0 ≤ t) (h4 : t ≤ 77) (hx : x = lo + 19 * t)
    (hn : n = lo + t * 57896044618658097711785492504343953926634992332820282019728792003956564819968) (hg : g = 0 ∧ x + 19 < 57896044618658097711785492504343953926634992332820282019728792003956564819968 ∨ g = 1 ∧ 57896044618658097711785492504343953926634992332820282019728792003956564819968 ≤ x + 19) :
    x + 19 * g - g * 57896044618658097711785492504343953926634992332820282019728792003956564819968 = n % 57896044618658097711785492504343953926634992332820282019728792003956564819949 := by
  rcases hg with ⟨rfl, h⟩ | ⟨rfl, h⟩
  · have e : n = x + 57896044618658097711785492504343953926634992332820282019728792003956564819949 * t := by omega
    rw [e, Int.add_mul_emod_self_left, Int.emod_eq_of_lt (by omega) (by omega)]; omega
  · have e : n = (x - 57896044618658097711785492504343953926634992332820282019728792003956564819949) + 57896044618658097711785492504343953926634992332820282019728792003956564819949 * (t + 1) := by omega
    rw [e, Int.add_mul_emod_self_left, Int.emod_eq_of_lt (by omega) (by omega)]; omega
theorem V_small (x : Int) : V x 0 0 0 = x := by unfold V; omega
theorem V_bd {a b c d : Int} (h : W4 a b c d) : 0 ≤ V a b c d ∧ V a b c d < 115792089237316195423570985008687907853269984665640564039457584007913129639936 := by
  unfold W4 Word V at *; omega
theorem settle_fact {a b c d h t l0 l1 l2 l3 k m0 m1 m2 m3 k' s0 s1 s2 s3 k'' : Int} (ha : W4 a b c d) (h0 : 0 ≤ h) (h1 : h ≤ 38) (ht : t = h * 2 + d / 9223372036854775808)
    (F1 : AddR a b c (d % 9223372036854775808) (19 * t) 0 0 0 l0 l1 l2 l3 k) (F2 : AddR l0 l1 l2 l3 19 0 0 0 m0 m1 m2 m3 k') (F3 : AddR l0 l1 l2 l3 (19 * (m3 / 9223372036854775808)) 0 0 0 s0 s1 s2 s3 k'') :
    W4 s0 s1 s2 (s3 % 9223372036854775808) ∧ V s0 s1 s2 (s3 % 9223372036854775808) = (V a b c d + h * 115792089237316195423570985008687907853269984665640564039457584007913129639936) % 57896044618658097711785492504343953926634992332820282019728792003956564819949 := by
  obtain ⟨a1, a2, a3, a4, a5, _⟩ := topV ha
  obtain ⟨W1, k0, k1, e1⟩ := F1
  obtain ⟨W2, k0', k1', e2⟩ := F2
  obtain ⟨W3, k0'', k1'', e3⟩ := F3
  obtain ⟨b1, b2, b3, b4, b5, _⟩ := topV W2
  obtain ⟨c1, c2, c3, c4, c5, c6⟩ := topV W3
  have v1 := V_bd W1; have v2 := V_bd W2; have v3 := V_bd W3
  refine ⟨c6, ?_⟩
  rw [V_small] at e1 e2 e3
  generalize V a b c d = A at *; generalize V a b c (d % 9223372036854775808) = lo at *
  generalize V l0 l1 l2 l3 = x at *; generalize V m0 m1 m2 m3 = y at *; generalize V m0 m1 m2 (m3 % 9223372036854775808) = ylo at *
  generalize V s0 s1 s2 s3 = z at *; generalize V s0 s1 s2 (s3 % 9223372036854775808) = r at *
  generalize m3 / 9223372036854775808 = g at *; generalize s3 / 9223372036854775808 = g' at *; generalize d / 9223372036854775808 = q at *
  clear W1 W2 W3 ha
  have hk : k = 0 := by omega
  subst hk
  have hk' : k' = 0 := by omega
  subst hk'
  have hk'' : k'' = 0 := by omega
  subst hk''
  have hx : x = lo + 19 * t := by omega
  have hn : A + h * 115792089237316195423570985008687907853269984665640564039457584007913129639936 = lo + t * 57896044618658097711785492504343953926634992332820282019728792003956564819968 := by omega
  have hg : g = 0 ∧ x + 19 < 57896044618658097711785492504343953926634992332820282019728792003956564819968 ∨ g = 1 ∧ 57896044618658097711785492504343953926634992332820282019728792003956564819968 ≤ x + 19 := by omega
  have hr : r = x + 19 * g - g * 57896044618658097711785492504343953926634992332820282019728792003956564819968 := by omega
  rw [hr]
  exact settle_core a2 a3 (by omega) (by omega) hx hn hg

set_option maxHeartbeats 1000000 in
theorem settle_any (a b c d h : Int) (ha : W4 a b c d) (h0 : 0 ≤ h) (h1 : h ≤ 38) (w : World) :
    Calls Try.prog 39 #[nv a b c d, .int .u64 h] w (Ret4 (fun r0 r1 r2 r3 => W4 r0 r1 r2 r3 ∧ V r0 r1 r2 r3 = (V a b c d + h * 115792089237316195423570985008687907853269984665640564039457584007913129639936) % 57896044618658097711785492504343953926634992332820282019728792003956564819949) w) := by
  have hor := or_top h d h0 h1 ha.2.2.2
  have d0 : 0 ≤ d := ha.2.2.2.1
  have d1 : d < 18446744073709551616 := ha.2.2.2.2
  go_enter Try.func39, Try.ntmps39
  go_wp2_with fail
  refine (withoutTop_any a b c d ha _).mono ?_
  rintro e w1 ⟨rfl, hb1⟩
  obtain ⟨o1, n1, rfl⟩ := below_plus hb1
  clear hb1
  go_wp2_with fail
  obtain ⟨t, ht⟩ : ∃ t, t = h * 2 + d / 9223372036854775808 := ⟨_, rfl⟩
  have t0 : 0 ≤ t := by omega
  have t1 : t ≤ 77 := by omega
  rw [← ht]
  have Ht := Lib.hid ht
  clear ht hor
  refine (add_any a b c (d % 9223372036854775808) (19 * t) 0 0 0 ⟨ha.1, ha.2.1, ha.2.2.1, by omega, by omega⟩ ⟨⟨by omega, by omega⟩, word0, word0, word0⟩ _).mono ?_
  rintro e w2 ⟨l0, l1, l2, l3, k, F1, rfl, hb2⟩
  obtain ⟨o2, n2, rfl⟩ := below_plus hb2
  clear hb2
  go_wp2_with fail
  have L : W4 l0 l1 l2 l3 := F1.1
  refine (add_any l0 l1 l2 l3 19 0 0 0 L ⟨⟨by decide, by decide⟩, word0, word0, word0⟩ _).mono ?_
  rintro e w3 ⟨m0, m1, m2, m3, k', F2, rfl, hb3⟩
  obtain ⟨o3, n3, rfl⟩ := below_plus hb3
  clear hb3
  have m3a : 0 ≤ m3 := F2.1.2.2.2.1
  have m3b : m3 < 18446744073709551616 := F2.1.2.2.2.2
  go_wp2_with fail
  refine (add_any l0 l1 l2 l3 (19 * (m3 / 9223372036854775808)) 0 0 0 L ⟨⟨by omega, by omega⟩, word0, word0, word0⟩ _).mono ?_
  rintro e w4 ⟨s0, s1, s2, s3, k'', F3, rfl, hb4⟩
  obtain ⟨o4, n4, rfl⟩ := below_plus hb4
  clear hb4
  go_wp2_with fail
  refine (withoutTop_any s0 s1 s2 s3 F3.1 _).mono ?_
  rintro e w5 ⟨rfl, hb5⟩
  obtain ⟨o5, n5, rfl⟩ := below_plus hb5
  clear hb5
  go_wp2_with fail
  refine bodyPost_ret (v := nv s0 s1 s2 (s3 % 9223372036854775808)) (by simp [results, Try.results39, go_sem]) rfl ⟨s0, s1, s2, s3 % 9223372036854775808, settle_fact ha h0 h1 Ht.out F1 F2 F3, rfl, ?_⟩
  repeat (first | apply below_more | apply below_alloc | exact Below.refl _ _)
end Go.Proofs.Ytpilonikhokjeaa
