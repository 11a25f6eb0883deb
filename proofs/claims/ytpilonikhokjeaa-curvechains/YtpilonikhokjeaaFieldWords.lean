/-
  The words of package field: the library's carries, sums, differences and products of four words, and what is left of a number modulo 2^255 - 19.
-/
import Derived.Test.YtpilonikhokjeaaRows
import Derived.WalkKit
import Derived.WalkSpells
import Derived.WalkLawsBesides
import Derived.Laws.Bits64b
import Derived.Lib.Hide
import Derived.Shelf.Bits.Mul64
import Derived.Shelf.Spec.BitsCarry
namespace Go.Proofs.Ytpilonikhokjeaa
open Go.RowKit Go.Shelf

/-! ### The library's three calls -/
def ren : Ren := ⟨fun n => if n = 264 then 65 else if n = 25 then 60 else 64, fun n => if n = 46 then 53 else 41, fun n => n⟩
theorem laysMul : Lays.n264 Try.prog ren := ⟨by kernel_rfl, by kernel_rfl, by kernel_rfl, fun _ => by kernel_rfl, fun _ => by kernel_rfl, fun _ => by kernel_rfl, by kernel_rfl, fun _ => by kernel_rfl, fun _ => by kernel_rfl, fun _ => by kernel_rfl⟩
theorem laysAdd : Lays7.n25 Try.prog ren := ⟨by kernel_rfl, by kernel_rfl, by kernel_rfl, fun _ => by kernel_rfl, fun _ => by kernel_rfl, fun _ => by kernel_rfl, by kernel_rfl⟩
theorem laysSub : Lays7.n26 Try.prog ren := ⟨by kernel_rfl, by kernel_rfl, by kernel_rfl, fun _ => by kernel_rfl, fun _ => by kernel_rfl, fun _ => by kernel_rfl, by kernel_rfl⟩

/-- The borrow. -/
def bor (x y : Int) : Int := if x < y then 1 else 0
theorem bor01 (x y : Int) : 0 ≤ bor x y ∧ bor x y ≤ 1 := by unfold bor; split <;> decide

theorem add64 (x y c : Int) (hx : 0 ≤ x) (hy : 0 ≤ y) (hc0 : 0 ≤ c) (hc : c ≤ 1) (w : World) : (callFunc 60 #[.int .u64 x, .int .u64 y, .int .u64 c]).run Try.prog w =
    .ok (.value (.tuple #[.int .u64 ((x + y + c) % 18446744073709551616), .int .u64 ((x + y + c) / 18446744073709551616)])) w := by
  obtain ⟨x, rfl⟩ := Int.eq_ofNat_of_zero_le hx
  obtain ⟨y, rfl⟩ := Int.eq_ofNat_of_zero_le hy
  obtain ⟨c, rfl⟩ := Int.eq_ofNat_of_zero_le hc0
  refine (Any7.bits_Add64 laysAdd x y c (by omega) w).trans ?_
  congr 5 <;> omega
theorem add64_0 (x y : Int) (hx : 0 ≤ x) (hy : 0 ≤ y) (w : World) : (callFunc 60 #[.int .u64 x, .int .u64 y, .int .u64 0]).run Try.prog w =
    .ok (.value (.tuple #[.int .u64 ((x + y) % 18446744073709551616), .int .u64 ((x + y) / 18446744073709551616)])) w := by
  simpa using add64 x y 0 hx hy (Int.le_refl 0) (by decide) w
theorem sub64 (x y b : Int) (hx : 0 ≤ x) (hy : 0 ≤ y) (hy' : y < 18446744073709551616) (hb0 : 0 ≤ b) (hb : b ≤ 1) (w : World) : (callFunc 64 #[.int .u64 x, .int .u64 y, .int .u64 b]).run Try.prog w =
    .ok (.value (.tuple #[.int .u64 ((x - y - b) % 18446744073709551616), .int .u64 (bor x (y + b))])) w := by
  obtain ⟨x, rfl⟩ := Int.eq_ofNat_of_zero_le hx
  obtain ⟨y, rfl⟩ := Int.eq_ofNat_of_zero_le hy
  obtain ⟨b, rfl⟩ := Int.eq_ofNat_of_zero_le hb0
  have e1 : (((x + 18446744073709551616 - y - b) % 18446744073709551616 : Nat) : Int) = ((x : Int) - y - b) % 18446744073709551616 := by omega
  have e2 : ((if x < y + b then 1 else 0 : Nat) : Int) = bor x (y + b) := by unfold bor; split <;> split <;> omega
  rw [← e1, ← e2]
  exact Any7.bits_Sub64 laysSub x y b (by omega) w
theorem sub64_0 (x y : Int) (hx : 0 ≤ x) (hy : 0 ≤ y) (hy' : y < 18446744073709551616) (w : World) : (callFunc 64 #[.int .u64 x, .int .u64 y, .int .u64 0]).run Try.prog w =
    .ok (.value (.tuple #[.int .u64 ((x - y) % 18446744073709551616), .int .u64 (bor x y)])) w := by
  simpa using sub64 x y 0 hx hy hy' (Int.le_refl 0) (by decide) w

/-! ### Four words -/
/-- A word. -/
def Word (x : Int) : Prop := 0 ≤ x ∧ x < 18446744073709551616
/-- Four words. -/
def W4 (a b c d : Int) : Prop := Word a ∧ Word b ∧ Word c ∧ Word d
/-- Their number. -/
def V (a b c d : Int) : Int := a + b * 18446744073709551616 + c * 340282366920938463463374607431768211456 + d * 6277101735386680763835789423207666416102355444464034512896
/-- Four words as a value. -/
abbrev nv (a b c d : Int) : Value := .agg #[.int .u64 a, .int .u64 b, .int .u64 c, .int .u64 d]
/-- 'Four words are answered of which R holds; nothing that was there has turned.' -/
def Ret4 (R : Int → Int → Int → Int → Prop) (w : World) (e : Ending) (w' : World) : Prop := ∃ a b c d, R a b c d ∧ e = .returned (nv a b c d) ∧ Below w.heap.size w w'
/-- 'Four words and one more are answered of which R holds; nothing that was there has turned.' -/
def Ret5 (R : Int → Int → Int → Int → Int → Prop) (w : World) (e : Ending) (w' : World) : Prop := ∃ a b c d h, R a b c d h ∧ e = .returned (.tuple #[nv a b c d, .int .u64 h]) ∧ Below w.heap.size w w'

theorem word_mul (x y : Int) (hx : Word x) (hy : Word y) : 0 ≤ x * y ∧ x * y ≤ 340282366920938463426481119284349108225 := by
  obtain ⟨a, b⟩ := hx; obtain ⟨c, d⟩ := hy
  refine ⟨Int.mul_nonneg a c, ?_⟩
  have h1 : x * y ≤ 18446744073709551615 * y := Int.mul_le_mul_of_nonneg_right (by omega) c
  omega


/-- A sum of two words and a carry, in a word and a carry. -/
def AddF (x y c s d : Int) : Prop := 0 ≤ s ∧ s < 18446744073709551616 ∧ 0 ≤ d ∧ d ≤ 1 ∧ s + d * 18446744073709551616 = x + y + c
theorem add64_ex (x y c : Int) (hx : Word x) (hy : Word y) (hc0 : 0 ≤ c) (hc : c ≤ 1) : ∃ s d, AddF x y c s d ∧ ∀ w, (callFunc 60 #[.int .u64 x, .int .u64 y, .int .u64 c]).run Try.prog w = .ok (.value (.tuple #[.int .u64 s, .int .u64 d])) w := by
  refine ⟨_, _, ?_, fun w => add64 x y c hx.1 hy.1 hc0 hc w⟩
  obtain ⟨_, _⟩ := hx; obtain ⟨_, _⟩ := hy
  unfold AddF; omega
/-- A difference of two words and a borrow, in a word and a borrow. -/
def SubF (x y c s d : Int) : Prop := 0 ≤ s ∧ s < 18446744073709551616 ∧ 0 ≤ d ∧ d ≤ 1 ∧ s - d * 18446744073709551616 = x - y - c
theorem sub64_ex (x y c : Int) (hx : Word x) (hy : Word y) (hc0 : 0 ≤ c) (hc : c ≤ 1) : ∃ s d, SubF x y c s d ∧ ∀ w, (callFunc 64 #[.int .u64 x, .int .u64 y, .int .u64 c]).run Try.prog w = .ok (.value (.tuple #[.int .u64 s, .int .u64 d])) w := by
  refine ⟨_, _, ?_, fun w => sub64 x y c hx.1 hy.1 hy.2 hc0 hc w⟩
  obtain ⟨_, _⟩ := hx; obtain ⟨_, _⟩ := hy
  unfold SubF bor; split <;> omega

/-- A product in two words. -/
def MulF (x y l h : Int) : Prop := 0 ≤ l ∧ l < 18446744073709551616 ∧ 0 ≤ h ∧ h < 18446744073709551615 ∧ l + h * 18446744073709551616 = x * y ∧ x * y ≤ 340282366920938463426481119284349108225
theorem mul64 (x y : Int) (hx : Word x) (hy : Word y) : ∃ l h, MulF x y l h ∧ ∀ w,
    Calls Try.prog 65 #[.int .u64 x, .int .u64 y] w fun e w' => e = .returned (.tuple #[.int .u64 h, .int .u64 l]) ∧ w = w' := by
  have hm := word_mul x y hx hy
  obtain ⟨hx0, hx1⟩ := hx; obtain ⟨hy0, hy1⟩ := hy
  refine ⟨x * y % 18446744073709551616, x * y / 18446744073709551616, ?_, fun w => ?_⟩
  · unfold MulF
    generalize x * y = m at *
    omega
  obtain ⟨x, rfl⟩ := Int.eq_ofNat_of_zero_le hx0
  obtain ⟨y, rfl⟩ := Int.eq_ofNat_of_zero_le hy0
  refine (Any.bits_Mul64 laysMul x y (by omega) (by omega) w).mono ?_
  rintro e w' ⟨rfl, rfl⟩
  exact ⟨rfl, rfl⟩

/-- A product and two words more, in two words. -/
def MwR (x y z c l h : Int) : Prop := Word l ∧ Word h ∧ l + h * 18446744073709551616 = x * y + z + c
def RetMw (x y z c : Int) (w : World) (e : Ending) (w' : World) : Prop := ∃ l h, MwR x y z c l h ∧ e = .returned (.tuple #[.int .u64 l, .int .u64 h]) ∧ w = w'

theorem mwR_of {x y z c l h s1 d1 s2 d2 : Int} (hm : MulF x y l h) (a1 : AddF l z 0 s1 d1) (a2 : AddF s1 c 0 s2 d2) (hz : Word z) (hc : Word c) : h + d1 + d2 < 18446744073709551616 ∧ MwR x y z c s2 (h + d1 + d2) := by
  obtain ⟨_, _⟩ := hz; obtain ⟨_, _⟩ := hc
  unfold MulF at hm; unfold AddF at a1 a2; unfold MwR Word
  generalize x * y = m at *
  omega

set_option maxHeartbeats 1000000 in
theorem multiplyWord_any (x y z c : Int) (hx : Word x) (hy : Word y) (hz : Word z) (hc : Word c) (w : World) :
    Calls Try.prog 63 #[.int .u64 x, .int .u64 y, .int .u64 z, .int .u64 c] w (RetMw x y z c w) := by
  obtain ⟨l, h, fm, M1⟩ := mul64 x y hx hy
  obtain ⟨s1, d1, f1, A1⟩ := add64_ex l z 0 ⟨fm.1, fm.2.1⟩ hz (by decide) (by decide)
  obtain ⟨s2, d2, f2, A2⟩ := add64_ex s1 c 0 ⟨f1.1, f1.2.1⟩ hc (by decide) (by decide)
  obtain ⟨hlt, hr⟩ := mwR_of fm f1 f2 hz hc
  have g1 : 0 ≤ h := fm.2.2.1
  have g2 : 0 ≤ d1 := f1.2.2.1
  have g3 : 0 ≤ d2 := f2.2.2.1
  clear hx hy hz hc fm f1 f2
  have M2 := Lib.hid M1
  clear M1
  go_enter Try.func63, Try.ntmps63
  go_wp2_with (go_at_call 65; refine (M2.out _).mono ?_; rintro e w' ⟨rfl, rfl⟩)
  go_ret2
  exact ⟨s2, _, hr, rfl, rfl⟩

/-- The sum of two numbers of four words, in four words and a carry. -/
def AddR (a0 a1 a2 a3 b0 b1 b2 b3 r0 r1 r2 r3 c : Int) : Prop := W4 r0 r1 r2 r3 ∧ 0 ≤ c ∧ c ≤ 1 ∧ V r0 r1 r2 r3 + c * 115792089237316195423570985008687907853269984665640564039457584007913129639936 = V a0 a1 a2 a3 + V b0 b1 b2 b3
theorem addR_of {a0 a1 a2 a3 b0 b1 b2 b3 r0 r1 r2 r3 c0 c1 c2 c3 : Int} (f0 : AddF a0 b0 0 r0 c0) (f1 : AddF a1 b1 c0 r1 c1) (f2 : AddF a2 b2 c1 r2 c2) (f3 : AddF a3 b3 c2 r3 c3) : AddR a0 a1 a2 a3 b0 b1 b2 b3 r0 r1 r2 r3 c3 := by
  unfold AddF at *; unfold AddR W4 Word V; omega

set_option maxHeartbeats 1000000 in
theorem add_any (a0 a1 a2 a3 b0 b1 b2 b3 : Int) (ha : W4 a0 a1 a2 a3) (hb : W4 b0 b1 b2 b3) (w : World) :
    Calls Try.prog 51 #[nv a0 a1 a2 a3, nv b0 b1 b2 b3] w (Ret5 (AddR a0 a1 a2 a3 b0 b1 b2 b3) w) := by
  obtain ⟨ha0, ha1, ha2, ha3⟩ := ha
  obtain ⟨hb0, hb1, hb2, hb3⟩ := hb
  obtain ⟨r0, c0, f0, A0⟩ := add64_ex a0 b0 0 ha0 hb0 (by decide) (by decide)
  obtain ⟨r1, c1, f1, A1⟩ := add64_ex a1 b1 c0 ha1 hb1 f0.2.2.1 f0.2.2.2.1
  obtain ⟨r2, c2, f2, A2⟩ := add64_ex a2 b2 c1 ha2 hb2 f1.2.2.1 f1.2.2.2.1
  obtain ⟨r3, c3, f3, A3⟩ := add64_ex a3 b3 c2 ha3 hb3 f2.2.2.1 f2.2.2.2.1
  have hr := addR_of f0 f1 f2 f3
  clear ha0 ha1 ha2 ha3 hb0 hb1 hb2 hb3 f0 f1 f2 f3
  go_enter Try.func51, Try.ntmps51
  go_wp2
  refine bodyPost_ret (v := .tuple #[nv r0 r1 r2 r3, .int .u64 c3]) (by simp [results, Try.results51, go_sem]) rfl ⟨r0, r1, r2, r3, c3, hr, rfl, ?_⟩
  exact (((Below.refl _ _).alloc (Nat.le_refl _) _).alloc (by simp) _).alloc (by simp; omega) _

def SubR (a0 a1 a2 a3 b0 b1 b2 b3 r0 r1 r2 r3 : Int) : Prop := W4 r0 r1 r2 r3 ∧ (V b0 b1 b2 b3 ≤ V a0 a1 a2 a3 → V r0 r1 r2 r3 = V a0 a1 a2 a3 - V b0 b1 b2 b3)
theorem subR_of {a0 a1 a2 a3 b0 b1 b2 b3 r0 r1 r2 r3 c0 c1 c2 c3 : Int} (f0 : SubF a0 b0 0 r0 c0) (f1 : SubF a1 b1 c0 r1 c1) (f2 : SubF a2 b2 c1 r2 c2) (f3 : SubF a3 b3 c2 r3 c3) : SubR a0 a1 a2 a3 b0 b1 b2 b3 r0 r1 r2 r3 := by
  unfold SubF at *; unfold SubR W4 Word V; omega
set_option maxHeartbeats 1000000 in
theorem subtract_any (a0 a1 a2 a3 b0 b1 b2 b3 : Int) (ha : W4 a0 a1 a2 a3) (hb : W4 b0 b1 b2 b3) (w : World) :
    Calls Try.prog 61 #[nv a0 a1 a2 a3, nv b0 b1 b2 b3] w (Ret4 (SubR a0 a1 a2 a3 b0 b1 b2 b3) w) := by
  obtain ⟨ha0, ha1, ha2, ha3⟩ := ha
  obtain ⟨hb0, hb1, hb2, hb3⟩ := hb
  obtain ⟨r0, c0, f0, A0⟩ := sub64_ex a0 b0 0 ha0 hb0 (by decide) (by decide)
  obtain ⟨r1, c1, f1, A1⟩ := sub64_ex a1 b1 c0 ha1 hb1 f0.2.2.1 f0.2.2.2.1
  obtain ⟨r2, c2, f2, A2⟩ := sub64_ex a2 b2 c1 ha2 hb2 f1.2.2.1 f1.2.2.2.1
  obtain ⟨r3, c3, f3, A3⟩ := sub64_ex a3 b3 c2 ha3 hb3 f2.2.2.1 f2.2.2.2.1
  have hr := subR_of f0 f1 f2 f3
  clear ha0 ha1 ha2 ha3 hb0 hb1 hb2 hb3 f0 f1 f2 f3
  go_enter Try.func61, Try.ntmps61
  go_wp2
  refine bodyPost_ret (v := nv r0 r1 r2 r3) (by simp [results, Try.results61, go_sem]) rfl ⟨r0, r1, r2, r3, hr, rfl, ?_⟩
  exact (((Below.refl _ _).alloc (Nat.le_refl _) _).alloc (by simp) _).alloc (by simp; omega) _

theorem and_top (d : Int) (h : Word d) : bits .and .u64 d 9223372036854775807 = d % 9223372036854775808 := by
  obtain ⟨h0, h1⟩ := h
  obtain ⟨n, rfl⟩ := Int.eq_ofNat_of_zero_le h0
  have h := bits_and_u64_nat n 9223372036854775807 (by omega) (by omega)
  have e : n &&& 9223372036854775807 = n % 9223372036854775808 := Nat.and_two_pow_sub_one_eq_mod n 63
  rw [e] at h
  exact h
set_option maxHeartbeats 1000000 in
theorem withoutTop_any (a b c d : Int) (ha : W4 a b c d) (w : World) :
    Calls Try.prog 52 #[nv a b c d] w fun e w' => e = .returned (nv a b c (d % 9223372036854775808)) ∧ Below w.heap.size w w' := by
  have h := and_top d ha.2.2.2
  clear ha
  go_enter Try.func52, Try.ntmps52
  go_wp2
  refine bodyPost_ret (v := nv a b c (d % 9223372036854775808)) (by simp [results, Try.results52, go_sem]) rfl ⟨rfl, ?_⟩
  exact ((Below.refl _ _).alloc (Nat.le_refl _) _).alloc (by simp) _
set_option maxHeartbeats 1000000 in
theorem upper_any (a b c d h : Int) (w : World) :
    Calls Try.prog 56 #[nv a b c d, .int .u64 h] w fun e w' => e = .returned (nv b c d h) ∧ Below w.heap.size w w' := by
  go_enter Try.func56, Try.ntmps56
  go_wp2
  refine bodyPost_ret (v := nv b c d h) (by simp [results, Try.results56, go_sem]) rfl ⟨rfl, ?_⟩
  exact ((Below.refl _ _).alloc (Nat.le_refl _) _).alloc (by simp) _
set_option maxHeartbeats 1000000 in
theorem prime_any (w : World) :
    Calls Try.prog 62 #[] w fun e w' => e = .returned (nv 18446744073709551597 18446744073709551615 18446744073709551615 9223372036854775807) ∧ Below w.heap.size w w' := by
  go_enter Try.func62, Try.ntmps62
  go_wp2
  refine bodyPost_ret (v := nv 18446744073709551597 18446744073709551615 18446744073709551615 9223372036854775807) (by simp [results, Try.results62, go_sem]) rfl ⟨rfl, ?_⟩
  exact (Below.refl _ _).alloc (Nat.le_refl _) _
end Go.Proofs.Ytpilonikhokjeaa
