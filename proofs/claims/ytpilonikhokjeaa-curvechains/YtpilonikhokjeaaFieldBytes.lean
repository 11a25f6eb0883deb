/-
  Package field: numbers and their bytes.
-/
import Derived.Test.YtpilonikhokjeaaFieldInv
namespace Go.Proofs.Ytpilonikhokjeaa
open Go.RowKit Go.Shelf Go.Hold

/-- A byte. -/
def Byte (x : Int) : Prop := 0 ≤ x ∧ x < 256
/-- Bits that lie apart: 'or' is the sum. -/
theorem or_apart (a b : Int) (k K : Nat) (hK : K = 2 ^ k) (ha : 0 ≤ a) (ha' : a < K) (hb : 0 ≤ b) (hs : b * K < 18446744073709551616) (hk : K < 18446744073709551616) : bits .or .u64 a (b * K) = a + b * K := by
  obtain ⟨n, rfl⟩ := Int.eq_ofNat_of_zero_le ha
  obtain ⟨m, rfl⟩ := Int.eq_ofNat_of_zero_le hb
  have hn : n < K := by omega
  have hm : m * K < 18446744073709551616 := by rw [← Int.natCast_mul] at hs; omega
  have h := bits_or_u64_nat n (m * K) (by omega) hm
  have e : n ||| m * K = n + m * K := by
    subst hK
    rw [Nat.or_comm, Nat.mul_comm m, ← Nat.two_pow_add_eq_or_of_lt hn, Nat.add_comm]
  rw [e] at h
  rw [← Int.natCast_mul, h]; omega
theorem u64_byte (x : Int) (h : Byte x) : IntKind.u64.wrap x = x := IntWalk.u64_in x ⟨h.1, by have := h.2; omega⟩
set_option maxHeartbeats 2000000 in
set_option maxRecDepth 100000 in
theorem load_any (b off cap : Nat) (x0 x1 x2 x3 x4 x5 x6 x7 : Int) (g0 : Byte x0) (g1 : Byte x1) (g2 : Byte x2) (g3 : Byte x3) (g4 : Byte x4) (g5 : Byte x5) (g6 : Byte x6) (g7 : Byte x7) (w : World)
    (c0 : w.cell? ⟨b, off, none⟩ = some (.int .u8 x0)) (c1 : w.cell? ⟨b, off + 1, none⟩ = some (.int .u8 x1)) (c2 : w.cell? ⟨b, off + 2, none⟩ = some (.int .u8 x2)) (c3 : w.cell? ⟨b, off + 3, none⟩ = some (.int .u8 x3))
    (c4 : w.cell? ⟨b, off + 4, none⟩ = some (.int .u8 x4)) (c5 : w.cell? ⟨b, off + 5, none⟩ = some (.int .u8 x5)) (c6 : w.cell? ⟨b, off + 6, none⟩ = some (.int .u8 x6)) (c7 : w.cell? ⟨b, off + 7, none⟩ = some (.int .u8 x7)) :
    Calls Try.prog 40 #[.slice (some ⟨b, off, none⟩) 8 cap] w fun e w' => e = .returned (.int .u64 (x0 + x1 * 256 + x2 * 65536 + x3 * 16777216 + x4 * 4294967296 + x5 * 1099511627776 + x6 * 281474976710656 + x7 * 72057594037927936)) ∧ Below w.heap.size w w' := by
  have k0 := u64_byte x0 g0
  have k1 := u64_byte x1 g1
  have k2 := u64_byte x2 g2
  have k3 := u64_byte x3 g3
  have k4 := u64_byte x4 g4
  have k5 := u64_byte x5 g5
  have k6 := u64_byte x6 g6
  have k7 := u64_byte x7 g7
  obtain ⟨g0a, g0b⟩ := g0
  obtain ⟨g1a, g1b⟩ := g1
  obtain ⟨g2a, g2b⟩ := g2
  obtain ⟨g3a, g3b⟩ := g3
  obtain ⟨g4a, g4b⟩ := g4
  obtain ⟨g5a, g5b⟩ := g5
  obtain ⟨g6a, g6b⟩ := g6
  obtain ⟨g7a, g7b⟩ := g7
  obtain ⟨y0, hy0⟩ : ∃ y, y = x0 := ⟨_, rfl⟩
  obtain ⟨z1, hz1⟩ : ∃ z, z = x1 * 256 := ⟨_, rfl⟩
  have s1 : IntKind.u64.wrap (x1 * 256) = z1 := by rw [hz1]; exact IntWalk.u64_in _ (by omega)
  obtain ⟨y1, hy1⟩ : ∃ y, y = x0 + z1 := ⟨_, rfl⟩
  have o1 : bits .or .u64 x0 z1 = y1 := by rw [hy1, hz1]; exact or_apart x0 x1 8 256 (by decide) (by omega) (by omega) (by omega) (by omega) (by decide)
  obtain ⟨z2, hz2⟩ : ∃ z, z = x2 * 65536 := ⟨_, rfl⟩
  have s2 : IntKind.u64.wrap (x2 * 65536) = z2 := by rw [hz2]; exact IntWalk.u64_in _ (by omega)
  obtain ⟨y2, hy2⟩ : ∃ y, y = y1 + z2 := ⟨_, rfl⟩
  have o2 : bits .or .u64 y1 z2 = y2 := by rw [hy2, hz2]; exact or_apart y1 x2 16 65536 (by decide) (by omega) (by omega) (by omega) (by omega) (by decide)
  obtain ⟨z3, hz3⟩ : ∃ z, z = x3 * 16777216 := ⟨_, rfl⟩
  have s3 : IntKind.u64.wrap (x3 * 16777216) = z3 := by rw [hz3]; exact IntWalk.u64_in _ (by omega)
  obtain ⟨y3, hy3⟩ : ∃ y, y = y2 + z3 := ⟨_, rfl⟩
  have o3 : bits .or .u64 y2 z3 = y3 := by rw [hy3, hz3]; exact or_apart y2 x3 24 16777216 (by decide) (by omega) (by omega) (by omega) (by omega) (by decide)
  obtain ⟨z4, hz4⟩ : ∃ z, z = x4 * 4294967296 := ⟨_, rfl⟩
  have s4 : IntKind.u64.wrap (x4 * 4294967296) = z4 := by rw [hz4]; exact IntWalk.u64_in _ (by omega)
  obtain ⟨y4, hy4⟩ : ∃ y, y = y3 + z4 := ⟨_, rfl⟩
  have o4 : bits .or .u64 y3 z4 = y4 := by rw [hy4, hz4]; exact or_apart y3 x4 32 4294967296 (by decide) (by omega) (by omega) (by omega) (by omega) (by decide)
  obtain ⟨z5, hz5⟩ : ∃ z, z = x5 * 1099511627776 := ⟨_, rfl⟩
  have s5 : IntKind.u64.wrap (x5 * 1099511627776) = z5 := by rw [hz5]; exact IntWalk.u64_in _ (by omega)
  obtain ⟨y5, hy5⟩ : ∃ y, y = y4 + z5 := ⟨_, rfl⟩
  have o5 : bits .or .u64 y4 z5 = y5 := by rw [hy5, hz5]; exact or_apart y4 x5 40 1099511627776 (by decide) (by omega) (by omega) (by omega) (by omega) (by decide)
  obtain ⟨z6, hz6⟩ : ∃ z, z = x6 * 281474976710656 := ⟨_, rfl⟩
  have s6 : IntKind.u64.wrap (x6 * 281474976710656) = z6 := by rw [hz6]; exact IntWalk.u64_in _ (by omega)
  obtain ⟨y6, hy6⟩ : ∃ y, y = y5 + z6 := ⟨_, rfl⟩
  have o6 : bits .or .u64 y5 z6 = y6 := by rw [hy6, hz6]; exact or_apart y5 x6 48 281474976710656 (by decide) (by omega) (by omega) (by omega) (by omega) (by decide)
  obtain ⟨z7, hz7⟩ : ∃ z, z = x7 * 72057594037927936 := ⟨_, rfl⟩
  have s7 : IntKind.u64.wrap (x7 * 72057594037927936) = z7 := by rw [hz7]; exact IntWalk.u64_in _ (by omega)
  obtain ⟨y7, hy7⟩ : ∃ y, y = y6 + z7 := ⟨_, rfl⟩
  have o7 : bits .or .u64 y6 z7 = y7 := by rw [hy7, hz7]; exact or_apart y6 x7 56 72057594037927936 (by decide) (by omega) (by omega) (by omega) (by omega) (by decide)
  have Hy : Hid (y7 = x0 + x1 * 256 + x2 * 65536 + x3 * 16777216 + x4 * 4294967296 + x5 * 1099511627776 + x6 * 281474976710656 + x7 * 72057594037927936) := by show _ = _; omega
  clear hz1 hy1 hz2 hy2 hz3 hy3 hz4 hy4 hz5 hy5 hz6 hy6 hz7 hy7 hy0 g0a g0b g1a g1b g2a g2b g3a g3b g4a g4b g5a g5b g6a g6b g7a g7b
  go_enter Try.func40, Try.ntmps40
  go_wp2_with fail
  refine wp_region_hold_all (fun w' => w' = w.drew) (by kernel_rfl) (by kernel_rfl) rfl ?_
  iterate 47 (refine wpHold_step ⟨_, rfl⟩ (by rintro K _ rfl hK; go_simp; exact hK _ rfl) ?_)
  refine wpHold_nil ?_
  rintro _ rfl
  go_wp2_with fail
  go_ret
  exact ⟨congrArg (fun y => Ending.returned (.int .u64 y)) Hy.out, (Below.refl _ _).drew⟩

/-- The i-th byte of a number. -/
def by8 (x : Int) (i : Nat) : Int := x / 256 ^ i % 256
set_option maxHeartbeats 2000000 in
set_option maxRecDepth 100000 in
theorem store_any (b off cap : Nat) (x : Int) (u0 u1 u2 u3 u4 u5 u6 u7 : Value) (w : World)
    (c0 : w.cell? ⟨b, off, none⟩ = some u0) (f0 : w.frozen? ⟨b, off, none⟩ = false)
    (c1 : w.cell? ⟨b, off + 1, none⟩ = some u1) (f1 : w.frozen? ⟨b, off + 1, none⟩ = false)
    (c2 : w.cell? ⟨b, off + 2, none⟩ = some u2) (f2 : w.frozen? ⟨b, off + 2, none⟩ = false)
    (c3 : w.cell? ⟨b, off + 3, none⟩ = some u3) (f3 : w.frozen? ⟨b, off + 3, none⟩ = false)
    (c4 : w.cell? ⟨b, off + 4, none⟩ = some u4) (f4 : w.frozen? ⟨b, off + 4, none⟩ = false)
    (c5 : w.cell? ⟨b, off + 5, none⟩ = some u5) (f5 : w.frozen? ⟨b, off + 5, none⟩ = false)
    (c6 : w.cell? ⟨b, off + 6, none⟩ = some u6) (f6 : w.frozen? ⟨b, off + 6, none⟩ = false)
    (c7 : w.cell? ⟨b, off + 7, none⟩ = some u7) (f7 : w.frozen? ⟨b, off + 7, none⟩ = false) :
    Calls Try.prog 38 #[.slice (some ⟨b, off, none⟩) 8 cap, .int .u64 x] w fun e w' => e = .returned (.tuple #[]) ∧ ((((((((w.setCell ⟨b, off, none⟩ (.int .u8 (by8 x 0))).setCell ⟨b, off + 1, none⟩ (.int .u8 (by8 x 1))).setCell ⟨b, off + 2, none⟩ (.int .u8 (by8 x 2))).setCell ⟨b, off + 3, none⟩ (.int .u8 (by8 x 3))).setCell ⟨b, off + 4, none⟩ (.int .u8 (by8 x 4))).setCell ⟨b, off + 5, none⟩ (.int .u8 (by8 x 5))).setCell ⟨b, off + 6, none⟩ (.int .u8 (by8 x 6))).setCell ⟨b, off + 7, none⟩ (.int .u8 (by8 x 7))) = w' := by
  have e0 : IntKind.u8.wrap x = by8 x 0 := by rw [IntKind.wrap_u8]; unfold by8; omega
  have e1 : IntKind.u8.wrap (x / 256) = by8 x 1 := by rw [IntKind.wrap_u8]; unfold by8; omega
  have e2 : IntKind.u8.wrap (x / 65536) = by8 x 2 := by rw [IntKind.wrap_u8]; unfold by8; omega
  have e3 : IntKind.u8.wrap (x / 16777216) = by8 x 3 := by rw [IntKind.wrap_u8]; unfold by8; omega
  have e4 : IntKind.u8.wrap (x / 4294967296) = by8 x 4 := by rw [IntKind.wrap_u8]; unfold by8; omega
  have e5 : IntKind.u8.wrap (x / 1099511627776) = by8 x 5 := by rw [IntKind.wrap_u8]; unfold by8; omega
  have e6 : IntKind.u8.wrap (x / 281474976710656) = by8 x 6 := by rw [IntKind.wrap_u8]; unfold by8; omega
  have e7 : IntKind.u8.wrap (x / 72057594037927936) = by8 x 7 := by rw [IntKind.wrap_u8]; unfold by8; omega
  go_enter Try.func38, Try.ntmps38
  go_wp2
  go_end0
  exact ⟨rfl, rfl⟩
end Go.Proofs.Ytpilonikhokjeaa
