/-
  SHA-256 as numbers: what a hash keeps of the bytes that it has, and what more bytes make of it. Of no program.
-/
import Derived.Test.YtbhgmefdimjlaaaShaNum
namespace Go.Sh
open Go

/-- What came behind all whole blocks, and noughts. -/
def rst (m : List Nat) : List Nat := m.drop (64 * (m.length / 64)) ++ zs (64 - m.length % 64)
theorem zs_length (n : Nat) : (zs n).length = n := by simp [zs]
theorem zs_add (a b : Nat) : zs a ++ zs b = zs (a + b) := by simp [zs]
theorem zs_take (a n : Nat) : (zs a).take n = zs (min n a) := by simp [zs, List.take_replicate]
theorem zs_drop (a n : Nat) : (zs a).drop n = zs (a - n) := by simp [zs]
theorem rst_length (m : List Nat) : (rst m).length = 64 := by simp [rst, zs_length]; omega
theorem rst_bts {m : List Nat} (h : ∀ i, m.getD i 0 < 256) : ∀ i, (rst m).getD i 0 < 256 := bts_app (bts_drop h _) (bts_zs _)
/-- A list in whole blocks and what comes behind them. -/
theorem parts (m : List Nat) : ∃ a t, m = a ++ t ∧ a.length = 64 * (m.length / 64) ∧ t.length = m.length % 64 ∧ rst m = t ++ zs (64 - m.length % 64) ∧ hrun st0 m = hrun st0 a := by
  refine ⟨m.take (64 * (m.length / 64)), m.drop (64 * (m.length / 64)), (List.take_append_drop _ _).symm, by simp; omega, by simp; omega, rfl, ?_⟩
  conv => lhs; rw [← List.take_append_drop (64 * (m.length / 64)) m]
  exact hrun_rest _ _ _ (m.length / 64) (by simp; omega) (by simp; omega)
theorem rst_app (a b : List Nat) (m : Nat) (h : a.length = 64 * m) : rst (a ++ b) = rst b := by
  unfold rst
  rw [List.length_append, h, show (64 * m + b.length) / 64 = m + b.length / 64 by omega, show (64 * m + b.length) % 64 = b.length % 64 by omega]
  congr 1
  rw [List.drop_append, List.drop_eq_nil_of_le (by omega), List.nil_append, h, show 64 * (m + b.length / 64) - 64 * m = 64 * (b.length / 64) by omega]
theorem rst_small (b : List Nat) (h : b.length < 64) : rst b = b ++ zs (64 - b.length) := by
  unfold rst
  rw [Nat.div_eq_of_lt h, Nat.mod_eq_of_lt h]; rfl
/-- Bytes that fill no block. -/
theorem take_small (m l : List Nat) (u : Nat) (hu : u = m.length % 64) (h : u + l.length < 64) :
    hrun st0 (m ++ l) = hrun st0 m ∧ rst (m ++ l) = (rst m).take u ++ l ++ (rst m).drop (u + l.length) := by
  obtain ⟨a, t, hm, ha, ht, hr, hs⟩ := parts m
  rw [← hu] at ht hr
  constructor
  · rw [hs]
    conv => lhs; rw [hm, List.append_assoc]
    exact hrun_rest _ _ _ _ ha (by simp; omega)
  · rw [hr]
    conv => lhs; rw [hm, List.append_assoc, rst_app _ _ _ ha]
    rw [rst_small _ (by simp; omega), List.take_append_of_le_length (by omega), ← ht, List.take_length, List.drop_append, List.drop_eq_nil_of_le (by omega), List.nil_append, zs_drop]
    congr 2
    simp only [List.length_append]; omega
/-- Bytes that fill a block that was begun. -/
theorem take_fill (m l : List Nat) (u k : Nat) (hu : u = m.length % 64) (h0 : 0 < u) (hk : k = 64 - u) (h : k ≤ l.length) :
    hrun (scmp (hrun st0 m) ((rst m).take u ++ l.take k)) (l.drop k) = hrun st0 (m ++ l) ∧ rst (l.drop k) = rst (m ++ l) := by
  obtain ⟨a, t, hm, ha, ht, hr, hs⟩ := parts m
  rw [← hu] at ht hr
  have e : (rst m).take u ++ l.take k = t ++ l.take k := by rw [hr, List.take_append_of_le_length (by omega), ← ht, List.take_length]
  have hl : (t ++ l.take k).length = 64 := by simp; omega
  have eq : m ++ l = a ++ ((t ++ l.take k) ++ l.drop k) := by
    conv => lhs; rw [hm, List.append_assoc]
    rw [List.append_assoc, List.take_append_drop]
  rw [e, eq]
  constructor
  · rw [hrun_app _ _ _ _ ha, hrun_app _ _ _ 1 (by rw [hl]), hrun_one _ _ hl, hs]
  · rw [rst_app _ _ _ ha, rst_app _ _ 1 (by rw [hl])]
theorem take_whole (m l : List Nat) (hu : m.length % 64 = 0) : hrun (hrun st0 m) l = hrun st0 (m ++ l) ∧ rst l = rst (m ++ l) := by
  constructor
  · rw [hrun_app _ _ _ (m.length / 64) (by omega)]
  · rw [rst_app _ _ (m.length / 64) (by omega)]
theorem set_at (t : List Nat) (n v : Nat) (hn : 0 < n) : (t ++ zs n).set t.length v = t ++ v :: zs (n - 1) := by
  rw [List.set_append, if_neg (by omega), Nat.sub_self]
  obtain ⟨k, rfl⟩ : ∃ k, n = k + 1 := ⟨n - 1, by omega⟩
  rfl
theorem len8_length (n : Nat) : (len8 n).length = 8 := by simp [len8]
/-- The digest of a hash is that of its bytes. -/
theorem digF_all (m : List Nat) : digF m.length (hrun st0 m) (rst m) = dig m := by
  obtain ⟨a, t, hm, ha, ht, hr, hs⟩ := parts m
  unfold digF dig pad
  generalize hn : m.length = n at *
  have hu : n % 64 < 64 := by omega
  generalize eu : n % 64 = u at *
  rw [hr, ← ht, set_at _ _ _ (by omega), hs, ht]
  have hl8 := len8_length n
  by_cases h : 56 ≤ u
  · rw [if_pos h]
    have hg : gap n = (63 - u) + 56 := by unfold gap; rw [eu]; omega
    have e : m ++ 128 :: zs (gap n) ++ len8 n = a ++ ((t ++ 128 :: zs (63 - u)) ++ (zs 56 ++ len8 n)) := by
      rw [hg, ← zs_add, hm]; simp
    rw [e, hrun_app _ _ _ _ ha, hrun_app _ _ _ 1 (by simp [zs_length]; omega), hrun_one (hrun st0 a) (t ++ 128 :: zs (63 - u)) (by simp [zs_length]; omega), hrun_one _ (zs 56 ++ len8 n) (by simp [zs_length, hl8])]
    rw [zs_take, show 64 - u - 1 = 63 - u by omega]
    rfl
  · rw [if_neg h]
    have hg : gap n = 55 - u := by unfold gap; rw [eu]; omega
    have e : m ++ 128 :: zs (gap n) ++ len8 n = a ++ ((t ++ 128 :: zs (55 - u)) ++ len8 n) := by
      rw [hg, hm]; simp
    have e2 : (t ++ 128 :: zs (64 - u - 1)).take 56 = t ++ 128 :: zs (55 - u) := by
      rw [List.take_append, List.take_of_length_le (by omega), show 56 - t.length = (55 - u) + 1 by omega, List.take_succ_cons, zs_take, show min (55 - u) (64 - u - 1) = 55 - u by omega]
    rw [e, e2, hrun_app _ _ _ _ ha, hrun_one (hrun st0 a) (t ++ 128 :: zs (55 - u) ++ len8 n) (by simp [zs_length, hl8]; omega)]
end Go.Sh
