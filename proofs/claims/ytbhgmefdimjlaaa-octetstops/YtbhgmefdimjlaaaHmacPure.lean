/-
  HMAC and HKDF with SHA-256 as lists of numbers. Of no program.
-/
import Derived.Test.YtbhgmefdimjlaaaShaPure
namespace Go.Sh
open Go

/-! ### A digest as bytes -/
def keyN (s : St) : List Nat := (List.range 32).map fun i => (sByte s i).toNat
theorem sByte_nat (s : St) (i : Nat) : ((sByte s i).toNat : Int) = sByte s i := by
  unfold sByte
  have : 0 ≤ sWord s (i / 4) / 2 ^ (24 - i % 4 * 8) % 256 := Int.emod_nonneg _ (by decide)
  omega
theorem sByte_lt (s : St) (i : Nat) : (sByte s i).toNat < 256 := by
  unfold sByte
  have h1 : 0 ≤ sWord s (i / 4) / 2 ^ (24 - i % 4 * 8) % 256 := Int.emod_nonneg _ (by decide)
  have h2 : sWord s (i / 4) / 2 ^ (24 - i % 4 * 8) % 256 < 256 := Int.emod_lt_of_pos _ (by decide)
  omega
theorem keyN_length (s : St) : (keyN s).length = 32 := by simp [keyN]
theorem keyN_bts (s : St) : ∀ i, (keyN s).getD i 0 < 256 := getD_lt fun x hx => by
  obtain ⟨i, _, rfl⟩ := List.mem_map.1 hx
  exact sByte_lt s i
theorem keyN_get (s : St) (i : Nat) (h : i < 32) : (keyN s).getD i 0 = (sByte s i).toNat := by simp [keyN, List.getD, h]

/-! ### The tag -/
def xorL (m : Nat) (l : List Nat) : List Nat := l.map (· ^^^ m)
def fillK (k : List Nat) : List Nat := if 64 < k.length then keyN (dig k) ++ zs 32 else k ++ zs (64 - k.length)
def mac (k b : List Nat) : St := dig (xorL 92 (fillK k) ++ keyN (dig (xorL 54 (fillK k) ++ b)))
theorem xorL_length (m : Nat) (l : List Nat) : (xorL m l).length = l.length := by simp [xorL]
theorem fillK_length (k : List Nat) : (fillK k).length = 64 := by
  unfold fillK
  split
  · simp [keyN_length, zs_length]
  · simp [zs_length]; omega
theorem xor_lt {a b : Nat} (ha : a < 256) (hb : b < 256) : a ^^^ b < 256 := Nat.xor_lt_two_pow (n := 8) ha hb
theorem xorL_bts {m : Nat} {l : List Nat} (hm : m < 256) (h : ∀ i, l.getD i 0 < 256) : ∀ i, (xorL m l).getD i 0 < 256 := getD_lt fun x hx => by
  obtain ⟨y, hy, rfl⟩ := List.mem_map.1 hx
  exact xor_lt (mem_lt h y hy) hm
theorem fillK_bts {k : List Nat} (h : ∀ i, k.getD i 0 < 256) : ∀ i, (fillK k).getD i 0 < 256 := by
  unfold fillK
  split
  · exact bts_app (keyN_bts _) (bts_zs _)
  · exact bts_app h (bts_zs _)
/-- A key, and noughts behind it. -/
theorem fillK_zs (k : List Nat) (m : Nat) (h : k.length + m ≤ 64) : fillK (k ++ zs m) = fillK k := by
  unfold fillK
  rw [if_neg (by simp [zs_length]; omega), if_neg (by omega), List.append_assoc, zs_add]
  congr 2
  simp [zs_length]; omega
theorem fillK_dig (k : List Nat) (h : 64 < k.length) : fillK (keyN (dig k)) = fillK k := by
  unfold fillK
  rw [if_pos h, if_neg (by rw [keyN_length]; decide), keyN_length]
theorem mac_zs (k b : List Nat) (m : Nat) (h : k.length + m ≤ 64) : mac (k ++ zs m) b = mac k b := by unfold mac; rw [fillK_zs k m h]
theorem mac_dig (k b : List Nat) (h : 64 < k.length) : mac (keyN (dig k)) b = mac k b := by unfold mac; rw [fillK_dig k h]

/-! ### What is expanded -/
/-- The tags, one behind the other. -/
def tagT (s info : List Nat) : Nat → List Nat
  | 0 => []
  | i + 1 => keyN (mac s (tagT s info i ++ info ++ [(i + 1) % 256]))
def exps (s info : List Nat) : Nat → List Nat
  | 0 => []
  | i + 1 => exps s info i ++ tagT s info (i + 1)
theorem tagT_length (s info : List Nat) (i : Nat) : (tagT s info (i + 1)).length = 32 := keyN_length _
theorem tagT_le (s info : List Nat) (i : Nat) : (tagT s info i).length ≤ 32 := by
  cases i with
  | zero => simp [tagT]
  | succ i => rw [tagT_length]; exact Nat.le_refl _
theorem tagT_bts (s info : List Nat) (i : Nat) : ∀ j, (tagT s info i).getD j 0 < 256 := by
  cases i with
  | zero => intro j; simp [tagT]
  | succ i => exact keyN_bts _
theorem exps_length (s info : List Nat) (i : Nat) : (exps s info i).length = 32 * i := by
  induction i with
  | zero => rfl
  | succ i ih => rw [exps, List.length_append, ih, tagT_length]; omega
theorem exps_bts (s info : List Nat) (i : Nat) : ∀ j, (exps s info i).getD j 0 < 256 := by
  induction i with
  | zero => intro j; simp [exps]
  | succ i ih => exact bts_app ih (tagT_bts _ _ _)
theorem exps_more (s info : List Nat) (i k : Nat) : ∃ r, exps s info (i + k) = exps s info i ++ r := by
  induction k with
  | zero => exact ⟨[], by simp⟩
  | succ k ih =>
    obtain ⟨r, hr⟩ := ih
    exact ⟨r ++ tagT s info (i + k + 1), by rw [← Nat.add_assoc, exps, hr, List.append_assoc]⟩
def expN (s info : List Nat) (n : Nat) : List Nat := (exps s info ((n + 31) / 32)).take n
theorem expN_length (s info : List Nat) (n : Nat) : (expN s info n).length = n := by
  unfold expN
  rw [List.length_take, exps_length]; omega
theorem expN_bts (s info : List Nat) (n : Nat) : ∀ j, (expN s info n).getD j 0 < 256 := bts_take (exps_bts _ _ _) _
/-- So many tags as are enough. -/
theorem expN_take (s info : List Nat) (n k : Nat) (h : n ≤ 32 * k) : expN s info n = (exps s info k).take n := by
  unfold expN
  obtain ⟨m, hm⟩ : ∃ m, k = (n + 31) / 32 + m := ⟨k - (n + 31) / 32, by omega⟩
  obtain ⟨r, hr⟩ := exps_more s info ((n + 31) / 32) m
  rw [hm, hr, List.take_append_of_le_length (by rw [exps_length]; omega)]
theorem expN_le (s info : List Nat) (n m : Nat) (h : n ≤ m) : (expN s info m).take n = expN s info n := by
  rw [expN_take s info n ((m + 31) / 32) (by omega)]
  unfold expN
  rw [List.take_take, Nat.min_eq_left h]
/-- One tag. -/
def drv (s info : List Nat) : St := mac s (info ++ [1])
theorem expN_32 (s info : List Nat) : expN s info 32 = keyN (drv s info) := by
  rw [expN_take s info 32 1 (by decide)]
  have h : exps s info 1 = keyN (drv s info) := by simp [exps, tagT, drv]
  rw [h, List.take_of_length_le (by rw [keyN_length]; exact Nat.le_refl _)]
/-- What stands ahead of labels. -/
def purp : List Nat := [112, 105, 103, 101, 111, 110, 114, 121, 32]
theorem purp_bts : ∀ i, purp.getD i 0 < 256 := getD_lt fun x hx => by
  simp only [purp, List.mem_cons, List.not_mem_nil, or_false] at hx
  omega

/-! ### Answers that the document fixes -/
def jefe : List Nat := [74, 101, 102, 101]
def wdyw : List Nat := [119, 104, 97, 116, 32, 100, 111, 32, 121, 97, 32, 119, 97, 110, 116, 32, 102, 111, 114, 32, 110, 111, 116, 104, 105, 110, 103, 63]
set_option maxRecDepth 100000 in
theorem jefe_mac : sByte (mac jefe wdyw) 0 = 91 ∧ sByte (mac jefe wdyw) 31 = 67 := by decide +kernel
set_option maxRecDepth 100000 in
theorem jefe_ab : (sByte (drv (keyN (mac jefe wdyw)) (purp ++ [97])) 0 == sByte (drv (keyN (mac jefe wdyw)) (purp ++ [98])) 0) = false := by decide +kernel
end Go.Sh
