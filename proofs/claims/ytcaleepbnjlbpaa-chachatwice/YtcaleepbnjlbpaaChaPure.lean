/-
  ChaCha20 as numbers: quarters, double rounds, a block's bytes, a stream's. Of no program.
-/
import Derived.Test.YtcaleepbnjlbpaaHmacPure
namespace Go.Ch
open Go Go.Sh

/-! ### Quarters -/
/-- A word turned left. -/
def rl (x : Int) (n : Nat) : Int := rotr x (32 - n)
structure Q4 where
  (a b c d : Int)
def qr (a b c d : Int) : Q4 :=
  let a1 := add32 a b
  let d1 := rl (x32 d a1) 16
  let c1 := add32 c d1
  let b1 := rl (x32 b c1) 12
  let a2 := add32 a1 b1
  let d2 := rl (x32 d1 a2) 8
  let c2 := add32 c1 d2
  let b2 := rl (x32 b1 c2) 7
  ⟨a2, b2, c2, d2⟩
/-- A quarter of the words at four places. -/
def quart (s : List Int) (i j k l : Nat) : List Int :=
  let q := qr (s.getD i 0) (s.getD j 0) (s.getD k 0) (s.getD l 0)
  (((s.set i q.a).set j q.b).set k q.c).set l q.d
theorem quart_length (s : List Int) (i j k l : Nat) : (quart s i j k l).length = s.length := by simp [quart]
/-- The first n columns. -/
def cols (s : List Int) : Nat → List Int
  | 0 => s
  | n + 1 => quart (cols s n) n (4 + n) (8 + n) (12 + n)
/-- The first n diagonals. -/
def dias (s : List Int) : Nat → List Int
  | 0 => s
  | n + 1 => quart (dias s n) n (4 + (n + 1) % 4) (8 + (n + 2) % 4) (12 + (n + 3) % 4)
theorem cols_length (s : List Int) (n : Nat) : (cols s n).length = s.length := by
  induction n with
  | zero => rfl
  | succ n ih => rw [cols, quart_length, ih]
theorem dias_length (s : List Int) (n : Nat) : (dias s n).length = s.length := by
  induction n with
  | zero => rfl
  | succ n ih => rw [dias, quart_length, ih]
def drnd (s : List Int) : List Int := dias (cols s 4) 4
theorem drnd_length (s : List Int) : (drnd s).length = s.length := by unfold drnd; rw [dias_length, cols_length]
def drnds (s : List Int) : Nat → List Int
  | 0 => s
  | n + 1 => drnd (drnds s n)
theorem drnds_length (s : List Int) (n : Nat) : (drnds s n).length = s.length := by
  induction n with
  | zero => rfl
  | succ n ih => rw [drnds, drnd_length, ih]

/-! ### The first words -/
/-- Of a word's bytes, lowest first, the first m. -/
def pkl (b : List Nat) (j : Nat) : Nat → Nat
  | 0 => 0
  | m + 1 => if m < 4 then pkl b j m + b.getD (4 * j + m) 0 * 256 ^ m else pkl b j m
theorem pkl_top (b : List Nat) (j m : Nat) (h : 4 ≤ m) : pkl b j m = pkl b j 4 := by
  induction m with
  | zero => omega
  | succ m ih =>
    by_cases h4 : m < 4
    · obtain rfl : m = 3 := by omega
      rfl
    · rw [pkl, if_neg h4]; exact ih (by omega)
theorem pkl_lt (b : List Nat) (hb : ∀ i, b.getD i 0 < 256) (j m : Nat) : pkl b j m < 256 ^ m := by
  induction m with
  | zero => simp [pkl]
  | succ m ih =>
    rw [pkl, Nat.pow_succ]
    have h1 : b.getD (4 * j + m) 0 * 256 ^ m ≤ 255 * 256 ^ m := Nat.mul_le_mul_right _ (by have := hb (4 * j + m); omega)
    split <;> omega
/-- A word of bytes. -/
def wd (b : List Nat) (j : Nat) : Int := (pkl b j 4 : Nat)
theorem wd_eq (b : List Nat) (j : Nat) : pkl b j 4 = b.getD (4 * j) 0 + b.getD (4 * j + 1) 0 * 256 + b.getD (4 * j + 2) 0 * 65536 + b.getD (4 * j + 3) 0 * 16777216 := by
  simp [pkl]
/-- Words of which those from 'at' on take bytes: behind i bytes. -/
def wput (s : List Int) (a : Nat) (b : List Nat) (i : Nat) : List Int := (List.range 16).map fun j => if j < a then s.getD j 0 else ((pkl b (j - a) (i - 4 * (j - a)) : Nat) : Int)
theorem wput_length (s : List Int) (a : Nat) (b : List Nat) (i : Nat) : (wput s a b i).length = 16 := by simp [wput]
theorem wput_get (s : List Int) (a : Nat) (b : List Nat) (i j : Nat) (h : j < 16) : (wput s a b i)[j]? = some (if j < a then s.getD j 0 else ((pkl b (j - a) (i - 4 * (j - a)) : Nat) : Int)) := by simp [wput, h]
theorem wput_zero (s : List Int) (a : Nat) (b : List Nat) (hs : s.length = 16) (hz : ∀ j, a ≤ j → s.getD j 0 = 0) : wput s a b 0 = s := by
  apply List.ext_getElem?
  intro j
  by_cases h : j < 16
  · rw [wput_get _ _ _ _ _ h, List.getElem?_eq_getElem (by omega)]
    congr 1
    by_cases ha : j < a
    · rw [if_pos ha]; simp [List.getD, hs, h]
    · rw [if_neg ha, Nat.zero_sub]
      have := hz j (by omega)
      simp only [List.getD, List.getElem?_eq_getElem (show j < s.length by omega), Option.getD_some] at this
      rw [this]; rfl
  · rw [List.getElem?_eq_none (by rw [wput_length]; omega), List.getElem?_eq_none (by omega)]
theorem wput_set (s : List Int) (a : Nat) (b : List Nat) (i : Nat) (h : a + i / 4 < 16) : (wput s a b i).set (a + i / 4) ((pkl b (i / 4) (i % 4 + 1) : Nat) : Int) = wput s a b (i + 1) := by
  apply List.ext_getElem?
  intro j
  rw [List.getElem?_set]
  by_cases hj : j < 16
  · rw [wput_get _ _ _ _ _ hj, wput_get _ _ _ _ _ hj]
    by_cases e : a + i / 4 = j
    · subst e
      rw [if_pos rfl, if_pos (by rw [wput_length]; omega), if_neg (by omega), show a + i / 4 - a = i / 4 by omega, show i + 1 - 4 * (i / 4) = i % 4 + 1 by omega]
    · rw [if_neg e]
      by_cases ha : j < a
      · rw [if_pos ha, if_pos ha]
      · rw [if_neg ha, if_neg ha]
        congr 2
        by_cases h1 : j - a < i / 4
        · rw [pkl_top _ _ _ (by omega), pkl_top _ _ (i + 1 - 4 * (j - a)) (by omega)]
        · rw [show i + 1 - 4 * (j - a) = 0 by omega, show i - 4 * (j - a) = 0 by omega]
  · rw [if_neg (by omega), List.getElem?_eq_none (by rw [wput_length]; omega), List.getElem?_eq_none (by rw [wput_length]; omega)]
/-- One byte more. -/
theorem byte_on (x y m : Nat) (hx : x < 256 ^ m) (hy : y < 256) (hm : m < 4) : o32 (x : Int) ((y : Int) * 2 ^ (m * 8) % 4294967296) = ((x + y * 256 ^ m : Nat) : Int) := by
  have e : 256 ^ m = 2 ^ (m * 8) := by rw [show (256 : Nat) = 2 ^ 8 by decide, ← Nat.pow_mul, Nat.mul_comm]
  have h4 : 256 ^ m ≤ 16777216 := Nat.le_trans (Nat.pow_le_pow_right (by decide) (show m ≤ 3 by omega)) (by decide)
  have h1 : y * 256 ^ m ≤ 255 * 256 ^ m := Nat.mul_le_mul_right _ (by omega)
  have e2 : (y : Int) * 2 ^ (m * 8) % 4294967296 = ((y * 256 ^ m : Nat) : Int) := by
    rw [show ((2 : Int) ^ (m * 8)) = ((256 ^ m : Nat) : Int) by rw [e]; simp]
    omega
  unfold o32
  rw [e2, u32_or_nat _ _ (by omega) (by omega)]
  congr 1
  have := Nat.shiftLeft_add_eq_or_of_lt (b := x) (i := m * 8) (by rw [← e]; exact hx) y
  rw [Nat.shiftLeft_eq, ← e] at this
  rw [Nat.or_comm, ← this, Nat.add_comm]
theorem wput_step (b : List Nat) (hb : ∀ i, b.getD i 0 < 256) (i : Nat) :
    o32 ((pkl b (i / 4) (i % 4) : Nat) : Int) (((b.getD i 0 : Nat) : Int) * 2 ^ (i % 4 * 8) % 4294967296) = ((pkl b (i / 4) (i % 4 + 1) : Nat) : Int) := by
  rw [byte_on _ _ _ (pkl_lt b hb _ _) (hb i) (by omega), pkl, if_pos (by omega), show 4 * (i / 4) + i % 4 = i by omega]
def cst : List Int := [1634760805, 857760878, 2036477234, 1797285236]
/-- A block's first words. -/
def fst (k n : List Nat) (c : Int) : List Int := cst ++ (List.range 8).map (wd k) ++ [c] ++ (List.range 3).map (wd n)
theorem fst_length (k n : List Nat) (c : Int) : (fst k n c).length = 16 := by simp [fst, cst]
theorem fst_get (k n : List Nat) (c : Int) (j : Nat) (h : j < 16) : (fst k n c)[j]? = some (if j < 4 then cst.getD j 0 else if j < 12 then wd k (j - 4) else if j = 12 then c else wd n (j - 13)) := by
  have hc : cst.length = 4 := rfl
  unfold fst
  by_cases h1 : j < 4
  · rw [if_pos h1, List.append_assoc, List.append_assoc, List.getElem?_append_left (by omega), List.getElem?_eq_getElem (by omega)]
    simp [List.getD, hc, h1]
  · rw [if_neg h1]
    by_cases h2 : j < 12
    · rw [if_pos h2, List.append_assoc, List.getElem?_append_left (by simp; omega), List.getElem?_append_right (by omega), hc, List.getElem?_map, List.getElem?_range (by omega)]
      rfl
    · rw [if_neg h2]
      by_cases h3 : j = 12
      · subst h3
        rw [if_pos rfl, List.getElem?_append_left (by simp; omega), List.getElem?_append_right (by simp; omega)]
        simp [hc]
      · have e : (cst ++ (List.range 8).map (wd k) ++ [c]).length = 13 := by simp [hc]
        rw [if_neg h3, List.getElem?_append_right (by omega), e, List.getElem?_map, List.getElem?_range (by omega)]
        rfl
def cst0 : List Int := cst ++ List.replicate 12 0
theorem cst0_length : cst0.length = 16 := rfl
theorem cst0_zero (j : Nat) (h : 4 ≤ j) : cst0.getD j 0 = 0 := by
  unfold cst0 cst
  rw [List.getD, List.getElem?_append_right (by simpa using h), List.getElem?_replicate]
  split <;> rfl
theorem cst0_get (j : Nat) (h : j < 4) : cst0.getD j 0 = cst.getD j 0 := by
  have hc : cst.length = 4 := rfl
  unfold cst0
  rw [List.getD, List.getElem?_append_left (by omega)]; rfl
def mid (k : List Nat) (c : Int) : List Int := (wput cst0 4 k 32).set 12 c
theorem mid_length (k : List Nat) (c : Int) : (mid k c).length = 16 := by unfold mid; rw [List.length_set, wput_length]
theorem mid_get (k : List Nat) (c : Int) (j : Nat) (h : j < 16) : (mid k c).getD j 0 = if j < 4 then cst.getD j 0 else if j < 12 then wd k (j - 4) else if j = 12 then c else 0 := by
  unfold mid List.getD
  rw [List.getElem?_set]
  by_cases e : 12 = j
  · subst e; rw [if_pos rfl, if_pos (by rw [wput_length]; decide)]; rfl
  · rw [if_neg e, wput_get _ _ _ _ _ h, Option.getD_some]
    by_cases h1 : j < 4
    · rw [if_pos h1, if_pos h1]; exact cst0_get j h1
    · rw [if_neg h1, if_neg h1]
      by_cases h2 : j < 12
      · rw [if_pos h2, pkl_top _ _ _ (by omega)]; unfold wd; rfl
      · rw [if_neg h2, if_neg (by omega), show 32 - 4 * (j - 4) = 0 by omega]; rfl
theorem mid_zero (k : List Nat) (c : Int) (j : Nat) (h : 13 ≤ j) : (mid k c).getD j 0 = 0 := by
  by_cases hj : j < 16
  · rw [mid_get _ _ _ hj, if_neg (by omega), if_neg (by omega), if_neg (by omega)]
  · rw [List.getD, List.getElem?_eq_none (by rw [mid_length]; omega)]; rfl
theorem nonce_in (k n : List Nat) (c : Int) : wput (mid k c) 13 n 12 = fst k n c := by
  apply List.ext_getElem?
  intro j
  by_cases h : j < 16
  · rw [wput_get _ _ _ _ _ h, fst_get _ _ _ _ h]
    congr 1
    by_cases h1 : j < 13
    · rw [if_pos h1, mid_get _ _ _ h]
      by_cases h2 : j < 12
      · simp only [if_pos h2]
      · rw [if_neg (by omega), if_neg h2, if_pos (by omega), if_neg (by omega), if_neg h2, if_pos (by omega)]
    · rw [if_neg h1, if_neg (by omega), if_neg (by omega), if_neg (by omega), pkl_top _ _ _ (by omega)]; unfold wd; rfl
  · rw [List.getElem?_eq_none (by rw [wput_length]; omega), List.getElem?_eq_none (by rw [fst_length]; omega)]

/-! ### A block -/
def sum16 (s f : List Int) : List Int := (List.range 16).map fun i => add32 (s.getD i 0) (f.getD i 0)
/-- Of which the first k are sums. -/
def sumW (s f : List Int) (k : Nat) : List Int := (List.range 16).map fun i => if i < k then add32 (s.getD i 0) (f.getD i 0) else s.getD i 0
theorem sumW_length (s f : List Int) (k : Nat) : (sumW s f k).length = 16 := by simp [sumW]
theorem sumW_get (s f : List Int) (k i : Nat) (h : i < 16) : (sumW s f k)[i]? = some (if i < k then add32 (s.getD i 0) (f.getD i 0) else s.getD i 0) := by simp [sumW, h]
theorem sumW_zero (s f : List Int) (hs : s.length = 16) : sumW s f 0 = s := by
  apply List.ext_getElem?
  intro i
  by_cases h : i < 16
  · rw [sumW_get _ _ _ _ h, if_neg (by omega), List.getElem?_eq_getElem (by omega)]; simp [List.getD, hs, h]
  · rw [List.getElem?_eq_none (by rw [sumW_length]; omega), List.getElem?_eq_none (by omega)]
theorem sumW_set (s f : List Int) (k : Nat) (h : k < 16) : (sumW s f k).set k (add32 (s.getD k 0) (f.getD k 0)) = sumW s f (k + 1) := by
  apply List.ext_getElem?
  intro j
  rw [List.getElem?_set]
  by_cases hj : j < 16
  · rw [sumW_get _ _ _ _ hj, sumW_get _ _ _ _ hj]
    by_cases e : k = j
    · subst e; rw [if_pos rfl, if_pos (by rw [sumW_length]; exact h), if_pos (by omega)]
    · rw [if_neg e]
      by_cases h1 : j < k
      · rw [if_pos h1, if_pos (by omega)]
      · rw [if_neg h1, if_neg (by omega)]
  · rw [if_neg (by omega), List.getElem?_eq_none (by rw [sumW_length]; omega), List.getElem?_eq_none (by rw [sumW_length]; omega)]
theorem sumW_all (s f : List Int) : sumW s f 16 = sum16 s f := by
  unfold sumW sum16
  apply List.map_congr_left
  intro i hi
  rw [if_pos (List.mem_range.1 hi)]
theorem sum16_get (s f : List Int) (i : Nat) (h : i < 16) : (sum16 s f).getD i 0 = add32 (s.getD i 0) (f.getD i 0) := by simp [sum16, List.getD, h]
theorem sum16_length (s f : List Int) : (sum16 s f).length = 16 := by simp [sum16]
/-- A byte of words, as a number of the language; and as a plain one. -/
def oI (s : List Int) (i : Nat) : Int := s.getD (i / 4) 0 / 2 ^ (i % 4 * 8) % 256
def oB (s : List Int) (i : Nat) : Nat := (oI s i).toNat
theorem oI_nat (s : List Int) (i : Nat) : ((oB s i : Nat) : Int) = oI s i := by
  unfold oB
  have : 0 ≤ oI s i := Int.emod_nonneg _ (by decide)
  omega
theorem oB_lt (s : List Int) (i : Nat) : oB s i < 256 := by
  have h1 := oI_nat s i
  have h2 : oI s i < 256 := Int.emod_lt_of_pos _ (by decide)
  omega
/-- Of which the first k are there. -/
def outP (s : List Int) (k : Nat) : List Nat := (List.range 64).map fun i => if i < k then oB s i else 0
def outB (s : List Int) : List Nat := (List.range 64).map (oB s)
theorem outP_length (s : List Int) (k : Nat) : (outP s k).length = 64 := by simp [outP]
theorem outP_get (s : List Int) (k i : Nat) (h : i < 64) : (outP s k)[i]? = some (if i < k then oB s i else 0) := by simp [outP, h]
theorem outP_zero (s : List Int) : outP s 0 = zs 64 := by
  apply List.ext_getElem?
  intro i
  by_cases h : i < 64
  · rw [outP_get _ _ _ h, if_neg (by omega), zs, List.getElem?_replicate, if_pos h]
  · rw [List.getElem?_eq_none (by rw [outP_length]; omega), List.getElem?_eq_none (by rw [zs_length]; omega)]
theorem outP_set (s : List Int) (k : Nat) (h : k < 64) : (outP s k).set k (oB s k) = outP s (k + 1) := by
  apply List.ext_getElem?
  intro j
  rw [List.getElem?_set]
  by_cases hj : j < 64
  · rw [outP_get _ _ _ hj, outP_get _ _ _ hj]
    by_cases e : k = j
    · subst e; rw [if_pos rfl, if_pos (by rw [outP_length]; exact h), if_pos (by omega)]
    · rw [if_neg e]
      by_cases h1 : j < k
      · rw [if_pos h1, if_pos (by omega)]
      · rw [if_neg h1, if_neg (by omega)]
  · rw [if_neg (by omega), List.getElem?_eq_none (by rw [outP_length]; omega), List.getElem?_eq_none (by rw [outP_length]; omega)]
theorem outP_all (s : List Int) : outP s 64 = outB s := by
  unfold outP outB
  apply List.map_congr_left
  intro i hi
  rw [if_pos (List.mem_range.1 hi)]
theorem outB_length (s : List Int) : (outB s).length = 64 := by simp [outB]
theorem outB_bts (s : List Int) : ∀ i, (outB s).getD i 0 < 256 := getD_lt fun x hx => by
  obtain ⟨i, _, rfl⟩ := List.mem_map.1 hx
  exact oB_lt s i
/-- A block. -/
@[irreducible] def blk (k n : List Nat) (c : Nat) : List Nat := outB (sum16 (drnds (fst k n (c : Int)) 10) (fst k n (c : Int)))
theorem blk_length (k n : List Nat) (c : Nat) : (blk k n c).length = 64 := by unfold blk; exact outB_length _
theorem blk_bts (k n : List Nat) (c : Nat) : ∀ i, (blk k n c).getD i 0 < 256 := by unfold blk; exact outB_bts _
theorem blk_eq (k n : List Nat) (c : Nat) : blk k n c = outB (sum16 (drnds (fst k n (c : Int)) 10) (fst k n (c : Int))) := by unfold blk; rfl

/-! ### A stream -/
/-- A byte of the stream from block c on. -/
def stB (k n : List Nat) (c i : Nat) : Nat := (blk k n (c + i / 64)).getD (i % 64) 0
theorem stB_lt (k n : List Nat) (c i : Nat) : stB k n c i < 256 := blk_bts _ _ _ _
def strm (k n : List Nat) (c size : Nat) : List Nat := (List.range size).map (stB k n c)
theorem strm_length (k n : List Nat) (c size : Nat) : (strm k n c size).length = size := by simp [strm]
theorem strm_get (k n : List Nat) (c size i : Nat) (h : i < size) : (strm k n c size).getD i 0 = stB k n c i := by simp [strm, List.getD, h]
theorem strm_bts (k n : List Nat) (c size : Nat) : ∀ i, (strm k n c size).getD i 0 < 256 := getD_lt fun x hx => by
  obtain ⟨i, _, rfl⟩ := List.mem_map.1 hx
  exact stB_lt _ _ _ _
/-- Of which the first m bytes are there. -/
def strP (k n : List Nat) (c size m : Nat) : List Nat := (List.range size).map fun i => if i < m then stB k n c i else 0
theorem strP_length (k n : List Nat) (c size m : Nat) : (strP k n c size m).length = size := by simp [strP]
theorem strP_get (k n : List Nat) (c size m i : Nat) (h : i < size) : (strP k n c size m)[i]? = some (if i < m then stB k n c i else 0) := by simp [strP, h]
theorem strP_zero (k n : List Nat) (c size : Nat) : strP k n c size 0 = zs size := by
  apply List.ext_getElem?
  intro i
  by_cases h : i < size
  · rw [strP_get _ _ _ _ _ _ h]; simp [zs, h]
  · rw [List.getElem?_eq_none (by rw [strP_length]; omega), List.getElem?_eq_none (by rw [zs_length]; omega)]
theorem strP_all (k n : List Nat) (c size m : Nat) (h : size ≤ m) : strP k n c size m = strm k n c size := by
  unfold strP strm
  apply List.map_congr_left
  intro i hi
  rw [if_pos (by have := List.mem_range.1 hi; omega)]
/-- One block more goes over. -/
theorem strP_step (k n : List Nat) (c size i t : Nat) (hi : 64 * i < size) (ht : t = min 64 (size - 64 * i)) :
    (strP k n c size (64 * i)).take (64 * i) ++ (blk k n (c + i)).take t ++ (strP k n c size (64 * i)).drop (64 * i + t) = strP k n c size (64 * (i + 1)) := by
  have hl := strP_length k n c size (64 * i)
  have hb := blk_length k n (c + i)
  apply List.ext_getElem?
  intro j
  by_cases hj : j < size
  · rw [strP_get _ _ _ _ _ _ hj]
    by_cases h1 : j < 64 * i
    · rw [List.append_assoc, List.getElem?_append_left (by simp; omega), List.getElem?_take, if_pos h1, strP_get _ _ _ _ _ _ hj, if_pos h1, if_pos (by omega)]
    · by_cases h2 : j < 64 * i + t
      · rw [List.append_assoc, List.getElem?_append_right (by simp; omega), List.getElem?_append_left (by simp; omega)]
        have e : j - ((strP k n c size (64 * i)).take (64 * i)).length = j - 64 * i := by simp; omega
        rw [e, List.getElem?_take, if_pos (by omega), if_pos (by omega), List.getElem?_eq_getElem (by omega)]
        unfold stB
        rw [show c + j / 64 = c + i by omega, show j % 64 = j - 64 * i by omega]
        simp [List.getD, hb, show j - 64 * i < 64 by omega]
      · rw [List.getElem?_append_right (by simp; omega)]
        have e : j - ((strP k n c size (64 * i)).take (64 * i) ++ (blk k n (c + i)).take t).length = j - (64 * i + t) := by simp; omega
        rw [e, List.getElem?_drop, show 64 * i + t + (j - (64 * i + t)) = j by omega, strP_get _ _ _ _ _ _ hj, if_neg h1, if_neg (by omega)]
  · rw [List.getElem?_eq_none (by simp; omega), List.getElem?_eq_none (by rw [strP_length]; omega)]
/-- A stream from a whole block on. -/
theorem strm_drop (k n : List Nat) (c m size : Nat) : (strm k n c (64 * m + size)).drop (64 * m) = strm k n (c + m) size := by
  apply List.ext_getElem?
  intro i
  rw [List.getElem?_drop]
  by_cases h : i < size
  · simp only [strm, List.getElem?_map, List.getElem?_range (show 64 * m + i < 64 * m + size by omega), List.getElem?_range h, Option.map_some]
    unfold stB
    rw [show c + (64 * m + i) / 64 = c + m + i / 64 by omega, show (64 * m + i) % 64 = i % 64 by omega]
  · rw [List.getElem?_eq_none (by rw [strm_length]; omega), List.getElem?_eq_none (by rw [strm_length]; omega)]
theorem strm_take (k n : List Nat) (c size : Nat) (h : 64 ≤ size) : (strm k n c size).take 64 = blk k n c := by
  have hb := blk_length k n c
  apply List.ext_getElem?
  intro i
  rw [List.getElem?_take]
  by_cases hi : i < 64
  · rw [if_pos hi, List.getElem?_eq_getElem (show i < (blk k n c).length by omega)]
    simp only [strm, List.getElem?_map, List.getElem?_range (show i < size by omega), Option.map_some]
    unfold stB
    rw [show c + i / 64 = c by omega, show i % 64 = i by omega]
    simp [List.getD, hb, hi]
  · rw [if_neg hi, List.getElem?_eq_none (by omega)]

/-! ### Bytes that are turned -/
def mixd (a b : List Nat) : List Nat := (List.range b.length).map fun i => a.getD i 0 ^^^ b.getD i 0
theorem mixd_length (a b : List Nat) : (mixd a b).length = b.length := by simp [mixd]
theorem mixd_get (a b : List Nat) (i : Nat) (h : i < b.length) : (mixd a b).getD i 0 = a.getD i 0 ^^^ b.getD i 0 := by simp [mixd, List.getD, h]
theorem mixd_bts {a b : List Nat} (ha : ∀ i, a.getD i 0 < 256) (hb : ∀ i, b.getD i 0 < 256) : ∀ i, (mixd a b).getD i 0 < 256 := getD_lt fun x hx => by
  obtain ⟨i, _, rfl⟩ := List.mem_map.1 hx
  exact xor_lt (ha i) (hb i)
/-- Of which the first m are turned. -/
def mixP (a b : List Nat) (m : Nat) : List Nat := (List.range b.length).map fun i => if i < m then a.getD i 0 ^^^ b.getD i 0 else a.getD i 0
theorem mixP_length (a b : List Nat) (m : Nat) : (mixP a b m).length = b.length := by simp [mixP]
theorem mixP_get (a b : List Nat) (m i : Nat) (h : i < b.length) : (mixP a b m)[i]? = some (if i < m then a.getD i 0 ^^^ b.getD i 0 else a.getD i 0) := by simp [mixP, h]
theorem mixP_zero (a b : List Nat) (h : a.length = b.length) : mixP a b 0 = a := by
  apply List.ext_getElem?
  intro i
  by_cases hi : i < b.length
  · rw [mixP_get _ _ _ _ hi, if_neg (by omega), List.getElem?_eq_getElem (by omega)]; simp [List.getD, h, hi]
  · rw [List.getElem?_eq_none (by rw [mixP_length]; omega), List.getElem?_eq_none (by omega)]
theorem mixP_all (a b : List Nat) : mixP a b b.length = mixd a b := by
  unfold mixP mixd
  apply List.map_congr_left
  intro i hi
  rw [if_pos (List.mem_range.1 hi)]
theorem mixP_set (a b : List Nat) (m : Nat) (h : m < b.length) : (mixP a b m).set m (a.getD m 0 ^^^ b.getD m 0) = mixP a b (m + 1) := by
  apply List.ext_getElem?
  intro j
  rw [List.getElem?_set]
  by_cases hj : j < b.length
  · rw [mixP_get _ _ _ _ hj, mixP_get _ _ _ _ hj]
    by_cases e : m = j
    · subst e; rw [if_pos rfl, if_pos (by rw [mixP_length]; exact h), if_pos (by omega)]
    · rw [if_neg e]
      by_cases h1 : j < m
      · rw [if_pos h1, if_pos (by omega)]
      · rw [if_neg h1, if_neg (by omega)]
  · rw [if_neg (by omega), List.getElem?_eq_none (by rw [mixP_length]; omega), List.getElem?_eq_none (by rw [mixP_length]; omega)]
theorem xor_twice (a b : Nat) : a ^^^ (a ^^^ b) = b := by rw [← Nat.xor_assoc, Nat.xor_self, Nat.zero_xor]
/-- Turned twice. -/
theorem mixd_twice (a b : List Nat) : mixd a (mixd a b) = b := by
  apply List.ext_getElem?
  intro i
  by_cases h : i < b.length
  · simp only [mixd, List.length_map, List.length_range, List.getElem?_map, List.getElem?_range h, Option.map_some]
    rw [List.getElem?_eq_getElem h]
    congr 1
    simp only [List.getD, List.getElem?_map, List.getElem?_range h, Option.map_some, Option.getD_some, List.getElem?_eq_getElem h]
    exact xor_twice _ _
  · rw [List.getElem?_eq_none (by rw [mixd_length, mixd_length]; omega), List.getElem?_eq_none (by omega)]
/-- Noughts are turned to the stream itself. -/
theorem mixd_zs (a : List Nat) (m : Nat) (h : m = a.length) : mixd a (zs m) = a := by
  subst h
  apply List.ext_getElem?
  intro i
  by_cases h : i < a.length
  · simp [mixd, zs, h, List.getD]
  · rw [List.getElem?_eq_none (by rw [mixd_length, zs_length]; omega), List.getElem?_eq_none (by omega)]

/-! ### An answer that the document fixes -/
def key0 : List Nat := List.range 32
def non0 : List Nat := [0, 0, 0, 9, 0, 0, 0, 74, 0, 0, 0, 0]
set_option maxRecDepth 100000 in
theorem alive_blk : (blk key0 non0 1).getD 0 0 = 16 ∧ (blk key0 non0 1).getD 1 0 = 241 := by
  rw [blk_eq]
  decide +kernel
end Go.Ch
