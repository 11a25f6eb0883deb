/-
  SHA-256 as numbers: words, the round, the schedule, the state behind a block, the digest. Of no program.
-/
import Derived.WalkKit
import Derived.Laws.Bits64b
namespace Go.Sh
open Go

/-! ### Words -/
@[irreducible] def add32 (a b : Int) : Int := IntKind.u32.wrap (a + b)
@[irreducible] def x32 (a b : Int) : Int := bits .xor .u32 a b
@[irreducible] def a32 (a b : Int) : Int := bits .and .u32 a b
@[irreducible] def o32 (a b : Int) : Int := bits .or .u32 a b
@[irreducible] def n32 (a : Int) : Int := bits .xor .u32 4294967295 a
@[irreducible] def rotr (x : Int) (n : Nat) : Int := bits .or .u32 (x / 2 ^ n) (x * 2 ^ (32 - n) % 4294967296)
@[irreducible] def shrw (x : Int) (n : Nat) : Int := x / 2 ^ n
theorem add32_comm (a b : Int) : add32 a b = add32 b a := by unfold add32; rw [Int.add_comm]
theorem or_comm32 (a b : Int) : bits .or .u32 a b = bits .or .u32 b a := by unfold bits; simp only [BitVec.or_comm]
def s0 (x : Int) : Int := x32 (x32 (rotr x 7) (rotr x 18)) (shrw x 3)
def s1 (x : Int) : Int := x32 (x32 (rotr x 17) (rotr x 19)) (shrw x 10)
def S0 (x : Int) : Int := x32 (x32 (rotr x 2) (rotr x 13)) (rotr x 22)
def S1 (x : Int) : Int := x32 (x32 (rotr x 6) (rotr x 11)) (rotr x 25)
def ch (e f g : Int) : Int := x32 (a32 e f) (a32 (n32 e) g)
def mj (a b c : Int) : Int := x32 (x32 (a32 a b) (a32 a c)) (a32 b c)

/-! ### The round -/
structure St where
  (a b c d e f g h : Int)
def T1 (s : St) (k w : Int) : Int := add32 (add32 (add32 (add32 s.h (S1 s.e)) (ch s.e s.f s.g)) k) w
def T2 (s : St) : Int := add32 (S0 s.a) (mj s.a s.b s.c)
def srnd (s : St) (k w : Int) : St := ⟨add32 (T1 s k w) (T2 s), s.a, s.b, s.c, add32 s.d (T1 s k w), s.e, s.f, s.g⟩
def Ks : List Int := [1116352408, 1899447441, 3049323471, 3921009573, 961987163, 1508970993, 2453635748, 2870763221, 3624381080, 310598401, 607225278, 1426881987, 1925078388, 2162078206, 2614888103, 3248222580, 3835390401, 4022224774, 264347078, 604807628, 770255983, 1249150122, 1555081692, 1996064986, 2554220882, 2821834349, 2952996808, 3210313671, 3336571891, 3584528711, 113926993, 338241895, 666307205, 773529912, 1294757372, 1396182291, 1695183700, 1986661051, 2177026350, 2456956037, 2730485921, 2820302411, 3259730800, 3345764771, 3516065817, 3600352804, 4094571909, 275423344, 430227734, 506948616, 659060556, 883997877, 958139571, 1322822218, 1537002063, 1747873779, 1955562222, 2024104815, 2227730452, 2361852424, 2428436474, 2756734187, 3204031479, 3329325298]
theorem Ks_length : Ks.length = 64 := by decide
def Hs : List Int := [1779033703, 3144134277, 1013904242, 2773480762, 1359893119, 2600822924, 528734635, 1541459225]
def st0 : St := ⟨1779033703, 3144134277, 1013904242, 2773480762, 1359893119, 2600822924, 528734635, 1541459225⟩
/-- The state behind t rounds. -/
def srnds (ws : List Int) (s : St) : Nat → St
  | 0 => s
  | t + 1 => srnd (srnds ws s t) (Ks.getD t 0) (ws.getD t 0)

/-! ### The schedule -/
/-- Of a word's bytes, highest first, the first m. -/
def pkn (b : List Nat) (j : Nat) : Nat → Nat
  | 0 => 0
  | m + 1 => if m < 4 then pkn b j m * 256 + b.getD (4 * j + m) 0 else pkn b j m
def pk4 (b : List Nat) (j : Nat) : Int := (pkn b j 4 : Nat)
theorem pkn_top (b : List Nat) (j m : Nat) (h : 4 ≤ m) : pkn b j m = pkn b j 4 := by
  induction m with
  | zero => omega
  | succ m ih =>
    by_cases h4 : m < 4
    · obtain rfl : m = 3 := by omega
      rfl
    · rw [pkn, if_neg h4]; exact ih (by omega)
theorem pkn_lt (b : List Nat) (hb : ∀ i, b.getD i 0 < 256) (j m : Nat) : pkn b j m < 256 ^ m := by
  induction m with
  | zero => simp [pkn]
  | succ m ih =>
    rw [pkn, Nat.pow_succ]
    have := hb (4 * j + m)
    split <;> omega
/-- The words behind i bytes: those that are not there yet are nought. -/
def wpart (b : List Nat) (i : Nat) : List Int := (List.range 64).map fun j => ((pkn b j (i - 4 * j) : Nat) : Int)
theorem wpart_length (b : List Nat) (i : Nat) : (wpart b i).length = 64 := by simp [wpart]
theorem wpart_get (b : List Nat) (i j : Nat) (h : j < 64) : (wpart b i)[j]? = some ((pkn b j (i - 4 * j) : Nat) : Int) := by simp [wpart, h]
theorem wpart_zero (b : List Nat) : wpart b 0 = List.replicate 64 0 := by
  unfold wpart
  apply List.ext_getElem?
  intro j
  by_cases h : j < 64
  · rw [List.getElem?_replicate, if_pos h]; simp [h, pkn]
  · rw [List.getElem?_eq_none (by simp; omega), List.getElem?_eq_none (by simp; omega)]
theorem wpart_set (b : List Nat) (i : Nat) (h : i < 64) : (wpart b i).set (i / 4) ((pkn b (i / 4) (i % 4 + 1) : Nat) : Int) = wpart b (i + 1) := by
  apply List.ext_getElem?
  intro j
  rw [List.getElem?_set]
  by_cases hj : j < 64
  · rw [wpart_get _ _ _ hj, wpart_get _ _ _ hj]
    by_cases e : i / 4 = j
    · subst e
      rw [if_pos rfl, if_pos (by rw [wpart_length]; omega)]
      rw [show i + 1 - 4 * (i / 4) = i % 4 + 1 by omega]
    · rw [if_neg e]
      congr 2
      by_cases h1 : j < i / 4
      · rw [pkn_top _ _ _ (by omega), pkn_top _ _ (i + 1 - 4 * j) (by omega)]
      · rw [show i + 1 - 4 * j = 0 by omega, show i - 4 * j = 0 by omega]
  · rw [if_neg (by omega), List.getElem?_eq_none (by rw [wpart_length]; omega), List.getElem?_eq_none (by rw [wpart_length]; omega)]
/-- One byte more. -/
theorem byte_in (x y : Nat) (hx : x < 16777216) (hy : y < 256) : bits .or .u32 ((x : Int) * 256 % 4294967296) (y : Int) = ((x * 256 + y : Nat) : Int) := by
  rw [show (x : Int) * 256 % 4294967296 = ((x * 256 : Nat) : Int) by omega, u32_or_nat _ _ (by omega) (by omega)]
  congr 1
  have := Nat.shiftLeft_add_eq_or_of_lt (b := y) (i := 8) (by omega) x
  rw [Nat.shiftLeft_eq] at this
  exact this.symm
theorem wpart_step (b : List Nat) (hb : ∀ i, b.getD i 0 < 256) (i : Nat) :
    bits .or .u32 (((pkn b (i / 4) (i % 4) : Nat) : Int) * 256 % 4294967296) ((b.getD i 0 : Nat) : Int) = ((pkn b (i / 4) (i % 4 + 1) : Nat) : Int) := by
  have h1 := pkn_lt b hb (i / 4) (i % 4)
  have h2 : 256 ^ (i % 4) ≤ 256 ^ 3 := Nat.pow_le_pow_right (by decide) (by omega)
  rw [byte_in _ _ (by simpa using (by omega : pkn b (i / 4) (i % 4) < 256 ^ 3)) (hb i), pkn, if_pos (by omega), show 4 * (i / 4) + i % 4 = i by omega]
/-- The word that follows. -/
def nxt (l : List Int) : Int := add32 (add32 (add32 (s1 (l.getD (l.length - 2) 0)) (l.getD (l.length - 7) 0)) (s0 (l.getD (l.length - 15) 0))) (l.getD (l.length - 16) 0)
def ws (b : List Nat) : Nat → List Int
  | 0 => (List.range 16).map (pk4 b)
  | n + 1 => ws b n ++ [nxt (ws b n)]
theorem ws_length (b : List Nat) (n : Nat) : (ws b n).length = 16 + n := by
  induction n with
  | zero => simp [ws]
  | succ n ih => simp [ws, ih]; omega
def sch (b : List Nat) : List Int := ws b 48
theorem sch_length (b : List Nat) : (sch b).length = 64 := ws_length b 48
/-- The words so far, and noughts. -/
def wz (b : List Nat) (t : Nat) : List Int := ws b (t - 16) ++ List.replicate (64 - t) 0
theorem wz_length (b : List Nat) (t : Nat) (h : 16 ≤ t) (h' : t ≤ 64) : (wz b t).length = 64 := by simp [wz, ws_length]; omega
theorem wpart_all (b : List Nat) : wpart b 64 = wz b 16 := by
  apply List.ext_getElem?
  intro j
  by_cases hj : j < 64
  · rw [wpart_get _ _ _ hj]
    unfold wz
    by_cases h : j < 16
    · rw [List.getElem?_append_left (by rw [ws_length]; omega)]
      simp only [Nat.sub_self, ws, List.getElem?_map, List.getElem?_range h, Option.map_some]
      rw [pkn_top _ _ _ (by omega)]; rfl
    · rw [List.getElem?_append_right (by rw [ws_length]; omega), List.getElem?_replicate, if_pos (by rw [ws_length]; omega), show 64 - 4 * j = 0 by omega]; rfl
  · rw [List.getElem?_eq_none (by rw [wpart_length]; omega), List.getElem?_eq_none (by rw [wz_length _ _ (by decide) (by decide)]; omega)]
theorem wz_all (b : List Nat) : wz b 64 = sch b := by simp [wz, sch]
theorem wz_get (b : List Nat) (t i : Nat) (h : 16 ≤ t) (hi : i < t) (_ht : t ≤ 64) : (wz b t)[i]? = some ((ws b (t - 16)).getD i 0) := by
  unfold wz
  have : i < (ws b (t - 16)).length := by rw [ws_length]; omega
  rw [List.getElem?_append_left this, List.getElem?_eq_getElem this]
  simp [List.getD, this]
theorem wz_set (b : List Nat) (t : Nat) (h : 16 ≤ t) (h' : t < 64) : (wz b t).set t (nxt (ws b (t - 16))) = wz b (t + 1) := by
  have e1 : t + 1 - 16 = t - 16 + 1 := by omega
  have e2 : 64 - t = (64 - (t + 1)) + 1 := by omega
  have hl := ws_length b (t - 16)
  unfold wz
  rw [e1, ws, e2, List.replicate_succ, List.set_append, if_neg (by omega), show t - (ws b (t - 16)).length = 0 by omega, List.set_cons_zero, List.append_assoc]
  rfl
theorem nxt_ws (b : List Nat) (t : Nat) (h : 16 ≤ t) : nxt (ws b (t - 16)) = add32 (add32 (add32 (s1 ((ws b (t - 16)).getD (t - 2) 0)) ((ws b (t - 16)).getD (t - 7) 0)) (s0 ((ws b (t - 16)).getD (t - 15) 0))) ((ws b (t - 16)).getD (t - 16) 0) := by
  unfold nxt
  rw [ws_length, show 16 + (t - 16) = t by omega]

/-! ### The state behind a block -/
def splus (s r : St) : St := ⟨add32 s.a r.a, add32 s.b r.b, add32 s.c r.c, add32 s.d r.d, add32 s.e r.e, add32 s.f r.f, add32 s.g r.g, add32 s.h r.h⟩
def scmp (s : St) (b : List Nat) : St := splus s (srnds (sch b) s 64)
/-- The state behind all whole blocks of a list. -/
def hruns (s : St) (l : List Nat) : Nat → St
  | 0 => s
  | n + 1 => scmp (hruns s l n) ((l.drop (64 * n)).take 64)
def hrun (s : St) (l : List Nat) : St := hruns s l (l.length / 64)
theorem hruns_app (s : St) (a b : List Nat) (n : Nat) (h : 64 * n ≤ a.length) : hruns s (a ++ b) n = hruns s a n := by
  induction n with
  | zero => rfl
  | succ n ih =>
    rw [hruns, hruns, ih (by omega), List.drop_append_of_le_length (by omega), List.take_append_of_le_length (by simp; omega)]
theorem hruns_more (s : St) (a b : List Nat) (m : Nat) (h : a.length = 64 * m) (n : Nat) : hruns s (a ++ b) (m + n) = hruns (hruns s a m) b n := by
  induction n with
  | zero => exact hruns_app s a b m (by omega)
  | succ n ih =>
    rw [← Nat.add_assoc, hruns, hruns, ih]
    congr 2
    rw [List.drop_append, List.drop_eq_nil_of_le (by omega), List.nil_append, show 64 * (m + n) - a.length = 64 * n by omega]
theorem hrun_app (s : St) (a b : List Nat) (m : Nat) (h : a.length = 64 * m) : hrun s (a ++ b) = hrun (hrun s a) b := by
  unfold hrun
  rw [List.length_append, h, show (64 * m + b.length) / 64 = m + b.length / 64 by omega, hruns_more s a b m h, show 64 * m / 64 = m by omega]
theorem hrun_one (s : St) (b : List Nat) (h : b.length = 64) : hrun s b = scmp s b := by
  unfold hrun
  rw [h]
  show scmp s ((b.drop 0).take 64) = _
  rw [List.drop_zero, ← h, List.take_length]
theorem hrun_small (s : St) (b : List Nat) (h : b.length < 64) : hrun s b = s := by
  unfold hrun
  rw [Nat.div_eq_of_lt h]; rfl
theorem hrun_rest (s : St) (a b : List Nat) (m : Nat) (h : a.length = 64 * m) (hb : b.length < 64) : hrun s (a ++ b) = hrun s a := by rw [hrun_app s a b m h, hrun_small _ _ hb]

/-! ### The digest -/
def len8 (n : Nat) : List Nat := (List.range 8).map fun i => n * 8 / 256 ^ (7 - i) % 256
def zs (n : Nat) : List Nat := List.replicate n 0
/-- As few noughts as make a multiple of 64 with 9 bytes more. -/
def gap (n : Nat) : Nat := (119 - n % 64) % 64
def pad (l : List Nat) : List Nat := l ++ 128 :: zs (gap l.length) ++ len8 l.length
def sWord (s : St) (j : Nat) : Int := match j with | 0 => s.a | 1 => s.b | 2 => s.c | 3 => s.d | 4 => s.e | 5 => s.f | 6 => s.g | _ => s.h
def sByte (s : St) (i : Nat) : Int := sWord s (i / 4) / 2 ^ (24 - i % 4 * 8) % 256
def keyL (s : St) : List Int := (List.range 32).map (sByte s)
/-- The first bytes of a digest, and noughts. -/
def keyZ (s : St) (i : Nat) : List Int := (List.range 32).map fun j => if j < i then sByte s j else 0
theorem keyZ_length (s : St) (i : Nat) : (keyZ s i).length = 32 := by simp [keyZ]
theorem keyZ_get (s : St) (i j : Nat) (h : j < 32) : (keyZ s i)[j]? = some (if j < i then sByte s j else 0) := by simp [keyZ, h]
theorem keyZ_set (s : St) (i : Nat) (h : i < 32) : (keyZ s i).set i (sByte s i) = keyZ s (i + 1) := by
  apply List.ext_getElem?
  intro j
  rw [List.getElem?_set]
  by_cases hj : j < 32
  · rw [keyZ_get _ _ _ hj, keyZ_get _ _ _ hj]
    by_cases e : i = j
    · subst e; rw [if_pos rfl, if_pos (by rw [keyZ_length]; exact h), if_pos (by omega)]
    · rw [if_neg e]
      by_cases h1 : j < i
      · rw [if_pos h1, if_pos (by omega)]
      · rw [if_neg h1, if_neg (by omega)]
  · rw [if_neg (by omega), List.getElem?_eq_none (by rw [keyZ_length]; omega), List.getElem?_eq_none (by rw [keyZ_length]; omega)]
theorem keyZ_all (s : St) : keyZ s 32 = keyL s := by
  unfold keyZ keyL
  apply List.map_congr_left
  intro j hj
  rw [if_pos (List.mem_range.1 hj)]
/-- A block whose last j bytes are the last ones of the number of bits. -/
def lenP (r : List Nat) (n j : Nat) : List Nat := (List.range 64).map fun i => if 64 - j ≤ i then n * 8 / 256 ^ (63 - i) % 256 else r.getD i 0
theorem lenP_length (r : List Nat) (n j : Nat) : (lenP r n j).length = 64 := by simp [lenP]
theorem lenP_get (r : List Nat) (n j i : Nat) (h : i < 64) : (lenP r n j)[i]? = some (if 64 - j ≤ i then n * 8 / 256 ^ (63 - i) % 256 else r.getD i 0) := by simp [lenP, h]
theorem lenP_zero (r : List Nat) (n : Nat) (hr : r.length = 64) : lenP r n 0 = r := by
  apply List.ext_getElem?
  intro i
  by_cases h : i < 64
  · rw [lenP_get _ _ _ _ h, if_neg (by omega), List.getElem?_eq_getElem (by omega)]; simp [List.getD, hr, h]
  · rw [List.getElem?_eq_none (by rw [lenP_length]; omega), List.getElem?_eq_none (by omega)]
theorem lenP_set (r : List Nat) (n j : Nat) (hj : j < 8) : (lenP r n j).set (63 - j) (n * 8 / 256 ^ j % 256) = lenP r n (j + 1) := by
  apply List.ext_getElem?
  intro i
  rw [List.getElem?_set]
  by_cases h : i < 64
  · rw [lenP_get _ _ _ _ h, lenP_get _ _ _ _ h]
    by_cases e : 63 - j = i
    · subst e; rw [if_pos rfl, if_pos (by rw [lenP_length]; omega), if_pos (by omega), show 63 - (63 - j) = j by omega]
    · rw [if_neg e]
      by_cases h1 : 64 - j ≤ i
      · rw [if_pos h1, if_pos (by omega)]
      · rw [if_neg h1, if_neg (by omega)]
  · rw [if_neg (by omega), List.getElem?_eq_none (by rw [lenP_length]; omega), List.getElem?_eq_none (by rw [lenP_length]; omega)]
theorem lenP_all (r : List Nat) (n : Nat) (hr : r.length = 64) : lenP r n 8 = r.take 56 ++ len8 n := by
  apply List.ext_getElem?
  intro i
  by_cases h : i < 64
  · rw [lenP_get _ _ _ _ h]
    by_cases h1 : i < 56
    · rw [if_neg (by omega), List.getElem?_append_left (by simp; omega), List.getElem?_take, if_pos h1, List.getElem?_eq_getElem (by omega)]; simp [List.getD, hr, h]
    · rw [if_pos (by omega), List.getElem?_append_right (by simp; omega)]
      have e : i - (r.take 56).length = i - 56 := by simp; omega
      rw [e]
      unfold len8
      rw [List.getElem?_map, List.getElem?_range (by omega), Option.map_some, show 7 - (i - 56) = 63 - i by omega]
  · rw [List.getElem?_eq_none (by rw [lenP_length]; omega), List.getElem?_eq_none (by simp [len8]; omega)]
/-- The state that a hash ends with. -/
def digF (n : Nat) (s : St) (r : List Nat) : St := if 56 ≤ n % 64 then scmp (scmp s (r.set (n % 64) 128)) ((zs 64).take 56 ++ len8 n) else scmp s ((r.set (n % 64) 128).take 56 ++ len8 n)
theorem getD_lt {l : List Nat} (h : ∀ x ∈ l, x < 256) (i : Nat) : l.getD i 0 < 256 := by
  unfold List.getD
  cases hx : l[i]? with
  | none => decide
  | some x => exact h x (List.mem_of_getElem? hx)
theorem mem_lt {l : List Nat} (h : ∀ i, l.getD i 0 < 256) : ∀ x ∈ l, x < 256 := fun x hx => by
  obtain ⟨i, hi⟩ := List.mem_iff_getElem?.1 hx
  have := h i
  unfold List.getD at this
  rw [hi] at this; exact this
theorem bts_set {l : List Nat} (h : ∀ i, l.getD i 0 < 256) {v : Nat} (hv : v < 256) (u : Nat) : ∀ i, (l.set u v).getD i 0 < 256 :=
  getD_lt fun x hx => by
    rcases List.mem_or_eq_of_mem_set hx with hx | rfl
    · exact mem_lt h x hx
    · exact hv
theorem bts_app {a b : List Nat} (ha : ∀ i, a.getD i 0 < 256) (hb : ∀ i, b.getD i 0 < 256) : ∀ i, (a ++ b).getD i 0 < 256 :=
  getD_lt fun x hx => by
    rcases List.mem_append.1 hx with hx | hx
    · exact mem_lt ha x hx
    · exact mem_lt hb x hx
theorem bts_take {a : List Nat} (ha : ∀ i, a.getD i 0 < 256) (n : Nat) : ∀ i, (a.take n).getD i 0 < 256 := getD_lt fun x hx => mem_lt ha x (List.mem_of_mem_take hx)
theorem bts_drop {a : List Nat} (ha : ∀ i, a.getD i 0 < 256) (n : Nat) : ∀ i, (a.drop n).getD i 0 < 256 := getD_lt fun x hx => mem_lt ha x (List.mem_of_mem_drop hx)
theorem bts_zs (n : Nat) : ∀ i, (zs n).getD i 0 < 256 := getD_lt fun x hx => by
  have := List.eq_of_mem_replicate hx
  omega
theorem bts_len8 (n : Nat) : ∀ i, (len8 n).getD i 0 < 256 := getD_lt fun x hx => by
  obtain ⟨j, _, rfl⟩ := List.mem_map.1 hx
  omega
def dig (l : List Nat) : St := hrun st0 (pad l)
theorem abc : (keyL (dig [97, 98, 99])).getD 0 0 = 186 ∧ (keyL (dig [97, 98, 99])).getD 31 0 = 173 := by decide +kernel
theorem pad_length (l : List Nat) : (pad l).length = 64 * ((l.length + 72) / 64) := by
  simp [pad, zs, len8, gap]; omega
end Go.Sh
