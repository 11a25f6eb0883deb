/-
  Digits that may be great, and the number that they tell: how it stays the same, or leaves the same, digit by digit.
-/
import Derived.Test.YtpilonikhokjeaaRefCanon
namespace Go.Proofs.Ytpilonikhokjeaa

/-- The lowest k digits of a number. -/
def dg (n k : Nat) : List Nat := (List.range k).map fun i => n / 256 ^ i % 256
theorem dg_zero (n : Nat) : dg n 0 = [] := rfl
theorem dg_succ (n k : Nat) : dg n (k + 1) = dg n k ++ [n / 256 ^ k % 256] := by simp [dg, List.range_succ]
theorem dg_length (n k : Nat) : (dg n k).length = k := by simp [dg]
theorem dg_get (n k i : Nat) (h : i < k) : (dg n k)[i]? = some (n / 256 ^ i % 256) := by simp [dg, h]
theorem dg_val (n k : Nat) : ofBytes (dg n k) = n % 256 ^ k := ofBytes_digits n k

theorem ofBytes_append : ∀ (l m : List Nat), ofBytes (l ++ m) = ofBytes l + 256 ^ l.length * ofBytes m
  | [], m => by simp [ofBytes]
  | x :: l, m => by
    simp only [List.cons_append, ofBytes, ofBytes_append l m, List.length_cons, Nat.pow_succ]
    rw [Nat.mul_add, Nat.mul_comm (256 ^ l.length) 256, Nat.mul_assoc]; omega
theorem ofBytes_take (l : List Nat) (k : Nat) (h : k < l.length) : ofBytes (l.take (k + 1)) = ofBytes (l.take k) + 256 ^ k * l.getD k 0 := by
  rw [List.take_succ_eq_append_getElem h, ofBytes_snoc, List.length_take, Nat.min_eq_left (Nat.le_of_lt h)]
  simp [h]
theorem ofBytes_set : ∀ (l : List Nat) (j x : Nat), j < l.length → ofBytes (l.set j (l.getD j 0 + x)) = ofBytes l + 256 ^ j * x
  | [], j, x, h => by simp at h
  | y :: l, 0, x, _ => by simp [ofBytes]; omega
  | y :: l, j + 1, x, h => by
    have ih := ofBytes_set l j x (by simpa using h)
    simp only [List.set_cons_succ, List.getD_cons_succ, ofBytes, ih, Nat.pow_succ]
    rw [Nat.mul_add, Nat.mul_comm (256 ^ j) 256, Nat.mul_assoc]; omega
/-- What is over behind the first k digits. -/
def cry (l : List Nat) (k : Nat) : Nat := ofBytes (l.take k) / 256 ^ k
theorem cry_zero (l : List Nat) : cry l 0 = 0 := by simp [cry, ofBytes]
theorem cry_next (l : List Nat) (k : Nat) (h : k < l.length) : (l.getD k 0 + cry l k) / 256 = cry l (k + 1) := by
  unfold cry
  rw [ofBytes_take l k h, Nat.pow_succ, ← Nat.div_div_eq_div_mul, Nat.add_mul_div_left _ _ (Nat.pow_pos (by decide)), Nat.add_comm]
theorem take_drop_val (l : List Nat) (k : Nat) (h : k ≤ l.length) : ofBytes l = ofBytes (l.take k) + 256 ^ k * ofBytes (l.drop k) := by
  have := ofBytes_append (l.take k) (l.drop k)
  rw [List.take_append_drop, List.length_take, Nat.min_eq_left h] at this
  exact this
theorem cry_digit (l : List Nat) (k : Nat) (h : k < l.length) : (l.getD k 0 + cry l k) % 256 = ofBytes l / 256 ^ k % 256 := by
  have e := take_drop_val l (k + 1) h
  have hp : 0 < 256 ^ k := Nat.pow_pos (by decide)
  rw [e, ofBytes_take l k h]
  unfold cry
  rw [show ofBytes (l.take k) + 256 ^ k * l.getD k 0 + 256 ^ (k + 1) * ofBytes (l.drop (k + 1)) = ofBytes (l.take k) + 256 ^ k * (l.getD k 0 + 256 * ofBytes (l.drop (k + 1))) by
    rw [Nat.pow_succ, Nat.mul_add, Nat.mul_assoc]; omega]
  rw [Nat.add_mul_div_left _ _ hp]; omega
theorem cry_whole (l : List Nat) : cry l l.length = ofBytes l / 256 ^ l.length := by unfold cry; rw [List.take_length]
/-- Each digit is at most m. -/
def Most (m : Nat) (l : List Nat) : Prop := ∀ i, l.getD i 0 ≤ m
theorem cry_most (l : List Nat) (m : Nat) (h : Most m l) : ∀ k, k ≤ l.length → cry l k ≤ m
  | 0, _ => by rw [cry_zero]; exact Nat.zero_le _
  | k + 1, hk => by
    have := cry_most l m h k (by omega)
    have h2 := h k
    rw [← cry_next l k (by omega)]; omega
set_option maxRecDepth 100000 in
theorem most_step (x v m y : Nat) (h : x ≤ m) (ih : v * 255 + m ≤ y) : (x + 256 * v) * 255 + m ≤ y * 256 := by omega
theorem most_val : ∀ (l : List Nat) (m : Nat), Most m l → ofBytes l * 255 + m ≤ m * 256 ^ l.length
  | [], m, _ => by simp [ofBytes]
  | x :: l, m, h => by
    have h1 : x ≤ m := h 0
    have ih := most_val l m fun i => h (i + 1)
    simp only [ofBytes, List.length_cons, Nat.pow_succ]
    rw [← Nat.mul_assoc]
    exact most_step _ _ _ _ h1 ih
/-- What stands above the 32nd digit comes back 38 times. -/
def fold (l : List Nat) : Nat := ofBytes (l.take 32) + 38 * ofBytes (l.drop 32)
def nx (l : List Nat) : List Nat := dg (fold l) 32 ++ [fold l / 256 ^ 32]
def it (l : List Nat) : Nat → List Nat
  | 0 => l
  | r + 1 => nx (it l r)
theorem nx_length (l : List Nat) : (nx l).length = 33 := by simp [nx, dg_length]
theorem most_take {m : Nat} {l : List Nat} (h : Most m l) (k : Nat) : Most m (l.take k) := fun i => by
  have := h i
  rw [List.getD_eq_getElem?_getD] at this ⊢
  rw [List.getElem?_take]
  split
  · exact this
  · simp
theorem most_drop {m : Nat} {l : List Nat} (h : Most m l) (k : Nat) : Most m (l.drop k) := fun i => by
  have := h (k + i)
  rw [List.getD_eq_getElem?_getD] at this ⊢
  rw [List.getElem?_drop]; exact this
theorem fold_most {l : List Nat} {m : Nat} (h : Most m l) (h1 : 32 ≤ l.length) (h2 : l.length ≤ 64) : fold l / 256 ^ 32 ≤ m := by
  have a := most_val _ m (most_take h 32)
  have b := most_val _ m (most_drop h 32)
  rw [List.length_take, Nat.min_eq_left h1] at a
  have c : 256 ^ (l.drop 32).length ≤ 256 ^ 32 := Nat.pow_le_pow_right (by decide) (by rw [List.length_drop]; omega)
  have d := Nat.mul_le_mul_left m c
  unfold fold
  rw [Nat.div_le_iff_le_mul_add_pred (by decide)]
  have e : m * 256 ^ 32 = 256 ^ 32 * m := Nat.mul_comm _ _
  generalize 256 ^ (l.drop 32).length = q at *
  generalize m * q = y at *
  generalize ofBytes (l.take 32) = s at *
  generalize ofBytes (l.drop 32) = t at *
  have p : 0 < 256 ^ 32 := by decide
  rw [e] at a d
  generalize 256 ^ 32 * m = z at *
  omega
theorem nx_most {l : List Nat} {m : Nat} (hm : 255 ≤ m) (h : Most m l) (h1 : 32 ≤ l.length) (h2 : l.length ≤ 64) : Most m (nx l) := fun i => by
  unfold nx
  rw [List.getD_eq_getElem?_getD]
  by_cases hi : i < 32
  · rw [List.getElem?_append_left (by rw [dg_length]; exact hi), dg_get _ _ _ hi]
    show _ % 256 ≤ m
    have := Nat.mod_lt (fold l / 256 ^ i) (show 0 < 256 by decide)
    omega
  · rw [List.getElem?_append_right (by rw [dg_length]; omega), dg_length]
    by_cases h32 : i = 32
    · subst h32; exact fold_most h h1 h2
    · rw [List.getElem?_eq_none (by simp; omega)]; simp
theorem it_length (l : List Nat) (h1 : 32 ≤ l.length) (h2 : l.length ≤ 64) : ∀ r, 32 ≤ (it l r).length ∧ (it l r).length ≤ 64
  | 0 => ⟨h1, h2⟩
  | r + 1 => by rw [it, nx_length]; decide
theorem it_most (l : List Nat) (m : Nat) (hm : 255 ≤ m) (h : Most m l) (h1 : 32 ≤ l.length) (h2 : l.length ≤ 64) : ∀ r, Most m (it l r)
  | 0 => h
  | r + 1 => nx_most hm (it_most l m hm h h1 h2 r) (it_length l h1 h2 r).1 (it_length l h1 h2 r).2
/-- The rounds' numbers. -/
theorem fold_nx (l : List Nat) : fold (nx l) = fold l % 256 ^ 32 + 38 * (fold l / 256 ^ 32) := by
  unfold nx
  generalize fold l = v
  unfold fold
  rw [List.take_left' (dg_length v 32), List.drop_left' (dg_length v 32), dg_val]
  simp [ofBytes]
theorem two_p : 256 ^ 32 = 2 * Fp.P + 38 := by decide +kernel
theorem fold_mod (l : List Nat) (h : 32 ≤ l.length) : fold l % Fp.P = ofBytes l % Fp.P := by
  rw [take_drop_val l 32 h, two_p]
  unfold fold
  rw [show ofBytes (l.take 32) + (2 * Fp.P + 38) * ofBytes (l.drop 32) = ofBytes (l.take 32) + 38 * ofBytes (l.drop 32) + Fp.P * (2 * ofBytes (l.drop 32)) by
    rw [Nat.add_mul, Nat.mul_comm 2 Fp.P, Nat.mul_assoc]; omega]
  rw [Nat.add_mul_mod_self_left]
theorem again_mod (v : Nat) : (v % 256 ^ 32 + 38 * (v / 256 ^ 32)) % Fp.P = v % Fp.P := by
  have e := Nat.mod_add_div v (256 ^ 32)
  rw [show v % Fp.P = (v % 256 ^ 32 + 256 ^ 32 * (v / 256 ^ 32)) % Fp.P by rw [e]]
  generalize v % 256 ^ 32 = a
  generalize v / 256 ^ 32 = b
  rw [two_p, show a + (2 * Fp.P + 38) * b = a + 38 * b + Fp.P * (2 * b) by rw [Nat.add_mul, Nat.mul_comm 2 Fp.P, Nat.mul_assoc]; omega, Nat.add_mul_mod_self_left]
/-- Behind four rounds there are 32 digits of a number that leaves the same. -/
theorem four (l : List Nat) (h : Most 4194304 l) (h1 : 32 ≤ l.length) (h2 : l.length ≤ 64) :
    ∃ n, n < 256 ^ 32 ∧ n % Fp.P = ofBytes l % Fp.P ∧ it l 4 = dg n 32 ++ [0] := by
  have e1 := fold_most h h1 h2
  have m1 := fold_mod l h1
  have f2 := fold_nx l
  have f3 := fold_nx (nx l)
  have f4 := fold_nx (nx (nx l))
  have a2 := again_mod (fold l)
  have a3 := again_mod (fold (nx l))
  have a4 := again_mod (fold (nx (nx l)))
  rw [← f2] at a2; rw [← f3] at a3; rw [← f4] at a4
  have hlt : fold (nx (nx (nx l))) < 256 ^ 32 := by
    rw [show (256 : Nat) ^ 32 = 115792089237316195423570985008687907853269984665640564039457584007913129639936 by decide] at *
    omega
  refine ⟨fold (nx (nx (nx l))), hlt, by rw [a4, a3, a2, m1], ?_⟩
  show nx (nx (nx (nx l))) = _
  rw [nx, Nat.div_eq_of_lt hlt]
end Go.Proofs.Ytpilonikhokjeaa
