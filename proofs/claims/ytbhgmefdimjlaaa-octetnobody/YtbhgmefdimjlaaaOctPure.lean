/-
  Bytes that are laid down, and taken, as lists of numbers. Of no program.
-/
import Derived.Test.YtbhgmefdimjlaaaShaPure
namespace Go.Oc
open Go Go.Sh

/-! ### Numbers in bytes -/
/-- The i-th byte of a number in so many bytes. -/
def dgt (n size i : Nat) : Nat := n / 2 ^ (8 * (size - 1 - i)) % 256
def digN (n size : Nat) : List Nat := (List.range size).map (dgt n size)
def joinN (l : List Nat) : Nat := l.foldl (fun a x => a * 256 + x) 0
theorem dig_length (n size : Nat) : (digN n size).length = size := by simp [digN]
theorem dgt_lt (n size i : Nat) : dgt n size i < 256 := Nat.mod_lt _ (by decide)
theorem dig_bts (n size : Nat) : ∀ i, (digN n size).getD i 0 < 256 := getD_lt fun x hx => by
  obtain ⟨i, _, rfl⟩ := List.mem_map.1 hx
  exact dgt_lt _ _ _
theorem join_snoc (l : List Nat) (x : Nat) : joinN (l ++ [x]) = joinN l * 256 + x := by simp [joinN]
theorem join_part (n size : Nat) : ∀ k, k ≤ size → joinN ((List.range k).map (dgt n size)) = n / 2 ^ (8 * (size - k)) % 2 ^ (8 * k)
  | 0, _ => by simp [joinN, Nat.mod_one]
  | k + 1, h => by
    rw [List.range_succ, List.map_append, List.map_cons, List.map_nil, join_snoc, join_part n size k (by omega)]
    unfold dgt
    have e : 8 * (size - k) = 8 * (size - (k + 1)) + 8 := by omega
    rw [show size - 1 - k = size - (k + 1) by omega, e, Nat.pow_add, ← Nat.div_div_eq_div_mul]
    generalize n / 2 ^ (8 * (size - (k + 1))) = X
    rw [show 8 * (k + 1) = 8 + 8 * k by omega, Nat.pow_add 2 8 (8 * k), show (2 : Nat) ^ 8 = 256 from rfl, Nat.mod_mul]
    omega
theorem join_dig (n size : Nat) (h : n < 2 ^ (8 * size)) : joinN (digN n size) = n := by
  unfold digN
  rw [join_part n size size (Nat.le_refl _), Nat.sub_self, Nat.mul_zero, Nat.pow_zero, Nat.div_one, Nat.mod_eq_of_lt h]
theorem fold_lt : ∀ (l : List Nat) (a : Nat), (∀ x ∈ l, x < 256) → l.foldl (fun a x => a * 256 + x) a < (a + 1) * 2 ^ (8 * l.length)
  | [], a, _ => by simp
  | x :: l, a, h => by
    have h1 := fold_lt l (a * 256 + x) fun y hy => h y (by simp [hy])
    have h2 : x < 256 := h x (by simp)
    rw [List.foldl_cons, List.length_cons, Nat.mul_add, Nat.mul_one, Nat.add_comm (8 * l.length) 8, Nat.pow_add, ← Nat.mul_assoc]
    refine Nat.lt_of_lt_of_le h1 (Nat.mul_le_mul_right _ ?_)
    show a * 256 + x + 1 ≤ (a + 1) * 256
    omega
theorem join_lt (l : List Nat) (h : ∀ i, l.getD i 0 < 256) : joinN l < 2 ^ (8 * l.length) := by
  have := fold_lt l 0 (mem_lt h)
  simpa [joinN] using this
/-- Has a number room in some bytes? -/
def Fits (n : Nat) (sz : Int) : Prop := 1 ≤ sz ∧ sz ≤ 8 ∧ n < 2 ^ (8 * sz.toNat)
instance (n : Nat) (sz : Int) : Decidable (Fits n sz) := by unfold Fits; infer_instance

/-! ### A writer: its first error, and its bytes -/
abbrev Ws := Int × List Nat
def layS (room : Nat) (l m : List Nat) : Ws := if room < l.length + m.length then (8, l) else (0, l ++ m)
def numS (room : Nat) (s : Ws) (n : Nat) (sz : Int) : Ws := if s.1 ≠ 0 then s else if ¬ Fits n sz then (2, s.2) else layS room s.2 (digN n sz.toNat)
def bytS (room : Nat) (s : Ws) (m : List Nat) : Ws := if s.1 ≠ 0 then s else layS room s.2 m
def filS (room : Nat) (s : Ws) (to : Int) : Ws := if s.1 ≠ 0 then s else if to < (s.2.length : Int) then (2, s.2) else if (room : Int) < to then (8, s.2) else layS room s.2 (zs (to.toNat - s.2.length))
/-- What all of it is. -/
def allL (s : Ws) : List Nat := if s.1 ≠ 0 then [] else s.2
theorem layS_le {room : Nat} {l m : List Nat} (h : l.length ≤ room) : (layS room l m).2.length ≤ room := by
  unfold layS; split <;> simp <;> omega
theorem numS_le {room : Nat} {s : Ws} (h : s.2.length ≤ room) (n : Nat) (sz : Int) : (numS room s n sz).2.length ≤ room := by
  unfold numS; split; · exact h
  split; · exact h
  exact layS_le h
theorem bytS_le {room : Nat} {s : Ws} (h : s.2.length ≤ room) (m : List Nat) : (bytS room s m).2.length ≤ room := by
  unfold bytS; split; · exact h
  exact layS_le h
theorem filS_le {room : Nat} {s : Ws} (h : s.2.length ≤ room) (to : Int) : (filS room s to).2.length ≤ room := by
  unfold filS; split; · exact h
  split; · exact h
  split; · exact h
  exact layS_le h
theorem layS_bts {room : Nat} {l m : List Nat} (h : ∀ i, l.getD i 0 < 256) (hm : ∀ i, m.getD i 0 < 256) : ∀ i, (layS room l m).2.getD i 0 < 256 := by
  unfold layS; split
  · exact h
  · exact bts_app h hm
theorem numS_bts {room : Nat} {s : Ws} (h : ∀ i, s.2.getD i 0 < 256) (n : Nat) (sz : Int) : ∀ i, (numS room s n sz).2.getD i 0 < 256 := by
  unfold numS; split; · exact h
  split; · exact h
  exact layS_bts h (dig_bts _ _)
theorem bytS_bts {room : Nat} {s : Ws} (h : ∀ i, s.2.getD i 0 < 256) {m : List Nat} (hm : ∀ i, m.getD i 0 < 256) : ∀ i, (bytS room s m).2.getD i 0 < 256 := by
  unfold bytS; split; · exact h
  exact layS_bts h hm
theorem filS_bts {room : Nat} {s : Ws} (h : ∀ i, s.2.getD i 0 < 256) (to : Int) : ∀ i, (filS room s to).2.getD i 0 < 256 := by
  unfold filS; split; · exact h
  split; · exact h
  split; · exact h
  exact layS_bts h (bts_zs _)

/-! ### A reader: its first error, and the bytes that are left -/
def takS (s : Ws) (n : Nat) : Ws := if s.2.length < n then (4, s.2) else (0, s.2.drop n)
def rnumS (s : Ws) (sz : Int) : Ws := if s.1 ≠ 0 then s else if ¬ (1 ≤ sz ∧ sz ≤ 8) then (2, s.2) else takS s sz.toNat
def rnumV (s : Ws) (sz : Int) : Nat := if s.1 = 0 ∧ (1 ≤ sz ∧ sz ≤ 8) ∧ sz.toNat ≤ s.2.length then joinN (s.2.take sz.toNat) else 0
def rbytS (s : Ws) (n : Int) : Ws := if s.1 ≠ 0 then s else if n < 0 then (2, s.2) else takS s n.toNat
def rbytV (s : Ws) (n : Int) : List Nat := if s.1 = 0 ∧ 0 ≤ n ∧ n.toNat ≤ s.2.length then s.2.take n.toNat else []
def leftS (s : Ws) : Nat := if s.1 ≠ 0 then 0 else s.2.length
def doneS (s : Ws) : Bool := decide (s.1 = 0) && s.2.all (· == 0)
theorem takS_le {s : Ws} {n m : Nat} (h : s.2.length ≤ m) : (takS s n).2.length ≤ m := by
  unfold takS; split <;> simp <;> omega
theorem rnumS_le {s : Ws} {m : Nat} (h : s.2.length ≤ m) (sz : Int) : (rnumS s sz).2.length ≤ m := by
  unfold rnumS; split; · exact h
  split; · exact h
  exact takS_le h
theorem rbytS_le {s : Ws} {m : Nat} (h : s.2.length ≤ m) (sz : Int) : (rbytS s sz).2.length ≤ m := by
  unfold rbytS; split; · exact h
  split; · exact h
  exact takS_le h
theorem takS_bts {s : Ws} {n : Nat} (h : ∀ i, s.2.getD i 0 < 256) : ∀ i, (takS s n).2.getD i 0 < 256 := by
  unfold takS; split
  · exact h
  · exact bts_drop h _
theorem rnumS_bts {s : Ws} (h : ∀ i, s.2.getD i 0 < 256) (sz : Int) : ∀ i, (rnumS s sz).2.getD i 0 < 256 := by
  unfold rnumS; split; · exact h
  split; · exact h
  exact takS_bts h
theorem rbytS_bts {s : Ws} (h : ∀ i, s.2.getD i 0 < 256) (sz : Int) : ∀ i, (rbytS s sz).2.getD i 0 < 256 := by
  unfold rbytS; split; · exact h
  split; · exact h
  exact takS_bts h
theorem rbytV_bts {s : Ws} (h : ∀ i, s.2.getD i 0 < 256) (n : Int) : ∀ i, (rbytV s n).getD i 0 < 256 := by
  unfold rbytV; split
  · exact bts_take h _
  · intro i; simp
end Go.Oc
