/-
  Part 4 of the texts behind the theorem.
-/
import Derived.Test.YtddmjddlbhdcpaaGreatDoorPart3
import Derived.LoopTactic
import Derived.Test.YtddmjddlbhdcpaaGreatDoorPart1
import Derived.Laws.Rows
import Derived.ChangeKeysEq
import Derived.Deep.MidRow
/-
  Part 4 of the texts behind the theorem.
-/
namespace Fp
/-- A number is prime. -/
def Pr (n : Nat) : Prop := 2 ≤ n ∧ ∀ d, d ∣ n → d = 1 ∨ d = n

theorem perm_of {l1 : List Nat} : ∀ {l2 : List Nat}, l1.Nodup → (∀ x ∈ l1, x ∈ l2) → l2.length ≤ l1.length → l1.Perm l2 := by
  induction l1 with
  | nil => intro l2 _ _ h; have : l2 = [] := by cases l2 with | nil => rfl | cons => simp at h
           subst this; exact List.Perm.refl _
  | cons x t ih =>
    intro l2 hn hs hl
    have hx : x ∈ l2 := hs x (by simp)
    have hp := List.perm_cons_erase hx
    have hn' := List.nodup_cons.1 hn
    refine (List.Perm.cons x (ih hn'.2 ?_ ?_)).trans hp.symm
    · intro y hy
      have : y ≠ x := fun e => hn'.1 (e ▸ hy)
      exact (List.mem_erase_of_ne this).2 (hs y (by simp [hy]))
    · have := hp.length_eq; simp at this hl; omega

def prod : List Nat → Nat
  | [] => 1
  | x :: t => x * prod t
theorem prod_perm {l1 l2 : List Nat} (h : l1.Perm l2) : prod l1 = prod l2 := by
  induction h with
  | nil => rfl
  | cons x _ ih => simp [prod, ih]
  | swap x y l => simp [prod, Nat.mul_left_comm]
  | trans _ _ a b => exact a.trans b

theorem prod_map (a d : Nat) (l : List Nat) : prod (l.map fun x => a * x % d) % d = a ^ l.length * prod l % d := by
  induction l with
  | nil => simp [prod]
  | cons x t ih =>
    simp only [List.map_cons, prod, List.length_cons]
    rw [Nat.mul_mod, ih, Nat.mod_mod, ← Nat.mul_mod]
    congr 1; rw [Nat.pow_succ]; simp [Nat.mul_assoc, Nat.mul_comm, Nat.mul_left_comm]

theorem Pr.cop {d a : Nat} (hd : Pr d) (h : ¬ d ∣ a) : Nat.Coprime d a := by
  rcases hd.2 _ (Nat.gcd_dvd_left d a) with e | e
  · exact e
  · exact absurd (e ▸ Nat.gcd_dvd_right d a) h
theorem Pr.dvd_mul {d a b : Nat} (hd : Pr d) (h : d ∣ a * b) : d ∣ a ∨ d ∣ b := by
  by_cases ha : d ∣ a
  · exact .inl ha
  · exact .inr ((hd.cop ha).dvd_of_dvd_mul_left h)
theorem Pr.not_dvd_prod {d : Nat} (hd : Pr d) : ∀ l : List Nat, (∀ x ∈ l, ¬ d ∣ x) → ¬ d ∣ prod l
  | [], _, h => by have := Nat.le_of_dvd (by simp [prod]) h; have := hd.1; simp [prod] at *; omega
  | x :: t, hx, h => by
    rcases hd.dvd_mul h with h | h
    · exact hx x (by simp) h
    · exact hd.not_dvd_prod t (fun y hy => hx y (by simp [hy])) h
theorem dvd_of_mod {d a b : Nat} (e : a % d = b % d) : d ∣ a - b := Nat.dvd_of_mod_eq_zero (Nat.sub_mod_eq_zero_of_mod_eq e)
theorem mod_of_dvd {d a b : Nat} (hab : b ≤ a) (h : d ∣ a - b) : a % d = b % d := by
  obtain ⟨k, hk⟩ := h
  have : a = b + d * k := by omega
  rw [this, Nat.add_mul_mod_self_left]
theorem cancel' {d c a b : Nat} (h : Nat.Coprime d c) (e : a * c % d = b * c % d) (hab : b ≤ a) : a % d = b % d := by
  have : d ∣ (a - b) * c := by rw [Nat.sub_mul]; exact dvd_of_mod e
  exact mod_of_dvd hab (h.dvd_of_dvd_mul_right this)
theorem cancel {d c a b : Nat} (h : Nat.Coprime d c) (e : a * c % d = b * c % d) : a % d = b % d := by
  rcases Nat.le_total b a with g | g
  · exact cancel' h e g
  · exact (cancel' h e.symm g).symm

theorem Pr.not_dvd_small {d x : Nat} (h1 : 1 ≤ x) (h2 : x < d) : ¬ d ∣ x := fun h => by have := Nat.le_of_dvd h1 h; omega

theorem nodup_map_on {f : Nat → Nat} : ∀ {l : List Nat}, l.Nodup → (∀ x ∈ l, ∀ y ∈ l, f x = f y → x = y) → (l.map f).Nodup
  | [], _, _ => by simp
  | x :: t, hn, h => by
    have hn' := List.nodup_cons.1 hn
    refine List.nodup_cons.2 ⟨?_, nodup_map_on hn'.2 fun a ha b hb => h a (by simp [ha]) b (by simp [hb])⟩
    intro hm
    obtain ⟨y, hy, e⟩ := List.mem_map.1 hm
    exact hn'.1 (h y (by simp [hy]) x (by simp) e ▸ hy)
/-- Fermat's little theorem. -/
theorem fermat {d a : Nat} (hd : Pr d) (ha : ¬ d ∣ a) : a ^ (d - 1) % d = 1 := by
  have h2 := hd.1
  have hco := hd.cop ha
  let L := List.range' 1 (d - 1)
  have hL : ∀ x, x ∈ L ↔ 1 ≤ x ∧ x < d := by intro x; simp only [L, List.mem_range'_1]; omega
  have hp : (L.map fun x => a * x % d).Perm L := by
    refine perm_of ?_ ?_ (by simp)
    · have hn : L.Nodup := List.nodup_range'
      refine nodup_map_on hn ?_
      intro x hx y hy e
      have h := cancel (a := x) (b := y) hco (by simpa [Nat.mul_comm] using e)
      have := (hL x).1 hx; have := (hL y).1 hy
      rwa [Nat.mod_eq_of_lt (by omega), Nat.mod_eq_of_lt (by omega)] at h
    · intro y hy
      obtain ⟨x, hx, rfl⟩ := List.mem_map.1 hy
      have hx' := (hL x).1 hx
      refine (hL _).2 ⟨?_, Nat.mod_lt _ (by omega)⟩
      rcases Nat.eq_zero_or_pos (a * x % d) with e | e
      · rcases hd.dvd_mul (Nat.dvd_of_mod_eq_zero e) with h | h
        · exact absurd h ha
        · exact absurd h (Pr.not_dvd_small hx'.1 hx'.2)
      · exact e
  have e := prod_map a d L
  rw [prod_perm hp] at e
  have hl : L.length = d - 1 := by simp [L]
  rw [hl] at e
  have hc : Nat.Coprime d (prod L) := hd.cop (hd.not_dvd_prod L fun x hx => Pr.not_dvd_small ((hL x).1 hx).1 ((hL x).1 hx).2)
  have := cancel (a := a ^ (d - 1)) (b := 1) hc (by rw [Nat.one_mul]; exact e.symm)
  rw [this]; exact Nat.mod_eq_of_lt (by omega)

theorem dvd_pow_self' (b f : Nat) (h : 1 ≤ f) : b ∣ b ^ f := by
  obtain ⟨k, rfl⟩ : ∃ k, f = k + 1 := ⟨f - 1, by omega⟩
  exact ⟨b ^ k, by rw [Nat.pow_succ, Nat.mul_comm]⟩
theorem exists_inv {f m : Nat} (h : Nat.Coprime f m) (hm : 1 ≤ m) : ∃ u, f * u % m = 1 % m := by
  rcases Nat.lt_or_ge 1 m with g | g
  · have hL : ∀ x, x ∈ List.range m ↔ x < m := by simp
    have hp : ((List.range m).map fun x => f * x % m).Perm (List.range m) := by
      refine perm_of (nodup_map_on List.nodup_range ?_) ?_ (by simp)
      · intro x hx y hy e
        have h := cancel (a := x) (b := y) h.symm (by simpa [Nat.mul_comm] using e)
        rwa [Nat.mod_eq_of_lt ((hL x).1 hx), Nat.mod_eq_of_lt ((hL y).1 hy)] at h
      · intro y hy
        obtain ⟨x, _, rfl⟩ := List.mem_map.1 hy
        exact (hL _).2 (Nat.mod_lt _ (by omega))
    have h1 : 1 ∈ (List.range m).map fun x => f * x % m := hp.mem_iff.2 ((hL 1).2 g)
    obtain ⟨u, _, hu⟩ := List.mem_map.1 h1
    exact ⟨u, by rw [hu, Nat.mod_eq_of_lt g]⟩
  · exact ⟨0, by have : m = 1 := by omega
                 subst this; simp⟩

theorem pow_mod_one {b m k : Nat} (h : b ^ k % m = 1 % m) (u : Nat) : b ^ (k * u) % m = 1 % m := by
  rw [Nat.pow_mul, Nat.pow_mod, h, ← Nat.pow_mod, Nat.one_pow]

/-- One step of Pocklington's criterion: each prime divisor of n leaves 1 when divided by f. -/
theorem pock {n f a d : Nat} (hf : Pr f) (hn : 2 ≤ n) (hfn : f ∣ n - 1) (h1 : a ^ (n - 1) % n = 1)
    (h2 : Nat.Coprime (a ^ ((n - 1) / f) % n + (n - 1)) n) (hd : Pr d) (hdn : d ∣ n) : f ∣ d - 1 := by
  have hd2 := hd.1
  have hone : 1 % d = 1 := Nat.mod_eq_of_lt (by omega)
  let b := a ^ ((n - 1) / f)
  have hbf : b ^ f % d = 1 := by
    have : b ^ f = a ^ (n - 1) := by simp only [b]; rw [← Nat.pow_mul, Nat.div_mul_cancel hfn]
    rw [this, ← Nat.mod_mod_of_dvd _ hdn, h1, hone]
  have hb1 : b % d ≠ 1 := by
    intro e
    have hdv : d ∣ b % n + (n - 1) := by
      have e2 : b % n % d = 1 := by rw [Nat.mod_mod_of_dvd _ hdn]; exact e
      obtain ⟨k, hk⟩ := hdn
      have hk0 : 1 ≤ k := by rcases Nat.eq_zero_or_pos k with r | r; · subst r; omega
                             · exact r
      have : b % n = d * (b % n / d) + 1 := by have := Nat.div_add_mod (b % n) d; omega
      refine ⟨b % n / d + k, ?_⟩
      rw [Nat.mul_add, ← hk]; omega
    have := Nat.dvd_gcd hdv hdn
    rw [show Nat.gcd (b % n + (n - 1)) n = 1 from h2] at this
    have := Nat.le_of_dvd (by omega) this
    omega
  have hnd : ¬ d ∣ b := by
    intro h
    have : b ^ f % d = 0 := Nat.mod_eq_zero_of_dvd (Nat.dvd_trans h (dvd_pow_self' b f (by have := hf.1; omega)))
    omega
  have hfe := fermat hd hnd
  rcases Classical.em (f ∣ d - 1) with h | h
  · exact h
  exfalso
  -- f and d - 1 are coprime
  have hc := hf.cop h
  obtain ⟨u, hu⟩ := exists_inv hc (by omega)
  -- f * u % (d - 1) = 1 % (d-1)
  have e1 : b ^ (f * u) % d = 1 := by have := pow_mod_one (m := d) (by rw [hone]; exact hbf) u; rwa [hone] at this
  have e2 : b ^ (f * u) % d = b % d := by
    have hq := Nat.div_add_mod (f * u) (d - 1)
    rw [← hq, Nat.pow_add, Nat.mul_mod, pow_mod_one (m := d) (by rw [hone]; exact hfe), hu]
    rcases Nat.lt_or_ge 2 d with g | g
    · rw [Nat.mod_eq_of_lt (a := 1) (b := d - 1) (by omega), hone, Nat.one_mul, Nat.pow_one, Nat.mod_mod]
    · have : d = 2 := by omega
      subst this
      have : b % 2 ≠ 0 := fun h => hnd (Nat.dvd_of_mod_eq_zero h)
      omega
  omega

theorem exists_pr (n : Nat) (h : 2 ≤ n) : ∃ d, Pr d ∧ d ∣ n := by
  induction n using Nat.strongRecOn with
  | ind n ih =>
    rcases Classical.em (Pr n) with hp | hp
    · exact ⟨n, hp, Nat.dvd_refl n⟩
    · have : ∃ d, d ∣ n ∧ d ≠ 1 ∧ d ≠ n := by
        apply Classical.byContradiction
        intro hn
        refine hp ⟨h, fun d hd => ?_⟩
        apply Classical.byContradiction
        intro hc
        exact hn ⟨d, hd, fun e => hc (.inl e), fun e => hc (.inr e)⟩
      obtain ⟨d, hd, h1, h2⟩ := this
      have hle := Nat.le_of_dvd (by omega) hd
      have h0 : d ≠ 0 := by rintro rfl; have := Nat.eq_zero_of_zero_dvd hd; omega
      obtain ⟨e, he, hed⟩ := ih d (by omega) (by omega)
      exact ⟨e, he, Nat.dvd_trans hed hd⟩

/-- Who has no prime divisor up to the root is prime. -/
theorem pr_of_small {n : Nat} (h : 2 ≤ n) (hs : ∀ e, Pr e → e ∣ n → n < e * e) : Pr n := by
  refine ⟨h, fun d hd => ?_⟩
  apply Classical.byContradiction
  intro hc
  have h1 : d ≠ 1 := fun e => hc (.inl e)
  have h2 : d ≠ n := fun e => hc (.inr e)
  obtain ⟨k, hk⟩ := hd
  have hd0 : d ≠ 0 := by rintro rfl; omega
  have hk0 : k ≠ 0 := by rintro rfl; omega
  have hk1 : k ≠ 1 := by rintro rfl; omega
  rcases Nat.le_total d k with g | g
  · obtain ⟨e, he, hed⟩ := exists_pr d (by omega)
    have := hs e he (Nat.dvd_trans hed ⟨k, hk⟩)
    have hl := Nat.le_of_dvd (by omega) hed
    have := Nat.mul_le_mul hl (Nat.le_trans hl g)
    omega
  · obtain ⟨e, he, hed⟩ := exists_pr k (by omega)
    have := hs e he (Nat.dvd_trans hed ⟨d, by rw [hk, Nat.mul_comm]⟩)
    have hl := Nat.le_of_dvd (by omega) hed
    have := Nat.mul_le_mul (Nat.le_trans hl g) hl
    omega

def tr (n k : Nat) : Bool := (List.range k).all fun i => decide (i < 2) || decide (n % i ≠ 0)
theorem pr_tr {n : Nat} (k : Nat) (h2 : 2 ≤ n) (h : tr n k = true) (hk : n < k * k) : Pr n := by
  refine pr_of_small h2 fun e he hd => ?_
  apply Classical.byContradiction
  intro hc
  have hlt : e < k := by
    apply Classical.byContradiction
    intro g
    have := Nat.mul_le_mul (Nat.le_of_not_lt g) (Nat.le_of_not_lt g)
    omega
  have := List.all_eq_true.1 h e (by simpa using hlt)
  have h1 := he.1
  simp at this
  rcases this with h | h
  · omega
  · exact h (Nat.mod_eq_zero_of_dvd hd)

/-- A power, modulo m, by squaring. -/
def pm (m : Nat) : Nat → Nat → Nat → Nat
  | 0, _, _ => 1 % m
  | k + 1, b, e => if e % 2 = 1 then b * pm m k (b * b % m) (e / 2) % m else pm m k (b * b % m) (e / 2)
theorem pm_eq (m : Nat) : ∀ k b e, e < 2 ^ k → pm m k b e = b ^ e % m
  | 0, b, e, h => by have : e = 0 := by simpa using h
                     subst this; simp [pm]
  | k + 1, b, e, h => by
    have h' : e / 2 < 2 ^ k := by rw [Nat.pow_succ] at h; omega
    have ih := pm_eq m k (b * b % m) (e / 2) h'
    have hb : (b * b % m) ^ (e / 2) % m = b ^ (2 * (e / 2)) % m := by rw [← Nat.pow_mod, Nat.pow_mul, Nat.pow_two]
    have he := Nat.div_add_mod e 2
    unfold pm
    rw [ih, hb]
    split
    · next g => rw [Nat.mul_mod, Nat.mod_mod, ← Nat.mul_mod, ← Nat.pow_succ']; congr 2; omega
    · next g => congr 2; omega

theorem pock1 {n f d : Nat} (k : Nat) (hf : Pr f) (hn : 2 ≤ n) (hk : n ≤ 2 ^ k) (hfn : (n - 1) % f = 0) (h1 : pm n k 2 (n - 1) = 1)
    (h2 : Nat.gcd (pm n k 2 ((n - 1) / f) + (n - 1)) n = 1) (hd : Pr d) (hdn : d ∣ n) : f ∣ d - 1 := by
  have hdiv : (n - 1) / f ≤ n - 1 := Nat.div_le_self _ _
  refine pock (a := 2) hf hn (Nat.dvd_of_mod_eq_zero hfn) ?_ ?_ hd hdn
  · rw [← pm_eq n k 2 (n - 1) (by omega)]; exact h1
  · rw [← pm_eq n k 2 _ (by omega)]; exact h2

theorem pr_of_pock {n F : Nat} (hn : 2 ≤ n) (hF : n < F * F) (h : ∀ d, Pr d → d ∣ n → F ∣ d - 1) : Pr n := by
  refine pr_of_small hn fun e he hd => ?_
  have h1 := he.1
  have := Nat.le_of_dvd (by omega) (h e he hd)
  have : F ≤ e := by omega
  exact Nat.lt_of_lt_of_le hF (Nat.mul_le_mul this this)

theorem pr127 : Pr 127 := pr_tr 12 (by decide) (by decide +kernel) (by decide)
theorem pr75707 : Pr 75707 := pr_tr 276 (by decide) (by decide +kernel) (by decide)
theorem pr1923133 : Pr 1923133 := pr_tr 1387 (by decide) (by decide +kernel) (by decide)
theorem pr8574133 : Pr 8574133 := pr_tr 2929 (by decide) (by decide +kernel) (by decide)
theorem prS : Pr 1919519569386763 := by
  refine pr_of_pock (F := 8574133 * 127) (by decide) (by decide) fun d hd hdn => ?_
  have c : Nat.Coprime 8574133 127 := by decide +kernel
  exact c.mul_dvd_of_dvd_of_dvd (pock1 256 pr8574133 (by decide +kernel) (by decide +kernel) (by decide +kernel) (by decide +kernel) (by decide +kernel) hd hdn)
    (pock1 256 pr127 (by decide +kernel) (by decide +kernel) (by decide +kernel) (by decide +kernel) (by decide +kernel) hd hdn)
theorem prR : Pr 75445702479781427272750846543864801 := by
  refine pr_of_pock (F := 1919519569386763 * 75707) (by decide) (by decide) fun d hd hdn => ?_
  have c : Nat.Coprime 1919519569386763 75707 := by decide +kernel
  exact c.mul_dvd_of_dvd_of_dvd (pock1 256 prS (by decide +kernel) (by decide +kernel) (by decide +kernel) (by decide +kernel) (by decide +kernel) hd hdn)
    (pock1 256 pr75707 (by decide +kernel) (by decide +kernel) (by decide +kernel) (by decide +kernel) (by decide +kernel) hd hdn)
theorem prQ : Pr 74058212732561358302231226437062788676166966415465897661863160754340907 := by
  refine pr_of_pock (F := 75445702479781427272750846543864801 * 1923133) (by decide) (by decide) fun d hd hdn => ?_
  have c : Nat.Coprime 75445702479781427272750846543864801 1923133 := by decide +kernel
  exact c.mul_dvd_of_dvd_of_dvd (pock1 256 prR (by decide +kernel) (by decide +kernel) (by decide +kernel) (by decide +kernel) (by decide +kernel) hd hdn)
    (pock1 256 pr1923133 (by decide +kernel) (by decide +kernel) (by decide +kernel) (by decide +kernel) (by decide +kernel) hd hdn)
/-- 2^255 - 19. -/
def P : Nat := 57896044618658097711785492504343953926634992332820282019728792003956564819949
theorem prP : Pr P := by
  refine pr_of_pock (F := 74058212732561358302231226437062788676166966415465897661863160754340907) (by decide +kernel) (by decide +kernel) fun d hd hdn => ?_
  exact pock1 256 prQ (by decide +kernel) (by decide +kernel) (by decide +kernel) (by decide +kernel) (by decide +kernel) hd hdn

/-! ### Powers, bit by bit -/
def E : Nat := 57896044618658097711785492504343953926634992332820282019728792003956564819947
/-- What the first bits of p - 2 make of a. -/
def pw (a k : Nat) : Nat := a ^ (E / 2 ^ k) % P
theorem E_bits : ∀ j, j < 255 → E / 2 ^ j % 2 = if j = 4 ∨ j = 2 then 0 else 1 := by decide +kernel
theorem E_div (j : Nat) : E / 2 ^ j = 2 * (E / 2 ^ (j + 1)) + E / 2 ^ j % 2 := by
  have h : E / 2 ^ (j + 1) = E / 2 ^ j / 2 := by rw [Nat.pow_succ, Nat.div_div_eq_div_mul]
  omega
theorem pw_top (a : Nat) : pw a 255 = 1 := by
  have h : E / 2 ^ 255 = 0 := by decide +kernel
  unfold pw; rw [h, Nat.pow_zero]; decide +kernel
theorem pw_bot (a : Nat) : pw a 0 = a ^ E % P := by unfold pw; rw [Nat.pow_zero, Nat.div_one]
theorem pw_sq (a j : Nat) (hj : j < 255) (h : j = 4 ∨ j = 2) : pw a (j + 1) * pw a (j + 1) % P = pw a j := by
  unfold pw
  rw [E_div j, E_bits j hj, if_pos h]
  generalize E / 2 ^ (j + 1) = e
  rw [← Nat.mul_mod, Nat.add_zero, Nat.two_mul, Nat.pow_add]
theorem pw_sqm (a j : Nat) (hj : j < 255) (h : ¬ (j = 4 ∨ j = 2)) : pw a (j + 1) * pw a (j + 1) % P * a % P = pw a j := by
  unfold pw
  rw [E_div j, E_bits j hj, if_neg h]
  generalize E / 2 ^ (j + 1) = e
  rw [← Nat.mul_mod, Nat.mod_mul_mod, Nat.pow_succ, Nat.two_mul, Nat.pow_add]
theorem P_pos : 0 < P := by decide +kernel
theorem E_succ : E + 1 = P - 1 := by decide +kernel
/-- The inverse. -/
theorem inv_mul (a : Nat) (h : a % P ≠ 0) : a * (a ^ E % P) % P = 1 := by
  rw [Nat.mul_mod, Nat.mod_mod, ← Nat.mul_mod, Nat.mul_comm, ← Nat.pow_succ, show E.succ = P - 1 from E_succ]
  exact fermat prP fun hd => h (Nat.mod_eq_zero_of_dvd hd)
theorem pow_mod (a k : Nat) : (a % P) ^ k % P = a ^ k % P := (Nat.pow_mod a k P).symm
theorem inv_zero : 0 ^ E % P = 0 := by
  have : (0 : Nat) ^ E = 0 := Nat.zero_pow (by decide +kernel)
  rw [this]; decide +kernel
end Fp

/-
  Package field: sums, differences, and the inverse as a power.
-/
namespace Go.Proofs.YtddmjddlbhdcpaaGreatDoor.F
open Go.RowKit Go.Shelf Go.Hold

/-- Four words of a number below p. -/
def RedR (n : Int) (a b c d : Int) : Prop := W4 a b c d ∧ V a b c d = n % 57896044618658097711785492504343953926634992332820282019728792003956564819949

theorem add_fix {a0 a1 a2 a3 b0 b1 b2 b3 : Int} (ha : W4 a0 a1 a2 a3) (hb : W4 b0 b1 b2 b3) :
    ∃ r0 r1 r2 r3 h, W4 r0 r1 r2 r3 ∧ 0 ≤ h ∧ h ≤ 1 ∧ V r0 r1 r2 r3 + h * 115792089237316195423570985008687907853269984665640564039457584007913129639936 = V a0 a1 a2 a3 + V b0 b1 b2 b3 ∧
      Hid (∀ w, Calls Tryz.prog 170 #[nv a0 a1 a2 a3, nv b0 b1 b2 b3] w fun e w' => e = .returned (.tuple #[nv r0 r1 r2 r3, .int .u64 h]) ∧ Below w.heap.size w w') := by
  have v1 := V_bd ha
  have v2 := V_bd hb
  obtain ⟨r0, r1, r2, r3, h, hw, hv, hc⟩ := fix5 (n := V a0 a1 a2 a3 + V b0 b1 b2 b3) (fun _ _ _ _ _ hr => ⟨hr.1, hr.2.2.2⟩) (fun w => add_any a0 a1 a2 a3 b0 b1 b2 b3 ha hb w)
  have v3 := V_bd hw
  exact ⟨r0, r1, r2, r3, h, hw, by omega, by omega, hv, hc⟩
theorem subtract_fix {a0 a1 a2 a3 b0 b1 b2 b3 : Int} (ha : W4 a0 a1 a2 a3) (hb : W4 b0 b1 b2 b3) (hle : V b0 b1 b2 b3 ≤ V a0 a1 a2 a3) :
    ∃ r0 r1 r2 r3, W4 r0 r1 r2 r3 ∧ V r0 r1 r2 r3 = V a0 a1 a2 a3 - V b0 b1 b2 b3 ∧
      Hid (∀ w, Calls Tryz.prog 171 #[nv a0 a1 a2 a3, nv b0 b1 b2 b3] w fun e w' => e = .returned (nv r0 r1 r2 r3) ∧ Below w.heap.size w w') := by
  have v1 := V_bd ha
  have v2 := V_bd hb
  exact fix4 (by omega) (by omega) (fun _ _ _ _ hr => ⟨hr.1, hr.2 hle⟩) (fun w => subtract_any a0 a1 a2 a3 b0 b1 b2 b3 ha hb w)
theorem red_fix {n : Int} {f : FuncId} {args : Array Value} (h : ∀ w, Calls Tryz.prog f args w (Ret4 (RedR n) w)) :
    ∃ r0 r1 r2 r3, W4 r0 r1 r2 r3 ∧ V r0 r1 r2 r3 = n % 57896044618658097711785492504343953926634992332820282019728792003956564819949 ∧
      Hid (∀ w, Calls Tryz.prog f args w fun e w' => e = .returned (nv r0 r1 r2 r3) ∧ Below w.heap.size w w') :=
  fix4 (by omega) (by omega) (fun _ _ _ _ hr => hr) h

set_option maxHeartbeats 1000000 in
theorem sum_any (a0 a1 a2 a3 b0 b1 b2 b3 : Int) (ha : W4 a0 a1 a2 a3) (hb : W4 b0 b1 b2 b3) (w : World) :
    Calls Tryz.prog 149 #[nv a0 a1 a2 a3, nv b0 b1 b2 b3] w (Ret4 (RedR (V a0 a1 a2 a3 + V b0 b1 b2 b3)) w) := by
  obtain ⟨r0, r1, r2, r3, h, R0, h0, h1, R1, RC⟩ := add_fix ha hb
  obtain ⟨g0, g1, g2, g3, G0, G1, GC⟩ := settle_fix R0 h0 (by omega)
  rw [R1] at G1
  have HG := Lib.hid G1
  clear R1 G1 ha hb R0 h0 h1
  go_enter Tryz.func149, Tryz.ntmps149
  go_wp2_with fail
  refine (RC.out _).mono ?_
  rintro e w' ⟨rfl, hb⟩
  obtain ⟨o1, n1, rfl⟩ := below_plus hb
  clear hb
  go_wp2_with fail
  refine (GC.out _).mono ?_
  rintro e w' ⟨rfl, hb⟩
  obtain ⟨o2, n2, rfl⟩ := below_plus hb
  clear hb
  go_wp2_with fail
  refine bodyPost_ret (v := nv g0 g1 g2 g3) (by simp [results, Tryz.results149, go_sem]) rfl ⟨g0, g1, g2, g3, ⟨G0, HG.out⟩, rfl, ?_⟩
  repeat (first | apply below_more | apply below_alloc | exact Below.refl _ _)

theorem w4_p : W4 18446744073709551597 18446744073709551615 18446744073709551615 9223372036854775807 := by unfold W4 Word; omega
theorem V_p : V 18446744073709551597 18446744073709551615 18446744073709551615 9223372036854775807 = 57896044618658097711785492504343953926634992332820282019728792003956564819949 := by unfold V; omega

set_option maxHeartbeats 1000000 in
theorem difference_any (a0 a1 a2 a3 b0 b1 b2 b3 : Int) (ha : W4 a0 a1 a2 a3) (hb : W4 b0 b1 b2 b3) (hp : V b0 b1 b2 b3 ≤ 57896044618658097711785492504343953926634992332820282019728792003956564819949) (w : World) :
    Calls Tryz.prog 150 #[nv a0 a1 a2 a3, nv b0 b1 b2 b3] w (Ret4 (RedR (V a0 a1 a2 a3 - V b0 b1 b2 b3)) w) := by
  obtain ⟨s0, s1, s2, s3, S0, S1, SC⟩ := subtract_fix w4_p hb (by rw [V_p]; exact hp)
  obtain ⟨r0, r1, r2, r3, h, R0, h0, h1, R1, RC⟩ := add_fix ha S0
  obtain ⟨g0, g1, g2, g3, G0, G1, GC⟩ := settle_fix R0 h0 (by omega)
  rw [R1, S1, V_p] at G1
  have e : V a0 a1 a2 a3 + (57896044618658097711785492504343953926634992332820282019728792003956564819949 - V b0 b1 b2 b3) = (V a0 a1 a2 a3 - V b0 b1 b2 b3) + 57896044618658097711785492504343953926634992332820282019728792003956564819949 := by omega
  rw [e, Int.add_emod_right] at G1
  have HG := Lib.hid G1
  clear e R1 G1 ha hb R0 h0 h1 S0 S1 hp
  go_enter Tryz.func150, Tryz.ntmps150
  go_wp2_with fail
  generalize hW : World.alloc _ _ = W1
  refine wp_region_parts (fun w' => ∃ o d, w' = W1.plus o d) 8 0 (by kernel_rfl) (by kernel_rfl) (by intro c a d v w h; cases d <;> exact h) ⟨#[], _, rfl⟩ ?_
  subst hW
  simp only [List.take_succ_cons, List.take_zero, List.drop_succ_cons, List.drop_zero]
  refine wpHold_step ⟨_, #[], 0, rfl⟩ (by rintro K _ ⟨o, d, rfl⟩ hK; go_simp; exact hK _ ⟨o, d, rfl⟩) ?_
  refine wpHold_call (v := nv 18446744073709551597 18446744073709551615 18446744073709551615 9223372036854775807) (by go_simp) (by rintro K _ ⟨o, d, rfl⟩ hK; go_simp; refine (prime_any _).mono ?_; rintro e w' ⟨rfl, hb⟩; obtain ⟨o', n', rfl⟩ := below_plus hb; exact ⟨_, rfl, hK _ ⟨_, _, World.plus_plus _ _ _ _ _⟩⟩) ?_
  refine wpHold_step ⟨_, #[], 0, rfl⟩ (by rintro K _ ⟨o, d, rfl⟩ hK; go_simp; exact hK _ ⟨o, d, rfl⟩) ?_
  refine wpHold_call (v := nv s0 s1 s2 s3) (by go_simp) (by rintro K _ ⟨o, d, rfl⟩ hK; go_simp; refine (SC.out _).mono ?_; rintro e w' ⟨rfl, hb⟩; obtain ⟨o', n', rfl⟩ := below_plus hb; exact ⟨_, rfl, hK _ ⟨_, _, World.plus_plus _ _ _ _ _⟩⟩) ?_
  refine wpHold_call (v := .tuple #[nv r0 r1 r2 r3, .int .u64 h]) (by go_simp) (by rintro K _ ⟨o, d, rfl⟩ hK; go_simp; refine (RC.out _).mono ?_; rintro e w' ⟨rfl, hb⟩; obtain ⟨o', n', rfl⟩ := below_plus hb; exact ⟨_, rfl, hK _ ⟨_, _, World.plus_plus _ _ _ _ _⟩⟩) ?_
  iterate 2 (refine wpHold_step ⟨_, #[], 0, rfl⟩ (by rintro K _ ⟨o, d, rfl⟩ hK; go_simp; exact hK _ ⟨o, d, rfl⟩) ?_)
  refine wpHold_call (v := nv g0 g1 g2 g3) (by go_simp) (by rintro K _ ⟨o, d, rfl⟩ hK; go_simp; refine (GC.out _).mono ?_; rintro e w' ⟨rfl, hb⟩; obtain ⟨o', n', rfl⟩ := below_plus hb; exact ⟨_, rfl, hK _ ⟨_, _, World.plus_plus _ _ _ _ _⟩⟩) ?_
  refine wpHold_nil ?_
  rintro _ ⟨o2, n2, rfl⟩
  refine wpFree_nil ?_
  go_wp2_with fail
  refine bodyPost_ret (v := nv g0 g1 g2 g3) (by simp [results, Tryz.results150, go_sem]) rfl ⟨g0, g1, g2, g3, ⟨G0, HG.out⟩, rfl, ?_⟩
  repeat (first | apply below_more | apply below_alloc | exact Below.refl _ _)

/-- A number that is kept in four words: n below 2^256. -/
def IsN (n : Nat) (a b c d : Int) : Prop := W4 a b c d ∧ V a b c d = n
theorem pint : (57896044618658097711785492504343953926634992332820282019728792003956564819949 : Int) = ((Fp.P : Nat) : Int) := rfl
theorem red_isN {n : Nat} {a b c d : Int} (h : RedR n a b c d) : IsN (n % Fp.P) a b c d := ⟨h.1, by rw [h.2, pint]; exact (Int.natCast_emod n Fp.P).symm⟩
theorem product_N {m n : Nat} {a0 a1 a2 a3 b0 b1 b2 b3 : Int} (ha : IsN m a0 a1 a2 a3) (hb : IsN n b0 b1 b2 b3) :
    ∃ r0 r1 r2 r3, IsN (m * n % Fp.P) r0 r1 r2 r3 ∧ Hid (∀ w, Calls Tryz.prog 125 #[nv a0 a1 a2 a3, nv b0 b1 b2 b3] w fun e w' => e = .returned (nv r0 r1 r2 r3) ∧ Below w.heap.size w w') := by
  obtain ⟨r0, r1, r2, r3, h0, h1, hC⟩ := red_fix (n := V a0 a1 a2 a3 * V b0 b1 b2 b3) (fun w => product_any a0 a1 a2 a3 b0 b1 b2 b3 ha.1 hb.1 w)
  refine ⟨r0, r1, r2, r3, red_isN ⟨h0, ?_⟩, hC⟩
  rw [h1, ha.2, hb.2, Int.natCast_mul]

/-- What the loop of 'inverse' keeps: the bits from k on are done. -/
def InvR (A : Nat) (a0 a1 a2 a3 : Int) (w : World) (bit : Value) (w' : World) : Prop :=
  ∃ (k : Nat) (r0 r1 r2 r3 : Int) (o : Array Obj) (d : Nat), k ≤ 255 ∧ bit = .int .i64 ((k : Int) - 1) ∧ IsN (Fp.pw A k) r0 r1 r2 r3 ∧
    w' = (((w.alloc (.cells #[.int .u64 a0, .int .u64 a1, .int .u64 a2, .int .u64 a3] 184)).alloc (.cells #[.int .u64 0, .int .u64 0, .int .u64 0, .int .u64 0] 184)).alloc (.cells #[.int .u64 r0, .int .u64 r1, .int .u64 r2, .int .u64 r3] 184)).plus o d

set_option maxHeartbeats 1000000 in
theorem inverse_any (A : Nat) (a0 a1 a2 a3 : Int) (ha : IsN A a0 a1 a2 a3) (w : World) :
    Calls Tryz.prog 127 #[nv a0 a1 a2 a3] w (Ret4 (IsN (A ^ Fp.E % Fp.P)) w) := by
  go_enter Tryz.func127, Tryz.ntmps127
  go_wp2_with fail
  go_loopw [4] (fun bit w' => InvR A a0 a1 a2 a3 w bit w') (fun bit _ => (intOf bit + 1).toNat)
  case atStart => exact ⟨255, 1, 0, 0, 0, #[], _, by decide, rfl, ⟨⟨⟨by decide, by decide⟩, word0, word0, word0⟩, by rw [Fp.pw_top]; rfl⟩, rfl⟩
  case round =>
    obtain ⟨k, r0, r1, r2, r3, o, d, hk, rfl, hR, rfl⟩ := hrel
    rcases Nat.eq_zero_or_pos k with rfl | hpos
    · rw [Fp.pw_bot] at hR
      go_wp2_with fail
      refine bodyPost_ret (v := nv r0 r1 r2 r3) (by simp [results, Tryz.results127, go_sem]) rfl ⟨r0, r1, r2, r3, hR, rfl, ?_⟩
      repeat (first | apply below_more | apply below_alloc | exact Below.refl _ _)
    · obtain ⟨j, rfl⟩ : ∃ j, k = j + 1 := ⟨k - 1, by omega⟩
      rw [show (((j + 1 : Nat) : Int) - 1) = (j : Int) by omega]
      obtain ⟨s0, s1, s2, s3, S0, SC⟩ := product_N hR hR
      obtain ⟨t0, t1, t2, t3, T0, TC⟩ := product_N S0 ha
      have hj0 : (0 : Int) ≤ j := by omega
      have hj1 : (j : Int) ≤ 254 := by omega
      by_cases h4 : j = 4 ∨ j = 2
      · rw [Fp.pw_sq A j (by omega) h4] at S0
        have HS := Lib.hid S0
        clear S0 T0 TC hR
        rcases h4 with rfl | rfl
        · go_wp2_with (go_at_call 125; refine (SC.out _).mono ?_; rintro e w' ⟨rfl, hb⟩; obtain ⟨o1, n1, rfl⟩ := below_plus hb; clear hb)
          go_roundw
          case rel => exact ⟨4, s0, s1, s2, s3, _, _, by decide, by go_num, HS.out, rfl⟩
          case measure => simp [intOf]
        · go_wp2_with (go_at_call 125; refine (SC.out _).mono ?_; rintro e w' ⟨rfl, hb⟩; obtain ⟨o1, n1, rfl⟩ := below_plus hb; clear hb)
          go_roundw
          case rel => exact ⟨2, s0, s1, s2, s3, _, _, by decide, by go_num, HS.out, rfl⟩
          case measure => simp [intOf]
      · rw [Fp.pw_sqm A j (by omega) h4] at T0
        have HT := Lib.hid T0
        have e4 : ((j : Int) != 4) = true := by rw [bne_iff_ne]; omega
        have e2 : ((j : Int) != 2) = true := by rw [bne_iff_ne]; omega
        clear S0 T0 hR
        go_wp2_with fail
        refine (SC.out _).mono ?_
        rintro e w' ⟨rfl, hb⟩
        obtain ⟨o1, n1, rfl⟩ := below_plus hb
        clear hb
        go_wp2_with fail
        refine (TC.out _).mono ?_
        rintro e w' ⟨rfl, hb⟩
        obtain ⟨o2, n2, rfl⟩ := below_plus hb
        clear hb
        go_wp2_with fail
        go_roundw
        case rel => exact ⟨j, t0, t1, t2, t3, _, _, by omega, by go_num, HT.out, rfl⟩
        case measure => simp [intOf]
end Go.Proofs.YtddmjddlbhdcpaaGreatDoor.F

/-
  Package field: numbers and their bytes.
-/
namespace Go.Proofs.YtddmjddlbhdcpaaGreatDoor.F
open Go.RowKit Go.Shelf Go.Hold

/-- A byte. -/
def Byte (x : Int) : Prop := 0 ≤ x ∧ x < 256
/-- Bits that lie apart: 'or' is the sum. -/
theorem or_apart (a b : Int) (k K : Nat) (hK : K = 2 ^ k) (ha : 0 ≤ a) (ha' : a < K) (hb : 0 ≤ b) (hs : b * K < 18446744073709551616) (hk : K < 18446744073709551616) : bits .or .u64 a (b * K) = a + b * K := by
  obtain ⟨n, rfl⟩ := Int.eq_ofNat_of_zero_le ha
  obtain ⟨m, rfl⟩ := Int.eq_ofNat_of_zero_le hb
  have hn : n < K := by omega
  have hm : m * K < 18446744073709551616 := by rw [← Int.natCast_mul] at hs; omega
  have h := bits_or_u64_nat n (m * K) (by omega) hm
  have e : n ||| m * K = n + m * K := by
    subst hK
    rw [Nat.or_comm, Nat.mul_comm m, ← Nat.two_pow_add_eq_or_of_lt hn, Nat.add_comm]
  rw [e] at h
  rw [← Int.natCast_mul, h]; omega
theorem u64_byte (x : Int) (h : Byte x) : IntKind.u64.wrap x = x := IntWalk.u64_in x ⟨h.1, by have := h.2; omega⟩
set_option maxHeartbeats 2000000 in
set_option maxRecDepth 100000 in
theorem load_any (b off cap : Nat) (x0 x1 x2 x3 x4 x5 x6 x7 : Int) (g0 : Byte x0) (g1 : Byte x1) (g2 : Byte x2) (g3 : Byte x3) (g4 : Byte x4) (g5 : Byte x5) (g6 : Byte x6) (g7 : Byte x7) (w : World)
    (c0 : w.cell? ⟨b, off, none⟩ = some (.int .u8 x0)) (c1 : w.cell? ⟨b, off + 1, none⟩ = some (.int .u8 x1)) (c2 : w.cell? ⟨b, off + 2, none⟩ = some (.int .u8 x2)) (c3 : w.cell? ⟨b, off + 3, none⟩ = some (.int .u8 x3))
    (c4 : w.cell? ⟨b, off + 4, none⟩ = some (.int .u8 x4)) (c5 : w.cell? ⟨b, off + 5, none⟩ = some (.int .u8 x5)) (c6 : w.cell? ⟨b, off + 6, none⟩ = some (.int .u8 x6)) (c7 : w.cell? ⟨b, off + 7, none⟩ = some (.int .u8 x7)) :
    Calls Tryz.prog 155 #[.slice (some ⟨b, off, none⟩) 8 cap] w fun e w' => e = .returned (.int .u64 (x0 + x1 * 256 + x2 * 65536 + x3 * 16777216 + x4 * 4294967296 + x5 * 1099511627776 + x6 * 281474976710656 + x7 * 72057594037927936)) ∧ Below w.heap.size w w' := by
  have k0 := u64_byte x0 g0
  have k1 := u64_byte x1 g1
  have k2 := u64_byte x2 g2
  have k3 := u64_byte x3 g3
  have k4 := u64_byte x4 g4
  have k5 := u64_byte x5 g5
  have k6 := u64_byte x6 g6
  have k7 := u64_byte x7 g7
  obtain ⟨g0a, g0b⟩ := g0
  obtain ⟨g1a, g1b⟩ := g1
  obtain ⟨g2a, g2b⟩ := g2
  obtain ⟨g3a, g3b⟩ := g3
  obtain ⟨g4a, g4b⟩ := g4
  obtain ⟨g5a, g5b⟩ := g5
  obtain ⟨g6a, g6b⟩ := g6
  obtain ⟨g7a, g7b⟩ := g7
  obtain ⟨y0, hy0⟩ : ∃ y, y = x0 := ⟨_, rfl⟩
  obtain ⟨z1, hz1⟩ : ∃ z, z = x1 * 256 := ⟨_, rfl⟩
  have s1 : IntKind.u64.wrap (x1 * 256) = z1 := by rw [hz1]; exact IntWalk.u64_in _ (by omega)
  obtain ⟨y1, hy1⟩ : ∃ y, y = x0 + z1 := ⟨_, rfl⟩
  have o1 : bits .or .u64 x0 z1 = y1 := by rw [hy1, hz1]; exact or_apart x0 x1 8 256 (by decide) (by omega) (by omega) (by omega) (by omega) (by decide)
  obtain ⟨z2, hz2⟩ : ∃ z, z = x2 * 65536 := ⟨_, rfl⟩
  have s2 : IntKind.u64.wrap (x2 * 65536) = z2 := by rw [hz2]; exact IntWalk.u64_in _ (by omega)
  obtain ⟨y2, hy2⟩ : ∃ y, y = y1 + z2 := ⟨_, rfl⟩
  have o2 : bits .or .u64 y1 z2 = y2 := by rw [hy2, hz2]; exact or_apart y1 x2 16 65536 (by decide) (by omega) (by omega) (by omega) (by omega) (by decide)
  obtain ⟨z3, hz3⟩ : ∃ z, z = x3 * 16777216 := ⟨_, rfl⟩
  have s3 : IntKind.u64.wrap (x3 * 16777216) = z3 := by rw [hz3]; exact IntWalk.u64_in _ (by omega)
  obtain ⟨y3, hy3⟩ : ∃ y, y = y2 + z3 := ⟨_, rfl⟩
  have o3 : bits .or .u64 y2 z3 = y3 := by rw [hy3, hz3]; exact or_apart y2 x3 24 16777216 (by decide) (by omega) (by omega) (by omega) (by omega) (by decide)
  obtain ⟨z4, hz4⟩ : ∃ z, z = x4 * 4294967296 := ⟨_, rfl⟩
  have s4 : IntKind.u64.wrap (x4 * 4294967296) = z4 := by rw [hz4]; exact IntWalk.u64_in _ (by omega)
  obtain ⟨y4, hy4⟩ : ∃ y, y = y3 + z4 := ⟨_, rfl⟩
  have o4 : bits .or .u64 y3 z4 = y4 := by rw [hy4, hz4]; exact or_apart y3 x4 32 4294967296 (by decide) (by omega) (by omega) (by omega) (by omega) (by decide)
  obtain ⟨z5, hz5⟩ : ∃ z, z = x5 * 1099511627776 := ⟨_, rfl⟩
  have s5 : IntKind.u64.wrap (x5 * 1099511627776) = z5 := by rw [hz5]; exact IntWalk.u64_in _ (by omega)
  obtain ⟨y5, hy5⟩ : ∃ y, y = y4 + z5 := ⟨_, rfl⟩
  have o5 : bits .or .u64 y4 z5 = y5 := by rw [hy5, hz5]; exact or_apart y4 x5 40 1099511627776 (by decide) (by omega) (by omega) (by omega) (by omega) (by decide)
  obtain ⟨z6, hz6⟩ : ∃ z, z = x6 * 281474976710656 := ⟨_, rfl⟩
  have s6 : IntKind.u64.wrap (x6 * 281474976710656) = z6 := by rw [hz6]; exact IntWalk.u64_in _ (by omega)
  obtain ⟨y6, hy6⟩ : ∃ y, y = y5 + z6 := ⟨_, rfl⟩
  have o6 : bits .or .u64 y5 z6 = y6 := by rw [hy6, hz6]; exact or_apart y5 x6 48 281474976710656 (by decide) (by omega) (by omega) (by omega) (by omega) (by decide)
  obtain ⟨z7, hz7⟩ : ∃ z, z = x7 * 72057594037927936 := ⟨_, rfl⟩
  have s7 : IntKind.u64.wrap (x7 * 72057594037927936) = z7 := by rw [hz7]; exact IntWalk.u64_in _ (by omega)
  obtain ⟨y7, hy7⟩ : ∃ y, y = y6 + z7 := ⟨_, rfl⟩
  have o7 : bits .or .u64 y6 z7 = y7 := by rw [hy7, hz7]; exact or_apart y6 x7 56 72057594037927936 (by decide) (by omega) (by omega) (by omega) (by omega) (by decide)
  have Hy : Hid (y7 = x0 + x1 * 256 + x2 * 65536 + x3 * 16777216 + x4 * 4294967296 + x5 * 1099511627776 + x6 * 281474976710656 + x7 * 72057594037927936) := by show _ = _; omega
  clear hz1 hy1 hz2 hy2 hz3 hy3 hz4 hy4 hz5 hy5 hz6 hy6 hz7 hy7 hy0 g0a g0b g1a g1b g2a g2b g3a g3b g4a g4b g5a g5b g6a g6b g7a g7b
  go_enter Tryz.func155, Tryz.ntmps155
  go_wp2_with fail
  refine wp_region_hold_all (fun w' => w' = w.drew) (by kernel_rfl) (by kernel_rfl) rfl ?_
  iterate 47 (refine wpHold_step ⟨_, rfl⟩ (by rintro K _ rfl hK; go_simp; exact hK _ rfl) ?_)
  refine wpHold_nil ?_
  rintro _ rfl
  go_wp2_with fail
  go_ret
  exact ⟨congrArg (fun y => Ending.returned (.int .u64 y)) Hy.out, (Below.refl _ _).drew⟩

/-- The i-th byte of a number. -/
def by8 (x : Int) (i : Nat) : Int := x / 256 ^ i % 256
set_option maxHeartbeats 2000000 in
set_option maxRecDepth 100000 in
theorem store_any (b off cap : Nat) (x : Int) (u0 u1 u2 u3 u4 u5 u6 u7 : Value) (w : World)
    (c0 : w.cell? ⟨b, off, none⟩ = some u0) (f0 : w.frozen? ⟨b, off, none⟩ = false)
    (c1 : w.cell? ⟨b, off + 1, none⟩ = some u1) (f1 : w.frozen? ⟨b, off + 1, none⟩ = false)
    (c2 : w.cell? ⟨b, off + 2, none⟩ = some u2) (f2 : w.frozen? ⟨b, off + 2, none⟩ = false)
    (c3 : w.cell? ⟨b, off + 3, none⟩ = some u3) (f3 : w.frozen? ⟨b, off + 3, none⟩ = false)
    (c4 : w.cell? ⟨b, off + 4, none⟩ = some u4) (f4 : w.frozen? ⟨b, off + 4, none⟩ = false)
    (c5 : w.cell? ⟨b, off + 5, none⟩ = some u5) (f5 : w.frozen? ⟨b, off + 5, none⟩ = false)
    (c6 : w.cell? ⟨b, off + 6, none⟩ = some u6) (f6 : w.frozen? ⟨b, off + 6, none⟩ = false)
    (c7 : w.cell? ⟨b, off + 7, none⟩ = some u7) (f7 : w.frozen? ⟨b, off + 7, none⟩ = false) :
    Calls Tryz.prog 151 #[.slice (some ⟨b, off, none⟩) 8 cap, .int .u64 x] w fun e w' => e = .returned (.tuple #[]) ∧ ((((((((w.setCell ⟨b, off, none⟩ (.int .u8 (by8 x 0))).setCell ⟨b, off + 1, none⟩ (.int .u8 (by8 x 1))).setCell ⟨b, off + 2, none⟩ (.int .u8 (by8 x 2))).setCell ⟨b, off + 3, none⟩ (.int .u8 (by8 x 3))).setCell ⟨b, off + 4, none⟩ (.int .u8 (by8 x 4))).setCell ⟨b, off + 5, none⟩ (.int .u8 (by8 x 5))).setCell ⟨b, off + 6, none⟩ (.int .u8 (by8 x 6))).setCell ⟨b, off + 7, none⟩ (.int .u8 (by8 x 7))) = w' := by
  have e0 : IntKind.u8.wrap x = by8 x 0 := by rw [IntKind.wrap_u8]; unfold by8; omega
  have e1 : IntKind.u8.wrap (x / 256) = by8 x 1 := by rw [IntKind.wrap_u8]; unfold by8; omega
  have e2 : IntKind.u8.wrap (x / 65536) = by8 x 2 := by rw [IntKind.wrap_u8]; unfold by8; omega
  have e3 : IntKind.u8.wrap (x / 16777216) = by8 x 3 := by rw [IntKind.wrap_u8]; unfold by8; omega
  have e4 : IntKind.u8.wrap (x / 4294967296) = by8 x 4 := by rw [IntKind.wrap_u8]; unfold by8; omega
  have e5 : IntKind.u8.wrap (x / 1099511627776) = by8 x 5 := by rw [IntKind.wrap_u8]; unfold by8; omega
  have e6 : IntKind.u8.wrap (x / 281474976710656) = by8 x 6 := by rw [IntKind.wrap_u8]; unfold by8; omega
  have e7 : IntKind.u8.wrap (x / 72057594037927936) = by8 x 7 := by rw [IntKind.wrap_u8]; unfold by8; omega
  go_enter Tryz.func151, Tryz.ntmps151
  go_wp2
  go_end0
  exact ⟨rfl, rfl⟩
end Go.Proofs.YtddmjddlbhdcpaaGreatDoor.F

/-
  Package field: keys as numbers, and numbers as keys.
-/
namespace Go.Proofs.YtddmjddlbhdcpaaGreatDoor.F
open Go.RowKit Go.Shelf Go.Hold

/-- The i-th byte of a key's number. -/
def bt (n i : Nat) : Int := ((n / 256 ^ i % 256 : Nat) : Int)
/-- A key, as the cells of its number. -/
def keyA (n : Nat) : Array Value := #[.int .u8 (bt n 0), .int .u8 (bt n 1), .int .u8 (bt n 2), .int .u8 (bt n 3), .int .u8 (bt n 4), .int .u8 (bt n 5), .int .u8 (bt n 6), .int .u8 (bt n 7), .int .u8 (bt n 8), .int .u8 (bt n 9), .int .u8 (bt n 10), .int .u8 (bt n 11), .int .u8 (bt n 12), .int .u8 (bt n 13), .int .u8 (bt n 14), .int .u8 (bt n 15), .int .u8 (bt n 16), .int .u8 (bt n 17), .int .u8 (bt n 18), .int .u8 (bt n 19), .int .u8 (bt n 20), .int .u8 (bt n 21), .int .u8 (bt n 22), .int .u8 (bt n 23), .int .u8 (bt n 24), .int .u8 (bt n 25), .int .u8 (bt n 26), .int .u8 (bt n 27), .int .u8 (bt n 28), .int .u8 (bt n 29), .int .u8 (bt n 30), .int .u8 (bt n 31)]
/-- A key. -/
abbrev kv (n : Nat) : Value := .agg (keyA n)
@[go_sem] theorem keyA_size (n : Nat) : (keyA n).size = 32 := by simp [keyA]
@[go_sem] theorem keyA_one (n : Nat) : oneAll (keyA n) = true := by simp [oneAll, keyA, Value.oneCell']
@[go_sem ↓] theorem loadAt_key (v : Value) : Instr.loadAt 23 v = loadRow 23 v := rfl
@[go_sem] theorem run_loadKey (w : World) (n : Nat) (h1 : w.isRow n = true) (h2 : (w.rowOf n).size = 32) : (loadRow 23 (.pointer (some ⟨n, 0, none⟩))).run Tryz.prog w = .ok (.agg (w.rowOf n)) w := run_loadRow w Tryz.underlying23 rfl (by kernel_rfl) n h1 h2
theorem results_key {fn : Func} {p : Tmp} {m : Nat} (h : fn.results = #[.cell p 23]) (w : World) (tmps : Array Value) (n : Nat) (hp : tmps.getD p undef = .pointer (some ⟨n, 0, none⟩)) (h1 : w.isRow n = true) (h2 : w.rowOf n = keyA m) : (results fn tmps).run Tryz.prog w = .ok (kv m) w :=
  results_row w h Tryz.underlying23 rfl (by rw [keyA_size]; kernel_rfl) tmps n hp h1 h2
theorem keyA_get (n i : Nat) (h : i < 32) : (keyA n)[i]? = some (.int .u8 (bt n i)) := by
  have : i = 0 ∨ i = 1 ∨ i = 2 ∨ i = 3 ∨ i = 4 ∨ i = 5 ∨ i = 6 ∨ i = 7 ∨ i = 8 ∨ i = 9 ∨ i = 10 ∨ i = 11 ∨ i = 12 ∨ i = 13 ∨ i = 14 ∨ i = 15 ∨ i = 16 ∨ i = 17 ∨ i = 18 ∨ i = 19 ∨ i = 20 ∨ i = 21 ∨ i = 22 ∨ i = 23 ∨ i = 24 ∨ i = 25 ∨ i = 26 ∨ i = 27 ∨ i = 28 ∨ i = 29 ∨ i = 30 ∨ i = 31 := by omega
  rcases this with rfl | rfl | rfl | rfl | rfl | rfl | rfl | rfl | rfl | rfl | rfl | rfl | rfl | rfl | rfl | rfl | rfl | rfl | rfl | rfl | rfl | rfl | rfl | rfl | rfl | rfl | rfl | rfl | rfl | rfl | rfl | rfl <;> rfl
theorem bt_byte (n i : Nat) : Byte (bt n i) := by unfold Byte bt; omega

/-- The k-th word of a number. -/
def wd (n k : Nat) : Int := ((n / 18446744073709551616 ^ k % 18446744073709551616 : Nat) : Int)
theorem wd_V (n : Nat) (h : n < 115792089237316195423570985008687907853269984665640564039457584007913129639936) : IsN n (wd n 0) (wd n 1) (wd n 2) (wd n 3) := by
  unfold IsN W4 Word V wd
  simp only [Nat.reducePow]
  omega
theorem sum_bt0 (n : Nat) : bt n 0 + bt n 1 * 256 + bt n 2 * 65536 + bt n 3 * 16777216 + bt n 4 * 4294967296 + bt n 5 * 1099511627776 + bt n 6 * 281474976710656 + bt n 7 * 72057594037927936 = wd n 0 := by
  unfold bt wd
  simp only [Nat.reducePow]
  omega
theorem sum_bt1 (n : Nat) : bt n 8 + bt n 9 * 256 + bt n 10 * 65536 + bt n 11 * 16777216 + bt n 12 * 4294967296 + bt n 13 * 1099511627776 + bt n 14 * 281474976710656 + bt n 15 * 72057594037927936 = wd n 1 := by
  unfold bt wd
  simp only [Nat.reducePow]
  omega
theorem sum_bt2 (n : Nat) : bt n 16 + bt n 17 * 256 + bt n 18 * 65536 + bt n 19 * 16777216 + bt n 20 * 4294967296 + bt n 21 * 1099511627776 + bt n 22 * 281474976710656 + bt n 23 * 72057594037927936 = wd n 2 := by
  unfold bt wd
  simp only [Nat.reducePow]
  omega
theorem sum_bt3 (n : Nat) : bt n 24 + bt n 25 * 256 + bt n 26 * 65536 + bt n 27 * 16777216 + bt n 28 * 4294967296 + bt n 29 * 1099511627776 + bt n 30 * 281474976710656 + bt n 31 * 72057594037927936 = wd n 3 := by
  unfold bt wd
  simp only [Nat.reducePow]
  omega


theorem cell_key (w : World) (C : Array Value) (t : TypeId) (ob : Obj) (o : Array Obj) (d i : Nat) : (((w.alloc (.cells C t)).alloc ob).plus o d).cell? ⟨w.heap.size, i, none⟩ = C[i]? := by
  rw [World.cell?_plus _ _ _ _ _ (by simp; omega), World.cell?_alloc_past _ _ _ (by simp), World.cell?_alloc_at _ _ _ _ rfl]
set_option maxHeartbeats 1000000 in
set_option maxRecDepth 100000 in
theorem numberOf_N (n : Nat) (hn : n < 115792089237316195423570985008687907853269984665640564039457584007913129639936) :
    ∃ r0 r1 r2 r3, IsN (n % Fp.P) r0 r1 r2 r3 ∧ Hid (∀ w, Calls Tryz.prog 126 #[kv n] w fun e w' => e = .returned (nv r0 r1 r2 r3) ∧ Below w.heap.size w w') := by
  have hw := wd_V n hn
  obtain ⟨g0, g1, g2, g3, G0, G1, GC⟩ := settle_fix (h := 0) hw.1 (by decide) (by decide)
  refine ⟨g0, g1, g2, g3, red_isN ⟨G0, by rw [G1, hw.2, Int.zero_mul, Int.add_zero]⟩, fun w => ?_⟩
  clear G0 G1 hw hn
  have hcell : ∀ (d : Nat) (o : Array Obj) (i : Nat), i < 32 → (((w.alloc (.cells (keyA n) 23)).alloc (.cells #[.int .u64 0, .int .u64 0, .int .u64 0, .int .u64 0] 184)).plus o d).cell? ⟨w.heap.size, i, none⟩ = some (.int .u8 (bt n i)) :=
    fun d o i hi => by rw [cell_key, keyA_get n i hi]
  have Hcell := Lib.hid hcell
  clear hcell
  go_enter Tryz.func126, Tryz.ntmps126
  go_wp2_with fail
  generalize hW : World.alloc _ _ = W1
  refine wp_region_parts (fun w' => ∃ o d, w' = W1.plus o d) 10 0 (by kernel_rfl) (by kernel_rfl) (by intro c a d v w h; cases d <;> exact h) ⟨#[], _, rfl⟩ ?_
  subst hW
  simp only [List.take_succ_cons, List.take_zero, List.drop_succ_cons, List.drop_zero]
  refine wpHold_step ⟨_, #[], 0, rfl⟩ (by rintro K _ ⟨o, d, rfl⟩ hK; go_simp; exact hK _ ⟨o, d, rfl⟩) ?_
  refine wpHold_call (v := .int .u64 (wd n 0)) (by go_simp) (by
    rintro K _ ⟨o, d, rfl⟩ hK
    go_simp
    refine (load_any w.heap.size 0 _ (bt n 0) (bt n 1) (bt n 2) (bt n 3) (bt n 4) (bt n 5) (bt n 6) (bt n 7) (bt_byte n 0) (bt_byte n 1) (bt_byte n 2) (bt_byte n 3) (bt_byte n 4) (bt_byte n 5) (bt_byte n 6) (bt_byte n 7) _ (Hcell.out d o 0 (by decide)) (Hcell.out d o 1 (by decide)) (Hcell.out d o 2 (by decide)) (Hcell.out d o 3 (by decide)) (Hcell.out d o 4 (by decide)) (Hcell.out d o 5 (by decide)) (Hcell.out d o 6 (by decide)) (Hcell.out d o 7 (by decide))).mono ?_
    rintro e w' ⟨rfl, hb⟩
    rw [sum_bt0]
    obtain ⟨o', n', rfl⟩ := below_plus hb
    exact ⟨_, rfl, hK _ ⟨_, _, World.plus_plus _ _ _ _ _⟩⟩) ?_
  refine wpHold_step ⟨_, #[], 0, rfl⟩ (by rintro K _ ⟨o, d, rfl⟩ hK; go_simp; exact hK _ ⟨o, d, rfl⟩) ?_
  refine wpHold_call (v := .int .u64 (wd n 1)) (by go_simp) (by
    rintro K _ ⟨o, d, rfl⟩ hK
    go_simp
    refine (load_any w.heap.size 8 _ (bt n 8) (bt n 9) (bt n 10) (bt n 11) (bt n 12) (bt n 13) (bt n 14) (bt n 15) (bt_byte n 8) (bt_byte n 9) (bt_byte n 10) (bt_byte n 11) (bt_byte n 12) (bt_byte n 13) (bt_byte n 14) (bt_byte n 15) _ (Hcell.out d o 8 (by decide)) (Hcell.out d o 9 (by decide)) (Hcell.out d o 10 (by decide)) (Hcell.out d o 11 (by decide)) (Hcell.out d o 12 (by decide)) (Hcell.out d o 13 (by decide)) (Hcell.out d o 14 (by decide)) (Hcell.out d o 15 (by decide))).mono ?_
    rintro e w' ⟨rfl, hb⟩
    rw [sum_bt1]
    obtain ⟨o', n', rfl⟩ := below_plus hb
    exact ⟨_, rfl, hK _ ⟨_, _, World.plus_plus _ _ _ _ _⟩⟩) ?_
  refine wpHold_step ⟨_, #[], 0, rfl⟩ (by rintro K _ ⟨o, d, rfl⟩ hK; go_simp; exact hK _ ⟨o, d, rfl⟩) ?_
  refine wpHold_call (v := .int .u64 (wd n 2)) (by go_simp) (by
    rintro K _ ⟨o, d, rfl⟩ hK
    go_simp
    refine (load_any w.heap.size 16 _ (bt n 16) (bt n 17) (bt n 18) (bt n 19) (bt n 20) (bt n 21) (bt n 22) (bt n 23) (bt_byte n 16) (bt_byte n 17) (bt_byte n 18) (bt_byte n 19) (bt_byte n 20) (bt_byte n 21) (bt_byte n 22) (bt_byte n 23) _ (Hcell.out d o 16 (by decide)) (Hcell.out d o 17 (by decide)) (Hcell.out d o 18 (by decide)) (Hcell.out d o 19 (by decide)) (Hcell.out d o 20 (by decide)) (Hcell.out d o 21 (by decide)) (Hcell.out d o 22 (by decide)) (Hcell.out d o 23 (by decide))).mono ?_
    rintro e w' ⟨rfl, hb⟩
    rw [sum_bt2]
    obtain ⟨o', n', rfl⟩ := below_plus hb
    exact ⟨_, rfl, hK _ ⟨_, _, World.plus_plus _ _ _ _ _⟩⟩) ?_
  refine wpHold_step ⟨_, #[], 0, rfl⟩ (by rintro K _ ⟨o, d, rfl⟩ hK; go_simp; exact hK _ ⟨o, d, rfl⟩) ?_
  refine wpHold_call (v := .int .u64 (wd n 3)) (by go_simp) (by
    rintro K _ ⟨o, d, rfl⟩ hK
    go_simp
    refine (load_any w.heap.size 24 _ (bt n 24) (bt n 25) (bt n 26) (bt n 27) (bt n 28) (bt n 29) (bt n 30) (bt n 31) (bt_byte n 24) (bt_byte n 25) (bt_byte n 26) (bt_byte n 27) (bt_byte n 28) (bt_byte n 29) (bt_byte n 30) (bt_byte n 31) _ (Hcell.out d o 24 (by decide)) (Hcell.out d o 25 (by decide)) (Hcell.out d o 26 (by decide)) (Hcell.out d o 27 (by decide)) (Hcell.out d o 28 (by decide)) (Hcell.out d o 29 (by decide)) (Hcell.out d o 30 (by decide)) (Hcell.out d o 31 (by decide))).mono ?_
    rintro e w' ⟨rfl, hb⟩
    rw [sum_bt3]
    obtain ⟨o', n', rfl⟩ := below_plus hb
    exact ⟨_, rfl, hK _ ⟨_, _, World.plus_plus _ _ _ _ _⟩⟩) ?_
  refine wpHold_step ⟨_, #[], 0, rfl⟩ (by rintro K _ ⟨o, d, rfl⟩ hK; go_simp; exact hK _ ⟨o, d, rfl⟩) ?_
  refine wpHold_call (v := nv g0 g1 g2 g3) (by go_simp) (by rintro K _ ⟨o, d, rfl⟩ hK; go_simp; refine (GC.out _).mono ?_; rintro e w' ⟨rfl, hb⟩; obtain ⟨o', n', rfl⟩ := below_plus hb; exact ⟨_, rfl, hK _ ⟨_, _, World.plus_plus _ _ _ _ _⟩⟩) ?_
  refine wpHold_nil ?_
  rintro _ ⟨o2, n2, rfl⟩
  refine wpFree_nil ?_
  go_wp2_with fail
  refine bodyPost_ret (v := nv g0 g1 g2 g3) (by simp [results, Tryz.results126, go_sem]) rfl ⟨rfl, ?_⟩
  repeat (first | apply below_more | apply below_alloc | exact Below.refl _ _)

theorem keyA_of {n : Nat} {a b c d : Int} (h : IsN n a b c d) : #[.int .u8 (by8 a 0), .int .u8 (by8 a 1), .int .u8 (by8 a 2), .int .u8 (by8 a 3), .int .u8 (by8 a 4), .int .u8 (by8 a 5), .int .u8 (by8 a 6), .int .u8 (by8 a 7), .int .u8 (by8 b 0), .int .u8 (by8 b 1), .int .u8 (by8 b 2), .int .u8 (by8 b 3), .int .u8 (by8 b 4), .int .u8 (by8 b 5), .int .u8 (by8 b 6), .int .u8 (by8 b 7), .int .u8 (by8 c 0), .int .u8 (by8 c 1), .int .u8 (by8 c 2), .int .u8 (by8 c 3), .int .u8 (by8 c 4), .int .u8 (by8 c 5), .int .u8 (by8 c 6), .int .u8 (by8 c 7), .int .u8 (by8 d 0), .int .u8 (by8 d 1), .int .u8 (by8 d 2), .int .u8 (by8 d 3), .int .u8 (by8 d 4), .int .u8 (by8 d 5), .int .u8 (by8 d 6), .int .u8 (by8 d 7)] = keyA n := by
  have hlt := V_bd h.1
  rw [h.2] at hlt
  obtain ⟨hw0, hw1, hw2, hw3⟩ := V_inj h.1 (wd_V n (by omega)).1 (h.2.trans (wd_V n (by omega)).2.symm)
  have e0 : by8 a 0 = bt n 0 := by rw [hw0]; unfold by8 bt wd; simp only [Int.reducePow, Nat.reducePow]; omega
  have e1 : by8 a 1 = bt n 1 := by rw [hw0]; unfold by8 bt wd; simp only [Int.reducePow, Nat.reducePow]; omega
  have e2 : by8 a 2 = bt n 2 := by rw [hw0]; unfold by8 bt wd; simp only [Int.reducePow, Nat.reducePow]; omega
  have e3 : by8 a 3 = bt n 3 := by rw [hw0]; unfold by8 bt wd; simp only [Int.reducePow, Nat.reducePow]; omega
  have e4 : by8 a 4 = bt n 4 := by rw [hw0]; unfold by8 bt wd; simp only [Int.reducePow, Nat.reducePow]; omega
  have e5 : by8 a 5 = bt n 5 := by rw [hw0]; unfold by8 bt wd; simp only [Int.reducePow, Nat.reducePow]; omega
  have e6 : by8 a 6 = bt n 6 := by rw [hw0]; unfold by8 bt wd; simp only [Int.reducePow, Nat.reducePow]; omega
  have e7 : by8 a 7 = bt n 7 := by rw [hw0]; unfold by8 bt wd; simp only [Int.reducePow, Nat.reducePow]; omega
  have e8 : by8 b 0 = bt n 8 := by rw [hw1]; unfold by8 bt wd; simp only [Int.reducePow, Nat.reducePow]; omega
  have e9 : by8 b 1 = bt n 9 := by rw [hw1]; unfold by8 bt wd; simp only [Int.reducePow, Nat.reducePow]; omega
  have e10 : by8 b 2 = bt n 10 := by rw [hw1]; unfold by8 bt wd; simp only [Int.reducePow, Nat.reducePow]; omega
  have e11 : by8 b 3 = bt n 11 := by rw [hw1]; unfold by8 bt wd; simp only [Int.reducePow, Nat.reducePow]; omega
  have e12 : by8 b 4 = bt n 12 := by rw [hw1]; unfold by8 bt wd; simp only [Int.reducePow, Nat.reducePow]; omega
  have e13 : by8 b 5 = bt n 13 := by rw [hw1]; unfold by8 bt wd; simp only [Int.reducePow, Nat.reducePow]; omega
  have e14 : by8 b 6 = bt n 14 := by rw [hw1]; unfold by8 bt wd; simp only [Int.reducePow, Nat.reducePow]; omega
  have e15 : by8 b 7 = bt n 15 := by rw [hw1]; unfold by8 bt wd; simp only [Int.reducePow, Nat.reducePow]; omega
  have e16 : by8 c 0 = bt n 16 := by rw [hw2]; unfold by8 bt wd; simp only [Int.reducePow, Nat.reducePow]; omega
  have e17 : by8 c 1 = bt n 17 := by rw [hw2]; unfold by8 bt wd; simp only [Int.reducePow, Nat.reducePow]; omega
  have e18 : by8 c 2 = bt n 18 := by rw [hw2]; unfold by8 bt wd; simp only [Int.reducePow, Nat.reducePow]; omega
  have e19 : by8 c 3 = bt n 19 := by rw [hw2]; unfold by8 bt wd; simp only [Int.reducePow, Nat.reducePow]; omega
  have e20 : by8 c 4 = bt n 20 := by rw [hw2]; unfold by8 bt wd; simp only [Int.reducePow, Nat.reducePow]; omega
  have e21 : by8 c 5 = bt n 21 := by rw [hw2]; unfold by8 bt wd; simp only [Int.reducePow, Nat.reducePow]; omega
  have e22 : by8 c 6 = bt n 22 := by rw [hw2]; unfold by8 bt wd; simp only [Int.reducePow, Nat.reducePow]; omega
  have e23 : by8 c 7 = bt n 23 := by rw [hw2]; unfold by8 bt wd; simp only [Int.reducePow, Nat.reducePow]; omega
  have e24 : by8 d 0 = bt n 24 := by rw [hw3]; unfold by8 bt wd; simp only [Int.reducePow, Nat.reducePow]; omega
  have e25 : by8 d 1 = bt n 25 := by rw [hw3]; unfold by8 bt wd; simp only [Int.reducePow, Nat.reducePow]; omega
  have e26 : by8 d 2 = bt n 26 := by rw [hw3]; unfold by8 bt wd; simp only [Int.reducePow, Nat.reducePow]; omega
  have e27 : by8 d 3 = bt n 27 := by rw [hw3]; unfold by8 bt wd; simp only [Int.reducePow, Nat.reducePow]; omega
  have e28 : by8 d 4 = bt n 28 := by rw [hw3]; unfold by8 bt wd; simp only [Int.reducePow, Nat.reducePow]; omega
  have e29 : by8 d 5 = bt n 29 := by rw [hw3]; unfold by8 bt wd; simp only [Int.reducePow, Nat.reducePow]; omega
  have e30 : by8 d 6 = bt n 30 := by rw [hw3]; unfold by8 bt wd; simp only [Int.reducePow, Nat.reducePow]; omega
  have e31 : by8 d 7 = bt n 31 := by rw [hw3]; unfold by8 bt wd; simp only [Int.reducePow, Nat.reducePow]; omega
  unfold keyA
  rw [e0, e1, e2, e3, e4, e5, e6, e7, e8, e9, e10, e11, e12, e13, e14, e15, e16, e17, e18, e19, e20, e21, e22, e23, e24, e25, e26, e27, e28, e29, e30, e31]
set_option maxHeartbeats 1000000 in
set_option maxRecDepth 100000 in
theorem keyOf_N (n : Nat) (a b c d : Int) (h : IsN n a b c d) (w : World) :
    Calls Tryz.prog 124 #[nv a b c d] w fun e w' => e = .returned (kv n) ∧ Below w.heap.size w w' := by
  have hk := Lib.hid (keyA_of h)
  clear h
  go_enter Tryz.func124, Tryz.ntmps124
  go_wp2_with fail
  generalize hW : World.alloc _ _ = W1
  refine wp_region_hold (fun w' => ∃ o d, w' = W1.plus o d) 3 (by kernel_rfl) (by kernel_rfl) ⟨#[], _, rfl⟩ ?_
  subst hW
  simp only [List.take_succ_cons, List.take_zero, List.drop_succ_cons, List.drop_zero]
  iterate 3 (refine wpHold_step ⟨_, #[], 0, rfl⟩ (by rintro K _ ⟨o, d, rfl⟩ hK; go_simp; exact hK _ ⟨o, d, rfl⟩) ?_)
  refine wpHold_nil ?_
  rintro _ ⟨o2, n2, rfl⟩
  go_wp2_with fail
  refine (store_any _ 0 _ a _ _ _ _ _ _ _ _ _ (by go_simp; rfl) (by go_simp) (by go_simp; rfl) (by go_simp) (by go_simp; rfl) (by go_simp) (by go_simp; rfl) (by go_simp) (by go_simp; rfl) (by go_simp) (by go_simp; rfl) (by go_simp) (by go_simp; rfl) (by go_simp) (by go_simp; rfl) (by go_simp)).mono ?_
  rintro e w' ⟨rfl, rfl⟩
  go_wp2_with fail
  generalize hW : World.alloc (World.alloc _ _) _ = W1
  refine wp_region_hold (fun w' => ∃ o d, w' = W1.plus o d) 3 (by kernel_rfl) (by kernel_rfl) ⟨_, _, rfl⟩ ?_
  subst hW
  simp only [List.take_succ_cons, List.take_zero, List.drop_succ_cons, List.drop_zero]
  iterate 3 (refine wpHold_step ⟨_, #[], 0, rfl⟩ (by rintro K _ ⟨o, d, rfl⟩ hK; go_simp; exact hK _ ⟨o, d, rfl⟩) ?_)
  refine wpHold_nil ?_
  rintro _ ⟨o3, n3, rfl⟩
  go_wp2_with fail
  refine (store_any _ 8 _ b _ _ _ _ _ _ _ _ _ (by go_simp; rfl) (by go_simp) (by go_simp; rfl) (by go_simp) (by go_simp; rfl) (by go_simp) (by go_simp; rfl) (by go_simp) (by go_simp; rfl) (by go_simp) (by go_simp; rfl) (by go_simp) (by go_simp; rfl) (by go_simp) (by go_simp; rfl) (by go_simp)).mono ?_
  rintro e w' ⟨rfl, rfl⟩
  go_wp2_with fail
  generalize hW : World.alloc (World.alloc _ _) _ = W1
  refine wp_region_hold (fun w' => ∃ o d, w' = W1.plus o d) 3 (by kernel_rfl) (by kernel_rfl) ⟨_, _, rfl⟩ ?_
  subst hW
  simp only [List.take_succ_cons, List.take_zero, List.drop_succ_cons, List.drop_zero]
  iterate 3 (refine wpHold_step ⟨_, #[], 0, rfl⟩ (by rintro K _ ⟨o, d, rfl⟩ hK; go_simp; exact hK _ ⟨o, d, rfl⟩) ?_)
  refine wpHold_nil ?_
  rintro _ ⟨o4, n4, rfl⟩
  go_wp2_with fail
  refine (store_any _ 16 _ c _ _ _ _ _ _ _ _ _ (by go_simp; rfl) (by go_simp) (by go_simp; rfl) (by go_simp) (by go_simp; rfl) (by go_simp) (by go_simp; rfl) (by go_simp) (by go_simp; rfl) (by go_simp) (by go_simp; rfl) (by go_simp) (by go_simp; rfl) (by go_simp) (by go_simp; rfl) (by go_simp)).mono ?_
  rintro e w' ⟨rfl, rfl⟩
  go_wp2_with fail
  generalize hW : World.alloc (World.alloc _ _) _ = W1
  refine wp_region_hold (fun w' => ∃ o d, w' = W1.plus o d) 3 (by kernel_rfl) (by kernel_rfl) ⟨_, _, rfl⟩ ?_
  subst hW
  simp only [List.take_succ_cons, List.take_zero, List.drop_succ_cons, List.drop_zero]
  iterate 3 (refine wpHold_step ⟨_, #[], 0, rfl⟩ (by rintro K _ ⟨o, d, rfl⟩ hK; go_simp; exact hK _ ⟨o, d, rfl⟩) ?_)
  refine wpHold_nil ?_
  rintro _ ⟨o5, n5, rfl⟩
  go_wp2_with fail
  refine (store_any _ 24 _ d _ _ _ _ _ _ _ _ _ (by go_simp; rfl) (by go_simp) (by go_simp; rfl) (by go_simp) (by go_simp; rfl) (by go_simp) (by go_simp; rfl) (by go_simp) (by go_simp; rfl) (by go_simp) (by go_simp; rfl) (by go_simp) (by go_simp; rfl) (by go_simp) (by go_simp; rfl) (by go_simp)).mono ?_
  rintro e w' ⟨rfl, rfl⟩
  have hk' := hk.out
  go_wp2_with fail

  refine bodyPost_ret (v := kv n) (results_key Tryz.results124 _ _ _ rfl (by go_simp) (by go_simp)) rfl ⟨rfl, ?_⟩
  repeat (first | apply below_more | apply below_alloc | exact Below.refl _ _)
end Go.Proofs.YtddmjddlbhdcpaaGreatDoor.F

/-
  Package field: its six calls, over keys.
-/
namespace Go.Proofs.YtddmjddlbhdcpaaGreatDoor.F
open Go.RowKit Go.Shelf Go.Hold

/-! ### Keys that are compared -/
/-- Two keys, byte by byte. -/
def keq (m n : Nat) : Bool := (List.range 32).all fun i => bt m i == bt n i
@[go_sem] theorem keq_self (n : Nat) : keq n n = true := by simp [keq]
theorem bt_inj {m n : Nat} (hm : m < 115792089237316195423570985008687907853269984665640564039457584007913129639936) (hn : n < 115792089237316195423570985008687907853269984665640564039457584007913129639936) (h : ∀ i, i < 32 → bt m i = bt n i) : m = n := by
  have e0 := sum_bt0 m; have e1 := sum_bt1 m; have e2 := sum_bt2 m; have e3 := sum_bt3 m
  rw [h 0 (by decide), h 1 (by decide), h 2 (by decide), h 3 (by decide), h 4 (by decide), h 5 (by decide), h 6 (by decide), h 7 (by decide), sum_bt0] at e0
  rw [h 8 (by decide), h 9 (by decide), h 10 (by decide), h 11 (by decide), h 12 (by decide), h 13 (by decide), h 14 (by decide), h 15 (by decide), sum_bt1] at e1
  rw [h 16 (by decide), h 17 (by decide), h 18 (by decide), h 19 (by decide), h 20 (by decide), h 21 (by decide), h 22 (by decide), h 23 (by decide), sum_bt2] at e2
  rw [h 24 (by decide), h 25 (by decide), h 26 (by decide), h 27 (by decide), h 28 (by decide), h 29 (by decide), h 30 (by decide), h 31 (by decide), sum_bt3] at e3
  have a := (wd_V m hm).2
  have b := (wd_V n hn).2
  rw [← e0, ← e1, ← e2, ← e3] at a
  omega
theorem keq_iff {m n : Nat} (hm : m < 115792089237316195423570985008687907853269984665640564039457584007913129639936) (hn : n < 115792089237316195423570985008687907853269984665640564039457584007913129639936) : keq m n = true ↔ m = n := by
  constructor
  · intro h
    refine bt_inj hm hn fun i hi => ?_
    have := List.all_eq_true.1 h i (List.mem_range.2 hi)
    simpa using this
  · rintro rfl; exact keq_self m
theorem keq_false {m n : Nat} (hm : m < 115792089237316195423570985008687907853269984665640564039457584007913129639936) (hn : n < 115792089237316195423570985008687907853269984665640564039457584007913129639936) (h : m ≠ n) : keq m n = false := by
  rw [← Bool.not_eq_true]; exact fun e => h ((keq_iff hm hn).1 e)

theorem run_eqItems_int {P : Program} {e : TypeId} {k k' : IntKind} (d : Nat) (he : P.underlying e = some (.int k')) (xs ys : Array Value) (f g : Nat → Int) (w : World) : ∀ is : List Nat,
    (∀ i ∈ is, xs[i]? = some (.int k (f i)) ∧ ys[i]? = some (.int k (g i))) → (Op.eqItems (d + 1) e 1 xs ys is).run P w = .ok (is.all fun i => f i == g i) w
  | [], _ => by simp [Op.eqItems]
  | i :: is, h => by
    obtain ⟨h1, h2⟩ := h i (by simp)
    have hag : (isAgg e).run P w = .ok false w := by unfold isAgg; rw [Sem.run_bind, run_underlying he w]; simp
    have hp : ∀ (cs : Array Value) (v : Value), cs[i]? = some v → (part e cs (i * 1)).run P w = .ok v w := fun cs v hv => by
      unfold part; rw [Sem.run_bind, hag]; simp [hv]
    have ih := run_eqItems_int d he xs ys f g w is fun j hj => h j (by simp [hj])
    simp only [Op.eqItems, Sem.run_bind, hp xs _ h1, hp ys _ h2, Result.andThen_ok, run_equalIn_int w d e k k' (f i) (g i) he]
    cases hfg : (f i == g i)
    · simp [hfg]
    · simp [hfg, ih]
@[go_sem] theorem run_equalIn_key (m n : Nat) (w : World) : (Op.equalIn 10000 23 (.agg (keyA m)) (.agg (keyA n))).run Tryz.prog w = .ok (keq m n) w := by
  obtain ⟨i, hi⟩ : ∃ i, Tryz.prog.info? 5 = some i := Option.isSome_iff_exists.1 (by kernel_rfl)
  rw [run_equalIn_array w 9999 (keyA m) (keyA n) Tryz.underlying23 hi, show Tryz.prog.cellsOf 5 = 1 from by kernel_rfl]
  exact run_eqItems_int 9998 Tryz.underlying5 _ _ (bt m) (bt n) w _ fun j hj => ⟨keyA_get m j (List.mem_range.1 hj), keyA_get n j (List.mem_range.1 hj)⟩
@[go_sem] theorem eqGuard_key (op : BinOp) (x y : Operand) (xs ys : Array Value) (w : World) : (eqGuard op 23 x y (.agg xs) (.agg ys)).run Tryz.prog w = .ok () w := run_eqGuard_agg w op 23 x y xs ys (by kernel_rfl)

theorem P_lt : Fp.P < 115792089237316195423570985008687907853269984665640564039457584007913129639936 := by decide +kernel
theorem mod_lt (n : Nat) : n % Fp.P < 115792089237316195423570985008687907853269984665640564039457584007913129639936 := Nat.lt_trans (Nat.mod_lt _ Fp.P_pos) P_lt
theorem isN_fix {n : Nat} {f : FuncId} {args : Array Value} (hn : n < 115792089237316195423570985008687907853269984665640564039457584007913129639936) (h : ∀ w, Calls Tryz.prog f args w (Ret4 (IsN n) w)) :
    ∃ r0 r1 r2 r3, IsN n r0 r1 r2 r3 ∧ Hid (∀ w, Calls Tryz.prog f args w fun e w' => e = .returned (nv r0 r1 r2 r3) ∧ Below w.heap.size w w') := by
  obtain ⟨a, b, c, d, h0, h1, hC⟩ := fix4 (n := n) (by omega) (by omega) (fun _ _ _ _ hr => hr) h
  exact ⟨a, b, c, d, ⟨h0, h1⟩, hC⟩
theorem sum_N {m n : Nat} {a0 a1 a2 a3 b0 b1 b2 b3 : Int} (ha : IsN m a0 a1 a2 a3) (hb : IsN n b0 b1 b2 b3) :
    ∃ r0 r1 r2 r3, IsN ((m + n) % Fp.P) r0 r1 r2 r3 ∧ Hid (∀ w, Calls Tryz.prog 149 #[nv a0 a1 a2 a3, nv b0 b1 b2 b3] w fun e w' => e = .returned (nv r0 r1 r2 r3) ∧ Below w.heap.size w w') := by
  obtain ⟨r0, r1, r2, r3, h0, h1, hC⟩ := red_fix (n := V a0 a1 a2 a3 + V b0 b1 b2 b3) (fun w => sum_any a0 a1 a2 a3 b0 b1 b2 b3 ha.1 hb.1 w)
  refine ⟨r0, r1, r2, r3, red_isN ⟨h0, ?_⟩, hC⟩
  rw [h1, ha.2, hb.2, Int.natCast_add]
theorem difference_N {m n : Nat} {a0 a1 a2 a3 b0 b1 b2 b3 : Int} (ha : IsN m a0 a1 a2 a3) (hb : IsN n b0 b1 b2 b3) (hn : n ≤ Fp.P) :
    ∃ r0 r1 r2 r3, IsN ((m + (Fp.P - n)) % Fp.P) r0 r1 r2 r3 ∧ Hid (∀ w, Calls Tryz.prog 150 #[nv a0 a1 a2 a3, nv b0 b1 b2 b3] w fun e w' => e = .returned (nv r0 r1 r2 r3) ∧ Below w.heap.size w w') := by
  obtain ⟨r0, r1, r2, r3, h0, h1, hC⟩ := red_fix (n := V a0 a1 a2 a3 - V b0 b1 b2 b3) (fun w => difference_any a0 a1 a2 a3 b0 b1 b2 b3 ha.1 hb.1 (by rw [hb.2, pint]; omega) w)
  refine ⟨r0, r1, r2, r3, red_isN ⟨h0, ?_⟩, hC⟩
  rw [h1, ha.2, hb.2, pint, show ((m + (Fp.P - n) : Nat) : Int) = ((m : Int) - n) + (Fp.P : Nat) by omega, Int.add_emod_right]

set_option maxHeartbeats 1000000 in
set_option maxRecDepth 100000 in
theorem canon_N (n : Nat) (hn : n < 115792089237316195423570985008687907853269984665640564039457584007913129639936) (w : World) :
    Calls Tryz.prog 100 #[kv n] w fun e w' => e = .returned (kv (n % Fp.P)) ∧ Below w.heap.size w w' := by
  obtain ⟨r0, r1, r2, r3, R, RC⟩ := numberOf_N n hn
  clear hn
  go_enter Tryz.func100, Tryz.ntmps100
  go_wp2_with fail
  refine (RC.out _).mono ?_
  rintro e w' ⟨rfl, hb⟩
  obtain ⟨o1, n1, rfl⟩ := below_plus hb
  clear hb
  go_wp2_with fail
  refine (keyOf_N _ r0 r1 r2 r3 R _).mono ?_
  rintro e w' ⟨rfl, hb⟩
  obtain ⟨o2, n2, rfl⟩ := below_plus hb
  clear hb
  go_wp2_with fail
  refine bodyPost_ret (v := kv (n % Fp.P)) (results_key Tryz.results100 _ _ _ rfl (by go_simp) (by go_simp)) rfl ⟨rfl, ?_⟩
  repeat (first | apply below_more | apply below_alloc | exact Below.refl _ _)

set_option maxHeartbeats 1000000 in
set_option maxRecDepth 100000 in
theorem inv_N (n : Nat) (hn : n < 115792089237316195423570985008687907853269984665640564039457584007913129639936) (w : World) :
    Calls Tryz.prog 99 #[kv n] w fun e w' => e = .returned (kv ((n % Fp.P) ^ Fp.E % Fp.P)) ∧ Below w.heap.size w w' := by
  obtain ⟨r0, r1, r2, r3, R, RC⟩ := numberOf_N n hn
  obtain ⟨s0, s1, s2, s3, S, SC⟩ := isN_fix (mod_lt _) (fun w => inverse_any (n % Fp.P) r0 r1 r2 r3 R w)
  clear hn
  generalize hm : (n % Fp.P) ^ Fp.E % Fp.P = m at *
  clear hm
  go_enter Tryz.func99, Tryz.ntmps99
  go_wp2_with fail
  refine (RC.out _).mono ?_
  rintro e w' ⟨rfl, hb⟩
  obtain ⟨o1, n1, rfl⟩ := below_plus hb
  clear hb
  go_wp2_with fail
  refine (SC.out _).mono ?_
  rintro e w' ⟨rfl, hb⟩
  obtain ⟨o2, n2, rfl⟩ := below_plus hb
  clear hb
  go_wp2_with fail
  refine (keyOf_N _ s0 s1 s2 s3 S _).mono ?_
  rintro e w' ⟨rfl, hb⟩
  obtain ⟨o3, n3, rfl⟩ := below_plus hb
  clear hb
  go_wp2_with fail
  refine bodyPost_ret (v := kv (m)) (results_key Tryz.results99 _ _ _ rfl (by go_simp) (by go_simp)) rfl ⟨rfl, ?_⟩
  repeat (first | apply below_more | apply below_alloc | exact Below.refl _ _)

set_option maxHeartbeats 1000000 in
set_option maxRecDepth 100000 in
theorem add_N (m n : Nat) (hm : m < 115792089237316195423570985008687907853269984665640564039457584007913129639936) (hn : n < 115792089237316195423570985008687907853269984665640564039457584007913129639936) (w : World) :
    Calls Tryz.prog 122 #[kv m, kv n] w fun e w' => e = .returned (kv ((m % Fp.P + n % Fp.P) % Fp.P)) ∧ Below w.heap.size w w' := by
  obtain ⟨r0, r1, r2, r3, R, RC⟩ := numberOf_N m hm
  obtain ⟨s0, s1, s2, s3, S, SC⟩ := numberOf_N n hn
  obtain ⟨t0, t1, t2, t3, T, TC⟩ := sum_N R S
  clear hm hn
  generalize hk : (m % Fp.P + n % Fp.P) % Fp.P = k at *
  clear hk
  go_enter Tryz.func122, Tryz.ntmps122
  go_wp2_with fail
  generalize hW : World.alloc _ _ = W1
  refine wp_region_parts (fun w' => ∃ o d, w' = W1.plus o d) 6 0 (by kernel_rfl) (by kernel_rfl) (by intro c a d v w h; cases d <;> exact h) ⟨#[], _, rfl⟩ ?_
  subst hW
  simp only [List.take_succ_cons, List.take_zero, List.drop_succ_cons, List.drop_zero]
  refine wpHold_step ⟨_, #[], 0, rfl⟩ (by rintro K _ ⟨o, d, rfl⟩ hK; go_simp; exact hK _ ⟨o, d, rfl⟩) ?_
  refine wpHold_call (v := nv r0 r1 r2 r3) (by go_simp) (by rintro K _ ⟨o, d, rfl⟩ hK; go_simp; refine (RC.out _).mono ?_; rintro e w' ⟨rfl, hb⟩; obtain ⟨o', n', rfl⟩ := below_plus hb; exact ⟨_, rfl, hK _ ⟨_, _, World.plus_plus _ _ _ _ _⟩⟩) ?_
  refine wpHold_step ⟨_, #[], 0, rfl⟩ (by rintro K _ ⟨o, d, rfl⟩ hK; go_simp; exact hK _ ⟨o, d, rfl⟩) ?_
  refine wpHold_call (v := nv s0 s1 s2 s3) (by go_simp) (by rintro K _ ⟨o, d, rfl⟩ hK; go_simp; refine (SC.out _).mono ?_; rintro e w' ⟨rfl, hb⟩; obtain ⟨o', n', rfl⟩ := below_plus hb; exact ⟨_, rfl, hK _ ⟨_, _, World.plus_plus _ _ _ _ _⟩⟩) ?_
  refine wpHold_call (v := nv t0 t1 t2 t3) (by go_simp) (by rintro K _ ⟨o, d, rfl⟩ hK; go_simp; refine (TC.out _).mono ?_; rintro e w' ⟨rfl, hb⟩; obtain ⟨o', n', rfl⟩ := below_plus hb; exact ⟨_, rfl, hK _ ⟨_, _, World.plus_plus _ _ _ _ _⟩⟩) ?_
  refine wpHold_call (v := kv k) (by go_simp) (by rintro K _ ⟨o, d, rfl⟩ hK; go_simp; refine (keyOf_N _ t0 t1 t2 t3 T _).mono ?_; rintro e w' ⟨rfl, hb⟩; obtain ⟨o', n', rfl⟩ := below_plus hb; exact ⟨_, rfl, hK _ ⟨_, _, World.plus_plus _ _ _ _ _⟩⟩) ?_
  refine wpHold_nil ?_
  rintro _ ⟨o2, n2, rfl⟩
  refine wpFree_nil ?_
  go_wp2_with fail
  refine bodyPost_ret (v := kv (k)) (results_key Tryz.results122 _ _ _ rfl (by go_simp) (by go_simp)) rfl ⟨rfl, ?_⟩
  repeat (first | apply below_more | apply below_alloc | exact Below.refl _ _)

set_option maxHeartbeats 1000000 in
set_option maxRecDepth 100000 in
theorem sub_N (m n : Nat) (hm : m < 115792089237316195423570985008687907853269984665640564039457584007913129639936) (hn : n < 115792089237316195423570985008687907853269984665640564039457584007913129639936) (w : World) :
    Calls Tryz.prog 123 #[kv m, kv n] w fun e w' => e = .returned (kv ((m % Fp.P + (Fp.P - n % Fp.P)) % Fp.P)) ∧ Below w.heap.size w w' := by
  obtain ⟨r0, r1, r2, r3, R, RC⟩ := numberOf_N m hm
  obtain ⟨s0, s1, s2, s3, S, SC⟩ := numberOf_N n hn
  obtain ⟨t0, t1, t2, t3, T, TC⟩ := difference_N R S (Nat.le_of_lt (Nat.mod_lt _ Fp.P_pos))
  clear hm hn
  generalize hk : (m % Fp.P + (Fp.P - n % Fp.P)) % Fp.P = k at *
  clear hk
  go_enter Tryz.func123, Tryz.ntmps123
  go_wp2_with fail
  generalize hW : World.alloc _ _ = W1
  refine wp_region_parts (fun w' => ∃ o d, w' = W1.plus o d) 6 0 (by kernel_rfl) (by kernel_rfl) (by intro c a d v w h; cases d <;> exact h) ⟨#[], _, rfl⟩ ?_
  subst hW
  simp only [List.take_succ_cons, List.take_zero, List.drop_succ_cons, List.drop_zero]
  refine wpHold_step ⟨_, #[], 0, rfl⟩ (by rintro K _ ⟨o, d, rfl⟩ hK; go_simp; exact hK _ ⟨o, d, rfl⟩) ?_
  refine wpHold_call (v := nv r0 r1 r2 r3) (by go_simp) (by rintro K _ ⟨o, d, rfl⟩ hK; go_simp; refine (RC.out _).mono ?_; rintro e w' ⟨rfl, hb⟩; obtain ⟨o', n', rfl⟩ := below_plus hb; exact ⟨_, rfl, hK _ ⟨_, _, World.plus_plus _ _ _ _ _⟩⟩) ?_
  refine wpHold_step ⟨_, #[], 0, rfl⟩ (by rintro K _ ⟨o, d, rfl⟩ hK; go_simp; exact hK _ ⟨o, d, rfl⟩) ?_
  refine wpHold_call (v := nv s0 s1 s2 s3) (by go_simp) (by rintro K _ ⟨o, d, rfl⟩ hK; go_simp; refine (SC.out _).mono ?_; rintro e w' ⟨rfl, hb⟩; obtain ⟨o', n', rfl⟩ := below_plus hb; exact ⟨_, rfl, hK _ ⟨_, _, World.plus_plus _ _ _ _ _⟩⟩) ?_
  refine wpHold_call (v := nv t0 t1 t2 t3) (by go_simp) (by rintro K _ ⟨o, d, rfl⟩ hK; go_simp; refine (TC.out _).mono ?_; rintro e w' ⟨rfl, hb⟩; obtain ⟨o', n', rfl⟩ := below_plus hb; exact ⟨_, rfl, hK _ ⟨_, _, World.plus_plus _ _ _ _ _⟩⟩) ?_
  refine wpHold_call (v := kv k) (by go_simp) (by rintro K _ ⟨o, d, rfl⟩ hK; go_simp; refine (keyOf_N _ t0 t1 t2 t3 T _).mono ?_; rintro e w' ⟨rfl, hb⟩; obtain ⟨o', n', rfl⟩ := below_plus hb; exact ⟨_, rfl, hK _ ⟨_, _, World.plus_plus _ _ _ _ _⟩⟩) ?_
  refine wpHold_nil ?_
  rintro _ ⟨o2, n2, rfl⟩
  refine wpFree_nil ?_
  go_wp2_with fail
  refine bodyPost_ret (v := kv (k)) (results_key Tryz.results123 _ _ _ rfl (by go_simp) (by go_simp)) rfl ⟨rfl, ?_⟩
  repeat (first | apply below_more | apply below_alloc | exact Below.refl _ _)

set_option maxHeartbeats 1000000 in
set_option maxRecDepth 100000 in
theorem mul_N (m n : Nat) (hm : m < 115792089237316195423570985008687907853269984665640564039457584007913129639936) (hn : n < 115792089237316195423570985008687907853269984665640564039457584007913129639936) (w : World) :
    Calls Tryz.prog 98 #[kv m, kv n] w fun e w' => e = .returned (kv ((m % Fp.P) * (n % Fp.P) % Fp.P)) ∧ Below w.heap.size w w' := by
  obtain ⟨r0, r1, r2, r3, R, RC⟩ := numberOf_N m hm
  obtain ⟨s0, s1, s2, s3, S, SC⟩ := numberOf_N n hn
  obtain ⟨t0, t1, t2, t3, T, TC⟩ := product_N R S
  clear hm hn
  generalize hk : (m % Fp.P) * (n % Fp.P) % Fp.P = k at *
  clear hk
  go_enter Tryz.func98, Tryz.ntmps98
  go_wp2_with fail
  generalize hW : World.alloc _ _ = W1
  refine wp_region_parts (fun w' => ∃ o d, w' = W1.plus o d) 6 0 (by kernel_rfl) (by kernel_rfl) (by intro c a d v w h; cases d <;> exact h) ⟨#[], _, rfl⟩ ?_
  subst hW
  simp only [List.take_succ_cons, List.take_zero, List.drop_succ_cons, List.drop_zero]
  refine wpHold_step ⟨_, #[], 0, rfl⟩ (by rintro K _ ⟨o, d, rfl⟩ hK; go_simp; exact hK _ ⟨o, d, rfl⟩) ?_
  refine wpHold_call (v := nv r0 r1 r2 r3) (by go_simp) (by rintro K _ ⟨o, d, rfl⟩ hK; go_simp; refine (RC.out _).mono ?_; rintro e w' ⟨rfl, hb⟩; obtain ⟨o', n', rfl⟩ := below_plus hb; exact ⟨_, rfl, hK _ ⟨_, _, World.plus_plus _ _ _ _ _⟩⟩) ?_
  refine wpHold_step ⟨_, #[], 0, rfl⟩ (by rintro K _ ⟨o, d, rfl⟩ hK; go_simp; exact hK _ ⟨o, d, rfl⟩) ?_
  refine wpHold_call (v := nv s0 s1 s2 s3) (by go_simp) (by rintro K _ ⟨o, d, rfl⟩ hK; go_simp; refine (SC.out _).mono ?_; rintro e w' ⟨rfl, hb⟩; obtain ⟨o', n', rfl⟩ := below_plus hb; exact ⟨_, rfl, hK _ ⟨_, _, World.plus_plus _ _ _ _ _⟩⟩) ?_
  refine wpHold_call (v := nv t0 t1 t2 t3) (by go_simp) (by rintro K _ ⟨o, d, rfl⟩ hK; go_simp; refine (TC.out _).mono ?_; rintro e w' ⟨rfl, hb⟩; obtain ⟨o', n', rfl⟩ := below_plus hb; exact ⟨_, rfl, hK _ ⟨_, _, World.plus_plus _ _ _ _ _⟩⟩) ?_
  refine wpHold_call (v := kv k) (by go_simp) (by rintro K _ ⟨o, d, rfl⟩ hK; go_simp; refine (keyOf_N _ t0 t1 t2 t3 T _).mono ?_; rintro e w' ⟨rfl, hb⟩; obtain ⟨o', n', rfl⟩ := below_plus hb; exact ⟨_, rfl, hK _ ⟨_, _, World.plus_plus _ _ _ _ _⟩⟩) ?_
  refine wpHold_nil ?_
  rintro _ ⟨o2, n2, rfl⟩
  refine wpFree_nil ?_
  go_wp2_with fail
  refine bodyPost_ret (v := kv (k)) (results_key Tryz.results98 _ _ _ rfl (by go_simp) (by go_simp)) rfl ⟨rfl, ?_⟩
  repeat (first | apply below_more | apply below_alloc | exact Below.refl _ _)


/-! ### Nought, and small numbers -/
theorem keyA_small (x : Nat) (h : x < 256) : #[.int .u8 (x : Int), .int .u8 0, .int .u8 0, .int .u8 0, .int .u8 0, .int .u8 0, .int .u8 0, .int .u8 0, .int .u8 0, .int .u8 0, .int .u8 0, .int .u8 0, .int .u8 0, .int .u8 0, .int .u8 0, .int .u8 0, .int .u8 0, .int .u8 0, .int .u8 0, .int .u8 0, .int .u8 0, .int .u8 0, .int .u8 0, .int .u8 0, .int .u8 0, .int .u8 0, .int .u8 0, .int .u8 0, .int .u8 0, .int .u8 0, .int .u8 0, .int .u8 0] = keyA x := by
  have e0 : bt x 0 = x := by unfold bt; omega
  have e1 : bt x 1 = 0 := by unfold bt; simp only [Nat.reducePow]; omega
  have e2 : bt x 2 = 0 := by unfold bt; simp only [Nat.reducePow]; omega
  have e3 : bt x 3 = 0 := by unfold bt; simp only [Nat.reducePow]; omega
  have e4 : bt x 4 = 0 := by unfold bt; simp only [Nat.reducePow]; omega
  have e5 : bt x 5 = 0 := by unfold bt; simp only [Nat.reducePow]; omega
  have e6 : bt x 6 = 0 := by unfold bt; simp only [Nat.reducePow]; omega
  have e7 : bt x 7 = 0 := by unfold bt; simp only [Nat.reducePow]; omega
  have e8 : bt x 8 = 0 := by unfold bt; simp only [Nat.reducePow]; omega
  have e9 : bt x 9 = 0 := by unfold bt; simp only [Nat.reducePow]; omega
  have e10 : bt x 10 = 0 := by unfold bt; simp only [Nat.reducePow]; omega
  have e11 : bt x 11 = 0 := by unfold bt; simp only [Nat.reducePow]; omega
  have e12 : bt x 12 = 0 := by unfold bt; simp only [Nat.reducePow]; omega
  have e13 : bt x 13 = 0 := by unfold bt; simp only [Nat.reducePow]; omega
  have e14 : bt x 14 = 0 := by unfold bt; simp only [Nat.reducePow]; omega
  have e15 : bt x 15 = 0 := by unfold bt; simp only [Nat.reducePow]; omega
  have e16 : bt x 16 = 0 := by unfold bt; simp only [Nat.reducePow]; omega
  have e17 : bt x 17 = 0 := by unfold bt; simp only [Nat.reducePow]; omega
  have e18 : bt x 18 = 0 := by unfold bt; simp only [Nat.reducePow]; omega
  have e19 : bt x 19 = 0 := by unfold bt; simp only [Nat.reducePow]; omega
  have e20 : bt x 20 = 0 := by unfold bt; simp only [Nat.reducePow]; omega
  have e21 : bt x 21 = 0 := by unfold bt; simp only [Nat.reducePow]; omega
  have e22 : bt x 22 = 0 := by unfold bt; simp only [Nat.reducePow]; omega
  have e23 : bt x 23 = 0 := by unfold bt; simp only [Nat.reducePow]; omega
  have e24 : bt x 24 = 0 := by unfold bt; simp only [Nat.reducePow]; omega
  have e25 : bt x 25 = 0 := by unfold bt; simp only [Nat.reducePow]; omega
  have e26 : bt x 26 = 0 := by unfold bt; simp only [Nat.reducePow]; omega
  have e27 : bt x 27 = 0 := by unfold bt; simp only [Nat.reducePow]; omega
  have e28 : bt x 28 = 0 := by unfold bt; simp only [Nat.reducePow]; omega
  have e29 : bt x 29 = 0 := by unfold bt; simp only [Nat.reducePow]; omega
  have e30 : bt x 30 = 0 := by unfold bt; simp only [Nat.reducePow]; omega
  have e31 : bt x 31 = 0 := by unfold bt; simp only [Nat.reducePow]; omega
  unfold keyA
  rw [e0, e1, e2, e3, e4, e5, e6, e7, e8, e9, e10, e11, e12, e13, e14, e15, e16, e17, e18, e19, e20, e21, e22, e23, e24, e25, e26, e27, e28, e29, e30, e31]
end Go.Proofs.YtddmjddlbhdcpaaGreatDoor.F

/-
  Package field: its six calls, with every answer under a name of its own.
-/
namespace Go.Proofs.YtddmjddlbhdcpaaGreatDoor.F
open Go.RowKit Go.Shelf Go.Hold

theorem add_P (m n : Nat) (hm : m < 115792089237316195423570985008687907853269984665640564039457584007913129639936) (hn : n < 115792089237316195423570985008687907853269984665640564039457584007913129639936) (w : World) : Calls Tryz.prog 122 #[kv m, kv n] w fun e w' => e = .returned (kv ((m + n) % Fp.P)) ∧ Below w.heap.size w w' := by
  rw [Nat.add_mod]; exact add_N m n hm hn w
theorem mul_P (m n : Nat) (hm : m < 115792089237316195423570985008687907853269984665640564039457584007913129639936) (hn : n < 115792089237316195423570985008687907853269984665640564039457584007913129639936) (w : World) : Calls Tryz.prog 98 #[kv m, kv n] w fun e w' => e = .returned (kv (m * n % Fp.P)) ∧ Below w.heap.size w w' := by
  rw [Nat.mul_mod]; exact mul_N m n hm hn w
theorem inv_P (n : Nat) (hn : n < 115792089237316195423570985008687907853269984665640564039457584007913129639936) (w : World) : Calls Tryz.prog 99 #[kv n] w fun e w' => e = .returned (kv (n ^ Fp.E % Fp.P)) ∧ Below w.heap.size w w' := by
  rw [← Fp.pow_mod]; exact inv_N n hn w
theorem add_K (m n k : Nat) (hm : m < 115792089237316195423570985008687907853269984665640564039457584007913129639936) (hn : n < 115792089237316195423570985008687907853269984665640564039457584007913129639936) (hk : (m + n) % Fp.P = k) (w : World) : Calls Tryz.prog 122 #[kv m, kv n] w fun e w' => e = .returned (kv k) ∧ Below w.heap.size w w' := by
  subst hk; exact add_P m n hm hn w
theorem mul_K (m n k : Nat) (hm : m < 115792089237316195423570985008687907853269984665640564039457584007913129639936) (hn : n < 115792089237316195423570985008687907853269984665640564039457584007913129639936) (hk : m * n % Fp.P = k) (w : World) : Calls Tryz.prog 98 #[kv m, kv n] w fun e w' => e = .returned (kv k) ∧ Below w.heap.size w w' := by
  subst hk; exact mul_P m n hm hn w
theorem sub_K (m n k : Nat) (hm : m < 115792089237316195423570985008687907853269984665640564039457584007913129639936) (hn : n < 115792089237316195423570985008687907853269984665640564039457584007913129639936) (hk : (m % Fp.P + (Fp.P - n % Fp.P)) % Fp.P = k) (w : World) : Calls Tryz.prog 123 #[kv m, kv n] w fun e w' => e = .returned (kv k) ∧ Below w.heap.size w w' := by
  subst hk; exact sub_N m n hm hn w
theorem inv_K (n k : Nat) (hn : n < 115792089237316195423570985008687907853269984665640564039457584007913129639936) (hk : n ^ Fp.E % Fp.P = k) (w : World) : Calls Tryz.prog 99 #[kv n] w fun e w' => e = .returned (kv k) ∧ Below w.heap.size w w' := by
  subst hk; exact inv_P n hn w
theorem canon_K (n k : Nat) (hn : n < 115792089237316195423570985008687907853269984665640564039457584007913129639936) (hk : n % Fp.P = k) (w : World) : Calls Tryz.prog 100 #[kv n] w fun e w' => e = .returned (kv k) ∧ Below w.heap.size w w' := by
  subst hk; exact canon_N n hn w
end Go.Proofs.YtddmjddlbhdcpaaGreatDoor.F

/-
  Fractions: two keys side by side, read and written as one, or one of them.
-/
namespace Go.Proofs.YtddmjddlbhdcpaaGreatDoor.F
open Go.RowKit Go.Shelf Go.Hold

/-- A fraction, as the cells of its two numbers. -/
def fracA (x z : Nat) : Array Value := keyA x ++ keyA z
abbrev fv (x z : Nat) : Value := .agg (fracA x z)
@[go_sem] theorem fracA_size (x z : Nat) : (fracA x z).size = 64 := by simp [fracA, keyA_size]
theorem fracA_get0 (x z i : Nat) (h : i < 32) : (fracA x z)[i]? = some (.int .u8 (bt x i)) := by
  unfold fracA; rw [Array.getElem?_append_left (by rw [keyA_size]; exact h), keyA_get x i h]
theorem fracA_get1 (x z i : Nat) (h : i < 32) : (fracA x z)[32 + i]? = some (.int .u8 (bt z i)) := by
  unfold fracA; rw [Array.getElem?_append_right (by rw [keyA_size]; omega), keyA_size, Nat.add_sub_cancel_left, keyA_get z i h]
@[go_sem] theorem fracA_one (x z : Nat) : oneAll (fracA x z) = true := by
  have h1 := keyA_one x; have h2 := keyA_one z
  unfold oneAll at *
  unfold fracA
  rw [Array.all_append, h1, h2]; rfl
/-- The first key, the second key. -/
def lo (a : Array Value) : Array Value := a.extract 0 32
def hi (a : Array Value) : Array Value := a.extract 32 64
@[go_sem] theorem lo_frac (x z : Nat) : lo (fracA x z) = keyA x := by
  unfold lo fracA
  rw [Array.extract_append, keyA_size]
  have : (keyA x).extract 0 32 = keyA x := by
    have h := Array.extract_size (xs := keyA x); rwa [keyA_size] at h
  rw [this]; simp
@[go_sem] theorem hi_frac (x z : Nat) : hi (fracA x z) = keyA z := by
  unfold hi fracA
  rw [Array.extract_append, keyA_size]
  have : (keyA z).extract 0 32 = keyA z := by
    have h := Array.extract_size (xs := keyA z); rwa [keyA_size] at h
  simp [this, keyA_size]
theorem frac_ext {c : Array Value} {x z : Nat} (hs : c.size = 64) (h0 : ∀ i, i < 32 → c[i]? = some (.int .u8 (bt x i))) (h1 : ∀ i, i < 32 → c[32 + i]? = some (.int .u8 (bt z i))) : c = fracA x z := by
  apply Array.ext_getElem?
  intro i
  by_cases hi : i < 32
  · rw [h0 i hi, fracA_get0 x z i hi]
  · by_cases hj : i < 64
    · obtain ⟨j, rfl⟩ : ∃ j, i = 32 + j := ⟨i - 32, by omega⟩
      rw [h1 j (by omega), fracA_get1 x z j (by omega)]
    · rw [Array.getElem?_eq_none (by omega), Array.getElem?_eq_none (by rw [fracA_size]; omega)]

/-! ### A key that lies inside a row -/
theorem rangeAt_row {w : World} {n : Nat} {c : Array Value} {t : TypeId} (h : w.heap[n]? = some (.cells c t (0, 0))) (o k : Nat) : w.rangeAt n o (c.extract o (o + k)).toList := fun j v hv => by
  rw [cell_of_row w n (o + j) c t _ h]
  simp only [Array.getElem?_toList, Array.getElem?_extract] at hv
  split at hv
  · exact hv
  · cases hv
theorem run_loadKey_at (w : World) (n o : Nat) (h1 : w.isRow n = true) (h2 : (w.rowOf n).size = 64) (ho : o + 32 ≤ 64) : (loadRow 23 (.pointer (some ⟨n, o, none⟩))).run Tryz.prog w = .ok (.agg ((w.rowOf n).extract o (o + 32))) w := by
  obtain ⟨t, ht⟩ := World.isRow_spec h1
  have := run_loadAt_mid (P := Tryz.prog) w n o 23 _ _ (rangeAt_row ht o 32) Tryz.underlying23 rfl (by
    rw [show ((w.rowOf n).extract o (o + 32)).toList.length = 32 by simp; omega]; kernel_rfl)
  rw [Array.toArray_toList] at this
  exact this
@[go_sem] theorem run_loadKey_lo (w : World) (n : Nat) (h1 : w.isRow n = true) (h2 : (w.rowOf n).size = 64) : (loadRow 23 (.pointer (some ⟨n, 0, none⟩))).run Tryz.prog w = .ok (.agg (lo (w.rowOf n))) w := run_loadKey_at w n 0 h1 h2 (by decide)
@[go_sem] theorem run_loadKey_hi (w : World) (n : Nat) (h1 : w.isRow n = true) (h2 : (w.rowOf n).size = 64) : (loadRow 23 (.pointer (some ⟨n, 32, none⟩))).run Tryz.prog w = .ok (.agg (hi (w.rowOf n))) w := run_loadKey_at w n 32 h1 h2 (by decide)

/-! ### Whole fractions -/
@[go_sem ↓] theorem loadAt_frac (v : Value) : Instr.loadAt 148 v = loadRow 148 v := rfl
@[go_sem] theorem run_loadFrac (w : World) (n : Nat) (h1 : w.isRow n = true) (h2 : (w.rowOf n).size = 64) : (loadRow 148 (.pointer (some ⟨n, 0, none⟩))).run Tryz.prog w = .ok (.agg (w.rowOf n)) w := run_loadRow w Tryz.underlying148 rfl (by kernel_rfl) n h1 h2
theorem results_frac {fn : Func} {p : Tmp} {x z : Nat} (h : fn.results = #[.cell p 148]) (w : World) (tmps : Array Value) (n : Nat) (hp : tmps.getD p undef = .pointer (some ⟨n, 0, none⟩)) (h1 : w.isRow n = true) (h2 : w.rowOf n = fracA x z) : (results fn tmps).run Tryz.prog w = .ok (fv x z) w :=
  results_row w h Tryz.underlying148 rfl (by rw [fracA_size]; kernel_rfl) tmps n hp h1 h2
theorem results_key_slot {fn : Func} {p p' : Tmp} {m : Nat} {v : Value} (h : fn.results = #[.cell p 23, .tmp p']) (w : World) (tmps : Array Value) (n : Nat) (hp : tmps.getD p undef = .pointer (some ⟨n, 0, none⟩)) (h1 : w.isRow n = true) (h2 : w.rowOf n = keyA m) (hp' : tmps.getD p' undef = v) :
    (results fn tmps).run Tryz.prog w = .ok (.tuple #[kv m, v]) w :=
  results_row_slot w h Tryz.underlying23 rfl (by rw [keyA_size]; kernel_rfl) tmps n hp h1 h2 hp'

/-! ### Keys and fractions that are built -/
def bld (t : TypeId) (ps : Array (Nat × Value)) : Sem Value := Instr.build t ps
@[go_sem ↓] theorem build_key (ps : Array (Nat × Value)) : Instr.build 23 ps = bld 23 ps := rfl
@[go_sem ↓] theorem build_frac (ps : Array (Nat × Value)) : Instr.build 148 ps = bld 148 ps := rfl
theorem keyA_of_ints {c : Array Value} {n : Nat} (hs : c.size = 32) (h : ∀ i, i < 32 → c[i]? = some (.int .u8 (bt n i))) : c = keyA n := by
  apply Array.ext_getElem?
  intro i
  by_cases hi : i < 32
  · rw [h i hi, keyA_get n i hi]
  · rw [Array.getElem?_eq_none (by omega), Array.getElem?_eq_none (by rw [keyA_size]; omega)]
@[go_sem] theorem run_bld_key0 (w : World) : (bld 23 #[]).run Tryz.prog w = .ok (kv 0) w := by
  refine run_build w _ _ _ ?_
  rw [← keyA_small 0 (by decide)]; kernel_rfl
@[go_sem] theorem run_bld_key1 (w : World) : (bld 23 #[(0, .int .u8 1)]).run Tryz.prog w = .ok (kv 1) w := by
  refine run_build w _ _ _ ?_
  rw [← keyA_small 1 (by decide)]; kernel_rfl
@[go_sem] theorem run_bld_key9 (w : World) : (bld 23 #[(0, .int .u8 9)]).run Tryz.prog w = .ok (kv 9) w := by
  refine run_build w _ _ _ ?_
  rw [← keyA_small 9 (by decide)]; kernel_rfl
@[go_sem] theorem run_bld_key255 (w : World) : (bld 23 #[(0, .int .u8 255)]).run Tryz.prog w = .ok (kv 255) w := by
  refine run_build w _ _ _ ?_
  rw [← keyA_small 255 (by decide)]; kernel_rfl
@[go_sem] theorem run_bld_a24 (w : World) : (bld 23 #[(0, .int .u8 65), (1, .int .u8 219), (2, .int .u8 1)]).run Tryz.prog w = .ok (kv 121665) w :=
  run_build w _ _ (keyA 121665) (by kernel_rfl)
@[go_sem] theorem run_bld_123 (w : World) : (bld 23 #[(0, .int .u8 1), (1, .int .u8 2), (2, .int .u8 3)]).run Tryz.prog w = .ok (kv 197121) w :=
  run_build w _ _ (keyA 197121) (by kernel_rfl)
@[go_sem] theorem run_bld_456 (w : World) : (bld 23 #[(0, .int .u8 4), (1, .int .u8 5), (2, .int .u8 6)]).run Tryz.prog w = .ok (kv 394500) w :=
  run_build w _ _ (keyA 394500) (by kernel_rfl)
set_option maxRecDepth 100000 in
@[go_sem] theorem run_bld_frac1 (w : World) (x : Nat) : (bld 148 #[(0, .agg (keyA x))]).run Tryz.prog w = .ok (fv x 0) w := by
  refine run_build w _ _ _ ?_
  have e : fracA x 0 = keyA x ++ #[.int .u8 0, .int .u8 0, .int .u8 0, .int .u8 0, .int .u8 0, .int .u8 0, .int .u8 0, .int .u8 0, .int .u8 0, .int .u8 0, .int .u8 0, .int .u8 0, .int .u8 0, .int .u8 0, .int .u8 0, .int .u8 0, .int .u8 0, .int .u8 0, .int .u8 0, .int .u8 0, .int .u8 0, .int .u8 0, .int .u8 0, .int .u8 0, .int .u8 0, .int .u8 0, .int .u8 0, .int .u8 0, .int .u8 0, .int .u8 0, .int .u8 0, .int .u8 0] := by
    unfold fracA; rw [← keyA_small 0 (by decide)]; rfl
  have h2 : Tryz.prog.built 148 [(0, .agg (keyA x))] = some (keyA x ++ #[.int .u8 0, .int .u8 0, .int .u8 0, .int .u8 0, .int .u8 0, .int .u8 0, .int .u8 0, .int .u8 0, .int .u8 0, .int .u8 0, .int .u8 0, .int .u8 0, .int .u8 0, .int .u8 0, .int .u8 0, .int .u8 0, .int .u8 0, .int .u8 0, .int .u8 0, .int .u8 0, .int .u8 0, .int .u8 0, .int .u8 0, .int .u8 0, .int .u8 0, .int .u8 0, .int .u8 0, .int .u8 0, .int .u8 0, .int .u8 0, .int .u8 0, .int .u8 0]) := by kernel_rfl
  rw [e]; exact h2
set_option maxRecDepth 100000 in
@[go_sem] theorem run_bld_frac2 (w : World) (x z : Nat) : (bld 148 #[(0, .agg (keyA x)), (1, .agg (keyA z))]).run Tryz.prog w = .ok (fv x z) w :=
  run_build w _ _ (fracA x z) (by kernel_rfl)
theorem lays_key (o : Oper) (h : o.op = .alloc 23) (hg : o.guard = none) : Lays Tryz.prog o 23 #[.int .u8 0, .int .u8 0, .int .u8 0, .int .u8 0, .int .u8 0, .int .u8 0, .int .u8 0, .int .u8 0, .int .u8 0, .int .u8 0, .int .u8 0, .int .u8 0, .int .u8 0, .int .u8 0, .int .u8 0, .int .u8 0, .int .u8 0, .int .u8 0, .int .u8 0, .int .u8 0, .int .u8 0, .int .u8 0, .int .u8 0, .int .u8 0, .int .u8 0, .int .u8 0, .int .u8 0, .int .u8 0, .int .u8 0, .int .u8 0, .int .u8 0, .int .u8 0] := by
  refine ⟨hg, fun a w => ?_⟩
  obtain ⟨dst, op, ty, pos, after, guard⟩ := o
  simp only at h hg
  subst h; subst hg
  go_simp
end Go.Proofs.YtddmjddlbhdcpaaGreatDoor.F

/-
  Package curve: swapIf changes two fractions' places, or leaves them.
-/
namespace Go.Proofs.YtddmjddlbhdcpaaGreatDoor.F
open Go.RowKit Go.Shelf Go.Hold

/-! ### Bytes -/
theorem ofInt8 (a : Nat) (h : a < 256) : (BitVec.ofInt 8 (a : Int)).toNat = a := by
  rw [BitVec.ofInt_natCast, BitVec.toNat_ofNat]; exact Nat.mod_eq_of_lt (by omega)
theorem xor8 (a b : Nat) (ha : a < 256) (hb : b < 256) : bits .xor .u8 (a : Int) (b : Int) = ((a ^^^ b : Nat) : Int) := by
  have hx : a ^^^ b < 2 ^ 8 := Nat.xor_lt_two_pow (by omega) (by omega)
  show IntKind.u8.wrap ((BitVec.ofInt 8 (a : Int) ^^^ BitVec.ofInt 8 (b : Int)).toNat : Int) = _
  rw [BitVec.toNat_xor, ofInt8 a ha, ofInt8 b hb, IntKind.wrap_u8]
  omega
theorem and8 (a b : Nat) (ha : a < 256) (hb : b < 256) : bits .and .u8 (a : Int) (b : Int) = ((a &&& b : Nat) : Int) := by
  have hx : a &&& b < 2 ^ 8 := Nat.and_lt_two_pow _ (by omega)
  show IntKind.u8.wrap ((BitVec.ofInt 8 (a : Int) &&& BitVec.ofInt 8 (b : Int)).toNat : Int) = _
  rw [BitVec.toNat_and, ofInt8 a ha, ofInt8 b hb, IntKind.wrap_u8]
  omega

/-- One byte of a, one of b, and what lies between them under a mask of ones or of noughts. -/
theorem swap_byte (s : Bool) (a b : Nat) (ha : a < 256) (hb : b < 256) :
    bits .xor .u8 (a : Int) (bits .and .u8 (bits .xor .u8 (a : Int) (b : Int)) (if s then 255 else 0)) = ((if s then b else a : Nat) : Int) ∧
    bits .xor .u8 (b : Int) (bits .and .u8 (bits .xor .u8 (a : Int) (b : Int)) (if s then 255 else 0)) = ((if s then a else b : Nat) : Int) := by
  have hx : a ^^^ b < 2 ^ 8 := Nat.xor_lt_two_pow (by omega) (by omega)
  have hx' : a ^^^ b < 256 := by simpa using hx
  cases s
  · simp only [Bool.false_eq_true, if_false]
    rw [xor8 a b ha hb, show (0 : Int) = ((0 : Nat) : Int) from rfl, and8 _ 0 hx' (by decide), Nat.and_zero, xor8 a 0 ha (by decide), xor8 b 0 hb (by decide), Nat.xor_zero, Nat.xor_zero]
    exact ⟨rfl, rfl⟩
  · simp only [if_true]
    have h255 : (a ^^^ b) &&& 255 = a ^^^ b := by
      rw [show (255 : Nat) = 2 ^ 8 - 1 from rfl, Nat.and_two_pow_sub_one_eq_mod, Nat.mod_eq_of_lt hx]
    rw [xor8 a b ha hb, show (255 : Int) = ((255 : Nat) : Int) from rfl, and8 _ 255 hx' (by decide), h255, xor8 a _ ha hx', xor8 b _ hb hx']
    refine ⟨?_, ?_⟩
    · rw [← Nat.xor_assoc, Nat.xor_self, Nat.zero_xor]
    · rw [Nat.xor_comm a b, ← Nat.xor_assoc, Nat.xor_self, Nat.zero_xor]

/-- Cells that are changed up to place k in the first half, up to place j in the second one. -/
def mixF (x z X Z k j : Nat) : Array Value := ((List.range 64).map fun i => Value.int .u8 (if i < 32 then (if i < k then bt X i else bt x i) else (if i - 32 < j then bt Z (i - 32) else bt z (i - 32)))).toArray
@[go_sem] theorem mixF_size (x z X Z k j : Nat) : (mixF x z X Z k j).size = 64 := by simp [mixF]
theorem mixF_get (x z X Z k j i : Nat) (h : i < 64) : (mixF x z X Z k j)[i]? = some (.int .u8 (if i < 32 then (if i < k then bt X i else bt x i) else (if i - 32 < j then bt Z (i - 32) else bt z (i - 32)))) := by simp [mixF, h]
theorem mixF_0 (x z X Z : Nat) : mixF x z X Z 0 0 = fracA x z := by
  refine frac_ext (mixF_size _ _ _ _ _ _) (fun i hi => ?_) (fun i hi => ?_)
  · rw [mixF_get _ _ _ _ _ _ _ (by omega)]; simp [hi]
  · rw [mixF_get _ _ _ _ _ _ _ (by omega)]; simp [show ¬ 32 + i < 32 by omega]
theorem mixF_32 (x z X Z : Nat) : mixF x z X Z 32 32 = fracA X Z := by
  refine frac_ext (mixF_size _ _ _ _ _ _) (fun i hi => ?_) (fun i hi => ?_)
  · rw [mixF_get _ _ _ _ _ _ _ (by omega)]; simp [hi]
  · rw [mixF_get _ _ _ _ _ _ _ (by omega)]; simp [hi, show ¬ 32 + i < 32 by omega]
theorem mixF_at0 (x z X Z k j : Nat) (hk : k < 32) : (mixF x z X Z k j)[k]? = some (.int .u8 (bt x k)) := by
  have := mixF_get x z X Z k j k (by omega)
  simpa [hk] using this
theorem mixF_at1 (x z X Z k j : Nat) (hj : j < 32) : (mixF x z X Z k j)[32 + j]? = some (.int .u8 (bt z j)) := by
  have := mixF_get x z X Z k j (32 + j) (by omega)
  simpa [show ¬ 32 + j < 32 by omega] using this
theorem mixF_set0 (x z X Z k j : Nat) (hk : k < 32) : (mixF x z X Z k j).setIfInBounds k (.int .u8 (bt X k)) = mixF x z X Z (k + 1) j := by
  apply Array.ext_getElem?
  intro i
  rw [Array.getElem?_setIfInBounds]
  by_cases h : i < 64
  · rw [mixF_get _ _ _ _ _ _ _ h, mixF_get _ _ _ _ _ _ _ h]
    by_cases e : k = i
    · subst e; simp [mixF_size, h, hk]
    · rw [if_neg e]
      by_cases h1 : i < k
      · simp [h1, show i < k + 1 by omega]
      · simp [h1, show ¬ i < k + 1 by omega]
  · rw [Array.getElem?_eq_none (by rw [mixF_size]; omega), Array.getElem?_eq_none (by rw [mixF_size]; omega), if_neg (by omega)]
theorem mixF_set1 (x z X Z k j : Nat) (hj : j < 32) : (mixF x z X Z k j).setIfInBounds (32 + j) (.int .u8 (bt Z j)) = mixF x z X Z k (j + 1) := by
  apply Array.ext_getElem?
  intro i
  rw [Array.getElem?_setIfInBounds]
  by_cases h : i < 64
  · rw [mixF_get _ _ _ _ _ _ _ h, mixF_get _ _ _ _ _ _ _ h]
    by_cases e : 32 + j = i
    · subst e; simp [mixF_size, show ¬ 32 + j < 32 by omega, h]
    · rw [if_neg e]
      by_cases h0 : i < 32
      · simp [h0]
      · by_cases h1 : i - 32 < j
        · simp [h0, h1, show i - 32 < j + 1 by omega]
        · simp [h0, h1, show ¬ i - 32 < j + 1 by omega]
  · rw [Array.getElem?_eq_none (by rw [mixF_size]; omega), Array.getElem?_eq_none (by rw [mixF_size]; omega), if_neg (by omega)]
theorem bt_sel (s : Bool) (x x' k : Nat) : ((if s then x' / 256 ^ k % 256 else x / 256 ^ k % 256 : Nat) : Int) = bt (if s then x' else x) k := by cases s <;> rfl

set_option maxHeartbeats 2000000 in
set_option maxRecDepth 100000 in
theorem swapIf_any (s : Bool) (x z x' z' : Nat) (w : World) :
    Calls Tryz.prog 95 #[.int .u8 (if s then 1 else 0), fv x z, fv x' z'] w fun e w' => e = .returned (.tuple #[fv (if s then x' else x) (if s then z' else z), fv (if s then x else x') (if s then z else z')]) ∧ Below w.heap.size w w' := by
  obtain ⟨X, eX⟩ : ∃ y, y = if s then x' else x := ⟨_, rfl⟩
  obtain ⟨Z, eZ⟩ : ∃ y, y = if s then z' else z := ⟨_, rfl⟩
  obtain ⟨X', eX'⟩ : ∃ y, y = if s then x else x' := ⟨_, rfl⟩
  obtain ⟨Z', eZ'⟩ : ∃ y, y = if s then z else z' := ⟨_, rfl⟩
  obtain ⟨m, em⟩ : ∃ y : Int, y = if s then 255 else 0 := ⟨_, rfl⟩
  have hm : IntKind.u8.wrap (-(if s then 1 else 0)) = m := by rw [em]; cases s <;> rfl
  obtain ⟨sv, es⟩ : ∃ y : Int, y = if s then 1 else 0 := ⟨_, rfl⟩
  rw [← es] at hm
  have hbyte : ∀ a b : Nat, a < 256 → b < 256 → bits .xor .u8 (a : Int) (bits .and .u8 (bits .xor .u8 (a : Int) (b : Int)) m) = ((if s then b else a : Nat) : Int) ∧ bits .xor .u8 (b : Int) (bits .and .u8 (bits .xor .u8 (a : Int) (b : Int)) m) = ((if s then a else b : Nat) : Int) := by
    rw [em]; exact swap_byte s
  have hx : ∀ k, bits .xor .u8 (bt x k) (bits .and .u8 (bits .xor .u8 (bt x k) (bt x' k)) m) = bt X k ∧ bits .xor .u8 (bt x' k) (bits .and .u8 (bits .xor .u8 (bt x k) (bt x' k)) m) = bt X' k := fun k => by
    have := hbyte _ _ (Nat.mod_lt (x / 256 ^ k) (show 0 < 256 by decide)) (Nat.mod_lt (x' / 256 ^ k) (show 0 < 256 by decide))
    rw [bt_sel, bt_sel] at this
    rw [eX, eX']; exact this
  have hz : ∀ k, bits .xor .u8 (bt z k) (bits .and .u8 (bits .xor .u8 (bt z k) (bt z' k)) m) = bt Z k ∧ bits .xor .u8 (bt z' k) (bits .and .u8 (bits .xor .u8 (bt z k) (bt z' k)) m) = bt Z' k := fun k => by
    have := hbyte _ _ (Nat.mod_lt (z / 256 ^ k) (show 0 < 256 by decide)) (Nat.mod_lt (z' / 256 ^ k) (show 0 < 256 by decide))
    rw [bt_sel, bt_sel] at this
    rw [eZ, eZ']; exact this
  rw [← es, ← eX, ← eZ, ← eX', ← eZ']
  clear es eX eZ eX' eZ' em hbyte
  have HX := Lib.hid hx
  have HZ := Lib.hid hz
  clear hx hz
  go_enter Tryz.func95, Tryz.ntmps95
  go_wp2_with fail
  go_loopw [14] (fun i w' => ∃ (k : Nat) (o : Array Obj) (d : Nat), k ≤ 32 ∧ i = .int .i64 k ∧
    w' = ((((w.alloc (.cells (mixF x z X Z k k) 148)).alloc (.cells (mixF x' z' X' Z' k k) 148)).alloc (.cells #[.int .u8 0, .int .u8 0, .int .u8 0, .int .u8 0, .int .u8 0, .int .u8 0, .int .u8 0, .int .u8 0, .int .u8 0, .int .u8 0, .int .u8 0, .int .u8 0, .int .u8 0, .int .u8 0, .int .u8 0, .int .u8 0, .int .u8 0, .int .u8 0, .int .u8 0, .int .u8 0, .int .u8 0, .int .u8 0, .int .u8 0, .int .u8 0, .int .u8 0, .int .u8 0, .int .u8 0, .int .u8 0, .int .u8 0, .int .u8 0, .int .u8 0, .int .u8 0, .int .u8 0, .int .u8 0, .int .u8 0, .int .u8 0, .int .u8 0, .int .u8 0, .int .u8 0, .int .u8 0, .int .u8 0, .int .u8 0, .int .u8 0, .int .u8 0, .int .u8 0, .int .u8 0, .int .u8 0, .int .u8 0, .int .u8 0, .int .u8 0, .int .u8 0, .int .u8 0, .int .u8 0, .int .u8 0, .int .u8 0, .int .u8 0, .int .u8 0, .int .u8 0, .int .u8 0, .int .u8 0, .int .u8 0, .int .u8 0, .int .u8 0, .int .u8 0] 148)).alloc (.cells #[.int .u8 0, .int .u8 0, .int .u8 0, .int .u8 0, .int .u8 0, .int .u8 0, .int .u8 0, .int .u8 0, .int .u8 0, .int .u8 0, .int .u8 0, .int .u8 0, .int .u8 0, .int .u8 0, .int .u8 0, .int .u8 0, .int .u8 0, .int .u8 0, .int .u8 0, .int .u8 0, .int .u8 0, .int .u8 0, .int .u8 0, .int .u8 0, .int .u8 0, .int .u8 0, .int .u8 0, .int .u8 0, .int .u8 0, .int .u8 0, .int .u8 0, .int .u8 0, .int .u8 0, .int .u8 0, .int .u8 0, .int .u8 0, .int .u8 0, .int .u8 0, .int .u8 0, .int .u8 0, .int .u8 0, .int .u8 0, .int .u8 0, .int .u8 0, .int .u8 0, .int .u8 0, .int .u8 0, .int .u8 0, .int .u8 0, .int .u8 0, .int .u8 0, .int .u8 0, .int .u8 0, .int .u8 0, .int .u8 0, .int .u8 0, .int .u8 0, .int .u8 0, .int .u8 0, .int .u8 0, .int .u8 0, .int .u8 0, .int .u8 0, .int .u8 0] 148)).plus o d) (fun i _ => 32 - (intOf i).toNat)
  case atStart =>
    refine ⟨0, #[], w.drawn, by decide, rfl, ?_⟩
    rw [mixF_0, mixF_0]; rfl
  case round =>
    obtain ⟨k, o, d, hk, rfl, rfl⟩ := hrel
    by_cases hk32 : k < 32
    · have hk0 : (0 : Int) ≤ (k : Int) := by omega
      have hk1 : (k : Int) < 32 := by omega
      have a1 := mixF_at0 x z X Z k k hk32
      have a2 := mixF_at0 x' z' X' Z' k k hk32
      have a3 := mixF_at1 x z X Z k k hk32
      have a4 := mixF_at1 x' z' X' Z' k k hk32
      have b3 := mixF_at1 x z X Z (k + 1) k hk32
      have b4 := mixF_at1 x' z' X' Z' (k + 1) k hk32
      have c1 := mixF_set0 x z X Z k k hk32
      have c2 := mixF_set0 x' z' X' Z' k k hk32
      have c3 := mixF_set1 x z X Z (k + 1) k hk32
      have c4 := mixF_set1 x' z' X' Z' (k + 1) k hk32
      obtain ⟨d1, d2⟩ := HX.out k
      obtain ⟨d3, d4⟩ := HZ.out k
      generalize et : bits .and .u8 (bits .xor .u8 (bt x k) (bt x' k)) m = tx at d1 d2
      generalize et' : bits .and .u8 (bits .xor .u8 (bt z k) (bt z' k)) m = tz at d3 d4
      clear HX HZ
      go_wp2_with fail
      generalize hW : World.alloc _ _ = W1
      refine wp_region_fast (fun w' => ∃ o d, w' = W1.plus o d) (by kernel_rfl) (by kernel_rfl) ⟨_, _, rfl⟩ ?_
      subst hW
      iterate 24 (refine wpHold_val ⟨_, #[], 0, rfl⟩ (wanted_none rfl) (by rintro K _ ⟨o, d, rfl⟩ hK; go_simp; exact hK _ ⟨o, d, rfl⟩) ?_)
      refine wpHold_nil ?_
      rintro _ ⟨o2, n2, rfl⟩
      go_wp2_with fail
      go_roundw
      case rel => exact ⟨k + 1, _, _, by omega, by go_num, rfl⟩
      case measure => simp [intOf]; omega
    · obtain rfl : k = 32 := by omega
      rw [mixF_32, mixF_32]
      go_wp2_with fail
      go_region
      all_goals
        go_wp2_with fail
        refine bodyPost_ret (v := .tuple #[fv X Z, fv X' Z']) (results_row2 _ Tryz.results95 Tryz.underlying148 rfl (by rw [fracA_size]; kernel_rfl) Tryz.underlying148 rfl (by rw [fracA_size]; kernel_rfl) _ _ _ rfl (by go_simp) (by go_simp) rfl (by go_simp) (by go_simp)) rfl ⟨rfl, ?_⟩
        repeat (first | apply below_more | apply below_alloc | exact Below.refl _ _)
end Go.Proofs.YtddmjddlbhdcpaaGreatDoor.F

/-
  The twisted Edwards curve a u^2 + v^2 = 1 + d u^2 v^2: three points may be added in either order: an identity for each coordinate, with what the three equations are multiplied by. (Written by wip/edwards.py.)
-/
namespace Go.Proofs.YtddmjddlbhdcpaaGreatDoor.Ed
variable {n : Nat} [NeZero n]
/-- Nought on the curve. -/
def ed (a d u v : Fin n) : Fin n := a*u*u + v*v - 1 - d*u*u*v*v
set_option maxRecDepth 100000 in
set_option maxHeartbeats 4000000 in
theorem assoc_u (a d u1 v1 u2 v2 u3 v3 : Fin n) : ((u1*v2+v1*u2)*(1-(d*(u1*u2*v1*v2)))*v3 + (v1*v2-a*(u1*u2))*(1+(d*(u1*u2*v1*v2)))*u3)*((1-(d*(u2*u3*v2*v3))*(d*(u2*u3*v2*v3))) + d*(u1*v1*(u2*v3+v2*u3)*(v2*v3-a*(u2*u3)))) - (u1*((v2*v3-a*(u2*u3))*(1+(d*(u2*u3*v2*v3)))) + v1*((u2*v3+v2*u3)*(1-(d*(u2*u3*v2*v3)))))*((1-(d*(u1*u2*v1*v2))*(d*(u1*u2*v1*v2))) + d*((u1*v2+v1*u2)*(v1*v2-a*(u1*u2))*u3*v3)) =
  ((-1)*v1*u2*v2*v2*v2*v2*u3*u3*v3*d + (-1)*v1*u2*u2*v2*v2*v2*u3*d + 1*v1*u2*u2*v2*v2*v2*u3*u3*u3*d*a + (-1)*v1*u2*u2*u2*v2*v2*v3*d + 1*v1*u2*u2*u2*v2*v2*v3*v3*v3*d + 1*v1*u2*u2*u2*v2*v2*v2*v2*u3*u3*v3*d*d + (-1)*v1*u2*u2*u2*u2*v2*u3*v3*v3*d*a + 1*v1*u2*u2*u2*u2*v2*v2*v2*u3*v3*v3*d*d + 1*u1*u2*v2*v2*v2*v2*u3*v3*v3*d + (-1)*u1*u2*u2*v2*v2*v2*v3*d + 1*u1*u2*u2*v2*v2*v2*v3*v3*v3*d + 1*u1*u2*u2*u2*v2*v2*u3*d*a + (-1)*u1*u2*u2*u2*v2*v2*u3*u3*u3*d*a*a + (-1)*u1*u2*u2*u2*v2*v2*v2*v2*u3*v3*v3*d*d + (-1)*u1*u2*u2*u2*u2*v2*u3*u3*v3*d*a*a + 1*u1*u2*u2*u2*u2*v2*v2*v2*u3*u3*v3*d*d*a)*ed a d u1 v1 + (1*v1*v2*u3 + (-1)*v1*v2*u3*v3*v3 + (-1)*v1*v2*u3*u3*u3*a + 1*v1*v2*u3*u3*u3*v3*v3*d + 1*v1*u2*v3 + (-1)*v1*u2*v3*v3*v3 + (-1)*v1*u2*u3*u3*v3*a + 1*v1*u2*u3*u3*v3*v3*v3*d + (-1)*v1*u2*v2*v2*u3*u3*v3*d + (-1)*v1*u2*u2*v2*u3*v3*v3*d + (-1)*v1*v1*v1*v2*u3 + 1*v1*v1*v1*v2*u3*v3*v3 + 1*v1*v1*v1*v2*u3*u3*u3*a + (-1)*v1*v1*v1*v2*u3*u3*u3*v3*v3*d + (-1)*v1*v1*v1*u2*v3 + 1*v1*v1*v1*u2*v3*v3*v3 + 1*v1*v1*v1*u2*u3*u3*v3*a + (-1)*v1*v1*v1*u2*u3*u3*v3*v3*v3*d + 1*v1*v1*v1*u2*v2*v2*u3*u3*v3*d + 1*v1*v1*v1*u2*u2*v2*u3*v3*v3*d + 1*u1*v2*v3 + (-1)*u1*v2*v3*v3*v3 + (-1)*u1*v2*u3*u3*v3*a + 1*u1*v2*u3*u3*v3*v3*v3*d + (-1)*u1*u2*u3*a + 1*u1*u2*u3*v3*v3*a + 1*u1*u2*u3*u3*u3*a*a + (-1)*u1*u2*u3*u3*u3*v3*v3*d*a + 1*u1*u2*v2*v2*u3*v3*v3*d + (-1)*u1*u2*u2*v2*u3*u3*v3*d*a + (-1)*u1*v1*v1*v2*v3 + 1*u1*v1*v1*v2*v3*v3*v3 + 1*u1*v1*v1*v2*u3*u3*v3*a + (-1)*u1*v1*v1*v2*u3*u3*v3*v3*v3*d + 1*u1*v1*v1*u2*u3*a + (-1)*u1*v1*v1*u2*u3*v3*v3*a + (-1)*u1*v1*v1*u2*u3*u3*u3*a*a + 1*u1*v1*v1*u2*u3*u3*u3*v3*v3*d*a + (-1)*u1*v1*v1*u2*v2*v2*u3*v3*v3*d + 1*u1*v1*v1*u2*v2*v2*u3*u3*u3*v3*v3*d*d + 1*u1*v1*v1*u2*u2*v2*u3*u3*v3*d*a + (-1)*u1*v1*v1*u2*u2*v2*u3*u3*v3*v3*v3*d*d + (-1)*u1*u1*v1*v2*u3*a + 1*u1*u1*v1*v2*u3*v3*v3*a + 1*u1*u1*v1*v2*u3*u3*u3*a*a + (-1)*u1*u1*v1*v2*u3*u3*u3*v3*v3*d*a + (-1)*u1*u1*v1*u2*v3*a + 1*u1*u1*v1*u2*v3*v3*v3*a + 1*u1*u1*v1*u2*u3*u3*v3*a*a + (-1)*u1*u1*v1*u2*u3*u3*v3*v3*v3*d*a + 1*u1*u1*v1*u2*v2*v2*u3*u3*v3*d*a + (-1)*u1*u1*v1*u2*v2*v2*u3*u3*v3*v3*v3*d*d + 1*u1*u1*v1*u2*u2*v2*u3*v3*v3*d*a + (-1)*u1*u1*v1*u2*u2*v2*u3*u3*u3*v3*v3*d*d*a + (-1)*u1*u1*u1*v2*v3*a + 1*u1*u1*u1*v2*v3*v3*v3*a + 1*u1*u1*u1*v2*u3*u3*v3*a*a + (-1)*u1*u1*u1*v2*u3*u3*v3*v3*v3*d*a + 1*u1*u1*u1*u2*u3*a*a + (-1)*u1*u1*u1*u2*u3*v3*v3*a*a + (-1)*u1*u1*u1*u2*u3*u3*u3*a*a*a + 1*u1*u1*u1*u2*u3*u3*u3*v3*v3*d*a*a + (-1)*u1*u1*u1*u2*v2*v2*u3*v3*v3*d*a + 1*u1*u1*u1*u2*u2*v2*u3*u3*v3*d*a*a)*ed a d u2 v2 + ((-1)*v1*v2*u3 + 1*v1*v2*v2*v2*u3 + (-1)*v1*u2*v3 + 1*v1*u2*v2*v2*v3 + 1*v1*u2*u2*v2*u3*a + 1*v1*u2*u2*u2*v3*a + 1*v1*v1*v1*v2*u3 + (-1)*v1*v1*v1*v2*v2*v2*u3 + 1*v1*v1*v1*u2*v3 + (-1)*v1*v1*v1*u2*v2*v2*v3 + (-1)*v1*v1*v1*u2*u2*v2*u3*a + (-1)*v1*v1*v1*u2*u2*u2*v3*a + (-1)*u1*v2*v3 + 1*u1*v2*v2*v2*v3 + 1*u1*u2*u3*a + (-1)*u1*u2*v2*v2*u3*a + 1*u1*u2*u2*v2*v3*a + (-1)*u1*u2*u2*u2*u3*a*a + 1*u1*v1*v1*v2*v3 + (-1)*u1*v1*v1*v2*v2*v2*v3 + (-1)*u1*v1*v1*u2*u3*a + 1*u1*v1*v1*u2*v2*v2*u3*a + (-1)*u1*v1*v1*u2*v2*v2*u3*d + (-1)*u1*v1*v1*u2*u2*v2*v3*a + 1*u1*v1*v1*u2*u2*v2*v3*d + 1*u1*v1*v1*u2*u2*u2*u3*a*a + 1*u1*u1*v1*v2*u3*a + (-1)*u1*u1*v1*v2*v2*v2*u3*a + 1*u1*u1*v1*u2*v3*a + (-1)*u1*u1*v1*u2*v2*v2*v3*a + 1*u1*u1*v1*u2*v2*v2*v3*d + (-1)*u1*u1*v1*u2*u2*v2*u3*a*a + 1*u1*u1*v1*u2*u2*v2*u3*d*a + (-1)*u1*u1*v1*u2*u2*u2*v3*a*a + 1*u1*u1*u1*v2*v3*a + (-1)*u1*u1*u1*v2*v2*v2*v3*a + (-1)*u1*u1*u1*u2*u3*a*a + 1*u1*u1*u1*u2*v2*v2*u3*a*a + (-1)*u1*u1*u1*u2*u2*v2*v3*a*a + 1*u1*u1*u1*u2*u2*u2*u3*a*a*a)*ed a d u3 v3 := by
  unfold ed; grind -splitMatch -splitIte -splitIndPred -funext -lia -linarith (splits := 0) (ematch := 0)
set_option maxRecDepth 100000 in
set_option maxHeartbeats 4000000 in
theorem assoc_v (a d u1 v1 u2 v2 u3 v3 : Fin n) : ((v1*v2-a*(u1*u2))*(1+(d*(u1*u2*v1*v2)))*v3 - a*((u1*v2+v1*u2)*(1-(d*(u1*u2*v1*v2)))*u3))*((1-(d*(u2*u3*v2*v3))*(d*(u2*u3*v2*v3))) - d*(u1*v1*(u2*v3+v2*u3)*(v2*v3-a*(u2*u3)))) - (v1*((v2*v3-a*(u2*u3))*(1+(d*(u2*u3*v2*v3)))) - a*(u1*((u2*v3+v2*u3)*(1-(d*(u2*u3*v2*v3))))))*((1-(d*(u1*u2*v1*v2))*(d*(u1*u2*v1*v2))) - d*((u1*v2+v1*u2)*(v1*v2-a*(u1*u2))*u3*v3)) =
  (1*v1*u2*v2*v2*v2*v2*u3*v3*v3*d + (-1)*v1*u2*u2*v2*v2*v2*v3*d + 1*v1*u2*u2*v2*v2*v2*v3*v3*v3*d + 1*v1*u2*u2*u2*v2*v2*u3*d*a + (-1)*v1*u2*u2*u2*v2*v2*u3*u3*u3*d*a*a + (-1)*v1*u2*u2*u2*v2*v2*v2*v2*u3*v3*v3*d*d + (-1)*v1*u2*u2*u2*u2*v2*u3*u3*v3*d*a*a + 1*v1*u2*u2*u2*u2*v2*v2*v2*u3*u3*v3*d*d*a + 1*u1*u2*v2*v2*v2*v2*u3*u3*v3*d*a + 1*u1*u2*u2*v2*v2*v2*u3*d*a + (-1)*u1*u2*u2*v2*v2*v2*u3*u3*u3*d*a*a + 1*u1*u2*u2*u2*v2*v2*v3*d*a + (-1)*u1*u2*u2*u2*v2*v2*v3*v3*v3*d*a + (-1)*u1*u2*u2*u2*v2*v2*v2*v2*u3*u3*v3*d*d*a + 1*u1*u2*u2*u2*u2*v2*u3*v3*v3*d*a*a + (-1)*u1*u2*u2*u2*u2*v2*v2*v2*u3*v3*v3*d*d*a)*ed a d u1 v1 + (1*v1*v2*v3 + (-1)*v1*v2*v3*v3*v3 + (-1)*v1*v2*u3*u3*v3*a + 1*v1*v2*u3*u3*v3*v3*v3*d + (-1)*v1*u2*u3*a + 1*v1*u2*u3*v3*v3*a + 1*v1*u2*u3*u3*u3*a*a + (-1)*v1*u2*u3*u3*u3*v3*v3*d*a + 1*v1*u2*v2*v2*u3*v3*v3*d + (-1)*v1*u2*u2*v2*u3*u3*v3*d*a + (-1)*v1*v1*v1*v2*v3 + 1*v1*v1*v1*v2*v3*v3*v3 + 1*v1*v1*v1*v2*u3*u3*v3*a + (-1)*v1*v1*v1*v2*u3*u3*v3*v3*v3*d + 1*v1*v1*v1*u2*u3*a + (-1)*v1*v1*v1*u2*u3*v3*v3*a + (-1)*v1*v1*v1*u2*u3*u3*u3*a*a + 1*v1*v1*v1*u2*u3*u3*u3*v3*v3*d*a + (-1)*v1*v1*v1*u2*v2*v2*u3*v3*v3*d + 1*v1*v1*v1*u2*u2*v2*u3*u3*v3*d*a + (-1)*u1*v2*u3*a + 1*u1*v2*u3*v3*v3*a + 1*u1*v2*u3*u3*u3*a*a + (-1)*u1*v2*u3*u3*u3*v3*v3*d*a + (-1)*u1*u2*v3*a + 1*u1*u2*v3*v3*v3*a + 1*u1*u2*u3*u3*v3*a*a + (-1)*u1*u2*u3*u3*v3*v3*v3*d*a + 1*u1*u2*v2*v2*u3*u3*v3*d*a + 1*u1*u2*u2*v2*u3*v3*v3*d*a + 1*u1*v1*v1*v2*u3*a + (-1)*u1*v1*v1*v2*u3*v3*v3*a + (-1)*u1*v1*v1*v2*u3*u3*u3*a*a + 1*u1*v1*v1*v2*u3*u3*u3*v3*v3*d*a + 1*u1*v1*v1*u2*v3*a + (-1)*u1*v1*v1*u2*v3*v3*v3*a + (-1)*u1*v1*v1*u2*u3*u3*v3*a*a + 1*u1*v1*v1*u2*u3*u3*v3*v3*v3*d*a + (-1)*u1*v1*v1*u2*v2*v2*u3*u3*v3*d*a + 1*u1*v1*v1*u2*v2*v2*u3*u3*v3*v3*v3*d*d + (-1)*u1*v1*v1*u2*u2*v2*u3*v3*v3*d*a + 1*u1*v1*v1*u2*u2*v2*u3*u3*u3*v3*v3*d*d*a + (-1)*u1*u1*v1*v2*v3*a + 1*u1*u1*v1*v2*v3*v3*v3*a + 1*u1*u1*v1*v2*u3*u3*v3*a*a + (-1)*u1*u1*v1*v2*u3*u3*v3*v3*v3*d*a + 1*u1*u1*v1*u2*u3*a*a + (-1)*u1*u1*v1*u2*u3*v3*v3*a*a + (-1)*u1*u1*v1*u2*u3*u3*u3*a*a*a + 1*u1*u1*v1*u2*u3*u3*u3*v3*v3*d*a*a + (-1)*u1*u1*v1*u2*v2*v2*u3*v3*v3*d*a + 1*u1*u1*v1*u2*v2*v2*u3*u3*u3*v3*v3*d*d*a + 1*u1*u1*v1*u2*u2*v2*u3*u3*v3*d*a*a + (-1)*u1*u1*v1*u2*u2*v2*u3*u3*v3*v3*v3*d*d*a + 1*u1*u1*u1*v2*u3*a*a + (-1)*u1*u1*u1*v2*u3*v3*v3*a*a + (-1)*u1*u1*u1*v2*u3*u3*u3*a*a*a + 1*u1*u1*u1*v2*u3*u3*u3*v3*v3*d*a*a + 1*u1*u1*u1*u2*v3*a*a + (-1)*u1*u1*u1*u2*v3*v3*v3*a*a + (-1)*u1*u1*u1*u2*u3*u3*v3*a*a*a + 1*u1*u1*u1*u2*u3*u3*v3*v3*v3*d*a*a + (-1)*u1*u1*u1*u2*v2*v2*u3*u3*v3*d*a*a + (-1)*u1*u1*u1*u2*u2*v2*u3*v3*v3*d*a*a)*ed a d u2 v2 + ((-1)*v1*v2*v3 + 1*v1*v2*v2*v2*v3 + 1*v1*u2*u3*a + (-1)*v1*u2*v2*v2*u3*a + 1*v1*u2*u2*v2*v3*a + (-1)*v1*u2*u2*u2*u3*a*a + 1*v1*v1*v1*v2*v3 + (-1)*v1*v1*v1*v2*v2*v2*v3 + (-1)*v1*v1*v1*u2*u3*a + 1*v1*v1*v1*u2*v2*v2*u3*a + (-1)*v1*v1*v1*u2*u2*v2*v3*a + 1*v1*v1*v1*u2*u2*u2*u3*a*a + 1*u1*v2*u3*a + (-1)*u1*v2*v2*v2*u3*a + 1*u1*u2*v3*a + (-1)*u1*u2*v2*v2*v3*a + (-1)*u1*u2*u2*v2*u3*a*a + (-1)*u1*u2*u2*u2*v3*a*a + (-1)*u1*v1*v1*v2*u3*a + 1*u1*v1*v1*v2*v2*v2*u3*a + (-1)*u1*v1*v1*u2*v3*a + 1*u1*v1*v1*u2*v2*v2*v3*a + (-1)*u1*v1*v1*u2*v2*v2*v3*d + 1*u1*v1*v1*u2*u2*v2*u3*a*a + (-1)*u1*v1*v1*u2*u2*v2*u3*d*a + 1*u1*v1*v1*u2*u2*u2*v3*a*a + 1*u1*u1*v1*v2*v3*a + (-1)*u1*u1*v1*v2*v2*v2*v3*a + (-1)*u1*u1*v1*u2*u3*a*a + 1*u1*u1*v1*u2*v2*v2*u3*a*a + (-1)*u1*u1*v1*u2*v2*v2*u3*d*a + (-1)*u1*u1*v1*u2*u2*v2*v3*a*a + 1*u1*u1*v1*u2*u2*v2*v3*d*a + 1*u1*u1*v1*u2*u2*u2*u3*a*a*a + (-1)*u1*u1*u1*v2*u3*a*a + 1*u1*u1*u1*v2*v2*v2*u3*a*a + (-1)*u1*u1*u1*u2*v3*a*a + 1*u1*u1*u1*u2*v2*v2*v3*a*a + 1*u1*u1*u1*u2*u2*v2*u3*a*a*a + 1*u1*u1*u1*u2*u2*u2*v3*a*a*a)*ed a d u3 v3 := by
  unfold ed; grind -splitMatch -splitIte -splitIndPred -funext -lia -linarith (splits := 0) (ematch := 0)
set_option maxRecDepth 100000 in
set_option maxHeartbeats 4000000 in
/-- A sum lies on the curve. -/
theorem closed (a d u1 v1 u2 v2 : Fin n) : a*((u1*v2+v1*u2)*(1-(d*(u1*u2*v1*v2))))*((u1*v2+v1*u2)*(1-(d*(u1*u2*v1*v2)))) + ((v1*v2-a*(u1*u2))*(1+(d*(u1*u2*v1*v2))))*((v1*v2-a*(u1*u2))*(1+(d*(u1*u2*v1*v2)))) - (1-(d*(u1*u2*v1*v2))*(d*(u1*u2*v1*v2)))*(1-(d*(u1*u2*v1*v2))*(d*(u1*u2*v1*v2))) - d*((u1*v2+v1*u2)*(v1*v2-a*(u1*u2)))*((u1*v2+v1*u2)*(v1*v2-a*(u1*u2))) =
  (1*v2*v2*v2*v2 + 4*u2*u2*v2*v2*a + (-2)*u2*u2*v2*v2*d + (-2)*u2*u2*v2*v2*v2*v2*a + 1*u2*u2*u2*u2*a*a + (-2)*u2*u2*u2*u2*v2*v2*a*a + 2*u2*u2*u2*u2*v2*v2*v2*v2*d*a + (-1)*u2*u2*u2*u2*v2*v2*v2*v2*d*d + (-1)*v1*v1*u2*u2*v2*v2*v2*v2*d + (-1)*v1*v1*u2*u2*u2*u2*v2*v2*d*a + 1*v1*v1*u2*u2*u2*u2*v2*v2*v2*v2*d*d + (-1)*u1*u1*u2*u2*v2*v2*v2*v2*d*a + (-1)*u1*u1*u2*u2*u2*u2*v2*v2*d*a*a + 1*u1*u1*u2*u2*u2*u2*v2*v2*v2*v2*d*d*a + 1*u1*u1*v1*v1*u2*u2*u2*u2*v2*v2*v2*v2*d*d*d)*ed a d u1 v1 + (1 + 1*v2*v2 + 1*u2*u2*a + (-2)*u2*u2*v2*v2*a + 1*u2*u2*v2*v2*d + (-1)*v1*v1*v2*v2 + (-1)*v1*v1*u2*u2*a + 2*v1*v1*u2*u2*v2*v2*a + (-2)*v1*v1*u2*u2*v2*v2*d + 1*v1*v1*v1*v1*u2*u2*v2*v2*d + (-1)*u1*u1*v2*v2*a + (-1)*u1*u1*u2*u2*a*a + 2*u1*u1*u2*u2*v2*v2*a*a + (-2)*u1*u1*u2*u2*v2*v2*d*a + 1*u1*u1*u1*u1*u2*u2*v2*v2*d*a*a)*ed a d u2 v2 := by
  unfold ed; grind -splitMatch -splitIte -splitIndPred -funext -lia -linarith (splits := 0) (ematch := 0)
end Go.Proofs.YtddmjddlbhdcpaaGreatDoor.Ed

/-
  The twisted Edwards curve a u^2 + v^2 = 1 + d u^2 v^2 over a field of n elements, a square, d none: its points are a group.
-/
namespace Go.Proofs.YtddmjddlbhdcpaaGreatDoor.Ed
/-- Numbers modulo n with an inverse. -/
structure Fld (n : Nat) [NeZero n] where
  inv : Fin n → Fin n
  inv_mul : ∀ x, x ≠ 0 → x * inv x = 1
  inv_zero : inv 0 = 0
  one_ne : (1 : Fin n) ≠ 0
  two_ne : (2 : Fin n) ≠ 0
section
variable {n : Nat} [NeZero n]
theorem Fld.zero_of (F : Fld n) {x y : Fin n} (h : x * y = 0) (hx : x ≠ 0) : y = 0 := by
  have h1 := F.inv_mul x hx
  have h2 : y = (x * F.inv x) * y := by rw [h1]; grind
  rw [h2, show x * F.inv x * y = F.inv x * (x * y) by grind, h]; grind
theorem Fld.mul_ne (F : Fld n) {x y : Fin n} (hx : x ≠ 0) (hy : y ≠ 0) : x * y ≠ 0 := fun h => hy (F.zero_of h hx)
theorem Fld.cancel (F : Fld n) {c x y : Fin n} (hc : c ≠ 0) (h : c * x = c * y) : x = y := by
  have : x - y = 0 := F.zero_of (x := c) (by grind) hc
  grind
theorem Fld.inv_ne (F : Fld n) {x : Fin n} (hx : x ≠ 0) : F.inv x ≠ 0 := fun h => by
  have := F.inv_mul x hx
  rw [h] at this
  exact F.one_ne (by grind)
theorem Fld.sq_eq (F : Fld n) {x y : Fin n} (h : x * x = y * y) : x = y ∨ x = -y := by
  by_cases hx : x - y = 0
  · left; grind
  · right
    have := F.zero_of (x := x - y) (y := x + y) (by grind) hx
    grind

/-- A curve: a is a square, not nought; d is none. -/
structure Crv (n : Nat) [NeZero n] where
  a : Fin n
  d : Fin n
  s : Fin n
  ha : a = s * s
  hs : s ≠ 0
  hd : ∀ t, d ≠ t * t
def Crv.On (C : Crv n) (p : Fin n × Fin n) : Prop := C.a * (p.1 * p.1) + p.2 * p.2 = 1 + C.d * (p.1 * p.1) * (p.2 * p.2)
def Crv.dl (C : Crv n) (p q : Fin n × Fin n) : Fin n := C.d * (p.1 * q.1 * p.2 * q.2)
/-- No denominator is nought. -/
theorem complete_sq (F : Fld n) (C : Crv n) {p q : Fin n × Fin n} (hp : C.On p) (hq : C.On q) : C.dl p q * C.dl p q ≠ 1 := by
  obtain ⟨u1, v1⟩ := p; obtain ⟨u2, v2⟩ := q
  obtain ⟨a, d, s, ha, hs, hd⟩ := C
  simp only [Crv.On, Crv.dl] at *
  subst ha
  intro h
  generalize hδ : d * (u1 * u2 * v1 * v2) = δ at h
  have key : ∀ t : Fin n, (s * u1 + δ * v1 * t) * (s * u1 + δ * v1 * t) = d * ((u1 * v1) * (u1 * v1)) * ((s * u2 + v2 * t) * (s * u2 + v2 * t)) → t * t = 1 → s * u2 + v2 * t ≠ 0 → False := by
    intro t ht _ hne
    have hne' : u1 * v1 ≠ 0 := fun e => F.one_ne (by
      have : δ = 0 := by rw [← hδ, show d * (u1 * u2 * v1 * v2) = d * (u1 * v1) * (u2 * v2) by grind, e]; grind
      rw [← h, this]; grind)
    have hm := F.mul_ne hne' hne
    have h1 := F.inv_mul _ hm
    apply hd ((s * u1 + δ * v1 * t) * F.inv (u1 * v1 * (s * u2 + v2 * t)))
    generalize F.inv (u1 * v1 * (s * u2 + v2 * t)) = i at *
    have : (s * u1 + δ * v1 * t) * i * ((s * u1 + δ * v1 * t) * i) = ((s * u1 + δ * v1 * t) * (s * u1 + δ * v1 * t)) * (i * i) := by grind
    rw [this, ht]
    have : d * (u1 * v1 * (u1 * v1)) * ((s * u2 + v2 * t) * (s * u2 + v2 * t)) * (i * i) = d * ((u1 * v1 * (s * u2 + v2 * t) * i) * (u1 * v1 * (s * u2 + v2 * t) * i)) := by grind
    rw [this, h1]; grind
  have base : d * ((u1 * v1) * (u1 * v1)) * (s * s * (u2 * u2) + v2 * v2) = s * s * (u1 * u1) + v1 * v1 := by
    rw [hq, hp]
    have : d * ((u1 * v1) * (u1 * v1)) * (1 + d * (u2 * u2) * (v2 * v2)) = d * ((u1 * v1) * (u1 * v1)) + (d * (u1 * u2 * v1 * v2)) * (d * (u1 * u2 * v1 * v2)) := by grind
    rw [this, hδ, h]; grind
  have sq : ∀ t : Fin n, t * t = 1 → (s * u1 + δ * v1 * t) * (s * u1 + δ * v1 * t) = d * ((u1 * v1) * (u1 * v1)) * ((s * u2 + v2 * t) * (s * u2 + v2 * t)) := by
    intro t ht
    have e1 : (s * u1 + δ * v1 * t) * (s * u1 + δ * v1 * t) = s * s * (u1 * u1) + (δ * δ) * (v1 * v1) * (t * t) + 2 * s * t * (u1 * v1) * δ := by grind
    have e2 : d * ((u1 * v1) * (u1 * v1)) * ((s * u2 + v2 * t) * (s * u2 + v2 * t)) = d * ((u1 * v1) * (u1 * v1)) * (s * s * (u2 * u2) + v2 * v2 * (t * t)) + 2 * s * t * (u1 * v1) * (d * (u1 * u2 * v1 * v2)) := by grind
    rw [e1, e2, ht, h, hδ, show v2 * v2 * 1 = v2 * v2 by grind, base]; grind
  by_cases h1 : s * u2 + v2 * 1 = 0
  · by_cases h2 : s * u2 + v2 * (-1) = 0
    · have e : 2 * (s * u2) = 0 := by grind
      have e1 := F.zero_of e F.two_ne
      have e2 := F.zero_of e1 hs
      apply F.one_ne
      rw [← h, ← hδ, e2]; grind
    · exact key (-1) (sq (-1) (by grind)) (by grind) h2
  · exact key 1 (sq 1 (by grind)) (by grind) h1
theorem plus_ne (F : Fld n) (C : Crv n) {p q : Fin n × Fin n} (hp : C.On p) (hq : C.On q) : 1 + C.dl p q ≠ 0 := fun h => complete_sq F C hp hq (by grind)
theorem minus_ne (F : Fld n) (C : Crv n) {p q : Fin n × Fin n} (hp : C.On p) (hq : C.On q) : 1 - C.dl p q ≠ 0 := fun h => complete_sq F C hp hq (by grind)

/-- The sum of two points. -/
def add (F : Fld n) (C : Crv n) (p q : Fin n × Fin n) : Fin n × Fin n := ((p.1 * q.2 + p.2 * q.1) * F.inv (1 + C.dl p q), (p.2 * q.2 - C.a * (p.1 * q.1)) * F.inv (1 - C.dl p q))
theorem add_u (F : Fld n) (C : Crv n) {p q : Fin n × Fin n} (hp : C.On p) (hq : C.On q) : (1 + C.dl p q) * (add F C p q).1 = p.1 * q.2 + p.2 * q.1 := by
  have := F.inv_mul _ (plus_ne F C hp hq)
  simp only [add]
  rw [show (1 + C.dl p q) * ((p.1 * q.2 + p.2 * q.1) * F.inv (1 + C.dl p q)) = (p.1 * q.2 + p.2 * q.1) * ((1 + C.dl p q) * F.inv (1 + C.dl p q)) by grind, this]; grind
theorem add_v (F : Fld n) (C : Crv n) {p q : Fin n × Fin n} (hp : C.On p) (hq : C.On q) : (1 - C.dl p q) * (add F C p q).2 = p.2 * q.2 - C.a * (p.1 * q.1) := by
  have := F.inv_mul _ (minus_ne F C hp hq)
  simp only [add]
  rw [show (1 - C.dl p q) * ((p.2 * q.2 - C.a * (p.1 * q.1)) * F.inv (1 - C.dl p q)) = (p.2 * q.2 - C.a * (p.1 * q.1)) * ((1 - C.dl p q) * F.inv (1 - C.dl p q)) by grind, this]; grind
theorem add_comm (F : Fld n) (C : Crv n) (p q : Fin n × Fin n) : add F C p q = add F C q p := by
  have h : C.dl p q = C.dl q p := by simp only [Crv.dl]; grind
  simp only [add, h]
  congr 2 <;> grind
def O : Fin n × Fin n := (0, 1)
theorem on_O (C : Crv n) : C.On O := by simp only [Crv.On, O]; grind
theorem inv_one (F : Fld n) : F.inv 1 = 1 := by have := F.inv_mul 1 F.one_ne; grind
theorem add_O (F : Fld n) (C : Crv n) (p : Fin n × Fin n) : add F C p O = p := by
  have h : C.dl p O = 0 := by simp only [Crv.dl, O]; grind
  simp only [add, h]
  simp only [O]
  rw [show (1 : Fin n) + 0 = 1 by grind, show (1 : Fin n) - 0 = 1 by grind, inv_one F]
  obtain ⟨u, v⟩ := p
  simp only [Prod.mk.injEq]
  constructor <;> grind
def neg (p : Fin n × Fin n) : Fin n × Fin n := (-p.1, p.2)
theorem on_neg (C : Crv n) {p : Fin n × Fin n} (hp : C.On p) : C.On (neg p) := by simp only [Crv.On, neg] at *; grind
theorem add_neg (F : Fld n) (C : Crv n) {p : Fin n × Fin n} (hp : C.On p) : add F C p (neg p) = O := by
  have hu := add_u F C hp (on_neg C hp)
  have hv := add_v F C hp (on_neg C hp)
  have pn := plus_ne F C hp (on_neg C hp); have mn := minus_ne F C hp (on_neg C hp)
  have e1 : (add F C p (neg p)).1 = 0 := F.cancel pn (by rw [hu]; simp only [neg]; grind)
  have e2 : (add F C p (neg p)).2 = 1 := F.cancel mn (by rw [hv]; simp only [neg, Crv.dl, Crv.On] at *; grind)
  exact Prod.ext e1 e2

theorem ed_of {C : Crv n} {p : Fin n × Fin n} (h : C.On p) : ed C.a C.d p.1 p.2 = 0 := by
  simp only [Crv.On, ed] at *; grind
theorem of_ed {C : Crv n} {p : Fin n × Fin n} (h : ed C.a C.d p.1 p.2 = 0) : C.On p := by
  simp only [Crv.On, ed] at *; grind
theorem on_add (F : Fld n) (C : Crv n) {p q : Fin n × Fin n} (hp : C.On p) (hq : C.On q) : C.On (add F C p q) := by
  have hu := add_u F C hp hq
  have hv := add_v F C hp hq
  have pn := plus_ne F C hp hq; have mn := minus_ne F C hp hq
  have e := closed C.a C.d p.1 p.2 q.1 q.2
  rw [ed_of hp, ed_of hq] at e
  apply of_ed
  generalize add F C p q = r at *
  obtain ⟨u1, v1⟩ := p; obtain ⟨u2, v2⟩ := q; obtain ⟨u3, v3⟩ := r
  simp only [Crv.dl] at *
  generalize C.a = a at *
  generalize C.d = d at *
  generalize d * (u1 * u2 * v1 * v2) = x at *
  have hne := F.mul_ne pn mn
  refine F.zero_of (x := ((1 + x) * (1 - x)) * ((1 + x) * (1 - x))) ?_ (F.mul_ne hne hne)
  rw [← hu, ← hv, show 1 - x * x = (1 + x) * (1 - x) by grind] at e
  unfold ed
  clear hu hv pn mn hne
  generalize (1 + x) = A at *
  generalize (1 - x) = B at *
  grind
theorem assoc_u' (F : Fld n) {a d u1 v1 u2 v2 u3 v3 U V U' V' L R : Fin n} (h1 : ed a d u1 v1 = 0) (h2 : ed a d u2 v2 = 0) (h3 : ed a d u3 v3 = 0)
    (hU : (1 + d * (u1 * u2 * v1 * v2)) * U = u1 * v2 + v1 * u2) (hV : (1 - d * (u1 * u2 * v1 * v2)) * V = v1 * v2 - a * (u1 * u2))
    (hU' : (1 + d * (u2 * u3 * v2 * v3)) * U' = u2 * v3 + v2 * u3) (hV' : (1 - d * (u2 * u3 * v2 * v3)) * V' = v2 * v3 - a * (u2 * u3))
    (hL : (1 + d * (U * u3 * V * v3)) * L = U * v3 + V * u3) (hR : (1 + d * (u1 * U' * v1 * V')) * R = u1 * V' + v1 * U')
    (n1 : (1 + d * (u1 * u2 * v1 * v2)) ≠ 0) (n2 : (1 - d * (u1 * u2 * v1 * v2)) ≠ 0) (n3 : (1 + d * (u2 * u3 * v2 * v3)) ≠ 0) (n4 : (1 - d * (u2 * u3 * v2 * v3)) ≠ 0)
    (n5 : (1 + d * (U * u3 * V * v3)) ≠ 0) (n6 : (1 + d * (u1 * U' * v1 * V')) ≠ 0) : L = R := by
  have e := assoc_u a d u1 v1 u2 v2 u3 v3
  rw [h1, h2, h3, ← hU, ← hV, ← hU', ← hV'] at e
  refine F.cancel (F.mul_ne (F.mul_ne (F.mul_ne n1 n2) (F.mul_ne n3 n4)) (F.mul_ne n5 n6)) ?_
  rw [show ∀ x : Fin n, 1 - x * x = (1 + x) * (1 - x) from fun x => by grind, show ∀ x : Fin n, 1 - x * x = (1 + x) * (1 - x) from fun x => by grind] at e
  generalize (1 + d * (u1 * u2 * v1 * v2)) = A at *
  generalize (1 - d * (u1 * u2 * v1 * v2)) = B at *
  generalize (1 + d * (u2 * u3 * v2 * v3)) = A' at *
  generalize (1 - d * (u2 * u3 * v2 * v3)) = B' at *
  clear h1 h2 h3 hU hV hU' hV' n1 n2 n3 n4 n5 n6
  have l : A * B * (A' * B') * ((1 + d * (U * u3 * V * v3)) * (1 + d * (u1 * U' * v1 * V'))) * L = A * B * (A' * B') * (1 + d * (u1 * U' * v1 * V')) * ((1 + d * (U * u3 * V * v3)) * L) := by grind
  have r : A * B * (A' * B') * ((1 + d * (U * u3 * V * v3)) * (1 + d * (u1 * U' * v1 * V'))) * R = A * B * (A' * B') * (1 + d * (U * u3 * V * v3)) * ((1 + d * (u1 * U' * v1 * V')) * R) := by grind
  rw [l, r, hL, hR]
  clear l r hL hR
  grind
theorem assoc_v' (F : Fld n) {a d u1 v1 u2 v2 u3 v3 U V U' V' L R : Fin n} (h1 : ed a d u1 v1 = 0) (h2 : ed a d u2 v2 = 0) (h3 : ed a d u3 v3 = 0)
    (hU : (1 + d * (u1 * u2 * v1 * v2)) * U = u1 * v2 + v1 * u2) (hV : (1 - d * (u1 * u2 * v1 * v2)) * V = v1 * v2 - a * (u1 * u2))
    (hU' : (1 + d * (u2 * u3 * v2 * v3)) * U' = u2 * v3 + v2 * u3) (hV' : (1 - d * (u2 * u3 * v2 * v3)) * V' = v2 * v3 - a * (u2 * u3))
    (hL : (1 - d * (U * u3 * V * v3)) * L = V * v3 - a * (U * u3)) (hR : (1 - d * (u1 * U' * v1 * V')) * R = v1 * V' - a * (u1 * U'))
    (n1 : (1 + d * (u1 * u2 * v1 * v2)) ≠ 0) (n2 : (1 - d * (u1 * u2 * v1 * v2)) ≠ 0) (n3 : (1 + d * (u2 * u3 * v2 * v3)) ≠ 0) (n4 : (1 - d * (u2 * u3 * v2 * v3)) ≠ 0)
    (n5 : (1 - d * (U * u3 * V * v3)) ≠ 0) (n6 : (1 - d * (u1 * U' * v1 * V')) ≠ 0) : L = R := by
  have e := assoc_v a d u1 v1 u2 v2 u3 v3
  rw [h1, h2, h3, ← hU, ← hV, ← hU', ← hV'] at e
  refine F.cancel (F.mul_ne (F.mul_ne (F.mul_ne n1 n2) (F.mul_ne n3 n4)) (F.mul_ne n5 n6)) ?_
  rw [show ∀ x : Fin n, 1 - x * x = (1 + x) * (1 - x) from fun x => by grind, show ∀ x : Fin n, 1 - x * x = (1 + x) * (1 - x) from fun x => by grind] at e
  generalize (1 + d * (u1 * u2 * v1 * v2)) = A at *
  generalize (1 - d * (u1 * u2 * v1 * v2)) = B at *
  generalize (1 + d * (u2 * u3 * v2 * v3)) = A' at *
  generalize (1 - d * (u2 * u3 * v2 * v3)) = B' at *
  clear h1 h2 h3 hU hV hU' hV' n1 n2 n3 n4 n5 n6
  have l : A * B * (A' * B') * ((1 - d * (U * u3 * V * v3)) * (1 - d * (u1 * U' * v1 * V'))) * L = A * B * (A' * B') * (1 - d * (u1 * U' * v1 * V')) * ((1 - d * (U * u3 * V * v3)) * L) := by grind
  have r : A * B * (A' * B') * ((1 - d * (U * u3 * V * v3)) * (1 - d * (u1 * U' * v1 * V'))) * R = A * B * (A' * B') * (1 - d * (U * u3 * V * v3)) * ((1 - d * (u1 * U' * v1 * V')) * R) := by grind
  rw [l, r, hL, hR]
  clear l r hL hR
  grind
theorem add_assoc (F : Fld n) (C : Crv n) {p q r : Fin n × Fin n} (hp : C.On p) (hq : C.On q) (hr : C.On r) : add F C (add F C p q) r = add F C p (add F C q r) := by
  have h12 := on_add F C hp hq; have h23 := on_add F C hq hr
  refine Prod.ext ?_ ?_
  · exact assoc_u' F (ed_of hp) (ed_of hq) (ed_of hr) (add_u F C hp hq) (add_v F C hp hq) (add_u F C hq hr) (add_v F C hq hr) (add_u F C h12 hr) (add_u F C hp h23)
      (plus_ne F C hp hq) (minus_ne F C hp hq) (plus_ne F C hq hr) (minus_ne F C hq hr) (plus_ne F C h12 hr) (plus_ne F C hp h23)
  · exact assoc_v' F (ed_of hp) (ed_of hq) (ed_of hr) (add_u F C hp hq) (add_v F C hp hq) (add_u F C hq hr) (add_v F C hq hr) (add_v F C h12 hr) (add_v F C hp h23)
      (plus_ne F C hp hq) (minus_ne F C hp hq) (plus_ne F C hq hr) (minus_ne F C hq hr) (minus_ne F C h12 hr) (minus_ne F C hp h23)

/-! ### Multiples -/
def smul (F : Fld n) (C : Crv n) (p : Fin n × Fin n) : Nat → Fin n × Fin n
  | 0 => O
  | k + 1 => add F C (smul F C p k) p
theorem on_smul (F : Fld n) (C : Crv n) {p : Fin n × Fin n} (hp : C.On p) : ∀ k, C.On (smul F C p k)
  | 0 => on_O C
  | k + 1 => on_add F C (on_smul F C hp k) hp
theorem O_add (F : Fld n) (C : Crv n) (p : Fin n × Fin n) : add F C O p = p := by rw [add_comm, add_O]
theorem smul_add (F : Fld n) (C : Crv n) {p : Fin n × Fin n} (hp : C.On p) (j : Nat) : ∀ k, smul F C p (j + k) = add F C (smul F C p j) (smul F C p k)
  | 0 => (add_O F C _).symm
  | k + 1 => by
    show add F C (smul F C p (j + k)) p = add F C (smul F C p j) (add F C (smul F C p k) p)
    rw [smul_add F C hp j k, add_assoc F C (on_smul F C hp j) (on_smul F C hp k) hp]
theorem smul_one (F : Fld n) (C : Crv n) (p : Fin n × Fin n) : smul F C p 1 = p := O_add F C p
theorem smul_O (F : Fld n) (C : Crv n) : ∀ k, smul F C O k = O
  | 0 => rfl
  | k + 1 => by show add F C (smul F C O k) O = O; rw [smul_O F C k, add_O]
theorem smul_mul (F : Fld n) (C : Crv n) {p : Fin n × Fin n} (hp : C.On p) (j : Nat) : ∀ k, smul F C p (j * k) = smul F C (smul F C p j) k
  | 0 => rfl
  | k + 1 => by
    show _ = add F C (smul F C (smul F C p j) k) (smul F C p j)
    rw [Nat.mul_add, Nat.mul_one, smul_add F C hp, smul_mul F C hp j k]
theorem add_cancel (F : Fld n) (C : Crv n) {p q : Fin n × Fin n} (hp : C.On p) (hq : C.On q) : add F C (add F C p q) (neg p) = q := by
  rw [add_comm F C p q, add_assoc F C hq hp (on_neg C hp), add_neg F C hp, add_O]
end
end Go.Proofs.YtddmjddlbhdcpaaGreatDoor.Ed

/-
  The ladder of X25519 over a field of n elements: what it answers is the x of a multiple of a point of an Edwards curve.
-/
namespace Go.Proofs.YtddmjddlbhdcpaaGreatDoor.Ed
section
variable {n : Nat} [NeZero n]

/-- A pair, doubled. -/
def tw (k : Fin n) (p : Fin n × Fin n) : Fin n × Fin n :=
  (((p.1 + p.2) * (p.1 + p.2)) * ((p.1 - p.2) * (p.1 - p.2)),
   ((p.1 + p.2) * (p.1 + p.2) - (p.1 - p.2) * (p.1 - p.2)) * ((p.1 + p.2) * (p.1 + p.2) + k * ((p.1 + p.2) * (p.1 + p.2) - (p.1 - p.2) * (p.1 - p.2))))
/-- The sum of two pairs whose difference is x1. -/
def sm (x1 : Fin n) (p q : Fin n × Fin n) : Fin n × Fin n :=
  (((q.1 - q.2) * (p.1 + p.2) + (q.1 + q.2) * (p.1 - p.2)) * ((q.1 - q.2) * (p.1 + p.2) + (q.1 + q.2) * (p.1 - p.2)),
   x1 * (((q.1 - q.2) * (p.1 + p.2) - (q.1 + q.2) * (p.1 - p.2)) * ((q.1 - q.2) * (p.1 + p.2) - (q.1 + q.2) * (p.1 - p.2))))
theorem sm_comm (x1 : Fin n) (p q : Fin n × Fin n) : sm x1 p q = sm x1 q p := by
  simp only [sm, Prod.mk.injEq]
  constructor <;> grind -splitMatch -splitIte -splitIndPred -funext -lia -linarith (splits := 0) (ematch := 0)

/-- A curve that belongs to Montgomery's number A, twisted by B, in one of two forms (e is 1 or -1). -/
structure Mont (n : Nat) [NeZero n] extends Crv n where
  A : Fin n
  B : Fin n
  e : Fin n
  k : Fin n
  he : e * e = 1
  hB : B ≠ 0
  haB : a * B = A + 2 * e
  hdB : d * B = A - 2 * e
  hk : 4 * k = A - 2
/-- A pair stands for a point whose second coordinate is v. -/
def Rep (e v : Fin n) (x : Fin n × Fin n) : Prop := ∃ c, c ≠ 0 ∧ x.1 = e * c * (1 + v) ∧ x.2 = c * (1 - v)

theorem adv_ne (F : Fld n) (C : Crv n) (v : Fin n) : C.a - C.d * (v * v) ≠ 0 := by
  intro h
  by_cases hv : v = 0
  · subst hv
    have : C.s * C.s = 0 := by rw [← C.ha]; grind -splitMatch -splitIte -splitIndPred -funext -lia -linarith (splits := 0) (ematch := 0)
    exact F.mul_ne C.hs C.hs this
  · have h1 := F.inv_mul v hv
    apply C.hd (C.s * F.inv v)
    generalize F.inv v = i at *
    have ha := C.ha
    generalize C.a = a at *
    generalize C.s = s at *
    generalize C.d = d at *
    have e1 : d * (v * v) = s * s := by grind -splitMatch -splitIte -splitIndPred -funext -lia -linarith (splits := 0) (ematch := 0)
    have e2 : s * i * (s * i) = (s * s) * (i * i) := by grind -splitMatch -splitIte -splitIndPred -funext -lia -linarith (splits := 0) (ematch := 0)
    rw [e2, ← e1, show d * (v * v) * (i * i) = d * ((v * i) * (v * i)) by grind -splitMatch -splitIte -splitIndPred -funext -lia -linarith (splits := 0) (ematch := 0), h1]; grind -splitMatch -splitIte -splitIndPred -funext -lia -linarith (splits := 0) (ematch := 0)

theorem l_g1 {D V a d v : Fin n} (h : D = a - 2 * d * (v * v) + d * (v * v) * (v * v)) (hv : D * V = v * v * (a - d * (v * v)) - a * (1 - v * v)) : D * (1 + V) = 2 * (a - d) * (v * v) := by
  rw [show D * (1 + V) = D + D * V by clear h hv; grind -splitMatch -splitIte -splitIndPred -funext -lia -linarith (splits := 0) (ematch := 0), hv, h]; clear h hv; grind -splitMatch -splitIte -splitIndPred -funext -lia -linarith (splits := 0) (ematch := 0)
theorem l_g2 {D V a d v : Fin n} (h : D = a - 2 * d * (v * v) + d * (v * v) * (v * v)) (hv : D * V = v * v * (a - d * (v * v)) - a * (1 - v * v)) : D * (1 - V) = 2 * (1 - v * v) * (a - d * (v * v)) := by
  rw [show D * (1 - V) = D - D * V by clear h hv; grind -splitMatch -splitIte -splitIndPred -funext -lia -linarith (splits := 0) (ematch := 0), hv, h]; clear h hv; grind -splitMatch -splitIte -splitIndPred -funext -lia -linarith (splits := 0) (ematch := 0)
theorem l_4 {e A : Fin n} (he : e * e = 1) : e * (A + 2 * e - (A - 2 * e)) = 4 := by grind -splitMatch -splitIte -splitIndPred -funext -lia -linarith (splits := 0) (ematch := 0)
theorem l_dif {e c v : Fin n} (he : e * e = 1) : (e * c * (1 + v)) * (e * c * (1 + v)) - (c * (1 - v)) * (c * (1 - v)) = 4 * (c * c) * v := by
  rw [show (e * c * (1 + v)) * (e * c * (1 + v)) = (e * e) * ((c * c) * ((1 + v) * (1 + v))) by clear he; grind -splitMatch -splitIte -splitIndPred -funext -lia -linarith (splits := 0) (ematch := 0), he]; clear he; grind -splitMatch -splitIte -splitIndPred -funext -lia -linarith (splits := 0) (ematch := 0)
theorem l_sum {e c v : Fin n} (he : e * e = 1) : (e * c * (1 + v)) * (e * c * (1 + v)) + (c * (1 - v)) * (c * (1 - v)) = 2 * (c * c) * (1 + v * v) := by
  rw [show (e * c * (1 + v)) * (e * c * (1 + v)) = (e * e) * ((c * c) * ((1 + v) * (1 + v))) by clear he; grind -splitMatch -splitIte -splitIndPred -funext -lia -linarith (splits := 0) (ematch := 0), he]; clear he; grind -splitMatch -splitIte -splitIndPred -funext -lia -linarith (splits := 0) (ematch := 0)
theorem l_q5 {e A c v : Fin n} (he : e * e = 1) : 2 * (c * c) * (1 + v * v) + A * (e * (c * c) * (1 - v * v)) = (c * c) * e * (A + 2 * e - (A - 2 * e) * (v * v)) := by
  rw [show (c * c) * e * (A + 2 * e - (A - 2 * e) * (v * v)) = (c * c) * (2 * (1 + v * v) * (e * e)) + A * (e * (c * c) * (1 - v * v)) by clear he; grind -splitMatch -splitIte -splitIndPred -funext -lia -linarith (splits := 0) (ematch := 0), he]; clear he; grind -splitMatch -splitIte -splitIndPred -funext -lia -linarith (splits := 0) (ematch := 0)
theorem l_x {e c2 c3 v2 v3 : Fin n} (he : e * e = 1) : (e * c2 * (1 + v2)) * (e * c3 * (1 + v3)) - (c2 * (1 - v2)) * (c3 * (1 - v3)) = 2 * (c2 * c3) * (v2 + v3) := by
  rw [show (e * c2 * (1 + v2)) * (e * c3 * (1 + v3)) = (e * e) * ((c2 * c3) * ((1 + v2) * (1 + v3))) by clear he; grind -splitMatch -splitIte -splitIndPred -funext -lia -linarith (splits := 0) (ematch := 0), he]; clear he; grind -splitMatch -splitIte -splitIndPred -funext -lia -linarith (splits := 0) (ematch := 0)

theorem tw_rep (F : Fld n) (M : Mont n) {p x : Fin n × Fin n} (hp : M.On p) (hx : Rep M.e p.2 x) : Rep M.e (add F M.toCrv p p).2 (tw M.k x) := by
  obtain ⟨c, hc, h1, h2⟩ := hx
  have hv := add_v F M.toCrv hp hp
  have hne := minus_ne F M.toCrv hp hp
  have hne2 := adv_ne F M.toCrv p.2
  have hB := M.hB; have haB := M.haB; have hdB := M.hdB; have he := M.he; have hk := M.hk
  generalize (add F M.toCrv p p).2 = V at *
  obtain ⟨u, v⟩ := p; obtain ⟨X, Z⟩ := x
  simp only [Crv.On, Crv.dl] at *
  generalize M.a = a at *
  generalize M.d = d at *
  generalize M.e = e at *
  generalize M.B = B at *
  generalize M.A = A at *
  generalize M.k = k at *
  -- the denominator
  have hu : (a - d * (v * v)) * (u * u) = 1 - v * v := by grind -splitMatch -splitIte -splitIndPred -funext -lia -linarith (splits := 0) (ematch := 0)
  generalize hD : (a - d * (v * v)) * (1 - d * (u * u * v * v)) = D
  have hDne : D ≠ 0 := hD ▸ F.mul_ne hne2 hne
  have hD' : D = a - 2 * d * (v * v) + d * (v * v) * (v * v) := by
    rw [← hD, show (a - d * (v * v)) * (1 - d * (u * u * v * v)) = (a - d * (v * v)) - d * (v * v) * ((a - d * (v * v)) * (u * u)) by grind -splitMatch -splitIte -splitIndPred -funext -lia -linarith (splits := 0) (ematch := 0), hu]; grind -splitMatch -splitIte -splitIndPred -funext -lia -linarith (splits := 0) (ematch := 0)
  have hDV : D * V = v * v * (a - d * (v * v)) - a * (1 - v * v) := by
    rw [← hD, show (a - d * (v * v)) * (1 - d * (u * u * v * v)) * V = (a - d * (v * v)) * ((1 - d * (u * u * v * v)) * V) by grind -splitMatch -splitIte -splitIndPred -funext -lia -linarith (splits := 0) (ematch := 0), hv, ← hu]; grind -splitMatch -splitIte -splitIndPred -funext -lia -linarith (splits := 0) (ematch := 0)
  have g1 : D * (1 + V) = 2 * (a - d) * (v * v) := l_g1 hD' hDV
  have g2 : D * (1 - V) = 2 * (1 - v * v) * (a - d * (v * v)) := l_g2 hD' hDV
  have hab : e * (a - d) * B = 4 := by
    have : e * (a - d) * B = e * (a * B - d * B) := by grind -splitMatch -splitIte -splitIndPred -funext -lia -linarith (splits := 0) (ematch := 0)
    rw [this, haB, hdB]; exact l_4 he
  refine ⟨2 * (c * c) * (c * c) * B * D, F.mul_ne (F.mul_ne (F.mul_ne (F.mul_ne F.two_ne (F.mul_ne hc hc)) (F.mul_ne hc hc)) hB) hDne, ?_, ?_⟩
  · show (X + Z) * (X + Z) * ((X - Z) * (X - Z)) = e * (2 * (c * c) * (c * c) * B * D) * (1 + V)
    have q1 : X * X - Z * Z = 4 * (c * c) * v := by rw [h1, h2]; exact l_dif he
    have q2 : (X + Z) * (X + Z) * ((X - Z) * (X - Z)) = (X * X - Z * Z) * (X * X - Z * Z) := by grind -splitMatch -splitIte -splitIndPred -funext -lia -linarith (splits := 0) (ematch := 0)
    have q3 : e * (2 * (c * c) * (c * c) * B * D) * (1 + V) = 2 * (c * c) * (c * c) * (e * B) * (D * (1 + V)) := by grind -splitMatch -splitIte -splitIndPred -funext -lia -linarith (splits := 0) (ematch := 0)
    have q4 : 2 * (c * c) * (c * c) * (e * B) * (2 * (a - d) * (v * v)) = 4 * (c * c) * (c * c) * (v * v) * (e * (a - d) * B) := by grind -splitMatch -splitIte -splitIndPred -funext -lia -linarith (splits := 0) (ematch := 0)
    rw [q2, q1, q3, g1, q4, hab]; grind -splitMatch -splitIte -splitIndPred -funext -lia -linarith (splits := 0) (ematch := 0)
  · show ((X + Z) * (X + Z) - (X - Z) * (X - Z)) * ((X + Z) * (X + Z) + k * ((X + Z) * (X + Z) - (X - Z) * (X - Z))) = 2 * (c * c) * (c * c) * B * D * (1 - V)
    have q1 : (X + Z) * (X + Z) - (X - Z) * (X - Z) = 4 * (X * Z) := by grind -splitMatch -splitIte -splitIndPred -funext -lia -linarith (splits := 0) (ematch := 0)
    have q2 : X * Z = e * (c * c) * (1 - v * v) := by rw [h1, h2]; grind -splitMatch -splitIte -splitIndPred -funext -lia -linarith (splits := 0) (ematch := 0)
    have q3 : (X + Z) * (X + Z) + k * (4 * (X * Z)) = X * X + Z * Z + A * (X * Z) := by
      have : k * (4 * (X * Z)) = (4 * k) * (X * Z) := by grind -splitMatch -splitIte -splitIndPred -funext -lia -linarith (splits := 0) (ematch := 0)
      rw [this, hk]; grind -splitMatch -splitIte -splitIndPred -funext -lia -linarith (splits := 0) (ematch := 0)
    have q4 : X * X + Z * Z = 2 * (c * c) * (1 + v * v) := by rw [h1, h2]; exact l_sum he
    have q5 : 2 * (c * c) * (1 + v * v) + A * (e * (c * c) * (1 - v * v)) = (c * c) * e * (a * B - d * B * (v * v)) := by rw [haB, hdB]; exact l_q5 he
    have q6 : 2 * (c * c) * (c * c) * B * D * (1 - V) = 2 * (c * c) * (c * c) * B * (D * (1 - V)) := by grind -splitMatch -splitIte -splitIndPred -funext -lia -linarith (splits := 0) (ematch := 0)
    rw [q1, q3, q2, q4, q5, q6, g2]
    have q7 : 4 * (e * (c * c) * (1 - v * v)) * (c * c * e * (a * B - d * B * (v * v))) = 4 * (e * e) * (c * c) * (c * c) * (1 - v * v) * B * (a - d * (v * v)) := by grind -splitMatch -splitIte -splitIndPred -funext -lia -linarith (splits := 0) (ematch := 0)
    rw [q7, he]; grind -splitMatch -splitIte -splitIndPred -funext -lia -linarith (splits := 0) (ematch := 0)

theorem sm_rep (F : Fld n) (M : Mont n) {p q x y : Fin n × Fin n} {x1 v1 : Fin n} (hp : M.On p) (hq : M.On q) (hx : Rep M.e p.2 x) (hy : Rep M.e q.2 y) (hv1 : (add F M.toCrv q (neg p)).2 = v1)
    (hx1 : x1 * (1 - v1) = M.e * (1 + v1)) (hne1 : 1 + v1 ≠ 0) : Rep M.e (add F M.toCrv p q).2 (sm x1 x y) := by
  obtain ⟨c2, hc2, h1, h2⟩ := hx
  obtain ⟨c3, hc3, h3, h4⟩ := hy
  have hv := add_v F M.toCrv hp hq
  have hv' := add_v F M.toCrv hq (on_neg M.toCrv hp)
  rw [hv1] at hv'
  have nm := minus_ne F M.toCrv hp hq
  have np := plus_ne F M.toCrv hp hq
  have na := adv_ne F M.toCrv p.2; have nb := adv_ne F M.toCrv q.2; have nc := adv_ne F M.toCrv (p.2 * q.2)
  have hB := M.hB; have haB := M.haB; have hdB := M.hdB; have he := M.he
  generalize (add F M.toCrv p q).2 = V at *
  clear hv1
  obtain ⟨u2, v2⟩ := p; obtain ⟨u3, v3⟩ := q; obtain ⟨X2, Z2⟩ := x; obtain ⟨X3, Z3⟩ := y
  simp only [Crv.On, Crv.dl, neg] at *
  generalize M.a = a at *
  generalize M.d = d at *
  generalize M.e = e at *
  generalize M.B = B at *
  generalize M.A = A at *
  generalize hδ : d * (u2 * u3 * v2 * v3) = δ at *
  have hδ' : 1 - d * (u3 * -u2 * v3 * v2) = 1 + δ := by rw [← hδ]; grind -splitMatch -splitIte -splitIndPred -funext -lia -linarith (splits := 0) (ematch := 0)
  rw [hδ'] at hv'
  have hadne : a - d ≠ 0 := fun h => by
    have : (4 : Fin n) = 0 := by
      have : e * (a * B - d * B) = 4 := by rw [haB, hdB]; exact l_4 he
      rw [← this, show e * (a * B - d * B) = e * B * (a - d) by clear h this haB hdB he hv hv' hp hq h1 h2 h3 h4 hx1; grind -splitMatch -splitIte -splitIndPred -funext -lia -linarith (splits := 0) (ematch := 0), h]; clear h this haB hdB he hv hv' hp hq h1 h2 h3 h4 hx1; grind -splitMatch -splitIte -splitIndPred -funext -lia -linarith (splits := 0) (ematch := 0)
    exact F.mul_ne F.two_ne F.two_ne (by grind -splitMatch -splitIte -splitIndPred -funext -lia -linarith (splits := 0) (ematch := 0))
  have Np : ((1 - δ) * (1 + δ) * ((a - d * (v2 * v2)) * (a - d * (v3 * v3)))) * ((1 + V) * (1 + v1)) = ((a - d) * (a - d * (v2 * v3 * (v2 * v3)))) * ((v2 + v3) * (v2 + v3)) := by
    have t1 : ((1 - δ) * (1 + δ) * ((a - d * (v2 * v2)) * (a - d * (v3 * v3)))) * ((1 + V) * (1 + v1)) = ((a - d * (v2 * v2)) * (a - d * (v3 * v3))) * (((1 - δ) + (1 - δ) * V) * ((1 + δ) + (1 + δ) * v1)) := by grind -splitMatch -splitIte -splitIndPred -funext -lia -linarith (splits := 0) (ematch := 0)
    rw [t1, hv, hv', ← hδ]
    clear t1 hv hv' nm np na nb nc hδ hδ' hx1 hne1 h1 h2 h3 h4
    grind -splitMatch -splitIte -splitIndPred -funext -lia -linarith (splits := 0) (ematch := 0)
  have Nm : ((1 - δ) * (1 + δ) * ((a - d * (v2 * v2)) * (a - d * (v3 * v3)))) * ((1 - V) * (1 - v1)) = ((a - d) * (a - d * (v2 * v3 * (v2 * v3)))) * ((v2 - v3) * (v2 - v3)) := by
    have t1 : ((1 - δ) * (1 + δ) * ((a - d * (v2 * v2)) * (a - d * (v3 * v3)))) * ((1 - V) * (1 - v1)) = ((a - d * (v2 * v2)) * (a - d * (v3 * v3))) * (((1 - δ) - (1 - δ) * V) * ((1 + δ) - (1 + δ) * v1)) := by grind -splitMatch -splitIte -splitIndPred -funext -lia -linarith (splits := 0) (ematch := 0)
    rw [t1, hv, hv', ← hδ]
    clear t1 hv hv' nm np na nb nc hδ hδ' hx1 hne1 h1 h2 h3 h4 Np
    grind -splitMatch -splitIte -splitIndPred -funext -lia -linarith (splits := 0) (ematch := 0)
  have hG := F.mul_ne (F.mul_ne nm np) (F.mul_ne na nb)
  have hK := F.mul_ne hadne nc
  have hKi := F.inv_mul _ hK
  have hKn := F.inv_ne hK
  generalize (1 - δ) * (1 + δ) * ((a - d * (v2 * v2)) * (a - d * (v3 * v3))) = G at *
  generalize (a - d) * (a - d * (v2 * v3 * (v2 * v3))) = K at *
  generalize F.inv K = i at *
  have en : e ≠ 0 := fun h => F.one_ne (by rw [← he, h]; grind -splitMatch -splitIte -splitIndPred -funext -lia -linarith (splits := 0) (ematch := 0))
  have n16 := F.mul_ne (F.mul_ne F.two_ne F.two_ne) (F.mul_ne F.two_ne F.two_ne)
  refine ⟨e * (2 * 2 * (2 * 2)) * ((c2 * c3) * (c2 * c3)) * i * G * (1 + v1), F.mul_ne (F.mul_ne (F.mul_ne (F.mul_ne (F.mul_ne en n16) (F.mul_ne (F.mul_ne hc2 hc3) (F.mul_ne hc2 hc3))) hKn) hG) hne1, ?_, ?_⟩
  · show ((X3 - Z3) * (X2 + Z2) + (X3 + Z3) * (X2 - Z2)) * ((X3 - Z3) * (X2 + Z2) + (X3 + Z3) * (X2 - Z2)) = _
    have q1 : (X3 - Z3) * (X2 + Z2) + (X3 + Z3) * (X2 - Z2) = 2 * (X2 * X3 - Z2 * Z3) := by grind -splitMatch -splitIte -splitIndPred -funext -lia -linarith (splits := 0) (ematch := 0)
    have q2 : X2 * X3 - Z2 * Z3 = 2 * (c2 * c3) * (v2 + v3) := by rw [h1, h2, h3, h4]; exact l_x he
    have q3 : e * (e * (2 * 2 * (2 * 2)) * (c2 * c3 * (c2 * c3)) * i * G * (1 + v1)) * (1 + V) = (e * e) * (2 * 2 * (2 * 2)) * (c2 * c3 * (c2 * c3)) * i * (G * ((1 + V) * (1 + v1))) := by grind -splitMatch -splitIte -splitIndPred -funext -lia -linarith (splits := 0) (ematch := 0)
    rw [q1, q2, q3, Np, he, show (1 : Fin n) * (2 * 2 * (2 * 2)) * (c2 * c3 * (c2 * c3)) * i * (K * ((v2 + v3) * (v2 + v3))) = (2 * 2 * (2 * 2)) * (c2 * c3 * (c2 * c3)) * (K * i) * ((v2 + v3) * (v2 + v3)) by grind -splitMatch -splitIte -splitIndPred -funext -lia -linarith (splits := 0) (ematch := 0), hKi]
    clear h1 h2 h3 h4 Np Nm hv hv'
    grind -splitMatch -splitIte -splitIndPred -funext -lia -linarith (splits := 0) (ematch := 0)
  · show x1 * (((X3 - Z3) * (X2 + Z2) - (X3 + Z3) * (X2 - Z2)) * ((X3 - Z3) * (X2 + Z2) - (X3 + Z3) * (X2 - Z2))) = _
    have q1 : (X3 - Z3) * (X2 + Z2) - (X3 + Z3) * (X2 - Z2) = 2 * (X3 * Z2 - X2 * Z3) := by grind -splitMatch -splitIte -splitIndPred -funext -lia -linarith (splits := 0) (ematch := 0)
    have q2 : X3 * Z2 - X2 * Z3 = e * (2 * (c2 * c3) * (v3 - v2)) := by rw [h1, h2, h3, h4]; grind -splitMatch -splitIte -splitIndPred -funext -lia -linarith (splits := 0) (ematch := 0)
    have q3 : e * (2 * 2 * (2 * 2)) * (c2 * c3 * (c2 * c3)) * i * G * (1 + v1) * (1 - V) = (2 * 2 * (2 * 2)) * (c2 * c3 * (c2 * c3)) * i * G * (e * (1 + v1)) * (1 - V) := by grind -splitMatch -splitIte -splitIndPred -funext -lia -linarith (splits := 0) (ematch := 0)
    have q4 : (2 * 2 * (2 * 2)) * (c2 * c3 * (c2 * c3)) * i * G * (x1 * (1 - v1)) * (1 - V) = (2 * 2 * (2 * 2)) * (c2 * c3 * (c2 * c3)) * i * x1 * (G * ((1 - V) * (1 - v1))) := by grind -splitMatch -splitIte -splitIndPred -funext -lia -linarith (splits := 0) (ematch := 0)
    have q5 : x1 * (2 * (e * (2 * (c2 * c3) * (v3 - v2))) * (2 * (e * (2 * (c2 * c3) * (v3 - v2))))) = x1 * (e * e) * (2 * 2 * (2 * 2)) * (c2 * c3 * (c2 * c3)) * ((v2 - v3) * (v2 - v3)) := by grind -splitMatch -splitIte -splitIndPred -funext -lia -linarith (splits := 0) (ematch := 0)
    rw [q1, q2, q3, ← hx1, q4, Nm, q5, he, show (2 * 2 * (2 * 2)) * (c2 * c3 * (c2 * c3)) * i * x1 * (K * ((v2 - v3) * (v2 - v3))) = x1 * (K * i) * (2 * 2 * (2 * 2)) * (c2 * c3 * (c2 * c3)) * ((v2 - v3) * (v2 - v3)) by grind -splitMatch -splitIte -splitIndPred -funext -lia -linarith (splits := 0) (ematch := 0), hKi]
end
end Go.Proofs.YtddmjddlbhdcpaaGreatDoor.Ed
