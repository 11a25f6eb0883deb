namespace Fp
/-- A number is prime. -/
def Pr (n : Nat) : Prop := 2 ≤ n ∧ ∀ d, d ∣ n → d = 1 ∨ d = n

theorem perm_of {l1 : List Nat} : ∀ {l2 : List Nat}, l1.Nodup → (∀ x ∈ l1, x ∈ l2) → l2.length ≤ l1.length → l1.Perm l2 := by
  induction l1 with
  | nil => intro l2 _ _ h; have : l2 = [] := by cases l2 with | nil => rfl | cons => simp at h
           subst this; exact List.Perm.refl _
  | cons x t ih =>
    intro l2 hn hs hl
    have hx : x ∈ l2 := hs x (by simp)
    have hp := List.perm_cons_erase hx
    have hn' := List.nodup_cons.1 hn
    refine (List.Perm.cons x (ih hn'.2 ?_ ?_)).trans hp.symm
    · intro y hy
      have : y ≠ x := fun e => hn'.1 (e ▸ hy)
      exact (List.mem_erase_of_ne this).2 (hs y (by simp [hy]))
    · have := hp.length_eq; simp at this hl; omega

def prod : List Nat → Nat
  | [] => 1
  | x :: t => x * prod t
theorem prod_perm {l1 l2 : List Nat} (h : l1.Perm l2) : prod l1 = prod l2 := by
  induction h with
  | nil => rfl
  | cons x _ ih => simp [prod, ih]
  | swap x y l => simp [prod, Nat.mul_left_comm]
  | trans _ _ a b => exact a.trans b

theorem prod_map (a d : Nat) (l : List Nat) : prod (l.map fun x => a * x % d) % d = a ^ l.length * prod l % d := by
  induction l with
  | nil => simp [prod]
  | cons x t ih =>
    simp only [List.map_cons, prod, List.length_cons]
    rw [Nat.mul_mod, ih, Nat.mod_mod, ← Nat.mul_mod]
    congr 1; rw [Nat.pow_succ]; simp [Nat.mul_assoc, Nat.mul_comm, Nat.mul_left_comm]

theorem Pr.cop {d a : Nat} (hd : Pr d) (h : ¬ d ∣ a) : Nat.Coprime d a := by
  rcases hd.2 _ (Nat.gcd_dvd_left d a) with e | e
  · exact e
  · exact absurd (e ▸ Nat.gcd_dvd_right d a) h
theorem Pr.dvd_mul {d a b : Nat} (hd : Pr d) (h : d ∣ a * b) : d ∣ a ∨ d ∣ b := by
  by_cases ha : d ∣ a
  · exact .inl ha
  · exact .inr ((hd.cop ha).dvd_of_dvd_mul_left h)
theorem Pr.not_dvd_prod {d : Nat} (hd : Pr d) : ∀ l : List Nat, (∀ x ∈ l, ¬ d ∣ x) → ¬ d ∣ prod l
  | [], _, h => by have := Nat.le_of_dvd (by simp [prod]) h; have := hd.1; simp [prod] at *; omega
  | x :: t, hx, h => by
    rcases hd.dvd_mul h with h | h
    · exact hx x (by simp) h
    · exact hd.not_dvd_prod t (fun y hy => hx y (by simp [hy])) h
theorem dvd_of_mod {d a b : Nat} (e : a % d = b % d) : d ∣ a - b := Nat.dvd_of_mod_eq_zero (Nat.sub_mod_eq_zero_of_mod_eq e)
theorem mod_of_dvd {d a b : Nat} (hab : b ≤ a) (h : d ∣ a - b) : a % d = b % d := by
  obtain ⟨k, hk⟩ := h
  have : a = b + d * k := by omega
  rw [this, Nat.add_mul_mod_self_left]
theorem cancel' {d c a b : Nat} (h : Nat.Coprime d c) (e : a * c % d = b * c % d) (hab : b ≤ a) : a % d = b % d := by
  have : d ∣ (a - b) * c := by rw [Nat.sub_mul]; exact dvd_of_mod e
  exact mod_of_dvd hab (h.dvd_of_dvd_mul_right this)
theorem cancel {d c a b : Nat} (h : Nat.Coprime d c) (e : a * c % d = b * c % d) : a % d = b % d := by
  rcases Nat.le_total b a with g | g
  · exact cancel' h e g
  · exact (cancel' h e.symm g).symm

theorem Pr.not_dvd_small {d x : Nat} (h1 : 1 ≤ x) (h2 : x < d) : ¬ d ∣ x := fun h => by have := Nat.le_of_dvd h1 h; omega

theorem nodup_map_on {f : Nat → Nat} : ∀ {l : List Nat}, l.Nodup → (∀ x ∈ l, ∀ y ∈ l, f x = f y → x = y) → (l.map f).Nodup
  | [], _, _ => by simp
  | x :: t, hn, h => by
    have hn' := List.nodup_cons.1 hn
    refine List.nodup_cons.2 ⟨?_, nodup_map_on hn'.2 fun a ha b hb => h a (by simp [ha]) b (by simp [hb])⟩
    intro hm
    obtain ⟨y, hy, e⟩ := List.mem_map.1 hm
    exact hn'.1 (h y (by simp [hy]) x (by simp) e ▸ hy)
/-- Fermat's little theorem. -/
theorem fermat {d a : Nat} (hd : Pr d) (ha : ¬ d ∣ a) : a ^ (d - 1) % d = 1 := by
  have h2 := hd.1
  have hco := hd.cop ha
  let L := List.range' 1 (d - 1)
  have hL : ∀ x, x ∈ L ↔ 1 ≤ x ∧ x < d := by intro x; simp only [L, List.mem_range'_1]; omega
  have hp : (L.map fun x => a * x % d).Perm L := by
    refine perm_of ?_ ?_ (by simp)
    · have hn : L.Nodup := List.nodup_range'
      refine nodup_map_on hn ?_
      intro x hx y hy e
      have h := cancel (a := x) (b := y) hco (by simpa [Nat.mul_comm] using e)
      have := (hL x).1 hx; have := (hL y).1 hy
      rwa [Nat.mod_eq_of_lt (by omega), Nat.mod_eq_of_lt (by omega)] at h
    · intro y hy
      obtain ⟨x, hx, rfl⟩ := List.mem_map.1 hy
      have hx' := (hL x).1 hx
      refine (hL _).2 ⟨?_, Nat.mod_lt _ (by omega)⟩
      rcases Nat.eq_zero_or_pos (a * x % d) with e | e
      · rcases hd.dvd_mul (Nat.dvd_of_mod_eq_zero e) with h | h
        · exact absurd h ha
        · exact absurd h (Pr.not_dvd_small hx'.1 hx'.2)
      · exact e
  have e := prod_map a d L
  rw [prod_perm hp] at e
  have hl : L.length = d - 1 := by simp [L]
  rw [hl] at e
  have hc : Nat.Coprime d (prod L) := hd.cop (hd.not_dvd_prod L fun x hx => Pr.not_dvd_small ((hL x).1 hx).1 ((hL x).1 hx).2)
  have := cancel (a := a ^ (d - 1)) (b := 1) hc (by rw [Nat.one_mul]; exact e.symm)
  rw [this]; exact Nat.mod_eq_of_lt (by omega)

theorem dvd_pow_self' (b f : Nat) (h : 1 ≤ f) : b ∣ b ^ f := by
  obtain ⟨k, rfl⟩ : ∃ k, f = k + 1 := ⟨f - 1, by omega⟩
  exact ⟨b ^ k, by rw [Nat.pow_succ, Nat.mul_comm]⟩
theorem exists_inv {f m : Nat} (h : Nat.Coprime f m) (hm : 1 ≤ m) : ∃ u, f * u % m = 1 % m := by
  rcases Nat.lt_or_ge 1 m with g | g
  · have hL : ∀ x, x ∈ List.range m ↔ x < m := by simp
    have hp : ((List.range m).map fun x => f * x % m).Perm (List.range m) := by
      refine perm_of (nodup_map_on List.nodup_range ?_) ?_ (by simp)
      · intro x hx y hy e
        have h := cancel (a := x) (b := y) h.symm (by simpa [Nat.mul_comm] using e)
        rwa [Nat.mod_eq_of_lt ((hL x).1 hx), Nat.mod_eq_of_lt ((hL y).1 hy)] at h
      · intro y hy
        obtain ⟨x, _, rfl⟩ := List.mem_map.1 hy
        exact (hL _).2 (Nat.mod_lt _ (by omega))
    have h1 : 1 ∈ (List.range m).map fun x => f * x % m := hp.mem_iff.2 ((hL 1).2 g)
    obtain ⟨u, _, hu⟩ := List.mem_map.1 h1
    exact ⟨u, by rw [hu, Nat.mod_eq_of_lt g]⟩
  · exact ⟨0, by have : m = 1 := by omega
                 subst this; simp⟩

theorem pow_mod_one {b m k : Nat} (h : b ^ k % m = 1 % m) (u : Nat) : b ^ (k * u) % m = 1 % m := by
  rw [Nat.pow_mul, Nat.pow_mod, h, ← Nat.pow_mod, Nat.one_pow]

/-- One step of Pocklington's criterion: each prime divisor of n leaves 1 when divided by f. -/
theorem pock {n f a d : Nat} (hf : Pr f) (hn : 2 ≤ n) (hfn : f ∣ n - 1) (h1 : a ^ (n - 1) % n = 1)
    (h2 : Nat.Coprime (a ^ ((n - 1) / f) % n + (n - 1)) n) (hd : Pr d) (hdn : d ∣ n) : f ∣ d - 1 := by
  have hd2 := hd.1
  have hone : 1 % d = 1 := Nat.mod_eq_of_lt (by omega)
  let b := a ^ ((n - 1) / f)
  have hbf : b ^ f % d = 1 := by
    have : b ^ f = a ^ (n - 1) := by simp only [b]; rw [← Nat.pow_mul, Nat.div_mul_cancel hfn]
    rw [this, ← Nat.mod_mod_of_dvd _ hdn, h1, hone]
  have hb1 : b % d ≠ 1 := by
    intro e
    have hdv : d ∣ b % n + (n - 1) := by
      have e2 : b % n % d = 1 := by rw [Nat.mod_mod_of_dvd _ hdn]; exact e
      obtain ⟨k, hk⟩ := hdn
      have hk0 : 1 ≤ k := by rcases Nat.eq_zero_or_pos k with r | r; · subst r; omega
                             · exact r
      have : b % n = d * (b % n / d) + 1 := by have := Nat.div_add_mod (b % n) d; omega
      refine ⟨b % n / d + k, ?_⟩
      rw [Nat.mul_add, ← hk]; omega
    have := Nat.dvd_gcd hdv hdn
    rw [show Nat.gcd (b % n + (n - 1)) n = 1 from h2] at this
    have := Nat.le_of_dvd (by omega) this
    omega
  have hnd : ¬ d ∣ b := by
    intro h
    have : b ^ f % d = 0 := Nat.mod_eq_zero_of_dvd (Nat.dvd_trans h (dvd_pow_self' b f (by have := hf.1; omega)))
    omega
  have hfe := fermat hd hnd
  rcases Classical.em (f ∣ d - 1) with h | h
  · exact h
  exfalso
  -- f and d - 1 are coprime
  have hc := hf.cop h
  obtain ⟨u, hu⟩ := exists_inv hc (by omega)
  -- f * u % (d - 1) = 1 % (d-1)
  have e1 : b ^ (f * u) % d = 1 := by have := pow_mod_one (m := d) (by rw [hone]; exact hbf) u; rwa [hone] at this
  have e2 : b ^ (f * u) % d = b % d := by
    have hq := Nat.div_add_mod (f * u) (d - 1)
    rw [← hq, Nat.pow_add, Nat.mul_mod, pow_mod_one (m := d) (by rw [hone]; exact hfe), hu]
    rcases Nat.lt_or_ge 2 d with g | g
    · rw [Nat.mod_eq_of_lt (a := 1) (b := d - 1) (by omega), hone, Nat.one_mul, Nat.pow_one, Nat.mod_mod]
    · have : d = 2 := by omega
      subst this
      have : b % 2 ≠ 0 := fun h => hnd (Nat.dvd_of_mod_eq_zero h)
      omega
  omega

theorem exists_pr (n : Nat) (h : 2 ≤ n) : ∃ d, Pr d ∧ d ∣ n := by
  induction n using Nat.strongRecOn with
  | ind n ih =>
    rcases Classical.em (Pr n) with hp | hp
    · exact ⟨n, hp, Nat.dvd_refl n⟩
    · have : ∃ d, d ∣ n ∧ d ≠ 1 ∧ d ≠ n := by
        apply Classical.byContradiction
        intro hn
        refine hp ⟨h, fun d hd => ?_⟩
        apply Classical.byContradiction
        intro hc
        exact hn ⟨d, hd, fun e => hc (.inl e), fun e => hc (.inr e)⟩
      obtain ⟨d, hd, h1, h2⟩ := this
      have hle := Nat.le_of_dvd (by omega) hd
      have h0 : d ≠ 0 := by rintro rfl; have := Nat.eq_zero_of_zero_dvd hd; omega
      obtain ⟨e, he, hed⟩ := ih d (by omega) (by omega)
      exact ⟨e, he, Nat.dvd_trans hed hd⟩

/-- Who has no prime divisor up to the root is prime. -/
theorem pr_of_small {n : Nat} (h : 2 ≤ n) (hs : ∀ e, Pr e → e ∣ n → n < e * e) : Pr n := by
  refine ⟨h, fun d hd => ?_⟩
  apply Classical.byContradiction
  intro hc
  have h1 : d ≠ 1 := fun e => hc (.inl e)
  have h2 : d ≠ n := fun e => hc (.inr e)
  obtain ⟨k, hk⟩ := hd
  have hd0 : d ≠ 0 := by rintro rfl; omega
  have hk0 : k ≠ 0 := by rintro rfl; omega
  have hk1 : k ≠ 1 := by rintro rfl; omega
  rcases Nat.le_total d k with g | g
  · obtain ⟨e, he, hed⟩ := exists_pr d (by omega)
    have := hs e he (Nat.dvd_trans hed ⟨k, hk⟩)
    have hl := Nat.le_of_dvd (by omega) hed
    have := Nat.mul_le_mul hl (Nat.le_trans hl g)
    omega
  · obtain ⟨e, he, hed⟩ := exists_pr k (by omega)
    have := hs e he (Nat.dvd_trans hed ⟨d, by rw [hk, Nat.mul_comm]⟩)
    have hl := Nat.le_of_dvd (by omega) hed
    have := Nat.mul_le_mul (Nat.le_trans hl g) hl
    omega

def tr (n k : Nat) : Bool := (List.range k).all fun i => decide (i < 2) || decide (n % i ≠ 0)
theorem pr_tr {n : Nat} (k : Nat) (h2 : 2 ≤ n) (h : tr n k = true) (hk : n < k * k) : Pr n := by
  refine pr_of_small h2 fun e he hd => ?_
  apply Classical.byContradiction
  intro hc
  have hlt : e < k := by
    apply Classical.byContradiction
    intro g
    have := Nat.mul_le_mul (Nat.le_of_not_lt g) (Nat.le_of_not_lt g)
    omega
  have := List.all_eq_true.1 h e (by simpa using hlt)
  have h1 := he.1
  simp at this
  rcases this with h | h
  · omega
  · exact h (Nat.mod_eq_zero_of_dvd hd)

/-- A power, modulo m, by squaring. -/
def pm (m : Nat) : Nat → Nat → Nat → Nat
  | 0, _, _ => 1 % m
  | k + 1, b, e => if e % 2 = 1 then b * pm m k (b * b % m) (e / 2) % m else pm m k (b * b % m) (e / 2)
theorem pm_eq (m : Nat) : ∀ k b e, e < 2 ^ k → pm m k b e = b ^ e % m
  | 0, b, e, h => by have : e = 0 := by simpa using h
                     subst this; simp [pm]
  | k + 1, b, e, h => by
    have h' : e / 2 < 2 ^ k := by rw [Nat.pow_succ] at h; omega
    have ih := pm_eq m k (b * b % m) (e / 2) h'
    have hb : (b * b % m) ^ (e / 2) % m = b ^ (2 * (e / 2)) % m := by rw [← Nat.pow_mod, Nat.pow_mul, Nat.pow_two]
    have he := Nat.div_add_mod e 2
    unfold pm
    rw [ih, hb]
    split
    · next g => rw [Nat.mul_mod, Nat.mod_mod, ← Nat.mul_mod, ← Nat.pow_succ']; congr 2; omega
    · next g => congr 2; omega

theorem pock1 {n f d : Nat} (k : Nat) (hf : Pr f) (hn : 2 ≤ n) (hk : n ≤ 2 ^ k) (hfn : (n - 1) % f = 0) (h1 : pm n k 2 (n - 1) = 1)
    (h2 : Nat.gcd (pm n k 2 ((n - 1) / f) + (n - 1)) n = 1) (hd : Pr d) (hdn : d ∣ n) : f ∣ d - 1 := by
  have hdiv : (n - 1) / f ≤ n - 1 := Nat.div_le_self _ _
  refine pock (a := 2) hf hn (Nat.dvd_of_mod_eq_zero hfn) ?_ ?_ hd hdn
  · rw [← pm_eq n k 2 (n - 1) (by omega)]; exact h1
  · rw [← pm_eq n k 2 _ (by omega)]; exact h2

theorem pr_of_pock {n F : Nat} (hn : 2 ≤ n) (hF : n < F * F) (h : ∀ d, Pr d → d ∣ n → F ∣ d - 1) : Pr n := by
  refine pr_of_small hn fun e he hd => ?_
  have h1 := he.1
  have := Nat.le_of_dvd (by omega) (h e he hd)
  have : F ≤ e := by omega
  exact Nat.lt_of_lt_of_le hF (Nat.mul_le_mul this this)

theorem pr127 : Pr 127 := pr_tr 12 (by decide) (by decide +kernel) (by decide)
theorem pr75707 : Pr 75707 := pr_tr 276 (by decide) (by decide +kernel) (by decide)
theorem pr1923133 : Pr 1923133 := pr_tr 1387 (by decide) (by decide +kernel) (by decide)
theorem pr8574133 : Pr 8574133 := pr_tr 2929 (by decide) (by decide +kernel) (by decide)
theorem prS : Pr 1919519569386763 := by
  refine pr_of_pock (F := 8574133 * 127) (by decide) (by decide) fun d hd hdn => ?_
  have c : Nat.Coprime 8574133 127 := by decide +kernel
  exact c.mul_dvd_of_dvd_of_dvd (pock1 256 pr8574133 (by decide +kernel) (by decide +kernel) (by decide +kernel) (by decide +kernel) (by decide +kernel) hd hdn)
    (pock1 256 pr127 (by decide +kernel) (by decide +kernel) (by decide +kernel) (by decide +kernel) (by decide +kernel) hd hdn)
theorem prR : Pr 75445702479781427272750846543864801 := by
  refine pr_of_pock (F := 1919519569386763 * 75707) (by decide) (by decide) fun d hd hdn => ?_
  have c : Nat.Coprime 1919519569386763 75707 := by decide +kernel
  exact c.mul_dvd_of_dvd_of_dvd (pock1 256 prS (by decide +kernel) (by decide +kernel) (by decide +kernel) (by decide +kernel) (by decide +kernel) hd hdn)
    (pock1 256 pr75707 (by decide +kernel) (by decide +kernel) (by decide +kernel) (by decide +kernel) (by decide +kernel) hd hdn)
theorem prQ : Pr 74058212732561358302231226437062788676166966415465897661863160754340907 := by
  refine pr_of_pock (F := 75445702479781427272750846543864801 * 1923133) (by decide) (by decide) fun d hd hdn => ?_
  have c : Nat.Coprime 75445702479781427272750846543864801 1923133 := by decide +kernel
  exact c.mul_dvd_of_dvd_of_dvd (pock1 256 prR (by decide +kernel) (by decide +kernel) (by decide +kernel) (by decide +kernel) (by decide +kernel) hd hdn)
    (pock1 256 pr1923133 (by decide +kernel) (by decide +kernel) (by decide +kernel) (by decide +kernel) (by decide +kernel) hd hdn)
/-- 2^255 - 19. -/
def P : Nat := 57896044618658097711785492504343953926634992332820282019728792003956564819949
theorem P_eq : P = 2 ^ 255 - 19 := by decide +kernel
theorem prP : Pr P := by
  refine pr_of_pock (F := 74058212732561358302231226437062788676166966415465897661863160754340907) (by decide +kernel) (by decide +kernel) fun d hd hdn => ?_
  exact pock1 256 prQ (by decide +kernel) (by decide +kernel) (by decide +kernel) (by decide +kernel) (by decide +kernel) hd hdn

/-! ### Powers, bit by bit -/
def E : Nat := 57896044618658097711785492504343953926634992332820282019728792003956564819947
/-- What the first bits of p - 2 make of a. -/
def pw (a k : Nat) : Nat := a ^ (E / 2 ^ k) % P
theorem E_bits : ∀ j, j < 255 → E / 2 ^ j % 2 = if j = 4 ∨ j = 2 then 0 else 1 := by decide +kernel
theorem E_div (j : Nat) : E / 2 ^ j = 2 * (E / 2 ^ (j + 1)) + E / 2 ^ j % 2 := by
  have h : E / 2 ^ (j + 1) = E / 2 ^ j / 2 := by rw [Nat.pow_succ, Nat.div_div_eq_div_mul]
  omega
theorem pw_top (a : Nat) : pw a 255 = 1 := by
  have h : E / 2 ^ 255 = 0 := by decide +kernel
  unfold pw; rw [h, Nat.pow_zero]; decide +kernel
theorem pw_bot (a : Nat) : pw a 0 = a ^ E % P := by unfold pw; rw [Nat.pow_zero, Nat.div_one]
theorem pw_sq (a j : Nat) (hj : j < 255) (h : j = 4 ∨ j = 2) : pw a (j + 1) * pw a (j + 1) % P = pw a j := by
  unfold pw
  rw [E_div j, E_bits j hj, if_pos h]
  generalize E / 2 ^ (j + 1) = e
  rw [← Nat.mul_mod, Nat.add_zero, Nat.two_mul, Nat.pow_add]
theorem pw_sqm (a j : Nat) (hj : j < 255) (h : ¬ (j = 4 ∨ j = 2)) : pw a (j + 1) * pw a (j + 1) % P * a % P = pw a j := by
  unfold pw
  rw [E_div j, E_bits j hj, if_neg h]
  generalize E / 2 ^ (j + 1) = e
  rw [← Nat.mul_mod, Nat.mod_mul_mod, Nat.pow_succ, Nat.two_mul, Nat.pow_add]
theorem pw_lt (a k : Nat) : pw a k < P := Nat.mod_lt _ (by decide +kernel)
theorem P_pos : 0 < P := by decide +kernel
theorem E_succ : E + 1 = P - 1 := by decide +kernel
/-- The inverse. -/
theorem inv_mul (a : Nat) (h : a % P ≠ 0) : a * (a ^ E % P) % P = 1 := by
  rw [Nat.mul_mod, Nat.mod_mod, ← Nat.mul_mod, Nat.mul_comm, ← Nat.pow_succ, show E.succ = P - 1 from E_succ]
  exact fermat prP fun hd => h (Nat.mod_eq_zero_of_dvd hd)
theorem pow_mod (a k : Nat) : (a % P) ^ k % P = a ^ k % P := (Nat.pow_mod a k P).symm
theorem inv_zero : 0 ^ E % P = 0 := by
  have : (0 : Nat) ^ E = 0 := Nat.zero_pow (by decide +kernel)
  rw [this]; decide +kernel
/-- The inverse's inverse. -/
theorem inv_inv (a : Nat) : (a ^ E % P) ^ E % P = a % P := by
  by_cases h : a % P = 0
  · have h1 : a ^ E % P = 0 := by rw [Nat.pow_mod, h, inv_zero]
    rw [h1, inv_zero, h]
  · have h1 := inv_mul a h
    have hne : a ^ E % P % P ≠ 0 := by
      intro h0
      rw [Nat.mod_mod] at h0
      rw [h0, Nat.mul_zero, Nat.zero_mod] at h1; omega
    have h2 := inv_mul (a ^ E % P) hne
    -- a = a * (b * b') = (a * b) * b' = b'
    calc (a ^ E % P) ^ E % P = (1 * ((a ^ E % P) ^ E % P)) % P := by rw [Nat.one_mul, Nat.mod_mod]
      _ = (a * (a ^ E % P) % P * ((a ^ E % P) ^ E % P)) % P := by rw [h1]
      _ = a * ((a ^ E % P) * ((a ^ E % P) ^ E % P) % P) % P := by generalize (a ^ E % P) ^ E % P = c; rw [Nat.mod_mul_mod, Nat.mul_mod_mod, Nat.mul_assoc]
      _ = a % P := by rw [h2, Nat.mul_one]
theorem inv_prod (a b : Nat) : (a * b % P) ^ E % P = (a ^ E % P) * (b ^ E % P) % P := by
  rw [← Nat.pow_mod, Nat.mul_pow, ← Nat.mul_mod]
end Fp
