/-
  Part 2 of the texts behind the theorem.
-/
import Derived.Test.YtddmjddlbhdcpaaGreatDoorPart1
namespace Fp
def Pr (n : Nat) : Prop := 2 ≤ n ∧ ∀ d, d ∣ n → d = 1 ∨ d = n
theorem perm_of {l1 : List Nat} : ∀ {l2 : List Nat}, l1.Nodup → (∀ x ∈ l1, x ∈ l2) → l2.length ≤ l1.length → l1.Perm l2 := by
  induction l1 with
  | nil => intro l2 _ _ h; have : l2 = [] := by cases l2 with | nil => rfl | cons => simp at h
           subst this; exact List.Perm.refl _
  | cons x t ih =>
    intro l2 hn hs hl
    have hx : x ∈ l2 := hs x (by simp)
    have hp := List.perm_cons_erase hx
    have hn' := List.nodup_cons.1 hn
    refine (List.Perm.cons x (ih hn'.2 ?_ ?_)).trans hp.symm
    · intro y hy
      have : y ≠ x := fun e => hn'.1 (e ▸ hy)
      exact (List.mem_erase_of_ne this).2 (hs y (by simp [hy]))
    · have := hp.length_eq; simp at this hl; omega
def prod : List Nat → Nat
  | [] => 1
  | x :: t => x * prod t
theorem prod_perm {l1 l2 : List Nat} (h : l1.Perm l2) : prod l1 = prod l2 := by
  induction h with
  | nil => rfl
  | cons x _ ih => simp [prod, ih]
  | swap x y l => simp [prod, Nat.mul_left_comm]
  | trans _ _ a b => exact a.trans b
theorem prod_map (a d : Nat) (l : List Nat) : prod (l.map fun x => a * x % d) % d = a ^ l.length * prod l % d := by
  induction l with
  | nil => simp [prod]
  | cons x t ih =>
    simp only [List.map_cons, prod, List.length_cons]
    rw [Nat.mul_mod, ih, Nat.mod_mod, ← Nat.mul_mod]
    congr 1; rw [Nat.pow_succ]; simp [Nat.mul_assoc, Nat.mul_comm, Nat.mul_left_comm]
theorem Pr.cop {d a : Nat} (hd : Pr d) (h : ¬ d ∣ a) : Nat.Coprime d a := by
  rcases hd.2 _ (Nat.gcd_dvd_left d a) with e | e
  · exact e
  · exact absurd (e ▸ Nat.gcd_dvd_right d a) h
theorem Pr.dvd_mul {d a b : Nat} (hd : Pr d) (h : d ∣ a * b) : d ∣ a ∨ d ∣ b := by
  by_cases ha : d ∣ a
  · exact .inl ha
  · exact .inr ((hd.cop ha).dvd_of_dvd_mul_left h)
theorem Pr.not_dvd_prod {d : Nat} (hd : Pr d) : ∀ l : List Nat, (∀ x ∈ l, ¬ d ∣ x) → ¬ d ∣ prod l
  | [], _, h => by have := Nat.le_of_dvd (by simp [prod]) h; have := hd.1; simp [prod] at *; omega
  | x :: t, hx, h => by
    rcases hd.dvd_mul h with h | h
    · exact hx x (by simp) h
    · exact hd.not_dvd_prod t (fun y hy => hx y (by simp [hy])) h
theorem dvd_of_mod {d a b : Nat} (e : a % d = b % d) : d ∣ a - b := Nat.dvd_of_mod_eq_zero (Nat.sub_mod_eq_zero_of_mod_eq e)
theorem mod_of_dvd {d a b : Nat} (hab : b ≤ a) (h : d ∣ a - b) : a % d = b % d := by
  obtain ⟨k, hk⟩ := h
  have : a = b + d * k := by omega
  rw [this, Nat.add_mul_mod_self_left]
theorem cancel' {d c a b : Nat} (h : Nat.Coprime d c) (e : a * c % d = b * c % d) (hab : b ≤ a) : a % d = b % d := by
  have : d ∣ (a - b) * c := by rw [Nat.sub_mul]; exact dvd_of_mod e
  exact mod_of_dvd hab (h.dvd_of_dvd_mul_right this)
theorem cancel {d c a b : Nat} (h : Nat.Coprime d c) (e : a * c % d = b * c % d) : a % d = b % d := by
  rcases Nat.le_total b a with g | g
  · exact cancel' h e g
  · exact (cancel' h e.symm g).symm
theorem Pr.not_dvd_small {d x : Nat} (h1 : 1 ≤ x) (h2 : x < d) : ¬ d ∣ x := fun h => by have := Nat.le_of_dvd h1 h; omega
theorem nodup_map_on {f : Nat → Nat} : ∀ {l : List Nat}, l.Nodup → (∀ x ∈ l, ∀ y ∈ l, f x = f y → x = y) → (l.map f).Nodup
  | [], _, _ => by simp
  | x :: t, hn, h => by
    have hn' := List.nodup_cons.1 hn
    refine List.nodup_cons.2 ⟨?_, nodup_map_on hn'.2 fun a ha b hb => h a (by simp [ha]) b (by simp [hb])⟩
    intro hm
    obtain ⟨y, hy, e⟩ := List.mem_map.1 hm
    exact hn'.1 (h y (by simp [hy]) x (by simp) e ▸ hy)
theorem fermat {d a : Nat} (hd : Pr d) (ha : ¬ d ∣ a) : a ^ (d - 1) % d = 1 := by
  have h2 := hd.1
  have hco := hd.cop ha
  let L := List.range' 1 (d - 1)
  have hL : ∀ x, x ∈ L ↔ 1 ≤ x ∧ x < d := by intro x; simp only [L, List.mem_range'_1]; omega
  have hp : (L.map fun x => a * x % d).Perm L := by
    refine perm_of ?_ ?_ (by simp)
    · have hn : L.Nodup := List.nodup_range'
      refine nodup_map_on hn ?_
      intro x hx y hy e
      have h := cancel (a := x) (b := y) hco (by simpa [Nat.mul_comm] using e)
      have := (hL x).1 hx; have := (hL y).1 hy
      rwa [Nat.mod_eq_of_lt (by omega), Nat.mod_eq_of_lt (by omega)] at h
    · intro y hy
      obtain ⟨x, hx, rfl⟩ := List.mem_map.1 hy
      have hx' := (hL x).1 hx
      refine (hL _).2 ⟨?_, Nat.mod_lt _ (by omega)⟩
      rcases Nat.eq_zero_or_pos (a * x % d) with e | e
      · rcases hd.dvd_mul (Nat.dvd_of_mod_eq_zero e) with h | h
        · exact absurd h ha
        · exact absurd h (Pr.not_dvd_small hx'.1 hx'.2)
      · exact e
  have e := prod_map a d L
  rw [prod_perm hp] at e
  have hl : L.length = d - 1 := by simp [L]
  rw [hl] at e
  have hc : Nat.Coprime d (prod L) := hd.cop (hd.not_dvd_prod L fun x hx => Pr.not_dvd_small ((hL x).1 hx).1 ((hL x).1 hx).2)
  have := cancel (a := a ^ (d - 1)) (b := 1) hc (by rw [Nat.one_mul]; exact e.symm)
  rw [this]; exact Nat.mod_eq_of_lt (by omega)
theorem dvd_pow_self' (b f : Nat) (h : 1 ≤ f) : b ∣ b ^ f := by
  obtain ⟨k, rfl⟩ : ∃ k, f = k + 1 := ⟨f - 1, by omega⟩
  exact ⟨b ^ k, by rw [Nat.pow_succ, Nat.mul_comm]⟩
theorem exists_inv {f m : Nat} (h : Nat.Coprime f m) (hm : 1 ≤ m) : ∃ u, f * u % m = 1 % m := by
  rcases Nat.lt_or_ge 1 m with g | g
  · have hL : ∀ x, x ∈ List.range m ↔ x < m := by simp
    have hp : ((List.range m).map fun x => f * x % m).Perm (List.range m) := by
      refine perm_of (nodup_map_on List.nodup_range ?_) ?_ (by simp)
      · intro x hx y hy e
        have h := cancel (a := x) (b := y) h.symm (by simpa [Nat.mul_comm] using e)
        rwa [Nat.mod_eq_of_lt ((hL x).1 hx), Nat.mod_eq_of_lt ((hL y).1 hy)] at h
      · intro y hy
        obtain ⟨x, _, rfl⟩ := List.mem_map.1 hy
        exact (hL _).2 (Nat.mod_lt _ (by omega))
    have h1 : 1 ∈ (List.range m).map fun x => f * x % m := hp.mem_iff.2 ((hL 1).2 g)
    obtain ⟨u, _, hu⟩ := List.mem_map.1 h1
    exact ⟨u, by rw [hu, Nat.mod_eq_of_lt g]⟩
  · exact ⟨0, by have : m = 1 := by omega
                 subst this; simp⟩
theorem pow_mod_one {b m k : Nat} (h : b ^ k % m = 1 % m) (u : Nat) : b ^ (k * u) % m = 1 % m := by
  rw [Nat.pow_mul, Nat.pow_mod, h, ← Nat.pow_mod, Nat.one_pow]
theorem pock {n f a d : Nat} (hf : Pr f) (hn : 2 ≤ n) (hfn : f ∣ n - 1) (h1 : a ^ (n - 1) % n = 1)
    (h2 : Nat.Coprime (a ^ ((n - 1) / f) % n + (n - 1)) n) (hd : Pr d) (hdn : d ∣ n) : f ∣ d - 1 := by
  have hd2 := hd.1
  have hone : 1 % d = 1 := Nat.mod_eq_of_lt (by omega)
  let b := a ^ ((n - 1) / f)
  have hbf : b ^ f % d = 1 := by
    have : b ^ f = a ^ (n - 1) := by simp only [b]; rw [← Nat.pow_mul, Nat.div_mul_cancel hfn]
    rw [this, ← Nat.mod_mod_of_dvd _ hdn, h1, hone]
  have hb1 : b % d ≠ 1 := by
    intro e
    have hdv : d ∣ b % n + (n - 1) := by
      have e2 : b % n % d = 1 := by rw [Nat.mod_mod_of_dvd _ hdn]; exact e
      obtain ⟨k, hk⟩ := hdn
      have hk0 : 1 ≤ k := by rcases Nat.eq_zero_or_pos k with r | r; · subst r; omega
                             · exact r
      have : b % n = d * (b % n / d) + 1 := by have := Nat.div_add_mod (b % n) d; omega
      refine ⟨b % n / d + k, ?_⟩
      rw [Nat.mul_add, ← hk]; omega
    have := Nat.dvd_gcd hdv hdn
    rw [show Nat.gcd (b % n + (n - 1)) n = 1 from h2] at this
    have := Nat.le_of_dvd (by omega) this
    omega
  have hnd : ¬ d ∣ b := by
    intro h
    have : b ^ f % d = 0 := Nat.mod_eq_zero_of_dvd (Nat.dvd_trans h (dvd_pow_self' b f (by have := hf.1; omega)))
    omega
  have hfe := fermat hd hnd
  rcases Classical.em (f ∣ d - 1) with h | h
  · exact h
  exfalso
  have hc := hf.cop h
  obtain ⟨u, hu⟩ := exists_inv hc (by omega)
  have e1 : b ^ (f * u) % d = 1 := by have := pow_mod_one (m := d) (by rw [hone]; exact hbf) u; rwa [hone] at this
  have e2 : b ^ (f * u) % d = b % d := by
    have hq := Nat.div_add_mod (f * u) (d - 1)
    rw [← hq, Nat.pow_add, Nat.mul_mod, pow_mod_one (m := d) (by rw [hone]; exact hfe), hu]
    rcases Nat.lt_or_ge 2 d with g | g
    · rw [Nat.mod_eq_of_lt (a := 1) (b := d - 1) (by omega), hone, Nat.one_mul, Nat.pow_one, Nat.mod_mod]
    · have : d = 2 := by omega
      subst this
      have : b % 2 ≠ 0 := fun h => hnd (Nat.dvd_of_mod_eq_zero h)
      omega
  omega
theorem exists_pr (n : Nat) (h : 2 ≤ n) : ∃ d, Pr d ∧ d ∣ n := by
  induction n using Nat.strongRecOn with
  | ind n ih =>
    rcases Classical.em (Pr n) with hp | hp
    · exact ⟨n, hp, Nat.dvd_refl n⟩
    · have : ∃ d, d ∣ n ∧ d ≠ 1 ∧ d ≠ n := by
        apply Classical.byContradiction
        intro hn
        refine hp ⟨h, fun d hd => ?_⟩
        apply Classical.byContradiction
        intro hc
        exact hn ⟨d, hd, fun e => hc (.inl e), fun e => hc (.inr e)⟩
      obtain ⟨d, hd, h1, h2⟩ := this
      have hle := Nat.le_of_dvd (by omega) hd
      have h0 : d ≠ 0 := by rintro rfl; have := Nat.eq_zero_of_zero_dvd hd; omega
      obtain ⟨e, he, hed⟩ := ih d (by omega) (by omega)
      exact ⟨e, he, Nat.dvd_trans hed hd⟩
theorem pr_of_small {n : Nat} (h : 2 ≤ n) (hs : ∀ e, Pr e → e ∣ n → n < e * e) : Pr n := by
  refine ⟨h, fun d hd => ?_⟩
  apply Classical.byContradiction
  intro hc
  have h1 : d ≠ 1 := fun e => hc (.inl e)
  have h2 : d ≠ n := fun e => hc (.inr e)
  obtain ⟨k, hk⟩ := hd
  have hd0 : d ≠ 0 := by rintro rfl; omega
  have hk0 : k ≠ 0 := by rintro rfl; omega
  have hk1 : k ≠ 1 := by rintro rfl; omega
  rcases Nat.le_total d k with g | g
  · obtain ⟨e, he, hed⟩ := exists_pr d (by omega)
    have := hs e he (Nat.dvd_trans hed ⟨k, hk⟩)
    have hl := Nat.le_of_dvd (by omega) hed
    have := Nat.mul_le_mul hl (Nat.le_trans hl g)
    omega
  · obtain ⟨e, he, hed⟩ := exists_pr k (by omega)
    have := hs e he (Nat.dvd_trans hed ⟨d, by rw [hk, Nat.mul_comm]⟩)
    have hl := Nat.le_of_dvd (by omega) hed
    have := Nat.mul_le_mul (Nat.le_trans hl g) hl
    omega
def tr (n k : Nat) : Bool := (List.range k).all fun i => decide (i < 2) || decide (n % i ≠ 0)
theorem pr_tr {n : Nat} (k : Nat) (h2 : 2 ≤ n) (h : tr n k = true) (hk : n < k * k) : Pr n := by
  refine pr_of_small h2 fun e he hd => ?_
  apply Classical.byContradiction
  intro hc
  have hlt : e < k := by
    apply Classical.byContradiction
    intro g
    have := Nat.mul_le_mul (Nat.le_of_not_lt g) (Nat.le_of_not_lt g)
    omega
  have := List.all_eq_true.1 h e (by simpa using hlt)
  have h1 := he.1
  simp at this
  rcases this with h | h
  · omega
  · exact h (Nat.mod_eq_zero_of_dvd hd)
def pm (m : Nat) : Nat → Nat → Nat → Nat
  | 0, _, _ => 1 % m
  | k + 1, b, e => if e % 2 = 1 then b * pm m k (b * b % m) (e / 2) % m else pm m k (b * b % m) (e / 2)
theorem pm_eq (m : Nat) : ∀ k b e, e < 2 ^ k → pm m k b e = b ^ e % m
  | 0, b, e, h => by have : e = 0 := by simpa using h
                     subst this; simp [pm]
  | k + 1, b, e, h => by
    have h' : e / 2 < 2 ^ k := by rw [Nat.pow_succ] at h; omega
    have ih := pm_eq m k (b * b % m) (e / 2) h'
    have hb : (b * b % m) ^ (e / 2) % m = b ^ (2 * (e / 2)) % m := by rw [← Nat.pow_mod, Nat.pow_mul, Nat.pow_two]
    have he := Nat.div_add_mod e 2
    unfold pm
    rw [ih, hb]
    split
    · next g => rw [Nat.mul_mod, Nat.mod_mod, ← Nat.mul_mod, ← Nat.pow_succ']; congr 2; omega
    · next g => congr 2; omega
theorem pock1 {n f d : Nat} (k : Nat) (hf : Pr f) (hn : 2 ≤ n) (hk : n ≤ 2 ^ k) (hfn : (n - 1) % f = 0) (h1 : pm n k 2 (n - 1) = 1)
    (h2 : Nat.gcd (pm n k 2 ((n - 1) / f) + (n - 1)) n = 1) (hd : Pr d) (hdn : d ∣ n) : f ∣ d - 1 := by
  have hdiv : (n - 1) / f ≤ n - 1 := Nat.div_le_self _ _
  refine pock (a := 2) hf hn (Nat.dvd_of_mod_eq_zero hfn) ?_ ?_ hd hdn
  · rw [← pm_eq n k 2 (n - 1) (by omega)]; exact h1
  · rw [← pm_eq n k 2 _ (by omega)]; exact h2
theorem pr_of_pock {n F : Nat} (hn : 2 ≤ n) (hF : n < F * F) (h : ∀ d, Pr d → d ∣ n → F ∣ d - 1) : Pr n := by
  refine pr_of_small hn fun e he hd => ?_
  have h1 := he.1
  have := Nat.le_of_dvd (by omega) (h e he hd)
  have : F ≤ e := by omega
  exact Nat.lt_of_lt_of_le hF (Nat.mul_le_mul this this)
theorem pr127 : Pr 127 := pr_tr 12 (by decide) (by decide +kernel) (by decide)
theorem pr75707 : Pr 75707 := pr_tr 276 (by decide) (by decide +kernel) (by decide)
theorem pr1923133 : Pr 1923133 := pr_tr 1387 (by decide) (by decide +kernel) (by decide)
theorem pr8574133 : Pr 8574133 := pr_tr 2929 (by decide) (by decide +kernel) (by decide)
theorem prS : Pr 1919519569386763 := by
  refine pr_of_pock (F := 8574133 * 127) (by decide) (by decide) fun d hd hdn => ?_
  have c : Nat.Coprime 8574133 127 := by decide +kernel
  exact c.mul_dvd_of_dvd_of_dvd (pock1 256 pr8574133 (by decide +kernel) (by decide +kernel) (by decide +kernel) (by decide +kernel) (by decide +kernel) hd hdn)
    (pock1 256 pr127 (by decide +kernel) (by decide +kernel) (by decide +kernel) (by decide +kernel) (by decide +kernel) hd hdn)
theorem prR : Pr 75445702479781427272750846543864801 := by
  refine pr_of_pock (F := 1919519569386763 * 75707) (by decide) (by decide) fun d hd hdn => ?_
  have c : Nat.Coprime 1919519569386763 75707 := by decide +kernel
  exact c.mul_dvd_of_dvd_of_dvd (pock1 256 prS (by decide +kernel) (by decide +kernel) (by decide +kernel) (by decide +kernel) (by decide +kernel) hd hdn)
    (pock1 256 pr75707 (by decide +kernel) (by decide +kernel) (by decide +kernel) (by decide +kernel) (by decide +kernel) hd hdn)
theorem prQ : Pr 74058212732561358302231226437062788676166966415465897661863160754340907 := by
  refine pr_of_pock (F := 75445702479781427272750846543864801 * 1923133) (by decide) (by decide) fun d hd hdn => ?_
  have c : Nat.Coprime 75445702479781427272750846543864801 1923133 := by decide +kernel
  exact c.mul_dvd_of_dvd_of_dvd (pock1 256 prR (by decide +kernel) (by decide +kernel) (by decide +kernel) (by decide +kernel) (by decide +kernel) hd hdn)
    (pock1 256 pr1923133 (by decide +kernel) (by decide +kernel) (by decide +kernel) (by decide +kernel) (by decide +kernel) hd hdn)
def P : Nat := 57896044618658097711785492504343953926634992332820282019728792003956564819949
theorem prP : Pr P := by
  refine pr_of_pock (F := 74058212732561358302231226437062788676166966415465897661863160754340907) (by decide +kernel) (by decide +kernel) fun d hd hdn => ?_
  exact pock1 256 prQ (by decide +kernel) (by decide +kernel) (by decide +kernel) (by decide +kernel) (by decide +kernel) hd hdn
def E : Nat := 57896044618658097711785492504343953926634992332820282019728792003956564819947
def pw (a k : Nat) : Nat := a ^ (E / 2 ^ k) % P
theorem E_bits : ∀ j, j < 255 → E / 2 ^ j % 2 = if j = 4 ∨ j = 2 then 0 else 1 := by decide +kernel
theorem E_div (j : Nat) : E / 2 ^ j = 2 * (E / 2 ^ (j + 1)) + E / 2 ^ j % 2 := by
  have h : E / 2 ^ (j + 1) = E / 2 ^ j / 2 := by rw [Nat.pow_succ, Nat.div_div_eq_div_mul]
  omega
theorem pw_top (a : Nat) : pw a 255 = 1 := by
  have h : E / 2 ^ 255 = 0 := by decide +kernel
  unfold pw; rw [h, Nat.pow_zero]; decide +kernel
theorem pw_bot (a : Nat) : pw a 0 = a ^ E % P := by unfold pw; rw [Nat.pow_zero, Nat.div_one]
theorem pw_sq (a j : Nat) (hj : j < 255) (h : j = 4 ∨ j = 2) : pw a (j + 1) * pw a (j + 1) % P = pw a j := by
  unfold pw
  rw [E_div j, E_bits j hj, if_pos h]
  generalize E / 2 ^ (j + 1) = e
  rw [← Nat.mul_mod, Nat.add_zero, Nat.two_mul, Nat.pow_add]
theorem pw_sqm (a j : Nat) (hj : j < 255) (h : ¬ (j = 4 ∨ j = 2)) : pw a (j + 1) * pw a (j + 1) % P * a % P = pw a j := by
  unfold pw
  rw [E_div j, E_bits j hj, if_neg h]
  generalize E / 2 ^ (j + 1) = e
  rw [← Nat.mul_mod, Nat.mod_mul_mod, Nat.pow_succ, Nat.two_mul, Nat.pow_add]
theorem P_pos : 0 < P := by decide +kernel
theorem E_succ : E + 1 = P - 1 := by decide +kernel
theorem inv_mul (a : Nat) (h : a % P ≠ 0) : a * (a ^ E % P) % P = 1 := by
  rw [Nat.mul_mod, Nat.mod_mod, ← Nat.mul_mod, Nat.mul_comm, ← Nat.pow_succ, show E.succ = P - 1 from E_succ]
  exact fermat prP fun hd => h (Nat.mod_eq_zero_of_dvd hd)
theorem pow_mod (a k : Nat) : (a % P) ^ k % P = a ^ k % P := (Nat.pow_mod a k P).symm
theorem inv_zero : 0 ^ E % P = 0 := by
  have : (0 : Nat) ^ E = 0 := Nat.zero_pow (by decide +kernel)
  rw [this]; decide +kernel
end Fp

namespace Go.Proofs.YtddmjddlbhdcpaaGreatDoor.Ed
variable {n:Nat} [NeZero n]
def ed (a d u v:Fin n):Fin n:=a*u*u+v*v-1-d*u*u*v*v
set_option maxRecDepth 100000 in
set_option maxHeartbeats 4000000 in
theorem assoc_u (a d u1 v1 u2 v2 u3 v3:Fin n):((u1*v2+v1*u2)*(1-(d*(u1*u2*v1*v2)))*v3+(v1*v2-a*(u1*u2))*(1+(d*(u1*u2*v1*v2)))*u3)*((1-(d*(u2*u3*v2*v3))*(d*(u2*u3*v2*v3)))+d*(u1*v1*(u2*v3+v2*u3)*(v2*v3-a*(u2*u3))))-(u1*((v2*v3-a*(u2*u3))*(1+(d*(u2*u3*v2*v3))))+v1*((u2*v3+v2*u3)*(1-(d*(u2*u3*v2*v3)))))*((1-(d*(u1*u2*v1*v2))*(d*(u1*u2*v1*v2)))+d*((u1*v2+v1*u2)*(v1*v2-a*(u1*u2))*u3*v3)) =
 ((-1)*v1*u2*v2*v2*v2*v2*u3*u3*v3*d+(-1)*v1*u2*u2*v2*v2*v2*u3*d+1*v1*u2*u2*v2*v2*v2*u3*u3*u3*d*a+(-1)*v1*u2*u2*u2*v2*v2*v3*d+1*v1*u2*u2*u2*v2*v2*v3*v3*v3*d+1*v1*u2*u2*u2*v2*v2*v2*v2*u3*u3*v3*d*d+(-1)*v1*u2*u2*u2*u2*v2*u3*v3*v3*d*a+1*v1*u2*u2*u2*u2*v2*v2*v2*u3*v3*v3*d*d+1*u1*u2*v2*v2*v2*v2*u3*v3*v3*d+(-1)*u1*u2*u2*v2*v2*v2*v3*d+1*u1*u2*u2*v2*v2*v2*v3*v3*v3*d+1*u1*u2*u2*u2*v2*v2*u3*d*a+(-1)*u1*u2*u2*u2*v2*v2*u3*u3*u3*d*a*a+(-1)*u1*u2*u2*u2*v2*v2*v2*v2*u3*v3*v3*d*d+(-1)*u1*u2*u2*u2*u2*v2*u3*u3*v3*d*a*a+1*u1*u2*u2*u2*u2*v2*v2*v2*u3*u3*v3*d*d*a)*ed a d u1 v1+(1*v1*v2*u3+(-1)*v1*v2*u3*v3*v3+(-1)*v1*v2*u3*u3*u3*a+1*v1*v2*u3*u3*u3*v3*v3*d+1*v1*u2*v3+(-1)*v1*u2*v3*v3*v3+(-1)*v1*u2*u3*u3*v3*a+1*v1*u2*u3*u3*v3*v3*v3*d+(-1)*v1*u2*v2*v2*u3*u3*v3*d+(-1)*v1*u2*u2*v2*u3*v3*v3*d+(-1)*v1*v1*v1*v2*u3+1*v1*v1*v1*v2*u3*v3*v3+1*v1*v1*v1*v2*u3*u3*u3*a+(-1)*v1*v1*v1*v2*u3*u3*u3*v3*v3*d+(-1)*v1*v1*v1*u2*v3+1*v1*v1*v1*u2*v3*v3*v3+1*v1*v1*v1*u2*u3*u3*v3*a+(-1)*v1*v1*v1*u2*u3*u3*v3*v3*v3*d+1*v1*v1*v1*u2*v2*v2*u3*u3*v3*d+1*v1*v1*v1*u2*u2*v2*u3*v3*v3*d+1*u1*v2*v3+(-1)*u1*v2*v3*v3*v3+(-1)*u1*v2*u3*u3*v3*a+1*u1*v2*u3*u3*v3*v3*v3*d+(-1)*u1*u2*u3*a+1*u1*u2*u3*v3*v3*a+1*u1*u2*u3*u3*u3*a*a+(-1)*u1*u2*u3*u3*u3*v3*v3*d*a+1*u1*u2*v2*v2*u3*v3*v3*d+(-1)*u1*u2*u2*v2*u3*u3*v3*d*a+(-1)*u1*v1*v1*v2*v3+1*u1*v1*v1*v2*v3*v3*v3+1*u1*v1*v1*v2*u3*u3*v3*a+(-1)*u1*v1*v1*v2*u3*u3*v3*v3*v3*d+1*u1*v1*v1*u2*u3*a+(-1)*u1*v1*v1*u2*u3*v3*v3*a+(-1)*u1*v1*v1*u2*u3*u3*u3*a*a+1*u1*v1*v1*u2*u3*u3*u3*v3*v3*d*a+(-1)*u1*v1*v1*u2*v2*v2*u3*v3*v3*d+1*u1*v1*v1*u2*v2*v2*u3*u3*u3*v3*v3*d*d+1*u1*v1*v1*u2*u2*v2*u3*u3*v3*d*a+(-1)*u1*v1*v1*u2*u2*v2*u3*u3*v3*v3*v3*d*d+(-1)*u1*u1*v1*v2*u3*a+1*u1*u1*v1*v2*u3*v3*v3*a+1*u1*u1*v1*v2*u3*u3*u3*a*a+(-1)*u1*u1*v1*v2*u3*u3*u3*v3*v3*d*a+(-1)*u1*u1*v1*u2*v3*a+1*u1*u1*v1*u2*v3*v3*v3*a+1*u1*u1*v1*u2*u3*u3*v3*a*a+(-1)*u1*u1*v1*u2*u3*u3*v3*v3*v3*d*a+1*u1*u1*v1*u2*v2*v2*u3*u3*v3*d*a+(-1)*u1*u1*v1*u2*v2*v2*u3*u3*v3*v3*v3*d*d+1*u1*u1*v1*u2*u2*v2*u3*v3*v3*d*a+(-1)*u1*u1*v1*u2*u2*v2*u3*u3*u3*v3*v3*d*d*a+(-1)*u1*u1*u1*v2*v3*a+1*u1*u1*u1*v2*v3*v3*v3*a+1*u1*u1*u1*v2*u3*u3*v3*a*a+(-1)*u1*u1*u1*v2*u3*u3*v3*v3*v3*d*a+1*u1*u1*u1*u2*u3*a*a+(-1)*u1*u1*u1*u2*u3*v3*v3*a*a+(-1)*u1*u1*u1*u2*u3*u3*u3*a*a*a+1*u1*u1*u1*u2*u3*u3*u3*v3*v3*d*a*a+(-1)*u1*u1*u1*u2*v2*v2*u3*v3*v3*d*a+1*u1*u1*u1*u2*u2*v2*u3*u3*v3*d*a*a)*ed a d u2 v2+((-1)*v1*v2*u3+1*v1*v2*v2*v2*u3+(-1)*v1*u2*v3+1*v1*u2*v2*v2*v3+1*v1*u2*u2*v2*u3*a+1*v1*u2*u2*u2*v3*a+1*v1*v1*v1*v2*u3+(-1)*v1*v1*v1*v2*v2*v2*u3+1*v1*v1*v1*u2*v3+(-1)*v1*v1*v1*u2*v2*v2*v3+(-1)*v1*v1*v1*u2*u2*v2*u3*a+(-1)*v1*v1*v1*u2*u2*u2*v3*a+(-1)*u1*v2*v3+1*u1*v2*v2*v2*v3+1*u1*u2*u3*a+(-1)*u1*u2*v2*v2*u3*a+1*u1*u2*u2*v2*v3*a+(-1)*u1*u2*u2*u2*u3*a*a+1*u1*v1*v1*v2*v3+(-1)*u1*v1*v1*v2*v2*v2*v3+(-1)*u1*v1*v1*u2*u3*a+1*u1*v1*v1*u2*v2*v2*u3*a+(-1)*u1*v1*v1*u2*v2*v2*u3*d+(-1)*u1*v1*v1*u2*u2*v2*v3*a+1*u1*v1*v1*u2*u2*v2*v3*d+1*u1*v1*v1*u2*u2*u2*u3*a*a+1*u1*u1*v1*v2*u3*a+(-1)*u1*u1*v1*v2*v2*v2*u3*a+1*u1*u1*v1*u2*v3*a+(-1)*u1*u1*v1*u2*v2*v2*v3*a+1*u1*u1*v1*u2*v2*v2*v3*d+(-1)*u1*u1*v1*u2*u2*v2*u3*a*a+1*u1*u1*v1*u2*u2*v2*u3*d*a+(-1)*u1*u1*v1*u2*u2*u2*v3*a*a+1*u1*u1*u1*v2*v3*a+(-1)*u1*u1*u1*v2*v2*v2*v3*a+(-1)*u1*u1*u1*u2*u3*a*a+1*u1*u1*u1*u2*v2*v2*u3*a*a+(-1)*u1*u1*u1*u2*u2*v2*v3*a*a+1*u1*u1*u1*u2*u2*u2*u3*a*a*a)*ed a d u3 v3:=by
 unfold ed;grind -splitMatch -splitIte -splitIndPred -funext -lia -linarith (splits:=0) (ematch:=0)
set_option maxRecDepth 100000 in
set_option maxHeartbeats 4000000 in
theorem assoc_v (a d u1 v1 u2 v2 u3 v3:Fin n):((v1*v2-a*(u1*u2))*(1+(d*(u1*u2*v1*v2)))*v3-a*((u1*v2+v1*u2)*(1-(d*(u1*u2*v1*v2)))*u3))*((1-(d*(u2*u3*v2*v3))*(d*(u2*u3*v2*v3)))-d*(u1*v1*(u2*v3+v2*u3)*(v2*v3-a*(u2*u3))))-(v1*((v2*v3-a*(u2*u3))*(1+(d*(u2*u3*v2*v3))))-a*(u1*((u2*v3+v2*u3)*(1-(d*(u2*u3*v2*v3))))))*((1-(d*(u1*u2*v1*v2))*(d*(u1*u2*v1*v2)))-d*((u1*v2+v1*u2)*(v1*v2-a*(u1*u2))*u3*v3)) =
 (1*v1*u2*v2*v2*v2*v2*u3*v3*v3*d+(-1)*v1*u2*u2*v2*v2*v2*v3*d+1*v1*u2*u2*v2*v2*v2*v3*v3*v3*d+1*v1*u2*u2*u2*v2*v2*u3*d*a+(-1)*v1*u2*u2*u2*v2*v2*u3*u3*u3*d*a*a+(-1)*v1*u2*u2*u2*v2*v2*v2*v2*u3*v3*v3*d*d+(-1)*v1*u2*u2*u2*u2*v2*u3*u3*v3*d*a*a+1*v1*u2*u2*u2*u2*v2*v2*v2*u3*u3*v3*d*d*a+1*u1*u2*v2*v2*v2*v2*u3*u3*v3*d*a+1*u1*u2*u2*v2*v2*v2*u3*d*a+(-1)*u1*u2*u2*v2*v2*v2*u3*u3*u3*d*a*a+1*u1*u2*u2*u2*v2*v2*v3*d*a+(-1)*u1*u2*u2*u2*v2*v2*v3*v3*v3*d*a+(-1)*u1*u2*u2*u2*v2*v2*v2*v2*u3*u3*v3*d*d*a+1*u1*u2*u2*u2*u2*v2*u3*v3*v3*d*a*a+(-1)*u1*u2*u2*u2*u2*v2*v2*v2*u3*v3*v3*d*d*a)*ed a d u1 v1+(1*v1*v2*v3+(-1)*v1*v2*v3*v3*v3+(-1)*v1*v2*u3*u3*v3*a+1*v1*v2*u3*u3*v3*v3*v3*d+(-1)*v1*u2*u3*a+1*v1*u2*u3*v3*v3*a+1*v1*u2*u3*u3*u3*a*a+(-1)*v1*u2*u3*u3*u3*v3*v3*d*a+1*v1*u2*v2*v2*u3*v3*v3*d+(-1)*v1*u2*u2*v2*u3*u3*v3*d*a+(-1)*v1*v1*v1*v2*v3+1*v1*v1*v1*v2*v3*v3*v3+1*v1*v1*v1*v2*u3*u3*v3*a+(-1)*v1*v1*v1*v2*u3*u3*v3*v3*v3*d+1*v1*v1*v1*u2*u3*a+(-1)*v1*v1*v1*u2*u3*v3*v3*a+(-1)*v1*v1*v1*u2*u3*u3*u3*a*a+1*v1*v1*v1*u2*u3*u3*u3*v3*v3*d*a+(-1)*v1*v1*v1*u2*v2*v2*u3*v3*v3*d+1*v1*v1*v1*u2*u2*v2*u3*u3*v3*d*a+(-1)*u1*v2*u3*a+1*u1*v2*u3*v3*v3*a+1*u1*v2*u3*u3*u3*a*a+(-1)*u1*v2*u3*u3*u3*v3*v3*d*a+(-1)*u1*u2*v3*a+1*u1*u2*v3*v3*v3*a+1*u1*u2*u3*u3*v3*a*a+(-1)*u1*u2*u3*u3*v3*v3*v3*d*a+1*u1*u2*v2*v2*u3*u3*v3*d*a+1*u1*u2*u2*v2*u3*v3*v3*d*a+1*u1*v1*v1*v2*u3*a+(-1)*u1*v1*v1*v2*u3*v3*v3*a+(-1)*u1*v1*v1*v2*u3*u3*u3*a*a+1*u1*v1*v1*v2*u3*u3*u3*v3*v3*d*a+1*u1*v1*v1*u2*v3*a+(-1)*u1*v1*v1*u2*v3*v3*v3*a+(-1)*u1*v1*v1*u2*u3*u3*v3*a*a+1*u1*v1*v1*u2*u3*u3*v3*v3*v3*d*a+(-1)*u1*v1*v1*u2*v2*v2*u3*u3*v3*d*a+1*u1*v1*v1*u2*v2*v2*u3*u3*v3*v3*v3*d*d+(-1)*u1*v1*v1*u2*u2*v2*u3*v3*v3*d*a+1*u1*v1*v1*u2*u2*v2*u3*u3*u3*v3*v3*d*d*a+(-1)*u1*u1*v1*v2*v3*a+1*u1*u1*v1*v2*v3*v3*v3*a+1*u1*u1*v1*v2*u3*u3*v3*a*a+(-1)*u1*u1*v1*v2*u3*u3*v3*v3*v3*d*a+1*u1*u1*v1*u2*u3*a*a+(-1)*u1*u1*v1*u2*u3*v3*v3*a*a+(-1)*u1*u1*v1*u2*u3*u3*u3*a*a*a+1*u1*u1*v1*u2*u3*u3*u3*v3*v3*d*a*a+(-1)*u1*u1*v1*u2*v2*v2*u3*v3*v3*d*a+1*u1*u1*v1*u2*v2*v2*u3*u3*u3*v3*v3*d*d*a+1*u1*u1*v1*u2*u2*v2*u3*u3*v3*d*a*a+(-1)*u1*u1*v1*u2*u2*v2*u3*u3*v3*v3*v3*d*d*a+1*u1*u1*u1*v2*u3*a*a+(-1)*u1*u1*u1*v2*u3*v3*v3*a*a+(-1)*u1*u1*u1*v2*u3*u3*u3*a*a*a+1*u1*u1*u1*v2*u3*u3*u3*v3*v3*d*a*a+1*u1*u1*u1*u2*v3*a*a+(-1)*u1*u1*u1*u2*v3*v3*v3*a*a+(-1)*u1*u1*u1*u2*u3*u3*v3*a*a*a+1*u1*u1*u1*u2*u3*u3*v3*v3*v3*d*a*a+(-1)*u1*u1*u1*u2*v2*v2*u3*u3*v3*d*a*a+(-1)*u1*u1*u1*u2*u2*v2*u3*v3*v3*d*a*a)*ed a d u2 v2+((-1)*v1*v2*v3+1*v1*v2*v2*v2*v3+1*v1*u2*u3*a+(-1)*v1*u2*v2*v2*u3*a+1*v1*u2*u2*v2*v3*a+(-1)*v1*u2*u2*u2*u3*a*a+1*v1*v1*v1*v2*v3+(-1)*v1*v1*v1*v2*v2*v2*v3+(-1)*v1*v1*v1*u2*u3*a+1*v1*v1*v1*u2*v2*v2*u3*a+(-1)*v1*v1*v1*u2*u2*v2*v3*a+1*v1*v1*v1*u2*u2*u2*u3*a*a+1*u1*v2*u3*a+(-1)*u1*v2*v2*v2*u3*a+1*u1*u2*v3*a+(-1)*u1*u2*v2*v2*v3*a+(-1)*u1*u2*u2*v2*u3*a*a+(-1)*u1*u2*u2*u2*v3*a*a+(-1)*u1*v1*v1*v2*u3*a+1*u1*v1*v1*v2*v2*v2*u3*a+(-1)*u1*v1*v1*u2*v3*a+1*u1*v1*v1*u2*v2*v2*v3*a+(-1)*u1*v1*v1*u2*v2*v2*v3*d+1*u1*v1*v1*u2*u2*v2*u3*a*a+(-1)*u1*v1*v1*u2*u2*v2*u3*d*a+1*u1*v1*v1*u2*u2*u2*v3*a*a+1*u1*u1*v1*v2*v3*a+(-1)*u1*u1*v1*v2*v2*v2*v3*a+(-1)*u1*u1*v1*u2*u3*a*a+1*u1*u1*v1*u2*v2*v2*u3*a*a+(-1)*u1*u1*v1*u2*v2*v2*u3*d*a+(-1)*u1*u1*v1*u2*u2*v2*v3*a*a+1*u1*u1*v1*u2*u2*v2*v3*d*a+1*u1*u1*v1*u2*u2*u2*u3*a*a*a+(-1)*u1*u1*u1*v2*u3*a*a+1*u1*u1*u1*v2*v2*v2*u3*a*a+(-1)*u1*u1*u1*u2*v3*a*a+1*u1*u1*u1*u2*v2*v2*v3*a*a+1*u1*u1*u1*u2*u2*v2*u3*a*a*a+1*u1*u1*u1*u2*u2*u2*v3*a*a*a)*ed a d u3 v3:=by
 unfold ed;grind -splitMatch -splitIte -splitIndPred -funext -lia -linarith (splits:=0) (ematch:=0)
set_option maxRecDepth 100000 in
set_option maxHeartbeats 4000000 in
theorem closed (a d u1 v1 u2 v2:Fin n):a*((u1*v2+v1*u2)*(1-(d*(u1*u2*v1*v2))))*((u1*v2+v1*u2)*(1-(d*(u1*u2*v1*v2))))+((v1*v2-a*(u1*u2))*(1+(d*(u1*u2*v1*v2))))*((v1*v2-a*(u1*u2))*(1+(d*(u1*u2*v1*v2))))-(1-(d*(u1*u2*v1*v2))*(d*(u1*u2*v1*v2)))*(1-(d*(u1*u2*v1*v2))*(d*(u1*u2*v1*v2)))-d*((u1*v2+v1*u2)*(v1*v2-a*(u1*u2)))*((u1*v2+v1*u2)*(v1*v2-a*(u1*u2))) =
 (1*v2*v2*v2*v2+4*u2*u2*v2*v2*a+(-2)*u2*u2*v2*v2*d+(-2)*u2*u2*v2*v2*v2*v2*a+1*u2*u2*u2*u2*a*a+(-2)*u2*u2*u2*u2*v2*v2*a*a+2*u2*u2*u2*u2*v2*v2*v2*v2*d*a+(-1)*u2*u2*u2*u2*v2*v2*v2*v2*d*d+(-1)*v1*v1*u2*u2*v2*v2*v2*v2*d+(-1)*v1*v1*u2*u2*u2*u2*v2*v2*d*a+1*v1*v1*u2*u2*u2*u2*v2*v2*v2*v2*d*d+(-1)*u1*u1*u2*u2*v2*v2*v2*v2*d*a+(-1)*u1*u1*u2*u2*u2*u2*v2*v2*d*a*a+1*u1*u1*u2*u2*u2*u2*v2*v2*v2*v2*d*d*a+1*u1*u1*v1*v1*u2*u2*u2*u2*v2*v2*v2*v2*d*d*d)*ed a d u1 v1+(1+1*v2*v2+1*u2*u2*a+(-2)*u2*u2*v2*v2*a+1*u2*u2*v2*v2*d+(-1)*v1*v1*v2*v2+(-1)*v1*v1*u2*u2*a+2*v1*v1*u2*u2*v2*v2*a+(-2)*v1*v1*u2*u2*v2*v2*d+1*v1*v1*v1*v1*u2*u2*v2*v2*d+(-1)*u1*u1*v2*v2*a+(-1)*u1*u1*u2*u2*a*a+2*u1*u1*u2*u2*v2*v2*a*a+(-2)*u1*u1*u2*u2*v2*v2*d*a+1*u1*u1*u1*u1*u2*u2*v2*v2*d*a*a)*ed a d u2 v2:=by
 unfold ed;grind -splitMatch -splitIte -splitIndPred -funext -lia -linarith (splits:=0) (ematch:=0)
end Go.Proofs.YtddmjddlbhdcpaaGreatDoor.Ed

namespace Go.Proofs.YtddmjddlbhdcpaaGreatDoor.Ed
structure Fld (n:Nat) [NeZero n] where
 inv:Fin n→Fin n
 inv_mul:∀ x,x≠0→x*inv x=1
 inv_zero:inv 0=0
 one_ne:(1:Fin n)≠0
 two_ne:(2:Fin n)≠0
section
variable {n:Nat} [NeZero n]
theorem Fld.zero_of (F:Fld n) {x y:Fin n} (h:x*y=0) (hx:x≠0):y=0:=by
 have h1:=F.inv_mul x hx
 have h2:y=(x*F.inv x)*y:=by rw[h1];grind
 rw[h2,show x*F.inv x*y=F.inv x*(x*y) by grind,h];grind
theorem Fld.mul_ne (F:Fld n) {x y:Fin n} (hx:x≠0) (hy:y≠0):x*y≠0:=fun h=>hy (F.zero_of h hx)
theorem Fld.cancel (F:Fld n) {c x y:Fin n} (hc:c≠0) (h:c*x=c*y):x=y:=by
 have:x-y=0:=F.zero_of (x:=c) (by grind) hc
 grind
theorem Fld.inv_ne (F:Fld n) {x:Fin n} (hx:x≠0):F.inv x≠0:=fun h=>by
 have:=F.inv_mul x hx
 rw[h] at this
 exact F.one_ne (by grind)
theorem Fld.sq_eq (F:Fld n) {x y:Fin n} (h:x*x=y*y):x=y∨x=-y:=by
 by_cases hx:x-y=0
 ·left;grind
 ·right
  have:=F.zero_of (x:=x-y) (y:=x+y) (by grind) hx
  grind
structure Crv (n:Nat) [NeZero n] where
 a:Fin n
 d:Fin n
 s:Fin n
 ha:a=s*s
 hs:s≠0
 hd:∀ t,d≠t*t
def Crv.On (C:Crv n) (p:Fin n × Fin n):Prop:=C.a*(p.1*p.1)+p.2*p.2=1+C.d*(p.1*p.1)*(p.2*p.2)
def Crv.dl (C:Crv n) (p q:Fin n × Fin n):Fin n:=C.d*(p.1*q.1*p.2*q.2)
theorem complete_sq (F:Fld n) (C:Crv n) {p q:Fin n × Fin n} (hp:C.On p) (hq:C.On q):C.dl p q*C.dl p q≠1:=by
 obtain⟨u1,v1⟩:=p;obtain⟨u2,v2⟩:=q
 obtain⟨a,d,s,ha,hs,hd⟩:=C
 simp only[Crv.On,Crv.dl] at *
 subst ha
 intro h
 generalize hδ:d*(u1*u2*v1*v2)=δ at h
 have key:∀ t:Fin n,(s*u1+δ*v1*t)*(s*u1+δ*v1*t)=d*((u1*v1)*(u1*v1))*((s*u2+v2*t)*(s*u2+v2*t))→t*t=1→s*u2+v2*t≠0→False:=by
  intro t ht _ hne
  have hne':u1*v1≠0:=fun e=>F.one_ne (by
   have:δ=0:=by rw[←hδ,show d*(u1*u2*v1*v2)=d*(u1*v1)*(u2*v2) by grind,e];grind
   rw[←h,this];grind)
  have hm:=F.mul_ne hne' hne
  have h1:=F.inv_mul _ hm
  apply hd ((s*u1+δ*v1*t)*F.inv (u1*v1*(s*u2+v2*t)))
  generalize F.inv (u1*v1*(s*u2+v2*t))=i at *
  have:(s*u1+δ*v1*t)*i*((s*u1+δ*v1*t)*i)=((s*u1+δ*v1*t)*(s*u1+δ*v1*t))*(i*i):=by grind
  rw[this,ht]
  have:d*(u1*v1*(u1*v1))*((s*u2+v2*t)*(s*u2+v2*t))*(i*i)=d*((u1*v1*(s*u2+v2*t)*i)*(u1*v1*(s*u2+v2*t)*i)):=by grind
  rw[this,h1];grind
 have base:d*((u1*v1)*(u1*v1))*(s*s*(u2*u2)+v2*v2)=s*s*(u1*u1)+v1*v1:=by
  rw[hq,hp]
  have:d*((u1*v1)*(u1*v1))*(1+d*(u2*u2)*(v2*v2))=d*((u1*v1)*(u1*v1))+(d*(u1*u2*v1*v2))*(d*(u1*u2*v1*v2)):=by grind
  rw[this,hδ,h];grind
 have sq:∀ t:Fin n,t*t=1→(s*u1+δ*v1*t)*(s*u1+δ*v1*t)=d*((u1*v1)*(u1*v1))*((s*u2+v2*t)*(s*u2+v2*t)):=by
  intro t ht
  have e1:(s*u1+δ*v1*t)*(s*u1+δ*v1*t)=s*s*(u1*u1)+(δ*δ)*(v1*v1)*(t*t)+2*s*t*(u1*v1)*δ:=by grind
  have e2:d*((u1*v1)*(u1*v1))*((s*u2+v2*t)*(s*u2+v2*t))=d*((u1*v1)*(u1*v1))*(s*s*(u2*u2)+v2*v2*(t*t))+2*s*t*(u1*v1)*(d*(u1*u2*v1*v2)):=by grind
  rw[e1,e2,ht,h,hδ,show v2*v2*1=v2*v2 by grind,base];grind
 by_cases h1:s*u2+v2*1=0
 ·by_cases h2:s*u2+v2*(-1)=0
  ·have e:2*(s*u2)=0:=by grind
   have e1:=F.zero_of e F.two_ne
   have e2:=F.zero_of e1 hs
   apply F.one_ne
   rw[←h,←hδ,e2];grind
  ·exact key (-1) (sq (-1) (by grind)) (by grind) h2
 ·exact key 1 (sq 1 (by grind)) (by grind) h1
theorem plus_ne (F:Fld n) (C:Crv n) {p q:Fin n × Fin n} (hp:C.On p) (hq:C.On q):1+C.dl p q≠0:=fun h=>complete_sq F C hp hq (by grind)
theorem minus_ne (F:Fld n) (C:Crv n) {p q:Fin n × Fin n} (hp:C.On p) (hq:C.On q):1-C.dl p q≠0:=fun h=>complete_sq F C hp hq (by grind)
def add (F:Fld n) (C:Crv n) (p q:Fin n × Fin n):Fin n × Fin n:=((p.1*q.2+p.2*q.1)*F.inv (1+C.dl p q),(p.2*q.2-C.a*(p.1*q.1))*F.inv (1-C.dl p q))
theorem add_u (F:Fld n) (C:Crv n) {p q:Fin n × Fin n} (hp:C.On p) (hq:C.On q):(1+C.dl p q)*(add F C p q).1=p.1*q.2+p.2*q.1:=by
 have:=F.inv_mul _ (plus_ne F C hp hq)
 simp only[add]
 rw[show (1+C.dl p q)*((p.1*q.2+p.2*q.1)*F.inv (1+C.dl p q))=(p.1*q.2+p.2*q.1)*((1+C.dl p q)*F.inv (1+C.dl p q)) by grind,this];grind
theorem add_v (F:Fld n) (C:Crv n) {p q:Fin n × Fin n} (hp:C.On p) (hq:C.On q):(1-C.dl p q)*(add F C p q).2=p.2*q.2-C.a*(p.1*q.1):=by
 have:=F.inv_mul _ (minus_ne F C hp hq)
 simp only[add]
 rw[show (1-C.dl p q)*((p.2*q.2-C.a*(p.1*q.1))*F.inv (1-C.dl p q))=(p.2*q.2-C.a*(p.1*q.1))*((1-C.dl p q)*F.inv (1-C.dl p q)) by grind,this];grind
theorem add_comm (F:Fld n) (C:Crv n) (p q:Fin n × Fin n):add F C p q=add F C q p:=by
 have h:C.dl p q=C.dl q p:=by simp only[Crv.dl];grind
 simp only[add,h]
 congr 2<;>grind
def O:Fin n × Fin n:=(0,1)
theorem on_O (C:Crv n):C.On O:=by simp only[Crv.On,O];grind
theorem inv_one (F:Fld n):F.inv 1=1:=by have:=F.inv_mul 1 F.one_ne;grind
theorem add_O (F:Fld n) (C:Crv n) (p:Fin n × Fin n):add F C p O=p:=by
 have h:C.dl p O=0:=by simp only[Crv.dl,O];grind
 simp only[add,h]
 simp only[O]
 rw[show (1:Fin n)+0=1 by grind,show (1:Fin n)-0=1 by grind,inv_one F]
 obtain⟨u,v⟩:=p
 simp only[Prod.mk.injEq]
 constructor<;>grind
def neg (p:Fin n × Fin n):Fin n × Fin n:=(-p.1,p.2)
theorem on_neg (C:Crv n) {p:Fin n × Fin n} (hp:C.On p):C.On (neg p):=by simp only[Crv.On,neg] at *;grind
theorem add_neg (F:Fld n) (C:Crv n) {p:Fin n × Fin n} (hp:C.On p):add F C p (neg p)=O:=by
 have hu:=add_u F C hp (on_neg C hp)
 have hv:=add_v F C hp (on_neg C hp)
 have pn:=plus_ne F C hp (on_neg C hp);have mn:=minus_ne F C hp (on_neg C hp)
 have e1:(add F C p (neg p)).1=0:=F.cancel pn (by rw[hu];simp only[neg];grind)
 have e2:(add F C p (neg p)).2=1:=F.cancel mn (by rw[hv];simp only[neg,Crv.dl,Crv.On] at *;grind)
 exact Prod.ext e1 e2
theorem ed_of {C:Crv n} {p:Fin n × Fin n} (h:C.On p):ed C.a C.d p.1 p.2=0:=by
 simp only[Crv.On,ed] at *;grind
theorem of_ed {C:Crv n} {p:Fin n × Fin n} (h:ed C.a C.d p.1 p.2=0):C.On p:=by
 simp only[Crv.On,ed] at *;grind
theorem on_add (F:Fld n) (C:Crv n) {p q:Fin n × Fin n} (hp:C.On p) (hq:C.On q):C.On (add F C p q):=by
 have hu:=add_u F C hp hq
 have hv:=add_v F C hp hq
 have pn:=plus_ne F C hp hq;have mn:=minus_ne F C hp hq
 have e:=closed C.a C.d p.1 p.2 q.1 q.2
 rw[ed_of hp,ed_of hq] at e
 apply of_ed
 generalize add F C p q=r at *
 obtain⟨u1,v1⟩:=p;obtain⟨u2,v2⟩:=q;obtain⟨u3,v3⟩:=r
 simp only[Crv.dl] at *
 generalize C.a=a at *
 generalize C.d=d at *
 generalize d*(u1*u2*v1*v2)=x at *
 have hne:=F.mul_ne pn mn
 refine F.zero_of (x:=((1+x)*(1-x))*((1+x)*(1-x))) ?_ (F.mul_ne hne hne)
 rw[←hu,←hv,show 1-x*x=(1+x)*(1-x) by grind] at e
 unfold ed
 clear hu hv pn mn hne
 generalize (1+x)=A at *
 generalize (1-x)=B at *
 grind
theorem assoc_u' (F:Fld n) {a d u1 v1 u2 v2 u3 v3 U V U' V' L R:Fin n} (h1:ed a d u1 v1=0) (h2:ed a d u2 v2=0) (h3:ed a d u3 v3=0)
  (hU:(1+d*(u1*u2*v1*v2))*U=u1*v2+v1*u2) (hV:(1-d*(u1*u2*v1*v2))*V=v1*v2-a*(u1*u2))
  (hU':(1+d*(u2*u3*v2*v3))*U'=u2*v3+v2*u3) (hV':(1-d*(u2*u3*v2*v3))*V'=v2*v3-a*(u2*u3))
  (hL:(1+d*(U*u3*V*v3))*L=U*v3+V*u3) (hR:(1+d*(u1*U'*v1*V'))*R=u1*V'+v1*U')
  (n1:(1+d*(u1*u2*v1*v2))≠0) (n2:(1-d*(u1*u2*v1*v2))≠0) (n3:(1+d*(u2*u3*v2*v3))≠0) (n4:(1-d*(u2*u3*v2*v3))≠0)
  (n5:(1+d*(U*u3*V*v3))≠0) (n6:(1+d*(u1*U'*v1*V'))≠0):L=R:=by
 have e:=assoc_u a d u1 v1 u2 v2 u3 v3
 rw[h1,h2,h3,←hU,←hV,←hU',←hV'] at e
 refine F.cancel (F.mul_ne (F.mul_ne (F.mul_ne n1 n2) (F.mul_ne n3 n4)) (F.mul_ne n5 n6)) ?_
 rw[show ∀ x:Fin n,1-x*x=(1+x)*(1-x) from fun x=>by grind,show ∀ x:Fin n,1-x*x=(1+x)*(1-x) from fun x=>by grind] at e
 generalize (1+d*(u1*u2*v1*v2))=A at *
 generalize (1-d*(u1*u2*v1*v2))=B at *
 generalize (1+d*(u2*u3*v2*v3))=A' at *
 generalize (1-d*(u2*u3*v2*v3))=B' at *
 clear h1 h2 h3 hU hV hU' hV' n1 n2 n3 n4 n5 n6
 have l:A*B*(A'*B')*((1+d*(U*u3*V*v3))*(1+d*(u1*U'*v1*V')))*L=A*B*(A'*B')*(1+d*(u1*U'*v1*V'))*((1+d*(U*u3*V*v3))*L):=by grind
 have r:A*B*(A'*B')*((1+d*(U*u3*V*v3))*(1+d*(u1*U'*v1*V')))*R=A*B*(A'*B')*(1+d*(U*u3*V*v3))*((1+d*(u1*U'*v1*V'))*R):=by grind
 rw[l,r,hL,hR]
 clear l r hL hR
 grind
theorem assoc_v' (F:Fld n) {a d u1 v1 u2 v2 u3 v3 U V U' V' L R:Fin n} (h1:ed a d u1 v1=0) (h2:ed a d u2 v2=0) (h3:ed a d u3 v3=0)
  (hU:(1+d*(u1*u2*v1*v2))*U=u1*v2+v1*u2) (hV:(1-d*(u1*u2*v1*v2))*V=v1*v2-a*(u1*u2))
  (hU':(1+d*(u2*u3*v2*v3))*U'=u2*v3+v2*u3) (hV':(1-d*(u2*u3*v2*v3))*V'=v2*v3-a*(u2*u3))
  (hL:(1-d*(U*u3*V*v3))*L=V*v3-a*(U*u3)) (hR:(1-d*(u1*U'*v1*V'))*R=v1*V'-a*(u1*U'))
  (n1:(1+d*(u1*u2*v1*v2))≠0) (n2:(1-d*(u1*u2*v1*v2))≠0) (n3:(1+d*(u2*u3*v2*v3))≠0) (n4:(1-d*(u2*u3*v2*v3))≠0)
  (n5:(1-d*(U*u3*V*v3))≠0) (n6:(1-d*(u1*U'*v1*V'))≠0):L=R:=by
 have e:=assoc_v a d u1 v1 u2 v2 u3 v3
 rw[h1,h2,h3,←hU,←hV,←hU',←hV'] at e
 refine F.cancel (F.mul_ne (F.mul_ne (F.mul_ne n1 n2) (F.mul_ne n3 n4)) (F.mul_ne n5 n6)) ?_
 rw[show ∀ x:Fin n,1-x*x=(1+x)*(1-x) from fun x=>by grind,show ∀ x:Fin n,1-x*x=(1+x)*(1-x) from fun x=>by grind] at e
 generalize (1+d*(u1*u2*v1*v2))=A at *
 generalize (1-d*(u1*u2*v1*v2))=B at *
 generalize (1+d*(u2*u3*v2*v3))=A' at *
 generalize (1-d*(u2*u3*v2*v3))=B' at *
 clear h1 h2 h3 hU hV hU' hV' n1 n2 n3 n4 n5 n6
 have l:A*B*(A'*B')*((1-d*(U*u3*V*v3))*(1-d*(u1*U'*v1*V')))*L=A*B*(A'*B')*(1-d*(u1*U'*v1*V'))*((1-d*(U*u3*V*v3))*L):=by grind
 have r:A*B*(A'*B')*((1-d*(U*u3*V*v3))*(1-d*(u1*U'*v1*V')))*R=A*B*(A'*B')*(1-d*(U*u3*V*v3))*((1-d*(u1*U'*v1*V'))*R):=by grind
 rw[l,r,hL,hR]
 clear l r hL hR
 grind
theorem add_assoc (F:Fld n) (C:Crv n) {p q r:Fin n × Fin n} (hp:C.On p) (hq:C.On q) (hr:C.On r):add F C (add F C p q) r=add F C p (add F C q r):=by
 have h12:=on_add F C hp hq;have h23:=on_add F C hq hr
 refine Prod.ext ?_ ?_
 ·exact assoc_u' F (ed_of hp) (ed_of hq) (ed_of hr) (add_u F C hp hq) (add_v F C hp hq) (add_u F C hq hr) (add_v F C hq hr) (add_u F C h12 hr) (add_u F C hp h23)
   (plus_ne F C hp hq) (minus_ne F C hp hq) (plus_ne F C hq hr) (minus_ne F C hq hr) (plus_ne F C h12 hr) (plus_ne F C hp h23)
 ·exact assoc_v' F (ed_of hp) (ed_of hq) (ed_of hr) (add_u F C hp hq) (add_v F C hp hq) (add_u F C hq hr) (add_v F C hq hr) (add_v F C h12 hr) (add_v F C hp h23)
   (plus_ne F C hp hq) (minus_ne F C hp hq) (plus_ne F C hq hr) (minus_ne F C hq hr) (minus_ne F C h12 hr) (minus_ne F C hp h23)
def smul (F:Fld n) (C:Crv n) (p:Fin n × Fin n):Nat→Fin n × Fin n
 | 0=>O
 | k+1=>add F C (smul F C p k) p
theorem on_smul (F:Fld n) (C:Crv n) {p:Fin n × Fin n} (hp:C.On p):∀ k,C.On (smul F C p k)
 | 0=>on_O C
 | k+1=>on_add F C (on_smul F C hp k) hp
theorem O_add (F:Fld n) (C:Crv n) (p:Fin n × Fin n):add F C O p=p:=by rw[add_comm,add_O]
theorem smul_add (F:Fld n) (C:Crv n) {p:Fin n × Fin n} (hp:C.On p) (j:Nat):∀ k,smul F C p (j+k)=add F C (smul F C p j) (smul F C p k)
 | 0=>(add_O F C _).symm
 | k+1=>by
  show add F C (smul F C p (j+k)) p=add F C (smul F C p j) (add F C (smul F C p k) p)
  rw[smul_add F C hp j k,add_assoc F C (on_smul F C hp j) (on_smul F C hp k) hp]
theorem smul_one (F:Fld n) (C:Crv n) (p:Fin n × Fin n):smul F C p 1=p:=O_add F C p
theorem smul_O (F:Fld n) (C:Crv n):∀ k,smul F C O k=O
 | 0=>rfl
 | k+1=>by show add F C (smul F C O k) O=O;rw[smul_O F C k,add_O]
theorem smul_mul (F:Fld n) (C:Crv n) {p:Fin n × Fin n} (hp:C.On p) (j:Nat):∀ k,smul F C p (j*k)=smul F C (smul F C p j) k
 | 0=>rfl
 | k+1=>by
  show _=add F C (smul F C (smul F C p j) k) (smul F C p j)
  rw[Nat.mul_add,Nat.mul_one,smul_add F C hp,smul_mul F C hp j k]
theorem add_cancel (F:Fld n) (C:Crv n) {p q:Fin n × Fin n} (hp:C.On p) (hq:C.On q):add F C (add F C p q) (neg p)=q:=by
 rw[add_comm F C p q,add_assoc F C hq hp (on_neg C hp),add_neg F C hp,add_O]
end
end Go.Proofs.YtddmjddlbhdcpaaGreatDoor.Ed

namespace Go.Proofs.YtddmjddlbhdcpaaGreatDoor.Ed
section
variable {n:Nat} [NeZero n]
def tw (k:Fin n) (p:Fin n × Fin n):Fin n × Fin n :=
 (((p.1+p.2)*(p.1+p.2))*((p.1-p.2)*(p.1-p.2)),
  ((p.1+p.2)*(p.1+p.2)-(p.1-p.2)*(p.1-p.2))*((p.1+p.2)*(p.1+p.2)+k*((p.1+p.2)*(p.1+p.2)-(p.1-p.2)*(p.1-p.2))))
def sm (x1:Fin n) (p q:Fin n × Fin n):Fin n × Fin n :=
 (((q.1-q.2)*(p.1+p.2)+(q.1+q.2)*(p.1-p.2))*((q.1-q.2)*(p.1+p.2)+(q.1+q.2)*(p.1-p.2)),
  x1*(((q.1-q.2)*(p.1+p.2)-(q.1+q.2)*(p.1-p.2))*((q.1-q.2)*(p.1+p.2)-(q.1+q.2)*(p.1-p.2))))
theorem sm_comm (x1:Fin n) (p q:Fin n × Fin n):sm x1 p q=sm x1 q p:=by
 simp only[sm,Prod.mk.injEq]
 constructor<;>grind -splitMatch -splitIte -splitIndPred -funext -lia -linarith (splits:=0) (ematch:=0)
structure Mont (n:Nat) [NeZero n] extends Crv n where
 A:Fin n
 B:Fin n
 e:Fin n
 k:Fin n
 he:e*e=1
 hB:B≠0
 haB:a*B=A+2*e
 hdB:d*B=A-2*e
 hk:4*k=A-2
def Rep (e v:Fin n) (x:Fin n × Fin n):Prop:=∃ c,c≠0∧x.1=e*c*(1+v)∧x.2=c*(1-v)
theorem adv_ne (F:Fld n) (C:Crv n) (v:Fin n):C.a-C.d*(v*v)≠0:=by
 intro h
 by_cases hv:v=0
 ·subst hv
  have:C.s*C.s=0:=by rw[←C.ha];grind -splitMatch -splitIte -splitIndPred -funext -lia -linarith (splits:=0) (ematch:=0)
  exact F.mul_ne C.hs C.hs this
 ·have h1:=F.inv_mul v hv
  apply C.hd (C.s*F.inv v)
  generalize F.inv v=i at *
  have ha:=C.ha
  generalize C.a=a at *
  generalize C.s=s at *
  generalize C.d=d at *
  have e1:d*(v*v)=s*s:=by grind -splitMatch -splitIte -splitIndPred -funext -lia -linarith (splits:=0) (ematch:=0)
  have e2:s*i*(s*i)=(s*s)*(i*i):=by grind -splitMatch -splitIte -splitIndPred -funext -lia -linarith (splits:=0) (ematch:=0)
  rw[e2,←e1,show d*(v*v)*(i*i)=d*((v*i)*(v*i)) by grind -splitMatch -splitIte -splitIndPred -funext -lia -linarith (splits:=0) (ematch:=0),h1];grind -splitMatch -splitIte -splitIndPred -funext -lia -linarith (splits:=0) (ematch:=0)
theorem l_g1 {D V a d v:Fin n} (h:D=a-2*d*(v*v)+d*(v*v)*(v*v)) (hv:D*V=v*v*(a-d*(v*v))-a*(1-v*v)):D*(1+V)=2*(a-d)*(v*v):=by
 rw[show D*(1+V)=D+D*V by clear h hv;grind -splitMatch -splitIte -splitIndPred -funext -lia -linarith (splits:=0) (ematch:=0),hv,h];clear h hv;grind -splitMatch -splitIte -splitIndPred -funext -lia -linarith (splits:=0) (ematch:=0)
theorem l_g2 {D V a d v:Fin n} (h:D=a-2*d*(v*v)+d*(v*v)*(v*v)) (hv:D*V=v*v*(a-d*(v*v))-a*(1-v*v)):D*(1-V)=2*(1-v*v)*(a-d*(v*v)):=by
 rw[show D*(1-V)=D-D*V by clear h hv;grind -splitMatch -splitIte -splitIndPred -funext -lia -linarith (splits:=0) (ematch:=0),hv,h];clear h hv;grind -splitMatch -splitIte -splitIndPred -funext -lia -linarith (splits:=0) (ematch:=0)
theorem l_4 {e A:Fin n} (he:e*e=1):e*(A+2*e-(A-2*e))=4:=by grind -splitMatch -splitIte -splitIndPred -funext -lia -linarith (splits:=0) (ematch:=0)
theorem l_dif {e c v:Fin n} (he:e*e=1):(e*c*(1+v))*(e*c*(1+v))-(c*(1-v))*(c*(1-v))=4*(c*c)*v:=by
 rw[show (e*c*(1+v))*(e*c*(1+v))=(e*e)*((c*c)*((1+v)*(1+v))) by clear he;grind -splitMatch -splitIte -splitIndPred -funext -lia -linarith (splits:=0) (ematch:=0),he];clear he;grind -splitMatch -splitIte -splitIndPred -funext -lia -linarith (splits:=0) (ematch:=0)
theorem l_sum {e c v:Fin n} (he:e*e=1):(e*c*(1+v))*(e*c*(1+v))+(c*(1-v))*(c*(1-v))=2*(c*c)*(1+v*v):=by
 rw[show (e*c*(1+v))*(e*c*(1+v))=(e*e)*((c*c)*((1+v)*(1+v))) by clear he;grind -splitMatch -splitIte -splitIndPred -funext -lia -linarith (splits:=0) (ematch:=0),he];clear he;grind -splitMatch -splitIte -splitIndPred -funext -lia -linarith (splits:=0) (ematch:=0)
theorem l_q5 {e A c v:Fin n} (he:e*e=1):2*(c*c)*(1+v*v)+A*(e*(c*c)*(1-v*v))=(c*c)*e*(A+2*e-(A-2*e)*(v*v)):=by
 rw[show (c*c)*e*(A+2*e-(A-2*e)*(v*v))=(c*c)*(2*(1+v*v)*(e*e))+A*(e*(c*c)*(1-v*v)) by clear he;grind -splitMatch -splitIte -splitIndPred -funext -lia -linarith (splits:=0) (ematch:=0),he];clear he;grind -splitMatch -splitIte -splitIndPred -funext -lia -linarith (splits:=0) (ematch:=0)
theorem l_x {e c2 c3 v2 v3:Fin n} (he:e*e=1):(e*c2*(1+v2))*(e*c3*(1+v3))-(c2*(1-v2))*(c3*(1-v3))=2*(c2*c3)*(v2+v3):=by
 rw[show (e*c2*(1+v2))*(e*c3*(1+v3))=(e*e)*((c2*c3)*((1+v2)*(1+v3))) by clear he;grind -splitMatch -splitIte -splitIndPred -funext -lia -linarith (splits:=0) (ematch:=0),he];clear he;grind -splitMatch -splitIte -splitIndPred -funext -lia -linarith (splits:=0) (ematch:=0)
theorem tw_rep (F:Fld n) (M:Mont n) {p x:Fin n × Fin n} (hp:M.On p) (hx:Rep M.e p.2 x):Rep M.e (add F M.toCrv p p).2 (tw M.k x):=by
 obtain⟨c,hc,h1,h2⟩:=hx
 have hv:=add_v F M.toCrv hp hp
 have hne:=minus_ne F M.toCrv hp hp
 have hne2:=adv_ne F M.toCrv p.2
 have hB:=M.hB;have haB:=M.haB;have hdB:=M.hdB;have he:=M.he;have hk:=M.hk
 generalize (add F M.toCrv p p).2=V at *
 obtain⟨u,v⟩:=p;obtain⟨X,Z⟩:=x
 simp only[Crv.On,Crv.dl] at *
 generalize M.a=a at *
 generalize M.d=d at *
 generalize M.e=e at *
 generalize M.B=B at *
 generalize M.A=A at *
 generalize M.k=k at *
 have hu:(a-d*(v*v))*(u*u)=1-v*v:=by grind -splitMatch -splitIte -splitIndPred -funext -lia -linarith (splits:=0) (ematch:=0)
 generalize hD:(a-d*(v*v))*(1-d*(u*u*v*v))=D
 have hDne:D≠0:=hD▸F.mul_ne hne2 hne
 have hD':D=a-2*d*(v*v)+d*(v*v)*(v*v):=by
  rw[←hD,show (a-d*(v*v))*(1-d*(u*u*v*v))=(a-d*(v*v))-d*(v*v)*((a-d*(v*v))*(u*u)) by grind -splitMatch -splitIte -splitIndPred -funext -lia -linarith (splits:=0) (ematch:=0),hu];grind -splitMatch -splitIte -splitIndPred -funext -lia -linarith (splits:=0) (ematch:=0)
 have hDV:D*V=v*v*(a-d*(v*v))-a*(1-v*v):=by
  rw[←hD,show (a-d*(v*v))*(1-d*(u*u*v*v))*V=(a-d*(v*v))*((1-d*(u*u*v*v))*V) by grind -splitMatch -splitIte -splitIndPred -funext -lia -linarith (splits:=0) (ematch:=0),hv,←hu];grind -splitMatch -splitIte -splitIndPred -funext -lia -linarith (splits:=0) (ematch:=0)
 have g1:D*(1+V)=2*(a-d)*(v*v):=l_g1 hD' hDV
 have g2:D*(1-V)=2*(1-v*v)*(a-d*(v*v)):=l_g2 hD' hDV
 have hab:e*(a-d)*B=4:=by
  have:e*(a-d)*B=e*(a*B-d*B):=by grind -splitMatch -splitIte -splitIndPred -funext -lia -linarith (splits:=0) (ematch:=0)
  rw[this,haB,hdB];exact l_4 he
 refine⟨2*(c*c)*(c*c)*B*D,F.mul_ne (F.mul_ne (F.mul_ne (F.mul_ne F.two_ne (F.mul_ne hc hc)) (F.mul_ne hc hc)) hB) hDne,?_,?_⟩
 ·show (X+Z)*(X+Z)*((X-Z)*(X-Z))=e*(2*(c*c)*(c*c)*B*D)*(1+V)
  have q1:X*X-Z*Z=4*(c*c)*v:=by rw[h1,h2];exact l_dif he
  have q2:(X+Z)*(X+Z)*((X-Z)*(X-Z))=(X*X-Z*Z)*(X*X-Z*Z):=by grind -splitMatch -splitIte -splitIndPred -funext -lia -linarith (splits:=0) (ematch:=0)
  have q3:e*(2*(c*c)*(c*c)*B*D)*(1+V)=2*(c*c)*(c*c)*(e*B)*(D*(1+V)):=by grind -splitMatch -splitIte -splitIndPred -funext -lia -linarith (splits:=0) (ematch:=0)
  have q4:2*(c*c)*(c*c)*(e*B)*(2*(a-d)*(v*v))=4*(c*c)*(c*c)*(v*v)*(e*(a-d)*B):=by grind -splitMatch -splitIte -splitIndPred -funext -lia -linarith (splits:=0) (ematch:=0)
  rw[q2,q1,q3,g1,q4,hab];grind -splitMatch -splitIte -splitIndPred -funext -lia -linarith (splits:=0) (ematch:=0)
 ·show ((X+Z)*(X+Z)-(X-Z)*(X-Z))*((X+Z)*(X+Z)+k*((X+Z)*(X+Z)-(X-Z)*(X-Z)))=2*(c*c)*(c*c)*B*D*(1-V)
  have q1:(X+Z)*(X+Z)-(X-Z)*(X-Z)=4*(X*Z):=by grind -splitMatch -splitIte -splitIndPred -funext -lia -linarith (splits:=0) (ematch:=0)
  have q2:X*Z=e*(c*c)*(1-v*v):=by rw[h1,h2];grind -splitMatch -splitIte -splitIndPred -funext -lia -linarith (splits:=0) (ematch:=0)
  have q3:(X+Z)*(X+Z)+k*(4*(X*Z))=X*X+Z*Z+A*(X*Z):=by
   have:k*(4*(X*Z))=(4*k)*(X*Z):=by grind -splitMatch -splitIte -splitIndPred -funext -lia -linarith (splits:=0) (ematch:=0)
   rw[this,hk];grind -splitMatch -splitIte -splitIndPred -funext -lia -linarith (splits:=0) (ematch:=0)
  have q4:X*X+Z*Z=2*(c*c)*(1+v*v):=by rw[h1,h2];exact l_sum he
  have q5:2*(c*c)*(1+v*v)+A*(e*(c*c)*(1-v*v))=(c*c)*e*(a*B-d*B*(v*v)):=by rw[haB,hdB];exact l_q5 he
  have q6:2*(c*c)*(c*c)*B*D*(1-V)=2*(c*c)*(c*c)*B*(D*(1-V)):=by grind -splitMatch -splitIte -splitIndPred -funext -lia -linarith (splits:=0) (ematch:=0)
  rw[q1,q3,q2,q4,q5,q6,g2]
  have q7:4*(e*(c*c)*(1-v*v))*(c*c*e*(a*B-d*B*(v*v)))=4*(e*e)*(c*c)*(c*c)*(1-v*v)*B*(a-d*(v*v)):=by grind -splitMatch -splitIte -splitIndPred -funext -lia -linarith (splits:=0) (ematch:=0)
  rw[q7,he];grind -splitMatch -splitIte -splitIndPred -funext -lia -linarith (splits:=0) (ematch:=0)
theorem sm_rep (F:Fld n) (M:Mont n) {p q x y:Fin n × Fin n} {x1 v1:Fin n} (hp:M.On p) (hq:M.On q) (hx:Rep M.e p.2 x) (hy:Rep M.e q.2 y) (hv1:(add F M.toCrv q (neg p)).2=v1)
  (hx1:x1*(1-v1)=M.e*(1+v1)) (hne1:1+v1≠0):Rep M.e (add F M.toCrv p q).2 (sm x1 x y):=by
 obtain⟨c2,hc2,h1,h2⟩:=hx
 obtain⟨c3,hc3,h3,h4⟩:=hy
 have hv:=add_v F M.toCrv hp hq
 have hv':=add_v F M.toCrv hq (on_neg M.toCrv hp)
 rw[hv1] at hv'
 have nm:=minus_ne F M.toCrv hp hq
 have np:=plus_ne F M.toCrv hp hq
 have na:=adv_ne F M.toCrv p.2;have nb:=adv_ne F M.toCrv q.2;have nc:=adv_ne F M.toCrv (p.2*q.2)
 have hB:=M.hB;have haB:=M.haB;have hdB:=M.hdB;have he:=M.he
 generalize (add F M.toCrv p q).2=V at *
 clear hv1
 obtain⟨u2,v2⟩:=p;obtain⟨u3,v3⟩:=q;obtain⟨X2,Z2⟩:=x;obtain⟨X3,Z3⟩:=y
 simp only[Crv.On,Crv.dl,neg] at *
 generalize M.a=a at *
 generalize M.d=d at *
 generalize M.e=e at *
 generalize M.B=B at *
 generalize M.A=A at *
 generalize hδ:d*(u2*u3*v2*v3)=δ at *
 have hδ':1-d*(u3 * -u2*v3*v2)=1+δ:=by rw[←hδ];grind -splitMatch -splitIte -splitIndPred -funext -lia -linarith (splits:=0) (ematch:=0)
 rw[hδ'] at hv'
 have hadne:a-d≠0:=fun h=>by
  have:(4:Fin n)=0:=by
   have:e*(a*B-d*B)=4:=by rw[haB,hdB];exact l_4 he
   rw[←this,show e*(a*B-d*B)=e*B*(a-d) by clear h this haB hdB he hv hv' hp hq h1 h2 h3 h4 hx1;grind -splitMatch -splitIte -splitIndPred -funext -lia -linarith (splits:=0) (ematch:=0),h];clear h this haB hdB he hv hv' hp hq h1 h2 h3 h4 hx1;grind -splitMatch -splitIte -splitIndPred -funext -lia -linarith (splits:=0) (ematch:=0)
  exact F.mul_ne F.two_ne F.two_ne (by grind -splitMatch -splitIte -splitIndPred -funext -lia -linarith (splits:=0) (ematch:=0))
 have Np:((1-δ)*(1+δ)*((a-d*(v2*v2))*(a-d*(v3*v3))))*((1+V)*(1+v1))=((a-d)*(a-d*(v2*v3*(v2*v3))))*((v2+v3)*(v2+v3)):=by
  have t1:((1-δ)*(1+δ)*((a-d*(v2*v2))*(a-d*(v3*v3))))*((1+V)*(1+v1))=((a-d*(v2*v2))*(a-d*(v3*v3)))*(((1-δ)+(1-δ)*V)*((1+δ)+(1+δ)*v1)):=by grind -splitMatch -splitIte -splitIndPred -funext -lia -linarith (splits:=0) (ematch:=0)
  rw[t1,hv,hv',←hδ]
  clear t1 hv hv' nm np na nb nc hδ hδ' hx1 hne1 h1 h2 h3 h4
  grind -splitMatch -splitIte -splitIndPred -funext -lia -linarith (splits:=0) (ematch:=0)
 have Nm:((1-δ)*(1+δ)*((a-d*(v2*v2))*(a-d*(v3*v3))))*((1-V)*(1-v1))=((a-d)*(a-d*(v2*v3*(v2*v3))))*((v2-v3)*(v2-v3)):=by
  have t1:((1-δ)*(1+δ)*((a-d*(v2*v2))*(a-d*(v3*v3))))*((1-V)*(1-v1))=((a-d*(v2*v2))*(a-d*(v3*v3)))*(((1-δ)-(1-δ)*V)*((1+δ)-(1+δ)*v1)):=by grind -splitMatch -splitIte -splitIndPred -funext -lia -linarith (splits:=0) (ematch:=0)
  rw[t1,hv,hv',←hδ]
  clear t1 hv hv' nm np na nb nc hδ hδ' hx1 hne1 h1 h2 h3 h4 Np
  grind -splitMatch -splitIte -splitIndPred -funext -lia -linarith (splits:=0) (ematch:=0)
 have hG:=F.mul_ne (F.mul_ne nm np) (F.mul_ne na nb)
 have hK:=F.mul_ne hadne nc
 have hKi:=F.inv_mul _ hK
 have hKn:=F.inv_ne hK
 generalize (1-δ)*(1+δ)*((a-d*(v2*v2))*(a-d*(v3*v3)))=G at *
 generalize (a-d)*(a-d*(v2*v3*(v2*v3)))=K at *
 generalize F.inv K=i at *
 have en:e≠0:=fun h=>F.one_ne (by rw[←he,h];grind -splitMatch -splitIte -splitIndPred -funext -lia -linarith (splits:=0) (ematch:=0))
 have n16:=F.mul_ne (F.mul_ne F.two_ne F.two_ne) (F.mul_ne F.two_ne F.two_ne)
 refine⟨e*(2*2*(2*2))*((c2*c3)*(c2*c3))*i*G*(1+v1),F.mul_ne (F.mul_ne (F.mul_ne (F.mul_ne (F.mul_ne en n16) (F.mul_ne (F.mul_ne hc2 hc3) (F.mul_ne hc2 hc3))) hKn) hG) hne1,?_,?_⟩
 ·show ((X3-Z3)*(X2+Z2)+(X3+Z3)*(X2-Z2))*((X3-Z3)*(X2+Z2)+(X3+Z3)*(X2-Z2))=_
  have q1:(X3-Z3)*(X2+Z2)+(X3+Z3)*(X2-Z2)=2*(X2*X3-Z2*Z3):=by grind -splitMatch -splitIte -splitIndPred -funext -lia -linarith (splits:=0) (ematch:=0)
  have q2:X2*X3-Z2*Z3=2*(c2*c3)*(v2+v3):=by rw[h1,h2,h3,h4];exact l_x he
  have q3:e*(e*(2*2*(2*2))*(c2*c3*(c2*c3))*i*G*(1+v1))*(1+V)=(e*e)*(2*2*(2*2))*(c2*c3*(c2*c3))*i*(G*((1+V)*(1+v1))):=by grind -splitMatch -splitIte -splitIndPred -funext -lia -linarith (splits:=0) (ematch:=0)
  rw[q1,q2,q3,Np,he,show (1:Fin n)*(2*2*(2*2))*(c2*c3*(c2*c3))*i*(K*((v2+v3)*(v2+v3)))=(2*2*(2*2))*(c2*c3*(c2*c3))*(K*i)*((v2+v3)*(v2+v3)) by grind -splitMatch -splitIte -splitIndPred -funext -lia -linarith (splits:=0) (ematch:=0),hKi]
  clear h1 h2 h3 h4 Np Nm hv hv'
  grind -splitMatch -splitIte -splitIndPred -funext -lia -linarith (splits:=0) (ematch:=0)
 ·show x1*(((X3-Z3)*(X2+Z2)-(X3+Z3)*(X2-Z2))*((X3-Z3)*(X2+Z2)-(X3+Z3)*(X2-Z2)))=_
  have q1:(X3-Z3)*(X2+Z2)-(X3+Z3)*(X2-Z2)=2*(X3*Z2-X2*Z3):=by grind -splitMatch -splitIte -splitIndPred -funext -lia -linarith (splits:=0) (ematch:=0)
  have q2:X3*Z2-X2*Z3=e*(2*(c2*c3)*(v3-v2)):=by rw[h1,h2,h3,h4];grind -splitMatch -splitIte -splitIndPred -funext -lia -linarith (splits:=0) (ematch:=0)
  have q3:e*(2*2*(2*2))*(c2*c3*(c2*c3))*i*G*(1+v1)*(1-V)=(2*2*(2*2))*(c2*c3*(c2*c3))*i*G*(e*(1+v1))*(1-V):=by grind -splitMatch -splitIte -splitIndPred -funext -lia -linarith (splits:=0) (ematch:=0)
  have q4:(2*2*(2*2))*(c2*c3*(c2*c3))*i*G*(x1*(1-v1))*(1-V)=(2*2*(2*2))*(c2*c3*(c2*c3))*i*x1*(G*((1-V)*(1-v1))):=by grind -splitMatch -splitIte -splitIndPred -funext -lia -linarith (splits:=0) (ematch:=0)
  have q5:x1*(2*(e*(2*(c2*c3)*(v3-v2)))*(2*(e*(2*(c2*c3)*(v3-v2)))))=x1*(e*e)*(2*2*(2*2))*(c2*c3*(c2*c3))*((v2-v3)*(v2-v3)):=by grind -splitMatch -splitIte -splitIndPred -funext -lia -linarith (splits:=0) (ematch:=0)
  rw[q1,q2,q3,←hx1,q4,Nm,q5,he,show (2*2*(2*2))*(c2*c3*(c2*c3))*i*x1*(K*((v2-v3)*(v2-v3)))=x1*(K*i)*(2*2*(2*2))*(c2*c3*(c2*c3))*((v2-v3)*(v2-v3)) by grind -splitMatch -splitIte -splitIndPred -funext -lia -linarith (splits:=0) (ematch:=0),hKi]
end
end Go.Proofs.YtddmjddlbhdcpaaGreatDoor.Ed

namespace Go.Proofs.YtddmjddlbhdcpaaGreatDoor.Ed
section
variable {n:Nat} [NeZero n]
def stp (k x1:Fin n) (b:Bool) (s:(Fin n × Fin n) × (Fin n × Fin n)):(Fin n × Fin n) × (Fin n × Fin n) :=
 if b then (sm x1 s.2 s.1,tw k s.2) else (tw k s.1,sm x1 s.1 s.2)
def lad (k x1:Fin n) (m:Nat):Nat→(Fin n × Fin n) × (Fin n × Fin n)
 | 0=>((1,0),(x1,1))
 | j+1=>stp k x1 (m/2^(254-j)%2 == 1) (lad k x1 m j)
def T (F:Fld n) (k:Fin n) (m:Nat) (x1:Fin n):Fin n:=(lad k x1 m 255).1.1*F.inv (lad k x1 m 255).1.2
def xof (F:Fld n) (e v:Fin n):Fin n:=e*(1+v)*F.inv (1-v)
theorem bit_step (m j:Nat) (hj:j<255):m/2^(255-(j+1))=2*(m/2^(255-j))+m/2^(254-j)%2:=by
 have e1:255-(j+1)=254-j:=by omega
 have e2:255-j=(254-j)+1:=by omega
 rw[e1,e2,Nat.pow_succ,←Nat.div_div_eq_div_mul]
 omega
theorem lad_rep (F:Fld n) (M:Mont n) {p:Fin n × Fin n} {x1:Fin n} (hp:M.On p) (hx1:x1*(1-p.2)=M.e*(1+p.2)) (hne:1+p.2≠0) (hne':1-p.2≠0) (m:Nat) (hm:m<2^255) :
  ∀ j,j≤255→Rep M.e (smul F M.toCrv p (m/2^(255-j))).2 (lad M.k x1 m j).1∧Rep M.e (smul F M.toCrv p (m/2^(255-j)+1)).2 (lad M.k x1 m j).2
 | 0,_=>by
  rw[Nat.sub_zero,Nat.div_eq_of_lt hm]
  refine⟨⟨M.e*F.inv 2,?_,?_,?_⟩,⟨F.inv (1-p.2),F.inv_ne hne',?_,?_⟩⟩
  ·refine F.mul_ne (fun h=>F.one_ne ?_) (F.inv_ne F.two_ne)
   rw[←M.he,h];grind -splitMatch -splitIte -splitIndPred -funext -lia -linarith (splits:=0) (ematch:=0)
  ·show (1:Fin n)=M.e*(M.e*F.inv 2)*(1+1)
   have h2:=F.inv_mul 2 F.two_ne
   have he:=M.he
   generalize M.e=e at *
   generalize F.inv 2=i at *
   clear hx1 hne hne' hp
   rw[show e*(e*i)*(1+1)=(e*e)*(2*i) by clear h2 he;grind -splitMatch -splitIte -splitIndPred -funext -lia -linarith (splits:=0) (ematch:=0),he,h2];grind -splitMatch -splitIte -splitIndPred -funext -lia -linarith (splits:=0) (ematch:=0)
  ·show (0:Fin n)=M.e*F.inv 2*(1-1)
   generalize M.e*F.inv 2=i
   clear hx1 hne hne' hp
   grind -splitMatch -splitIte -splitIndPred -funext -lia -linarith (splits:=0) (ematch:=0)
  ·show x1=M.e*F.inv (1-p.2)*(1+(smul F M.toCrv p (0+1)).2)
   rw[smul_one]
   have h2:=F.inv_mul _ hne'
   generalize F.inv (1-p.2)=i at *
   rw[show M.e*i*(1+p.2)=(M.e*(1+p.2))*i by clear h2 hx1 hne hne' hp;grind -splitMatch -splitIte -splitIndPred -funext -lia -linarith (splits:=0) (ematch:=0),←hx1,show x1*(1-p.2)*i=x1*((1-p.2)*i) by clear h2 hx1 hne hne' hp;grind -splitMatch -splitIte -splitIndPred -funext -lia -linarith (splits:=0) (ematch:=0),h2]
   clear h2 hx1 hne hne' hp;grind -splitMatch -splitIte -splitIndPred -funext -lia -linarith (splits:=0) (ematch:=0)
  ·show (1:Fin n)=F.inv (1-p.2)*(1-(smul F M.toCrv p (0+1)).2)
   rw[smul_one]
   have h2:=F.inv_mul _ hne'
   generalize F.inv (1-p.2)=i at *
   rw[show i*(1-p.2)=(1-p.2)*i by clear h2 hx1 hne hne' hp;grind -splitMatch -splitIte -splitIndPred -funext -lia -linarith (splits:=0) (ematch:=0),h2]
 | j+1,hj=>by
  obtain⟨h1,h2⟩:=lad_rep F M hp hx1 hne hne' m hm j (by omega)
  have hb:=bit_step m j (by omega)
  have hlt:=Nat.mod_lt (m/2^(254-j)) (show 0<2 by decide)
  generalize m/2^(255-j)=q at *
  have o1:=on_smul F M.toCrv hp q;have o2:=on_smul F M.toCrv hp (q+1)
  have hd:(add F M.toCrv (smul F M.toCrv p (q+1)) (neg (smul F M.toCrv p q))).2=p.2:=by
   rw[show smul F M.toCrv p (q+1)=add F M.toCrv (smul F M.toCrv p q) p from rfl,add_cancel F M.toCrv o1 hp]
  have hs:=sm_rep F M o1 o2 h1 h2 hd hx1 hne
  rw[←smul_add F M.toCrv hp] at hs
  show Rep _ _ (stp M.k x1 (m/2^(254-j)%2 == 1) (lad M.k x1 m j)).1∧Rep _ _ (stp M.k x1 (m/2^(254-j)%2 == 1) (lad M.k x1 m j)).2
  generalize m/2^(254-j)%2=b at *
  rw[hb]
  clear hb
  rcases (show b=0∨b=1 by omega) with rfl | rfl
  ·have ht:=tw_rep F M o1 h1
   rw[←smul_add F M.toCrv hp] at ht
   refine⟨?_,?_⟩
   ·rw[show 2*q+0=q+q by omega];exact ht
   ·rw[show 2*q+0+1=q+(q+1) by omega];exact hs
  ·have ht:=tw_rep F M o2 h2
   rw[←smul_add F M.toCrv hp] at ht
   refine⟨?_,?_⟩
   ·rw[show 2*q+1=q+(q+1) by omega]
    show Rep _ _ (sm x1 (lad M.k x1 m j).2 (lad M.k x1 m j).1)
    rw[sm_comm];exact hs
   ·rw[show 2*q+1+1=(q+1)+(q+1) by omega];exact ht
theorem rep_x (F:Fld n) {e v:Fin n} {x:Fin n × Fin n} (h:Rep e v x):x.1*F.inv x.2=xof F e v:=by
 obtain⟨c,hc,h1,h2⟩:=h
 unfold xof
 rw[h1,h2]
 by_cases hv:1-v=0
 ·rw[hv,show c*0=0 by clear h1 h2 hv;grind -splitMatch -splitIte -splitIndPred -funext -lia -linarith (splits:=0) (ematch:=0),F.inv_zero];clear h1 h2 hv;grind -splitMatch -splitIte -splitIndPred -funext -lia -linarith (splits:=0) (ematch:=0)
 ·have i1:=F.inv_mul _ hv
  have i2:=F.inv_mul _ (F.mul_ne hc hv)
  refine F.cancel (F.mul_ne hc hv) ?_
  generalize F.inv (1-v)=i at *
  generalize F.inv (c*(1-v))=j at *
  clear h1 h2
  rw[show c*(1-v)*(e*c*(1+v)*j)=e*c*(1+v)*(c*(1-v)*j) by clear i1 i2;grind -splitMatch -splitIte -splitIndPred -funext -lia -linarith (splits:=0) (ematch:=0),i2,show c*(1-v)*(e*(1+v)*i)=e*c*(1+v)*((1-v)*i) by clear i1 i2;grind -splitMatch -splitIte -splitIndPred -funext -lia -linarith (splits:=0) (ematch:=0),i1]
theorem T_rep (F:Fld n) (M:Mont n) {p:Fin n × Fin n} {x1:Fin n} (hp:M.On p) (hx1:x1*(1-p.2)=M.e*(1+p.2)) (hne:1+p.2≠0) (hne':1-p.2≠0) (m:Nat) (hm:m<2^255) :
  T F M.k m x1=xof F M.e (smul F M.toCrv p m).2:=by
 have h:=(lad_rep F M hp hx1 hne hne' m hm 255 (Nat.le_refl _)).1
 rw[Nat.sub_self,Nat.pow_zero,Nat.div_one] at h
 exact rep_x F h
theorem lad_zero (k:Fin n) (m:Nat):∀ j,0<j→(lad k 0 m j).1.2=0∧(lad k 0 m j).2.2=0
 | 0,h=>by omega
 | 1,_=>by
  show (stp k 0 (m/2^(254-0)%2 == 1) ((1,0),(0,1))).1.2=0∧(stp k 0 (m/2^(254-0)%2 == 1) ((1,0),(0,1))).2.2=0
  generalize (m/2^(254-0)%2 == 1)=b
  cases b<;>simp only[stp,tw,sm,if_true,if_false,Bool.false_eq_true]<;>constructor<;>grind -splitMatch -splitIte -splitIndPred -funext -lia -linarith (splits:=0) (ematch:=0)
 | j+2,_=>by
  obtain⟨h1,h2⟩:=lad_zero k m (j+1) (by omega)
  show (stp k 0 (m/2^(254-(j+1))%2 == 1) (lad k 0 m (j+1))).1.2=0∧(stp k 0 (m/2^(254-(j+1))%2 == 1) (lad k 0 m (j+1))).2.2=0
  generalize (m/2^(254-(j+1))%2 == 1)=b
  generalize lad k 0 m (j+1)=s at *
  obtain⟨⟨a,b'⟩,⟨c,d⟩⟩:=s
  simp only at h1 h2
  subst h1;subst h2
  cases b<;>simp only[stp,tw,sm,if_true,if_false,Bool.false_eq_true]<;>constructor<;>grind -splitMatch -splitIte -splitIndPred -funext -lia -linarith (splits:=0) (ematch:=0)
theorem T_zero (F:Fld n) (k:Fin n) (m:Nat):T F k m 0=0:=by
 unfold T
 rw[(lad_zero k m 255 (by decide)).1,F.inv_zero]
 generalize (lad k 0 m 255).1.1=x;grind -splitMatch -splitIte -splitIndPred -funext -lia -linarith (splits:=0) (ematch:=0)
def Sq (x:Fin n):Prop:=∃ t,x=t*t
theorem exists_pt (F:Fld n) (M:Mont n) {u:Fin n} (hu:u≠0) (hB:M.B=u*(u*u+M.A*u+1)):∃ p,M.On p∧u*(1-p.2)=M.e*(1+p.2)∧1+p.2≠0∧1-p.2≠0:=by
 have he:=M.he;have haB:=M.haB;have hdB:=M.hdB;have hBn:=M.hB;have hd:=M.hd
 have hue:u+M.e≠0:=fun h=>by
  apply hd 1
  have hu':u=-M.e:=by generalize M.e=e at *;clear haB hdB he hB;grind -splitMatch -splitIte -splitIndPred -funext -lia -linarith (splits:=0) (ematch:=0)
  have:M.B*M.d=M.B*(1*1):=by
   rw[show M.B*M.d=M.d*M.B by clear haB hdB he hB h hu';grind -splitMatch -splitIte -splitIndPred -funext -lia -linarith (splits:=0) (ematch:=0),hdB,hB,hu']
   generalize M.e=e at *
   generalize M.A=A at *
   clear haB hdB hB h hu' hd hBn
   have e3:-e*(-e * -e+A * -e+1)=(e*e)*A-e*(e*e)-e:=by clear he;grind -splitMatch -splitIte -splitIndPred -funext -lia -linarith (splits:=0) (ematch:=0)
   rw[show -e*(-e * -e+A * -e+1)*(1*1)=-e*(-e * -e+A * -e+1) by clear he e3;grind -splitMatch -splitIte -splitIndPred -funext -lia -linarith (splits:=0) (ematch:=0),e3,he];clear he e3;grind -splitMatch -splitIte -splitIndPred -funext -lia -linarith (splits:=0) (ematch:=0)
  exact F.cancel hBn this
 have hi:=F.inv_mul _ hue
 generalize hiv:F.inv (u+M.e)=i at *
 have hv:(u+M.e)*((u-M.e)*i)=u-M.e:=by
  rw[show (u+M.e)*((u-M.e)*i)=(u-M.e)*((u+M.e)*i) by generalize M.e=e at *;clear haB hdB he hB hi hiv;grind -splitMatch -splitIte -splitIndPred -funext -lia -linarith (splits:=0) (ematch:=0),hi];generalize u-M.e=z;clear haB hdB he hB hi hiv;grind -splitMatch -splitIte -splitIndPred -funext -lia -linarith (splits:=0) (ematch:=0)
 generalize hV:(u-M.e)*i=v at *
 have en:M.e≠0:=fun h=>F.one_ne (by rw[←he,h];clear haB hdB he hB hi hiv hV hv h;grind -splitMatch -splitIte -splitIndPred -funext -lia -linarith (splits:=0) (ematch:=0))
 have p1:(u+M.e)*(1+v)=2*u:=by
  rw[show (u+M.e)*(1+v)=(u+M.e)+(u+M.e)*v by generalize M.e=e at *;clear haB hdB he hB hi hiv hV hv;grind -splitMatch -splitIte -splitIndPred -funext -lia -linarith (splits:=0) (ematch:=0),hv];generalize M.e=e at *;clear haB hdB he hB hi hiv hV hv;grind -splitMatch -splitIte -splitIndPred -funext -lia -linarith (splits:=0) (ematch:=0)
 have p2:(u+M.e)*(1-v)=2*M.e:=by
  rw[show (u+M.e)*(1-v)=(u+M.e)-(u+M.e)*v by generalize M.e=e at *;clear haB hdB he hB hi hiv hV hv p1;grind -splitMatch -splitIte -splitIndPred -funext -lia -linarith (splits:=0) (ematch:=0),hv];generalize M.e=e at *;clear haB hdB he hB hi hiv hV hv p1;grind -splitMatch -splitIte -splitIndPred -funext -lia -linarith (splits:=0) (ematch:=0)
 refine⟨(u,v),?_,?_,?_,?_⟩
 ·show M.a*(u*u)+v*v=1+M.d*(u*u)*(v*v)
  refine F.cancel (F.mul_ne hBn (F.mul_ne hue hue)) ?_
  generalize M.e=e at *
  generalize M.A=A at *
  generalize M.a=a at *
  generalize M.d=d at *
  clear p1 p2 hd
  have l:M.B*((u+e)*(u+e))*(a*(u*u)+v*v)=(a*M.B)*((u*(u+e))*(u*(u+e)))+M.B*(((u+e)*v)*((u+e)*v)):=by clear haB hdB he hB hi hiv hV hv;grind -splitMatch -splitIte -splitIndPred -funext -lia -linarith (splits:=0) (ematch:=0)
  have r:M.B*((u+e)*(u+e))*(1+d*(u*u)*(v*v))=M.B*((u+e)*(u+e))+(d*M.B)*(u*u)*(((u+e)*v)*((u+e)*v)):=by clear haB hdB he hB hi hiv hV hv;grind -splitMatch -splitIte -splitIndPred -funext -lia -linarith (splits:=0) (ematch:=0)
  rw[l,r,hv,haB,hdB,hB]
  clear l r haB hdB hB hi hiv hV hv
  have x1:(A+2*e)*(u*(u+e)*(u*(u+e)))+u*(u*u+A*u+1)*((u-e)*(u-e))-(u*(u*u+A*u+1)*((u+e)*(u+e))+(A-2*e)*(u*u)*((u-e)*(u-e)))=(4*e*(u*u))*(e*e-1):=by clear he;grind -splitMatch -splitIte -splitIndPred -funext -lia -linarith (splits:=0) (ematch:=0)
  rw[he] at x1
  have x2:∀ y z:Fin n,y-z=(4*e*(u*u))*(1-1)→y=z:=fun y z h=>by clear he x1;grind -splitMatch -splitIte -splitIndPred -funext -lia -linarith (splits:=0) (ematch:=0)
  exact x2 _ _ x1
 ·refine F.cancel hue ?_
  show (u+M.e)*(u*(1-v))=(u+M.e)*(M.e*(1+v))
  rw[show (u+M.e)*(u*(1-v))=u*((u+M.e)*(1-v)) by generalize M.e=e at *;clear haB hdB he hB hi hiv hV hv p1 p2;grind -splitMatch -splitIte -splitIndPred -funext -lia -linarith (splits:=0) (ematch:=0),p2,show (u+M.e)*(M.e*(1+v))=M.e*((u+M.e)*(1+v)) by generalize M.e=e at *;clear haB hdB he hB hi hiv hV hv p1 p2;grind -splitMatch -splitIte -splitIndPred -funext -lia -linarith (splits:=0) (ematch:=0),p1]
  generalize M.e=e at *;clear haB hdB he hB hi hiv hV hv p1 p2;grind -splitMatch -splitIte -splitIndPred -funext -lia -linarith (splits:=0) (ematch:=0)
 ·show 1+v≠0
  intro h
  rw[h] at p1
  exact F.mul_ne F.two_ne hu (by rw[←p1];generalize u+M.e=z;clear haB hdB he hB hi hiv hV hv p1 p2 h;grind -splitMatch -splitIte -splitIndPred -funext -lia -linarith (splits:=0) (ematch:=0))
 ·show 1-v≠0
  intro h
  rw[h] at p2
  exact F.mul_ne F.two_ne en (by rw[←p2];generalize u+M.e=z;clear haB hdB he hB hi hiv hV hv p1 p2 h;grind -splitMatch -splitIte -splitIndPred -funext -lia -linarith (splits:=0) (ematch:=0))
theorem exists_mont (F:Fld n) (A k u:Fin n) (hu:u≠0) (hk:4*k=A-2) (hA:¬Sq (A*A-4)) (hsq:∀ x y:Fin n,¬Sq x→¬Sq y→Sq (x*y)) :
  ∃ M:Mont n,M.k=k∧M.A=A∧∃ p,M.On p∧u*(1-p.2)=M.e*(1+p.2)∧1+p.2≠0∧1-p.2≠0:=by
 have hq:u*u+A*u+1≠0:=fun h=>hA ⟨2*u+A,by
  rw[show (2*u+A)*(2*u+A)=4*(u*u+A*u+1)+(A*A-4) by clear h hk;grind -splitMatch -splitIte -splitIndPred -funext -lia -linarith (splits:=0) (ematch:=0),h];clear h hk;grind -splitMatch -splitIte -splitIndPred -funext -lia -linarith (splits:=0) (ematch:=0)⟩
 have hB:=F.mul_ne hu hq
 generalize hBe:u*(u*u+A*u+1)=B at *
 have hi:=F.inv_mul _ hB
 generalize F.inv B=i at *
 have ha:(A+2)*i*B=A+2:=by
  rw[show (A+2)*i*B=(A+2)*(B*i) by clear hk hBe hi;grind -splitMatch -splitIte -splitIndPred -funext -lia -linarith (splits:=0) (ematch:=0),hi];clear hk hBe hi;grind -splitMatch -splitIte -splitIndPred -funext -lia -linarith (splits:=0) (ematch:=0)
 have hd:(A-2)*i*B=A-2:=by
  rw[show (A-2)*i*B=(A-2)*(B*i) by clear hk hBe hi ha;grind -splitMatch -splitIte -splitIndPred -funext -lia -linarith (splits:=0) (ematch:=0),hi];clear hk hBe hi ha;grind -splitMatch -splitIte -splitIndPred -funext -lia -linarith (splits:=0) (ematch:=0)
 have hp:∀ t,(A+2)*i*((A-2)*i)≠t*t:=fun t h=>hA ⟨t*B,by
  rw[show t*B*(t*B)=(t*t)*(B*B) by clear hk hBe hi ha hd h;grind -splitMatch -splitIte -splitIndPred -funext -lia -linarith (splits:=0) (ematch:=0),←h,show (A+2)*i*((A-2)*i)*(B*B)=((A+2)*i*B)*((A-2)*i*B) by clear hk hBe hi ha hd h;grind -splitMatch -splitIte -splitIndPred -funext -lia -linarith (splits:=0) (ematch:=0),ha,hd]
  clear hk hBe hi ha hd h;grind -splitMatch -splitIte -splitIndPred -funext -lia -linarith (splits:=0) (ematch:=0)⟩
 generalize (A+2)*i=a at *
 generalize (A-2)*i=d at *
 have hne:∀ s:Fin n,s=0→a*d≠s:=fun s h0 h=>hp 0 (by rw[h,h0];clear hk hBe hi ha hd h h0;grind -splitMatch -splitIte -splitIndPred -funext -lia -linarith (splits:=0) (ematch:=0))
 by_cases hs:Sq a
 ·by_cases ht:Sq d
  ·obtain⟨s,hs⟩:=hs;obtain⟨t,ht⟩:=ht
   exact absurd (show a*d=s*t*(s*t) by rw[hs,ht];clear hk hBe hi ha hd hs ht;grind -splitMatch -splitIte -splitIndPred -funext -lia -linarith (splits:=0) (ematch:=0)) (hp _)
  ·obtain⟨s,hs⟩:=hs
   have hs0:s≠0:=fun h=>hne 0 rfl (by rw[hs,h];clear hk hBe hi ha hd hs h;grind -splitMatch -splitIte -splitIndPred -funext -lia -linarith (splits:=0) (ematch:=0))
   refine⟨{ a:=a,d:=d,s:=s,ha:=hs,hs:=hs0,hd:=fun t h=>ht ⟨t,h⟩,A:=A,B:=B,e:=1,k:=k,he:=by clear hk hBe hi ha hd hs;grind -splitMatch -splitIte -splitIndPred -funext -lia -linarith (splits:=0) (ematch:=0),hB:=hB,haB:=by rw[ha];clear hk hBe hi ha hd hs;grind -splitMatch -splitIte -splitIndPred -funext -lia -linarith (splits:=0) (ematch:=0),hdB:=by rw[hd];clear hk hBe hi ha hd hs;grind -splitMatch -splitIte -splitIndPred -funext -lia -linarith (splits:=0) (ematch:=0),hk:=hk },rfl,rfl,?_⟩
   exact exists_pt F _ hu hBe.symm
 ·by_cases ht:Sq d
  ·obtain⟨t,ht⟩:=ht
   have ht0:t≠0:=fun h=>hne 0 rfl (by rw[ht,h];clear hk hBe hi ha hd ht h;grind -splitMatch -splitIte -splitIndPred -funext -lia -linarith (splits:=0) (ematch:=0))
   refine⟨{ a:=d,d:=a,s:=t,ha:=ht,hs:=ht0,hd:=fun t h=>hs ⟨t,h⟩,A:=A,B:=B,e:=-1,k:=k,he:=by clear hk hBe hi ha hd ht;grind -splitMatch -splitIte -splitIndPred -funext -lia -linarith (splits:=0) (ematch:=0),hB:=hB,haB:=by rw[hd];clear hk hBe hi ha hd ht;grind -splitMatch -splitIte -splitIndPred -funext -lia -linarith (splits:=0) (ematch:=0),hdB:=by rw[ha];clear hk hBe hi ha hd ht;grind -splitMatch -splitIte -splitIndPred -funext -lia -linarith (splits:=0) (ematch:=0),hk:=hk },rfl,rfl,?_⟩
   exact exists_pt F _ hu hBe.symm
  ·obtain⟨t,h⟩:=hsq a d hs ht
   exact absurd h (hp t)
theorem v_one (F:Fld n) (M:Mont n) {p:Fin n × Fin n} (hp:M.On p) (h:p.2*p.2=1):p.1=0:=by
 have hadne:=adv_ne F M.toCrv p.2
 rw[h] at hadne
 have:M.On p:=hp
 simp only[Crv.On] at this
 rw[h] at this
 have h3:(M.a-M.d*1)*(p.1*p.1)=0:=by generalize M.a=a at *;generalize M.d=d at *;generalize p.1=u at *;clear h;grind -splitMatch -splitIte -splitIndPred -funext -lia -linarith (splits:=0) (ematch:=0)
 have h4:=F.zero_of h3 hadne
 by_cases h5:p.1=0
 ·exact h5
 ·exact F.zero_of h4 h5
theorem xof_zero (F:Fld n) (M:Mont n) {v:Fin n} (h:xof F M.e v=0):1-v=0∨1+v=0:=by
 by_cases h1:1-v=0
 ·exact .inl h1
 ·right
  have hi:=F.inv_ne h1
  unfold xof at h
  have en:M.e≠0:=fun h=>F.one_ne (by rw[←M.he,h];grind -splitMatch -splitIte -splitIndPred -funext -lia -linarith (splits:=0) (ematch:=0))
  by_cases h2:1+v=0
  ·exact h2
  ·exact absurd h (F.mul_ne (F.mul_ne en h2) hi)
theorem xof_of (F:Fld n) {e v:Fin n} (h:1-v≠0):xof F e v*(1-v)=e*(1+v):=by
 unfold xof
 have:=F.inv_mul _ h
 generalize F.inv (1-v)=i at *
 rw[show e*(1+v)*i*(1-v)=e*(1+v)*((1-v)*i) by clear this;grind -splitMatch -splitIte -splitIndPred -funext -lia -linarith (splits:=0) (ematch:=0),this];clear this;grind -splitMatch -splitIte -splitIndPred -funext -lia -linarith (splits:=0) (ematch:=0)
theorem dbl_small (F:Fld n) (M:Mont n) {p:Fin n × Fin n} (hp:M.On p) (h:p.2*p.2=1):add F M.toCrv p p=O:=by
 have h0:=v_one F M hp h
 have hd:M.dl p p=0:=by simp only[Crv.dl,h0];grind -splitMatch -splitIte -splitIndPred -funext -lia -linarith (splits:=0) (ematch:=0)
 unfold add
 rw[hd,h0,h,show (1:Fin n)+0=1 by clear h hd;grind -splitMatch -splitIte -splitIndPred -funext -lia -linarith (splits:=0) (ematch:=0),show (1:Fin n)-0=1 by clear h hd;grind -splitMatch -splitIte -splitIndPred -funext -lia -linarith (splits:=0) (ematch:=0),inv_one F]
 unfold O
 simp only[Prod.mk.injEq]
 constructor
 ·generalize p.2=v;clear h hd;grind -splitMatch -splitIte -splitIndPred -funext -lia -linarith (splits:=0) (ematch:=0)
 ·generalize M.a=a;clear h hd;grind -splitMatch -splitIte -splitIndPred -funext -lia -linarith (splits:=0) (ematch:=0)
theorem smul_small (F:Fld n) (M:Mont n) {p:Fin n × Fin n} (hp:M.On p) (h:p.2*p.2=1) (m:Nat) (hm:m%2=0):smul F M.toCrv p m=O:=by
 obtain⟨j,rfl⟩:∃ j,m=2*j:=⟨m/2,by omega⟩
 rw[smul_mul F M.toCrv hp]
 have:smul F M.toCrv p 2=O:=by
  show add F M.toCrv (smul F M.toCrv p 1) p=O
  rw[smul_one];exact dbl_small F M hp h
 rw[this,smul_O]
theorem xof_one (F:Fld n) (e:Fin n):xof F e 1=0:=by
 unfold xof
 rw[show (1:Fin n)-1=0 by grind -splitMatch -splitIte -splitIndPred -funext -lia -linarith (splits:=0) (ematch:=0),F.inv_zero];grind -splitMatch -splitIte -splitIndPred -funext -lia -linarith (splits:=0) (ematch:=0)
theorem T_T (F:Fld n) (M:Mont n) {p:Fin n × Fin n} {x1:Fin n} (hp:M.On p) (hx1:x1*(1-p.2)=M.e*(1+p.2)) (hne:1+p.2≠0) (hne':1-p.2≠0) (a b:Nat) (ha:a<2^255) (hb:b<2^255) (hb2:b%2=0) :
  T F M.k b (T F M.k a x1)=xof F M.e (smul F M.toCrv p (a*b)).2:=by
 rw[T_rep F M hp hx1 hne hne' a ha,smul_mul F M.toCrv hp]
 have hq:=on_smul F M.toCrv hp a
 generalize smul F M.toCrv p a=q at *
 by_cases h0:q.2*q.2=1
 ·rw[smul_small F M hq h0 b hb2]
  have:xof F M.e q.2=0:=by
   rcases F.sq_eq (x:=q.2) (y:=1) (by rw[h0];clear hx1 hne hne' h0;grind -splitMatch -splitIte -splitIndPred -funext -lia -linarith (splits:=0) (ematch:=0)) with h | h
   ·rw[h,xof_one]
   ·unfold xof;rw[h]
    generalize F.inv (1 - -1)=i;generalize M.e=e at *;clear hx1 hne hne' h0 h;grind -splitMatch -splitIte -splitIndPred -funext -lia -linarith (splits:=0) (ematch:=0)
  rw[this,T_zero]
  exact(xof_one F M.e).symm
 ·have h1:1-q.2≠0:=fun h=>h0 (by generalize q.2=v at *;clear hx1 hne hne' h0;grind -splitMatch -splitIte -splitIndPred -funext -lia -linarith (splits:=0) (ematch:=0))
  have h2:1+q.2≠0:=fun h=>h0 (by generalize q.2=v at *;clear hx1 hne hne' h0;grind -splitMatch -splitIte -splitIndPred -funext -lia -linarith (splits:=0) (ematch:=0))
  exact T_rep F M hq (xof_of F h1) h2 h1 b hb
theorem T_comm (F:Fld n) (A k:Fin n) (hk:4*k=A-2) (hA:¬Sq (A*A-4)) (hsq:∀ x y:Fin n,¬Sq x→¬Sq y→Sq (x*y)) (u:Fin n) (a b:Nat) (ha:a<2^255) (hb:b<2^255) (ha2:a%2=0) (hb2:b%2=0) :
  T F k b (T F k a u)=T F k a (T F k b u):=by
 by_cases hu:u=0
 ·subst hu;rw[T_zero,T_zero,T_zero]
 ·obtain⟨M,rfl,rfl,p,hp,hx,h1,h2⟩:=exists_mont F A k u hu hk hA hsq
  rw[T_T F M hp hx h1 h2 a b ha hb hb2,T_T F M hp hx h1 h2 b a hb ha ha2,Nat.mul_comm]
end
end Go.Proofs.YtddmjddlbhdcpaaGreatDoor.Ed

namespace Go.Proofs.YtddmjddlbhdcpaaGreatDoor.Ed
open Fp
instance neP:NeZero P:=⟨by decide +kernel⟩
def q (x:Nat):Fin P:=Fin.ofNat P x
theorem q_val (x:Nat):(q x).val=x%P:=rfl
theorem q_of (x:Fin P):q x.val=x:=Fin.ext (by rw[q_val,Nat.mod_eq_of_lt x.isLt])
theorem q_eq {x y:Nat}:q x=q y↔x%P=y%P:=by
 constructor
 ·intro h;have:=congrArg Fin.val h;simpa [q_val] using this
 ·intro h;exact Fin.ext (by rw[q_val,q_val,h])
theorem q_add (x y:Nat):q ((x+y)%P)=q x+q y:=Fin.ext (by rw[Fin.val_add,q_val,q_val,q_val,Nat.mod_mod,←Nat.add_mod])
theorem q_mul (x y:Nat):q (x*y%P)=q x*q y:=Fin.ext (by rw[Fin.val_mul,q_val,q_val,q_val,Nat.mod_mod,←Nat.mul_mod])
theorem q_sub (x y:Nat):q ((x%P+(P-y%P))%P)=q x-q y:=Fin.ext (by
 rw[Fin.val_sub,q_val,q_val,q_val,Nat.mod_mod,Nat.add_comm])
theorem q_0:q 0=0:=rfl
theorem q_zero {x:Nat}:q x=0↔x%P=0:=by rw[←q_0,q_eq,Nat.zero_mod]
theorem q_inj {x y:Nat} (hx:x<P) (hy:y<P) (h:q x=q y):x=y:=by
 have:=q_eq.1 h
 rwa [Nat.mod_eq_of_lt hx,Nat.mod_eq_of_lt hy] at this
def fld:Fld P where
 inv x:=q (x.val^E%P)
 inv_mul x h:=by
  have hx:x.val%P≠0:=fun e=>h (by rw[←q_of x];exact q_zero.2 e)
  have:=inv_mul x.val hx
  conv=>lhs;rw[←q_of x]
  rw[←q_mul,q_of,this];rfl
 inv_zero:=by
  show q ((0:Fin P).val^E%P)=0
  rw[show (0:Fin P).val=0 from rfl,Fp.inv_zero];rfl
 one_ne:=fun h=>by
  have:=congrArg Fin.val h
  have h1:(1:Fin P).val=1:=rfl
  rw[h1] at this
  exact absurd this (by decide)
 two_ne:=fun h=>by
  have:=congrArg Fin.val h
  have h1:(2:Fin P).val=2:=rfl
  rw[h1] at this
  exact absurd this (by decide)
theorem q_inv (x:Nat):q (x^E%P)=fld.inv (q x):=by
 show q (x^E%P)=q ((q x).val^E%P)
 rw[q_val,Fp.pow_mod]
def H:Nat:=28948022309329048855892746252171976963317496166410141009864396001978282409974
theorem H_2:H*2=P-1:=by decide +kernel
def G:Nat:=14474011154664524427946373126085988481658748083205070504932198000989141204987
theorem G_2:G*2=H:=by decide +kernel
def K:Nat:=7237005577332262213973186563042994240829374041602535252466099000494570602494
theorem K_2:K*2=G+1:=by decide +kernel
def pr (x:Fin P) (k:Nat):Fin P:=q (x.val^k%P)
theorem pr_add (x:Fin P) (j k:Nat):pr x (j+k)=pr x j*pr x k:=by
 unfold pr
 rw[←q_mul,Nat.pow_add,←Nat.mul_mod]
theorem pr_mul (x y:Fin P) (k:Nat):pr (x*y) k=pr x k*pr y k:=by
 unfold pr
 rw[←q_mul,Fin.val_mul,Fp.pow_mod,Nat.mul_pow,←Nat.mul_mod]
theorem pr_fermat {x:Fin P} (h:x≠0):pr x (P-1)=1:=by
 unfold pr
 rw[fermat prP (fun hd=>h (by rw[←q_of x];exact q_zero.2 (Nat.mod_eq_zero_of_dvd hd)))];rfl
theorem pr_one (x:Fin P):pr x 1=x:=by unfold pr;rw[Nat.pow_one,Nat.mod_eq_of_lt x.isLt,q_of]
theorem pr_H {x:Fin P} (h:x≠0):pr x H=1∨pr x H=-1:=by
 apply fld.sq_eq
 rw[←pr_add,←Nat.mul_two,H_2,pr_fermat h];rfl
theorem pr_sq {x:Fin P} (h:x≠0) (hs:Sq x):pr x H=1:=by
 obtain⟨t,rfl⟩:=hs
 have ht:t≠0:=fun e=>h (by rw[e];exact Fin.ext (by rw[Fin.val_mul];rfl))
 rw[pr_mul,←pr_add,←Nat.mul_two,H_2,pr_fermat ht]
def Two:Fin P:=q 2
theorem two_H:pr Two H=-1:=by
 unfold pr
 have h2:Two.val=2:=rfl
 rw[h2,←pm_eq P 256 2 H (by decide +kernel)]
 exact Fin.ext (by decide +kernel)
theorem neg_one_sq:(-1:Fin P)=pr Two G*pr Two G:=by rw[←pr_add,←Nat.mul_two,G_2,two_H]
theorem sq_of_H {x:Fin P} (h:pr x H=1):Sq x:=by
 have h4:pr x G=1∨pr x G=-1:=by
  apply fld.sq_eq
  rw[←pr_add,←Nat.mul_two,G_2,h];rfl
 have hk:pr x K*pr x K=pr x G*x:=by
  rw[←pr_add,←Nat.mul_two,K_2,pr_add,pr_one]
 rcases h4 with h4 | h4
 ·refine⟨pr x K,?_⟩
  rw[hk,h4]
  generalize x=y
  clear hk h4 h
  have:=fld.one_ne
  exact(Fin.one_mul y).symm
 ·refine⟨pr x K*pr Two G,?_⟩
  have e:∀ a b:Fin P,a*b*(a*b)=(a*a)*(b*b):=fun a b=>by grind -splitMatch -splitIte -splitIndPred -funext -lia -linarith (splits:=0) (ematch:=0)
  rw[e,hk,h4,←neg_one_sq]
  have e2:∀ y:Fin P,y=-1*y * -1:=fun y=>by grind -splitMatch -splitIte -splitIndPred -funext -lia -linarith (splits:=0) (ematch:=0)
  exact e2 x
theorem sq_mul (x y:Fin P) (hx:¬Sq x) (hy:¬Sq y):Sq (x*y):=by
 have e0:∀ a:Fin P,a=0→Sq a:=fun a h=>⟨0,by rw[h];exact Fin.ext (by rw[Fin.val_mul];rfl)⟩
 have hx0:x≠0:=fun h=>hx (e0 _ h)
 have hy0:y≠0:=fun h=>hy (e0 _ h)
 apply sq_of_H
 rw[pr_mul]
 rcases pr_H hx0 with h1 | h1
 ·exact absurd (sq_of_H h1) hx
 ·rcases pr_H hy0 with h2 | h2
  ·exact absurd (sq_of_H h2) hy
  ·rw[h1,h2];exact Fin.ext (by decide +kernel)
def A:Fin P:=q 486662
theorem A_not_sq:¬Sq (A*A-4):=by
 intro h
 have hv:(A*A-4).val=236839902240:=by decide +kernel
 have h0:A*A-4≠0:=fun e=>by rw[e] at hv;exact absurd hv (by decide +kernel)
 have h1:=pr_sq h0 h
 unfold pr at h1
 rw[hv,←pm_eq P 256 236839902240 H (by decide +kernel)] at h1
 have h2:=congrArg Fin.val h1
 exact absurd h2 (by decide +kernel)
def kk:Fin P:=q 121665
theorem kk_A:4*kk=A-2:=Fin.ext (by decide +kernel)
theorem T_order (u:Fin P) (a b:Nat) (ha:a<2^255) (hb:b<2^255) (ha2:a%2=0) (hb2:b%2=0):T fld kk b (T fld kk a u)=T fld kk a (T fld kk b u) :=
 T_comm fld A kk kk_A A_not_sq sq_mul u a b ha hb ha2 hb2
end Go.Proofs.YtddmjddlbhdcpaaGreatDoor.Ed
