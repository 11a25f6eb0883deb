/-
  The twisted Edwards curve a u^2 + v^2 = 1 + d u^2 v^2 over a field of n elements, a square, d none: its points are a group.
-/
import Derived.Test.YtpilonikhokjeaaEdwards
namespace Go.Proofs.Ytpilonikhokjeaa.Ed
/-- Numbers modulo n with an inverse. -/
structure Fld (n : Nat) [NeZero n] where
  inv : Fin n → Fin n
  inv_mul : ∀ x, x ≠ 0 → x * inv x = 1
  inv_zero : inv 0 = 0
  one_ne : (1 : Fin n) ≠ 0
  two_ne : (2 : Fin n) ≠ 0
section
variable {n : Nat} [NeZero n]
theorem Fld.zero_of (F : Fld n) {x y : Fin n} (h : x * y = 0) (hx : x ≠ 0) : y = 0 := by
  have h1 := F.inv_mul x hx
  have h2 : y = (x * F.inv x) * y := by rw [h1]; grind
  rw [h2, show x * F.inv x * y = F.inv x * (x * y) by grind, h]; grind
theorem Fld.mul_ne (F : Fld n) {x y : Fin n} (hx : x ≠ 0) (hy : y ≠ 0) : x * y ≠ 0 := fun h => hy (F.zero_of h hx)
theorem Fld.cancel (F : Fld n) {c x y : Fin n} (hc : c ≠ 0) (h : c * x = c * y) : x = y := by
  have : x - y = 0 := F.zero_of (x := c) (by grind) hc
  grind
theorem Fld.inv_ne (F : Fld n) {x : Fin n} (hx : x ≠ 0) : F.inv x ≠ 0 := fun h => by
  have := F.inv_mul x hx
  rw [h] at this
  exact F.one_ne (by grind)
theorem Fld.sq_eq (F : Fld n) {x y : Fin n} (h : x * x = y * y) : x = y ∨ x = -y := by
  by_cases hx : x - y = 0
  · left; grind
  · right
    have := F.zero_of (x := x - y) (y := x + y) (by grind) hx
    grind

/-- A curve: a is a square, not nought; d is none. -/
structure Crv (n : Nat) [NeZero n] where
  a : Fin n
  d : Fin n
  s : Fin n
  ha : a = s * s
  hs : s ≠ 0
  hd : ∀ t, d ≠ t * t
def Crv.On (C : Crv n) (p : Fin n × Fin n) : Prop := C.a * (p.1 * p.1) + p.2 * p.2 = 1 + C.d * (p.1 * p.1) * (p.2 * p.2)
def Crv.dl (C : Crv n) (p q : Fin n × Fin n) : Fin n := C.d * (p.1 * q.1 * p.2 * q.2)
theorem Crv.d_ne (C : Crv n) : C.d ≠ 0 := fun h => C.hd 0 (by rw [h]; grind)

/-- No denominator is nought. -/
theorem complete_sq (F : Fld n) (C : Crv n) {p q : Fin n × Fin n} (hp : C.On p) (hq : C.On q) : C.dl p q * C.dl p q ≠ 1 := by
  obtain ⟨u1, v1⟩ := p; obtain ⟨u2, v2⟩ := q
  obtain ⟨a, d, s, ha, hs, hd⟩ := C
  simp only [Crv.On, Crv.dl] at *
  subst ha
  intro h
  generalize hδ : d * (u1 * u2 * v1 * v2) = δ at h
  have key : ∀ t : Fin n, (s * u1 + δ * v1 * t) * (s * u1 + δ * v1 * t) = d * ((u1 * v1) * (u1 * v1)) * ((s * u2 + v2 * t) * (s * u2 + v2 * t)) → t * t = 1 → s * u2 + v2 * t ≠ 0 → False := by
    intro t ht _ hne
    have hne' : u1 * v1 ≠ 0 := fun e => F.one_ne (by
      have : δ = 0 := by rw [← hδ, show d * (u1 * u2 * v1 * v2) = d * (u1 * v1) * (u2 * v2) by grind, e]; grind
      rw [← h, this]; grind)
    have hm := F.mul_ne hne' hne
    have h1 := F.inv_mul _ hm
    apply hd ((s * u1 + δ * v1 * t) * F.inv (u1 * v1 * (s * u2 + v2 * t)))
    generalize F.inv (u1 * v1 * (s * u2 + v2 * t)) = i at *
    have : (s * u1 + δ * v1 * t) * i * ((s * u1 + δ * v1 * t) * i) = ((s * u1 + δ * v1 * t) * (s * u1 + δ * v1 * t)) * (i * i) := by grind
    rw [this, ht]
    have : d * (u1 * v1 * (u1 * v1)) * ((s * u2 + v2 * t) * (s * u2 + v2 * t)) * (i * i) = d * ((u1 * v1 * (s * u2 + v2 * t) * i) * (u1 * v1 * (s * u2 + v2 * t) * i)) := by grind
    rw [this, h1]; grind
  have base : d * ((u1 * v1) * (u1 * v1)) * (s * s * (u2 * u2) + v2 * v2) = s * s * (u1 * u1) + v1 * v1 := by
    rw [hq, hp]
    have : d * ((u1 * v1) * (u1 * v1)) * (1 + d * (u2 * u2) * (v2 * v2)) = d * ((u1 * v1) * (u1 * v1)) + (d * (u1 * u2 * v1 * v2)) * (d * (u1 * u2 * v1 * v2)) := by grind
    rw [this, hδ, h]; grind
  have sq : ∀ t : Fin n, t * t = 1 → (s * u1 + δ * v1 * t) * (s * u1 + δ * v1 * t) = d * ((u1 * v1) * (u1 * v1)) * ((s * u2 + v2 * t) * (s * u2 + v2 * t)) := by
    intro t ht
    have e1 : (s * u1 + δ * v1 * t) * (s * u1 + δ * v1 * t) = s * s * (u1 * u1) + (δ * δ) * (v1 * v1) * (t * t) + 2 * s * t * (u1 * v1) * δ := by grind
    have e2 : d * ((u1 * v1) * (u1 * v1)) * ((s * u2 + v2 * t) * (s * u2 + v2 * t)) = d * ((u1 * v1) * (u1 * v1)) * (s * s * (u2 * u2) + v2 * v2 * (t * t)) + 2 * s * t * (u1 * v1) * (d * (u1 * u2 * v1 * v2)) := by grind
    rw [e1, e2, ht, h, hδ, show v2 * v2 * 1 = v2 * v2 by grind, base]; grind
  by_cases h1 : s * u2 + v2 * 1 = 0
  · by_cases h2 : s * u2 + v2 * (-1) = 0
    · have e : 2 * (s * u2) = 0 := by grind
      have e1 := F.zero_of e F.two_ne
      have e2 := F.zero_of e1 hs
      apply F.one_ne
      rw [← h, ← hδ, e2]; grind
    · exact key (-1) (sq (-1) (by grind)) (by grind) h2
  · exact key 1 (sq 1 (by grind)) (by grind) h1
theorem plus_ne (F : Fld n) (C : Crv n) {p q : Fin n × Fin n} (hp : C.On p) (hq : C.On q) : 1 + C.dl p q ≠ 0 := fun h => complete_sq F C hp hq (by grind)
theorem minus_ne (F : Fld n) (C : Crv n) {p q : Fin n × Fin n} (hp : C.On p) (hq : C.On q) : 1 - C.dl p q ≠ 0 := fun h => complete_sq F C hp hq (by grind)

/-- The sum of two points. -/
def add (F : Fld n) (C : Crv n) (p q : Fin n × Fin n) : Fin n × Fin n := ((p.1 * q.2 + p.2 * q.1) * F.inv (1 + C.dl p q), (p.2 * q.2 - C.a * (p.1 * q.1)) * F.inv (1 - C.dl p q))
theorem add_u (F : Fld n) (C : Crv n) {p q : Fin n × Fin n} (hp : C.On p) (hq : C.On q) : (1 + C.dl p q) * (add F C p q).1 = p.1 * q.2 + p.2 * q.1 := by
  have := F.inv_mul _ (plus_ne F C hp hq)
  simp only [add]
  rw [show (1 + C.dl p q) * ((p.1 * q.2 + p.2 * q.1) * F.inv (1 + C.dl p q)) = (p.1 * q.2 + p.2 * q.1) * ((1 + C.dl p q) * F.inv (1 + C.dl p q)) by grind, this]; grind
theorem add_v (F : Fld n) (C : Crv n) {p q : Fin n × Fin n} (hp : C.On p) (hq : C.On q) : (1 - C.dl p q) * (add F C p q).2 = p.2 * q.2 - C.a * (p.1 * q.1) := by
  have := F.inv_mul _ (minus_ne F C hp hq)
  simp only [add]
  rw [show (1 - C.dl p q) * ((p.2 * q.2 - C.a * (p.1 * q.1)) * F.inv (1 - C.dl p q)) = (p.2 * q.2 - C.a * (p.1 * q.1)) * ((1 - C.dl p q) * F.inv (1 - C.dl p q)) by grind, this]; grind
theorem add_comm (F : Fld n) (C : Crv n) (p q : Fin n × Fin n) : add F C p q = add F C q p := by
  have h : C.dl p q = C.dl q p := by simp only [Crv.dl]; grind
  simp only [add, h]
  congr 2 <;> grind
def O : Fin n × Fin n := (0, 1)
theorem on_O (C : Crv n) : C.On O := by simp only [Crv.On, O]; grind
theorem inv_one (F : Fld n) : F.inv 1 = 1 := by have := F.inv_mul 1 F.one_ne; grind
theorem add_O (F : Fld n) (C : Crv n) (p : Fin n × Fin n) : add F C p O = p := by
  have h : C.dl p O = 0 := by simp only [Crv.dl, O]; grind
  simp only [add, h]
  simp only [O]
  rw [show (1 : Fin n) + 0 = 1 by grind, show (1 : Fin n) - 0 = 1 by grind, inv_one F]
  obtain ⟨u, v⟩ := p
  simp only [Prod.mk.injEq]
  constructor <;> grind
def neg (p : Fin n × Fin n) : Fin n × Fin n := (-p.1, p.2)
theorem on_neg (C : Crv n) {p : Fin n × Fin n} (hp : C.On p) : C.On (neg p) := by simp only [Crv.On, neg] at *; grind
theorem add_neg (F : Fld n) (C : Crv n) {p : Fin n × Fin n} (hp : C.On p) : add F C p (neg p) = O := by
  have hu := add_u F C hp (on_neg C hp)
  have hv := add_v F C hp (on_neg C hp)
  have pn := plus_ne F C hp (on_neg C hp); have mn := minus_ne F C hp (on_neg C hp)
  have e1 : (add F C p (neg p)).1 = 0 := F.cancel pn (by rw [hu]; simp only [neg]; grind)
  have e2 : (add F C p (neg p)).2 = 1 := F.cancel mn (by rw [hv]; simp only [neg, Crv.dl, Crv.On] at *; grind)
  exact Prod.ext e1 e2

theorem ed_of {C : Crv n} {p : Fin n × Fin n} (h : C.On p) : ed C.a C.d p.1 p.2 = 0 := by
  simp only [Crv.On, ed] at *; grind
theorem of_ed {C : Crv n} {p : Fin n × Fin n} (h : ed C.a C.d p.1 p.2 = 0) : C.On p := by
  simp only [Crv.On, ed] at *; grind
theorem on_add (F : Fld n) (C : Crv n) {p q : Fin n × Fin n} (hp : C.On p) (hq : C.On q) : C.On (add F C p q) := by
  have hu := add_u F C hp hq
  have hv := add_v F C hp hq
  have pn := plus_ne F C hp hq; have mn := minus_ne F C hp hq
  have e := closed C.a C.d p.1 p.2 q.1 q.2
  rw [ed_of hp, ed_of hq] at e
  apply of_ed
  generalize add F C p q = r at *
  obtain ⟨u1, v1⟩ := p; obtain ⟨u2, v2⟩ := q; obtain ⟨u3, v3⟩ := r
  simp only [Crv.dl] at *
  generalize C.a = a at *
  generalize C.d = d at *
  generalize d * (u1 * u2 * v1 * v2) = x at *
  have hne := F.mul_ne pn mn
  refine F.zero_of (x := ((1 + x) * (1 - x)) * ((1 + x) * (1 - x))) ?_ (F.mul_ne hne hne)
  rw [← hu, ← hv, show 1 - x * x = (1 + x) * (1 - x) by grind] at e
  unfold ed
  clear hu hv pn mn hne
  generalize (1 + x) = A at *
  generalize (1 - x) = B at *
  grind
theorem assoc_u' (F : Fld n) {a d u1 v1 u2 v2 u3 v3 U V U' V' L R : Fin n} (h1 : ed a d u1 v1 = 0) (h2 : ed a d u2 v2 = 0) (h3 : ed a d u3 v3 = 0)
    (hU : (1 + d * (u1 * u2 * v1 * v2)) * U = u1 * v2 + v1 * u2) (hV : (1 - d * (u1 * u2 * v1 * v2)) * V = v1 * v2 - a * (u1 * u2))
    (hU' : (1 + d * (u2 * u3 * v2 * v3)) * U' = u2 * v3 + v2 * u3) (hV' : (1 - d * (u2 * u3 * v2 * v3)) * V' = v2 * v3 - a * (u2 * u3))
    (hL : (1 + d * (U * u3 * V * v3)) * L = U * v3 + V * u3) (hR : (1 + d * (u1 * U' * v1 * V')) * R = u1 * V' + v1 * U')
    (n1 : (1 + d * (u1 * u2 * v1 * v2)) ≠ 0) (n2 : (1 - d * (u1 * u2 * v1 * v2)) ≠ 0) (n3 : (1 + d * (u2 * u3 * v2 * v3)) ≠ 0) (n4 : (1 - d * (u2 * u3 * v2 * v3)) ≠ 0)
    (n5 : (1 + d * (U * u3 * V * v3)) ≠ 0) (n6 : (1 + d * (u1 * U' * v1 * V')) ≠ 0) : L = R := by
  have e := assoc_u a d u1 v1 u2 v2 u3 v3
  rw [h1, h2, h3, ← hU, ← hV, ← hU', ← hV'] at e
  refine F.cancel (F.mul_ne (F.mul_ne (F.mul_ne n1 n2) (F.mul_ne n3 n4)) (F.mul_ne n5 n6)) ?_
  rw [show ∀ x : Fin n, 1 - x * x = (1 + x) * (1 - x) from fun x => by grind, show ∀ x : Fin n, 1 - x * x = (1 + x) * (1 - x) from fun x => by grind] at e
  generalize (1 + d * (u1 * u2 * v1 * v2)) = A at *
  generalize (1 - d * (u1 * u2 * v1 * v2)) = B at *
  generalize (1 + d * (u2 * u3 * v2 * v3)) = A' at *
  generalize (1 - d * (u2 * u3 * v2 * v3)) = B' at *
  clear h1 h2 h3 hU hV hU' hV' n1 n2 n3 n4 n5 n6
  have l : A * B * (A' * B') * ((1 + d * (U * u3 * V * v3)) * (1 + d * (u1 * U' * v1 * V'))) * L = A * B * (A' * B') * (1 + d * (u1 * U' * v1 * V')) * ((1 + d * (U * u3 * V * v3)) * L) := by grind
  have r : A * B * (A' * B') * ((1 + d * (U * u3 * V * v3)) * (1 + d * (u1 * U' * v1 * V'))) * R = A * B * (A' * B') * (1 + d * (U * u3 * V * v3)) * ((1 + d * (u1 * U' * v1 * V')) * R) := by grind
  rw [l, r, hL, hR]
  clear l r hL hR
  grind
theorem assoc_v' (F : Fld n) {a d u1 v1 u2 v2 u3 v3 U V U' V' L R : Fin n} (h1 : ed a d u1 v1 = 0) (h2 : ed a d u2 v2 = 0) (h3 : ed a d u3 v3 = 0)
    (hU : (1 + d * (u1 * u2 * v1 * v2)) * U = u1 * v2 + v1 * u2) (hV : (1 - d * (u1 * u2 * v1 * v2)) * V = v1 * v2 - a * (u1 * u2))
    (hU' : (1 + d * (u2 * u3 * v2 * v3)) * U' = u2 * v3 + v2 * u3) (hV' : (1 - d * (u2 * u3 * v2 * v3)) * V' = v2 * v3 - a * (u2 * u3))
    (hL : (1 - d * (U * u3 * V * v3)) * L = V * v3 - a * (U * u3)) (hR : (1 - d * (u1 * U' * v1 * V')) * R = v1 * V' - a * (u1 * U'))
    (n1 : (1 + d * (u1 * u2 * v1 * v2)) ≠ 0) (n2 : (1 - d * (u1 * u2 * v1 * v2)) ≠ 0) (n3 : (1 + d * (u2 * u3 * v2 * v3)) ≠ 0) (n4 : (1 - d * (u2 * u3 * v2 * v3)) ≠ 0)
    (n5 : (1 - d * (U * u3 * V * v3)) ≠ 0) (n6 : (1 - d * (u1 * U' * v1 * V')) ≠ 0) : L = R := by
  have e := assoc_v a d u1 v1 u2 v2 u3 v3
  rw [h1, h2, h3, ← hU, ← hV, ← hU', ← hV'] at e
  refine F.cancel (F.mul_ne (F.mul_ne (F.mul_ne n1 n2) (F.mul_ne n3 n4)) (F.mul_ne n5 n6)) ?_
  rw [show ∀ x : Fin n, 1 - x * x = (1 + x) * (1 - x) from fun x => by grind, show ∀ x : Fin n, 1 - x * x = (1 + x) * (1 - x) from fun x => by grind] at e
  generalize (1 + d * (u1 * u2 * v1 * v2)) = A at *
  generalize (1 - d * (u1 * u2 * v1 * v2)) = B at *
  generalize (1 + d * (u2 * u3 * v2 * v3)) = A' at *
  generalize (1 - d * (u2 * u3 * v2 * v3)) = B' at *
  clear h1 h2 h3 hU hV hU' hV' n1 n2 n3 n4 n5 n6
  have l : A * B * (A' * B') * ((1 - d * (U * u3 * V * v3)) * (1 - d * (u1 * U' * v1 * V'))) * L = A * B * (A' * B') * (1 - d * (u1 * U' * v1 * V')) * ((1 - d * (U * u3 * V * v3)) * L) := by grind
  have r : A * B * (A' * B') * ((1 - d * (U * u3 * V * v3)) * (1 - d * (u1 * U' * v1 * V'))) * R = A * B * (A' * B') * (1 - d * (U * u3 * V * v3)) * ((1 - d * (u1 * U' * v1 * V')) * R) := by grind
  rw [l, r, hL, hR]
  clear l r hL hR
  grind
theorem add_assoc (F : Fld n) (C : Crv n) {p q r : Fin n × Fin n} (hp : C.On p) (hq : C.On q) (hr : C.On r) : add F C (add F C p q) r = add F C p (add F C q r) := by
  have h12 := on_add F C hp hq; have h23 := on_add F C hq hr
  refine Prod.ext ?_ ?_
  · exact assoc_u' F (ed_of hp) (ed_of hq) (ed_of hr) (add_u F C hp hq) (add_v F C hp hq) (add_u F C hq hr) (add_v F C hq hr) (add_u F C h12 hr) (add_u F C hp h23)
      (plus_ne F C hp hq) (minus_ne F C hp hq) (plus_ne F C hq hr) (minus_ne F C hq hr) (plus_ne F C h12 hr) (plus_ne F C hp h23)
  · exact assoc_v' F (ed_of hp) (ed_of hq) (ed_of hr) (add_u F C hp hq) (add_v F C hp hq) (add_u F C hq hr) (add_v F C hq hr) (add_v F C h12 hr) (add_v F C hp h23)
      (plus_ne F C hp hq) (minus_ne F C hp hq) (plus_ne F C hq hr) (minus_ne F C hq hr) (minus_ne F C h12 hr) (minus_ne F C hp h23)

/-! ### Multiples -/
def smul (F : Fld n) (C : Crv n) (p : Fin n × Fin n) : Nat → Fin n × Fin n
  | 0 => O
  | k + 1 => add F C (smul F C p k) p
theorem on_smul (F : Fld n) (C : Crv n) {p : Fin n × Fin n} (hp : C.On p) : ∀ k, C.On (smul F C p k)
  | 0 => on_O C
  | k + 1 => on_add F C (on_smul F C hp k) hp
theorem O_add (F : Fld n) (C : Crv n) (p : Fin n × Fin n) : add F C O p = p := by rw [add_comm, add_O]
theorem smul_add (F : Fld n) (C : Crv n) {p : Fin n × Fin n} (hp : C.On p) (j : Nat) : ∀ k, smul F C p (j + k) = add F C (smul F C p j) (smul F C p k)
  | 0 => (add_O F C _).symm
  | k + 1 => by
    show add F C (smul F C p (j + k)) p = add F C (smul F C p j) (add F C (smul F C p k) p)
    rw [smul_add F C hp j k, add_assoc F C (on_smul F C hp j) (on_smul F C hp k) hp]
theorem smul_one (F : Fld n) (C : Crv n) (p : Fin n × Fin n) : smul F C p 1 = p := O_add F C p
theorem smul_O (F : Fld n) (C : Crv n) : ∀ k, smul F C O k = O
  | 0 => rfl
  | k + 1 => by show add F C (smul F C O k) O = O; rw [smul_O F C k, add_O]
theorem smul_mul (F : Fld n) (C : Crv n) {p : Fin n × Fin n} (hp : C.On p) (j : Nat) : ∀ k, smul F C p (j * k) = smul F C (smul F C p j) k
  | 0 => rfl
  | k + 1 => by
    show _ = add F C (smul F C (smul F C p j) k) (smul F C p j)
    rw [Nat.mul_add, Nat.mul_one, smul_add F C hp, smul_mul F C hp j k]
theorem add_cancel (F : Fld n) (C : Crv n) {p q : Fin n × Fin n} (hp : C.On p) (hq : C.On q) : add F C (add F C p q) (neg p) = q := by
  rw [add_comm F C p q, add_assoc F C hq hp (on_neg C hp), add_neg F C hp, add_O]
end
end Go.Proofs.Ytpilonikhokjeaa.Ed
