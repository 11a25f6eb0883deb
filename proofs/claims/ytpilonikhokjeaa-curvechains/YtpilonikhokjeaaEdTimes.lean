/-
  The ladder, bit by bit: a point times a scalar is the x of a multiple; multiples hang on no order.
-/
import Derived.Test.YtpilonikhokjeaaEdLadder
namespace Go.Proofs.Ytpilonikhokjeaa.Ed
section
variable {n : Nat} [NeZero n]
/-- One bit. -/
def stp (k x1 : Fin n) (b : Bool) (s : (Fin n × Fin n) × (Fin n × Fin n)) : (Fin n × Fin n) × (Fin n × Fin n) :=
  if b then (sm x1 s.2 s.1, tw k s.2) else (tw k s.1, sm x1 s.1 s.2)
/-- j bits of m, from bit 254 down. -/
def lad (k x1 : Fin n) (m : Nat) : Nat → (Fin n × Fin n) × (Fin n × Fin n)
  | 0 => ((1, 0), (x1, 1))
  | j + 1 => stp k x1 (m / 2 ^ (254 - j) % 2 == 1) (lad k x1 m j)
/-- A point times a scalar. -/
def T (F : Fld n) (k : Fin n) (m : Nat) (x1 : Fin n) : Fin n := (lad k x1 m 255).1.1 * F.inv (lad k x1 m 255).1.2
/-- The x of a point. -/
def xof (F : Fld n) (e v : Fin n) : Fin n := e * (1 + v) * F.inv (1 - v)

theorem bit_step (m j : Nat) (hj : j < 255) : m / 2 ^ (255 - (j + 1)) = 2 * (m / 2 ^ (255 - j)) + m / 2 ^ (254 - j) % 2 := by
  have e1 : 255 - (j + 1) = 254 - j := by omega
  have e2 : 255 - j = (254 - j) + 1 := by omega
  rw [e1, e2, Nat.pow_succ, ← Nat.div_div_eq_div_mul]
  omega

theorem lad_rep (F : Fld n) (M : Mont n) {p : Fin n × Fin n} {x1 : Fin n} (hp : M.On p) (hx1 : x1 * (1 - p.2) = M.e * (1 + p.2)) (hne : 1 + p.2 ≠ 0) (hne' : 1 - p.2 ≠ 0) (m : Nat) (hm : m < 2 ^ 255) :
    ∀ j, j ≤ 255 → Rep M.e (smul F M.toCrv p (m / 2 ^ (255 - j))).2 (lad M.k x1 m j).1 ∧ Rep M.e (smul F M.toCrv p (m / 2 ^ (255 - j) + 1)).2 (lad M.k x1 m j).2
  | 0, _ => by
    rw [Nat.sub_zero, Nat.div_eq_of_lt hm]
    refine ⟨⟨M.e * F.inv 2, ?_, ?_, ?_⟩, ⟨F.inv (1 - p.2), F.inv_ne hne', ?_, ?_⟩⟩
    · refine F.mul_ne (fun h => F.one_ne ?_) (F.inv_ne F.two_ne)
      rw [← M.he, h]; grind -splitMatch -splitIte -splitIndPred -funext -lia -linarith (splits := 0) (ematch := 0)
    · show (1 : Fin n) = M.e * (M.e * F.inv 2) * (1 + 1)
      have h2 := F.inv_mul 2 F.two_ne
      have he := M.he
      generalize M.e = e at *
      generalize F.inv 2 = i at *
      clear hx1 hne hne' hp
      rw [show e * (e * i) * (1 + 1) = (e * e) * (2 * i) by clear h2 he; grind -splitMatch -splitIte -splitIndPred -funext -lia -linarith (splits := 0) (ematch := 0), he, h2]; grind -splitMatch -splitIte -splitIndPred -funext -lia -linarith (splits := 0) (ematch := 0)
    · show (0 : Fin n) = M.e * F.inv 2 * (1 - 1)
      generalize M.e * F.inv 2 = i
      clear hx1 hne hne' hp
      grind -splitMatch -splitIte -splitIndPred -funext -lia -linarith (splits := 0) (ematch := 0)
    · show x1 = M.e * F.inv (1 - p.2) * (1 + (smul F M.toCrv p (0 + 1)).2)
      rw [smul_one]
      have h2 := F.inv_mul _ hne'
      generalize F.inv (1 - p.2) = i at *
      rw [show M.e * i * (1 + p.2) = (M.e * (1 + p.2)) * i by clear h2 hx1 hne hne' hp; grind -splitMatch -splitIte -splitIndPred -funext -lia -linarith (splits := 0) (ematch := 0), ← hx1, show x1 * (1 - p.2) * i = x1 * ((1 - p.2) * i) by clear h2 hx1 hne hne' hp; grind -splitMatch -splitIte -splitIndPred -funext -lia -linarith (splits := 0) (ematch := 0), h2]
      clear h2 hx1 hne hne' hp; grind -splitMatch -splitIte -splitIndPred -funext -lia -linarith (splits := 0) (ematch := 0)
    · show (1 : Fin n) = F.inv (1 - p.2) * (1 - (smul F M.toCrv p (0 + 1)).2)
      rw [smul_one]
      have h2 := F.inv_mul _ hne'
      generalize F.inv (1 - p.2) = i at *
      rw [show i * (1 - p.2) = (1 - p.2) * i by clear h2 hx1 hne hne' hp; grind -splitMatch -splitIte -splitIndPred -funext -lia -linarith (splits := 0) (ematch := 0), h2]
  | j + 1, hj => by
    obtain ⟨h1, h2⟩ := lad_rep F M hp hx1 hne hne' m hm j (by omega)
    have hb := bit_step m j (by omega)
    have hlt := Nat.mod_lt (m / 2 ^ (254 - j)) (show 0 < 2 by decide)
    generalize m / 2 ^ (255 - j) = q at *
    have o1 := on_smul F M.toCrv hp q; have o2 := on_smul F M.toCrv hp (q + 1)
    have hd : (add F M.toCrv (smul F M.toCrv p (q + 1)) (neg (smul F M.toCrv p q))).2 = p.2 := by
      rw [show smul F M.toCrv p (q + 1) = add F M.toCrv (smul F M.toCrv p q) p from rfl, add_cancel F M.toCrv o1 hp]
    have hs := sm_rep F M o1 o2 h1 h2 hd hx1 hne
    rw [← smul_add F M.toCrv hp] at hs
    show Rep _ _ (stp M.k x1 (m / 2 ^ (254 - j) % 2 == 1) (lad M.k x1 m j)).1 ∧ Rep _ _ (stp M.k x1 (m / 2 ^ (254 - j) % 2 == 1) (lad M.k x1 m j)).2
    generalize m / 2 ^ (254 - j) % 2 = b at *
    rw [hb]
    clear hb
    rcases (show b = 0 ∨ b = 1 by omega) with rfl | rfl
    · have ht := tw_rep F M o1 h1
      rw [← smul_add F M.toCrv hp] at ht
      refine ⟨?_, ?_⟩
      · rw [show 2 * q + 0 = q + q by omega]; exact ht
      · rw [show 2 * q + 0 + 1 = q + (q + 1) by omega]; exact hs
    · have ht := tw_rep F M o2 h2
      rw [← smul_add F M.toCrv hp] at ht
      refine ⟨?_, ?_⟩
      · rw [show 2 * q + 1 = q + (q + 1) by omega]
        show Rep _ _ (sm x1 (lad M.k x1 m j).2 (lad M.k x1 m j).1)
        rw [sm_comm]; exact hs
      · rw [show 2 * q + 1 + 1 = (q + 1) + (q + 1) by omega]; exact ht

theorem rep_x (F : Fld n) {e v : Fin n} {x : Fin n × Fin n} (h : Rep e v x) : x.1 * F.inv x.2 = xof F e v := by
  obtain ⟨c, hc, h1, h2⟩ := h
  unfold xof
  rw [h1, h2]
  by_cases hv : 1 - v = 0
  · rw [hv, show c * 0 = 0 by clear h1 h2 hv; grind -splitMatch -splitIte -splitIndPred -funext -lia -linarith (splits := 0) (ematch := 0), F.inv_zero]; clear h1 h2 hv; grind -splitMatch -splitIte -splitIndPred -funext -lia -linarith (splits := 0) (ematch := 0)
  · have i1 := F.inv_mul _ hv
    have i2 := F.inv_mul _ (F.mul_ne hc hv)
    refine F.cancel (F.mul_ne hc hv) ?_
    generalize F.inv (1 - v) = i at *
    generalize F.inv (c * (1 - v)) = j at *
    clear h1 h2
    rw [show c * (1 - v) * (e * c * (1 + v) * j) = e * c * (1 + v) * (c * (1 - v) * j) by clear i1 i2; grind -splitMatch -splitIte -splitIndPred -funext -lia -linarith (splits := 0) (ematch := 0), i2, show c * (1 - v) * (e * (1 + v) * i) = e * c * (1 + v) * ((1 - v) * i) by clear i1 i2; grind -splitMatch -splitIte -splitIndPred -funext -lia -linarith (splits := 0) (ematch := 0), i1]
theorem T_rep (F : Fld n) (M : Mont n) {p : Fin n × Fin n} {x1 : Fin n} (hp : M.On p) (hx1 : x1 * (1 - p.2) = M.e * (1 + p.2)) (hne : 1 + p.2 ≠ 0) (hne' : 1 - p.2 ≠ 0) (m : Nat) (hm : m < 2 ^ 255) :
    T F M.k m x1 = xof F M.e (smul F M.toCrv p m).2 := by
  have h := (lad_rep F M hp hx1 hne hne' m hm 255 (Nat.le_refl _)).1
  rw [Nat.sub_self, Nat.pow_zero, Nat.div_one] at h
  exact rep_x F h

/-! ### Nought -/
theorem lad_zero (k : Fin n) (m : Nat) : ∀ j, 0 < j → (lad k 0 m j).1.2 = 0 ∧ (lad k 0 m j).2.2 = 0
  | 0, h => by omega
  | 1, _ => by
    show (stp k 0 (m / 2 ^ (254 - 0) % 2 == 1) ((1, 0), (0, 1))).1.2 = 0 ∧ (stp k 0 (m / 2 ^ (254 - 0) % 2 == 1) ((1, 0), (0, 1))).2.2 = 0
    generalize (m / 2 ^ (254 - 0) % 2 == 1) = b
    cases b <;> simp only [stp, tw, sm, if_true, if_false, Bool.false_eq_true] <;> constructor <;> grind -splitMatch -splitIte -splitIndPred -funext -lia -linarith (splits := 0) (ematch := 0)
  | j + 2, _ => by
    obtain ⟨h1, h2⟩ := lad_zero k m (j + 1) (by omega)
    show (stp k 0 (m / 2 ^ (254 - (j + 1)) % 2 == 1) (lad k 0 m (j + 1))).1.2 = 0 ∧ (stp k 0 (m / 2 ^ (254 - (j + 1)) % 2 == 1) (lad k 0 m (j + 1))).2.2 = 0
    generalize (m / 2 ^ (254 - (j + 1)) % 2 == 1) = b
    generalize lad k 0 m (j + 1) = s at *
    obtain ⟨⟨a, b'⟩, ⟨c, d⟩⟩ := s
    simp only at h1 h2
    subst h1; subst h2
    cases b <;> simp only [stp, tw, sm, if_true, if_false, Bool.false_eq_true] <;> constructor <;> grind -splitMatch -splitIte -splitIndPred -funext -lia -linarith (splits := 0) (ematch := 0)
theorem T_zero (F : Fld n) (k : Fin n) (m : Nat) : T F k m 0 = 0 := by
  unfold T
  rw [(lad_zero k m 255 (by decide)).1, F.inv_zero]
  generalize (lad k 0 m 255).1.1 = x; grind -splitMatch -splitIte -splitIndPred -funext -lia -linarith (splits := 0) (ematch := 0)

/-! ### A point whose x is a given number -/
def Sq (x : Fin n) : Prop := ∃ t, x = t * t
theorem exists_pt (F : Fld n) (M : Mont n) {u : Fin n} (hu : u ≠ 0) (hB : M.B = u * (u * u + M.A * u + 1)) : ∃ p, M.On p ∧ u * (1 - p.2) = M.e * (1 + p.2) ∧ 1 + p.2 ≠ 0 ∧ 1 - p.2 ≠ 0 := by
  have he := M.he; have haB := M.haB; have hdB := M.hdB; have hBn := M.hB; have hd := M.hd
  have hue : u + M.e ≠ 0 := fun h => by
    apply hd 1
    have hu' : u = -M.e := by generalize M.e = e at *; clear haB hdB he hB; grind -splitMatch -splitIte -splitIndPred -funext -lia -linarith (splits := 0) (ematch := 0)
    have : M.B * M.d = M.B * (1 * 1) := by
      rw [show M.B * M.d = M.d * M.B by clear haB hdB he hB h hu'; grind -splitMatch -splitIte -splitIndPred -funext -lia -linarith (splits := 0) (ematch := 0), hdB, hB, hu']
      generalize M.e = e at *
      generalize M.A = A at *
      clear haB hdB hB h hu' hd hBn
      have e3 : -e * (-e * -e + A * -e + 1) = (e * e) * A - e * (e * e) - e := by clear he; grind -splitMatch -splitIte -splitIndPred -funext -lia -linarith (splits := 0) (ematch := 0)
      rw [show -e * (-e * -e + A * -e + 1) * (1 * 1) = -e * (-e * -e + A * -e + 1) by clear he e3; grind -splitMatch -splitIte -splitIndPred -funext -lia -linarith (splits := 0) (ematch := 0), e3, he]; clear he e3; grind -splitMatch -splitIte -splitIndPred -funext -lia -linarith (splits := 0) (ematch := 0)
    exact F.cancel hBn this
  have hi := F.inv_mul _ hue
  generalize hiv : F.inv (u + M.e) = i at *
  have hv : (u + M.e) * ((u - M.e) * i) = u - M.e := by
    rw [show (u + M.e) * ((u - M.e) * i) = (u - M.e) * ((u + M.e) * i) by generalize M.e = e at *; clear haB hdB he hB hi hiv; grind -splitMatch -splitIte -splitIndPred -funext -lia -linarith (splits := 0) (ematch := 0), hi]; generalize u - M.e = z; clear haB hdB he hB hi hiv; grind -splitMatch -splitIte -splitIndPred -funext -lia -linarith (splits := 0) (ematch := 0)
  generalize hV : (u - M.e) * i = v at *
  have en : M.e ≠ 0 := fun h => F.one_ne (by rw [← he, h]; clear haB hdB he hB hi hiv hV hv h; grind -splitMatch -splitIte -splitIndPred -funext -lia -linarith (splits := 0) (ematch := 0))
  have p1 : (u + M.e) * (1 + v) = 2 * u := by
    rw [show (u + M.e) * (1 + v) = (u + M.e) + (u + M.e) * v by generalize M.e = e at *; clear haB hdB he hB hi hiv hV hv; grind -splitMatch -splitIte -splitIndPred -funext -lia -linarith (splits := 0) (ematch := 0), hv]; generalize M.e = e at *; clear haB hdB he hB hi hiv hV hv; grind -splitMatch -splitIte -splitIndPred -funext -lia -linarith (splits := 0) (ematch := 0)
  have p2 : (u + M.e) * (1 - v) = 2 * M.e := by
    rw [show (u + M.e) * (1 - v) = (u + M.e) - (u + M.e) * v by generalize M.e = e at *; clear haB hdB he hB hi hiv hV hv p1; grind -splitMatch -splitIte -splitIndPred -funext -lia -linarith (splits := 0) (ematch := 0), hv]; generalize M.e = e at *; clear haB hdB he hB hi hiv hV hv p1; grind -splitMatch -splitIte -splitIndPred -funext -lia -linarith (splits := 0) (ematch := 0)
  refine ⟨(u, v), ?_, ?_, ?_, ?_⟩
  · show M.a * (u * u) + v * v = 1 + M.d * (u * u) * (v * v)
    refine F.cancel (F.mul_ne hBn (F.mul_ne hue hue)) ?_
    generalize M.e = e at *
    generalize M.A = A at *
    generalize M.a = a at *
    generalize M.d = d at *
    clear p1 p2 hd
    have l : M.B * ((u + e) * (u + e)) * (a * (u * u) + v * v) = (a * M.B) * ((u * (u + e)) * (u * (u + e))) + M.B * (((u + e) * v) * ((u + e) * v)) := by clear haB hdB he hB hi hiv hV hv; grind -splitMatch -splitIte -splitIndPred -funext -lia -linarith (splits := 0) (ematch := 0)
    have r : M.B * ((u + e) * (u + e)) * (1 + d * (u * u) * (v * v)) = M.B * ((u + e) * (u + e)) + (d * M.B) * (u * u) * (((u + e) * v) * ((u + e) * v)) := by clear haB hdB he hB hi hiv hV hv; grind -splitMatch -splitIte -splitIndPred -funext -lia -linarith (splits := 0) (ematch := 0)
    rw [l, r, hv, haB, hdB, hB]
    clear l r haB hdB hB hi hiv hV hv
    have x1 : (A + 2 * e) * (u * (u + e) * (u * (u + e))) + u * (u * u + A * u + 1) * ((u - e) * (u - e)) - (u * (u * u + A * u + 1) * ((u + e) * (u + e)) + (A - 2 * e) * (u * u) * ((u - e) * (u - e))) = (4 * e * (u * u)) * (e * e - 1) := by clear he; grind -splitMatch -splitIte -splitIndPred -funext -lia -linarith (splits := 0) (ematch := 0)
    rw [he] at x1
    have x2 : ∀ y z : Fin n, y - z = (4 * e * (u * u)) * (1 - 1) → y = z := fun y z h => by clear he x1; grind -splitMatch -splitIte -splitIndPred -funext -lia -linarith (splits := 0) (ematch := 0)
    exact x2 _ _ x1
  · refine F.cancel hue ?_
    show (u + M.e) * (u * (1 - v)) = (u + M.e) * (M.e * (1 + v))
    rw [show (u + M.e) * (u * (1 - v)) = u * ((u + M.e) * (1 - v)) by generalize M.e = e at *; clear haB hdB he hB hi hiv hV hv p1 p2; grind -splitMatch -splitIte -splitIndPred -funext -lia -linarith (splits := 0) (ematch := 0), p2, show (u + M.e) * (M.e * (1 + v)) = M.e * ((u + M.e) * (1 + v)) by generalize M.e = e at *; clear haB hdB he hB hi hiv hV hv p1 p2; grind -splitMatch -splitIte -splitIndPred -funext -lia -linarith (splits := 0) (ematch := 0), p1]
    generalize M.e = e at *; clear haB hdB he hB hi hiv hV hv p1 p2; grind -splitMatch -splitIte -splitIndPred -funext -lia -linarith (splits := 0) (ematch := 0)
  · show 1 + v ≠ 0
    intro h
    rw [h] at p1
    exact F.mul_ne F.two_ne hu (by rw [← p1]; generalize u + M.e = z; clear haB hdB he hB hi hiv hV hv p1 p2 h; grind -splitMatch -splitIte -splitIndPred -funext -lia -linarith (splits := 0) (ematch := 0))
  · show 1 - v ≠ 0
    intro h
    rw [h] at p2
    exact F.mul_ne F.two_ne en (by rw [← p2]; generalize u + M.e = z; clear haB hdB he hB hi hiv hV hv p1 p2 h; grind -splitMatch -splitIte -splitIndPred -funext -lia -linarith (splits := 0) (ematch := 0))

/-- For each number that is not nought there is a curve, and a point on it. -/
theorem exists_mont (F : Fld n) (A k u : Fin n) (hu : u ≠ 0) (hk : 4 * k = A - 2) (hA : ¬ Sq (A * A - 4)) (hsq : ∀ x y : Fin n, ¬ Sq x → ¬ Sq y → Sq (x * y)) :
    ∃ M : Mont n, M.k = k ∧ M.A = A ∧ ∃ p, M.On p ∧ u * (1 - p.2) = M.e * (1 + p.2) ∧ 1 + p.2 ≠ 0 ∧ 1 - p.2 ≠ 0 := by
  have hq : u * u + A * u + 1 ≠ 0 := fun h => hA ⟨2 * u + A, by
    rw [show (2 * u + A) * (2 * u + A) = 4 * (u * u + A * u + 1) + (A * A - 4) by clear h hk; grind -splitMatch -splitIte -splitIndPred -funext -lia -linarith (splits := 0) (ematch := 0), h]; clear h hk; grind -splitMatch -splitIte -splitIndPred -funext -lia -linarith (splits := 0) (ematch := 0)⟩
  have hB := F.mul_ne hu hq
  generalize hBe : u * (u * u + A * u + 1) = B at *
  have hi := F.inv_mul _ hB
  generalize F.inv B = i at *
  have ha : (A + 2) * i * B = A + 2 := by
    rw [show (A + 2) * i * B = (A + 2) * (B * i) by clear hk hBe hi; grind -splitMatch -splitIte -splitIndPred -funext -lia -linarith (splits := 0) (ematch := 0), hi]; clear hk hBe hi; grind -splitMatch -splitIte -splitIndPred -funext -lia -linarith (splits := 0) (ematch := 0)
  have hd : (A - 2) * i * B = A - 2 := by
    rw [show (A - 2) * i * B = (A - 2) * (B * i) by clear hk hBe hi ha; grind -splitMatch -splitIte -splitIndPred -funext -lia -linarith (splits := 0) (ematch := 0), hi]; clear hk hBe hi ha; grind -splitMatch -splitIte -splitIndPred -funext -lia -linarith (splits := 0) (ematch := 0)
  have hp : ∀ t, (A + 2) * i * ((A - 2) * i) ≠ t * t := fun t h => hA ⟨t * B, by
    rw [show t * B * (t * B) = (t * t) * (B * B) by clear hk hBe hi ha hd h; grind -splitMatch -splitIte -splitIndPred -funext -lia -linarith (splits := 0) (ematch := 0), ← h, show (A + 2) * i * ((A - 2) * i) * (B * B) = ((A + 2) * i * B) * ((A - 2) * i * B) by clear hk hBe hi ha hd h; grind -splitMatch -splitIte -splitIndPred -funext -lia -linarith (splits := 0) (ematch := 0), ha, hd]
    clear hk hBe hi ha hd h; grind -splitMatch -splitIte -splitIndPred -funext -lia -linarith (splits := 0) (ematch := 0)⟩
  generalize (A + 2) * i = a at *
  generalize (A - 2) * i = d at *
  have hne : ∀ s : Fin n, s = 0 → a * d ≠ s := fun s h0 h => hp 0 (by rw [h, h0]; clear hk hBe hi ha hd h h0; grind -splitMatch -splitIte -splitIndPred -funext -lia -linarith (splits := 0) (ematch := 0))
  by_cases hs : Sq a
  · by_cases ht : Sq d
    · obtain ⟨s, hs⟩ := hs; obtain ⟨t, ht⟩ := ht
      exact absurd (show a * d = s * t * (s * t) by rw [hs, ht]; clear hk hBe hi ha hd hs ht; grind -splitMatch -splitIte -splitIndPred -funext -lia -linarith (splits := 0) (ematch := 0)) (hp _)
    · obtain ⟨s, hs⟩ := hs
      have hs0 : s ≠ 0 := fun h => hne 0 rfl (by rw [hs, h]; clear hk hBe hi ha hd hs h; grind -splitMatch -splitIte -splitIndPred -funext -lia -linarith (splits := 0) (ematch := 0))
      refine ⟨{ a := a, d := d, s := s, ha := hs, hs := hs0, hd := fun t h => ht ⟨t, h⟩, A := A, B := B, e := 1, k := k, he := by clear hk hBe hi ha hd hs; grind -splitMatch -splitIte -splitIndPred -funext -lia -linarith (splits := 0) (ematch := 0), hB := hB, haB := by rw [ha]; clear hk hBe hi ha hd hs; grind -splitMatch -splitIte -splitIndPred -funext -lia -linarith (splits := 0) (ematch := 0), hdB := by rw [hd]; clear hk hBe hi ha hd hs; grind -splitMatch -splitIte -splitIndPred -funext -lia -linarith (splits := 0) (ematch := 0), hk := hk }, rfl, rfl, ?_⟩
      exact exists_pt F _ hu hBe.symm
  · by_cases ht : Sq d
    · obtain ⟨t, ht⟩ := ht
      have ht0 : t ≠ 0 := fun h => hne 0 rfl (by rw [ht, h]; clear hk hBe hi ha hd ht h; grind -splitMatch -splitIte -splitIndPred -funext -lia -linarith (splits := 0) (ematch := 0))
      refine ⟨{ a := d, d := a, s := t, ha := ht, hs := ht0, hd := fun t h => hs ⟨t, h⟩, A := A, B := B, e := -1, k := k, he := by clear hk hBe hi ha hd ht; grind -splitMatch -splitIte -splitIndPred -funext -lia -linarith (splits := 0) (ematch := 0), hB := hB, haB := by rw [hd]; clear hk hBe hi ha hd ht; grind -splitMatch -splitIte -splitIndPred -funext -lia -linarith (splits := 0) (ematch := 0), hdB := by rw [ha]; clear hk hBe hi ha hd ht; grind -splitMatch -splitIte -splitIndPred -funext -lia -linarith (splits := 0) (ematch := 0), hk := hk }, rfl, rfl, ?_⟩
      exact exists_pt F _ hu hBe.symm
    · obtain ⟨t, h⟩ := hsq a d hs ht
      exact absurd h (hp t)

/-! ### Multiples of multiples -/
theorem v_one (F : Fld n) (M : Mont n) {p : Fin n × Fin n} (hp : M.On p) (h : p.2 * p.2 = 1) : p.1 = 0 := by
  have hadne := adv_ne F M.toCrv p.2
  rw [h] at hadne
  have : M.On p := hp
  simp only [Crv.On] at this
  rw [h] at this
  have h3 : (M.a - M.d * 1) * (p.1 * p.1) = 0 := by generalize M.a = a at *; generalize M.d = d at *; generalize p.1 = u at *; clear h; grind -splitMatch -splitIte -splitIndPred -funext -lia -linarith (splits := 0) (ematch := 0)
  have h4 := F.zero_of h3 hadne
  by_cases h5 : p.1 = 0
  · exact h5
  · exact F.zero_of h4 h5
theorem xof_zero (F : Fld n) (M : Mont n) {v : Fin n} (h : xof F M.e v = 0) : 1 - v = 0 ∨ 1 + v = 0 := by
  by_cases h1 : 1 - v = 0
  · exact .inl h1
  · right
    have hi := F.inv_ne h1
    unfold xof at h
    have en : M.e ≠ 0 := fun h => F.one_ne (by rw [← M.he, h]; grind -splitMatch -splitIte -splitIndPred -funext -lia -linarith (splits := 0) (ematch := 0))
    by_cases h2 : 1 + v = 0
    · exact h2
    · exact absurd h (F.mul_ne (F.mul_ne en h2) hi)
theorem xof_of (F : Fld n) {e v : Fin n} (h : 1 - v ≠ 0) : xof F e v * (1 - v) = e * (1 + v) := by
  unfold xof
  have := F.inv_mul _ h
  generalize F.inv (1 - v) = i at *
  rw [show e * (1 + v) * i * (1 - v) = e * (1 + v) * ((1 - v) * i) by clear this; grind -splitMatch -splitIte -splitIndPred -funext -lia -linarith (splits := 0) (ematch := 0), this]; clear this; grind -splitMatch -splitIte -splitIndPred -funext -lia -linarith (splits := 0) (ematch := 0)
/-- Twice a point of order one or two is nought. -/
theorem dbl_small (F : Fld n) (M : Mont n) {p : Fin n × Fin n} (hp : M.On p) (h : p.2 * p.2 = 1) : add F M.toCrv p p = O := by
  have h0 := v_one F M hp h
  have hd : M.dl p p = 0 := by simp only [Crv.dl, h0]; grind -splitMatch -splitIte -splitIndPred -funext -lia -linarith (splits := 0) (ematch := 0)
  unfold add
  rw [hd, h0, h, show (1 : Fin n) + 0 = 1 by clear h hd; grind -splitMatch -splitIte -splitIndPred -funext -lia -linarith (splits := 0) (ematch := 0), show (1 : Fin n) - 0 = 1 by clear h hd; grind -splitMatch -splitIte -splitIndPred -funext -lia -linarith (splits := 0) (ematch := 0), inv_one F]
  unfold O
  simp only [Prod.mk.injEq]
  constructor
  · generalize p.2 = v; clear h hd; grind -splitMatch -splitIte -splitIndPred -funext -lia -linarith (splits := 0) (ematch := 0)
  · generalize M.a = a; clear h hd; grind -splitMatch -splitIte -splitIndPred -funext -lia -linarith (splits := 0) (ematch := 0)
theorem smul_small (F : Fld n) (M : Mont n) {p : Fin n × Fin n} (hp : M.On p) (h : p.2 * p.2 = 1) (m : Nat) (hm : m % 2 = 0) : smul F M.toCrv p m = O := by
  obtain ⟨j, rfl⟩ : ∃ j, m = 2 * j := ⟨m / 2, by omega⟩
  rw [smul_mul F M.toCrv hp]
  have : smul F M.toCrv p 2 = O := by
    show add F M.toCrv (smul F M.toCrv p 1) p = O
    rw [smul_one]; exact dbl_small F M hp h
  rw [this, smul_O]
theorem xof_one (F : Fld n) (e : Fin n) : xof F e 1 = 0 := by
  unfold xof
  rw [show (1 : Fin n) - 1 = 0 by grind -splitMatch -splitIte -splitIndPred -funext -lia -linarith (splits := 0) (ematch := 0), F.inv_zero]; grind -splitMatch -splitIte -splitIndPred -funext -lia -linarith (splits := 0) (ematch := 0)
/-- A point times one scalar, and times another, even one: the x of a multiple of both. -/
theorem T_T (F : Fld n) (M : Mont n) {p : Fin n × Fin n} {x1 : Fin n} (hp : M.On p) (hx1 : x1 * (1 - p.2) = M.e * (1 + p.2)) (hne : 1 + p.2 ≠ 0) (hne' : 1 - p.2 ≠ 0) (a b : Nat) (ha : a < 2 ^ 255) (hb : b < 2 ^ 255) (hb2 : b % 2 = 0) :
    T F M.k b (T F M.k a x1) = xof F M.e (smul F M.toCrv p (a * b)).2 := by
  rw [T_rep F M hp hx1 hne hne' a ha, smul_mul F M.toCrv hp]
  have hq := on_smul F M.toCrv hp a
  generalize smul F M.toCrv p a = q at *
  by_cases h0 : q.2 * q.2 = 1
  · rw [smul_small F M hq h0 b hb2]
    have : xof F M.e q.2 = 0 := by
      rcases F.sq_eq (x := q.2) (y := 1) (by rw [h0]; clear hx1 hne hne' h0; grind -splitMatch -splitIte -splitIndPred -funext -lia -linarith (splits := 0) (ematch := 0)) with h | h
      · rw [h, xof_one]
      · unfold xof; rw [h]
        generalize F.inv (1 - -1) = i; generalize M.e = e at *; clear hx1 hne hne' h0 h; grind -splitMatch -splitIte -splitIndPred -funext -lia -linarith (splits := 0) (ematch := 0)
    rw [this, T_zero]
    exact (xof_one F M.e).symm
  · have h1 : 1 - q.2 ≠ 0 := fun h => h0 (by generalize q.2 = v at *; clear hx1 hne hne' h0; grind -splitMatch -splitIte -splitIndPred -funext -lia -linarith (splits := 0) (ematch := 0))
    have h2 : 1 + q.2 ≠ 0 := fun h => h0 (by generalize q.2 = v at *; clear hx1 hne hne' h0; grind -splitMatch -splitIte -splitIndPred -funext -lia -linarith (splits := 0) (ematch := 0))
    exact T_rep F M hq (xof_of F h1) h2 h1 b hb
/-- Two even scalars, in either order. -/
theorem T_comm (F : Fld n) (A k : Fin n) (hk : 4 * k = A - 2) (hA : ¬ Sq (A * A - 4)) (hsq : ∀ x y : Fin n, ¬ Sq x → ¬ Sq y → Sq (x * y)) (u : Fin n) (a b : Nat) (ha : a < 2 ^ 255) (hb : b < 2 ^ 255) (ha2 : a % 2 = 0) (hb2 : b % 2 = 0) :
    T F k b (T F k a u) = T F k a (T F k b u) := by
  by_cases hu : u = 0
  · subst hu; rw [T_zero, T_zero, T_zero]
  · obtain ⟨M, rfl, rfl, p, hp, hx, h1, h2⟩ := exists_mont F A k u hu hk hA hsq
    rw [T_T F M hp hx h1 h2 a b ha hb hb2, T_T F M hp hx h1 h2 b a hb ha ha2, Nat.mul_comm]
end
end Go.Proofs.Ytpilonikhokjeaa.Ed
