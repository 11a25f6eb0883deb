/-
  The ladder of X25519 over a field of n elements: what it answers is the x of a multiple of a point of an Edwards curve.
-/
import Derived.Test.YtpilonikhokjeaaEdGroup
namespace Go.Proofs.Ytpilonikhokjeaa.Ed
section
variable {n : Nat} [NeZero n]

/-- A pair, doubled. -/
def tw (k : Fin n) (p : Fin n × Fin n) : Fin n × Fin n :=
  (((p.1 + p.2) * (p.1 + p.2)) * ((p.1 - p.2) * (p.1 - p.2)),
   ((p.1 + p.2) * (p.1 + p.2) - (p.1 - p.2) * (p.1 - p.2)) * ((p.1 + p.2) * (p.1 + p.2) + k * ((p.1 + p.2) * (p.1 + p.2) - (p.1 - p.2) * (p.1 - p.2))))
/-- The sum of two pairs whose difference is x1. -/
def sm (x1 : Fin n) (p q : Fin n × Fin n) : Fin n × Fin n :=
  (((q.1 - q.2) * (p.1 + p.2) + (q.1 + q.2) * (p.1 - p.2)) * ((q.1 - q.2) * (p.1 + p.2) + (q.1 + q.2) * (p.1 - p.2)),
   x1 * (((q.1 - q.2) * (p.1 + p.2) - (q.1 + q.2) * (p.1 - p.2)) * ((q.1 - q.2) * (p.1 + p.2) - (q.1 + q.2) * (p.1 - p.2))))
theorem sm_comm (x1 : Fin n) (p q : Fin n × Fin n) : sm x1 p q = sm x1 q p := by
  simp only [sm, Prod.mk.injEq]
  constructor <;> grind -splitMatch -splitIte -splitIndPred -funext -lia -linarith (splits := 0) (ematch := 0)

/-- A curve that belongs to Montgomery's number A, twisted by B, in one of two forms (e is 1 or -1). -/
structure Mont (n : Nat) [NeZero n] extends Crv n where
  A : Fin n
  B : Fin n
  e : Fin n
  k : Fin n
  he : e * e = 1
  hB : B ≠ 0
  haB : a * B = A + 2 * e
  hdB : d * B = A - 2 * e
  hk : 4 * k = A - 2
/-- A pair stands for a point whose second coordinate is v. -/
def Rep (e v : Fin n) (x : Fin n × Fin n) : Prop := ∃ c, c ≠ 0 ∧ x.1 = e * c * (1 + v) ∧ x.2 = c * (1 - v)

theorem adv_ne (F : Fld n) (C : Crv n) (v : Fin n) : C.a - C.d * (v * v) ≠ 0 := by
  intro h
  by_cases hv : v = 0
  · subst hv
    have : C.s * C.s = 0 := by rw [← C.ha]; grind -splitMatch -splitIte -splitIndPred -funext -lia -linarith (splits := 0) (ematch := 0)
    exact F.mul_ne C.hs C.hs this
  · have h1 := F.inv_mul v hv
    apply C.hd (C.s * F.inv v)
    generalize F.inv v = i at *
    have ha := C.ha
    generalize C.a = a at *
    generalize C.s = s at *
    generalize C.d = d at *
    have e1 : d * (v * v) = s * s := by grind -splitMatch -splitIte -splitIndPred -funext -lia -linarith (splits := 0) (ematch := 0)
    have e2 : s * i * (s * i) = (s * s) * (i * i) := by grind -splitMatch -splitIte -splitIndPred -funext -lia -linarith (splits := 0) (ematch := 0)
    rw [e2, ← e1, show d * (v * v) * (i * i) = d * ((v * i) * (v * i)) by grind -splitMatch -splitIte -splitIndPred -funext -lia -linarith (splits := 0) (ematch := 0), h1]; grind -splitMatch -splitIte -splitIndPred -funext -lia -linarith (splits := 0) (ematch := 0)

theorem l_g1 {D V a d v : Fin n} (h : D = a - 2 * d * (v * v) + d * (v * v) * (v * v)) (hv : D * V = v * v * (a - d * (v * v)) - a * (1 - v * v)) : D * (1 + V) = 2 * (a - d) * (v * v) := by
  rw [show D * (1 + V) = D + D * V by clear h hv; grind -splitMatch -splitIte -splitIndPred -funext -lia -linarith (splits := 0) (ematch := 0), hv, h]; clear h hv; grind -splitMatch -splitIte -splitIndPred -funext -lia -linarith (splits := 0) (ematch := 0)
theorem l_g2 {D V a d v : Fin n} (h : D = a - 2 * d * (v * v) + d * (v * v) * (v * v)) (hv : D * V = v * v * (a - d * (v * v)) - a * (1 - v * v)) : D * (1 - V) = 2 * (1 - v * v) * (a - d * (v * v)) := by
  rw [show D * (1 - V) = D - D * V by clear h hv; grind -splitMatch -splitIte -splitIndPred -funext -lia -linarith (splits := 0) (ematch := 0), hv, h]; clear h hv; grind -splitMatch -splitIte -splitIndPred -funext -lia -linarith (splits := 0) (ematch := 0)
theorem l_4 {e A : Fin n} (he : e * e = 1) : e * (A + 2 * e - (A - 2 * e)) = 4 := by grind -splitMatch -splitIte -splitIndPred -funext -lia -linarith (splits := 0) (ematch := 0)
theorem l_dif {e c v : Fin n} (he : e * e = 1) : (e * c * (1 + v)) * (e * c * (1 + v)) - (c * (1 - v)) * (c * (1 - v)) = 4 * (c * c) * v := by
  rw [show (e * c * (1 + v)) * (e * c * (1 + v)) = (e * e) * ((c * c) * ((1 + v) * (1 + v))) by clear he; grind -splitMatch -splitIte -splitIndPred -funext -lia -linarith (splits := 0) (ematch := 0), he]; clear he; grind -splitMatch -splitIte -splitIndPred -funext -lia -linarith (splits := 0) (ematch := 0)
theorem l_sum {e c v : Fin n} (he : e * e = 1) : (e * c * (1 + v)) * (e * c * (1 + v)) + (c * (1 - v)) * (c * (1 - v)) = 2 * (c * c) * (1 + v * v) := by
  rw [show (e * c * (1 + v)) * (e * c * (1 + v)) = (e * e) * ((c * c) * ((1 + v) * (1 + v))) by clear he; grind -splitMatch -splitIte -splitIndPred -funext -lia -linarith (splits := 0) (ematch := 0), he]; clear he; grind -splitMatch -splitIte -splitIndPred -funext -lia -linarith (splits := 0) (ematch := 0)
theorem l_q5 {e A c v : Fin n} (he : e * e = 1) : 2 * (c * c) * (1 + v * v) + A * (e * (c * c) * (1 - v * v)) = (c * c) * e * (A + 2 * e - (A - 2 * e) * (v * v)) := by
  rw [show (c * c) * e * (A + 2 * e - (A - 2 * e) * (v * v)) = (c * c) * (2 * (1 + v * v) * (e * e)) + A * (e * (c * c) * (1 - v * v)) by clear he; grind -splitMatch -splitIte -splitIndPred -funext -lia -linarith (splits := 0) (ematch := 0), he]; clear he; grind -splitMatch -splitIte -splitIndPred -funext -lia -linarith (splits := 0) (ematch := 0)
theorem l_x {e c2 c3 v2 v3 : Fin n} (he : e * e = 1) : (e * c2 * (1 + v2)) * (e * c3 * (1 + v3)) - (c2 * (1 - v2)) * (c3 * (1 - v3)) = 2 * (c2 * c3) * (v2 + v3) := by
  rw [show (e * c2 * (1 + v2)) * (e * c3 * (1 + v3)) = (e * e) * ((c2 * c3) * ((1 + v2) * (1 + v3))) by clear he; grind -splitMatch -splitIte -splitIndPred -funext -lia -linarith (splits := 0) (ematch := 0), he]; clear he; grind -splitMatch -splitIte -splitIndPred -funext -lia -linarith (splits := 0) (ematch := 0)

theorem tw_rep (F : Fld n) (M : Mont n) {p x : Fin n × Fin n} (hp : M.On p) (hx : Rep M.e p.2 x) : Rep M.e (add F M.toCrv p p).2 (tw M.k x) := by
  obtain ⟨c, hc, h1, h2⟩ := hx
  have hv := add_v F M.toCrv hp hp
  have hne := minus_ne F M.toCrv hp hp
  have hne2 := adv_ne F M.toCrv p.2
  have hB := M.hB; have haB := M.haB; have hdB := M.hdB; have he := M.he; have hk := M.hk
  generalize (add F M.toCrv p p).2 = V at *
  obtain ⟨u, v⟩ := p; obtain ⟨X, Z⟩ := x
  simp only [Crv.On, Crv.dl] at *
  generalize M.a = a at *
  generalize M.d = d at *
  generalize M.e = e at *
  generalize M.B = B at *
  generalize M.A = A at *
  generalize M.k = k at *
  -- the denominator
  have hu : (a - d * (v * v)) * (u * u) = 1 - v * v := by grind -splitMatch -splitIte -splitIndPred -funext -lia -linarith (splits := 0) (ematch := 0)
  generalize hD : (a - d * (v * v)) * (1 - d * (u * u * v * v)) = D
  have hDne : D ≠ 0 := hD ▸ F.mul_ne hne2 hne
  have hD' : D = a - 2 * d * (v * v) + d * (v * v) * (v * v) := by
    rw [← hD, show (a - d * (v * v)) * (1 - d * (u * u * v * v)) = (a - d * (v * v)) - d * (v * v) * ((a - d * (v * v)) * (u * u)) by grind -splitMatch -splitIte -splitIndPred -funext -lia -linarith (splits := 0) (ematch := 0), hu]; grind -splitMatch -splitIte -splitIndPred -funext -lia -linarith (splits := 0) (ematch := 0)
  have hDV : D * V = v * v * (a - d * (v * v)) - a * (1 - v * v) := by
    rw [← hD, show (a - d * (v * v)) * (1 - d * (u * u * v * v)) * V = (a - d * (v * v)) * ((1 - d * (u * u * v * v)) * V) by grind -splitMatch -splitIte -splitIndPred -funext -lia -linarith (splits := 0) (ematch := 0), hv, ← hu]; grind -splitMatch -splitIte -splitIndPred -funext -lia -linarith (splits := 0) (ematch := 0)
  have g1 : D * (1 + V) = 2 * (a - d) * (v * v) := l_g1 hD' hDV
  have g2 : D * (1 - V) = 2 * (1 - v * v) * (a - d * (v * v)) := l_g2 hD' hDV
  have hab : e * (a - d) * B = 4 := by
    have : e * (a - d) * B = e * (a * B - d * B) := by grind -splitMatch -splitIte -splitIndPred -funext -lia -linarith (splits := 0) (ematch := 0)
    rw [this, haB, hdB]; exact l_4 he
  refine ⟨2 * (c * c) * (c * c) * B * D, F.mul_ne (F.mul_ne (F.mul_ne (F.mul_ne F.two_ne (F.mul_ne hc hc)) (F.mul_ne hc hc)) hB) hDne, ?_, ?_⟩
  · show (X + Z) * (X + Z) * ((X - Z) * (X - Z)) = e * (2 * (c * c) * (c * c) * B * D) * (1 + V)
    have q1 : X * X - Z * Z = 4 * (c * c) * v := by rw [h1, h2]; exact l_dif he
    have q2 : (X + Z) * (X + Z) * ((X - Z) * (X - Z)) = (X * X - Z * Z) * (X * X - Z * Z) := by grind -splitMatch -splitIte -splitIndPred -funext -lia -linarith (splits := 0) (ematch := 0)
    have q3 : e * (2 * (c * c) * (c * c) * B * D) * (1 + V) = 2 * (c * c) * (c * c) * (e * B) * (D * (1 + V)) := by grind -splitMatch -splitIte -splitIndPred -funext -lia -linarith (splits := 0) (ematch := 0)
    have q4 : 2 * (c * c) * (c * c) * (e * B) * (2 * (a - d) * (v * v)) = 4 * (c * c) * (c * c) * (v * v) * (e * (a - d) * B) := by grind -splitMatch -splitIte -splitIndPred -funext -lia -linarith (splits := 0) (ematch := 0)
    rw [q2, q1, q3, g1, q4, hab]; grind -splitMatch -splitIte -splitIndPred -funext -lia -linarith (splits := 0) (ematch := 0)
  · show ((X + Z) * (X + Z) - (X - Z) * (X - Z)) * ((X + Z) * (X + Z) + k * ((X + Z) * (X + Z) - (X - Z) * (X - Z))) = 2 * (c * c) * (c * c) * B * D * (1 - V)
    have q1 : (X + Z) * (X + Z) - (X - Z) * (X - Z) = 4 * (X * Z) := by grind -splitMatch -splitIte -splitIndPred -funext -lia -linarith (splits := 0) (ematch := 0)
    have q2 : X * Z = e * (c * c) * (1 - v * v) := by rw [h1, h2]; grind -splitMatch -splitIte -splitIndPred -funext -lia -linarith (splits := 0) (ematch := 0)
    have q3 : (X + Z) * (X + Z) + k * (4 * (X * Z)) = X * X + Z * Z + A * (X * Z) := by
      have : k * (4 * (X * Z)) = (4 * k) * (X * Z) := by grind -splitMatch -splitIte -splitIndPred -funext -lia -linarith (splits := 0) (ematch := 0)
      rw [this, hk]; grind -splitMatch -splitIte -splitIndPred -funext -lia -linarith (splits := 0) (ematch := 0)
    have q4 : X * X + Z * Z = 2 * (c * c) * (1 + v * v) := by rw [h1, h2]; exact l_sum he
    have q5 : 2 * (c * c) * (1 + v * v) + A * (e * (c * c) * (1 - v * v)) = (c * c) * e * (a * B - d * B * (v * v)) := by rw [haB, hdB]; exact l_q5 he
    have q6 : 2 * (c * c) * (c * c) * B * D * (1 - V) = 2 * (c * c) * (c * c) * B * (D * (1 - V)) := by grind -splitMatch -splitIte -splitIndPred -funext -lia -linarith (splits := 0) (ematch := 0)
    rw [q1, q3, q2, q4, q5, q6, g2]
    have q7 : 4 * (e * (c * c) * (1 - v * v)) * (c * c * e * (a * B - d * B * (v * v))) = 4 * (e * e) * (c * c) * (c * c) * (1 - v * v) * B * (a - d * (v * v)) := by grind -splitMatch -splitIte -splitIndPred -funext -lia -linarith (splits := 0) (ematch := 0)
    rw [q7, he]; grind -splitMatch -splitIte -splitIndPred -funext -lia -linarith (splits := 0) (ematch := 0)

theorem sm_rep (F : Fld n) (M : Mont n) {p q x y : Fin n × Fin n} {x1 v1 : Fin n} (hp : M.On p) (hq : M.On q) (hx : Rep M.e p.2 x) (hy : Rep M.e q.2 y) (hv1 : (add F M.toCrv q (neg p)).2 = v1)
    (hx1 : x1 * (1 - v1) = M.e * (1 + v1)) (hne1 : 1 + v1 ≠ 0) : Rep M.e (add F M.toCrv p q).2 (sm x1 x y) := by
  obtain ⟨c2, hc2, h1, h2⟩ := hx
  obtain ⟨c3, hc3, h3, h4⟩ := hy
  have hv := add_v F M.toCrv hp hq
  have hv' := add_v F M.toCrv hq (on_neg M.toCrv hp)
  rw [hv1] at hv'
  have nm := minus_ne F M.toCrv hp hq
  have np := plus_ne F M.toCrv hp hq
  have na := adv_ne F M.toCrv p.2; have nb := adv_ne F M.toCrv q.2; have nc := adv_ne F M.toCrv (p.2 * q.2)
  have hB := M.hB; have haB := M.haB; have hdB := M.hdB; have he := M.he
  generalize (add F M.toCrv p q).2 = V at *
  clear hv1
  obtain ⟨u2, v2⟩ := p; obtain ⟨u3, v3⟩ := q; obtain ⟨X2, Z2⟩ := x; obtain ⟨X3, Z3⟩ := y
  simp only [Crv.On, Crv.dl, neg] at *
  generalize M.a = a at *
  generalize M.d = d at *
  generalize M.e = e at *
  generalize M.B = B at *
  generalize M.A = A at *
  generalize hδ : d * (u2 * u3 * v2 * v3) = δ at *
  have hδ' : 1 - d * (u3 * -u2 * v3 * v2) = 1 + δ := by rw [← hδ]; grind -splitMatch -splitIte -splitIndPred -funext -lia -linarith (splits := 0) (ematch := 0)
  rw [hδ'] at hv'
  have hadne : a - d ≠ 0 := fun h => by
    have : (4 : Fin n) = 0 := by
      have : e * (a * B - d * B) = 4 := by rw [haB, hdB]; exact l_4 he
      rw [← this, show e * (a * B - d * B) = e * B * (a - d) by clear h this haB hdB he hv hv' hp hq h1 h2 h3 h4 hx1; grind -splitMatch -splitIte -splitIndPred -funext -lia -linarith (splits := 0) (ematch := 0), h]; clear h this haB hdB he hv hv' hp hq h1 h2 h3 h4 hx1; grind -splitMatch -splitIte -splitIndPred -funext -lia -linarith (splits := 0) (ematch := 0)
    exact F.mul_ne F.two_ne F.two_ne (by grind -splitMatch -splitIte -splitIndPred -funext -lia -linarith (splits := 0) (ematch := 0))
  have Np : ((1 - δ) * (1 + δ) * ((a - d * (v2 * v2)) * (a - d * (v3 * v3)))) * ((1 + V) * (1 + v1)) = ((a - d) * (a - d * (v2 * v3 * (v2 * v3)))) * ((v2 + v3) * (v2 + v3)) := by
    have t1 : ((1 - δ) * (1 + δ) * ((a - d * (v2 * v2)) * (a - d * (v3 * v3)))) * ((1 + V) * (1 + v1)) = ((a - d * (v2 * v2)) * (a - d * (v3 * v3))) * (((1 - δ) + (1 - δ) * V) * ((1 + δ) + (1 + δ) * v1)) := by grind -splitMatch -splitIte -splitIndPred -funext -lia -linarith (splits := 0) (ematch := 0)
    rw [t1, hv, hv', ← hδ]
    clear t1 hv hv' nm np na nb nc hδ hδ' hx1 hne1 h1 h2 h3 h4
    grind -splitMatch -splitIte -splitIndPred -funext -lia -linarith (splits := 0) (ematch := 0)
  have Nm : ((1 - δ) * (1 + δ) * ((a - d * (v2 * v2)) * (a - d * (v3 * v3)))) * ((1 - V) * (1 - v1)) = ((a - d) * (a - d * (v2 * v3 * (v2 * v3)))) * ((v2 - v3) * (v2 - v3)) := by
    have t1 : ((1 - δ) * (1 + δ) * ((a - d * (v2 * v2)) * (a - d * (v3 * v3)))) * ((1 - V) * (1 - v1)) = ((a - d * (v2 * v2)) * (a - d * (v3 * v3))) * (((1 - δ) - (1 - δ) * V) * ((1 + δ) - (1 + δ) * v1)) := by grind -splitMatch -splitIte -splitIndPred -funext -lia -linarith (splits := 0) (ematch := 0)
    rw [t1, hv, hv', ← hδ]
    clear t1 hv hv' nm np na nb nc hδ hδ' hx1 hne1 h1 h2 h3 h4 Np
    grind -splitMatch -splitIte -splitIndPred -funext -lia -linarith (splits := 0) (ematch := 0)
  have hG := F.mul_ne (F.mul_ne nm np) (F.mul_ne na nb)
  have hK := F.mul_ne hadne nc
  have hKi := F.inv_mul _ hK
  have hKn := F.inv_ne hK
  generalize (1 - δ) * (1 + δ) * ((a - d * (v2 * v2)) * (a - d * (v3 * v3))) = G at *
  generalize (a - d) * (a - d * (v2 * v3 * (v2 * v3))) = K at *
  generalize F.inv K = i at *
  have en : e ≠ 0 := fun h => F.one_ne (by rw [← he, h]; grind -splitMatch -splitIte -splitIndPred -funext -lia -linarith (splits := 0) (ematch := 0))
  have n16 := F.mul_ne (F.mul_ne F.two_ne F.two_ne) (F.mul_ne F.two_ne F.two_ne)
  refine ⟨e * (2 * 2 * (2 * 2)) * ((c2 * c3) * (c2 * c3)) * i * G * (1 + v1), F.mul_ne (F.mul_ne (F.mul_ne (F.mul_ne (F.mul_ne en n16) (F.mul_ne (F.mul_ne hc2 hc3) (F.mul_ne hc2 hc3))) hKn) hG) hne1, ?_, ?_⟩
  · show ((X3 - Z3) * (X2 + Z2) + (X3 + Z3) * (X2 - Z2)) * ((X3 - Z3) * (X2 + Z2) + (X3 + Z3) * (X2 - Z2)) = _
    have q1 : (X3 - Z3) * (X2 + Z2) + (X3 + Z3) * (X2 - Z2) = 2 * (X2 * X3 - Z2 * Z3) := by grind -splitMatch -splitIte -splitIndPred -funext -lia -linarith (splits := 0) (ematch := 0)
    have q2 : X2 * X3 - Z2 * Z3 = 2 * (c2 * c3) * (v2 + v3) := by rw [h1, h2, h3, h4]; exact l_x he
    have q3 : e * (e * (2 * 2 * (2 * 2)) * (c2 * c3 * (c2 * c3)) * i * G * (1 + v1)) * (1 + V) = (e * e) * (2 * 2 * (2 * 2)) * (c2 * c3 * (c2 * c3)) * i * (G * ((1 + V) * (1 + v1))) := by grind -splitMatch -splitIte -splitIndPred -funext -lia -linarith (splits := 0) (ematch := 0)
    rw [q1, q2, q3, Np, he, show (1 : Fin n) * (2 * 2 * (2 * 2)) * (c2 * c3 * (c2 * c3)) * i * (K * ((v2 + v3) * (v2 + v3))) = (2 * 2 * (2 * 2)) * (c2 * c3 * (c2 * c3)) * (K * i) * ((v2 + v3) * (v2 + v3)) by grind -splitMatch -splitIte -splitIndPred -funext -lia -linarith (splits := 0) (ematch := 0), hKi]
    clear h1 h2 h3 h4 Np Nm hv hv'
    grind -splitMatch -splitIte -splitIndPred -funext -lia -linarith (splits := 0) (ematch := 0)
  · show x1 * (((X3 - Z3) * (X2 + Z2) - (X3 + Z3) * (X2 - Z2)) * ((X3 - Z3) * (X2 + Z2) - (X3 + Z3) * (X2 - Z2))) = _
    have q1 : (X3 - Z3) * (X2 + Z2) - (X3 + Z3) * (X2 - Z2) = 2 * (X3 * Z2 - X2 * Z3) := by grind -splitMatch -splitIte -splitIndPred -funext -lia -linarith (splits := 0) (ematch := 0)
    have q2 : X3 * Z2 - X2 * Z3 = e * (2 * (c2 * c3) * (v3 - v2)) := by rw [h1, h2, h3, h4]; grind -splitMatch -splitIte -splitIndPred -funext -lia -linarith (splits := 0) (ematch := 0)
    have q3 : e * (2 * 2 * (2 * 2)) * (c2 * c3 * (c2 * c3)) * i * G * (1 + v1) * (1 - V) = (2 * 2 * (2 * 2)) * (c2 * c3 * (c2 * c3)) * i * G * (e * (1 + v1)) * (1 - V) := by grind -splitMatch -splitIte -splitIndPred -funext -lia -linarith (splits := 0) (ematch := 0)
    have q4 : (2 * 2 * (2 * 2)) * (c2 * c3 * (c2 * c3)) * i * G * (x1 * (1 - v1)) * (1 - V) = (2 * 2 * (2 * 2)) * (c2 * c3 * (c2 * c3)) * i * x1 * (G * ((1 - V) * (1 - v1))) := by grind -splitMatch -splitIte -splitIndPred -funext -lia -linarith (splits := 0) (ematch := 0)
    have q5 : x1 * (2 * (e * (2 * (c2 * c3) * (v3 - v2))) * (2 * (e * (2 * (c2 * c3) * (v3 - v2))))) = x1 * (e * e) * (2 * 2 * (2 * 2)) * (c2 * c3 * (c2 * c3)) * ((v2 - v3) * (v2 - v3)) := by grind -splitMatch -splitIte -splitIndPred -funext -lia -linarith (splits := 0) (ematch := 0)
    rw [q1, q2, q3, ← hx1, q4, Nm, q5, he, show (2 * 2 * (2 * 2)) * (c2 * c3 * (c2 * c3)) * i * x1 * (K * ((v2 - v3) * (v2 - v3))) = x1 * (K * i) * (2 * 2 * (2 * 2)) * (c2 * c3 * (c2 * c3)) * ((v2 - v3) * (v2 - v3)) by grind -splitMatch -splitIte -splitIndPred -funext -lia -linarith (splits := 0) (ematch := 0), hKi]
end
end Go.Proofs.Ytpilonikhokjeaa.Ed
