/-
  A region that draws its order, in which new variables are laid beside calls: whichever order comes up, the calls give what they give, and each new variable is some block of its own.
-/
import Derived.Test.YtbhgmefdimjlaaaStep
import Derived.Test.YtbhgmefdimjlaaaPlus
namespace Go.Hold
open Go Go.RowKit

section
variable {P : Program} {ops : Array Oper} {md : Region.Mode} {W : World} {n : Nat}

/-- A pointer to a block's first cell. -/
abbrev ptr (g : Nat) : Value := .pointer (some ⟨g, 0, none⟩)
/-- In state 'a' operation 'o' gives 'v' in every world that has grown out of W, and lets that world grow alone. -/
def GivesB (P : Program) (ops : Array Oper) (W : World) (o : Oper) (v : Value) (a : Act) : Prop :=
  (Region.wanted o (yielded ops a.tmps) = true ∧ ∀ w, Below W.heap.size W w → comes P o a (fun u _ w' => u = v ∧ Below w.heap.size w w') ((execOp a.eval o).run P w)) ∨
  (Region.wanted o (yielded ops a.tmps) = false ∧ v = undef)
theorem GivesB.like {o : Oper} {v : Value} {a a' : Act} (h : GivesB P ops W o v a) (he : execOp a'.eval o = execOp a.eval o)
    (hw : Region.wanted o (yielded ops a'.tmps) = Region.wanted o (yielded ops a.tmps)) : GivesB P ops W o v a' := by
  rcases h with ⟨h1, h2⟩ | ⟨h1, h2⟩
  · exact .inl ⟨hw ▸ h1, fun w hS => by rw [he]; exact comes_mono (fun _ _ h => h) _ (h2 w hS)⟩
  · exact .inr ⟨hw ▸ h1, h2⟩
theorem GivesB.wpOp {i : Nat} {o : Oper} {v : Value} {a : Act} {Q : Exit → Act → World → Prop} (hi : ops[i]? = some o) (hg : GivesB P ops W o v a) {K : Act → World → Prop} {w : World} (hS : Below W.heap.size W w)
    (h : ∀ w', Below w.heap.size w w' → K (a.put o.dst v) w') : wpOp P ops Q i K a w := by
  unfold Go.wpOp
  simp only [hi]
  rcases hg with ⟨hw, hv⟩ | ⟨hw, rfl⟩
  · simp only [hw, if_true]
    refine .inl ?_
    have hv := hv w hS
    unfold Oper.wp
    generalize (execOp a.eval o).run P w = r at hv
    cases r with
    | halt x w => exact False.elim hv
    | ok n w1 =>
      cases n <;> try exact False.elim hv
      case value u => obtain ⟨rfl, hs⟩ := hv; exact h _ hs
      case skip => obtain ⟨rfl, hs⟩ := hv; exact h _ hs
      case enter f args =>
        refine Calls.mono (P := P) hv ?_
        rintro e w'' ⟨u, rfl, rfl, hs⟩
        exact h _ hs
  · simp only [hw, Bool.false_eq_true, if_false]
    exact h w (Below.refl _ _)

/-- 'o' lays a new variable: the cells z, of type t. -/
def Lays (P : Program) (o : Oper) (t : TypeId) (z : Array Value) : Prop :=
  o.guard = none ∧ ∀ (a : Act) (w : World), (execOp a.eval o).run P w = .ok (.value (ptr w.heap.size)) (w.alloc (.cells z t))

/-- Who has got which block. -/
abbrev Got := Nat → Option Nat
def Got.put (al : Got) (i g : Nat) : Got := fun j => if j = i then some g else al j
theorem Got.put_comm (al : Got) {i j : Nat} (h : i ≠ j) (g g' : Nat) : (al.put i g).put j g' = (al.put j g').put i g := by
  funext k
  unfold Got.put
  by_cases h1 : k = j <;> by_cases h2 : k = i <;> simp_all
def Got.Fresh (al : Got) (g : Nat) : Prop := ∀ j, al j ≠ some g
def Got.Bounded (al : Got) : Prop := ∃ N, ∀ j g, al j = some g → g < N
theorem Got.Bounded.put {al : Got} (h : al.Bounded) (i g : Nat) : (al.put i g).Bounded := by
  obtain ⟨N, hN⟩ := h
  refine ⟨max N (g + 1), fun j g' hj => ?_⟩
  unfold Got.put at hj
  split at hj
  · cases hj; omega
  · have := hN j g' hj; omega

variable (info : Nat → Option (TypeId × Array Value)) (vals : Nat → Value)

/-- Whatever order is picked for the next operations below number n; then L. -/
def anyB (P : Program) (md : Region.Mode) (ops : Array Oper) (W : World) (n : Nat) (L : Got → Array Bool → Act → Prop) : Nat → Got → Array Bool → Act → Prop
  | 0, al, listed, a => L al listed a
  | f + 1, al, listed, a => Region.ready md ops listed ≠ [] ∧ ∀ i ∈ Region.ready md ops listed, i < n ∧ ∃ o, ops[i]? = some o ∧
    (info i = none → GivesB P ops W o (vals i) a ∧ anyB P md ops W n L f al (listed.setIfInBounds i true) (a.put o.dst (vals i))) ∧
    (∀ t z, info i = some (t, z) → Lays P o t z ∧ ∀ g, W.heap.size ≤ g → al.Fresh g → anyB P md ops W n L f (al.put i g) (listed.setIfInBounds i true) (a.put o.dst (ptr g)))

/-- What is known of the blocks that were got. -/
def Facts (W : World) (al : Got) (w : World) : Prop := ∀ i g, al i = some g → W.heap.size ≤ g ∧ ∃ t z, info i = some (t, z) ∧ w.heap[g]? = some (.cells z t (0, 0))
theorem Facts.grow {al : Got} {w w' : World} (h : Facts info W al w) (hb : Below w.heap.size w w') : Facts info W al w' := fun i g hg => by
  obtain ⟨h1, t, z, h2, h3⟩ := h i g hg
  exact ⟨h1, t, z, h2, by rw [hb.block g (Array.getElem?_eq_some_iff.1 h3).1]; exact h3⟩

theorem wpAny_of_anyB {r : Nat} {L : Got → Array Bool → Act → Prop} {Q : Exit → Act → World → Prop}
    (hL : ∀ al listed a w, L al listed a → Below W.heap.size W w → Facts info W al w → wpAny P md ops Q r listed a w) :
    ∀ (f : Nat) (al : Got) (listed : Array Bool) (a : Act) (w : World), Below W.heap.size W w → Facts info W al w → anyB info vals P md ops W n L f al listed a → wpAny P md ops Q (f + r) listed a w
  | 0, al, listed, a, w, hS, hF, h => by rw [Nat.zero_add]; exact hL _ _ _ _ h hS hF
  | f + 1, al, listed, a, w, hS, hF, h => by
    rw [show f + 1 + r = (f + r) + 1 by omega]
    refine ⟨fun h0 => absurd h0 h.1, fun i hi => ?_⟩
    obtain ⟨_, o, ho, hd, hA⟩ := h.2 i hi
    cases hinf : info i with
    | none =>
      obtain ⟨hg, hn⟩ := hd hinf
      exact hg.wpOp ho hS fun w' hb => wpAny_of_anyB hL f al _ _ w' (hS.trans (hb.mono hS.size)) (hF.grow info hb) hn
    | some tz =>
      obtain ⟨t, z⟩ := tz
      obtain ⟨⟨hgd, hrun⟩, hn⟩ := hA t z hinf
      have hfresh : al.Fresh w.heap.size := fun j hj => by
        obtain ⟨_, t', z', _, h3⟩ := hF j _ hj
        have := (Array.getElem?_eq_some_iff.1 h3).1
        omega
      unfold Go.wpOp
      simp only [ho, wanted_none hgd, if_true, Oper.wp, hrun a w, Oper.upon]
      refine .inl (wpAny_of_anyB hL f _ _ _ _ (hS.alloc hS.size _) ?_ (hn w.heap.size hS.size hfresh))
      intro j g hj
      unfold Got.put at hj
      split at hj
      · rename_i e; cases hj; subst e; exact ⟨hS.size, t, z, hinf, block_new w _⟩
      · exact Facts.grow info hF ((Below.refl _ _).alloc (Nat.le_refl _) _) j g hj

/-- What doing number i comes to. -/
def DoB (P : Program) (md : Region.Mode) (ops : Array Oper) (W : World) (n : Nat) (L : Got → Array Bool → Act → Prop) (i : Nat) (o : Oper) (f : Nat) (al : Got) (listed : Array Bool) (a : Act) : Prop :=
  (info i = none → GivesB P ops W o (vals i) a ∧ anyB info vals P md ops W n L f al (listed.setIfInBounds i true) (a.put o.dst (vals i))) ∧
  (∀ t z, info i = some (t, z) → Lays P o t z ∧ ∀ g, W.heap.size ≤ g → al.Fresh g → anyB info vals P md ops W n L f (al.put i g) (listed.setIfInBounds i true) (a.put o.dst (ptr g)))

theorem anyB_take {i : Nat} {oi : Oper} {L : Got → Array Bool → Act → Prop} (hi : ops[i]? = some oi) (hsel : ∀ (j : Nat) (o : Oper) cs b, ops[j]? = some o → o.op ≠ .select cs b) (hin : i < n)
    (hwait : ∀ listed, HeadInv md ops n listed → listed.getD i true = false → ∀ t, n ≤ t → t ∉ Region.ready md ops listed) (hdone : ∀ al listed a, L al listed a → ∀ j ∈ Region.ready md ops listed, n ≤ j) :
    ∀ (f : Nat) (al : Got) (listed : Array Bool) (a : Act), al.Bounded → (∀ k, listed.getD k true = false → al k = none) → HeadInv md ops n listed →
      (∀ j oj, ops[j]? = some oj → j ≠ i → listed.getD j true = false → (∀ e ∈ oj.after, Region.binds md e = true → e.on ≠ i) → oi.apart ops oj = true) →
      i ∈ Region.ready md ops listed → DoB info vals P md ops W n L i oi f al listed a → anyB info vals P md ops W n L (f + 1) al listed a := by
  intro f
  induction f with
  | zero =>
    intro al listed a hbd _ inv _ hr H
    refine ⟨fun h => (by rw [h] at hr; cases hr), fun j hj => ?_⟩
    have hjn : j < n := Nat.lt_of_not_le fun h => hwait listed inv (mem_ready.1 hr).1 j h hj
    by_cases hji : j = i
    · subst hji; exact ⟨hjn, oi, hi, H⟩
    · exfalso
      obtain ⟨N, hN⟩ := hbd
      cases hinf : info i with
      | none => have := hdone _ _ _ (H.1 hinf).2 j (ready_mono hj hji); omega
      | some tz =>
        have := hdone _ _ _ ((H.2 tz.1 tz.2 hinf).2 (max N W.heap.size) (by omega) (fun k hk => by have := hN k _ hk; omega)) j (ready_mono hj hji)
        omega
  | succ f ih =>
    intro al listed a hbd hal inv hfree hr H
    have hun := (mem_ready.1 hr).1
    refine ⟨fun h => (by rw [h] at hr; cases hr), fun j hj => ?_⟩
    have hjn : j < n := Nat.lt_of_not_le fun h => hwait listed inv hun j h hj
    by_cases hji : j = i
    · subst hji; exact ⟨hjn, oi, hi, H⟩
    · obtain ⟨hjun, oj, hoj, hall⟩ := mem_ready.1 hj
      have hnot : ∀ e ∈ oj.after, Region.binds md e = true → e.on ≠ i := fun e he hb heq => by
        have h1 := hall e he hb
        rw [heq, getD_both hun] at h1
        cases h1
      obtain ⟨p1, p2, p3⟩ := Oper.apart_spec (hfree j oj hoj hji hjun hnot)
      have hfree' : ∀ k ok, ops[k]? = some ok → k ≠ i → (listed.setIfInBounds j true).getD k true = false → (∀ e ∈ ok.after, Region.binds md e = true → e.on ≠ i) → oi.apart ops ok = true := fun k ok hk hki hkun hno => by
        refine hfree k ok hk hki ?_ hno
        by_cases hjk : j = k
        · subst hjk; exact hjun
        · rw [getD_set_ne true hjk] at hkun; exact hkun
      have hri := ready_mono hr (Ne.symm hji)
      have hal0 : ∀ k, (listed.setIfInBounds j true).getD k true = false → al k = none := fun k hk => hal k (by
        by_cases hjk : j = k
        · subst hjk; exact hjun
        · rw [getD_set_ne true hjk] at hk; exact hk)
      have hjs : j < listed.size := by rw [inv.size]; exact (Array.getElem?_eq_some_iff.1 hoj).1
      have hal1 : ∀ g k, (listed.setIfInBounds j true).getD k true = false → (al.put j g) k = none := fun g k hk => by
        by_cases hjk : k = j
        · subst hjk; simp [hjs] at hk
        · unfold Got.put; rw [if_neg hjk]; exact hal0 k hk
      have hset : (listed.setIfInBounds i true).setIfInBounds j true = (listed.setIfInBounds j true).setIfInBounds i true := Array.setIfInBounds_comm _ _ (Ne.symm hji)
      have hput : ∀ v u, (a.put oi.dst v).put oj.dst u = (a.put oj.dst u).put oi.dst v := fun v u => Act.put_comm a v u fun d hd => p2 d hd
      have back : ∀ v u, GivesB P ops W oj u (a.put oi.dst v) → GivesB P ops W oj u a := fun v u h => h.like (execOp_put oj (fun cs b => hsel j oj cs b hoj) a oi.dst v p1).symm (wanted_put oj a oi.dst v p1).symm
      have ahead : ∀ u, GivesB P ops W oi (vals i) a → GivesB P ops W oi (vals i) (a.put oj.dst u) := fun u h => h.like (execOp_put oi (fun cs b => hsel i oi cs b hi) a oj.dst u p3) (wanted_put oi a oj.dst u p3)
      have same : ∀ {o' : Oper}, ops[j]? = some o' → o' = oj := fun h => Option.some.inj (h.symm.trans hoj)
      refine ⟨hjn, oj, hoj, fun hnj => ?_, fun t z hsj => ?_⟩
      · cases hinf : info i with
        | none =>
          obtain ⟨hgi, Hn⟩ := H.1 hinf
          obtain ⟨_, o', ho', hd, _⟩ := Hn.2 j (ready_mono hj hji)
          obtain rfl := same ho'
          obtain ⟨hgj, hn⟩ := hd hnj
          refine ⟨back _ _ hgj, ih al _ _ hbd hal0 (inv.set hj hjn) hfree' hri ⟨fun _ => ⟨ahead _ hgi, ?_⟩, fun t z h => by rw [hinf] at h; cases h⟩⟩
          rw [← hset, ← hput]; exact hn
        | some tz =>
          obtain ⟨hl, Hn⟩ := H.2 tz.1 tz.2 hinf
          obtain ⟨N, hN⟩ := hbd
          obtain ⟨_, o0, ho0, hd0, _⟩ := (Hn (max N W.heap.size) (by omega) (fun k hk => by have := hN k _ hk; omega)).2 j (ready_mono hj hji)
          obtain rfl := same ho0
          refine ⟨back _ _ (hd0 hnj).1, ih al _ _ ⟨N, hN⟩ hal0 (inv.set hj hjn) hfree' hri ⟨fun h => (by rw [hinf] at h; cases h), fun t z h => ?_⟩⟩
          obtain rfl : tz = (t, z) := Option.some.inj (hinf.symm.trans h)
          refine ⟨hl, fun g hg hfr => ?_⟩
          obtain ⟨_, o', ho', hd, _⟩ := (Hn g hg hfr).2 j (ready_mono hj hji)
          obtain rfl := same ho'
          rw [← hset, ← hput]; exact (hd hnj).2
      · cases hinf : info i with
        | none =>
          obtain ⟨hgi, Hn⟩ := H.1 hinf
          obtain ⟨_, o', ho', _, hA⟩ := Hn.2 j (ready_mono hj hji)
          obtain rfl := same ho'
          obtain ⟨hl, hn⟩ := hA t z hsj
          refine ⟨hl, fun g hg hfr => ih (al.put j g) _ _ (hbd.put j g) (hal1 g) (inv.set hj hjn) hfree' hri ⟨fun _ => ⟨ahead _ hgi, ?_⟩, fun t z h => by rw [hinf] at h; cases h⟩⟩
          rw [← hset, ← hput]; exact hn g hg hfr
        | some tz =>
          obtain ⟨hl, Hn⟩ := H.2 tz.1 tz.2 hinf
          obtain ⟨N, hN⟩ := hbd
          obtain ⟨_, o0, ho0, _, hA0⟩ := (Hn (max N W.heap.size) (by omega) (fun k hk => by have := hN k _ hk; omega)).2 j (ready_mono hj hji)
          obtain rfl := same ho0
          refine ⟨(hA0 t z hsj).1, fun g hg hfr => ih (al.put j g) _ _ (Got.Bounded.put ⟨N, hN⟩ j g) (hal1 g) (inv.set hj hjn) hfree' hri ⟨fun h => (by rw [hinf] at h; cases h), fun t' z' h => ?_⟩⟩
          obtain rfl : tz = (t', z') := Option.some.inj (hinf.symm.trans h)
          refine ⟨hl, fun g' hg' hfr' => ?_⟩
          have hfr1 : al.Fresh g' := fun k hk => by
            by_cases hkj : k = j
            · subst hkj; rw [hal k hjun] at hk; cases hk
            · have := hfr' k; unfold Got.put at this; rw [if_neg hkj] at this; exact this hk
          have hne : g ≠ g' := fun e => by
            have := hfr' j; unfold Got.put at this; rw [if_pos rfl] at this; exact this (by rw [e])
          have hfr2 : (al.put i g').Fresh g := fun k hk => by
            unfold Got.put at hk
            split at hk
            · exact hne (Option.some.inj hk).symm
            · exact hfr k hk
          obtain ⟨_, o', ho', _, hA⟩ := (Hn g' hg' hfr1).2 j (ready_mono hj hji)
          obtain rfl := same ho'
          rw [← hset, ← hput, ← Got.put_comm al (Ne.symm hji) g' g]
          exact (hA t z hsj).2 g hg hfr2
end

section
variable {P : Program} {ops : Array Oper} {md : Region.Mode} {W : World}

/-- The operations that hold, in the order of the text. -/
def wpHoldB (P : Program) (ops : Array Oper) (W : World) (Q : Act → Prop) : List Oper → Act → Prop
  | [], a => Q a
  | o :: rest, a => ∃ v, GivesB P ops W o v a ∧ wpHoldB P ops W Q rest (a.put o.dst v)
theorem wpHoldB_nil {Q : Act → Prop} {a : Act} (h : Q a) : wpHoldB P ops W Q [] a := h
theorem wpHoldB_val {Q : Act → Prop} {a a' : Act} {o : Oper} {rest : List Oper} {v : Value} (hw : Region.wanted o (yielded ops a.tmps) = true)
    (h : ∀ (K : Value → Act → World → Prop) (os : Array Obj) (d : Nat), (∀ w', Below (W.plus os d).heap.size (W.plus os d) w' → K v a' w') → comesV o a K ((execOp a.eval o).run P (W.plus os d)))
    (next : wpHoldB P ops W Q rest a') : wpHoldB P ops W Q (o :: rest) a := by
  have hput : a.put o.dst v = a' := by
    have := h (fun u b _ => u = v ∧ b = a') #[] 0 fun _ _ => ⟨rfl, rfl⟩
    revert this
    generalize (execOp a.eval o).run P (W.plus #[] 0) = r
    cases r with
    | halt x w => exact fun h => False.elim h
    | ok n w =>
      cases n <;> try exact fun h => False.elim h
      case value u => rintro ⟨rfl, hb⟩; exact hb
      case skip => rintro ⟨rfl, hb⟩; exact hb
  refine ⟨v, .inl ⟨hw, fun w hb => ?_⟩, hput ▸ next⟩
  obtain ⟨os, d, rfl⟩ := below_plus hb
  have := h (fun u _ w' => u = v ∧ Below (W.plus os d).heap.size (W.plus os d) w') os d fun w' hw' => ⟨rfl, hw'⟩
  revert this
  generalize (execOp a.eval o).run P (W.plus os d) = r
  cases r with
  | halt x w => exact fun h => False.elim h
  | ok n w => cases n <;> first | exact fun h => False.elim h | exact fun h => h
theorem wpHoldB_call {Q : Act → Prop} {a : Act} {o : Oper} {rest : List Oper} {v : Value} (hw : Region.wanted o (yielded ops a.tmps) = true)
    (h : ∀ (K : Value → World → Prop) (os : Array Obj) (d : Nat), (∀ w', Below (W.plus os d).heap.size (W.plus os d) w' → K v w') → comesC P K ((execOp a.eval o).run P (W.plus os d)))
    (next : wpHoldB P ops W Q rest (a.put o.dst v)) : wpHoldB P ops W Q (o :: rest) a := by
  refine ⟨v, .inl ⟨hw, fun w hb => ?_⟩, next⟩
  obtain ⟨os, d, rfl⟩ := below_plus hb
  have := h (fun u w' => u = v ∧ Below (W.plus os d).heap.size (W.plus os d) w') os d fun w' hw' => ⟨rfl, hw'⟩
  revert this
  generalize (execOp a.eval o).run P (W.plus os d) = r
  cases r with
  | halt x w => exact fun h => False.elim h
  | ok n w => cases n <;> first | exact fun h => False.elim h | exact fun h => h

/-- New variables, in the order of the text: each some block of its own. -/
def wpLays (P : Program) (W : World) (Q : List Nat → Act → Prop) : List Oper → List (TypeId × Array Value) → List Nat → Act → Prop
  | [], [], gs, a => Q gs a
  | o :: l, (t, z) :: zs, gs, a => Lays P o t z ∧ ∀ g, W.heap.size ≤ g → g ∉ gs → wpLays P W Q l zs (gs ++ [g]) (a.put o.dst (ptr g))
  | _, _, _, _ => False

def tailAllB (md : Region.Mode) (ops : Array Oper) (N : Nat) : Bool :=
  (List.range ops.size).all fun t => decide (t < N) || ((List.range N).all fun i => Region.waitsFor md ops t i || (List.range N).any fun j => decide (i < j) && Region.waitsFor md ops j i) || (List.range ops.size).any fun u => decide (N ≤ u) && Region.waitsFor md ops t u
def laysB (md : Region.Mode) (ops : Array Oper) (N : Nat) : Bool :=
  Region.noSelect ops && decide (N ≤ ops.size) && tailAllB md ops N && Region.lexHead md ops (ops.size - N) N 0 (Array.replicate ops.size false)

theorem tail_waits3 {N : Nat} (ht : tailAllB md ops N = true) {i : Nat} (hi : i < N) (listed : Array Bool) (inv : HeadInv md ops N listed) (hun : listed.getD i true = false) :
    ∀ t, N ≤ t → t ∉ Region.ready md ops listed := fun t hnt hr => by
  obtain ⟨_, ot, hot, hall⟩ := mem_ready.1 hr
  have htl : t < ops.size := (Array.getElem?_eq_some_iff.1 hot).1
  have h1 := List.all_eq_true.1 ht t (List.mem_range.2 htl)
  simp only [Bool.or_eq_true, decide_eq_true_eq] at h1
  have key : ∀ u, Region.waitsFor md ops t u = true → listed.getD u false = true := fun u hu => by
    obtain ⟨o', ho', e, he, hb, hon⟩ := Region.waitsFor_spec hu
    obtain rfl : o' = ot := Option.some.inj (ho'.symm.trans hot)
    have := hall e he hb
    rwa [hon] at this
  rcases h1 with (h1 | h1) | h1
  · omega
  · have up : ∀ (d k : Nat), N - k = d → k < N → listed.getD k true = false → False := by
      intro d
      induction d using Nat.strongRecOn with
      | _ d ih =>
        intro k hd hk hku
        have h2 := List.all_eq_true.1 h1 k (List.mem_range.2 hk)
        rcases Bool.or_eq_true_iff.1 h2 with h2 | h2
        · have := key k h2; rw [getD_both hku] at this; cases this
        · obtain ⟨j, hj, hj2⟩ := List.any_eq_true.1 h2
          simp only [Bool.and_eq_true, decide_eq_true_eq] at hj2
          have hjN := List.mem_range.1 hj
          obtain ⟨oj, hoj, e, he, hb, hon⟩ := Region.waitsFor_spec hj2.2
          have hjs : j < listed.size := by rw [inv.size]; exact (Array.getElem?_eq_some_iff.1 hoj).1
          cases hl : listed.getD j false with
          | true =>
            have := inv.closed j oj hoj hl e he hb
            rw [hon, getD_both hku] at this; cases this
          | false => exact ih (N - j) (by omega) j rfl hjN (getD_in hjs hl)
    exact up _ i rfl hi hun
  · obtain ⟨u, hu, hu2⟩ := List.any_eq_true.1 h1
    simp only [Bool.and_eq_true, decide_eq_true_eq] at hu2
    have h2 := key u hu2.2
    rw [getD_both (inv.tail u hu2.1 (List.mem_range.1 hu))] at h2; cases h2

def chainV (P : Program) (ops : Array Oper) (W : World) (Q : Act → Prop) : List Oper → List Value → Act → Prop
  | [], [], a => Q a
  | o :: l, v :: vs, a => GivesB P ops W o v a ∧ chainV P ops W Q l vs (a.put o.dst v)
  | _, _, _ => False
theorem vals_of {Q : Act → Prop} : ∀ (l : List Oper) (a : Act), wpHoldB P ops W Q l a → ∃ vs, vs.length = l.length ∧ chainV P ops W Q l vs a
  | [], _, h => ⟨[], rfl, h⟩
  | o :: l, a, ⟨v, hg, hn⟩ => by
    obtain ⟨vs, hl, hc⟩ := vals_of l _ hn
    exact ⟨v :: vs, by simp [hl], hg, hc⟩

section
variable {n N r : Nat} {zs : List (TypeId × Array Value)} {vs : List Value} {Qf : List Nat → Act → Prop}
/-- What is left when the head is done. -/
def Left (md : Region.Mode) (ops : Array Oper) (n N r : Nat) (zs : List (TypeId × Array Value)) (Qf : List Nat → Act → Prop) (al : Got) (listed : Array Bool) (a : Act) : Prop :=
  Region.seqB md ops r N listed = true ∧ ∃ gs : List Nat, gs.length = zs.length ∧ (∀ k, al (n + k) = gs[k]?) ∧ Qf gs a
def infoOf (n : Nat) (zs : List (TypeId × Array Value)) (i : Nat) : Option (TypeId × Array Value) := if i < n then none else zs[i - n]?

theorem anyB_lays (hsel : Region.noSelect ops = true) (ht : tailAllB md ops N = true) (hN : N ≤ ops.size) (hnm : n + zs.length = N) :
    ∀ (l : List Oper) (rest : List (TypeId × Array Value)) (gs : List Nat) (listed : Array Bool) (al : Got) (a : Act), gs.length + l.length = zs.length → (∀ j, j < l.length → l[j]? = ops[n + gs.length + j]?) →
    zs.drop gs.length = rest → (∀ k, al (n + k) = gs[k]?) → (∀ k, k < n → al k = none) → HeadInv md ops N listed → (∀ k, listed.getD k true = false → al k = none) → al.Bounded →
    Region.lexHead md ops r l.length (n + gs.length) listed = true → wpLays P W Qf l rest gs a →
    anyB (infoOf n zs) (fun i => vs.getD i undef) P md ops W N (Left md ops n N r zs Qf) l.length al listed a
  | [], rest, gs, listed, al, a, hlen, _, hd, hal, _, _, _, _, hB, h => by
    have hgl : gs.length = zs.length := by simpa using hlen
    have : rest = [] := by rw [← hd, hgl, List.drop_length]
    subst this
    refine ⟨?_, gs, hgl, hal, h⟩
    simp only [List.length_nil, Region.lexHead] at hB
    rwa [hgl, hnm] at hB
  | o :: l, rest, gs, listed, al, a, hlen, hl, hd, hal, hal0, inv, halL, hbd, hB, h => by
    have h0 : ops[n + gs.length]? = some o := by simpa using (hl 0 (by simp)).symm
    simp only [List.length_cons, Region.lexHead, Bool.and_eq_true] at hB
    obtain ⟨⟨hr, hf⟩, hB'⟩ := hB
    have hr' : n + gs.length ∈ Region.ready md ops listed := by simpa using hr
    simp only [List.length_cons] at hlen
    have hk : n + gs.length < N := by omega
    cases rest with
    | nil => exact False.elim h
    | cons tz rest =>
      obtain ⟨t, z⟩ := tz
      obtain ⟨hlay, hn⟩ := h
      have hz : zs[gs.length]? = some (t, z) := by
        have := congrArg (fun x => x[0]?) hd
        simpa using this
      have hinf : infoOf n zs (n + gs.length) = some (t, z) := by unfold infoOf; rw [if_neg (by omega), Nat.add_sub_cancel_left]; exact hz
      refine anyB_take _ _ h0 (Region.noSelect_spec hsel) hk (fun listed' inv' hun => tail_waits3 ht hk listed' inv' hun) (fun al' listed' a' hL => seqB_ready hL.1) l.length al listed a hbd halL inv (Region.free_spec h0 hf) hr'
        ⟨fun hno => (by rw [hinf] at hno; cases hno), fun t' z' he => ?_⟩
      obtain ⟨rfl, rfl⟩ : t = t' ∧ z = z' := by rw [hinf] at he; simpa using he
      refine ⟨hlay, fun g hg hfr => ?_⟩
      have hgs : g ∉ gs := fun hm => by
        obtain ⟨k, hk1⟩ := List.mem_iff_getElem?.1 hm
        exact hfr (n + k) (by rw [hal k, hk1])
      have hsz : n + gs.length < listed.size := by rw [inv.size]; omega
      have hlen1 : (gs ++ [g]).length = gs.length + 1 := by simp
      refine anyB_lays hsel ht hN hnm l rest (gs ++ [g]) _ (al.put (n + gs.length) g) _ (by rw [hlen1]; omega) (fun j hj => ?_) ?_ (fun k => ?_) (fun k hk' => ?_) (inv.set hr' hk) (fun k hk' => ?_) (hbd.put _ _) (by rw [hlen1]; exact hB') (hn g hg hgs)
      · rw [hlen1]; have := hl (j + 1) (by simp; omega); simpa [Nat.add_assoc, Nat.add_comm 1 j] using this
      · rw [hlen1, ← List.drop_drop, hd]; rfl
      · unfold Got.put
        by_cases hkk : k = gs.length
        · subst hkk; simp
        · rw [if_neg (by omega), hal k]
          rcases Nat.lt_or_ge k gs.length with hlt | hge
          · rw [List.getElem?_append_left hlt]
          · rw [List.getElem?_eq_none hge, List.getElem?_eq_none (by rw [hlen1]; omega)]
      · unfold Got.put; rw [if_neg (by omega)]; exact hal0 k hk'
      · unfold Got.put
        by_cases hkk : k = n + gs.length
        · subst hkk; simp [hsz] at hk'
        · rw [if_neg hkk]; exact halL k (by rw [getD_set_ne true (fun e => hkk e.symm)] at hk'; exact hk')

theorem anyB_head {A : List Oper} (hsel : Region.noSelect ops = true) (ht : tailAllB md ops N = true) (hN : N ≤ ops.size) (hnm : n + zs.length = N) (hA : A.length = zs.length) (hAl : ∀ j, j < A.length → A[j]? = ops[n + j]?) :
    ∀ (l : List Oper) (ws : List Value) (k : Nat) (listed : Array Bool) (a : Act), k + l.length = n → vs.length = n → vs.drop k = ws → (∀ j, j < l.length → l[j]? = ops[k + j]?) → HeadInv md ops N listed →
    Region.lexHead md ops r (l.length + A.length) k listed = true → chainV P ops W (fun a' => wpLays P W Qf A zs [] a') l ws a →
    anyB (infoOf n zs) (fun i => vs.getD i undef) P md ops W N (Left md ops n N r zs Qf) (l.length + A.length) (fun _ => none) listed a
  | [], ws, k, listed, a, hk, hvl, hd, _, inv, hB, h => by
    have hkn : k = n := by simpa using hk
    subst hkn
    have : ws = [] := by rw [← hd, ← hvl, List.drop_length]
    subst this
    simp only [List.length_nil, Nat.zero_add] at hB ⊢
    exact anyB_lays hsel ht hN hnm A zs [] listed _ a (by simpa using hA) (by simpa using hAl) rfl (fun _ => rfl) (fun _ _ => rfl) inv (fun _ _ => rfl) ⟨0, fun _ _ h => by cases h⟩ (by simpa using hB) h
  | o :: l, ws, k, listed, a, hk, hvl, hd, hl, inv, hB, h => by
    have h0 : ops[k]? = some o := by simpa using (hl 0 (by simp)).symm
    simp only [List.length_cons] at hk
    rw [List.length_cons, show l.length + 1 + A.length = (l.length + A.length) + 1 by omega] at hB ⊢
    simp only [Region.lexHead, Bool.and_eq_true] at hB
    obtain ⟨⟨hr, hf⟩, hB'⟩ := hB
    have hr' : k ∈ Region.ready md ops listed := by simpa using hr
    have hkN : k < N := by omega
    cases ws with
    | nil => exact False.elim h
    | cons v ws =>
      obtain ⟨hg, hn⟩ := h
      have hv : vs.getD k undef = v := by
        have := congrArg (fun x => x[0]?) hd
        simp only [List.getElem?_drop, Nat.add_zero, List.getElem?_cons_zero] at this
        simp [List.getD, this]
      have hinf : infoOf n zs k = none := by unfold infoOf; rw [if_pos (by omega)]
      refine anyB_take _ _ h0 (Region.noSelect_spec hsel) hkN (fun listed' inv' hun => tail_waits3 ht hkN listed' inv' hun) (fun al' listed' a' hL => seqB_ready hL.1) (l.length + A.length) _ listed a ⟨0, fun _ _ h => by cases h⟩ (fun _ _ => rfl) inv (Region.free_spec h0 hf) hr'
        ⟨fun _ => ?_, fun t z he => by rw [hinf] at he; cases he⟩
      simp only [hv]
      refine ⟨hg, anyB_head hsel ht hN hnm hA hAl l ws (k + 1) _ _ (by omega) hvl (by rw [← List.drop_drop, hd]; rfl) (fun j hj => by have := hl (j + 1) (by simp; omega); simpa [Nat.add_assoc, Nat.add_comm 1 j] using this) (inv.set hr' hkN) hB' hn⟩
end

/-- A REGION THAT DRAWS ITS ORDER: n operations hold; then new variables are laid; the rest waits for all of them, and comes in one order. -/
theorem wp_region_lays {id : Nat} {Q : Exit → Act → World → Prop} {a : Act} {w : World} {l : List Oper} (W : World) (n : Nat) (zs : List (TypeId × Array Value)) (hm : P.follows .mixedOrders = true) (hB : laysB .any l.toArray (n + zs.length) = true)
    (hW : Below W.heap.size W { w with drawn := w.drawn + 1 })
    (h : wpHoldB P l.toArray W (fun a' => wpLays P W (fun gs a'' => ∀ w', Below W.heap.size W w' → (∀ (k g : Nat) (t : TypeId) (z : Array Value), gs[k]? = some g → zs[k]? = some (t, z) → w'.heap[g]? = some (Obj.cells z t (0, 0))) → wpList P l.toArray Q (l.drop (n + zs.length)) a'' w')
      ((l.drop n).take zs.length) zs [] a') (l.take n) a) : (Code.region id l.toArray true).wp P Q a w := by
  simp only [laysB, Bool.and_eq_true, decide_eq_true_eq] at hB
  obtain ⟨⟨⟨hsel, hN⟩, ht⟩, hlex⟩ := hB
  have hsz : l.toArray.size = l.length := by simp
  have htl : (l.take n).length = n := by simp; omega
  have hAl : ((l.drop n).take zs.length).length = zs.length := by simp; omega
  have hdl : (l.drop (n + zs.length)).length = l.toArray.size - (n + zs.length) := by simp
  have inv0 : HeadInv .any l.toArray (n + zs.length) (Array.replicate l.toArray.size false) :=
    ⟨by simp, fun j oj _ hl => (by rw [getD_replicate_false] at hl; cases hl), fun t _ ht => getD_in (by simpa using ht) (getD_replicate_false _ _)⟩
  obtain ⟨vs, hvl, hc⟩ := vals_of _ _ h
  have H := anyB_head (md := .any) (r := l.toArray.size - (n + zs.length)) (vs := vs) hsel ht hN rfl hAl (fun j hj => by
    have hj' : j < zs.length := by rw [hAl] at hj; exact hj
    simp [hj', List.getElem?_drop]) (l.take n) vs 0 _ a (by simpa using htl) (by rw [hvl, htl]) rfl (fun j hj => by
    have hj' : j < n := by rw [htl] at hj; exact hj
    simp [hj']) inv0 (by rw [htl, hAl]; exact hlex) hc
  refine wp_region_any hm ?_
  have := wpAny_of_anyB (Q := Q) (infoOf n zs) (fun i => vs.getD i undef) (r := l.toArray.size - (n + zs.length)) (fun al listed a' w' hL hS' hF => by
    obtain ⟨hseq, gs, hgl, hal, hq⟩ := hL
    have := wpAny_of_seq (md := .any) (Q' := Q) (l.drop (n + zs.length)) (n + zs.length) listed a' w' (fun j => by simp [List.getElem?_drop]) (by rw [hdl]; exact hseq) (hq w' hS' fun k g t z hg hz => by
      obtain ⟨_, t', z', hi, hb⟩ := hF (n + k) g (by rw [hal k, hg])
      unfold infoOf at hi
      rw [if_neg (by omega), Nat.add_sub_cancel_left, hz] at hi
      obtain ⟨rfl, rfl⟩ : t = t' ∧ z = z' := by simpa using hi
      exact hb)
    rwa [hdl] at this) _ _ _ _ _ hW (fun i g hg => by cases hg) H
  rw [htl, hAl, show n + zs.length + (l.toArray.size - (n + zs.length)) = l.toArray.size by omega] at this
  exact this
end
end Go.Hold
