/-
  A region that draws its order: calls and reads give what they give, new variables are laid, and some plain operations may come as late as the stores: it is walked once, in an order that is named.
-/
import Derived.Test.YtbhgmefdimjlaaaAllocs
namespace Go.Hold
open Go Go.RowKit

section
variable {P : Program} {ops : Array Oper} {md : Region.Mode} {W : World} {Q : Exit → Act → World → Prop} {r : Nat}
variable (info : Nat → Option (TypeId × Array Value)) (vals : Nat → Value) (hd fl : Nat → Bool)

/-- All that may not come late is listed. -/
def Done (ops : Array Oper) (hd fl : Nat → Bool) (listed : Array Bool) : Prop := ∀ i, i < ops.size → hd i = true → fl i = false → listed.getD i false = true
structure PickInv (md : Region.Mode) (ops : Array Oper) (hd : Nat → Bool) (listed : Array Bool) : Prop where
  size : listed.size = ops.size
  closed : ∀ j oj, ops[j]? = some oj → listed.getD j false = true → ∀ e ∈ oj.after, Region.binds md e = true → listed.getD e.on false = true
  tail : ∀ t, hd t = false → t < ops.size → listed.getD t true = false
theorem PickInv.set {hd : Nat → Bool} {i : Nat} {listed : Array Bool} (inv : PickInv md ops hd listed) (hi : i ∈ Region.ready md ops listed) (hin : hd i = true) : PickInv md ops hd (listed.setIfInBounds i true) := by
  obtain ⟨_, oi, hoi, hall⟩ := mem_ready.1 hi
  refine ⟨by simp [inv.size], fun j oj hj hl e he hb => ?_, fun t ht ht' => by rw [getD_set_ne true (fun e => by subst e; rw [hin] at ht; cases ht)]; exact inv.tail t ht ht'⟩
  by_cases hij : i = j
  · subst hij
    have : oj = oi := Option.some.inj (hj.symm.trans hoi)
    subst this
    exact getD_set_true (hall e he hb)
  · rw [getD_set_ne false hij] at hl
    exact getD_set_true (inv.closed j oj hj hl e he hb)

/-- Whatever order is picked. -/
def anyP (P : Program) (md : Region.Mode) (ops : Array Oper) (W : World) (Q : Exit → Act → World → Prop) (r : Nat) : Nat → Got → Array Bool → Act → Prop
  | 0, al, listed, a => (∀ i ∈ Region.ready md ops listed, hd i = false) ∧ Done ops hd fl listed ∧ ∀ w, Below W.heap.size W w → Facts info W al w → wpAny P md ops Q r listed a w
  | f + 1, al, listed, a =>
    (∀ i ∈ Region.ready md ops listed, hd i = true → ∃ o, ops[i]? = some o ∧
      (info i = none → GivesB P ops W o (vals i) a ∧ anyP P md ops W Q r f al (listed.setIfInBounds i true) (a.put o.dst (vals i))) ∧
      (∀ t z, info i = some (t, z) → Lays P o t z ∧ ∀ g, W.heap.size ≤ g → al.Fresh g → anyP P md ops W Q r f (al.put i g) (listed.setIfInBounds i true) (a.put o.dst (ptr g)))) ∧
    (Done ops hd fl listed → ∀ w, Below W.heap.size W w → Facts info W al w → wpAny P md ops Q (f + 1 + r) listed a w) ∧
    (¬ Done ops hd fl listed → Region.ready md ops listed ≠ [] ∧ ∀ i ∈ Region.ready md ops listed, hd i = true)

theorem wpAny_of_anyP : ∀ (f : Nat) (al : Got) (listed : Array Bool) (a : Act) (w : World), Below W.heap.size W w → Facts info W al w → anyP info vals hd fl P md ops W Q r f al listed a → wpAny P md ops Q (f + r) listed a w
  | 0, al, listed, a, w, hS, hF, h => by rw [Nat.zero_add]; exact h.2.2 w hS hF
  | f + 1, al, listed, a, w, hS, hF, h => by
    by_cases hdn : Done ops hd fl listed
    · exact h.2.1 hdn w hS hF
    · rw [show f + 1 + r = (f + r) + 1 by omega]
      obtain ⟨hne, hall⟩ := h.2.2 hdn
      refine ⟨fun h0 => absurd h0 hne, fun i hi => ?_⟩
      obtain ⟨o, ho, hd', hA⟩ := h.1 i hi (hall i hi)
      cases hinf : info i with
      | none =>
        obtain ⟨hg, hn⟩ := hd' hinf
        exact hg.wpOp ho hS fun w' hb => wpAny_of_anyP f al _ _ w' (hS.trans (hb.mono hS.size)) (hF.grow info hb) hn
      | some tz =>
        obtain ⟨t, z⟩ := tz
        obtain ⟨⟨hgd, hrun⟩, hn⟩ := hA t z hinf
        have hfresh : al.Fresh w.heap.size := fun j hj => by
          obtain ⟨_, t', z', _, h3⟩ := hF j _ hj
          have := (Array.getElem?_eq_some_iff.1 h3).1
          omega
        unfold Go.wpOp
        simp only [ho, wanted_none hgd, if_true, Oper.wp, hrun a w, Oper.upon]
        refine .inl (wpAny_of_anyP f _ _ _ _ (hS.alloc hS.size _) ?_ (hn w.heap.size hS.size hfresh))
        intro j g hj
        unfold Got.put at hj
        split at hj
        · rename_i e; cases hj; subst e; exact ⟨hS.size, t, z, hinf, block_new w _⟩
        · exact Facts.grow info hF ((Below.refl _ _).alloc (Nat.le_refl _) _) j g hj

/-- What doing number i comes to. -/
def DoP (P : Program) (md : Region.Mode) (ops : Array Oper) (W : World) (Q : Exit → Act → World → Prop) (r : Nat) (i : Nat) (o : Oper) (f : Nat) (al : Got) (listed : Array Bool) (a : Act) : Prop :=
  (info i = none → GivesB P ops W o (vals i) a ∧ anyP info vals hd fl P md ops W Q r f al (listed.setIfInBounds i true) (a.put o.dst (vals i))) ∧
  (∀ t z, info i = some (t, z) → Lays P o t z ∧ ∀ g, W.heap.size ≤ g → al.Fresh g → anyP info vals hd fl P md ops W Q r f (al.put i g) (listed.setIfInBounds i true) (a.put o.dst (ptr g)))

theorem anyP_take {i : Nat} {oi : Oper} (hi : ops[i]? = some oi) (hsel : Region.noSelect ops = true) (hin : hd i = true)
    (hwait : ∀ listed, PickInv md ops hd listed → ¬ Done ops hd fl listed → ∀ t ∈ Region.ready md ops listed, hd t = true)
    (hQ : ∀ c a d v w, Q (.panic c) (Act.put a d v) w → Q (.panic c) a w) (hfl : fl i = true → info i = none) :
    ∀ (f : Nat) (al : Got) (listed : Array Bool) (a : Act), al.Bounded → (∀ k, listed.getD k true = false → al k = none) → PickInv md ops hd listed →
      (∀ j oj, ops[j]? = some oj → j ≠ i → listed.getD j true = false → (∀ e ∈ oj.after, Region.binds md e = true → e.on ≠ i) → oi.apart ops oj = true) →
      i ∈ Region.ready md ops listed → (fl i = true → Yields P ops oi (vals i) a) → DoP info vals hd fl P md ops W Q r i oi f al listed a → anyP info vals hd fl P md ops W Q r (f + 1) al listed a := by
  have hsel' := Region.noSelect_spec hsel
  -- what is done, and what late operations leave
  have late : ∀ (f : Nat) (al : Got) (listed : Array Bool) (a : Act), (∀ j oj, ops[j]? = some oj → j ≠ i → listed.getD j true = false → (∀ e ∈ oj.after, Region.binds md e = true → e.on ≠ i) → oi.apart ops oj = true) →
      i ∈ Region.ready md ops listed → (fl i = true → Yields P ops oi (vals i) a) → DoP info vals hd fl P md ops W Q r i oi f al listed a →
      Done ops hd fl listed → ∀ w, Below W.heap.size W w → Facts info W al w → wpAny P md ops Q (f + 1 + r) listed a w := by
    intro f al listed a hfree hr hy H hdn w hS hF
    have hun := (mem_ready.1 hr).1
    have hlt : i < ops.size := (Array.getElem?_eq_some_iff.1 hi).1
    cases hf : fl i with
    | false =>
      have := hdn i hlt hin hf
      rw [getD_both hun] at this; cases this
    | true =>
      obtain ⟨_, Hn⟩ := H.1 (hfl hf)
      rw [show f + 1 + r = (f + r) + 1 by omega]
      exact wpAny_first hi hsel' (fun c a w => hQ c a _ _ w) (f + r) listed a w hfree hr (hy hf) (wpAny_of_anyP info vals hd fl f al _ _ w hS hF Hn)
  intro f
  induction f with
  | zero =>
    intro al listed a hbd _ inv hfree hr hy H
    have hun := (mem_ready.1 hr).1
    refine ⟨fun j hj hjd => ?_, late 0 al listed a hfree hr hy H, fun hnd => ⟨fun h => (by rw [h] at hr; cases hr), hwait listed inv hnd⟩⟩
    by_cases hji : j = i
    · subst hji; exact ⟨oi, hi, H⟩
    · exfalso
      obtain ⟨N, hN⟩ := hbd
      cases hinf : info i with
      | none => have := (H.1 hinf).2.1 j (ready_mono hj hji); rw [hjd] at this; cases this
      | some tz =>
        have := ((H.2 tz.1 tz.2 hinf).2 (max N W.heap.size) (by omega) (fun k hk => by have := hN k _ hk; omega)).1 j (ready_mono hj hji)
        rw [hjd] at this; cases this
  | succ f ih =>
    intro al listed a hbd hal inv hfree hr hy H
    have hun := (mem_ready.1 hr).1
    refine ⟨fun j hj hjd => ?_, late (f + 1) al listed a hfree hr hy H, fun hnd => ⟨fun h => (by rw [h] at hr; cases hr), hwait listed inv hnd⟩⟩
    by_cases hji : j = i
    · subst hji; exact ⟨oi, hi, H⟩
    · obtain ⟨hjun, oj, hoj, hall⟩ := mem_ready.1 hj
      have hnot : ∀ e ∈ oj.after, Region.binds md e = true → e.on ≠ i := fun e he hb heq => by
        have h1 := hall e he hb
        rw [heq, getD_both hun] at h1
        cases h1
      obtain ⟨p1, p2, p3⟩ := Oper.apart_spec (hfree j oj hoj hji hjun hnot)
      have hfree' : ∀ k ok, ops[k]? = some ok → k ≠ i → (listed.setIfInBounds j true).getD k true = false → (∀ e ∈ ok.after, Region.binds md e = true → e.on ≠ i) → oi.apart ops ok = true := fun k ok hk hki hkun hno => by
        refine hfree k ok hk hki ?_ hno
        by_cases hjk : j = k
        · subst hjk; exact hjun
        · rw [getD_set_ne true hjk] at hkun; exact hkun
      have hri := ready_mono hr (Ne.symm hji)
      have hal0 : ∀ k, (listed.setIfInBounds j true).getD k true = false → al k = none := fun k hk => hal k (by
        by_cases hjk : j = k
        · subst hjk; exact hjun
        · rw [getD_set_ne true hjk] at hk; exact hk)
      have hjs : j < listed.size := by rw [inv.size]; exact (Array.getElem?_eq_some_iff.1 hoj).1
      have hal1 : ∀ g k, (listed.setIfInBounds j true).getD k true = false → (al.put j g) k = none := fun g k hk => by
        by_cases hjk : k = j
        · subst hjk; simp [hjs] at hk
        · unfold Got.put; rw [if_neg hjk]; exact hal0 k hk
      have hset : (listed.setIfInBounds i true).setIfInBounds j true = (listed.setIfInBounds j true).setIfInBounds i true := Array.setIfInBounds_comm _ _ (Ne.symm hji)
      have hput : ∀ v u, (a.put oi.dst v).put oj.dst u = (a.put oj.dst u).put oi.dst v := fun v u => Act.put_comm a v u fun d hd => p2 d hd
      have back : ∀ v u, GivesB P ops W oj u (a.put oi.dst v) → GivesB P ops W oj u a := fun v u h => h.like (execOp_put oj (fun cs b => hsel' j oj cs b hoj) a oi.dst v p1).symm (wanted_put oj a oi.dst v p1).symm
      have ahead : ∀ u, GivesB P ops W oi (vals i) a → GivesB P ops W oi (vals i) (a.put oj.dst u) := fun u h => h.like (execOp_put oi (fun cs b => hsel' i oi cs b hi) a oj.dst u p3) (wanted_put oi a oj.dst u p3)
      have yahead : ∀ u, fl i = true → Yields P ops oi (vals i) (a.put oj.dst u) := fun u hf => by
        have he := execOp_put oi (fun cs b => hsel' i oi cs b hi) a oj.dst u p3
        have hw := wanted_put oi a oj.dst u p3
        rcases hy hf with ⟨h1, h2⟩ | ⟨h1, h2⟩
        · exact .inl ⟨hw ▸ h1, fun w => by rw [he]; exact h2 w⟩
        · exact .inr ⟨hw ▸ h1, h2⟩
      have same : ∀ {o' : Oper}, ops[j]? = some o' → o' = oj := fun h => Option.some.inj (h.symm.trans hoj)
      refine ⟨oj, hoj, fun hnj => ?_, fun t z hsj => ?_⟩
      · cases hinf : info i with
        | none =>
          obtain ⟨hgi, Hn⟩ := H.1 hinf
          obtain ⟨o', ho', hd', _⟩ := Hn.1 j (ready_mono hj hji) hjd
          obtain rfl := same ho'
          obtain ⟨hgj, hn⟩ := hd' hnj
          refine ⟨back _ _ hgj, ih al _ _ hbd hal0 (inv.set hj hjd) hfree' hri (yahead _) ⟨fun _ => ⟨ahead _ hgi, ?_⟩, fun t z h => by rw [hinf] at h; cases h⟩⟩
          rw [← hset, ← hput]; exact hn
        | some tz =>
          obtain ⟨hl, Hn⟩ := H.2 tz.1 tz.2 hinf
          obtain ⟨N, hN⟩ := hbd
          obtain ⟨o0, ho0, hd0, _⟩ := (Hn (max N W.heap.size) (by omega) (fun k hk => by have := hN k _ hk; omega)).1 j (ready_mono hj hji) hjd
          obtain rfl := same ho0
          refine ⟨back _ _ (hd0 hnj).1, ih al _ _ ⟨N, hN⟩ hal0 (inv.set hj hjd) hfree' hri (yahead _) ⟨fun h => (by rw [hinf] at h; cases h), fun t z h => ?_⟩⟩
          obtain rfl : tz = (t, z) := Option.some.inj (hinf.symm.trans h)
          refine ⟨hl, fun g hg hfr => ?_⟩
          obtain ⟨o', ho', hd', _⟩ := (Hn g hg hfr).1 j (ready_mono hj hji) hjd
          obtain rfl := same ho'
          rw [← hset, ← hput]; exact (hd' hnj).2
      · cases hinf : info i with
        | none =>
          obtain ⟨hgi, Hn⟩ := H.1 hinf
          obtain ⟨o', ho', _, hA⟩ := Hn.1 j (ready_mono hj hji) hjd
          obtain rfl := same ho'
          obtain ⟨hl, hn⟩ := hA t z hsj
          refine ⟨hl, fun g hg hfr => ih (al.put j g) _ _ (hbd.put j g) (hal1 g) (inv.set hj hjd) hfree' hri (yahead _) ⟨fun _ => ⟨ahead _ hgi, ?_⟩, fun t z h => by rw [hinf] at h; cases h⟩⟩
          rw [← hset, ← hput]; exact hn g hg hfr
        | some tz =>
          obtain ⟨hl, Hn⟩ := H.2 tz.1 tz.2 hinf
          obtain ⟨N, hN⟩ := hbd
          obtain ⟨o0, ho0, _, hA0⟩ := (Hn (max N W.heap.size) (by omega) (fun k hk => by have := hN k _ hk; omega)).1 j (ready_mono hj hji) hjd
          obtain rfl := same ho0
          refine ⟨(hA0 t z hsj).1, fun g hg hfr => ih (al.put j g) _ _ (Got.Bounded.put ⟨N, hN⟩ j g) (hal1 g) (inv.set hj hjd) hfree' hri (yahead _) ⟨fun h => (by rw [hinf] at h; cases h), fun t' z' h => ?_⟩⟩
          obtain rfl : tz = (t', z') := Option.some.inj (hinf.symm.trans h)
          refine ⟨hl, fun g' hg' hfr' => ?_⟩
          have hfr1 : al.Fresh g' := fun k hk => by
            by_cases hkj : k = j
            · subst hkj; rw [hal k hjun] at hk; cases hk
            · have := hfr' k; unfold Got.put at this; rw [if_neg hkj] at this; exact this hk
          have hne : g ≠ g' := fun e => by
            have := hfr' j; unfold Got.put at this; rw [if_pos rfl] at this; exact this (by rw [e])
          have hfr2 : (al.put i g').Fresh g := fun k hk => by
            unfold Got.put at hk
            split at hk
            · exact hne (Option.some.inj hk).symm
            · exact hfr k hk
          obtain ⟨o', ho', _, hA⟩ := (Hn g' hg' hfr1).1 j (ready_mono hj hji) hjd
          obtain rfl := same ho'
          rw [← hset, ← hput, ← Got.put_comm al (Ne.symm hji) g' g]
          exact (hA t z hsj).2 g hg hfr2
end

section
variable {P : Program} {ops : Array Oper} {md : Region.Mode} {W : World} {Q : Exit → Act → World → Prop}

/-- The operations of some numbers. -/
def pick (l : List Oper) : List Nat → List Oper
  | [] => []
  | i :: is => match l[i]? with | some o => o :: pick l is | none => pick l is
/-- Operations that hold, in a named order; those that may come late hang on no world. -/
def wpHoldF (P : Program) (ops : Array Oper) (W : World) (Q : Act → Prop) : List Oper → List Bool → Act → Prop
  | [], _, a => Q a
  | o :: rest, b :: bs, a => ∃ v, GivesB P ops W o v a ∧ (b = true → Yields P ops o v a) ∧ wpHoldF P ops W Q rest bs (a.put o.dst v)
  | _ :: _, [], _ => False
theorem wpHoldF_nil {Q : Act → Prop} {a : Act} {bs : List Bool} (h : Q a) : wpHoldF P ops W Q [] bs a := h
theorem wpHoldF_val {Q : Act → Prop} {a a' : Act} {o : Oper} {rest : List Oper} {bs : List Bool} {v : Value} (hw : Region.wanted o (yielded ops a.tmps) = true)
    (h : ∀ (K : Value → Act → World → Prop) (os : Array Obj) (d : Nat), (∀ w', Below (W.plus os d).heap.size (W.plus os d) w' → K v a' w') → comesV o a K ((execOp a.eval o).run P (W.plus os d)))
    (next : wpHoldF P ops W Q rest bs a') : wpHoldF P ops W Q (o :: rest) (false :: bs) a := by
  obtain ⟨u, hg, hn⟩ := wpHoldB_val (Q := fun b => b = a') (rest := []) hw h rfl
  have hn' : a.put o.dst u = a' := hn
  exact ⟨u, hg, fun h => (by cases h), hn'.symm ▸ next⟩
theorem wpHoldF_call {Q : Act → Prop} {a : Act} {o : Oper} {rest : List Oper} {bs : List Bool} {v : Value} (hw : Region.wanted o (yielded ops a.tmps) = true)
    (h : ∀ (K : Value → World → Prop) (os : Array Obj) (d : Nat), (∀ w', Below (W.plus os d).heap.size (W.plus os d) w' → K v w') → comesC P K ((execOp a.eval o).run P (W.plus os d)))
    (next : wpHoldF P ops W Q rest bs (a.put o.dst v)) : wpHoldF P ops W Q (o :: rest) (false :: bs) a := by
  obtain ⟨u, hg, hn⟩ := wpHoldB_call (v := v) (Q := fun b => b = a.put o.dst v) (rest := []) hw h rfl
  have hn' : a.put o.dst u = a.put o.dst v := hn
  exact ⟨u, hg, fun h => (by cases h), hn'.symm ▸ next⟩
/-- An operation that hangs on no world. -/
theorem wpHoldF_late {Q : Act → Prop} {a : Act} {o : Oper} {rest : List Oper} {bs : List Bool} {v : Value} (hw : Region.wanted o (yielded ops a.tmps) = true) (h : ∀ w, (execOp a.eval o).run P w = .ok (.value v) w)
    (next : wpHoldF P ops W Q rest bs (a.put o.dst v)) : wpHoldF P ops W Q (o :: rest) (true :: bs) a :=
  ⟨v, .inl ⟨hw, fun w _ => by rw [h w]; exact ⟨rfl, Below.refl _ _⟩⟩, fun _ => .inl ⟨hw, h⟩, next⟩
theorem wpHoldF_lateNot {Q : Act → Prop} {a : Act} {o : Oper} {rest : List Oper} {bs : List Bool} (hw : Region.wanted o (yielded ops a.tmps) = false)
    (next : wpHoldF P ops W Q rest bs (a.put o.dst undef)) : wpHoldF P ops W Q (o :: rest) (true :: bs) a :=
  ⟨undef, .inr ⟨hw, rfl⟩, fun _ => .inr ⟨hw, rfl⟩, next⟩

def takeB (md : Region.Mode) (ops : Array Oper) (g n : Nat) : List Nat → Array Bool → Bool
  | [], listed => Region.seqB md ops g n listed
  | k :: ks, listed => (Region.ready md ops listed).contains k && Region.free md ops listed k && takeB md ops g n ks (listed.setIfInBounds k true)
def waitB (md : Region.Mode) (ops : Array Oper) (t : Nat) : List Nat → Bool
  | [] => true
  | i :: post => (Region.waitsFor md ops t i || post.any fun j => Region.waitsFor md ops j i) && waitB md ops t post
def late (hs : List Nat) (bs : List Bool) : List Nat := (hs.zip bs).filterMap fun p => if p.2 then some p.1 else none
def pickB (md : Region.Mode) (ops : Array Oper) (hs : List Nat) (bs : List Bool) (ha : List Nat) (n : Nat) : Bool :=
  Region.noSelect ops && decide (n ≤ ops.size) && decide (bs.length = hs.length) && decide (hs ++ ha).Nodup && ((List.range n).all fun i => (hs ++ ha).contains i) && ((hs ++ ha).all fun i => decide (i < n)) &&
  ((List.range ops.size).all fun t => decide (t < n) || ((List.range ops.size).any fun u => decide (n ≤ u) && Region.waitsFor md ops t u) || waitB md ops t ((hs ++ ha).filter fun i => !(late hs bs).contains i)) &&
  takeB md ops (ops.size - n) n (hs ++ ha) (Array.replicate ops.size false)

theorem waitB_listed {hd : Nat → Bool} {listed : Array Bool} (inv : PickInv md ops hd listed) {t : Nat} (hr : t ∈ Region.ready md ops listed) : ∀ l : List Nat, waitB md ops t l = true → ∀ i ∈ l, listed.getD i false = true
  | [], _, i, hi => by cases hi
  | k :: post, hB, i, hi => by
    simp only [waitB, Bool.and_eq_true, Bool.or_eq_true] at hB
    have ih := waitB_listed inv hr post hB.2
    rcases List.mem_cons.1 hi with rfl | hi
    · rcases hB.1 with h | h
      · obtain ⟨_, ot, hot, hall⟩ := mem_ready.1 hr
        obtain ⟨o', ho', e, he, hb, hon⟩ := Region.waitsFor_spec h
        obtain rfl : o' = ot := Option.some.inj (ho'.symm.trans hot)
        have := hall e he hb
        rwa [hon] at this
      · obtain ⟨j, hj, hw⟩ := List.any_eq_true.1 h
        obtain ⟨o', ho', e, he, hb, hon⟩ := Region.waitsFor_spec hw
        have := inv.closed j o' ho' (ih j hj) e he hb
        rwa [hon] at this
    · exact ih i hi

/-- A list's values, by number. -/
def look : List Nat → List Value → Nat → Value
  | k :: ks, v :: vs, i => if i = k then v else look ks vs i
  | _, _, _ => undef
def lookz : List Nat → List (TypeId × Array Value) → Nat → Option (TypeId × Array Value)
  | k :: ks, z :: zs, i => if i = k then some z else lookz ks zs i
  | _, _, _ => none
theorem look_at : ∀ (ks : List Nat) (vs : List Value) (j i : Nat) (v : Value), ks.Nodup → ks[j]? = some i → vs[j]? = some v → look ks vs i = v
  | [], _, j, i, v, _, h, _ => by simp at h
  | k :: ks, [], j, i, v, _, _, h => by simp at h
  | k :: ks, u :: vs, 0, i, v, _, h1, h2 => by
    simp only [List.getElem?_cons_zero, Option.some.injEq] at h1 h2
    subst h1; subst h2; simp [look]
  | k :: ks, u :: vs, j + 1, i, v, hn, h1, h2 => by
    simp only [List.getElem?_cons_succ] at h1 h2
    have hne : i ≠ k := fun e => by
      subst e
      exact (List.nodup_cons.1 hn).1 (List.mem_of_getElem? h1)
    simp only [look, if_neg hne]
    exact look_at ks vs j i v (List.nodup_cons.1 hn).2 h1 h2
theorem lookz_at : ∀ (ks : List Nat) (vs : List (TypeId × Array Value)) (j i : Nat) (v : TypeId × Array Value), ks.Nodup → ks[j]? = some i → vs[j]? = some v → lookz ks vs i = some v
  | [], _, j, i, v, _, h, _ => by simp at h
  | k :: ks, [], j, i, v, _, _, h => by simp at h
  | k :: ks, u :: vs, 0, i, v, _, h1, h2 => by
    simp only [List.getElem?_cons_zero, Option.some.injEq] at h1 h2
    subst h1; subst h2; simp [lookz]
  | k :: ks, u :: vs, j + 1, i, v, hn, h1, h2 => by
    simp only [List.getElem?_cons_succ] at h1 h2
    have hne : i ≠ k := fun e => by
      subst e
      exact (List.nodup_cons.1 hn).1 (List.mem_of_getElem? h1)
    simp only [lookz, if_neg hne]
    exact lookz_at ks vs j i v (List.nodup_cons.1 hn).2 h1 h2
theorem lookz_none : ∀ (ks : List Nat) (vs : List (TypeId × Array Value)) (i : Nat), i ∉ ks → lookz ks vs i = none
  | [], [], i, _ => rfl
  | [], _ :: _, i, _ => rfl
  | k :: ks, [], i, _ => rfl
  | k :: ks, u :: vs, i, h => by
    simp only [List.mem_cons, not_or] at h
    simp only [lookz, if_neg h.1]
    exact lookz_none ks vs i h.2

theorem pick_eq (l : List Oper) : ∀ is : List Nat, (∀ i ∈ is, i < l.length) → (pick l is).length = is.length ∧ ∀ (j i : Nat), is[j]? = some i → (pick l is)[j]? = l[i]?
  | [], _ => ⟨rfl, fun j i h => by simp at h⟩
  | k :: is, h => by
    have hk := h k (by simp)
    obtain ⟨ih1, ih2⟩ := pick_eq l is fun i hi => h i (by simp [hi])
    rw [pick, List.getElem?_eq_getElem hk]
    refine ⟨by simp [ih1], fun j i hj => ?_⟩
    cases j with
    | zero =>
      simp only [List.getElem?_cons_zero, Option.some.injEq] at hj
      subst hj
      simp [List.getElem?_eq_getElem hk]
    | succ j => simpa using ih2 j i (by simpa using hj)


section
variable {l : List Oper} {hs ha : List Nat} {bs : List Bool} {zs : List (TypeId × Array Value)} {vs : List Value} {n : Nat}

/-- What the caller of the law shows, when all new variables are laid. -/
def Qf (P : Program) (W : World) (l : List Oper) (zs : List (TypeId × Array Value)) (n : Nat) (Q : Exit → Act → World → Prop) (gs : List Nat) (a : Act) : Prop :=
  ∀ w', Below W.heap.size W w' → (∀ (k g : Nat) (t : TypeId) (z : Array Value), gs[k]? = some g → zs[k]? = some (t, z) → w'.heap[g]? = some (Obj.cells z t (0, 0))) → wpList P l.toArray Q (l.drop n) a w'

theorem anyP_news (hsel : Region.noSelect l.toArray = true) (hn : n ≤ l.length) (hnd : ha.Nodup) (hlt : ∀ i ∈ ha, i < n) (hzl : zs.length = ha.length)
    (hfla : ∀ i ∈ ha, (late hs bs).contains i = false)
    (hwait : ∀ listed, PickInv md l.toArray (fun i => decide (i < n)) listed → ¬ Done l.toArray (fun i => decide (i < n)) (fun i => (late hs bs).contains i) listed → ∀ t ∈ Region.ready md l.toArray listed, (fun i => decide (i < n)) t = true)
    (hQ : ∀ c a d v w, Q (.panic c) (Act.put a d v) w → Q (.panic c) a w) :
    ∀ (ks : List Nat) (rest : List (TypeId × Array Value)) (gs : List Nat) (listed : Array Bool) (al : Got) (a : Act), ha.drop gs.length = ks → zs.drop gs.length = rest → gs.length ≤ ha.length →
    (∀ k i : Nat, ha[k]? = some i → al i = gs[k]?) → (∀ i, i ∉ ha → al i = none) → PickInv md l.toArray (fun i => decide (i < n)) listed → (∀ k, listed.getD k true = false → al k = none) → al.Bounded →
    (∀ i, i < n → i ∉ ks → listed.getD i false = true) → takeB md l.toArray (l.toArray.size - n) n ks listed = true → wpLays P W (Qf P W l zs n Q) (pick l ks) rest gs a →
    anyP (lookz ha zs) (look hs vs) (fun i => decide (i < n)) (fun i => (late hs bs).contains i) P md l.toArray W Q (l.toArray.size - n) ks.length al listed a
  | [], rest, gs, listed, al, a, hd, hz, hgl, hal, hal0, inv, halL, hbd, hdn, hB, h => by
    have hge : gs.length = ha.length := by
      have := congrArg List.length hd
      simp at this; omega
    have hr : rest = [] := by rw [← hz, hge, ← hzl, List.drop_length]
    subst hr
    refine ⟨fun i hi => ?_, fun i hi hin hfi => hdn i (by simpa using hin) (by simp), fun w hS hF => ?_⟩
    · refine Bool.eq_false_iff.2 fun hlt' => ?_
      have h1 := (mem_ready.1 hi).1
      have h2 := hdn i (by simpa using hlt') (by simp)
      rw [getD_both h1] at h2; cases h2
    · have hq : Qf P W l zs n Q gs a := h
      have := wpAny_of_seq (md := md) (Q' := Q) (l.drop n) n listed a w (fun j => by simp [List.getElem?_drop]) (by rw [show (l.drop n).length = l.toArray.size - n by simp]; simpa [takeB] using hB) (hq w hS fun k g t z hg hz' => by
        have hk : k < ha.length := by have := (List.getElem?_eq_some_iff.1 hg).1; omega
        obtain ⟨_, t', z', hi', hb⟩ := hF ha[k] g (by rw [hal k _ (List.getElem?_eq_getElem hk), hg])
        rw [lookz_at ha zs k _ _ hnd (List.getElem?_eq_getElem hk) hz'] at hi'
        obtain ⟨rfl, rfl⟩ : t = t' ∧ z = z' := by simpa using hi'
        exact hb)
      rwa [show (l.drop n).length = l.toArray.size - n by simp] at this
  | k :: ks, rest, gs, listed, al, a, hd, hz, hgl, hal, hal0, inv, halL, hbd, hdn, hB, h => by
    have hkm : k ∈ ha := List.mem_of_mem_drop (i := gs.length) (by rw [hd]; simp)
    have hkn := hlt k hkm
    have hkl : k < l.length := by omega
    have h0 : l.toArray[k]? = some l[k] := by simp [hkl]
    simp only [takeB, Bool.and_eq_true] at hB
    obtain ⟨⟨hr, hf⟩, hB'⟩ := hB
    have hr' : k ∈ Region.ready md l.toArray listed := by simpa using hr
    have hgk : ha[gs.length]? = some k := by
      have := congrArg (fun x => x[0]?) hd
      simpa using this
    have hglt : gs.length < ha.length := (List.getElem?_eq_some_iff.1 hgk).1
    rw [pick, List.getElem?_eq_getElem hkl] at h
    cases rest with
    | nil => exact False.elim h
    | cons tz rest =>
      obtain ⟨t, z⟩ := tz
      obtain ⟨hlay, hn'⟩ := h
      have hzz : zs[gs.length]? = some (t, z) := by
        have := congrArg (fun x => x[0]?) hz
        simpa using this
      have hinf : lookz ha zs k = some (t, z) := lookz_at ha zs _ k _ hnd hgk hzz
      refine anyP_take _ _ _ _ h0 hsel (by simpa using hkn) hwait hQ (fun hfk => by rw [hfla k hkm] at hfk; cases hfk) ks.length al listed a hbd halL inv (Region.free_spec h0 hf) hr' (fun hfk => by rw [hfla k hkm] at hfk; cases hfk)
        ⟨fun hno => (by rw [hinf] at hno; cases hno), fun t' z' he => ?_⟩
      obtain ⟨rfl, rfl⟩ : t = t' ∧ z = z' := by rw [hinf] at he; simpa using he
      refine ⟨hlay, fun g hg hfr => ?_⟩
      have hgs : g ∉ gs := fun hm => by
        obtain ⟨j, hj⟩ := List.mem_iff_getElem?.1 hm
        have hjl := (List.getElem?_eq_some_iff.1 hj).1
        exact hfr ha[j] (by rw [hal j _ (List.getElem?_eq_getElem (by omega)), hj])
      have hsz : k < listed.size := by rw [inv.size]; simpa using hkl
      have hlen1 : (gs ++ [g]).length = gs.length + 1 := by simp
      refine anyP_news hsel hn hnd hlt hzl hfla hwait hQ ks rest (gs ++ [g]) _ (al.put k g) _ (by rw [hlen1, ← List.drop_drop, hd]; rfl) (by rw [hlen1, ← List.drop_drop, hz]; rfl) (by rw [hlen1]; omega) (fun j i hj => ?_) (fun i hi => ?_) (inv.set hr' (by simpa using hkn)) (fun j hj => ?_) (hbd.put _ _) (fun i hi hik => ?_) hB' (hn' g hg hgs)
      · unfold Got.put
        by_cases hik : i = k
        · subst hik
          have hjg : j = gs.length := (List.getElem?_inj (List.getElem?_eq_some_iff.1 hj).1 hnd).1 (hj.trans hgk.symm)
          subst hjg; simp
        · rw [if_neg hik, hal j i hj]
          have hjg : j ≠ gs.length := fun e => by subst e; rw [hgk] at hj; exact hik (Option.some.inj hj).symm
          rcases Nat.lt_or_ge j gs.length with hlt | hge
          · rw [List.getElem?_append_left hlt]
          · rw [List.getElem?_eq_none hge, List.getElem?_eq_none (by rw [hlen1]; omega)]
      · unfold Got.put
        have hik : i ≠ k := fun e => by subst e; exact hi hkm
        rw [if_neg hik]; exact hal0 i hi
      · unfold Got.put
        by_cases hjk : j = k
        · subst hjk; simp [hsz] at hj
        · rw [if_neg hjk]; exact halL j (by rw [getD_set_ne true (fun e => hjk e.symm)] at hj; exact hj)
      · by_cases hik' : i = k
        · subst hik'; simp [hsz]
        · exact getD_set_true (hdn i hi (by simp [hik', hik]))

def chainF (P : Program) (ops : Array Oper) (W : World) (Q : Act → Prop) : List Oper → List Bool → List Value → Act → Prop
  | [], _, [], a => Q a
  | o :: l, b :: bs, v :: vs, a => GivesB P ops W o v a ∧ (b = true → Yields P ops o v a) ∧ chainF P ops W Q l bs vs (a.put o.dst v)
  | _, _, _, _ => False
theorem valsF {Q : Act → Prop} : ∀ (l : List Oper) (bs : List Bool) (a : Act), wpHoldF P ops W Q l bs a → ∃ vs, vs.length = l.length ∧ chainF P ops W Q l bs vs a
  | [], _, _, h => ⟨[], rfl, h⟩
  | o :: l, b :: bs, a, ⟨v, hg, hy, hn⟩ => by
    obtain ⟨vs, hl, hc⟩ := valsF l bs _ hn
    exact ⟨v :: vs, by simp [hl], hg, hy, hc⟩
  | _ :: _, [], _, h => False.elim h

theorem late_spec : ∀ (hs : List Nat) (bs : List Bool) (j i : Nat) (b : Bool), hs.Nodup → bs.length = hs.length → hs[j]? = some i → bs[j]? = some b → (late hs bs).contains i = b
  | [], bs, j, i, b, _, _, h, _ => by simp at h
  | k :: hs, [], j, i, b, _, hl, _, _ => by simp at hl
  | k :: hs, c :: bs, 0, i, b, hn, hl, h1, h2 => by
    simp only [List.getElem?_cons_zero, Option.some.injEq] at h1 h2
    subst h1; subst h2
    cases c with
    | true => simp [late]
    | false =>
      have hk := (List.nodup_cons.1 hn).1
      rw [Bool.eq_false_iff]
      intro hc
      have hm : k ∈ late (k :: hs) (false :: bs) := by simpa using hc
      simp only [late, List.zip_cons_cons, List.filterMap_cons, Bool.false_eq_true, if_false] at hm
      obtain ⟨p, hp, hpe⟩ := List.mem_filterMap.1 hm
      split at hpe
      · cases hpe; exact hk (List.of_mem_zip hp).1
      · cases hpe
  | k :: hs, c :: bs, j + 1, i, b, hn, hl, h1, h2 => by
    simp only [List.getElem?_cons_succ] at h1 h2
    have hne : i ≠ k := fun e => by
      subst e
      exact (List.nodup_cons.1 hn).1 (List.mem_of_getElem? h1)
    have ih := late_spec hs bs j i b (List.nodup_cons.1 hn).2 (by simpa using hl) h1 h2
    cases c with
    | true => simp [late, hne]; simpa [late] using ih
    | false => simpa [late] using ih
theorem late_sub {hs : List Nat} {bs : List Bool} {i : Nat} (h : (late hs bs).contains i = true) : i ∈ hs := by
  have hm : i ∈ late hs bs := by simpa using h
  obtain ⟨p, hp, hpe⟩ := List.mem_filterMap.1 hm
  split at hpe
  · cases hpe; exact (List.of_mem_zip hp).1
  · cases hpe

theorem anyP_held (hsel : Region.noSelect l.toArray = true) (hn : n ≤ l.length) (hnd : (hs ++ ha).Nodup) (hlt : ∀ i ∈ hs ++ ha, i < n) (hzl : zs.length = ha.length) (hbl : bs.length = hs.length) (hvl : vs.length = hs.length)
    (hall : ∀ i, i < n → i ∈ hs ++ ha)
    (hwait : ∀ listed, PickInv md l.toArray (fun i => decide (i < n)) listed → ¬ Done l.toArray (fun i => decide (i < n)) (fun i => (late hs bs).contains i) listed → ∀ t ∈ Region.ready md l.toArray listed, (fun i => decide (i < n)) t = true)
    (hQ : ∀ c a d v w, Q (.panic c) (Act.put a d v) w → Q (.panic c) a w) :
    ∀ (ks : List Nat) (cs : List Bool) (ws : List Value) (p : Nat) (listed : Array Bool) (a : Act), hs.drop p = ks → bs.drop p = cs → vs.drop p = ws → p ≤ hs.length → PickInv md l.toArray (fun i => decide (i < n)) listed →
    (∀ i, i < n → i ∉ ks ++ ha → listed.getD i false = true) → takeB md l.toArray (l.toArray.size - n) n (ks ++ ha) listed = true →
    chainF P l.toArray W (fun a' => wpLays P W (Qf P W l zs n Q) (pick l ha) zs [] a') (pick l ks) cs ws a →
    anyP (lookz ha zs) (look hs vs) (fun i => decide (i < n)) (fun i => (late hs bs).contains i) P md l.toArray W Q (l.toArray.size - n) (ks ++ ha).length (fun _ => none) listed a
  | [], cs, ws, p, listed, a, hd, hb, hw, hp, inv, hdn, hB, h => by
    have hpe : p = hs.length := by
      have := congrArg List.length hd
      simp at this; omega
    have hwn : ws = [] := by rw [← hw, hpe, ← hvl, List.drop_length]
    have hcn : cs = [] := by rw [← hb, hpe, ← hbl, List.drop_length]
    subst hwn; subst hcn
    exact anyP_news hsel hn (List.nodup_append.1 hnd).2.1 (fun i hi => hlt i (by simp [hi])) hzl (fun i hi => by
      rw [Bool.eq_false_iff]
      intro hc
      exact (List.nodup_append.1 hnd).2.2 i (late_sub hc) i hi rfl) hwait hQ ha zs [] listed _ a rfl rfl (Nat.zero_le _) (fun k i _ => rfl) (fun _ _ => rfl) inv (fun _ _ => rfl) ⟨0, fun _ _ h => by cases h⟩ hdn hB h
  | k :: ks, cs, ws, p, listed, a, hd, hb, hw, hp, inv, hdn, hB, h => by
    have hpk : hs[p]? = some k := by
      have := congrArg (fun x => x[0]?) hd
      simpa using this
    have hkm : k ∈ hs := List.mem_of_getElem? hpk
    have hpl : p < hs.length := (List.getElem?_eq_some_iff.1 hpk).1
    have hkn := hlt k (by simp [hkm])
    have hkl : k < l.length := by omega
    have h0 : l.toArray[k]? = some l[k] := by simp [hkl]
    simp only [List.cons_append, takeB, Bool.and_eq_true] at hB
    obtain ⟨⟨hr, hf⟩, hB'⟩ := hB
    have hr' : k ∈ Region.ready md l.toArray listed := by simpa using hr
    rw [pick, List.getElem?_eq_getElem hkl] at h
    cases cs with
    | nil => simp [chainF] at h
    | cons c cs =>
    cases ws with
    | nil => simp [chainF] at h
    | cons v ws =>
      obtain ⟨hg, hy, hnx⟩ := h
      have hbp : bs[p]? = some c := by
        have := congrArg (fun x => x[0]?) hb
        simpa using this
      have hvp : vs[p]? = some v := by
        have := congrArg (fun x => x[0]?) hw
        simpa using this
      have hval : look hs vs k = v := look_at hs vs p k v (List.nodup_append.1 hnd).1 hpk hvp
      have hfl : (late hs bs).contains k = c := late_spec hs bs p k c (List.nodup_append.1 hnd).1 hbl hpk hbp
      have hinf : lookz ha zs k = none := lookz_none ha zs k fun hka => (List.nodup_append.1 hnd).2.2 k hkm k hka rfl
      have hsz : k < listed.size := by rw [inv.size]; simpa using hkl
      show anyP _ _ _ _ P md l.toArray W Q _ ((ks ++ ha).length + 1) _ listed a
      refine anyP_take _ _ _ _ h0 hsel (by simpa using hkn) hwait hQ (fun _ => hinf) (ks ++ ha).length _ listed a ⟨0, fun _ _ h => by cases h⟩ (fun _ _ => rfl) inv (Region.free_spec h0 hf) hr' (fun hfk => by rw [hval]; exact hy (hfl.symm.trans hfk))
        ⟨fun _ => ?_, fun t z he => by rw [hinf] at he; cases he⟩
      rw [hval]
      refine ⟨hg, anyP_held hsel hn hnd hlt hzl hbl hvl hall hwait hQ ks cs ws (p + 1) _ _ (by rw [← List.drop_drop, hd]; rfl) (by rw [← List.drop_drop, hb]; rfl) (by rw [← List.drop_drop, hw]; rfl) (by omega) (inv.set hr' (by simpa using hkn)) (fun i hi hik => ?_) hB' hnx⟩
      by_cases hik' : i = k
      · subst hik'; simp [hsz]
      · exact getD_set_true (hdn i hi (by simp only [List.cons_append, List.mem_cons, not_or]; exact ⟨hik', hik⟩))

/-- A REGION THAT DRAWS ITS ORDER: operations hold, in the order hs (those that bs marks hang on no world, and may come late); then the new variables ha; the rest, from n on, comes in one order. -/
theorem wp_region_pick {id : Nat} {a : Act} {w : World} (W : World) (hs : List Nat) (bs : List Bool) (ha : List Nat) (zs : List (TypeId × Array Value)) (n : Nat) (hm : P.follows .mixedOrders = true) (hzl : zs.length = ha.length) (hB : pickB .any l.toArray hs bs ha n = true)
    (hQ : ∀ c a d v w, Q (.panic c) (Act.put a d v) w → Q (.panic c) a w) (hW : Below W.heap.size W { w with drawn := w.drawn + 1 })
    (h : wpHoldF P l.toArray W (fun a' => wpLays P W (fun gs a'' => ∀ w', Below W.heap.size W w' → (∀ (k g : Nat) (t : TypeId) (z : Array Value), gs[k]? = some g → zs[k]? = some (t, z) → w'.heap[g]? = some (Obj.cells z t (0, 0))) → wpList P l.toArray Q (l.drop n) a'' w') (pick l ha) zs [] a') (pick l hs) bs a) :
    (Code.region id l.toArray true).wp P Q a w := by
  simp only [pickB, Bool.and_eq_true, decide_eq_true_eq] at hB
  obtain ⟨⟨⟨⟨⟨⟨⟨hsel, hn⟩, hbl⟩, hnd⟩, hall⟩, hlt⟩, hw⟩, htk⟩ := hB
  have hn' : n ≤ l.length := by simpa using hn
  have hlt' : ∀ i ∈ hs ++ ha, i < n := fun i hi => by simpa using List.all_eq_true.1 hlt i hi
  have hall' : ∀ i, i < n → i ∈ hs ++ ha := fun i hi => by simpa using List.all_eq_true.1 hall i (List.mem_range.2 hi)
  have hwait : ∀ listed, PickInv .any l.toArray (fun i => decide (i < n)) listed → ¬ Done l.toArray (fun i => decide (i < n)) (fun i => (late hs bs).contains i) listed → ∀ t ∈ Region.ready .any l.toArray listed, (fun i => decide (i < n)) t = true := by
    intro listed inv hnd' t ht
    by_cases htn : t < n
    · simpa using htn
    · exfalso
      obtain ⟨_, ot, hot, hdeps⟩ := mem_ready.1 ht
      have hts : t < l.toArray.size := (Array.getElem?_eq_some_iff.1 hot).1
      have h1 := List.all_eq_true.1 hw t (List.mem_range.2 hts)
      simp only [Bool.or_eq_true, decide_eq_true_eq] at h1
      rcases h1 with (h1 | h1) | h1
      · exact htn h1
      · obtain ⟨u, hu, hu2⟩ := List.any_eq_true.1 h1
        simp only [Bool.and_eq_true, decide_eq_true_eq] at hu2
        obtain ⟨o', ho', e, he, hb, hon⟩ := Region.waitsFor_spec hu2.2
        obtain rfl : o' = ot := Option.some.inj (ho'.symm.trans hot)
        have h3 := hdeps e he hb
        rw [hon, getD_both (inv.tail u (by simpa using hu2.1) (List.mem_range.1 hu))] at h3
        cases h3
      · apply hnd'
        intro i hi hin hfi
        refine waitB_listed inv ht _ h1 i ?_
        rw [List.mem_filter]
        refine ⟨hall' i (by simpa using hin), ?_⟩
        have hfi' : (late hs bs).contains i = false := hfi
        rw [hfi']; rfl
  obtain ⟨vs, hvl, hc⟩ := valsF _ _ _ h
  have hpl := (pick_eq l hs fun i hi => Nat.lt_of_lt_of_le (hlt' i (by simp [hi])) hn').1
  have inv0 : PickInv .any l.toArray (fun i => decide (i < n)) (Array.replicate l.toArray.size false) :=
    ⟨by simp, fun j oj _ hl => (by rw [getD_replicate_false] at hl; cases hl), fun t _ ht => getD_in (by simpa using ht) (getD_replicate_false _ _)⟩
  have H := anyP_held (md := .any) (vs := vs) hsel hn' hnd hlt' hzl hbl (by rw [hvl, hpl]) hall' hwait hQ hs bs vs 0 _ a rfl rfl rfl (Nat.zero_le _) inv0 (fun i hi hni => absurd (hall' i hi) hni) htk hc
  have hlen : (hs ++ ha).length = n := by
    have h1 : (hs ++ ha).Perm (List.range n) := by
      rw [List.perm_iff_count]
      intro x
      rw [List.Nodup.count hnd, List.Nodup.count List.nodup_range]
      by_cases hx : x < n
      · simp [hx, hall' x hx]
      · have : x ∉ hs ++ ha := fun h => hx (hlt' x h)
        simp [hx, this]
    simpa using h1.length_eq
  refine wp_region_any hm ?_
  have := wpAny_of_anyP (lookz ha zs) (look hs vs) (fun i => decide (i < n)) (fun i => (late hs bs).contains i) _ _ _ _ _ hW (fun i g hg => by cases hg) H
  rw [hlen, show n + (l.toArray.size - n) = l.toArray.size by omega] at this
  exact this
end
end
end Go.Hold
