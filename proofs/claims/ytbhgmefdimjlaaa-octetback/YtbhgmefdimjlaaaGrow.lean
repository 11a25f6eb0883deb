/-
  A region that draws its order, whose operations make new memory alone: each gives a value of which something is known that stays true while the memory grows. It is walked once, whatever the order. Nothing is assumed.
-/
import Derived.Test.YtbhgmefdimjlaaaPickT
import Derived.Test.YtbhgmefdimjlaaaFast
namespace Go.Hold
open Go Go.RowKit
section
variable {P : Program} {md : Region.Mode} {W : World} {Q : Exit → Act → World → Prop} {ops : Array Oper} {n : Nat} {R : Nat → Value → World → Prop} {G : World → World → Prop}

def dstOf (ops : Array Oper) (i : Nat) : Option Tmp := (ops[i]?).bind (·.dst)
def putAll (ops : Array Oper) (vals : Nat → Value) : List Nat → Act → Act
  | [], a => a
  | i :: is, a => putAll ops vals is (a.put (dstOf ops i) (vals i))
def looksB (ops : Array Oper) (o : Oper) (j : Nat) : Bool := match dstOf ops j with
  | some d => (o.looksAt ops).contains d
  | none => false
def depsOf (ops : Array Oper) (n : Nat) (o : Oper) : List Nat := (List.range n).filter (looksB ops o)
def boundB (md : Region.Mode) (o : Oper) (j : Nat) : Bool := o.after.toList.any fun e => Region.binds md e && Nat.beq e.on j
def doneA (n s : Nat) : Array Bool := (Array.range s).map fun i => Nat.blt i n
def apartD (x y : Option Tmp) : Bool := match x with
  | some d => y != some d
  | none => true
def growB (md : Region.Mode) (ops : Array Oper) (n : Nat) (ts : List Nat) : Bool :=
  Region.noSelect ops && decide (n + ts.length = ops.size) && (ts.all fun i => decide (i < ops.size)) &&
  ((List.range n).all fun i => match ops[i]? with
    | some o => edgesOk md i o && ((List.range n).all fun j => !looksB ops o j || boundB md o j)
    | none => false) &&
  ((List.range n).all fun i => (List.range n).all fun j => Nat.beq i j || apartD (dstOf ops i) (dstOf ops j)) &&
  ((List.range ops.size).all fun t => Nat.blt t n || match ops[t]? with
    | some o => (List.range n).all fun j => boundB md o j
    | none => false) &&
  seqT md ops ts (doneA n ops.size)

theorem putAll_append (vals : Nat → Value) : ∀ (x y : List Nat) (a : Act), putAll ops vals (x ++ y) a = putAll ops vals y (putAll ops vals x a)
  | [], _, _ => rfl
  | i :: x, y, a => by simp only [List.cons_append, putAll]; exact putAll_append vals x y _
theorem putAll_congr {v u : Nat → Value} : ∀ (x : List Nat) (a : Act), (∀ i ∈ x, v i = u i) → putAll ops v x a = putAll ops u x a
  | [], _, _ => rfl
  | i :: x, a, h => by simp only [putAll]; rw [h i (by simp)]; exact putAll_congr x _ fun j hj => h j (by simp [hj])
theorem putAll_perm (vals : Nat → Value) (hd : ∀ i j, i < n → j < n → i ≠ j → ∀ d, dstOf ops i = some d → dstOf ops j ≠ some d) {x y : List Nat} (h : x.Perm y) : (∀ i ∈ x, i < n) → ∀ a, putAll ops vals x a = putAll ops vals y a := by
  induction h with
  | nil => intro _ a; rfl
  | cons i _ ih => intro hx a; simp only [putAll]; exact ih (fun j hj => hx j (by simp [hj])) _
  | swap i j l =>
    intro hx a
    simp only [putAll]
    by_cases e : i = j
    · subst e; rfl
    · rw [Act.put_comm a (vals j) (vals i) (hd j i (hx j (by simp)) (hx i (by simp)) (Ne.symm e))]
  | trans h1 _ ih1 ih2 => intro hx a; rw [ih1 hx, ih2 fun i hi => hx i (h1.mem_iff.2 hi)]
theorem putAll_unlooked (vals : Nat → Value) {o : Oper} (hs : ∀ cs b, o.op ≠ .select cs b) : ∀ (y : List Nat) (a : Act), (∀ i ∈ y, looksB ops o i = false) → execOp (putAll ops vals y a).eval o = execOp a.eval o ∧ Region.wanted o (yielded ops (putAll ops vals y a).tmps) = Region.wanted o (yielded ops a.tmps)
  | [], _, _ => ⟨rfl, rfl⟩
  | i :: y, a, h => by
    have h0 : ∀ d, dstOf ops i = some d → d ∉ o.looksAt ops := fun d hd hm => by
      have := h i (by simp)
      unfold looksB at this
      rw [hd] at this
      simp only at this
      rw [List.contains_iff_mem.2 hm] at this
      cases this
    obtain ⟨e1, e2⟩ := putAll_unlooked vals hs y (a.put (dstOf ops i) (vals i)) fun j hj => h j (by simp [hj])
    simp only [putAll]
    exact ⟨e1.trans (execOp_put o hs a _ _ h0), e2.trans (wanted_put o a _ _ h0)⟩
theorem nodup_le : ∀ (x y : List Nat), x.Nodup → (∀ i ∈ x, i ∈ y) → x.length ≤ y.length
  | [], _, _, _ => Nat.zero_le _
  | i :: x, y, hn, h => by
    have hi := h i (by simp)
    have := nodup_le x (y.erase i) (List.nodup_cons.1 hn).2 fun j hj => by
      have hne : j ≠ i := fun e => (List.nodup_cons.1 hn).1 (e ▸ hj)
      exact (List.mem_erase_of_ne hne).2 (h j (by simp [hj]))
    rw [List.length_erase_of_mem hi] at this
    have hp : 0 < y.length := List.length_pos_of_mem hi
    simp only [List.length_cons]; omega
theorem least_not (D : List Nat) : ∀ n, (∃ i, i < n ∧ i ∉ D) → ∃ i, i < n ∧ i ∉ D ∧ ∀ j, j < i → j ∈ D
  | 0, h => by obtain ⟨i, hi, _⟩ := h; omega
  | n + 1, h => by
    by_cases h1 : ∃ i, i < n ∧ i ∉ D
    · obtain ⟨i, hi, h2⟩ := least_not D n h1
      exact ⟨i, by omega, h2⟩
    · obtain ⟨i, hi, hD⟩ := h
      have hin : i = n := by
        by_cases e : i < n
        · exact absurd ⟨i, e, hD⟩ h1
        · omega
      subst hin
      refine ⟨i, hi, hD, fun j hj => ?_⟩
      by_cases e : j ∈ D
      · exact e
      · exact absurd ⟨j, hj, e⟩ h1

/-- What is asked of one operation. -/
def GrowStep (P : Program) (ops : Array Oper) (W : World) (n : Nat) (G : World → World → Prop) (R : Nat → Value → World → Prop) (a : Act) (vals : Nat → Value) (i : Nat) (o : Oper) : Prop :=
  ∀ w, Below W.heap.size W w → (∀ j ∈ depsOf ops n o, R j (vals j) w) →
    Region.wanted o (yielded ops (putAll ops vals (depsOf ops n o) a).tmps) = true ∧
    comes P o (putAll ops vals (depsOf ops n o) a) (fun v _ w' => G w w' ∧ R i v w') ((execOp (putAll ops vals (depsOf ops n o) a).eval o).run P w)

theorem grow_any {l : List Oper} {ts : List Nat} {a : Act} (hop : ops = l.toArray) (hsel : Region.noSelect ops = true) (hsz : n + ts.length = ops.size) (hts : ∀ i ∈ ts, i < l.length)
    (hedge : ∀ i o, i < n → ops[i]? = some o → edgesOk md i o = true ∧ ∀ j, j < n → looksB ops o j = true → boundB md o j = true)
    (hdst : ∀ i j, i < n → j < n → i ≠ j → ∀ d, dstOf ops i = some d → dstOf ops j ≠ some d)
    (hlate : ∀ t o, n ≤ t → ops[t]? = some o → ∀ j, j < n → boundB md o j = true) (hseq : seqT md ops ts (doneA n ops.size) = true)
    (hGB : ∀ w w', Below W.heap.size W w → G w w' → Below W.heap.size W w') (hmono : ∀ i v w w', R i v w → G w w' → R i v w')
    (hst : ∀ vals i o, i < n → ops[i]? = some o → GrowStep P ops W n G R a vals i o)
    (hfin : ∀ vals w, Below W.heap.size W w → (∀ i, i < n → R i (vals i) w) → wpList P ops Q (pick l ts) (putAll ops vals (List.range n) a) w) :
    ∀ (f : Nat) (D : List Nat) (listed : Array Bool) (vals : Nat → Value) (w : World), D.Nodup → (∀ i ∈ D, i < n) → D.length + f = n → listed.size = ops.size →
    (∀ i, i < ops.size → listed.getD i false = decide (i ∈ D)) → Below W.heap.size W w → (∀ i ∈ D, R i (vals i) w) → wpAny P md ops Q (f + ts.length) listed (putAll ops vals D a) w
  | 0, D, listed, vals, w, hnd, hlt, hlen, hls, hl, hb, hR => by
    have hall : ∀ i, i < n → i ∈ D := fun i hi => by
      by_cases e : i ∈ D
      · exact e
      · exfalso
        have := nodup_le (i :: D) (List.range n) (List.nodup_cons.2 ⟨e, hnd⟩) fun j hj => by
          rcases List.mem_cons.1 hj with rfl | h
          · exact List.mem_range.2 hi
          · exact List.mem_range.2 (hlt j h)
        simp at this; omega
    have hp : D.Perm (List.range n) := (List.perm_ext_iff_of_nodup hnd List.nodup_range).2 fun i => ⟨fun h => List.mem_range.2 (hlt i h), fun h => hall i (List.mem_range.1 h)⟩
    have hle : listed = doneA n ops.size := by
      apply Array.ext_getElem?
      intro i
      by_cases hi : i < ops.size
      · have h1 := hl i hi
        have h2 : listed[i]? = some (listed.getD i false) := by simp [hls, hi]
        rw [h2, h1]
        unfold doneA
        rw [Array.getElem?_map, Array.getElem?_range, if_pos hi]
        simp only [Option.map_some, Option.some.injEq]
        by_cases e : i < n
        · rw [decide_eq_true (hall i e)]; exact ((show Nat.blt i n = true from by rw [Nat.blt_eq]; exact e)).symm
        · rw [decide_eq_false fun h => e (hlt i h)]
          cases hx : Nat.blt i n
          · rfl
          · exact absurd ((by rw [Nat.blt_eq] at hx; exact hx)) e
      · rw [Array.getElem?_eq_none (by omega), Array.getElem?_eq_none (by simp [doneA]; omega)]
    subst hle
    rw [Nat.zero_add, putAll_perm vals hdst hp hlt]
    subst hop
    exact wpAny_of_seqT ts _ _ _ hts hseq (hfin vals w hb fun i hi => hR i (hall i hi))
  | f + 1, D, listed, vals, w, hnd, hlt, hlen, hls, hl, hb, hR => by
    have hex : ∃ i, i < n ∧ i ∉ D := by
      apply Classical.byContradiction
      intro hno
      have := nodup_le (List.range n) D List.nodup_range fun i hi => by
        by_cases e : i ∈ D
        · exact e
        · exact absurd ⟨i, List.mem_range.1 hi, e⟩ hno
      simp at this; omega
    obtain ⟨i0, hi0, hi0D, hmin⟩ := least_not D n hex
    have hget : ∀ i, i < ops.size → listed.getD i true = decide (i ∈ D) := fun i hi => by
      have := hl i hi
      simpa [hls, hi] using this
    have hr0 : i0 ∈ Region.ready md ops listed := by
      have hs0 : i0 < ops.size := by omega
      obtain ⟨o, ho⟩ : ∃ o, ops[i0]? = some o := ⟨_, Array.getElem?_eq_getElem hs0⟩
      refine mem_ready.2 ⟨by rw [hget i0 hs0]; exact decide_eq_false hi0D, o, ho, fun e he hbe => ?_⟩
      have h1 := List.all_eq_true.1 (hedge i0 o hi0 ho).1 e (by simpa using he)
      have h2 : e.on < i0 := by simpa [hbe] using h1
      rw [hl _ (by omega)]; exact decide_eq_true (hmin _ h2)
    rw [show f + 1 + ts.length = (f + ts.length) + 1 by omega]
    refine ⟨fun h => (by rw [h] at hr0; cases hr0), fun i hi => ?_⟩
    obtain ⟨hun, o, ho, hdeps⟩ := mem_ready.1 hi
    have hsi : i < ops.size := (Array.getElem?_eq_some_iff.1 ho).1
    have hiD : i ∉ D := by rw [hget i hsi] at hun; exact of_decide_eq_false hun
    have hbd : ∀ j, j < n → boundB md o j = true → j ∈ D := fun j hj hbj => by
      obtain ⟨e, hem, heb⟩ := List.any_eq_true.1 hbj
      rw [Bool.and_eq_true] at heb
      have h1 := hdeps e (by simpa using hem) heb.1
      rw [Nat.eq_of_beq_eq_true heb.2, hl j (by omega)] at h1
      exact of_decide_eq_true h1
    have hin : i < n := by
      apply Classical.byContradiction
      intro hni
      exact hi0D (hbd i0 hi0 (hlate i o (by omega) ho i0 hi0))
    have hdep : ∀ j ∈ depsOf ops n o, j ∈ D := fun j hj => by
      obtain ⟨h1, h2⟩ := List.mem_filter.1 hj
      have hjn := List.mem_range.1 h1
      exact hbd j hjn ((hedge i o hin ho).2 j hjn h2)
    have hsl := fun cs b => Region.noSelect_spec hsel i o cs b ho
    have hcut : ∀ b, putAll ops vals D b = putAll ops vals (D.filter fun j => !looksB ops o j) (putAll ops vals (depsOf ops n o) b) := fun b => by
      rw [← putAll_append]
      refine putAll_perm vals hdst ?_ hlt b
      refine (List.filter_append_perm (looksB ops o) D).symm.trans (List.Perm.append_right _ ?_)
      refine (List.perm_ext_iff_of_nodup (hnd.filter _) (List.nodup_range.filter _)).2 fun j => ?_
      constructor
      · intro h
        obtain ⟨h1, h2⟩ := List.mem_filter.1 h
        exact List.mem_filter.2 ⟨List.mem_range.2 (hlt j h1), h2⟩
      · intro h
        exact List.mem_filter.2 ⟨hdep j h, (List.mem_filter.1 h).2⟩
    obtain ⟨e1, e2⟩ := putAll_unlooked (ops := ops) vals (o := o) hsl (D.filter fun j => !looksB ops o j) (putAll ops vals (depsOf ops n o) a) fun j hj => by
      have := (List.mem_filter.1 hj).2
      simpa using this
    rw [← hcut] at e1 e2
    obtain ⟨hw, hc⟩ := hst vals i o hin ho w hb fun j hj => hR j (hdep j hj)
    rw [← e2] at hw
    rw [← e1] at hc
    have next : ∀ v w', G w w' → R i v w' → wpAny P md ops Q (f + ts.length) (listed.setIfInBounds i true) ((putAll ops vals D a).put o.dst v) w' := fun v w' hb' hRv => by
      have he : (putAll ops vals D a).put o.dst v = putAll ops (fun j => if j = i then v else vals j) (D ++ [i]) a := by
        rw [putAll_append, putAll_congr (v := fun j => if j = i then v else vals j) (u := vals) D a (fun j hj => if_neg (fun (e : j = i) => hiD (e ▸ hj)))]
        simp [putAll, dstOf, ho]
      rw [he]
      refine grow_any hop hsel hsz hts hedge hdst hlate hseq hGB hmono hst hfin f (D ++ [i]) _ _ w' ?_ ?_ (by simp; omega) (by simp [hls]) ?_ (hGB _ _ hb hb') ?_
      · exact List.nodup_append.2 ⟨hnd, by simp, fun x hx y hy => by simp at hy; subst hy; intro e; subst e; exact hiD hx⟩
      · intro j hj
        rcases List.mem_append.1 hj with h | h
        · exact hlt j h
        · simp at h; omega
      · intro j hj
        by_cases e : j = i
        · subst e; simp [hls, hj]
        · have h1 := hl j hj
          have h2 : (listed.setIfInBounds i true).getD j false = listed.getD j false := by
            simp only [Array.getD_eq_getD_getElem?]
            rw [Array.getElem?_setIfInBounds_ne (fun h => e h.symm)]
          rw [h2, h1]
          simp [e]
      · intro j hj
        rcases List.mem_append.1 hj with h | h
        · have : j ≠ i := fun e => hiD (e ▸ h)
          simp only [this, if_false]
          exact hmono _ _ _ _ (hR j h) hb'
        · simp at h; subst h; simpa using hRv
    unfold Go.wpOp
    simp only [ho, hw, if_true]
    refine .inl ?_
    unfold Oper.wp
    revert hc
    generalize (execOp (putAll ops vals D a).eval o).run P w = r
    intro hc
    cases r with
    | halt x w => exact False.elim hc
    | ok nx w2 =>
      cases nx <;> try exact False.elim hc
      case value u => exact next _ _ hc.1 hc.2
      case skip => exact next _ _ hc.1 hc.2
      case enter fn args =>
        refine Calls.mono (P := P) hc ?_
        rintro e w'' ⟨u, rfl, h1, h2⟩
        exact next _ _ h1 h2

/-- The operations from number k on, each by itself; then what is left. -/
def wpGrow (P : Program) (ops : Array Oper) (W : World) (n : Nat) (G : World → World → Prop) (R : Nat → Value → World → Prop) (a : Act) (vals : Nat → Value) (Fin : Prop) : Nat → List Oper → Prop
  | _, [] => Fin
  | k, o :: r => GrowStep P ops W n G R a vals k o ∧ wpGrow P ops W n G R a vals Fin (k + 1) r
theorem wpGrow_out {a : Act} {vals : Nat → Value} {Fin : Prop} : ∀ (k : Nat) (r : List Oper), wpGrow P ops W n G R a vals Fin k r → Fin ∧ ∀ j o, r[j]? = some o → GrowStep P ops W n G R a vals (k + j) o
  | _, [], h => ⟨h, fun j o ho => by simp at ho⟩
  | k, o :: r, h => by
    obtain ⟨h1, h2⟩ := wpGrow_out (k + 1) r h.2
    refine ⟨h1, fun j x hx => ?_⟩
    cases j with
    | zero => simp at hx; subst hx; exact h.1
    | succ j => rw [show k + (j + 1) = k + 1 + j by omega]; exact h2 j x (by simpa using hx)

/-- A REGION THAT DRAWS ITS ORDER: its first n operations make memory alone; then those of ts come. -/
theorem wp_region_grow {id : Nat} {a : Act} {w : World} {l : List Oper} (W : World) (n : Nat) (G : World → World → Prop) (R : Nat → Value → World → Prop) (ts : List Nat) (hm : P.follows .mixedOrders = true) (hB : growB .any l.toArray n ts = true)
    (hW : Below W.heap.size W { w with drawn := w.drawn + 1 }) (hGB : ∀ w w', Below W.heap.size W w → G w w' → Below W.heap.size W w') (hmono : ∀ i v w w', R i v w → G w w' → R i v w')
    (h : ∀ vals, wpGrow P l.toArray W n G R a vals (∀ w, Below W.heap.size W w → (∀ i, i < n → R i (vals i) w) → wpList P l.toArray Q (pick l ts) (putAll l.toArray vals (List.range n) a) w) 0 (l.take n)) :
    (Code.region id l.toArray true).wp P Q a w := by
  simp only [growB, Bool.and_eq_true, decide_eq_true_eq] at hB
  obtain ⟨⟨⟨⟨⟨⟨hsel, hsz⟩, hts⟩, h1⟩, h2⟩, h3⟩, hseq⟩ := hB
  have hts' : ∀ i ∈ ts, i < l.length := fun i hi => by simpa using List.all_eq_true.1 hts i hi
  refine wp_region_any hm ?_
  have H := grow_any (md := .any) (P := P) (W := W) (Q := Q) (n := n) (R := R) (G := G) (l := l) (ts := ts) (a := a) rfl hsel hsz hts'
    (fun i o hi ho => by
      have := List.all_eq_true.1 h1 i (List.mem_range.2 hi)
      rw [ho] at this
      simp only [Bool.and_eq_true] at this
      refine ⟨this.1, fun j hj hlj => ?_⟩
      have h4 := List.all_eq_true.1 this.2 j (List.mem_range.2 hj)
      simpa [hlj] using h4)
    (fun i j hi hj hne d hd => by
      have := List.all_eq_true.1 (List.all_eq_true.1 h2 i (List.mem_range.2 hi)) j (List.mem_range.2 hj)
      rcases Bool.or_eq_true_iff.1 this with h | h
      · exact absurd (Nat.eq_of_beq_eq_true h) hne
      · rw [hd] at h
        simpa [apartD] using h)
    (fun t o ht ho j hj => by
      have := List.all_eq_true.1 h3 t (List.mem_range.2 (Array.getElem?_eq_some_iff.1 ho).1)
      rw [ho] at this
      rcases Bool.or_eq_true_iff.1 this with h | h
      · exact absurd (by rw [Nat.blt_eq] at h; exact h : t < n) (by omega)
      · exact List.all_eq_true.1 h j (List.mem_range.2 hj))
    hseq hGB hmono
    (fun vals i o hi ho => by
      have := (wpGrow_out 0 _ (h vals)).2 i o (by rw [List.getElem?_take, if_pos hi]; simpa using ho)
      rwa [Nat.zero_add] at this)
    (fun vals w hb hR => (wpGrow_out 0 _ (h vals)).1 w hb hR)
    n [] (Array.replicate l.toArray.size false) (fun _ => undef) { w with drawn := w.drawn + 1 } List.nodup_nil (fun i hi => by cases hi) (by simp) (by simp) (fun i hi => by rw [getD_replicate_false]; simp) hW (fun i hi => by cases hi)
  rw [hsz] at H
  exact H

/-- ONE STEP, no call. -/
theorem growStep_val {a : Act} {vals : Nat → Value} {i : Nat} {o : Oper}
    (h : ∀ (K : Value → Act → World → Prop) (w : World), Below W.heap.size W w → (∀ j ∈ depsOf ops n o, R j (vals j) w) → (∀ v a' w', G w w' → R i v w' → K v a' w') →
      Region.wanted o (yielded ops (putAll ops vals (depsOf ops n o) a).tmps) = true ∧ comesV o (putAll ops vals (depsOf ops n o) a) K ((execOp (putAll ops vals (depsOf ops n o) a).eval o).run P w)) : GrowStep P ops W n G R a vals i o := by
  intro w hb hd
  obtain ⟨h1, h2⟩ := h (fun v _ w' => G w w' ∧ R i v w') w hb hd fun v _ w' x y => ⟨x, y⟩
  refine ⟨h1, ?_⟩
  revert h2
  generalize (execOp (putAll ops vals (depsOf ops n o) a).eval o).run P w = r
  cases r with
  | halt x w => exact fun h => False.elim h
  | ok n w => cases n <;> first | exact fun h => False.elim h | exact fun h => h
/-- ONE STEP, a call. -/
theorem growStep_call {a : Act} {vals : Nat → Value} {i : Nat} {o : Oper}
    (h : ∀ (K : Value → World → Prop) (w : World), Below W.heap.size W w → (∀ j ∈ depsOf ops n o, R j (vals j) w) → (∀ v w', G w w' → R i v w' → K v w') →
      Region.wanted o (yielded ops (putAll ops vals (depsOf ops n o) a).tmps) = true ∧ comesC P K ((execOp (putAll ops vals (depsOf ops n o) a).eval o).run P w)) : GrowStep P ops W n G R a vals i o := by
  intro w hb hd
  obtain ⟨h1, h2⟩ := h (fun v w' => G w w' ∧ R i v w') w hb hd fun v w' x y => ⟨x, y⟩
  refine ⟨h1, ?_⟩
  revert h2
  generalize (execOp (putAll ops vals (depsOf ops n o) a).eval o).run P w = r
  cases r with
  | halt x w => exact fun h => False.elim h
  | ok n w => cases n <;> first | exact fun h => False.elim h | exact fun h => h

/-! ### With the tmps named -/
def putZ : List (Option Tmp) → List Value → Act → Act
  | d :: ds, v :: vs, a => putZ ds vs (a.put d v)
  | _, _, a => a
theorem putZ_eq (vals : Nat → Value) : ∀ (ds : List Nat) (a : Act), putAll ops vals ds a = putZ (ds.map (dstOf ops)) (ds.map vals) a
  | [], _ => rfl
  | i :: ds, a => by simp only [putAll, List.map_cons, putZ]; exact putZ_eq vals ds _
theorem grow_val {a : Act} {vals : Nat → Value} {i : Nat} {o : Oper} (ds : List Nat) (qs : List (Option Tmp)) (hds : depsOf ops n o = ds) (hqs : ds.map (dstOf ops) = qs)
    (h : ∀ (K : Value → Act → World → Prop) (w : World), Below W.heap.size W w → (∀ j ∈ ds, R j (vals j) w) → (∀ v a' w', G w w' → R i v w' → K v a' w') →
      Region.wanted o (yielded ops (putZ qs (ds.map vals) a).tmps) = true ∧ comesV o (putZ qs (ds.map vals) a) K ((execOp (putZ qs (ds.map vals) a).eval o).run P w)) : GrowStep P ops W n G R a vals i o := by
  subst hds hqs
  refine growStep_val fun K w hb hd hK => ?_
  rw [putZ_eq]
  exact h K w hb hd hK
theorem grow_call {a : Act} {vals : Nat → Value} {i : Nat} {o : Oper} (ds : List Nat) (qs : List (Option Tmp)) (hds : depsOf ops n o = ds) (hqs : ds.map (dstOf ops) = qs)
    (h : ∀ (K : Value → World → Prop) (w : World), Below W.heap.size W w → (∀ j ∈ ds, R j (vals j) w) → (∀ v w', G w w' → R i v w' → K v w') →
      Region.wanted o (yielded ops (putZ qs (ds.map vals) a).tmps) = true ∧ comesC P K ((execOp (putZ qs (ds.map vals) a).eval o).run P w)) : GrowStep P ops W n G R a vals i o := by
  subst hds hqs
  refine growStep_call fun K w hb hd hK => ?_
  rw [putZ_eq]
  exact h K w hb hd hK
theorem wp_region_grows {id : Nat} {a : Act} {w : World} {l : List Oper} (W : World) (n : Nat) (G : World → World → Prop) (R : Nat → Value → World → Prop) (ts ns : List Nat) (qa : List (Option Tmp)) (hm : P.follows .mixedOrders = true) (hB : growB .any l.toArray n ts = true)
    (hns : List.range n = ns) (hqa : ns.map (dstOf l.toArray) = qa) (hW : Below W.heap.size W { w with drawn := w.drawn + 1 }) (hGB : ∀ w w', Below W.heap.size W w → G w w' → Below W.heap.size W w') (hmono : ∀ i v w w', R i v w → G w w' → R i v w')
    (h : ∀ vals, wpGrow P l.toArray W n G R a vals (∀ w, Below W.heap.size W w → (∀ i ∈ ns, R i (vals i) w) → wpList P l.toArray Q (pick l ts) (putZ qa (ns.map vals) a) w) 0 (l.take n)) :
    (Code.region id l.toArray true).wp P Q a w := by
  subst hns hqa
  refine wp_region_grow W n G R ts hm hB hW hGB hmono fun vals => ?_
  have := h vals
  revert this
  generalize l.take n = r
  intro h1
  suffices hh : ∀ (k : Nat) (r : List Oper) (F H : Prop), (F → H) → wpGrow P l.toArray W n G R a vals F k r → wpGrow P l.toArray W n G R a vals H k r by
    refine hh 0 r _ _ (fun hf w hb hR => ?_) h1
    rw [putZ_eq]
    exact hf w hb fun i hi => hR i (List.mem_range.1 hi)
  intro k r
  induction r generalizing k with
  | nil => intro F H h h2; exact h h2
  | cons o r ih => intro F H h h2; exact ⟨h2.1, ih (k + 1) F H h h2.2⟩
end
end Go.Hold
