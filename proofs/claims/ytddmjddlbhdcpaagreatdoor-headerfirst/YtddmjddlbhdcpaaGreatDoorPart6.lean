/-
  Part 6 of the texts behind the theorem.
-/
import Derived.Test.YtddmjddlbhdcpaaGreatDoorPart5
import Derived.Test.YtddmjddlbhdcpaaGreatDoorPart1
import Derived.OwnWalk
import Derived.Laws.AppendOwnNone
import Derived.Lib.AppendZerosOnto
import Derived.Great.BuildSlice
import Derived.Laws.MakeOwn
import Derived.Laws.OwnMore
import Derived.Deep.MidRow
import Derived.Laws.BitsAllLaws
/-
  A region that draws its order, whose operations make new memory alone: each gives a value of which something is known that stays true while the memory grows. It is walked once, whatever the order. Nothing is assumed.
-/
namespace Go.Hold
open Go Go.RowKit
section
variable {P : Program} {md : Region.Mode} {W : World} {Q : Exit → Act → World → Prop} {ops : Array Oper} {n : Nat} {R : Nat → Value → World → Prop} {G : World → World → Prop}

def dstOf (ops : Array Oper) (i : Nat) : Option Tmp := (ops[i]?).bind (·.dst)
def putAll (ops : Array Oper) (vals : Nat → Value) : List Nat → Act → Act
  | [], a => a
  | i :: is, a => putAll ops vals is (a.put (dstOf ops i) (vals i))
def looksB (ops : Array Oper) (o : Oper) (j : Nat) : Bool := match dstOf ops j with
  | some d => (o.looksAt ops).contains d
  | none => false
def depsOf (ops : Array Oper) (n : Nat) (o : Oper) : List Nat := (List.range n).filter (looksB ops o)
def boundB (md : Region.Mode) (o : Oper) (j : Nat) : Bool := o.after.toList.any fun e => Region.binds md e && Nat.beq e.on j
def doneA (n s : Nat) : Array Bool := (Array.range s).map fun i => Nat.blt i n
def apartD (x y : Option Tmp) : Bool := match x with
  | some d => y != some d
  | none => true
def growB (md : Region.Mode) (ops : Array Oper) (n : Nat) (ts : List Nat) : Bool :=
  Region.noSelect ops && decide (n + ts.length = ops.size) && (ts.all fun i => decide (i < ops.size)) &&
  ((List.range n).all fun i => match ops[i]? with
    | some o => edgesOk md i o && ((List.range n).all fun j => !looksB ops o j || boundB md o j)
    | none => false) &&
  ((List.range n).all fun i => (List.range n).all fun j => Nat.beq i j || apartD (dstOf ops i) (dstOf ops j)) &&
  ((List.range ops.size).all fun t => Nat.blt t n || match ops[t]? with
    | some o => (List.range n).all fun j => boundB md o j
    | none => false) &&
  seqT md ops ts (doneA n ops.size)

theorem putAll_append (vals : Nat → Value) : ∀ (x y : List Nat) (a : Act), putAll ops vals (x ++ y) a = putAll ops vals y (putAll ops vals x a)
  | [], _, _ => rfl
  | i :: x, y, a => by simp only [List.cons_append, putAll]; exact putAll_append vals x y _
theorem putAll_congr {v u : Nat → Value} : ∀ (x : List Nat) (a : Act), (∀ i ∈ x, v i = u i) → putAll ops v x a = putAll ops u x a
  | [], _, _ => rfl
  | i :: x, a, h => by simp only [putAll]; rw [h i (by simp)]; exact putAll_congr x _ fun j hj => h j (by simp [hj])
theorem putAll_perm (vals : Nat → Value) (hd : ∀ i j, i < n → j < n → i ≠ j → ∀ d, dstOf ops i = some d → dstOf ops j ≠ some d) {x y : List Nat} (h : x.Perm y) : (∀ i ∈ x, i < n) → ∀ a, putAll ops vals x a = putAll ops vals y a := by
  induction h with
  | nil => intro _ a; rfl
  | cons i _ ih => intro hx a; simp only [putAll]; exact ih (fun j hj => hx j (by simp [hj])) _
  | swap i j l =>
    intro hx a
    simp only [putAll]
    by_cases e : i = j
    · subst e; rfl
    · rw [Act.put_comm a (vals j) (vals i) (hd j i (hx j (by simp)) (hx i (by simp)) (Ne.symm e))]
  | trans h1 _ ih1 ih2 => intro hx a; rw [ih1 hx, ih2 fun i hi => hx i (h1.mem_iff.2 hi)]
theorem putAll_unlooked (vals : Nat → Value) {o : Oper} (hs : ∀ cs b, o.op ≠ .select cs b) : ∀ (y : List Nat) (a : Act), (∀ i ∈ y, looksB ops o i = false) → execOp (putAll ops vals y a).eval o = execOp a.eval o ∧ Region.wanted o (yielded ops (putAll ops vals y a).tmps) = Region.wanted o (yielded ops a.tmps)
  | [], _, _ => ⟨rfl, rfl⟩
  | i :: y, a, h => by
    have h0 : ∀ d, dstOf ops i = some d → d ∉ o.looksAt ops := fun d hd hm => by
      have := h i (by simp)
      unfold looksB at this
      rw [hd] at this
      simp only at this
      rw [List.contains_iff_mem.2 hm] at this
      cases this
    obtain ⟨e1, e2⟩ := putAll_unlooked vals hs y (a.put (dstOf ops i) (vals i)) fun j hj => h j (by simp [hj])
    simp only [putAll]
    exact ⟨e1.trans (execOp_put o hs a _ _ h0), e2.trans (wanted_put o a _ _ h0)⟩
theorem nodup_le : ∀ (x y : List Nat), x.Nodup → (∀ i ∈ x, i ∈ y) → x.length ≤ y.length
  | [], _, _, _ => Nat.zero_le _
  | i :: x, y, hn, h => by
    have hi := h i (by simp)
    have := nodup_le x (y.erase i) (List.nodup_cons.1 hn).2 fun j hj => by
      have hne : j ≠ i := fun e => (List.nodup_cons.1 hn).1 (e ▸ hj)
      exact (List.mem_erase_of_ne hne).2 (h j (by simp [hj]))
    rw [List.length_erase_of_mem hi] at this
    have hp : 0 < y.length := List.length_pos_of_mem hi
    simp only [List.length_cons]; omega
theorem least_not (D : List Nat) : ∀ n, (∃ i, i < n ∧ i ∉ D) → ∃ i, i < n ∧ i ∉ D ∧ ∀ j, j < i → j ∈ D
  | 0, h => by obtain ⟨i, hi, _⟩ := h; omega
  | n + 1, h => by
    by_cases h1 : ∃ i, i < n ∧ i ∉ D
    · obtain ⟨i, hi, h2⟩ := least_not D n h1
      exact ⟨i, by omega, h2⟩
    · obtain ⟨i, hi, hD⟩ := h
      have hin : i = n := by
        by_cases e : i < n
        · exact absurd ⟨i, e, hD⟩ h1
        · omega
      subst hin
      refine ⟨i, hi, hD, fun j hj => ?_⟩
      by_cases e : j ∈ D
      · exact e
      · exact absurd ⟨j, hj, e⟩ h1

/-- What is asked of one operation. -/
def GrowStep (P : Program) (ops : Array Oper) (W : World) (n : Nat) (G : World → World → Prop) (R : Nat → Value → World → Prop) (a : Act) (vals : Nat → Value) (i : Nat) (o : Oper) : Prop :=
  ∀ w, Below W.heap.size W w → (∀ j ∈ depsOf ops n o, R j (vals j) w) →
    Region.wanted o (yielded ops (putAll ops vals (depsOf ops n o) a).tmps) = true ∧
    comes P o (putAll ops vals (depsOf ops n o) a) (fun v _ w' => G w w' ∧ R i v w') ((execOp (putAll ops vals (depsOf ops n o) a).eval o).run P w)

theorem grow_any {l : List Oper} {ts : List Nat} {a : Act} (hop : ops = l.toArray) (hsel : Region.noSelect ops = true) (hsz : n + ts.length = ops.size) (hts : ∀ i ∈ ts, i < l.length)
    (hedge : ∀ i o, i < n → ops[i]? = some o → edgesOk md i o = true ∧ ∀ j, j < n → looksB ops o j = true → boundB md o j = true)
    (hdst : ∀ i j, i < n → j < n → i ≠ j → ∀ d, dstOf ops i = some d → dstOf ops j ≠ some d)
    (hlate : ∀ t o, n ≤ t → ops[t]? = some o → ∀ j, j < n → boundB md o j = true) (hseq : seqT md ops ts (doneA n ops.size) = true)
    (hGB : ∀ w w', Below W.heap.size W w → G w w' → Below W.heap.size W w') (hmono : ∀ i v w w', R i v w → G w w' → R i v w')
    (hst : ∀ vals i o, i < n → ops[i]? = some o → GrowStep P ops W n G R a vals i o)
    (hfin : ∀ vals w, Below W.heap.size W w → (∀ i, i < n → R i (vals i) w) → wpList P ops Q (pick l ts) (putAll ops vals (List.range n) a) w) :
    ∀ (f : Nat) (D : List Nat) (listed : Array Bool) (vals : Nat → Value) (w : World), D.Nodup → (∀ i ∈ D, i < n) → D.length + f = n → listed.size = ops.size →
    (∀ i, i < ops.size → listed.getD i false = decide (i ∈ D)) → Below W.heap.size W w → (∀ i ∈ D, R i (vals i) w) → wpAny P md ops Q (f + ts.length) listed (putAll ops vals D a) w
  | 0, D, listed, vals, w, hnd, hlt, hlen, hls, hl, hb, hR => by
    have hall : ∀ i, i < n → i ∈ D := fun i hi => by
      by_cases e : i ∈ D
      · exact e
      · exfalso
        have := nodup_le (i :: D) (List.range n) (List.nodup_cons.2 ⟨e, hnd⟩) fun j hj => by
          rcases List.mem_cons.1 hj with rfl | h
          · exact List.mem_range.2 hi
          · exact List.mem_range.2 (hlt j h)
        simp at this; omega
    have hp : D.Perm (List.range n) := (List.perm_ext_iff_of_nodup hnd List.nodup_range).2 fun i => ⟨fun h => List.mem_range.2 (hlt i h), fun h => hall i (List.mem_range.1 h)⟩
    have hle : listed = doneA n ops.size := by
      apply Array.ext_getElem?
      intro i
      by_cases hi : i < ops.size
      · have h1 := hl i hi
        have h2 : listed[i]? = some (listed.getD i false) := by simp [hls, hi]
        rw [h2, h1]
        unfold doneA
        rw [Array.getElem?_map, Array.getElem?_range, if_pos hi]
        simp only [Option.map_some, Option.some.injEq]
        by_cases e : i < n
        · rw [decide_eq_true (hall i e)]; exact ((show Nat.blt i n = true from by rw [Nat.blt_eq]; exact e)).symm
        · rw [decide_eq_false fun h => e (hlt i h)]
          cases hx : Nat.blt i n
          · rfl
          · exact absurd ((by rw [Nat.blt_eq] at hx; exact hx)) e
      · rw [Array.getElem?_eq_none (by omega), Array.getElem?_eq_none (by simp [doneA]; omega)]
    subst hle
    rw [Nat.zero_add, putAll_perm vals hdst hp hlt]
    subst hop
    exact wpAny_of_seqT ts _ _ _ hts hseq (hfin vals w hb fun i hi => hR i (hall i hi))
  | f + 1, D, listed, vals, w, hnd, hlt, hlen, hls, hl, hb, hR => by
    have hex : ∃ i, i < n ∧ i ∉ D := by
      apply Classical.byContradiction
      intro hno
      have := nodup_le (List.range n) D List.nodup_range fun i hi => by
        by_cases e : i ∈ D
        · exact e
        · exact absurd ⟨i, List.mem_range.1 hi, e⟩ hno
      simp at this; omega
    obtain ⟨i0, hi0, hi0D, hmin⟩ := least_not D n hex
    have hget : ∀ i, i < ops.size → listed.getD i true = decide (i ∈ D) := fun i hi => by
      have := hl i hi
      simpa [hls, hi] using this
    have hr0 : i0 ∈ Region.ready md ops listed := by
      have hs0 : i0 < ops.size := by omega
      obtain ⟨o, ho⟩ : ∃ o, ops[i0]? = some o := ⟨_, Array.getElem?_eq_getElem hs0⟩
      refine mem_ready.2 ⟨by rw [hget i0 hs0]; exact decide_eq_false hi0D, o, ho, fun e he hbe => ?_⟩
      have h1 := List.all_eq_true.1 (hedge i0 o hi0 ho).1 e (by simpa using he)
      have h2 : e.on < i0 := by simpa [hbe] using h1
      rw [hl _ (by omega)]; exact decide_eq_true (hmin _ h2)
    rw [show f + 1 + ts.length = (f + ts.length) + 1 by omega]
    refine ⟨fun h => (by rw [h] at hr0; cases hr0), fun i hi => ?_⟩
    obtain ⟨hun, o, ho, hdeps⟩ := mem_ready.1 hi
    have hsi : i < ops.size := (Array.getElem?_eq_some_iff.1 ho).1
    have hiD : i ∉ D := by rw [hget i hsi] at hun; exact of_decide_eq_false hun
    have hbd : ∀ j, j < n → boundB md o j = true → j ∈ D := fun j hj hbj => by
      obtain ⟨e, hem, heb⟩ := List.any_eq_true.1 hbj
      rw [Bool.and_eq_true] at heb
      have h1 := hdeps e (by simpa using hem) heb.1
      rw [Nat.eq_of_beq_eq_true heb.2, hl j (by omega)] at h1
      exact of_decide_eq_true h1
    have hin : i < n := by
      apply Classical.byContradiction
      intro hni
      exact hi0D (hbd i0 hi0 (hlate i o (by omega) ho i0 hi0))
    have hdep : ∀ j ∈ depsOf ops n o, j ∈ D := fun j hj => by
      obtain ⟨h1, h2⟩ := List.mem_filter.1 hj
      have hjn := List.mem_range.1 h1
      exact hbd j hjn ((hedge i o hin ho).2 j hjn h2)
    have hsl := fun cs b => Region.noSelect_spec hsel i o cs b ho
    have hcut : ∀ b, putAll ops vals D b = putAll ops vals (D.filter fun j => !looksB ops o j) (putAll ops vals (depsOf ops n o) b) := fun b => by
      rw [← putAll_append]
      refine putAll_perm vals hdst ?_ hlt b
      refine (List.filter_append_perm (looksB ops o) D).symm.trans (List.Perm.append_right _ ?_)
      refine (List.perm_ext_iff_of_nodup (hnd.filter _) (List.nodup_range.filter _)).2 fun j => ?_
      constructor
      · intro h
        obtain ⟨h1, h2⟩ := List.mem_filter.1 h
        exact List.mem_filter.2 ⟨List.mem_range.2 (hlt j h1), h2⟩
      · intro h
        exact List.mem_filter.2 ⟨hdep j h, (List.mem_filter.1 h).2⟩
    obtain ⟨e1, e2⟩ := putAll_unlooked (ops := ops) vals (o := o) hsl (D.filter fun j => !looksB ops o j) (putAll ops vals (depsOf ops n o) a) fun j hj => by
      have := (List.mem_filter.1 hj).2
      simpa using this
    rw [← hcut] at e1 e2
    obtain ⟨hw, hc⟩ := hst vals i o hin ho w hb fun j hj => hR j (hdep j hj)
    rw [← e2] at hw
    rw [← e1] at hc
    have next : ∀ v w', G w w' → R i v w' → wpAny P md ops Q (f + ts.length) (listed.setIfInBounds i true) ((putAll ops vals D a).put o.dst v) w' := fun v w' hb' hRv => by
      have he : (putAll ops vals D a).put o.dst v = putAll ops (fun j => if j = i then v else vals j) (D ++ [i]) a := by
        rw [putAll_append, putAll_congr (v := fun j => if j = i then v else vals j) (u := vals) D a (fun j hj => if_neg (fun (e : j = i) => hiD (e ▸ hj)))]
        simp [putAll, dstOf, ho]
      rw [he]
      refine grow_any hop hsel hsz hts hedge hdst hlate hseq hGB hmono hst hfin f (D ++ [i]) _ _ w' ?_ ?_ (by simp; omega) (by simp [hls]) ?_ (hGB _ _ hb hb') ?_
      · exact List.nodup_append.2 ⟨hnd, by simp, fun x hx y hy => by simp at hy; subst hy; intro e; subst e; exact hiD hx⟩
      · intro j hj
        rcases List.mem_append.1 hj with h | h
        · exact hlt j h
        · simp at h; omega
      · intro j hj
        by_cases e : j = i
        · subst e; simp [hls, hj]
        · have h1 := hl j hj
          have h2 : (listed.setIfInBounds i true).getD j false = listed.getD j false := by
            simp only [Array.getD_eq_getD_getElem?]
            rw [Array.getElem?_setIfInBounds_ne (fun h => e h.symm)]
          rw [h2, h1]
          simp [e]
      · intro j hj
        rcases List.mem_append.1 hj with h | h
        · have : j ≠ i := fun e => hiD (e ▸ h)
          simp only [this, if_false]
          exact hmono _ _ _ _ (hR j h) hb'
        · simp at h; subst h; simpa using hRv
    unfold Go.wpOp
    simp only [ho, hw, if_true]
    refine .inl ?_
    unfold Oper.wp
    revert hc
    generalize (execOp (putAll ops vals D a).eval o).run P w = r
    intro hc
    cases r with
    | halt x w => exact False.elim hc
    | ok nx w2 =>
      cases nx <;> try exact False.elim hc
      case value u => exact next _ _ hc.1 hc.2
      case skip => exact next _ _ hc.1 hc.2
      case enter fn args =>
        refine Calls.mono (P := P) hc ?_
        rintro e w'' ⟨u, rfl, h1, h2⟩
        exact next _ _ h1 h2

/-- The operations from number k on, each by itself; then what is left. -/
def wpGrow (P : Program) (ops : Array Oper) (W : World) (n : Nat) (G : World → World → Prop) (R : Nat → Value → World → Prop) (a : Act) (vals : Nat → Value) (Fin : Prop) : Nat → List Oper → Prop
  | _, [] => Fin
  | k, o :: r => GrowStep P ops W n G R a vals k o ∧ wpGrow P ops W n G R a vals Fin (k + 1) r
theorem wpGrow_out {a : Act} {vals : Nat → Value} {Fin : Prop} : ∀ (k : Nat) (r : List Oper), wpGrow P ops W n G R a vals Fin k r → Fin ∧ ∀ j o, r[j]? = some o → GrowStep P ops W n G R a vals (k + j) o
  | _, [], h => ⟨h, fun j o ho => by simp at ho⟩
  | k, o :: r, h => by
    obtain ⟨h1, h2⟩ := wpGrow_out (k + 1) r h.2
    refine ⟨h1, fun j x hx => ?_⟩
    cases j with
    | zero => simp at hx; subst hx; exact h.1
    | succ j => rw [show k + (j + 1) = k + 1 + j by omega]; exact h2 j x (by simpa using hx)

/-- A REGION THAT DRAWS ITS ORDER: its first n operations make memory alone; then those of ts come. -/
theorem wp_region_grow {id : Nat} {a : Act} {w : World} {l : List Oper} (W : World) (n : Nat) (G : World → World → Prop) (R : Nat → Value → World → Prop) (ts : List Nat) (hm : P.follows .mixedOrders = true) (hB : growB .any l.toArray n ts = true)
    (hW : Below W.heap.size W { w with drawn := w.drawn + 1 }) (hGB : ∀ w w', Below W.heap.size W w → G w w' → Below W.heap.size W w') (hmono : ∀ i v w w', R i v w → G w w' → R i v w')
    (h : ∀ vals, wpGrow P l.toArray W n G R a vals (∀ w, Below W.heap.size W w → (∀ i, i < n → R i (vals i) w) → wpList P l.toArray Q (pick l ts) (putAll l.toArray vals (List.range n) a) w) 0 (l.take n)) :
    (Code.region id l.toArray true).wp P Q a w := by
  simp only [growB, Bool.and_eq_true, decide_eq_true_eq] at hB
  obtain ⟨⟨⟨⟨⟨⟨hsel, hsz⟩, hts⟩, h1⟩, h2⟩, h3⟩, hseq⟩ := hB
  have hts' : ∀ i ∈ ts, i < l.length := fun i hi => by simpa using List.all_eq_true.1 hts i hi
  refine wp_region_any hm ?_
  have H := grow_any (md := .any) (P := P) (W := W) (Q := Q) (n := n) (R := R) (G := G) (l := l) (ts := ts) (a := a) rfl hsel hsz hts'
    (fun i o hi ho => by
      have := List.all_eq_true.1 h1 i (List.mem_range.2 hi)
      rw [ho] at this
      simp only [Bool.and_eq_true] at this
      refine ⟨this.1, fun j hj hlj => ?_⟩
      have h4 := List.all_eq_true.1 this.2 j (List.mem_range.2 hj)
      simpa [hlj] using h4)
    (fun i j hi hj hne d hd => by
      have := List.all_eq_true.1 (List.all_eq_true.1 h2 i (List.mem_range.2 hi)) j (List.mem_range.2 hj)
      rcases Bool.or_eq_true_iff.1 this with h | h
      · exact absurd (Nat.eq_of_beq_eq_true h) hne
      · rw [hd] at h
        simpa [apartD] using h)
    (fun t o ht ho j hj => by
      have := List.all_eq_true.1 h3 t (List.mem_range.2 (Array.getElem?_eq_some_iff.1 ho).1)
      rw [ho] at this
      rcases Bool.or_eq_true_iff.1 this with h | h
      · exact absurd (by rw [Nat.blt_eq] at h; exact h : t < n) (by omega)
      · exact List.all_eq_true.1 h j (List.mem_range.2 hj))
    hseq hGB hmono
    (fun vals i o hi ho => by
      have := (wpGrow_out 0 _ (h vals)).2 i o (by rw [List.getElem?_take, if_pos hi]; simpa using ho)
      rwa [Nat.zero_add] at this)
    (fun vals w hb hR => (wpGrow_out 0 _ (h vals)).1 w hb hR)
    n [] (Array.replicate l.toArray.size false) (fun _ => undef) { w with drawn := w.drawn + 1 } List.nodup_nil (fun i hi => by cases hi) (by simp) (by simp) (fun i hi => by rw [getD_replicate_false]; simp) hW (fun i hi => by cases hi)
  rw [hsz] at H
  exact H

/-- ONE STEP, no call. -/
theorem growStep_val {a : Act} {vals : Nat → Value} {i : Nat} {o : Oper}
    (h : ∀ (K : Value → Act → World → Prop) (w : World), Below W.heap.size W w → (∀ j ∈ depsOf ops n o, R j (vals j) w) → (∀ v a' w', G w w' → R i v w' → K v a' w') →
      Region.wanted o (yielded ops (putAll ops vals (depsOf ops n o) a).tmps) = true ∧ comesV o (putAll ops vals (depsOf ops n o) a) K ((execOp (putAll ops vals (depsOf ops n o) a).eval o).run P w)) : GrowStep P ops W n G R a vals i o := by
  intro w hb hd
  obtain ⟨h1, h2⟩ := h (fun v _ w' => G w w' ∧ R i v w') w hb hd fun v _ w' x y => ⟨x, y⟩
  refine ⟨h1, ?_⟩
  revert h2
  generalize (execOp (putAll ops vals (depsOf ops n o) a).eval o).run P w = r
  cases r with
  | halt x w => exact fun h => False.elim h
  | ok n w => cases n <;> first | exact fun h => False.elim h | exact fun h => h
/-- ONE STEP, a call. -/
theorem growStep_call {a : Act} {vals : Nat → Value} {i : Nat} {o : Oper}
    (h : ∀ (K : Value → World → Prop) (w : World), Below W.heap.size W w → (∀ j ∈ depsOf ops n o, R j (vals j) w) → (∀ v w', G w w' → R i v w' → K v w') →
      Region.wanted o (yielded ops (putAll ops vals (depsOf ops n o) a).tmps) = true ∧ comesC P K ((execOp (putAll ops vals (depsOf ops n o) a).eval o).run P w)) : GrowStep P ops W n G R a vals i o := by
  intro w hb hd
  obtain ⟨h1, h2⟩ := h (fun v w' => G w w' ∧ R i v w') w hb hd fun v w' x y => ⟨x, y⟩
  refine ⟨h1, ?_⟩
  revert h2
  generalize (execOp (putAll ops vals (depsOf ops n o) a).eval o).run P w = r
  cases r with
  | halt x w => exact fun h => False.elim h
  | ok n w => cases n <;> first | exact fun h => False.elim h | exact fun h => h

/-! ### With the tmps named -/
def putZ : List (Option Tmp) → List Value → Act → Act
  | d :: ds, v :: vs, a => putZ ds vs (a.put d v)
  | _, _, a => a
theorem putZ_eq (vals : Nat → Value) : ∀ (ds : List Nat) (a : Act), putAll ops vals ds a = putZ (ds.map (dstOf ops)) (ds.map vals) a
  | [], _ => rfl
  | i :: ds, a => by simp only [putAll, List.map_cons, putZ]; exact putZ_eq vals ds _
theorem grow_val {a : Act} {vals : Nat → Value} {i : Nat} {o : Oper} (ds : List Nat) (qs : List (Option Tmp)) (hds : depsOf ops n o = ds) (hqs : ds.map (dstOf ops) = qs)
    (h : ∀ (K : Value → Act → World → Prop) (w : World), Below W.heap.size W w → (∀ j ∈ ds, R j (vals j) w) → (∀ v a' w', G w w' → R i v w' → K v a' w') →
      Region.wanted o (yielded ops (putZ qs (ds.map vals) a).tmps) = true ∧ comesV o (putZ qs (ds.map vals) a) K ((execOp (putZ qs (ds.map vals) a).eval o).run P w)) : GrowStep P ops W n G R a vals i o := by
  subst hds hqs
  refine growStep_val fun K w hb hd hK => ?_
  rw [putZ_eq]
  exact h K w hb hd hK
theorem grow_call {a : Act} {vals : Nat → Value} {i : Nat} {o : Oper} (ds : List Nat) (qs : List (Option Tmp)) (hds : depsOf ops n o = ds) (hqs : ds.map (dstOf ops) = qs)
    (h : ∀ (K : Value → World → Prop) (w : World), Below W.heap.size W w → (∀ j ∈ ds, R j (vals j) w) → (∀ v w', G w w' → R i v w' → K v w') →
      Region.wanted o (yielded ops (putZ qs (ds.map vals) a).tmps) = true ∧ comesC P K ((execOp (putZ qs (ds.map vals) a).eval o).run P w)) : GrowStep P ops W n G R a vals i o := by
  subst hds hqs
  refine growStep_call fun K w hb hd hK => ?_
  rw [putZ_eq]
  exact h K w hb hd hK
theorem wp_region_grows {id : Nat} {a : Act} {w : World} {l : List Oper} (W : World) (n : Nat) (G : World → World → Prop) (R : Nat → Value → World → Prop) (ts ns : List Nat) (qa : List (Option Tmp)) (hm : P.follows .mixedOrders = true) (hB : growB .any l.toArray n ts = true)
    (hns : List.range n = ns) (hqa : ns.map (dstOf l.toArray) = qa) (hW : Below W.heap.size W { w with drawn := w.drawn + 1 }) (hGB : ∀ w w', Below W.heap.size W w → G w w' → Below W.heap.size W w') (hmono : ∀ i v w w', R i v w → G w w' → R i v w')
    (h : ∀ vals, wpGrow P l.toArray W n G R a vals (∀ w, Below W.heap.size W w → (∀ i ∈ ns, R i (vals i) w) → wpList P l.toArray Q (pick l ts) (putZ qa (ns.map vals) a) w) 0 (l.take n)) :
    (Code.region id l.toArray true).wp P Q a w := by
  subst hns hqa
  refine wp_region_grow W n G R ts hm hB hW hGB hmono fun vals => ?_
  have := h vals
  revert this
  generalize l.take n = r
  intro h1
  suffices hh : ∀ (k : Nat) (r : List Oper) (F H : Prop), (F → H) → wpGrow P l.toArray W n G R a vals F k r → wpGrow P l.toArray W n G R a vals H k r by
    refine hh 0 r _ _ (fun hf w hb hR => ?_) h1
    rw [putZ_eq]
    exact hf w hb fun i hi => hR i (List.mem_range.1 hi)
  intro k r
  induction r generalizing k with
  | nil => intro F H h h2; exact h h2
  | cons o r ih => intro F H h h2; exact ⟨h2.1, ih (k + 1) F H h h2.2⟩
end
end Go.Hold

/-
  Slices of bytes: those that a call made, with bytes laid behind them; copies; new ones.
-/
namespace Go.Proofs.YtddmjddlbhdcpaaGreatDoor
open Go.RowKit Go.Hold Go.Sh

theorem info_u8 : (Tryz.prog.info? 5).map (fun i => (i.zero, i.size, i.bytes)) = some (some (.int .u8 0), 1, 1) := by kernel_rfl
def OwnB (w : World) (B : Nat) (v : Value) (l : List Nat) : Prop := w.ownsRow B 5 1 v l.length (bys l)
theorem owns_below {w w' : World} {B : Nat} {e : TypeId} {v : Value} {n : Nat} {xs : List Value} (h : w.ownsRow B e 1 v n xs) (hb : Below w.heap.size w w') : w'.ownsRow B e 1 v n xs :=
  h.kept (row := none) ⟨hb.os, hb.tape, hb.output, hb.size, fun k hk _ => hb.block k hk⟩ (by cases hv : v.ownBlock <;> simp)
theorem OwnB.below {w w' : World} {B : Nat} {v : Value} {l : List Nat} (h : OwnB w B v l) (hb : Below w.heap.size w w') : OwnB w' B v l := owns_below h hb
theorem OwnB.snoc {w : World} {B : Nat} {v : Value} {l m : List Nat} (h : w.ownsRow B 5 1 v (l.length + m.length) (bys l ++ bys m)) : OwnB w B v (l ++ m) := by
  unfold OwnB
  rw [List.length_append, show bys (l ++ m) = bys l ++ bys m by simp [bys]]; exact h
theorem OwnB.addr {w : World} {B : Nat} {v : Value} {l : List Nat} {k : Nat} (h : OwnB w B v l) (hk : l.length = k) (h0 : 0 < k) : ∃ g cap, v = .slice (some ⟨g, 0, none⟩) k cap ∧ B ≤ g ∧ g < w.heap.size ∧ k ≤ cap := by
  subst hk
  rcases h.2 with ⟨_, h1⟩ | ⟨g, cap, cur, rfl, hb, hg, hc, _⟩
  · omega
  · exact ⟨g, cap, rfl, hb, (Array.getElem?_eq_some_iff.1 hg).1, hc⟩
theorem OwnB.bytes {w : World} {B g cap k : Nat} {l : List Nat} (h : OwnB w B (.slice (some ⟨g, 0, none⟩) k cap) l) (hg : g < w.heap.size) : BytesAt w g 0 l := by
  refine ⟨hg, fun i hi => ?_⟩
  have hk : k = l.length := by
    rcases h.2 with ⟨h1, _⟩ | ⟨g', cap', cur, he, _⟩
    · cases h1
    · cases he; rfl
  subst hk
  rw [Nat.zero_add, World.ownsRow.cellAt h i (by omega)]
  simp [bys, hi]
theorem OwnB.base {w : World} {B B' : Nat} {v : Value} {l : List Nat} (h : OwnB w B v l) (hB : B' ≤ B) : OwnB w B' v l := by
  refine ⟨h.1, ?_⟩
  rcases h.2 with hn | ⟨g, cap, cur, rfl, hb, rest⟩
  · exact .inl hn
  · exact .inr ⟨g, cap, cur, rfl, Nat.le_trans hB hb, rest⟩
/-- '[]byte{}', '[]uint32{}'. -/
theorem ownB_empty (w : World) (B : Nat) (hB : B ≤ w.heap.size) : OwnB (w.alloc (.cells #[] 5)) B (.slice (some ⟨w.heap.size, 0, none⟩) 0 0) [] :=
  ⟨rfl, .inr ⟨w.heap.size, 0, #[], rfl, hB, block_new w _, Nat.le_refl _, by decide, rfl, rfl⟩⟩
theorem bys_one (l : List Nat) : ∀ u ∈ bys l, u.oneCell' = true := fun u hu => by
  simp only [bys, List.mem_map] at hu
  obtain ⟨x, _, rfl⟩ := hu; rfl
theorem bys_at {w : World} {b o : Nat} {l : List Nat} (h : BytesAt w b o l) : ∀ j u, (bys l)[j]? = some u → w.cell? ((⟨b, o, none⟩ : Addr).add j) = some u := fun j u hu => by
  have hj : j < l.length := by have := (List.getElem?_eq_some_iff.1 hu).1; rwa [bys_length] at this
  rw [Addr.add_mid, h.2 j hj, ← hu]
  simp [bys, hj]
theorem maxLen_small {n : Nat} (h : n ≤ 16777216) : n ≤ maxLen := by unfold maxLen; omega
theorem grown_below {B : Nat} {w w1 w2 : World} {e : TypeId} {v : Value} {n : Nat} {xs : List Value} (hb : Below B w w1) (ho : w1.ownsRow B e 1 v n xs) (hB : B ≤ w1.heap.size) (hg : w1.grownBy w2 v.ownBlock) : Below B w w2 :=
  hb.grown hg hB fun g hg' => (World.ownsRow.lt ho g hg').1
theorem OwnB.bs {w : World} {B : Nat} {v : Value} {l : List Nat} (h : OwnB w B v l) : ∃ p c, v = .slice p l.length c ∧ Bs0 w p l ∧ l.length ≤ c ∧ (p = none → c = 0) := by
  rcases h.2 with ⟨rfl, h0⟩ | ⟨g, cap, cur, rfl, hb, hg, hc, hm, hs, ht⟩
  · have : l = [] := List.length_eq_zero_iff.1 h0
    subst this
    exact ⟨none, 0, rfl, .inl rfl, Nat.le_refl _, fun _ => rfl⟩
  · exact ⟨some ⟨g, 0, none⟩, cap, rfl, .inr ⟨g, 0, rfl, OwnB.bytes h (Array.getElem?_eq_some_iff.1 hg).1⟩, hc, fun h => by cases h⟩
/-- Bytes are laid behind those of a slice of one's own. -/
theorem app_own {w : World} {B : Nat} {v : Value} {l m : List Nat} {p : Option Addr} {cap k : Nat} (h : OwnB w B v l) (hB : Bs0 w p m) (hk : k = m.length) (hp : p = none → cap = 0) (hBw : B ≤ w.heap.size) (hlen : l.length + m.length ≤ 16777216) :
    ∃ v' w', (Builtin.append_ #[38, 38] 38 #[v, .slice p k cap]).run Tryz.prog w = .ok v' w' ∧ OwnB w' B v' (l ++ m) ∧ w.grownBy w' v.ownBlock := by
  subst hk
  obtain ⟨i0, hi, hz0, hz1, hz2⟩ := info_parts info_u8
  cases p with
  | none =>
    have hm : m = [] := by
      rcases hB with h | ⟨b, o, h, _⟩
      · exact h
      · cases h
    subst hm
    rw [hp rfl]
    refine ⟨v, w, run_append_owned_none (P := Tryz.prog) (w := w) B _ _ _ i0 1 Tryz.underlying38 hi v _ _ h, by rw [List.append_nil]; exact h, ⟨rfl, rfl, rfl, Nat.le_refl _, fun _ _ _ => rfl⟩⟩
  | some a =>
    have hnews : ∀ j u, (bys m)[j]? = some u → w.cell? (a.add j) = some u := by
      rcases hB with rfl | ⟨b, o, he, hB⟩
      · intro j u hu; simp [bys] at hu
      · cases he; exact bys_at hB
    obtain ⟨v', w', h1, h2, h3, _⟩ := run_append_own (P := Tryz.prog) w B 38 38 5 i0 (.int .u8 0) 1 1 Tryz.underlying38 hi hz0 hz1 hz2 rfl (by decide) v l.length (bys l) h a m.length cap (bys m) (by rw [bys_length, Nat.mul_one]) hnews (bys_one m) (maxLen_small hlen) (by omega) hBw
    exact ⟨v', w', h1, OwnB.snoc h2, h3⟩
theorem own_below {B : Nat} {w w1 w2 : World} {v : Value} {l : List Nat} (hb : Below B w w1) (ho : OwnB w1 B v l) (hB : B ≤ w1.heap.size) (hg : w1.grownBy w2 v.ownBlock) : Below B w w2 := grown_below hb ho hB hg
theorem own_nil (w : World) (B : Nat) : OwnB w B (.slice none 0 0) [] := World.ownsRow_nil w B _ _
/-- What lay there before lies there still. -/
theorem Bs0.keep {w w' : World} {p : Option Addr} {l : List Nat} (h : Bs0 w p l) (hb : Below w.heap.size w w') : Bs0 w' p l := h.grow hb
theorem Bs0.some {w : World} {g o : Nat} {l : List Nat} (h : BytesAt w g o l) : Bs0 w (some ⟨g, o, none⟩) l := .inr ⟨g, o, rfl, h⟩
theorem slB_h (a : Option Addr) (len cap n : Nat) (h : n ≤ cap) (w : World) : (slB (.slice a len cap) none (some (.int .i64 (n : Int))) none).run Tryz.prog w = .ok (.slice a n cap) w := by
  unfold slB
  rw [run_sliceAt_slice _ _ _ _ _ _ elem8, run_slice_h _ _ _ _ _ elem8 _ _ (by omega) (by omega), size8]
  cases a <;> simp [sliced, Result.andThen, Addr.add]
@[go_sem] theorem slB_h0 (a : Option Addr) (len cap : Nat) (w : World) : (slB (.slice a len cap) none (some (.int .i64 0)) none).run Tryz.prog w = .ok (.slice a 0 cap) w := slB_h a len cap 0 (Nat.zero_le _) w
theorem slB_hm (a : Option Addr) (len cap n : Nat) (h : n ≤ cap) (w : World) : (slB (.slice a len cap) none (some (.int .i64 (n : Int))) (some (.int .i64 (n : Int)))).run Tryz.prog w = .ok (.slice a n n) w := by
  unfold slB
  rw [run_sliceAt_slice _ _ _ _ _ _ elem8, run_slice_hm _ _ _ _ _ elem8 _ _ _ _ (by omega) (Int.le_refl _) (by omega), size8]
  cases a <;> simp [sliced, Result.andThen, Addr.add]
def mkS (l c : Value) : Sem Value := Instr.makeSlice 38 l c
@[go_sem ↓] theorem fold_make (l c : Value) : Instr.makeSlice 38 l c = mkS l c := rfl
theorem made_zs (n : Nat) : madeCells (Value.int IntKind.u8 0).cells (n * 1) = bysA (zs n) := by
  apply Array.ext_getElem?
  intro i
  by_cases h : i < n
  · rw [bysA_get _ i (by rw [zs_length]; exact h)]
    simp only [madeCells, Array.getElem?_map, Array.getElem?_range, Nat.mul_one, if_pos h, Option.map_some, zs, List.getD, List.getElem?_replicate, Option.getD_some]
    rw [show (Value.int IntKind.u8 0).cells.size = 1 from rfl, Nat.mod_one]; rfl
  · rw [Array.getElem?_eq_none (by simp [madeCells]; omega), Array.getElem?_eq_none (by rw [bysA_size, zs_length]; omega)]
theorem run_mkS (w : World) (n : Nat) (h : n ≤ 16777216) : (mkS (.int .i64 (n : Int)) (.int .i64 (n : Int))).run Tryz.prog w = .ok (.slice (some ⟨w.heap.size, 0, none⟩) n n) (w.alloc (.cells (bysA (zs n)) 5)) := by
  obtain ⟨i0, hi, hz0, hz1, hz2⟩ := info_parts info_u8
  have := run_make (P := Tryz.prog) w 38 5 i0 (.int .u8 0) Tryz.underlying38 hi hz0 .i64 .i64 (n : Int) (n : Int) (by omega) (Int.le_refl _) (by rw [hz2]; omega) (by omega)
  unfold mkS
  rw [this, hz1, Int.toNat_natCast, made_zs]
@[go_sem] theorem run_mkS64 (w : World) : (mkS (.int .i64 64) (.int .i64 64)).run Tryz.prog w = .ok (.slice (some ⟨w.heap.size, 0, none⟩) 64 64) (w.alloc (.cells (bysA (zs 64)) 5)) := run_mkS w 64 (by decide)
theorem setL_bys (r l : List Nat) (h : l.length ≤ r.length) : setL (bysA r) 0 (bys l) = bysA (l ++ r.drop l.length) := by
  apply Array.ext_getElem?
  intro i
  rw [setL_get, bys_length, bysA_size]
  have hn : (l ++ r.drop l.length).length = r.length := by simp; omega
  by_cases hi : i < r.length
  · rw [bysA_get (l ++ r.drop l.length) i (by rw [hn]; exact hi)]
    by_cases h1 : i < l.length
    · rw [if_pos (by omega), Nat.sub_zero]
      simp [bys, List.getD, h1, List.getElem?_append_left h1]
    · rw [if_neg (by omega), bysA_get _ i hi]
      simp only [List.getD]
      rw [List.getElem?_append_right (by omega), List.getElem?_drop, show l.length + (i - l.length) = i by omega]
  · rw [if_neg (by omega), Array.getElem?_eq_none (by rw [bysA_size]; omega), Array.getElem?_eq_none (by rw [bysA_size, hn]; omega)]
/-- Bytes go over the first ones of a row. -/
theorem copy_bytes {W : World} {g c2 cap d s k : Nat} {p : Option Addr} {r l : List Nat} (h : RowAt W g (bysA r)) (hd : d = r.length) (hs : s = l.length) (hk : k = min l.length r.length) (hB : Bs0 W p l) :
    (Builtin.copy_ #[38, 38] 3 #[.slice (some ⟨g, 0, none⟩) d c2, .slice p s cap]).run Tryz.prog W = .ok (.int .i64 (k : Int)) (W.setRow g (bysA (l.take k ++ r.drop k))) := by
  subst hd hs
  rcases hB with rfl | ⟨b, o, rfl, hB⟩
  · have hk0 : k = 0 := by simpa using hk
    subst hk0
    rw [List.take_zero, List.nil_append, List.drop_zero, setRow_self h]
    exact copy_none W _ _ _ _ _
  · have hl : (bys (l.take k)).length = k := by rw [bys_length, List.length_take]; omega
    have hi : (Tryz.prog.info? 5).map (·.size) = some 1 := by kernel_rfl
    have := run_copy_cells (P := Tryz.prog) W 38 38 3 5 g 0 r.length c2 ⟨b, o, none⟩ l.length cap (bys (l.take k)) Tryz.underlying38 hi (by rw [hl, hk])
      (fun j v hv => by
        have hj : j < k := by have := (List.getElem?_eq_some_iff.1 hv).1; omega
        rw [Addr.add_mid, hB.2 j (by omega), ← hv]
        simp only [bys, List.getElem?_map, List.getElem?_take, if_pos hj, List.getD]
        rw [List.getElem?_eq_getElem (by omega)]; rfl)
      (fun j hj => by rw [h.cellAt (0 + j) (Array.getElem?_eq_getElem (by rw [bysA_size]; omega))]; rfl)
      (fun j _ => h.frozenAt _) (bys_one _)
    rw [this, hl, setCells_row _ _ h, setL_bys _ _ (by rw [List.length_take]; omega)]
    rw [show (l.take k).length = k by rw [List.length_take]; omega]
    rfl
/-- A slice of bytes as a value. -/
def SlV (w : World) (v : Value) (l : List Nat) : Prop := ∃ p c, v = .slice p l.length c ∧ Bs0 w p l ∧ l.length ≤ c ∧ (p = none → c = 0)
theorem SlV.grow {w w' : World} {v : Value} {l : List Nat} (h : SlV w v l) (hb : Below w.heap.size w w') : SlV w' v l := by
  obtain ⟨p, c, rfl, h1, h2, h3⟩ := h
  exact ⟨p, c, rfl, h1.grow hb, h2, h3⟩
theorem u8_wrap (n : Nat) : IntKind.u8.wrap (n : Int) = ((n % 256 : Nat) : Int) := by rw [IntKind.wrap_u8]; omega
def bldB (n : Nat) (ps : Array (Nat × Value)) : Sem Value := Instr.buildSlice 38 n ps
@[go_sem ↓] theorem fold_bldB (n : Nat) (ps : Array (Nat × Value)) : Instr.buildSlice 38 n ps = bldB n ps := rfl
set_option maxRecDepth 100000 in
@[go_sem] theorem run_bldB1 (w : World) (b : Int) : (bldB 1 #[(0, .int .u8 b)]).run Tryz.prog w = .ok (.slice (some ⟨w.heap.size, 0, none⟩) 1 1) (w.alloc (.cells #[.int .u8 b] 5)) := by
  obtain ⟨ie, h1, h2, h3, _⟩ := info_parts info_u8
  refine run_buildSlice w _ _ 1 _ #[.int .u8 b] ie _ Tryz.underlying38 h1 h2 (by rw [h3]; decide) (by rw [h3]; decide) ?_
  rw [h3]; kernel_rfl
theorem Bs0.take {w : World} {p : Option Addr} {l : List Nat} (h : Bs0 w p l) (n : Nat) : Bs0 w p (l.take n) := by
  rcases h with rfl | ⟨b, o, rfl, h⟩
  · exact .inl (by simp)
  · refine .inr ⟨b, o, rfl, h.1, fun i hi => ?_⟩
    rw [List.length_take] at hi
    rw [h.2 i (by omega)]
    simp [List.getD, show i < n by omega]
theorem OwnB.kept {w w' : World} {B : Nat} {v : Value} {l : List Nat} {row : Option Nat} (h : OwnB w B v l) (hg : w.grownBy w' row) (hne : v.ownBlock = none ∨ v.ownBlock ≠ row) : OwnB w' B v l := World.ownsRow.kept h hg hne
theorem OwnB.ltb {w : World} {B : Nat} {v : Value} {l : List Nat} (h : OwnB w B v l) (k : Nat) (hk : v.ownBlock = some k) : B ≤ k ∧ k < w.heap.size := World.ownsRow.lt h k hk
@[go_sem] theorem run_bldB0 (w : World) : (bldB 0 #[]).run Tryz.prog w = .ok (.slice (some ⟨w.heap.size, 0, none⟩) 0 0) (w.alloc (.cells #[] 5)) := by
  obtain ⟨ie, h1, h2, h3, _⟩ := info_parts info_u8
  simp [bldB, Instr.buildSlice, run_underlying Tryz.underlying38, sizeOf, typeInfo, h1, Instr.fill, Array.range_zero', newObj, newRow]
  rfl
end Go.Proofs.YtddmjddlbhdcpaaGreatDoor

/-
  Rows of bytes are compared: the whole comparison under a name of its own, so that the kernel does not open it in a walk.
-/
namespace Go.Proofs.YtddmjddlbhdcpaaGreatDoor
open Go.RowKit Go.Hold Go.Sh

/-- The test ahead of a comparison, and the comparison. -/
def eqV (op : BinOp) (t : TypeId) (x y : Operand) (v v' : Value) : Sem Value := do eqGuard op t x y v v'; Go.binOp op t v v'
theorem eq_all {n : Nat} {l m : List Nat} (hl : l.length = n) (hm : m.length = n) : ((List.range n).all fun i => ((l.getD i 0 : Nat) : Int) == ((m.getD i 0 : Nat) : Int)) = decide (l = m) := by
  rw [Bool.eq_iff_iff]
  simp only [List.all_eq_true, List.mem_range, beq_iff_eq, decide_eq_true_iff]
  constructor
  · intro h
    refine List.ext_getElem (by omega) fun i h1 h2 => ?_
    have := h i (by omega)
    simp only [List.getD, List.getElem?_eq_getElem h1, List.getElem?_eq_getElem h2, Option.getD_some] at this
    omega
  · rintro rfl i _; rfl
/-- Two arrays of bytes. -/
theorem equalIn_bytes {t : TypeId} {n : Nat} (hu : Tryz.prog.underlying t = some (.array n 5)) (d : Nat) {l m : List Nat} (hl : l.length = n) (hm : m.length = n) (w : World) :
    (Op.equalIn (d + 3) t (.agg (bysA l)) (.agg (bysA m))).run Tryz.prog w = .ok (decide (l = m)) w := by
  obtain ⟨i, hi⟩ : ∃ i, Tryz.prog.info? 5 = some i := Option.isSome_iff_exists.1 (by kernel_rfl)
  rw [run_equalIn_array w (d + 2) (bysA l) (bysA m) hu hi, show Tryz.prog.cellsOf 5 = 1 from by kernel_rfl, ← eq_all hl hm]
  exact run_eqItems_int (P := Tryz.prog) (k := .u8) (d + 1) Tryz.underlying5 (bysA l) (bysA m) (fun i => ((l.getD i 0 : Nat) : Int)) (fun i => ((m.getD i 0 : Nat) : Int)) w (List.range n) fun j hj => ⟨bysA_get l j (by have := List.mem_range.1 hj; omega), bysA_get m j (by have := List.mem_range.1 hj; omega)⟩
theorem run_eqV {t : TypeId} {n : Nat} (hu : Tryz.prog.underlying t = some (.array n 5)) (hg : Tryz.prog.eqGuardType Tryz.prog.depth t = false) (x y : Operand) {l m : List Nat} (hl : l.length = n) (hm : m.length = n) (w : World) :
    (eqV .eql t x y (.agg (bysA l)) (.agg (bysA m))).run Tryz.prog w = .ok (.bool (decide (l = m))) w := by
  unfold eqV
  rw [Sem.run_bind, run_eqGuard_agg w .eql t x y _ _ hg, Result.andThen_ok, run_eql_struct, show (10000 : Nat) = 9997 + 3 from rfl, equalIn_bytes hu 9997 hl hm]
  rfl
theorem run_neV {t : TypeId} {n : Nat} (hu : Tryz.prog.underlying t = some (.array n 5)) (hg : Tryz.prog.eqGuardType Tryz.prog.depth t = false) (x y : Operand) {l m : List Nat} (hl : l.length = n) (hm : m.length = n) (w : World) :
    (eqV .neq t x y (.agg (bysA l)) (.agg (bysA m))).run Tryz.prog w = .ok (.bool (!decide (l = m))) w := by
  unfold eqV
  rw [Sem.run_bind, run_eqGuard_agg w .neq t x y _ _ hg, Result.andThen_ok, run_neq_struct, show (10000 : Nat) = 9997 + 3 from rfl, equalIn_bytes hu 9997 hl hm]
  rfl
/-- A comparison at the type of 16 bytes, as the walk meets it. -/
@[go_sem ↓ high] theorem fold_eq16 (a : Operand → Value) (d : Option Tmp) (op : BinOp) (x y : Operand) (u t : TypeId) (p : String) (af : Array Edge) (g : Option (Nat × Bool)) :
    execOp a ⟨d, .binOp op 28 x y u, t, p, af, g⟩ = (do pure (.value (← eqV op 28 x y (a x) (a y)))) := rfl
@[go_sem] theorem run_eq16 (x y : Operand) (l m : List Nat) (hl : l.length = 16) (hm : m.length = 16) (w : World) :
    (eqV .eql 28 x y (.agg (bysA l)) (.agg (bysA m))).run Tryz.prog w = .ok (.bool (decide (l = m))) w := run_eqV Tryz.underlying28 (by kernel_rfl) x y hl hm w
@[go_sem] theorem run_ne16 (x y : Operand) (l m : List Nat) (hl : l.length = 16) (hm : m.length = 16) (w : World) :
    (eqV .neq 28 x y (.agg (bysA l)) (.agg (bysA m))).run Tryz.prog w = .ok (.bool (!decide (l = m))) w := run_neV Tryz.underlying28 (by kernel_rfl) x y hl hm w
end Go.Proofs.YtddmjddlbhdcpaaGreatDoor

/-
  Bytes that are laid down, and taken, as lists of numbers. Of no program.
-/
namespace Go.Oc
open Go Go.Sh

/-! ### Numbers in bytes -/
/-- The i-th byte of a number in so many bytes. -/
def dgt (n size i : Nat) : Nat := n / 2 ^ (8 * (size - 1 - i)) % 256
def digN (n size : Nat) : List Nat := (List.range size).map (dgt n size)
def joinN (l : List Nat) : Nat := l.foldl (fun a x => a * 256 + x) 0
theorem dig_length (n size : Nat) : (digN n size).length = size := by simp [digN]
theorem join_snoc (l : List Nat) (x : Nat) : joinN (l ++ [x]) = joinN l * 256 + x := by simp [joinN]
theorem fold_lt : ∀ (l : List Nat) (a : Nat), (∀ x ∈ l, x < 256) → l.foldl (fun a x => a * 256 + x) a < (a + 1) * 2 ^ (8 * l.length)
  | [], a, _ => by simp
  | x :: l, a, h => by
    have h1 := fold_lt l (a * 256 + x) fun y hy => h y (by simp [hy])
    have h2 : x < 256 := h x (by simp)
    rw [List.foldl_cons, List.length_cons, Nat.mul_add, Nat.mul_one, Nat.add_comm (8 * l.length) 8, Nat.pow_add, ← Nat.mul_assoc]
    refine Nat.lt_of_lt_of_le h1 (Nat.mul_le_mul_right _ ?_)
    show a * 256 + x + 1 ≤ (a + 1) * 256
    omega
theorem join_lt (l : List Nat) (h : ∀ i, l.getD i 0 < 256) : joinN l < 2 ^ (8 * l.length) := by
  have := fold_lt l 0 (mem_lt h)
  simpa [joinN] using this
/-- Has a number room in some bytes? -/
def Fits (n : Nat) (sz : Int) : Prop := 1 ≤ sz ∧ sz ≤ 8 ∧ n < 2 ^ (8 * sz.toNat)
instance (n : Nat) (sz : Int) : Decidable (Fits n sz) := by unfold Fits; infer_instance

/-! ### A writer: its first error, and its bytes -/
abbrev Ws := Int × List Nat
def layS (room : Nat) (l m : List Nat) : Ws := if room < l.length + m.length then (8, l) else (0, l ++ m)
def numS (room : Nat) (s : Ws) (n : Nat) (sz : Int) : Ws := if s.1 ≠ 0 then s else if ¬ Fits n sz then (2, s.2) else layS room s.2 (digN n sz.toNat)
def bytS (room : Nat) (s : Ws) (m : List Nat) : Ws := if s.1 ≠ 0 then s else layS room s.2 m
def filS (room : Nat) (s : Ws) (to : Int) : Ws := if s.1 ≠ 0 then s else if to < (s.2.length : Int) then (2, s.2) else if (room : Int) < to then (8, s.2) else layS room s.2 (zs (to.toNat - s.2.length))
/-- What all of it is. -/
def allL (s : Ws) : List Nat := if s.1 ≠ 0 then [] else s.2
/-! ### A reader: its first error, and the bytes that are left -/
def takS (s : Ws) (n : Nat) : Ws := if s.2.length < n then (4, s.2) else (0, s.2.drop n)
def rnumS (s : Ws) (sz : Int) : Ws := if s.1 ≠ 0 then s else if ¬ (1 ≤ sz ∧ sz ≤ 8) then (2, s.2) else takS s sz.toNat
def rnumV (s : Ws) (sz : Int) : Nat := if s.1 = 0 ∧ (1 ≤ sz ∧ sz ≤ 8) ∧ sz.toNat ≤ s.2.length then joinN (s.2.take sz.toNat) else 0
def rbytS (s : Ws) (n : Int) : Ws := if s.1 ≠ 0 then s else if n < 0 then (2, s.2) else takS s n.toNat
def rbytV (s : Ws) (n : Int) : List Nat := if s.1 = 0 ∧ 0 ≤ n ∧ n.toNat ≤ s.2.length then s.2.take n.toNat else []
def leftS (s : Ws) : Nat := if s.1 ≠ 0 then 0 else s.2.length
def doneS (s : Ws) : Bool := decide (s.1 = 0) && s.2.all (· == 0)
end Go.Oc

/-
  Commands, and their bytes, as numbers and lists. Of no program.
-/
namespace Go.Cm
open Go Go.Sh Go.Oc

/-- A command: its kind, the next one, a delay, an id. -/
structure Cmd where
  k : Int
  n : Int
  d : Int
  id : List Nat
/-- May there be such a command? -/
def Cmd.may (c : Cmd) : Bool :=
  if c.k = 1 then decide (0 ≤ c.n ∧ c.n < 16) && decide (0 ≤ c.d ∧ c.d < 65) && decide (c.id = zs 8)
  else if c.k = 2 then decide (0 ≤ c.n ∧ c.n < 8) && decide (c.d = 0) && decide (c.id = zs 8)
  else if c.k = 3 then decide (0 ≤ c.n ∧ c.n < 8) && decide (c.d = 0)
  else if c.k = 4 then decide (c.n = 0) && decide (c.d = 0) && decide (c.id = zs 8)
  else false
/-- Its bytes. -/
def Cmd.enc (c : Cmd) : List Nat := [c.k.toNat % 256, c.n.toNat % 256, c.d.toNat / 256 % 256, c.d.toNat % 256] ++ c.id ++ zs 4
/-- The command that bytes would say. -/
def ofB (b : List Nat) : Cmd := ⟨(b.getD 0 0 : Nat), (b.getD 1 0 : Nat), ((b.getD 2 0 * 256 + b.getD 3 0 : Nat) : Int), (b.drop 4).take 8⟩
/-- Are bytes a command's? -/
def okB (b : List Nat) : Bool := (b.drop 12).all (· == 0) && (ofB b).may
def Cmd.zero : Cmd := ⟨0, 0, 0, zs 8⟩
/-- What is answered: the bytes, or noughts; the error. -/
def encV (c : Cmd) : List Nat := if c.may then c.enc else zs 16
def encE (c : Cmd) : Int := if c.may then 0 else 2
def decV (b : List Nat) : Cmd := if okB b then ofB b else .zero
def decE (b : List Nat) : Int := if okB b then 0 else 5

theorem may_range {c : Cmd} (h : c.may = true) : (1 ≤ c.k ∧ c.k < 5) ∧ (0 ≤ c.n ∧ c.n < 16) ∧ (0 ≤ c.d ∧ c.d < 65) := by
  unfold Cmd.may at h
  split at h
  · simp at h; omega
  split at h
  · simp at h; omega
  split at h
  · simp at h; omega
  split at h
  · simp at h; omega
  · cases h
theorem enc_length {c : Cmd} (h : c.id.length = 8) : c.enc.length = 16 := by simp [Cmd.enc, h, zs]
theorem enc_bts {c : Cmd} (h : ∀ i, c.id.getD i 0 < 256) : ∀ i, c.enc.getD i 0 < 256 := by
  refine getD_lt fun x hx => ?_
  simp only [Cmd.enc, List.mem_append, List.mem_cons, List.not_mem_nil, or_false] at hx
  rcases hx with ((rfl | rfl | rfl | rfl) | hx) | hx
  · exact Nat.mod_lt _ (by decide)
  · exact Nat.mod_lt _ (by decide)
  · exact Nat.mod_lt _ (by decide)
  · exact Nat.mod_lt _ (by decide)
  · exact mem_lt h x hx
  · simp [zs] at hx; omega
theorem ofB_enc {c : Cmd} (hi : c.id.length = 8) (h : c.may = true) : ofB c.enc = c := by
  obtain ⟨h1, h2, h3⟩ := may_range h
  obtain ⟨k, n, d, id⟩ := c
  simp only at h1 h2 h3 hi
  simp only [ofB, Cmd.enc, List.cons_append, List.nil_append, List.getD_cons_zero, List.getD_cons_succ, List.drop_succ_cons, List.drop_zero, Cmd.mk.injEq]
  refine ⟨by omega, by omega, by omega, ?_⟩
  rw [← hi, List.take_left]
theorem okB_enc {c : Cmd} (hi : c.id.length = 8) (h : c.may = true) : okB c.enc = true := by
  unfold okB
  rw [ofB_enc hi h, h, Bool.and_true]
  have : c.enc.drop 12 = zs 4 := by
    simp only [Cmd.enc, List.cons_append, List.nil_append, List.drop_succ_cons]
    rw [← hi, List.drop_left]
  rw [this]; decide
theorem ofB_id (b : List Nat) (hb : b.length = 16) : (ofB b).id.length = 8 := by simp [ofB, hb]
theorem encV_length {c : Cmd} (h : c.id.length = 8) : (encV c).length = 16 := by
  unfold encV; split
  · exact enc_length h
  · simp [zs]
theorem encV_bts {c : Cmd} (h : ∀ i, c.id.getD i 0 < 256) : ∀ i, (encV c).getD i 0 < 256 := by
  unfold encV; split
  · exact enc_bts h
  · exact bts_zs _
theorem decV_id {b : List Nat} (hb : b.length = 16) : (decV b).id.length = 8 := by
  unfold decV; split
  · exact ofB_id b hb
  · simp [Cmd.zero, zs]
end Go.Cm

/-
  Package command: a command as cells; an id among them.
-/
namespace Go.Proofs.YtddmjddlbhdcpaaGreatDoor
open Go.RowKit Go.Hold Go.Sh Go.Cm

/-- A command's cells. -/
def cmdA (c : Cmd) : Array Value := (([.int .i64 c.k, .int .i64 c.n, .int .i64 c.d] : List Value) ++ bys c.id).toArray
theorem cmdA_size {c : Cmd} (h : c.id.length = 8) : (cmdA c).size = 11 := by simp [cmdA, bys, h]
@[go_sem] theorem cmdA_0 (c : Cmd) : (cmdA c)[0]? = some (.int .i64 c.k) := by simp [cmdA]
@[go_sem] theorem cmdA_1 (c : Cmd) : (cmdA c)[1]? = some (.int .i64 c.n) := by simp [cmdA]
@[go_sem] theorem cmdA_2 (c : Cmd) : (cmdA c)[2]? = some (.int .i64 c.d) := by simp [cmdA]
@[go_sem] theorem cmdA_g0 (c : Cmd) (h : 0 < (cmdA c).size) : (cmdA c)[0]'h = .int .i64 c.k := by simp [cmdA]
@[go_sem] theorem cmdA_g1 (c : Cmd) (h : 1 < (cmdA c).size) : (cmdA c)[1]'h = .int .i64 c.n := by simp [cmdA]
@[go_sem] theorem cmdA_g2 (c : Cmd) (h : 2 < (cmdA c).size) : (cmdA c)[2]'h = .int .i64 c.d := by simp [cmdA]
@[go_sem] theorem cmdA_one (c : Cmd) : oneAll (cmdA c) = true := by simp [oneAll, cmdA, bys, Value.oneCell']
theorem cmdA_get (c : Cmd) (i : Nat) (h : i < c.id.length) : (cmdA c)[3 + i]? = some (.int .u8 ((c.id.getD i 0 : Nat) : Int)) := by
  simp only [cmdA, List.getElem?_toArray]
  rw [List.getElem?_append_right (by simp)]
  simp [bys, h]
@[go_sem] theorem cmdA_ext (c : Cmd) (h : c.id.length = 8) : (cmdA c).extract 3 11 = bysA c.id := by
  apply Array.ext_getElem?
  intro i
  rw [Array.getElem?_extract, cmdA_size h]
  by_cases hi : i < 8
  · rw [if_pos (by omega), cmdA_get c i (by omega), bysA_get _ i (by omega)]
  · rw [if_neg (by omega), Array.getElem?_eq_none (by rw [bysA_size]; omega)]
theorem bytes_cmd {w : World} {g : Nat} {c : Cmd} (h : RowAt w g (cmdA c)) : BytesAt w g 3 c.id :=
  ⟨h.2.2, fun i hi => h.cellAt (3 + i) (cmdA_get c i hi)⟩
/-- The middle of a row, as a value. -/
theorem run_loadMid {t : TypeId} {d : TypeDesc} {o k : Nat} (hu : Tryz.prog.underlying t = some d) (hd : d.isRow = true) (hi : (Tryz.prog.info? t).map (·.size) = some k) (w : World) (n : Nat) (h1 : w.isRow n = true) (h2 : o + k ≤ (w.rowOf n).size) :
    (loadRow t (.pointer (some ⟨n, o, none⟩))).run Tryz.prog w = .ok (.agg ((w.rowOf n).extract o (o + k))) w := by
  obtain ⟨s, hs⟩ := World.isRow_spec h1
  have := run_loadAt_mid (P := Tryz.prog) w n o t ((w.rowOf n).extract o (o + k)).toList d (World.rangeAt_of_block hs o k) hu hd (by rw [hi]; simp; omega)
  rw [Array.toArray_toList] at this
  exact this
@[go_sem ↓] theorem loadAt_cmd (v : Value) : Instr.loadAt 51 v = loadRow 51 v := rfl
@[go_sem] theorem run_loadCmd (w : World) (n : Nat) (h1 : w.isRow n = true) (h2 : (w.rowOf n).size = 11) : (loadRow 51 (.pointer (some ⟨n, 0, none⟩))).run Tryz.prog w = .ok (.agg (w.rowOf n)) w := run_loadRow w Tryz.underlying51 rfl (by kernel_rfl) n h1 h2
@[go_sem ↓] theorem loadAt_id (v : Value) : Instr.loadAt 49 v = loadRow 49 v := rfl
@[go_sem] theorem run_loadId (w : World) (n : Nat) (h1 : w.isRow n = true) (h2 : (w.rowOf n).size = 11) : (loadRow 49 (.pointer (some ⟨n, 3, none⟩))).run Tryz.prog w = .ok (.agg ((w.rowOf n).extract 3 11)) w := run_loadMid (k := 8) Tryz.underlying49 rfl (by kernel_rfl) w n h1 (by omega)
@[go_sem ↓] theorem loadAt_b16 (v : Value) : Instr.loadAt 28 v = loadRow 28 v := rfl
@[go_sem] theorem run_loadB16 (w : World) (n : Nat) (h1 : w.isRow n = true) (h2 : (w.rowOf n).size = 16) : (loadRow 28 (.pointer (some ⟨n, 0, none⟩))).run Tryz.prog w = .ok (.agg (w.rowOf n)) w := run_loadRow w Tryz.underlying28 rfl (by kernel_rfl) n h1 h2
@[go_sem ↓] theorem build_cmd (ps : Array (Nat × Value)) : Instr.build 51 ps = bldA 51 ps := rfl
@[go_sem ↓] theorem build_id (ps : Array (Nat × Value)) : Instr.build 49 ps = bldA 49 ps := rfl
@[go_sem ↓] theorem build_b16 (ps : Array (Nat × Value)) : Instr.build 28 ps = bldA 28 ps := rfl
@[go_sem] theorem run_bldCmd0 (w : World) : (bldA 51 #[]).run Tryz.prog w = .ok (.agg (cmdA .zero)) w := run_build w _ _ _ (by kernel_rfl)
@[go_sem] theorem run_bldCmd3 (k n d : Int) (w : World) : (bldA 51 #[(0, .int .i64 k), (1, .int .i64 n), (2, .int .i64 d)]).run Tryz.prog w = .ok (.agg (cmdA ⟨k, n, d, zs 8⟩)) w := run_build w _ _ _ (by kernel_rfl)
@[go_sem] theorem run_bldId0 (w : World) : (bldA 49 #[]).run Tryz.prog w = .ok (.agg (bysA (zs 8))) w := run_build w _ _ _ (by kernel_rfl)
@[go_sem] theorem run_bldB16 (w : World) : (bldA 28 #[]).run Tryz.prog w = .ok (.agg (bysA (zs 16))) w := run_build w _ _ _ (by kernel_rfl)
theorem run_bldCmd4 (c : Cmd) (h : c.id.length = 8) (w : World) : (bldA 51 #[(0, .int .i64 c.k), (1, .int .i64 c.n), (2, .int .i64 c.d), (3, .agg (bysA c.id))]).run Tryz.prog w = .ok (.agg (cmdA c)) w := by
  obtain ⟨k, n, d, id⟩ := c
  match id, h with
  | [a0, a1, a2, a3, a4, a5, a6, a7], _ => exact run_build w _ _ _ (by kernel_rfl)
/-- A comparison of ids, as the walk meets it. -/
@[go_sem ↓ high] theorem fold_eqId (a : Operand → Value) (d : Option Tmp) (op : BinOp) (x y : Operand) (u t : TypeId) (p : String) (af : Array Edge) (g : Option (Nat × Bool)) :
    execOp a ⟨d, .binOp op 49 x y u, t, p, af, g⟩ = (do pure (.value (← eqV op 49 x y (a x) (a y)))) := rfl
@[go_sem] theorem run_eqId (x y : Operand) (l m : List Nat) (hl : l.length = 8) (hm : m.length = 8) (w : World) :
    (eqV .eql 49 x y (.agg (bysA l)) (.agg (bysA m))).run Tryz.prog w = .ok (.bool (decide (l = m))) w := run_eqV Tryz.underlying49 (by kernel_rfl) x y hl hm w
/-- What a function answers: a command, or 16 bytes, and a number. -/
theorem results_cmd {fn : Func} {p p' : Tmp} (h : fn.results = #[.cell p 51, .tmp p']) (c : Cmd) (hc : c.id.length = 8) (x : Value) (w : World) (tmps : Array Value) (n : Nat) (hp : tmps.getD p undef = .pointer (some ⟨n, 0, none⟩)) (h1 : w.isRow n = true) (h2 : w.rowOf n = cmdA c) (hx : tmps.getD p' undef = x) :
    (results fn tmps).run Tryz.prog w = .ok (.tuple #[.agg (cmdA c), x]) w :=
  results_row_slot w h Tryz.underlying51 rfl (by rw [cmdA_size hc]; kernel_rfl) tmps n hp h1 h2 hx
theorem results_b16 {fn : Func} {p p' : Tmp} (h : fn.results = #[.cell p 28, .tmp p']) (l : List Nat) (hl : l.length = 16) (x : Value) (w : World) (tmps : Array Value) (n : Nat) (hp : tmps.getD p undef = .pointer (some ⟨n, 0, none⟩)) (h1 : w.isRow n = true) (h2 : w.rowOf n = bysA l) (hx : tmps.getD p' undef = x) :
    (results fn tmps).run Tryz.prog w = .ok (.tuple #[.agg (bysA l), x]) w :=
  results_row_slot w h Tryz.underlying28 rfl (by rw [bysA_size, hl]; kernel_rfl) tmps n hp h1 h2 hx
end Go.Proofs.YtddmjddlbhdcpaaGreatDoor

/-
  Slices of words that a call made.
-/
namespace Go.Proofs.YtddmjddlbhdcpaaGreatDoor
open Go.RowKit Go.Hold Go.Sh

theorem info_u32 : (Tryz.prog.info? 129).map (fun i => (i.zero, i.size, i.bytes)) = some (some (.int .u32 0), 1, 4) := by kernel_rfl
def OwnW (w : World) (B : Nat) (v : Value) (l : List Int) : Prop := w.ownsRow B 129 1 v l.length (wos l)
def WordsAt (w : World) (g : Nat) (l : List Int) : Prop := g < w.heap.size ∧ ∀ i, i < l.length → w.cell? ⟨g, i, none⟩ = some (.int .u32 (l.getD i 0))
theorem WordsAt.grow {w w' : World} {g : Nat} {l : List Int} (h : WordsAt w g l) (hb : Below w.heap.size w w') : WordsAt w' g l :=
  ⟨Nat.lt_of_lt_of_le h.1 hb.size, fun i hi => by rw [hb.cell h.1]; exact h.2 i hi⟩
theorem OwnW.below {w w' : World} {B : Nat} {v : Value} {l : List Int} (h : OwnW w B v l) (hb : Below w.heap.size w w') : OwnW w' B v l := owns_below h hb
theorem OwnW.snoc {w : World} {B : Nat} {v : Value} {l : List Int} {x : Int} (h : w.ownsRow B 129 1 v (l.length + 1) (wos l ++ [.int .u32 x])) : OwnW w B v (l ++ [x]) := by
  unfold OwnW
  rw [List.length_append, show wos (l ++ [x]) = wos l ++ [.int .u32 x] by simp [wos]]; exact h
theorem OwnW.addr {w : World} {B : Nat} {v : Value} {l : List Int} {k : Nat} (h : OwnW w B v l) (hk : l.length = k) (h0 : 0 < k) : ∃ g cap, v = .slice (some ⟨g, 0, none⟩) k cap ∧ B ≤ g ∧ g < w.heap.size ∧ k ≤ cap := by
  subst hk
  rcases h.2 with ⟨_, h1⟩ | ⟨g, cap, cur, rfl, hb, hg, hc, _⟩
  · omega
  · exact ⟨g, cap, rfl, hb, (Array.getElem?_eq_some_iff.1 hg).1, hc⟩
theorem OwnW.words {w : World} {B g cap k : Nat} {l : List Int} (h : OwnW w B (.slice (some ⟨g, 0, none⟩) k cap) l) (hg : g < w.heap.size) : WordsAt w g l := by
  refine ⟨hg, fun i hi => ?_⟩
  have hk : k = l.length := by
    rcases h.2 with ⟨h1, _⟩ | ⟨g', cap', cur, he, _⟩
    · cases h1
    · cases he; rfl
  subst hk
  rw [World.ownsRow.cellAt h i (by omega)]
  simp [wos, hi]
theorem words_row {w : World} {g : Nat} {l : List Int} (h : RowAt w g (wosA l)) : WordsAt w g l := ⟨h.2.2, fun i hi => h.cellAt i (wosA_get l i hi)⟩
theorem or_add (a b i : Nat) (h : b < 2 ^ i) : a * 2 ^ i ||| b = a * 2 ^ i + b := by
  have := Nat.shiftLeft_add_eq_or_of_lt h a
  rw [Nat.shiftLeft_eq] at this
  exact this.symm
def bldS (t : TypeId) (n : Nat) (ps : Array (Nat × Value)) : Sem Value := Instr.buildSlice t n ps
/-- Words that may be written. -/
def SlW (w : World) (g : Nat) (l : List Int) : Prop := WordsAt w g l ∧ ∀ i, i < l.length → w.frozen? ⟨g, i, none⟩ = false
theorem SlW.grow {w w' : World} {g : Nat} {l : List Int} (h : SlW w g l) (hb : Below w.heap.size w w') : SlW w' g l :=
  ⟨h.1.grow hb, fun i hi => by rw [World.frozen?_of_block (hb.block g h.1.1)]; exact h.2 i hi⟩
theorem SlW.set {w : World} {g i : Nat} {l : List Int} {x : Int} (h : SlW w g l) (hi : i < l.length) : SlW (w.setCell ⟨g, i, none⟩ (.int .u32 x)) g (l.set i x) := by
  refine ⟨⟨by rw [World.size_setCell]; exact h.1.1, fun j hj => ?_⟩, fun j hj => ?_⟩
  · rw [List.length_set] at hj
    by_cases e : i = j
    · subst e
      rw [World.cell?_setCell_same _ _ _ (h.1.2 i hi)]
      simp [List.getD, hi]
    · rw [World.cell?_setCell_other _ _ _ _ (by simp), h.1.2 j hj]
      simp [List.getD, e]
  · rw [List.length_set] at hj
    rw [World.frozen?_setCell]; exact h.2 j hj
end Go.Proofs.YtddmjddlbhdcpaaGreatDoor

/-
  The reference of layer 3: slices of bytes and of words that a call makes itself; the padding.
-/
namespace Go.Proofs.YtddmjddlbhdcpaaGreatDoor
open Go.RowKit Go.Hold Go.Sh

/-! ### Slices that a call made -/
end Go.Proofs.YtddmjddlbhdcpaaGreatDoor

/-
  Slices of bytes: those that a call made, with bytes laid behind them; copies; new ones.
-/
namespace Go.Proofs.YtddmjddlbhdcpaaGreatDoor
open Go.RowKit Go.Hold Go.Sh

theorem keA_bys (s : St) : keA s = bysA (keyN s) := by
  unfold keA byI keyL bysA bys keyN
  simp only [List.map_map]
  congr 1
  apply List.map_congr_left
  intro i _
  exact congrArg (Value.int .u8) (sByte_nat s i).symm
theorem keyN_row {w : World} {g : Nat} {s : St} (h : RowAt w g (keA s)) : BytesAt w g 0 (keyN s) := bytes_row (by rw [← keA_bys]; exact h)
/-! ### Parts of slices -/
/-! ### A new slice of noughts -/
/-! ### Copies -/
end Go.Proofs.YtddmjddlbhdcpaaGreatDoor

/-
  Package hmac: a key in a block, a block with a mask.
-/
namespace Go.Proofs.YtddmjddlbhdcpaaGreatDoor
open Go.RowKit Go.Hold Go.Sh

set_option maxHeartbeats 400000 in
set_option maxRecDepth 100000 in
theorem filled_c (cap : Nat) (p : Option Addr) (l : List Nat) (w : World) (hT : Tabs w) (hl : l.length ≤ 1000000) (hlb : ∀ i, l.getD i 0 < 256) (hB : Bs0 w p l) (hc : l.length ≤ cap) :
    Calls Tryz.prog 90 #[.slice p l.length cap] w fun e w' => ∃ g, e = .returned (.slice (some ⟨g, 0, none⟩) 64 64) ∧ RowAt w' g (bysA (fillK l)) ∧ w.heap.size ≤ g ∧ Below w.heap.size w w' := by
  have HT := Lib.hid hT
  have HB := Lib.hid hB
  obtain ⟨n, en⟩ : ∃ n, n = l.length := ⟨_, rfl⟩
  have En := Lib.hid en
  have hR0 : RowAt (w.alloc (.cells (bysA (zs 64)) 5)) w.heap.size (bysA (zs 64)) := RowAt.of (block_new w _)
  by_cases h64 : 64 < n
  · have h64' : (64 : Int) < (n : Int) := by omega
    have HS := Lib.hid (sum_c cap p l (w.alloc (.cells (bysA (zs 64)) 5)) (hT.grow (below_alloc (Below.refl _ _) _)) (by omega) hlb (hB.grow (below_alloc (Below.refl _ _) _)) hc)
    have HF := Lib.hid (show fillK l = (keyN (dig l)).take 32 ++ (zs 64).drop 32 by
      unfold fillK
      rw [if_pos (by omega), List.take_of_length_le (by rw [keyN_length]; exact Nat.le_refl _), zs_drop])
    have HR := Lib.hid hR0
    rw [← en] at HS ⊢
    clear hT hB en hc hR0 hl
    generalize dig l = D at *
    go_enter Tryz.func90, Tryz.ntmps90
    go_wp2_with fail
    refine HS.out.mono ?_
    rintro e w1 ⟨rfl, hb1⟩
    have R1 := Lib.hid (HR.out.grow hb1)
    have B1 := Lib.hid ((below_alloc (Below.refl w.heap.size w) (.cells (bysA (zs 64)) 5)).trans (hb1.mono (by simp)))
    clear hb1 HS
    have hcp := copy_bytes (W := w1.alloc (.cells (keA D) 23)) (c2 := 64) (cap := 32) (d := 64) (s := 32) (k := 32) (R1.out.grow (below_alloc (Below.refl _ _) _)) (by rw [zs_length]) (keyN_length D).symm (by rw [zs_length, keyN_length]; decide) (Bs0.some (keyN_row (RowAt.of (block_new w1 _))))
    rw [← HF.out] at hcp
    have R2 := Lib.hid ((R1.out.grow (below_alloc (Below.refl _ _) (.cells (keA D) 23))).set (bysA (fillK l)))
    have B2 := Lib.hid (below_setRow (below_alloc B1.out (.cells (keA D) 23)) (Nat.le_refl _) (bysA (fillK l)))
    generalize (w1.alloc (.cells (keA D) 23)).setRow w.heap.size (bysA (fillK l)) = W3 at *
    go_wp2_with fail
    go_ret
    exact ⟨_, rfl, R2.out, Nat.le_refl _, B2.out⟩
  · have h64' : ¬ (64 : Int) < (n : Int) := by omega
    have hcp := copy_bytes (c2 := 64) (cap := cap) (d := 64) (s := n) (k := n) hR0 (by rw [zs_length]) en (by rw [zs_length]; omega) (hB.grow (below_alloc (Below.refl _ _) _))
    have HF := Lib.hid (show fillK l = l.take n ++ (zs 64).drop n by
      unfold fillK
      rw [if_neg (by omega), List.take_of_length_le (by omega), zs_drop, en])
    rw [← en]
    rw [← HF.out] at hcp
    clear hT hB en hc hR0 hl
    go_enter Tryz.func90, Tryz.ntmps90
    go_wp2_with fail
    go_ret
    refine ⟨_, rfl, ?_, Nat.le_refl _, ?_⟩
    · exact RowAt.of (block_new w _)
    · exact below_alloc (Below.refl _ _) _

theorem xor_set (m : Nat) (l : List Nat) (i : Nat) (h : i < l.length) : ((xorL m l).take i ++ zs (l.length - i)).set i (l.getD i 0 ^^^ m) = (xorL m l).take (i + 1) ++ zs (l.length - (i + 1)) := by
  have hx : i < (xorL m l).length := by rw [xorL_length]; exact h
  have e : zs (l.length - i) = 0 :: zs (l.length - (i + 1)) := by
    obtain ⟨k, hk⟩ : ∃ k, l.length - i = k + 1 := ⟨l.length - i - 1, by omega⟩
    rw [hk, show l.length - (i + 1) = k by omega]; rfl
  have hlen : ((xorL m l).take i).length = i := by rw [List.length_take]; omega
  rw [List.set_append, if_neg (by omega), hlen, Nat.sub_self, e, List.set_cons_zero, List.take_add_one, List.getElem?_eq_getElem hx, List.append_assoc]
  congr 2
  simp [xorL, List.getD, h]
set_option maxHeartbeats 400000 in
set_option maxRecDepth 100000 in
theorem masked_c (g cap m : Nat) (l : List Nat) (w : World) (hl : l.length = 64) (hlb : ∀ i, l.getD i 0 < 256) (hm : m < 256) (hB : BytesAt w g 0 l) :
    Calls Tryz.prog 92 #[.slice (some ⟨g, 0, none⟩) 64 cap, .int .u8 (m : Int)] w fun e w' => ∃ x, e = .returned (.slice (some ⟨x, 0, none⟩) 64 64) ∧ RowAt w' x (bysA (xorL m l)) ∧ w.heap.size ≤ x ∧ Below w.heap.size w w' := by
  have HB := Lib.hid hB
  have R0 := Lib.hid (show RowAt (w.alloc (.cells (bysA (zs 64)) 5)) w.heap.size (bysA ((xorL m l).take 0 ++ zs (l.length - 0))) by rw [hl]; exact RowAt.of (block_new w _))
  have HL := Lib.hid hl
  clear hB hl
  go_enter Tryz.func92, Tryz.ntmps92
  go_wp2_with fail
  obtain ⟨x, ex⟩ : ∃ x, x = w.heap.size := ⟨_, rfl⟩
  have B0 := Lib.hid (show Below w.heap.size w (w.alloc (.cells (bysA (zs 64)) 5)) from below_alloc (Below.refl _ _) _)
  go_loopw [13] (fun i wr => ∃ k : Nat, k ≤ 64 ∧ i = .int .i64 k ∧ RowAt wr w.heap.size (bysA ((xorL m l).take k ++ zs (l.length - k))) ∧ Below w.heap.size w wr) (fun i _ => 64 - (intOf i).toNat)
  case atStart => exact ⟨0, by decide, rfl, R0.out, B0.out⟩
  case round =>
    obtain ⟨k, hk, rfl, hrow, hbel⟩ := hrel
    by_cases hk64 : k < 64
    · have hk0 : (0 : Int) ≤ (k : Int) := by omega
      have hk1 : (k : Int) < 64 := by omega
      have hkl : k < l.length := by rw [HL.out]; exact hk64
      have hck := (HB.out.grow hbel).2 k hkl
      rw [Nat.zero_add] at hck
      have hx := u8_xor_nat (l.getD k 0) m (hlb k) hm
      have hset := Lib.hid (xor_set m l k hkl)
      generalize l.getD k 0 = y at *
      generalize y ^^^ m = z at *
      have hlx : k < ((xorL m l).take k ++ zs (l.length - k)).length := by rw [List.length_append, List.length_take, xorL_length, zs_length]; omega
      have hcx := hrow.cellAt k (bysA_get _ k hlx)
      have hfx := hrow.frozenAt k
      have Hrow := Lib.hid hrow
      have Hbel := Lib.hid hbel
      clear hrow hbel hlx hkl
      go_wp2_with fail
      go_roundw
      case rel =>
        refine ⟨k + 1, by omega, by go_num, ?_, ?_⟩
        · rw [← hset.out, ← bysA_set]; exact Hrow.out.setCell _ _
        · exact Hbel.out.setCell (p := ⟨_, _, none⟩) (Nat.le_refl _) _
      case measure => simp [intOf]; omega
    · obtain rfl : k = 64 := by omega
      have HR := Lib.hid hrow
      have Hbel := Lib.hid hbel
      clear hrow hbel
      go_wp2_with fail
      go_ret
      refine ⟨_, rfl, ?_, Nat.le_refl _, Hbel.out⟩
      have := HR.out
      rw [HL.out, List.take_of_length_le (by rw [xorL_length, HL.out]; exact Nat.le_refl _), show zs (64 - 64) = [] from rfl, List.append_nil] at this
      exact this
end Go.Proofs.YtddmjddlbhdcpaaGreatDoor

/-
  slices.Grow and slices.Concat, of bytes.
-/
namespace Go.Proofs.YtddmjddlbhdcpaaGreatDoor
open Go.RowKit Go.Hold Go.Sh

set_option maxHeartbeats 400000 in
set_option maxRecDepth 100000 in
theorem grow_c (n : Nat) (w : World) (hn : n ≤ 16777216) :
    Calls Tryz.prog 88 #[.slice none 0 0, .int .i64 (n : Int)] w fun e w' => ∃ v, e = .returned v ∧ OwnB w' w.heap.size v [] ∧ Below w.heap.size w w' := by
  have h0 : ¬ (n : Int) < 0 := by omega
  have h1 : IntKind.i64.wrap (n : Int) = (n : Int) := by rw [IntWalk.i64_in _ (by omega)]
  by_cases hz : 0 < n
  · have h2 : (0 : Int) < (n : Int) := by omega
    obtain ⟨i0, hi, hz0, hz1, hz2⟩ := info_parts info_u8
    have hr := Lib.run_append_nil_zeros (P := Tryz.prog) w 38 3 38 5 i0 (.int .u8 0) .i64 .i64 Tryz.underlying38 Tryz.underlying3 hi hz0 n hz (by rw [hz1]; decide) (by omega) (by rw [hz2]; omega)
    have hge := grownCap_ge w n 0 5
    have hle := grownCap_le_maxLen w n 0 5 (maxLen_small hn)
    generalize grownCap w n 0 5 = c at *
    have HO := Lib.hid (show OwnB (w.drew.alloc (.cells (Builtin.zeroCells (Value.int .u8 0).cells n ++ Builtin.zeroCells (Value.int .u8 0).cells (c - n)) 5)) w.heap.size (.slice (some ⟨w.heap.size, 0, none⟩) 0 c) [] from
      World.ownsRow_made w.drew _ c (Nat.le_refl _) hle (by simp [size_zeroCells, Value.cells]; omega))
    have HB := Lib.hid (show Below w.heap.size w (w.drew.alloc (.cells (Builtin.zeroCells (Value.int .u8 0).cells n ++ Builtin.zeroCells (Value.int .u8 0).cells (c - n)) 5)) from (Below.refl w.heap.size w).drew.alloc (Nat.le_refl _) _)
    generalize w.drew.alloc (.cells (Builtin.zeroCells (Value.int .u8 0).cells n ++ Builtin.zeroCells (Value.int .u8 0).cells (c - n)) 5) = W2 at *
    have hc63 : c ≤ 9223372036854775807 := by unfold maxLen at hle; omega
    clear hle hge hn
    go_enter Tryz.func88, Tryz.ntmps88
    go_wp2_with (at_builtin; refine Lib.wpList_append_run _ rfl _ _ _ _ rfl _ _ rfl rfl _ _ hr ?_)
    go_wp2_with fail
    go_ret
    exact ⟨_, rfl, HO.out, HB.out⟩
  · obtain rfl : n = 0 := by omega
    go_enter Tryz.func88, Tryz.ntmps88
    go_wp2_with fail
    go_ret
    exact ⟨_, rfl, own_nil w _, Below.refl _ _⟩

/-! ### Concat -/
/-- A slice of bytes, as it is handed over: where, which bytes, how far. -/
abbrev Bsl := Option Addr × List Nat × Nat
def bsV (s : Bsl) : Value := .slice s.1 s.2.1.length s.2.2
def flat (ss : List Bsl) : List Nat := ss.flatMap fun s => s.2.1
theorem flat_take (ss : List Bsl) (i : Nat) (s : Bsl) (h : ss[i]? = some s) : flat (ss.take (i + 1)) = flat (ss.take i) ++ s.2.1 := by
  rw [List.take_add_one, h]
  simp [flat]
def BslAt (w : World) (ss : List Bsl) : Prop := ∀ s ∈ ss, Bs0 w s.1 s.2.1 ∧ (s.1 = none → s.2.2 = 0)
theorem BslAt.grow {w w' : World} {ss : List Bsl} (h : BslAt w ss) (hb : Below w.heap.size w w') : BslAt w' ss := fun s hs => ⟨(h s hs).1.grow hb, (h s hs).2⟩
theorem flat_le (ss : List Bsl) (i : Nat) : (flat (ss.take i)).length ≤ (flat ss).length := by
  conv => rhs; rw [← List.take_append_drop i ss]
  simp only [flat, List.flatMap_append, List.length_append]
  omega
set_option maxHeartbeats 400000 in
set_option maxRecDepth 100000 in
theorem concat_c (g k cap : Nat) (ss : List Bsl) (w : World) (hk : k = ss.length) (hg : RowAt w g (ss.map bsV).toArray) (hS : BslAt w ss) (hn : (flat ss).length ≤ 16000000) (hk8 : k ≤ 1000) :
    Calls Tryz.prog 57 #[.slice (some ⟨g, 0, none⟩) k cap] w fun e w' => ∃ v, e = .returned v ∧ OwnB w' w.heap.size v (flat ss) ∧ Below w.heap.size w w' := by
  have HG := Lib.hid hg
  have HS := Lib.hid hS
  have HN := Lib.hid hn
  have HK := Lib.hid hk
  have hcell : ∀ (i : Nat) (s : Bsl), ss[i]? = some s → (ss.map bsV).toArray[i]? = some (bsV s) := fun i s h => by simp [h]
  have HC := Lib.hid hcell
  clear hg hS hn hk hcell
  go_enter Tryz.func57, Tryz.ntmps57
  go_wp2_with fail
  go_loopw [3, 11] (fun z i wr => ∃ j : Nat, j ≤ k ∧ i = .int .i64 j ∧ z = .int .i64 ((flat (ss.take j)).length : Int) ∧ w = wr) (fun _ i _ => k - (intOf i).toNat)
  case atStart => exact ⟨0, by omega, rfl, rfl, rfl⟩
  case round =>
    obtain ⟨j, hj, rfl, rfl, rfl⟩ := hrel
    by_cases hjk : j < k
    · have hj0 : (0 : Int) ≤ (j : Int) := by omega
      have hj1 : (j : Int) < (k : Int) := by omega
      obtain ⟨s, hs⟩ : ∃ s, ss[j]? = some s := ⟨_, List.getElem?_eq_getElem (by rw [← HK.out]; exact hjk)⟩
      have hcj := HG.out.cellAt j (HC.out j s hs)
      obtain ⟨p, l, c⟩ := s
      simp only [bsV] at hcj
      have hft := flat_take ss j _ hs
      have hle := flat_le ss (j + 1)
      obtain ⟨m, em⟩ : ∃ m, m = l.length := ⟨_, rfl⟩
      obtain ⟨t, et⟩ : ∃ t, t = (flat (ss.take j)).length := ⟨_, rfl⟩
      obtain ⟨t2, et2⟩ : ∃ t, t = (flat (ss.take (j + 1))).length := ⟨_, rfl⟩
      have htm : t2 = t + m := by rw [et2, hft, List.length_append, et, em]
      have hN := HN.out
      have hw1 : IntKind.i64.wrap ((t : Int) + (m : Int)) = (t2 : Int) := by rw [IntWalk.i64_in _ (by omega)]; omega
      have hw0 : ¬ (t2 : Int) < 0 := by omega
      rw [← em] at hcj
      rw [← et]
      have Et2 := Lib.hid et2
      clear em et et2 htm hft hle hN hs
      go_wp2_with fail
      go_roundw
      case rel => exact ⟨j + 1, by omega, by go_num, by rw [← Et2.out], by first | trivial | rfl⟩
      case measure => simp [intOf]; omega
    · obtain rfl : j = k := by omega
      have hfl : (flat (ss.take j)) = flat ss := by rw [List.take_of_length_le (by rw [← HK.out]; exact Nat.le_refl _)]
      rw [hfl]
      have hN := HN.out
      have GC := Lib.hid (grow_c (flat ss).length w (by omega))
      obtain ⟨t, et⟩ : ∃ t, t = (flat ss).length := ⟨_, rfl⟩
      rw [← et] at GC ⊢
      clear hfl et hN
      go_wp2_with fail
      refine GC.out.mono ?_
      rintro e W1 ⟨v, rfl, hown, hbel⟩
      have HO := Lib.hid hown
      have HB := Lib.hid hbel
      clear hown hbel GC
      go_wp2_with fail
      go_loopw [6, 27] (fun v i wr => ∃ q : Nat, q ≤ j ∧ i = .int .i64 q ∧ OwnB wr w.heap.size v (flat (ss.take q)) ∧ Below w.heap.size w wr) (fun _ i _ => j - (intOf i).toNat)
      case atStart => exact ⟨0, by omega, rfl, HO.out, HB.out⟩
      case round =>
        obtain ⟨q, hq, rfl, hown, hbel⟩ := hrel
        by_cases hqj : q < j
        · have hq0 : (0 : Int) ≤ (q : Int) := by omega
          have hq1 : (q : Int) < (j : Int) := by omega
          obtain ⟨s, hs⟩ : ∃ s, ss[q]? = some s := ⟨_, List.getElem?_eq_getElem (by rw [← HK.out]; exact hqj)⟩
          have hcj := (HG.out.grow hbel).cellAt q (HC.out q s hs)
          have hft := flat_take ss q _ hs
          have hle := flat_le ss (q + 1)
          have hN := HN.out
          have hsm := (HS.out.grow hbel) s (List.mem_of_getElem? hs)
          obtain ⟨p, l, c⟩ := s
          simp only [bsV] at hcj
          obtain ⟨m, em⟩ : ∃ m, m = l.length := ⟨_, rfl⟩
          rw [← em] at hcj
          have hlen : (flat (ss.take q)).length + l.length ≤ 16777216 := by rw [hft, List.length_append] at hle; simp only at hle; omega
          obtain ⟨v2, w2, hr, hown2, hgr⟩ := app_own (cap := c) hown hsm.1 em hsm.2 hbel.size hlen
          rw [← hft] at hown2
          have Hb2 := Lib.hid (own_below hbel hown hbel.size hgr)
          have Ho2 := Lib.hid hown2
          clear hown2 hgr hown hbel hsm hft hle hN hlen em hs
          go_wp2_with (at_builtin; refine Lib.wpList_append_run _ rfl _ _ _ _ rfl _ _ rfl rfl _ _ hr ?_)
          go_wp2_with fail
          go_roundw
          case rel => exact ⟨q + 1, by omega, by go_num, Ho2.out, Hb2.out⟩
          case measure => simp [intOf]; omega
        · obtain rfl : q = j := by omega
          have Ho := Lib.hid hown
          have Hb := Lib.hid hbel
          clear hown hbel
          go_wp2_with fail
          go_ret
          refine ⟨_, rfl, ?_, Hb.out⟩
          have := Ho.out
          rw [List.take_of_length_le (by rw [← HK.out]; exact Nat.le_refl _)] at this
          exact this
end Go.Proofs.YtddmjddlbhdcpaaGreatDoor

/-
  Package hmac: the tag.
-/
namespace Go.Proofs.YtddmjddlbhdcpaaGreatDoor
open Go.RowKit Go.Hold Go.Sh

/-! ### Slices of slices that are built -/
def bldV (n : Nat) (ps : Array (Nat × Value)) : Sem Value := Instr.buildSlice 140 n ps
@[go_sem ↓] theorem fold_bldV (n : Nat) (ps : Array (Nat × Value)) : Instr.buildSlice 140 n ps = bldV n ps := rfl
theorem info_sl : (Tryz.prog.info? 38).map (fun i => (i.zero, i.size, i.bytes)) = some (some (.slice none 0 0), 1, 24) := by kernel_rfl
set_option maxRecDepth 100000 in
@[go_sem] theorem run_bldV2 (w : World) (p q : Option Addr) (l c m d : Nat) : (bldV 2 #[(0, .slice p l c), (1, .slice q m d)]).run Tryz.prog w = .ok (.slice (some ⟨w.heap.size, 0, none⟩) 2 2) (w.alloc (.cells #[.slice p l c, .slice q m d] 38)) := by
  obtain ⟨ie, h1, h2, h3, _⟩ := info_parts info_sl
  refine run_buildSlice w _ _ 2 _ #[.slice p l c, .slice q m d] ie _ Tryz.underlying140 h1 h2 (by rw [h3]; decide) (by rw [h3]; decide) ?_
  rw [h3]; kernel_rfl
set_option maxRecDepth 100000 in
@[go_sem] theorem run_bldV3 (w : World) (p q r : Option Addr) (l c m d n e : Nat) : (bldV 3 #[(0, .slice p l c), (1, .slice q m d), (2, .slice r n e)]).run Tryz.prog w = .ok (.slice (some ⟨w.heap.size, 0, none⟩) 3 3) (w.alloc (.cells #[.slice p l c, .slice q m d, .slice r n e] 38)) := by
  obtain ⟨ie, h1, h2, h3, _⟩ := info_parts info_sl
  refine run_buildSlice w _ _ 3 _ #[.slice p l c, .slice q m d, .slice r n e] ie _ Tryz.underlying140 h1 h2 (by rw [h3]; decide) (by rw [h3]; decide) ?_
  rw [h3]; kernel_rfl
/-- Concat of two. -/
theorem concat2_c {W : World} {g : Nat} {p q : Option Addr} {l m : List Nat} {n1 n2 c d : Nat} (hg : RowAt W g #[.slice p n1 c, .slice q n2 d]) (h1 : n1 = l.length) (h2 : n2 = m.length)
    (hp : Bs0 W p l) (hq : Bs0 W q m) (hpc : p = none → c = 0) (hqd : q = none → d = 0) (hn : l.length + m.length ≤ 16000000) :
    Calls Tryz.prog 57 #[.slice (some ⟨g, 0, none⟩) 2 2] W fun e w' => ∃ v, e = .returned v ∧ OwnB w' W.heap.size v (l ++ m) ∧ Below W.heap.size W w' := by
  subst h1 h2
  have := concat_c g 2 2 [(p, l, c), (q, m, d)] W rfl hg (fun s hs => by
    rcases List.mem_cons.1 hs with rfl | hs
    · exact ⟨hp, hpc⟩
    · rcases List.mem_cons.1 hs with rfl | hs
      · exact ⟨hq, hqd⟩
      · cases hs) (by simp [flat]; omega) (by decide)
  simpa [flat] using this
theorem concat3_c {W : World} {g : Nat} {p q r : Option Addr} {l m k : List Nat} {n1 n2 n3 c d e : Nat} (hg : RowAt W g #[.slice p n1 c, .slice q n2 d, .slice r n3 e]) (h1 : n1 = l.length) (h2 : n2 = m.length) (h3 : n3 = k.length)
    (hp : Bs0 W p l) (hq : Bs0 W q m) (hr : Bs0 W r k) (hpc : p = none → c = 0) (hqd : q = none → d = 0) (hre : r = none → e = 0) (hn : l.length + m.length + k.length ≤ 16000000) :
    Calls Tryz.prog 57 #[.slice (some ⟨g, 0, none⟩) 3 3] W fun x w' => ∃ v, x = .returned v ∧ OwnB w' W.heap.size v (l ++ m ++ k) ∧ Below W.heap.size W w' := by
  subst h1 h2 h3
  have := concat_c g 3 3 [(p, l, c), (q, m, d), (r, k, e)] W rfl hg (fun s hs => by
    rcases List.mem_cons.1 hs with rfl | hs
    · exact ⟨hp, hpc⟩
    · rcases List.mem_cons.1 hs with rfl | hs
      · exact ⟨hq, hqd⟩
      · rcases List.mem_cons.1 hs with rfl | hs
        · exact ⟨hr, hre⟩
        · cases hs) (by simp [flat]; omega) (by decide)
  simpa [flat, List.append_assoc] using this

set_option maxHeartbeats 600000 in
set_option maxRecDepth 100000 in
theorem mac_c (kc bc : Nat) (kp bp : Option Addr) (k b : List Nat) (w : World) (hT : Tabs w) (hk : k.length ≤ 1000000) (hkb : ∀ i, k.getD i 0 < 256) (hkB : Bs0 w kp k) (hkc : k.length ≤ kc)
    (hb : b.length ≤ 1000000) (hbb : ∀ i, b.getD i 0 < 256) (hbB : Bs0 w bp b) (hbc : bp = none → bc = 0) :
    Calls Tryz.prog 60 #[.slice kp k.length kc, .slice bp b.length bc] w fun e w' => e = .returned (.agg (keA (mac k b))) ∧ Below w.heap.size w w' := by
  have HT := Lib.hid hT
  have HbB := Lib.hid hbB
  have HF := Lib.hid (fun (W : World) (hW : Below w.heap.size w W) => filled_c kc kp k W (hT.grow hW) hk hkb (hkB.grow hW) hkc)
  have hFb := Lib.hid (fillK_bts hkb)
  have hFl := fillK_length k
  obtain ⟨M, eM⟩ : ∃ M, M = mac k b := ⟨_, rfl⟩
  rw [← eM]
  unfold mac at eM
  generalize fillK k = F at *
  obtain ⟨nk, enk⟩ : ∃ n, n = k.length := ⟨_, rfl⟩
  obtain ⟨nb, enb⟩ : ∃ n, n = b.length := ⟨_, rfl⟩
  rw [← enk] at HF ⊢
  rw [← enb] at hb ⊢
  have Enb := Lib.hid enb
  have EM := Lib.hid eM
  have Hbc := Lib.hid hbc
  have Hbb := Lib.hid hbb
  have HFl := Lib.hid hFl
  have hx54 := Lib.hid (xorL_bts (m := 54) (by decide) hFb.out)
  have hx92 := Lib.hid (xorL_bts (m := 92) (by decide) hFb.out)
  clear hT hbB enk enb eM hbc hbb hFl hkB hkb hk hkc
  go_enter Tryz.func60, Tryz.ntmps60
  go_wp2_with fail
  generalize hW : World.alloc _ _ = W0
  obtain ⟨z0, hz0, hR0⟩ : ∃ c, c.size = 32 ∧ RowAt W0 w.heap.size c := by rw [← hW]; clear hW; exact ⟨byI (List.replicate 32 0), by simp [byI], by go_simp, by go_simp; rfl, by go_simp⟩
  have R0 := Lib.hid hR0
  clear hR0
  have B0 := Lib.hid (show Below w.heap.size w W0 by rw [← hW]; exact below_alloc (Below.refl _ _) _)
  clear hW
  refine (HF.out W0 B0.out).mono ?_
  rintro e W1 ⟨g, rfl, hR, hg, hb1⟩
  have R1 := Lib.hid (R0.out.grow hb1)
  have G1 := Lib.hid hR
  have B1 := Lib.hid (B0.out.trans (hb1.mono B0.out.size))
  clear hR hb1 R0 HF
  go_wp2_with fail
  refine (masked_c g 64 54 F W1 HFl.out hFb.out (by decide) (bytes_row G1.out)).mono ?_
  rintro e W2 ⟨x, rfl, hX, hx, hb2⟩
  have R2 := Lib.hid (R1.out.grow hb2)
  have G2 := Lib.hid (G1.out.grow hb2)
  have X2 := Lib.hid hX
  have B2 := Lib.hid (B1.out.trans (hb2.mono B1.out.size))
  clear hX hb2 R1 G1
  go_wp2_with fail
  have BA := below_alloc (Below.refl W2.heap.size W2) (.cells #[.slice (some ⟨x, 0, none⟩) 64 64, .slice bp nb bc] 38)
  refine (concat2_c (RowAt.of (block_new W2 _)) (by rw [xorL_length, HFl.out]) Enb.out (Bs0.some (bytes_row (X2.out.grow BA))) ((HbB.out.grow B2.out).grow BA) (fun h => by cases h) Hbc.out (by rw [xorL_length, HFl.out, ← Enb.out]; omega)).mono ?_
  rintro e W3 ⟨v, rfl, hown, hb3⟩
  have hb3' := BA.trans (hb3.mono BA.size)
  obtain ⟨pv, cv, rfl, hBs, hcv, _⟩ := hown.bs
  have R3 := Lib.hid (R2.out.grow hb3')
  have G3 := Lib.hid (G2.out.grow hb3')
  have B3 := Lib.hid (B2.out.trans (hb3'.mono B2.out.size))
  obtain ⟨L1, eL1⟩ : ∃ L, L = xorL 54 F ++ b := ⟨_, rfl⟩
  have HL1b := Lib.hid (show ∀ i, L1.getD i 0 < 256 by rw [eL1]; exact bts_app hx54.out Hbb.out)
  have hL1 : L1.length ≤ 2000000 := by rw [eL1, List.length_append, xorL_length, HFl.out, ← Enb.out]; omega
  rw [← eL1] at hBs hcv ⊢
  have EL1 := Lib.hid eL1
  have HS := Lib.hid (sum_c cv pv L1 W3 (HT.out.grow B3.out) (by omega) HL1b.out hBs hcv)
  obtain ⟨n1, en1⟩ : ∃ n, n = L1.length := ⟨_, rfl⟩
  rw [← en1] at HS ⊢
  obtain ⟨D1, eD1⟩ : ∃ D, D = dig L1 := ⟨_, rfl⟩
  rw [← eD1] at HS
  have ED1 := Lib.hid eD1
  clear hb3 hb3' hown hBs hcv en1 eL1 hL1 eD1 R2 G2 X2 BA
  go_wp2_with fail
  refine HS.out.mono ?_
  rintro e W4 ⟨rfl, hb4⟩
  have R4 := Lib.hid (R3.out.grow hb4)
  have G4 := Lib.hid (G3.out.grow hb4)
  have B4 := Lib.hid (B3.out.trans (hb4.mono B3.out.size))
  clear hb4 R3 G3 HS
  go_wp2_with fail
  generalize hW : World.alloc _ _ = W5
  have R5 := Lib.hid (show RowAt W5 w.heap.size z0 by rw [← hW]; exact R4.out.grow (below_alloc (Below.refl _ _) _))
  have G5 := Lib.hid (show RowAt W5 g (bysA F) by rw [← hW]; exact G4.out.grow (below_alloc (Below.refl _ _) _))
  have D5 := Lib.hid (show RowAt W5 W4.heap.size (keA D1) by rw [← hW]; exact RowAt.of (block_new W4 _))
  have B5 := Lib.hid (show Below w.heap.size w W5 by rw [← hW]; exact below_alloc B4.out _)
  clear hW R4 G4
  generalize W4.heap.size = y at *
  refine wp_region_pickT W5 [0, 2] [false, true] [1, 3, 4, 5, 6] (by kernel_rfl) (by kernel_rfl) (by intro c a d v w h; cases d <;> exact h) ((Below.refl _ _).drew) ?_
  simp only [pick, List.getElem?_cons_succ, List.getElem?_cons_zero]
  refine wpHoldF_val (wanted_none rfl) (by intro K o d hK; go_simp; exact hK _ (Below.refl _ _)) ?_
  refine wpHoldF_late (wanted_none rfl) (fun w => by go_simp; rfl) ?_
  refine wpHoldF_nil ?_
  intro W6 hb6
  have R6 := Lib.hid (R5.out.grow hb6)
  have G6 := Lib.hid (G5.out.grow hb6)
  have D6 := Lib.hid (D5.out.grow hb6)
  have B6 := Lib.hid (B5.out.trans (hb6.mono B5.out.size))
  clear hb6 R5 G5 D5
  go_wp2_with fail
  refine (masked_c g 64 92 F W6 HFl.out hFb.out (by decide) (bytes_row G6.out)).mono ?_
  rintro e W7 ⟨x2, rfl, hX, hx2, hb7⟩
  have R7 := Lib.hid (R6.out.grow hb7)
  have D7 := Lib.hid (D6.out.grow hb7)
  have X7 := Lib.hid hX
  have B7 := Lib.hid (B6.out.trans (hb7.mono B6.out.size))
  clear hX hb7 R6 G6 D6
  go_wp2_with fail
  have BA := below_alloc (Below.refl W7.heap.size W7) (.cells #[.slice (some ⟨x2, 0, none⟩) 64 64, .slice (some ⟨y, 0, none⟩) 32 32] 38)
  refine (concat2_c (RowAt.of (block_new W7 _)) (by rw [xorL_length, HFl.out]) (keyN_length D1).symm (Bs0.some (bytes_row (X7.out.grow BA))) (Bs0.some (keyN_row (D7.out.grow BA))) (fun h => by cases h) (fun h => by cases h) (by rw [xorL_length, HFl.out, keyN_length]; decide)).mono ?_
  rintro e W8 ⟨v, rfl, hown, hb8⟩
  have hb8' := BA.trans (hb8.mono BA.size)
  obtain ⟨pv2, cv2, rfl, hBs, hcv, _⟩ := hown.bs
  have R8 := Lib.hid (R7.out.grow hb8')
  have B8 := Lib.hid (B7.out.trans (hb8'.mono B7.out.size))
  obtain ⟨L2, eL2⟩ : ∃ L, L = xorL 92 F ++ keyN D1 := ⟨_, rfl⟩
  have HL2b := Lib.hid (show ∀ i, L2.getD i 0 < 256 by rw [eL2]; exact bts_app hx92.out (keyN_bts _))
  have hL2 : L2.length ≤ 2000000 := by rw [eL2, List.length_append, xorL_length, HFl.out, keyN_length]; decide
  rw [← eL2] at hBs hcv ⊢
  have HS := Lib.hid (sum_c cv2 pv2 L2 W8 (HT.out.grow B8.out) (by omega) HL2b.out hBs hcv)
  rw [show dig L2 = M by rw [EM.out, eL2, ED1.out, EL1.out]] at HS
  obtain ⟨n2, en2⟩ : ∃ n, n = L2.length := ⟨_, rfl⟩
  rw [← en2] at HS ⊢
  clear hb8 hb8' hown hBs hcv en2 eL2 hL2 R7 D7 X7 BA
  go_wp2_with fail
  refine HS.out.mono ?_
  rintro e W9 ⟨rfl, hb9⟩
  obtain ⟨r1, r2, r3⟩ := R8.out.grow hb9
  have B9 := Lib.hid (B8.out.trans (hb9.mono B8.out.size))
  clear hb9 R8 HS
  go_wp2_with fail
  refine bodyPost_ret (v := .agg (keA M)) (results_key Tryz.results60 (keA_size _) _ _ _ rfl (by go_simp) (by go_simp)) rfl ⟨rfl, ?_⟩
  exact below_setRow B9.out (Nat.le_refl _) _
end Go.Proofs.YtddmjddlbhdcpaaGreatDoor

/-
  Package hmac: are bytes alike; a tag's first half; the tag, its lengths named.
-/
namespace Go.Proofs.YtddmjddlbhdcpaaGreatDoor
open Go.RowKit Go.Hold Go.Sh

/-! ### Are bytes alike? -/
/-- What bytes have unlike, all together. -/
def unl (a b : List Nat) : Nat → Nat
  | 0 => 0
  | i + 1 => unl a b i ||| (a.getD i 0 ^^^ b.getD i 0)
theorem unl_lt {a b : List Nat} (ha : ∀ i, a.getD i 0 < 256) (hb : ∀ i, b.getD i 0 < 256) (n : Nat) : unl a b n < 256 := by
  induction n with
  | zero => exact Nat.zero_lt_succ _
  | succ n ih => exact Nat.or_lt_two_pow (n := 8) ih (xor_lt (ha n) (hb n))
theorem xor_zero_iff (a b : Nat) : a ^^^ b = 0 ↔ a = b := by
  constructor
  · intro h
    have : (a ^^^ b) ^^^ b = b := by rw [h, Nat.zero_xor]
    rwa [Nat.xor_assoc, Nat.xor_self, Nat.xor_zero] at this
  · rintro rfl; exact Nat.xor_self _
theorem unl_zero (a b : List Nat) (n : Nat) : unl a b n = 0 ↔ ∀ i, i < n → a.getD i 0 = b.getD i 0 := by
  induction n with
  | zero => simp [unl]
  | succ n ih =>
    rw [unl, Nat.or_eq_zero_iff, ih]
    constructor
    · intro ⟨h1, h2⟩ i hi
      by_cases e : i < n
      · exact h1 i e
      · obtain rfl : i = n := by omega
        exact (xor_zero_iff _ _).1 h2
    · intro h
      exact ⟨fun i hi => h i (by omega), (xor_zero_iff _ _).2 (h n (by omega))⟩
theorem unl_eq (a b : List Nat) (h : a.length = b.length) : unl a b a.length = 0 ↔ a = b := by
  rw [unl_zero]
  constructor
  · intro h1
    apply List.ext_getElem h
    intro i h2 h3
    have := h1 i h2
    simpa [List.getD, h2, h3] using this
  · rintro rfl i _; rfl
set_option maxHeartbeats 400000 in
set_option maxRecDepth 100000 in
theorem equal_c (ac bc : Nat) (ap bp : Option Addr) (a b : List Nat) (w : World) (ha : a.length ≤ 1000000) (hab : ∀ i, a.getD i 0 < 256) (haB : Bs0 w ap a) (hbb : ∀ i, b.getD i 0 < 256) (hbB : Bs0 w bp b) :
    Calls Tryz.prog 44 #[.slice ap a.length ac, .slice bp b.length bc] w fun e w' => e = .returned (.bool (decide (a = b))) ∧ Below w.heap.size w w' := by
  by_cases hl : a.length = b.length
  · obtain ⟨R, eR⟩ : ∃ r, r = decide (a = b) := ⟨_, rfl⟩
    have HU := Lib.hid (unl_eq a b hl)
    have HUl := Lib.hid (fun n => unl_lt hab hbb n)
    rw [← hl, ← eR]
    obtain ⟨n, en⟩ : ∃ n, n = a.length := ⟨_, rfl⟩
    have Hlb := Lib.hid (show b.length = n by rw [en, hl])
    rw [← en] at ha HU ⊢
    have En := Lib.hid en
    have ER := Lib.hid eR
    have HA := Lib.hid haB
    have HB := Lib.hid hbB
    have Hab := Lib.hid hab
    have Hbb := Lib.hid hbb
    clear en eR hl haB hbB hab hbb
    go_enter Tryz.func44, Tryz.ntmps44
    go_wp2_with fail
    go_loopw [5, 14] (fun u i wr => ∃ k : Nat, k ≤ n ∧ i = .int .i64 k ∧ u = .int .u8 ((unl a b k : Nat) : Int) ∧ Below w.heap.size w wr) (fun _ i _ => n - (intOf i).toNat)
    case atStart => exact ⟨0, by omega, rfl, rfl, Below.refl _ _⟩
    case round =>
      obtain ⟨k, hk, rfl, rfl, hbel⟩ := hrel
      have Hbel := Lib.hid hbel
      by_cases hkn : k < n
      · have hk0 : (0 : Int) ≤ (k : Int) := by omega
        have hk1 : (k : Int) < (n : Int) := by omega
        obtain ⟨ga, oa, ea, hA⟩ : ∃ b o, ap = some ⟨b, o, none⟩ ∧ BytesAt wr b o a := by
          rcases HA.out.grow hbel with h | h
          · exfalso; have := En.out; rw [h] at this; simp at this; omega
          · exact h
        obtain ⟨gb, ob, eb, hB⟩ : ∃ c o, bp = some ⟨c, o, none⟩ ∧ BytesAt wr c o b := by
          rcases HB.out.grow hbel with h | h
          · exfalso; have := Hlb.out; rw [h] at this; simp at this; omega
          · exact h
        subst ea eb
        have hca := hA.2 k (by rw [← En.out]; exact hkn)
        have hcb := hB.2 k (by rw [Hlb.out]; exact hkn)
        have hx := u8_xor_nat (a.getD k 0) (b.getD k 0) (Hab.out k) (Hbb.out k)
        have hxl := xor_lt (Hab.out k) (Hbb.out k)
        have ho := u8_or_nat (unl a b k) (a.getD k 0 ^^^ b.getD k 0) (HUl.out k) hxl
        have Hs := Lib.hid (show unl a b (k + 1) = unl a b k ||| (a.getD k 0 ^^^ b.getD k 0) from rfl)
        generalize a.getD k 0 = x at *
        generalize b.getD k 0 = y at *
        generalize x ^^^ y = z at *
        generalize unl a b k = u at *
        generalize u ||| z = u2 at *
        have hga := hA.1
        have hgb := hB.1
        clear hA hB hbel hxl
        go_wp2_with fail
        refine wp_region_pickT wr [0, 1, 2, 3, 4, 5, 6, 7, 8, 9, 10] [false, false, false, false, false, false, false, false, false, false, false] [11] (by kernel_rfl) (by kernel_rfl) (by intro c a d v w h; cases d <;> exact h) ((Below.refl _ _).drew) ?_
        simp only [pick, List.getElem?_cons_succ, List.getElem?_cons_zero]
        iterate 11 (refine wpHoldF_val (wanted_none rfl) (by intro K o d hK; go_simp; exact hK _ (Below.refl _ _)) ?_)
        refine wpHoldF_nil ?_
        intro w1 hb1
        have Hb1 := Lib.hid (Hbel.out.trans (hb1.mono Hbel.out.size))
        clear hb1
        go_wp2_with fail
        go_roundw
        case rel => exact ⟨k + 1, by omega, by go_num, by rw [Hs.out], Hb1.out⟩
        case measure => simp [intOf]; omega
      · obtain rfl : k = n := by omega
        have hU := HU.out
        have hlt := HUl.out k
        clear hbel
        by_cases e : a = b
        · have h0 : unl a b k = 0 := hU.2 e
          have hR : R = true := by rw [ER.out]; exact decide_eq_true e
          subst hR
          rw [h0]
          clear h0 e hU hlt
          go_wp2_with fail
          go_ret
          exact ⟨rfl, Hbel.out⟩
        · have h0 : unl a b k ≠ 0 := fun h => e (hU.1 h)
          have hR : R = false := by rw [ER.out]; exact decide_eq_false e
          subst hR
          generalize unl a b k = u at *
          have h1 : ¬ (u : Int) = 0 := by omega
          have h2 : ((u : Int) == 0) = false := by simpa using h1
          clear h0 e hU hlt
          go_wp2_with fail
          go_ret
          exact ⟨rfl, Hbel.out⟩
  · have hR : decide (a = b) = false := decide_eq_false fun e => hl (by rw [e])
    rw [hR]
    obtain ⟨n, en⟩ : ∃ n, n = a.length := ⟨_, rfl⟩
    obtain ⟨m, em⟩ : ∃ n, n = b.length := ⟨_, rfl⟩
    rw [← en, ← em] at hl ⊢
    have h1 : ¬ (n : Int) = (m : Int) := by omega
    have h2 : ((n : Int) != (m : Int)) = true := by simpa using h1
    clear en em ha hab haB hbb hbB hR
    go_enter Tryz.func44, Tryz.ntmps44
    go_wp2_with fail
    go_ret
    exact ⟨rfl, Below.refl _ _⟩

/-! ### A tag's first half -/
@[go_sem ↓] theorem loadAt_tag (v : Value) : Instr.loadAt 29 v = loadRow 29 v := rfl
@[go_sem] theorem run_loadTag (w : World) (n : Nat) (h1 : w.isRow n = true) (h2 : (w.rowOf n).size = 16) : (loadRow 29 (.pointer (some ⟨n, 0, none⟩))).run Tryz.prog w = .ok (.agg (w.rowOf n)) w := run_loadRow w Tryz.underlying29 rfl (by kernel_rfl) n h1 h2
theorem results_tag {fn : Func} {p : Tmp} {cs : Array Value} (h : fn.results = #[.cell p 29]) (hc : cs.size = 16) (w : World) (tmps : Array Value) (n : Nat) (hp : tmps.getD p undef = .pointer (some ⟨n, 0, none⟩)) (h1 : w.isRow n = true) (h2 : w.rowOf n = cs) : (results fn tmps).run Tryz.prog w = .ok (.agg cs) w :=
  results_row w h Tryz.underlying29 rfl (by rw [hc]; kernel_rfl) tmps n hp h1 h2
set_option maxHeartbeats 400000 in
set_option maxRecDepth 100000 in
theorem short_c (s : List Nat) (hs : s.length = 32) (w : World) : Calls Tryz.prog 59 #[.agg (bysA s)] w fun e w' => e = .returned (.agg (bysA (s.take 16))) ∧ Below w.heap.size w w' := by
  have hst : (s.take 16 ++ (zs 16).drop 16) = s.take 16 := by rw [zs_drop]; simp [zs]
  have hz2 : (bysA (s.take 16)).size = 16 := by rw [bysA_size, List.length_take, hs]; rfl
  have Hs := Lib.hid hs
  have Hst := Lib.hid hst
  clear hs hst
  go_enter Tryz.func59, Tryz.ntmps59
  go_wp2_with fail
  generalize hW : World.alloc _ _ = W0
  have K0 := Lib.hid (show RowAt W0 w.heap.size (bysA s) by rw [← hW]; clear hW; exact ⟨by go_simp, by go_simp, by go_simp⟩)
  obtain ⟨z0, hz0, hR0⟩ : ∃ c : Array Value, c.size = 16 ∧ RowAt W0 (w.heap.size + 1) c := by rw [← hW]; clear hW; exact ⟨bysA (zs 16), by rw [bysA_size, zs_length], by go_simp, by go_simp; rfl, by go_simp⟩
  have T0 := Lib.hid (show RowAt W0 (w.heap.size + 1 + 1) (bysA (zs 16)) by rw [← hW]; clear hW; exact ⟨by go_simp, by go_simp; rfl, by go_simp⟩)
  have R0 := Lib.hid hR0
  have B0 := Lib.hid (show Below w.heap.size w W0 by rw [← hW]; repeat (first | apply below_more | apply below_alloc | exact Below.refl _ _))
  clear hW hR0
  have hg1 : w.heap.size ≤ w.heap.size + 1 + 1 := by omega
  have hg2 : ¬ w.heap.size + 1 = w.heap.size + 1 + 1 := by omega
  have hg3 : w.heap.size ≤ w.heap.size + 1 := by omega
  generalize w.heap.size + 1 + 1 = t at *
  generalize w.heap.size + 1 = r at *
  refine wp_region_pickT W0 [0, 1] [true, true] [2] (by kernel_rfl) (by kernel_rfl) (by intro c a d v w h; cases d <;> exact h) ((Below.refl _ _).drew) ?_
  simp only [pick, List.getElem?_cons_succ, List.getElem?_cons_zero]
  refine wpHoldF_late (wanted_none rfl) (fun w => by go_simp; rfl) ?_
  refine wpHoldF_late (wanted_none rfl) (fun w => by go_simp; rfl) ?_
  refine wpHoldF_nil ?_
  intro W1 hb1
  have hcp := copy_bytes (c2 := 16) (cap := 32) (d := 16) (s := 32) (k := 16) (T0.out.grow hb1) (by rw [zs_length]) Hs.out.symm (by rw [zs_length, Hs.out]; decide) (Bs0.some (bytes_row (K0.out.grow hb1)))
  rw [Hst.out] at hcp
  have T1 := (T0.out.grow hb1).set (bysA (s.take 16))
  have R1 := (R0.out.grow hb1).other hg2 (bysA (s.take 16))
  have B1 := Lib.hid (below_setRow (B0.out.trans (hb1.mono B0.out.size)) hg1 (bysA (s.take 16)))
  generalize W1.setRow t (bysA (s.take 16)) = W2 at *
  obtain ⟨t1, t2, t3⟩ := T1
  obtain ⟨r1, r2, r3⟩ := R1
  clear hb1
  go_wp2_with fail
  refine bodyPost_ret (v := .agg (bysA (s.take 16))) (results_tag Tryz.results59 hz2 _ _ _ rfl (by go_simp) (by go_simp)) rfl ⟨rfl, ?_⟩
  exact below_setRow B1.out hg3 _
theorem mac_at {kc bc m nb : Nat} {kp bp : Option Addr} {k b : List Nat} {M : St} {w : World} (hm : m = k.length) (hnb : nb = b.length) (hM : mac k b = M) (hT : Tabs w) (hk : k.length ≤ 1000000) (hkb : ∀ i, k.getD i 0 < 256) (hkB : Bs0 w kp k) (hkc : k.length ≤ kc)
    (hb : b.length ≤ 1000000) (hbb : ∀ i, b.getD i 0 < 256) (hbB : Bs0 w bp b) (hbc : bp = none → bc = 0) :
    Calls Tryz.prog 60 #[.slice kp m kc, .slice bp nb bc] w fun e w' => e = .returned (.agg (keA M)) ∧ Below w.heap.size w w' := by
  subst hm hnb hM
  exact mac_c kc bc kp bp k b w hT hk hkb hkB hkc hb hbb hbB hbc
end Go.Proofs.YtddmjddlbhdcpaaGreatDoor

/-
  A struct that is built of all its parts: their cells, one behind the other. Of no one type.
-/
namespace Go.Proofs.YtddmjddlbhdcpaaGreatDoor
open Go.RowKit Go.Hold Go.Sh

theorem fold_setL : ∀ (vs : List Value) (c : Array Value) (o k : Nat), (vs.zipIdx k).foldl (fun cs p => cs.setIfInBounds (o + p.2) p.1) c = setL c (o + k) vs
  | [], _, _, _ => rfl
  | v :: vs, c, o, k => by
    rw [List.zipIdx_cons, List.foldl_cons, fold_setL vs _ o (k + 1)]; rfl
theorem fold_cells (v : Value) (c : Array Value) (o : Nat) : v.cells.zipIdx.foldl (fun cs (x, j) => cs.setIfInBounds (o + j) x) c = setL c o v.cells.toList := by
  rw [← Array.foldl_toList, Array.toList_zipIdx]
  exact fold_setL v.cells.toList c o 0
theorem setL_front (c : Array Value) (o : Nat) (vs : List Value) (h : o + vs.length ≤ c.size) : (setL c o vs).toList.take (o + vs.length) = c.toList.take o ++ vs := by
  apply List.ext_getElem?
  intro i
  rw [List.getElem?_take]
  by_cases h1 : i < o
  · rw [if_pos (by omega), List.getElem?_append_left (by simp; omega), List.getElem?_take, if_pos h1, Array.getElem?_toList, setL_get, if_neg (by omega), Array.getElem?_toList]
  · by_cases h2 : i < o + vs.length
    · rw [if_pos h2, List.getElem?_append_right (by simp; omega), Array.getElem?_toList, setL_get, if_pos (by omega)]
      congr 1
      simp; omega
    · rw [if_neg h2, List.getElem?_eq_none (by simp; omega)]
/-- Where parts lie that lie one behind the other. -/
def offs : Nat → List Value → List (Nat × Nat)
  | _, [] => []
  | o, v :: vs => (o, v.cells.size) :: offs (o + v.cells.size) vs
def cellsAll (vs : List Value) : List Value := vs.flatMap fun v => v.cells.toList
theorem fill_all (place : Nat → Option (Nat × Nat)) : ∀ (vs : List Value) (k o : Nat) (c : Array Value), (∀ j x, (offs o vs)[j]? = some x → place (k + j) = some x) → o + (cellsAll vs).length ≤ c.size →
    ∃ r, Instr.fill place c ((vs.zipIdx k).map fun p => (p.2, p.1)) = some r ∧ r.size = c.size ∧ r.toList.take (o + (cellsAll vs).length) = c.toList.take o ++ cellsAll vs
  | [], _, o, c, _, _ => ⟨c, rfl, rfl, by simp [cellsAll]⟩
  | v :: vs, k, o, c, hp, hs => by
    have h0 : place k = some (o, v.cells.size) := hp 0 _ rfl
    have e : cellsAll (v :: vs) = v.cells.toList ++ cellsAll vs := rfl
    have hl : v.cells.toList.length = v.cells.size := Array.length_toList
    rw [e, List.length_append, hl] at hs
    obtain ⟨r, h1, h2, h3⟩ := fill_all place vs (k + 1) (o + v.cells.size) (setL c o v.cells.toList) (fun j x hx => by
      have := hp (j + 1) x (by rw [offs, List.getElem?_cons_succ]; exact hx)
      rw [show k + 1 + j = k + (j + 1) by omega]; exact this) (by rw [setL_size]; omega)
    refine ⟨r, ?_, by rw [h2, setL_size], ?_⟩
    · rw [List.zipIdx_cons, List.map_cons, Instr.fill, h0]
      simp only [ne_eq, not_true_eq_false, decide_false, Bool.false_or, show ¬ (o + v.cells.size > c.size) by omega]
      rw [fold_cells]
      exact h1
    · have h4 := setL_front c o v.cells.toList (by omega)
      rw [hl] at h4
      rw [e, List.length_append, hl, ← Nat.add_assoc, h3, h4, List.append_assoc]
/-- Built of all its parts. -/
theorem run_build_all {P : Program} {t : TypeId} {fields : Array Field} (hu : P.underlying t = some (.struct fields)) (w : World) (vs : List Value)
    (hi : (P.info? t).map (fun i => i.zero.map fun z => z.cells.size) = some (some (cellsAll vs).length))
    (hp : fields.toList.mapM (fun f => (P.info? f.type).map fun i => (f.offset, i.size)) = some (offs 0 vs))
    (parts : Array (Nat × Value)) (he : parts.toList = vs.zipIdx.map fun p => (p.2, p.1)) : (Instr.build t parts).run P w = .ok (.agg (cellsAll vs).toArray) w := by
  refine run_build w t parts _ ?_
  unfold Program.built
  cases hit : P.info? t with
  | none => rw [hit] at hi; cases hi
  | some it =>
    rw [hit] at hi
    cases hz : it.zero with
    | none => rw [Option.map_some, hz] at hi; cases hi
    | some z =>
      rw [Option.map_some, hz] at hi
      simp only [Option.map_some, Option.some.injEq] at hi
      obtain ⟨r, h1, h2, h3⟩ := fill_all (fun i => (offs 0 vs).toArray[i]?) vs 0 0 z.cells (fun j x hx => by simpa using hx) (by rw [hi]; omega)
      rw [hu]
      simp only [hz, hp, he]
      rw [h1]
      congr 1
      have h5 : r.toList.length = (cellsAll vs).length := by rw [Array.length_toList, h2, hi]
      rw [Nat.zero_add, List.take_zero, List.nil_append, ← h5, List.take_length] at h3
      rw [← h3, Array.toArray_toList]
end Go.Proofs.YtddmjddlbhdcpaaGreatDoor

/-
  Headers, betas and what is wide: rows of bytes; hops, steps: rows of commands and bytes.
-/
namespace Go.Proofs.YtddmjddlbhdcpaaGreatDoor
open Go.RowKit Go.Hold Go.Sh Go.Cm

@[go_sem] theorem bysA_ext (l : List Nat) (a b : Nat) : (bysA l).extract a b = bysA ((l.drop a).take (b - a)) := by
  simp [bysA, bys, List.map_take, List.map_drop]
@[go_sem ↓] theorem loadAt_beta (v : Value) : Instr.loadAt 27 v = loadRow 27 v := rfl
set_option maxRecDepth 100000 in
@[go_sem] theorem run_load_beta (w : World) (n : Nat) (h1 : w.isRow n = true) (h2 : (w.rowOf n).size = 160) : (loadRow 27 (.pointer (some ⟨n, 0, none⟩))).run Tryz.prog w = .ok (.agg (w.rowOf n)) w := run_loadRow w Tryz.underlying27 rfl (by rw [h2]; kernel_rfl) n h1 rfl
set_option maxRecDepth 100000 in
@[go_sem] theorem run_load_beta_0_192 (w : World) (n : Nat) (h1 : w.isRow n = true) (h2 : (w.rowOf n).size = 192) : (loadRow 27 (.pointer (some ⟨n, 0, none⟩))).run Tryz.prog w = .ok (.agg ((w.rowOf n).extract 0 160)) w := run_loadMid (k := 160) Tryz.underlying27 rfl (by kernel_rfl) w n h1 (by omega)
set_option maxRecDepth 100000 in
@[go_sem] theorem run_load_beta_32_192 (w : World) (n : Nat) (h1 : w.isRow n = true) (h2 : (w.rowOf n).size = 192) : (loadRow 27 (.pointer (some ⟨n, 32, none⟩))).run Tryz.prog w = .ok (.agg ((w.rowOf n).extract 32 192)) w := run_loadMid (k := 160) Tryz.underlying27 rfl (by kernel_rfl) w n h1 (by omega)
set_option maxRecDepth 100000 in
@[go_sem] theorem run_load_beta_32_208 (w : World) (n : Nat) (h1 : w.isRow n = true) (h2 : (w.rowOf n).size = 208) : (loadRow 27 (.pointer (some ⟨n, 32, none⟩))).run Tryz.prog w = .ok (.agg ((w.rowOf n).extract 32 192)) w := run_loadMid (k := 160) Tryz.underlying27 rfl (by kernel_rfl) w n h1 (by omega)
@[go_sem ↓] theorem build_beta (ps : Array (Nat × Value)) : Instr.build 27 ps = bldA 27 ps := rfl
@[go_sem ↓] theorem loadAt_wide (v : Value) : Instr.loadAt 99 v = loadRow 99 v := rfl
set_option maxRecDepth 100000 in
@[go_sem] theorem run_load_wide (w : World) (n : Nat) (h1 : w.isRow n = true) (h2 : (w.rowOf n).size = 192) : (loadRow 99 (.pointer (some ⟨n, 0, none⟩))).run Tryz.prog w = .ok (.agg (w.rowOf n)) w := run_loadRow w Tryz.underlying99 rfl (by rw [h2]; kernel_rfl) n h1 rfl
@[go_sem ↓] theorem build_wide (ps : Array (Nat × Value)) : Instr.build 99 ps = bldA 99 ps := rfl
@[go_sem ↓] theorem loadAt_hdr (v : Value) : Instr.loadAt 31 v = loadRow 31 v := rfl
set_option maxRecDepth 100000 in
@[go_sem] theorem run_load_hdr (w : World) (n : Nat) (h1 : w.isRow n = true) (h2 : (w.rowOf n).size = 208) : (loadRow 31 (.pointer (some ⟨n, 0, none⟩))).run Tryz.prog w = .ok (.agg (w.rowOf n)) w := run_loadRow w Tryz.underlying31 rfl (by rw [h2]; kernel_rfl) n h1 rfl
set_option maxRecDepth 100000 in
@[go_sem] theorem run_load_hdr_11_267 (w : World) (n : Nat) (h1 : w.isRow n = true) (h2 : (w.rowOf n).size = 267) : (loadRow 31 (.pointer (some ⟨n, 11, none⟩))).run Tryz.prog w = .ok (.agg ((w.rowOf n).extract 11 219)) w := run_loadMid (k := 208) Tryz.underlying31 rfl (by kernel_rfl) w n h1 (by omega)
@[go_sem ↓] theorem build_hdr (ps : Array (Nat × Value)) : Instr.build 31 ps = bldA 31 ps := rfl
@[go_sem ↓] theorem loadAt_hop (v : Value) : Instr.loadAt 77 v = loadRow 77 v := rfl
set_option maxRecDepth 100000 in
@[go_sem] theorem run_load_hop (w : World) (n : Nat) (h1 : w.isRow n = true) (h2 : (w.rowOf n).size = 43) : (loadRow 77 (.pointer (some ⟨n, 0, none⟩))).run Tryz.prog w = .ok (.agg (w.rowOf n)) w := run_loadRow w Tryz.underlying77 rfl (by rw [h2]; kernel_rfl) n h1 rfl
@[go_sem ↓] theorem build_hop (ps : Array (Nat × Value)) : Instr.build 77 ps = bldA 77 ps := rfl
@[go_sem ↓] theorem loadAt_rhop (v : Value) : Instr.loadAt 84 v = loadRow 84 v := rfl
set_option maxRecDepth 100000 in
@[go_sem] theorem run_load_rhop (w : World) (n : Nat) (h1 : w.isRow n = true) (h2 : (w.rowOf n).size = 43) : (loadRow 84 (.pointer (some ⟨n, 0, none⟩))).run Tryz.prog w = .ok (.agg (w.rowOf n)) w := run_loadRow w Tryz.underlying84 rfl (by rw [h2]; kernel_rfl) n h1 rfl
@[go_sem ↓] theorem build_rhop (ps : Array (Nat × Value)) : Instr.build 84 ps = bldA 84 ps := rfl
@[go_sem ↓] theorem loadAt_step (v : Value) : Instr.loadAt 53 v = loadRow 53 v := rfl
set_option maxRecDepth 100000 in
@[go_sem] theorem run_load_step (w : World) (n : Nat) (h1 : w.isRow n = true) (h2 : (w.rowOf n).size = 267) : (loadRow 53 (.pointer (some ⟨n, 0, none⟩))).run Tryz.prog w = .ok (.agg (w.rowOf n)) w := run_loadRow w Tryz.underlying53 rfl (by rw [h2]; kernel_rfl) n h1 rfl
@[go_sem ↓] theorem build_step (ps : Array (Nat × Value)) : Instr.build 53 ps = bldA 53 ps := rfl
@[go_sem ↓] theorem loadAt_rhdr (v : Value) : Instr.loadAt 40 v = loadRow 40 v := rfl
set_option maxRecDepth 100000 in
@[go_sem] theorem run_load_rhdr (w : World) (n : Nat) (h1 : w.isRow n = true) (h2 : (w.rowOf n).size = 49) : (loadRow 40 (.pointer (some ⟨n, 0, none⟩))).run Tryz.prog w = .ok (.agg (w.rowOf n)) w := run_loadRow w Tryz.underlying40 rfl (by rw [h2]; kernel_rfl) n h1 rfl
set_option maxRecDepth 100000 in
@[go_sem] theorem run_load_rhdr_11_108 (w : World) (n : Nat) (h1 : w.isRow n = true) (h2 : (w.rowOf n).size = 108) : (loadRow 40 (.pointer (some ⟨n, 11, none⟩))).run Tryz.prog w = .ok (.agg ((w.rowOf n).extract 11 60)) w := run_loadMid (k := 49) Tryz.underlying40 rfl (by kernel_rfl) w n h1 (by omega)
@[go_sem ↓] theorem build_rhdr (ps : Array (Nat × Value)) : Instr.build 40 ps = bldA 40 ps := rfl
@[go_sem ↓] theorem loadAt_rstep (v : Value) : Instr.loadAt 59 v = loadRow 59 v := rfl
set_option maxRecDepth 100000 in
@[go_sem] theorem run_load_rstep (w : World) (n : Nat) (h1 : w.isRow n = true) (h2 : (w.rowOf n).size = 108) : (loadRow 59 (.pointer (some ⟨n, 0, none⟩))).run Tryz.prog w = .ok (.agg (w.rowOf n)) w := run_loadRow w Tryz.underlying59 rfl (by rw [h2]; kernel_rfl) n h1 rfl
@[go_sem ↓] theorem build_rstep (ps : Array (Nat × Value)) : Instr.build 59 ps = bldA 59 ps := rfl
set_option maxRecDepth 100000 in
@[go_sem] theorem run_load_key_0_208 (w : World) (n : Nat) (h1 : w.isRow n = true) (h2 : (w.rowOf n).size = 208) : (loadRow 23 (.pointer (some ⟨n, 0, none⟩))).run Tryz.prog w = .ok (.agg ((w.rowOf n).extract 0 32)) w := run_loadMid (k := 32) Tryz.underlying23 rfl (by kernel_rfl) w n h1 (by omega)
set_option maxRecDepth 100000 in
@[go_sem] theorem run_load_key_0_43 (w : World) (n : Nat) (h1 : w.isRow n = true) (h2 : (w.rowOf n).size = 43) : (loadRow 23 (.pointer (some ⟨n, 0, none⟩))).run Tryz.prog w = .ok (.agg ((w.rowOf n).extract 0 32)) w := run_loadMid (k := 32) Tryz.underlying23 rfl (by kernel_rfl) w n h1 (by omega)
set_option maxRecDepth 100000 in
@[go_sem] theorem run_load_key_219_267 (w : World) (n : Nat) (h1 : w.isRow n = true) (h2 : (w.rowOf n).size = 267) : (loadRow 23 (.pointer (some ⟨n, 219, none⟩))).run Tryz.prog w = .ok (.agg ((w.rowOf n).extract 219 251)) w := run_loadMid (k := 32) Tryz.underlying23 rfl (by kernel_rfl) w n h1 (by omega)
set_option maxRecDepth 100000 in
@[go_sem] theorem run_load_key_0_49 (w : World) (n : Nat) (h1 : w.isRow n = true) (h2 : (w.rowOf n).size = 49) : (loadRow 23 (.pointer (some ⟨n, 0, none⟩))).run Tryz.prog w = .ok (.agg ((w.rowOf n).extract 0 32)) w := run_loadMid (k := 32) Tryz.underlying23 rfl (by kernel_rfl) w n h1 (by omega)
set_option maxRecDepth 100000 in
@[go_sem] theorem run_load_key_60_108 (w : World) (n : Nat) (h1 : w.isRow n = true) (h2 : (w.rowOf n).size = 108) : (loadRow 23 (.pointer (some ⟨n, 60, none⟩))).run Tryz.prog w = .ok (.agg ((w.rowOf n).extract 60 92)) w := run_loadMid (k := 32) Tryz.underlying23 rfl (by kernel_rfl) w n h1 (by omega)
set_option maxRecDepth 100000 in
@[go_sem] theorem run_load_tag_192_208 (w : World) (n : Nat) (h1 : w.isRow n = true) (h2 : (w.rowOf n).size = 208) : (loadRow 29 (.pointer (some ⟨n, 192, none⟩))).run Tryz.prog w = .ok (.agg ((w.rowOf n).extract 192 208)) w := run_loadMid (k := 16) Tryz.underlying29 rfl (by kernel_rfl) w n h1 (by omega)
set_option maxRecDepth 100000 in
@[go_sem] theorem run_load_tag_251_267 (w : World) (n : Nat) (h1 : w.isRow n = true) (h2 : (w.rowOf n).size = 267) : (loadRow 29 (.pointer (some ⟨n, 251, none⟩))).run Tryz.prog w = .ok (.agg ((w.rowOf n).extract 251 267)) w := run_loadMid (k := 16) Tryz.underlying29 rfl (by kernel_rfl) w n h1 (by omega)
set_option maxRecDepth 100000 in
@[go_sem] theorem run_load_tag_33_49 (w : World) (n : Nat) (h1 : w.isRow n = true) (h2 : (w.rowOf n).size = 49) : (loadRow 29 (.pointer (some ⟨n, 33, none⟩))).run Tryz.prog w = .ok (.agg ((w.rowOf n).extract 33 49)) w := run_loadMid (k := 16) Tryz.underlying29 rfl (by kernel_rfl) w n h1 (by omega)
set_option maxRecDepth 100000 in
@[go_sem] theorem run_load_tag_92_108 (w : World) (n : Nat) (h1 : w.isRow n = true) (h2 : (w.rowOf n).size = 108) : (loadRow 29 (.pointer (some ⟨n, 92, none⟩))).run Tryz.prog w = .ok (.agg ((w.rowOf n).extract 92 108)) w := run_loadMid (k := 16) Tryz.underlying29 rfl (by kernel_rfl) w n h1 (by omega)
set_option maxRecDepth 100000 in
@[go_sem] theorem run_load_tag_16_192 (w : World) (n : Nat) (h1 : w.isRow n = true) (h2 : (w.rowOf n).size = 192) : (loadRow 29 (.pointer (some ⟨n, 16, none⟩))).run Tryz.prog w = .ok (.agg ((w.rowOf n).extract 16 32)) w := run_loadMid (k := 16) Tryz.underlying29 rfl (by kernel_rfl) w n h1 (by omega)
set_option maxRecDepth 100000 in
@[go_sem] theorem run_load_b16_0_192 (w : World) (n : Nat) (h1 : w.isRow n = true) (h2 : (w.rowOf n).size = 192) : (loadRow 28 (.pointer (some ⟨n, 0, none⟩))).run Tryz.prog w = .ok (.agg ((w.rowOf n).extract 0 16)) w := run_loadMid (k := 16) Tryz.underlying28 rfl (by kernel_rfl) w n h1 (by omega)
set_option maxRecDepth 100000 in
@[go_sem] theorem run_load_cmd_32_43 (w : World) (n : Nat) (h1 : w.isRow n = true) (h2 : (w.rowOf n).size = 43) : (loadRow 51 (.pointer (some ⟨n, 32, none⟩))).run Tryz.prog w = .ok (.agg ((w.rowOf n).extract 32 43)) w := run_loadMid (k := 11) Tryz.underlying51 rfl (by kernel_rfl) w n h1 (by omega)
set_option maxRecDepth 100000 in
@[go_sem] theorem run_load_cmd_0_267 (w : World) (n : Nat) (h1 : w.isRow n = true) (h2 : (w.rowOf n).size = 267) : (loadRow 51 (.pointer (some ⟨n, 0, none⟩))).run Tryz.prog w = .ok (.agg ((w.rowOf n).extract 0 11)) w := run_loadMid (k := 11) Tryz.underlying51 rfl (by kernel_rfl) w n h1 (by omega)
set_option maxRecDepth 100000 in
@[go_sem] theorem run_load_rcmd_32_43 (w : World) (n : Nat) (h1 : w.isRow n = true) (h2 : (w.rowOf n).size = 43) : (loadRow 57 (.pointer (some ⟨n, 32, none⟩))).run Tryz.prog w = .ok (.agg ((w.rowOf n).extract 32 43)) w := run_loadMid (k := 11) Tryz.underlying57 rfl (by kernel_rfl) w n h1 (by omega)
set_option maxRecDepth 100000 in
@[go_sem] theorem run_load_rcmd_0_108 (w : World) (n : Nat) (h1 : w.isRow n = true) (h2 : (w.rowOf n).size = 108) : (loadRow 57 (.pointer (some ⟨n, 0, none⟩))).run Tryz.prog w = .ok (.agg ((w.rowOf n).extract 0 11)) w := run_loadMid (k := 11) Tryz.underlying57 rfl (by kernel_rfl) w n h1 (by omega)
@[go_sem ↓] theorem build_tag (ps : Array (Nat × Value)) : Instr.build 29 ps = bldA 29 ps := rfl
@[go_sem ↓] theorem loadAt_rcmd' (v : Value) : Instr.loadAt 57 v = loadRow 57 v := rfl
/-! ### Rows of noughts -/
set_option maxRecDepth 100000 in
@[go_sem] theorem run_bld0_beta (w : World) : (bldA 27 #[]).run Tryz.prog w = .ok (.agg (bysA (zs 160))) w := run_build w _ _ _ (by kernel_rfl)
set_option maxRecDepth 100000 in
@[go_sem] theorem run_bld0_wide (w : World) : (bldA 99 #[]).run Tryz.prog w = .ok (.agg (bysA (zs 192))) w := run_build w _ _ _ (by kernel_rfl)
set_option maxRecDepth 100000 in
@[go_sem] theorem run_bld0_hdr (w : World) : (bldA 31 #[]).run Tryz.prog w = .ok (.agg (bysA (zs 208))) w := run_build w _ _ _ (by kernel_rfl)
set_option maxRecDepth 100000 in
@[go_sem] theorem run_bld0_tag (w : World) : (bldA 29 #[]).run Tryz.prog w = .ok (.agg (bysA (zs 16))) w := run_build w _ _ _ (by kernel_rfl)
set_option maxRecDepth 100000 in
@[go_sem] theorem zc_beta : Tryz.zeroCells27 = bysA (zs 160) := by kernel_rfl
set_option maxRecDepth 100000 in
@[go_sem] theorem zc_wide : Tryz.zeroCells99 = bysA (zs 192) := by kernel_rfl
set_option maxRecDepth 100000 in
@[go_sem] theorem zc_hdr : Tryz.zeroCells31 = bysA (zs 208) := by kernel_rfl
/-! ### A header -/
theorem cells_bys (l : List Nat) : (Value.agg (bysA l)).cells.toList = bys l := by simp [Value.cells, bysA]
theorem bys_app (l m : List Nat) : bys l ++ bys m = bys (l ++ m) := by simp [bys]
set_option maxRecDepth 100000 in
theorem run_bldHdr {a b g : List Nat} (ha : a.length = 32) (hb : b.length = 160) (hg : g.length = 16) (w : World) : (bldA 31 #[(0, .agg (bysA a)), (1, .agg (bysA b)), (2, .agg (bysA g))]).run Tryz.prog w = .ok (.agg (bysA (a ++ b ++ g))) w := by
  have sa : (bysA a).size = 32 := by rw [bysA_size, ha]
  have sb : (bysA b).size = 160 := by rw [bysA_size, hb]
  have sg : (bysA g).size = 16 := by rw [bysA_size, hg]
  have hc : (cellsAll [.agg (bysA a), .agg (bysA b), .agg (bysA g)]) = bys (a ++ b ++ g) := by
    show (Value.agg (bysA a)).cells.toList ++ ((Value.agg (bysA b)).cells.toList ++ ((Value.agg (bysA g)).cells.toList ++ [])) = _
    rw [cells_bys, cells_bys, cells_bys, List.append_nil, bys_app, bys_app, List.append_assoc]
  have := run_build_all (P := Tryz.prog) Tryz.underlying31 w [.agg (bysA a), .agg (bysA b), .agg (bysA g)]
    (by rw [hc, bys_length, List.length_append, List.length_append, ha, hb, hg]; kernel_rfl)
    (by simp only [offs, Value.cells, sa, sb, sg]; kernel_rfl) #[(0, .agg (bysA a)), (1, .agg (bysA b)), (2, .agg (bysA g))] rfl
  rw [hc] at this
  exact this
theorem results_hdr2 {fn : Func} {p p' p'' : Tmp} {cs : Array Value} {v u : Value} (h : fn.results = #[.cell p 31, .tmp p', .tmp p'']) (hc : cs.size = 208) (w : World) (tmps : Array Value) (n : Nat) (hp : tmps.getD p undef = .pointer (some ⟨n, 0, none⟩)) (h1 : w.isRow n = true) (h2 : w.rowOf n = cs) (hp' : tmps.getD p' undef = v) (hp'' : tmps.getD p'' undef = u) :
    (results fn tmps).run Tryz.prog w = .ok (.tuple #[.agg cs, v, u]) w := by
  obtain ⟨s, hs⟩ := World.isRow_spec h1
  rw [h2] at hs
  have e : tmps[p]?.getD undef = .pointer (some ⟨n, 0, none⟩) := by simpa using hp
  have e' : tmps[p']?.getD undef = v := by simpa using hp'
  have e'' : tmps[p'']?.getD undef = u := by simpa using hp''
  simp [results, h, e, e', e'', asAddr, run_loadVar_row w n s 31 cs (0, 0) _ hs Tryz.underlying31 rfl (by rw [hc]; kernel_rfl)]
theorem results_wide {fn : Func} {p : Tmp} {cs : Array Value} (h : fn.results = #[.cell p 99]) (hc : cs.size = 192) (w : World) (tmps : Array Value) (n : Nat) (hp : tmps.getD p undef = .pointer (some ⟨n, 0, none⟩)) (h1 : w.isRow n = true) (h2 : w.rowOf n = cs) : (results fn tmps).run Tryz.prog w = .ok (.agg cs) w :=
  results_row w h Tryz.underlying99 rfl (by rw [hc]; kernel_rfl) tmps n hp h1 h2
theorem results_beta {fn : Func} {p : Tmp} {cs : Array Value} (h : fn.results = #[.cell p 27]) (hc : cs.size = 160) (w : World) (tmps : Array Value) (n : Nat) (hp : tmps.getD p undef = .pointer (some ⟨n, 0, none⟩)) (h1 : w.isRow n = true) (h2 : w.rowOf n = cs) : (results fn tmps).run Tryz.prog w = .ok (.agg cs) w :=
  results_row w h Tryz.underlying27 rfl (by rw [hc]; kernel_rfl) tmps n hp h1 h2
theorem results_step_slot {fn : Func} {p p' : Tmp} {cs : Array Value} {v : Value} (h : fn.results = #[.cell p 53, .tmp p']) (hc : cs.size = 267) (w : World) (tmps : Array Value) (n : Nat) (hp : tmps.getD p undef = .pointer (some ⟨n, 0, none⟩)) (h1 : w.isRow n = true) (h2 : w.rowOf n = cs) (hx : tmps.getD p' undef = v) : (results fn tmps).run Tryz.prog w = .ok (.tuple #[.agg cs, v]) w :=
  results_row_slot w h Tryz.underlying53 rfl (by rw [hc]; kernel_rfl) tmps n hp h1 h2 hx
/-! ### Arrays out of slices -/
def arr_beta (v : Value) : Sem Value := Instr.arrayAt 27 v
@[go_sem ↓] theorem fold_arr_beta (v : Value) : Instr.arrayAt 27 v = arr_beta v := rfl
@[go_sem] theorem run_arr_beta (b o cap : Nat) (w : World) : (arr_beta (.slice (some ⟨b, o, none⟩) 160 cap)).run Tryz.prog w = .ok (.pointer (some ⟨b, o, none⟩)) w := by
  unfold arr_beta
  simp [Instr.arrayAt, run_underlying Tryz.underlying27]
def arr_b16 (v : Value) : Sem Value := Instr.arrayAt 28 v
@[go_sem ↓] theorem fold_arr_b16 (v : Value) : Instr.arrayAt 28 v = arr_b16 v := rfl
@[go_sem] theorem run_arr_b16 (b o cap : Nat) (w : World) : (arr_b16 (.slice (some ⟨b, o, none⟩) 16 cap)).run Tryz.prog w = .ok (.pointer (some ⟨b, o, none⟩)) w := by
  unfold arr_b16
  simp [Instr.arrayAt, run_underlying Tryz.underlying28]
def arr_tag (v : Value) : Sem Value := Instr.arrayAt 29 v
@[go_sem ↓] theorem fold_arr_tag (v : Value) : Instr.arrayAt 29 v = arr_tag v := rfl
@[go_sem] theorem run_arr_tag (b o cap : Nat) (w : World) : (arr_tag (.slice (some ⟨b, o, none⟩) 16 cap)).run Tryz.prog w = .ok (.pointer (some ⟨b, o, none⟩)) w := by
  unfold arr_tag
  simp [Instr.arrayAt, run_underlying Tryz.underlying29]
/-! ### Hops -/
def hopA (k : List Nat) (c : Cmd) : Array Value := bysA k ++ cmdA c
theorem hopA_size {k : List Nat} {c : Cmd} (hk : k.length = 32) (hc : c.id.length = 8) : (hopA k c).size = 43 := by simp [hopA, bysA_size, hk, cmdA_size hc]
@[go_sem] theorem hopA_key (k : List Nat) (c : Cmd) (hk : k.length = 32) : (hopA k c).extract 0 32 = bysA k := by
  unfold hopA
  have : (bysA k).size = 32 := by rw [bysA_size, hk]
  rw [← this, Array.extract_append_left]
  simp
@[go_sem] theorem hopA_cmd (k : List Nat) (c : Cmd) (hk : k.length = 32) (hc : c.id.length = 8) : (hopA k c).extract 32 43 = cmdA c := by
  unfold hopA
  have h1 : (bysA k).size = 32 := by rw [bysA_size, hk]
  have h2 : (cmdA c).size = 11 := cmdA_size hc
  rw [show (43 : Nat) = 32 + (cmdA c).size by omega, ← h1]
  simp
@[go_sem] theorem hopA_one (k : List Nat) (c : Cmd) : oneAll (hopA k c) = true := by
  have h1 := bysA_one k
  have h2 := cmdA_one c
  unfold oneAll hopA at *
  rw [Array.all_append, h1, h2]; rfl
end Go.Proofs.YtddmjddlbhdcpaaGreatDoor

/-
  From a walk to the given row: headers that came in.
-/
namespace Go.Proofs.YtddmjddlbhdcpaaGreatDoor
open Go.ChangeShapes Go.WideShapes Go.ChangeAt Go.RowKit Go.Sh

set_option maxRecDepth 100000 in
theorem hdr_of_trod {H : Type} {enc : TypeId × Value → H} {w : World} {base : Nat} {spare : Nat → Bool} {held : Bool} {fuel : Nat} {cs : List Value} {x : DataW H × List MemPlace}
    (hf : DataW.trod enc Tryz.prog w base spare held fuel 31 cs = some x) : ∃ l : List Nat, cs = bys l ∧ l.length = 208 ∧ ∀ i, l.getD i 0 < 256 := by
  have hc0 : Tryz.prog.cellsOf 23 = 32 := by kernel_rfl
  have hc1 : Tryz.prog.cellsOf 27 = 160 := by kernel_rfl
  have hc2 : Tryz.prog.cellsOf 29 = 16 := by kernel_rfl
  have hca : Tryz.prog.cellsOf 31 = 208 := by kernel_rfl
  obtain ⟨xs, n, _, _, hl, hxl, hx⟩ := DataW.trod_struct Tryz.underlying31 hf
  rw [hca] at hl
  have hxl3 : xs.length = 3 := by rw [hxl]; rfl
  have h0 : DataW.trod enc Tryz.prog w base spare held n 23 ((cs.drop 0).take (Tryz.prog.cellsOf 23)) = xs[0]? := hx 0 _ rfl
  have h1 : DataW.trod enc Tryz.prog w base spare held n 27 ((cs.drop 32).take (Tryz.prog.cellsOf 27)) = xs[1]? := hx 1 _ rfl
  have h2 : DataW.trod enc Tryz.prog w base spare held n 29 ((cs.drop 192).take (Tryz.prog.cellsOf 29)) = xs[2]? := hx 2 _ rfl
  rw [hc0] at h0
  rw [hc1] at h1
  rw [hc2] at h2
  rw [List.getElem?_eq_getElem (by omega)] at h0 h1 h2
  obtain ⟨a, e0, ha, hab⟩ := arr_of_trod Tryz.underlying23 hc0 h0
  obtain ⟨b, e1, hb, hbb⟩ := arr_of_trod Tryz.underlying27 hc1 h1
  obtain ⟨g, e2, hg, hgb⟩ := arr_of_trod Tryz.underlying29 hc2 h2
  refine ⟨a ++ b ++ g, ?_, by rw [List.length_append, List.length_append, ha, hb, hg], bts_app (bts_app hab hbb) hgb⟩
  rw [← bys_app, ← bys_app, ← e0, ← e1, ← e2, List.drop_zero, List.take_of_length_le (l := cs.drop 192) (by rw [List.length_drop, hl]; decide), List.append_assoc, show cs.drop 192 = (cs.drop 32).drop 160 by rw [List.drop_drop], List.take_append_drop, List.take_append_drop]
set_option maxRecDepth 100000 in
theorem open_hdr {H : Type} {enc : TypeId × Value → H} {w : World} {r : Reach} {b0 base : Nat} {spare : Nat → Bool} {held : Bool} {v : Value} {d : DataW H} {p : List MemPlace}
    (hv : Value.okWide Tryz.prog w r b0 31 v) (h : DataW.Trod enc Tryz.prog w base spare held 31 v d p) : ∃ l : List Nat, v = .agg (bysA l) ∧ l.length = 208 ∧ ∀ i, l.getD i 0 < 256 := by
  obtain ⟨cs, rfl, _⟩ := okWide_struct Tryz.underlying31 hv
  obtain ⟨fuel, hf⟩ := h
  obtain ⟨l, ha, hok⟩ := hdr_of_trod hf
  refine ⟨l, ?_, hok⟩
  have : cs.toList = (bysA l).toList := by simpa [Value.cells, bysA] using ha
  rw [Array.toList_inj.1 this]
end Go.Proofs.YtddmjddlbhdcpaaGreatDoor

/-
  ChaCha20 as numbers: quarters, double rounds, a block's bytes, a stream's. Of no program.
-/
namespace Go.Ch
open Go Go.Sh

/-! ### Quarters -/
/-- A word turned left. -/
def rl (x : Int) (n : Nat) : Int := rotr x (32 - n)
structure Q4 where
  (a b c d : Int)
def qr (a b c d : Int) : Q4 :=
  let a1 := add32 a b
  let d1 := rl (x32 d a1) 16
  let c1 := add32 c d1
  let b1 := rl (x32 b c1) 12
  let a2 := add32 a1 b1
  let d2 := rl (x32 d1 a2) 8
  let c2 := add32 c1 d2
  let b2 := rl (x32 b1 c2) 7
  ⟨a2, b2, c2, d2⟩
/-- A quarter of the words at four places. -/
def quart (s : List Int) (i j k l : Nat) : List Int :=
  let q := qr (s.getD i 0) (s.getD j 0) (s.getD k 0) (s.getD l 0)
  (((s.set i q.a).set j q.b).set k q.c).set l q.d
theorem quart_length (s : List Int) (i j k l : Nat) : (quart s i j k l).length = s.length := by simp [quart]
/-- The first n columns. -/
def cols (s : List Int) : Nat → List Int
  | 0 => s
  | n + 1 => quart (cols s n) n (4 + n) (8 + n) (12 + n)
/-- The first n diagonals. -/
def dias (s : List Int) : Nat → List Int
  | 0 => s
  | n + 1 => quart (dias s n) n (4 + (n + 1) % 4) (8 + (n + 2) % 4) (12 + (n + 3) % 4)
theorem cols_length (s : List Int) (n : Nat) : (cols s n).length = s.length := by
  induction n with
  | zero => rfl
  | succ n ih => rw [cols, quart_length, ih]
theorem dias_length (s : List Int) (n : Nat) : (dias s n).length = s.length := by
  induction n with
  | zero => rfl
  | succ n ih => rw [dias, quart_length, ih]
def drnd (s : List Int) : List Int := dias (cols s 4) 4
theorem drnd_length (s : List Int) : (drnd s).length = s.length := by unfold drnd; rw [dias_length, cols_length]
def drnds (s : List Int) : Nat → List Int
  | 0 => s
  | n + 1 => drnd (drnds s n)
theorem drnds_length (s : List Int) (n : Nat) : (drnds s n).length = s.length := by
  induction n with
  | zero => rfl
  | succ n ih => rw [drnds, drnd_length, ih]

/-! ### The first words -/
/-- Of a word's bytes, lowest first, the first m. -/
def pkl (b : List Nat) (j : Nat) : Nat → Nat
  | 0 => 0
  | m + 1 => if m < 4 then pkl b j m + b.getD (4 * j + m) 0 * 256 ^ m else pkl b j m
theorem pkl_top (b : List Nat) (j m : Nat) (h : 4 ≤ m) : pkl b j m = pkl b j 4 := by
  induction m with
  | zero => omega
  | succ m ih =>
    by_cases h4 : m < 4
    · obtain rfl : m = 3 := by omega
      rfl
    · rw [pkl, if_neg h4]; exact ih (by omega)
theorem pkl_lt (b : List Nat) (hb : ∀ i, b.getD i 0 < 256) (j m : Nat) : pkl b j m < 256 ^ m := by
  induction m with
  | zero => simp [pkl]
  | succ m ih =>
    rw [pkl, Nat.pow_succ]
    have h1 : b.getD (4 * j + m) 0 * 256 ^ m ≤ 255 * 256 ^ m := Nat.mul_le_mul_right _ (by have := hb (4 * j + m); omega)
    split <;> omega
/-- A word of bytes. -/
def wd (b : List Nat) (j : Nat) : Int := (pkl b j 4 : Nat)
/-- Words of which those from 'at' on take bytes: behind i bytes. -/
def wput (s : List Int) (a : Nat) (b : List Nat) (i : Nat) : List Int := (List.range 16).map fun j => if j < a then s.getD j 0 else ((pkl b (j - a) (i - 4 * (j - a)) : Nat) : Int)
theorem wput_length (s : List Int) (a : Nat) (b : List Nat) (i : Nat) : (wput s a b i).length = 16 := by simp [wput]
theorem wput_get (s : List Int) (a : Nat) (b : List Nat) (i j : Nat) (h : j < 16) : (wput s a b i)[j]? = some (if j < a then s.getD j 0 else ((pkl b (j - a) (i - 4 * (j - a)) : Nat) : Int)) := by simp [wput, h]
theorem wput_zero (s : List Int) (a : Nat) (b : List Nat) (hs : s.length = 16) (hz : ∀ j, a ≤ j → s.getD j 0 = 0) : wput s a b 0 = s := by
  apply List.ext_getElem?
  intro j
  by_cases h : j < 16
  · rw [wput_get _ _ _ _ _ h, List.getElem?_eq_getElem (by omega)]
    congr 1
    by_cases ha : j < a
    · rw [if_pos ha]; simp [List.getD, hs, h]
    · rw [if_neg ha, Nat.zero_sub]
      have := hz j (by omega)
      simp only [List.getD, List.getElem?_eq_getElem (show j < s.length by omega), Option.getD_some] at this
      rw [this]; rfl
  · rw [List.getElem?_eq_none (by rw [wput_length]; omega), List.getElem?_eq_none (by omega)]
theorem wput_set (s : List Int) (a : Nat) (b : List Nat) (i : Nat) (h : a + i / 4 < 16) : (wput s a b i).set (a + i / 4) ((pkl b (i / 4) (i % 4 + 1) : Nat) : Int) = wput s a b (i + 1) := by
  apply List.ext_getElem?
  intro j
  rw [List.getElem?_set]
  by_cases hj : j < 16
  · rw [wput_get _ _ _ _ _ hj, wput_get _ _ _ _ _ hj]
    by_cases e : a + i / 4 = j
    · subst e
      rw [if_pos rfl, if_pos (by rw [wput_length]; omega), if_neg (by omega), show a + i / 4 - a = i / 4 by omega, show i + 1 - 4 * (i / 4) = i % 4 + 1 by omega]
    · rw [if_neg e]
      by_cases ha : j < a
      · rw [if_pos ha, if_pos ha]
      · rw [if_neg ha, if_neg ha]
        congr 2
        by_cases h1 : j - a < i / 4
        · rw [pkl_top _ _ _ (by omega), pkl_top _ _ (i + 1 - 4 * (j - a)) (by omega)]
        · rw [show i + 1 - 4 * (j - a) = 0 by omega, show i - 4 * (j - a) = 0 by omega]
  · rw [if_neg (by omega), List.getElem?_eq_none (by rw [wput_length]; omega), List.getElem?_eq_none (by rw [wput_length]; omega)]
/-- One byte more. -/
theorem byte_on (x y m : Nat) (hx : x < 256 ^ m) (hy : y < 256) (hm : m < 4) : o32 (x : Int) ((y : Int) * 2 ^ (m * 8) % 4294967296) = ((x + y * 256 ^ m : Nat) : Int) := by
  have e : 256 ^ m = 2 ^ (m * 8) := by rw [show (256 : Nat) = 2 ^ 8 by decide, ← Nat.pow_mul, Nat.mul_comm]
  have h4 : 256 ^ m ≤ 16777216 := Nat.le_trans (Nat.pow_le_pow_right (by decide) (show m ≤ 3 by omega)) (by decide)
  have h1 : y * 256 ^ m ≤ 255 * 256 ^ m := Nat.mul_le_mul_right _ (by omega)
  have e2 : (y : Int) * 2 ^ (m * 8) % 4294967296 = ((y * 256 ^ m : Nat) : Int) := by
    rw [show ((2 : Int) ^ (m * 8)) = ((256 ^ m : Nat) : Int) by rw [e]; simp]
    omega
  unfold o32
  rw [e2, u32_or_nat _ _ (by omega) (by omega)]
  congr 1
  have := Nat.shiftLeft_add_eq_or_of_lt (b := x) (i := m * 8) (by rw [← e]; exact hx) y
  rw [Nat.shiftLeft_eq, ← e] at this
  rw [Nat.or_comm, ← this, Nat.add_comm]
theorem wput_step (b : List Nat) (hb : ∀ i, b.getD i 0 < 256) (i : Nat) :
    o32 ((pkl b (i / 4) (i % 4) : Nat) : Int) (((b.getD i 0 : Nat) : Int) * 2 ^ (i % 4 * 8) % 4294967296) = ((pkl b (i / 4) (i % 4 + 1) : Nat) : Int) := by
  rw [byte_on _ _ _ (pkl_lt b hb _ _) (hb i) (by omega), pkl, if_pos (by omega), show 4 * (i / 4) + i % 4 = i by omega]
def cst : List Int := [1634760805, 857760878, 2036477234, 1797285236]
/-- A block's first words. -/
def fst (k n : List Nat) (c : Int) : List Int := cst ++ (List.range 8).map (wd k) ++ [c] ++ (List.range 3).map (wd n)
theorem fst_length (k n : List Nat) (c : Int) : (fst k n c).length = 16 := by simp [fst, cst]
theorem fst_get (k n : List Nat) (c : Int) (j : Nat) (h : j < 16) : (fst k n c)[j]? = some (if j < 4 then cst.getD j 0 else if j < 12 then wd k (j - 4) else if j = 12 then c else wd n (j - 13)) := by
  have hc : cst.length = 4 := rfl
  unfold fst
  by_cases h1 : j < 4
  · rw [if_pos h1, List.append_assoc, List.append_assoc, List.getElem?_append_left (by omega), List.getElem?_eq_getElem (by omega)]
    simp [List.getD, hc, h1]
  · rw [if_neg h1]
    by_cases h2 : j < 12
    · rw [if_pos h2, List.append_assoc, List.getElem?_append_left (by simp; omega), List.getElem?_append_right (by omega), hc, List.getElem?_map, List.getElem?_range (by omega)]
      rfl
    · rw [if_neg h2]
      by_cases h3 : j = 12
      · subst h3
        rw [if_pos rfl, List.getElem?_append_left (by simp; omega), List.getElem?_append_right (by simp; omega)]
        simp [hc]
      · have e : (cst ++ (List.range 8).map (wd k) ++ [c]).length = 13 := by simp [hc]
        rw [if_neg h3, List.getElem?_append_right (by omega), e, List.getElem?_map, List.getElem?_range (by omega)]
        rfl
def cst0 : List Int := cst ++ List.replicate 12 0
theorem cst0_length : cst0.length = 16 := rfl
theorem cst0_zero (j : Nat) (h : 4 ≤ j) : cst0.getD j 0 = 0 := by
  unfold cst0 cst
  rw [List.getD, List.getElem?_append_right (by simpa using h), List.getElem?_replicate]
  split <;> rfl
theorem cst0_get (j : Nat) (h : j < 4) : cst0.getD j 0 = cst.getD j 0 := by
  have hc : cst.length = 4 := rfl
  unfold cst0
  rw [List.getD, List.getElem?_append_left (by omega)]; rfl
def mid (k : List Nat) (c : Int) : List Int := (wput cst0 4 k 32).set 12 c
theorem mid_length (k : List Nat) (c : Int) : (mid k c).length = 16 := by unfold mid; rw [List.length_set, wput_length]
theorem mid_get (k : List Nat) (c : Int) (j : Nat) (h : j < 16) : (mid k c).getD j 0 = if j < 4 then cst.getD j 0 else if j < 12 then wd k (j - 4) else if j = 12 then c else 0 := by
  unfold mid List.getD
  rw [List.getElem?_set]
  by_cases e : 12 = j
  · subst e; rw [if_pos rfl, if_pos (by rw [wput_length]; decide)]; rfl
  · rw [if_neg e, wput_get _ _ _ _ _ h, Option.getD_some]
    by_cases h1 : j < 4
    · rw [if_pos h1, if_pos h1]; exact cst0_get j h1
    · rw [if_neg h1, if_neg h1]
      by_cases h2 : j < 12
      · rw [if_pos h2, pkl_top _ _ _ (by omega)]; unfold wd; rfl
      · rw [if_neg h2, if_neg (by omega), show 32 - 4 * (j - 4) = 0 by omega]; rfl
theorem mid_zero (k : List Nat) (c : Int) (j : Nat) (h : 13 ≤ j) : (mid k c).getD j 0 = 0 := by
  by_cases hj : j < 16
  · rw [mid_get _ _ _ hj, if_neg (by omega), if_neg (by omega), if_neg (by omega)]
  · rw [List.getD, List.getElem?_eq_none (by rw [mid_length]; omega)]; rfl
theorem nonce_in (k n : List Nat) (c : Int) : wput (mid k c) 13 n 12 = fst k n c := by
  apply List.ext_getElem?
  intro j
  by_cases h : j < 16
  · rw [wput_get _ _ _ _ _ h, fst_get _ _ _ _ h]
    congr 1
    by_cases h1 : j < 13
    · rw [if_pos h1, mid_get _ _ _ h]
      by_cases h2 : j < 12
      · simp only [if_pos h2]
      · rw [if_neg (by omega), if_neg h2, if_pos (by omega), if_neg (by omega), if_neg h2, if_pos (by omega)]
    · rw [if_neg h1, if_neg (by omega), if_neg (by omega), if_neg (by omega), pkl_top _ _ _ (by omega)]; unfold wd; rfl
  · rw [List.getElem?_eq_none (by rw [wput_length]; omega), List.getElem?_eq_none (by rw [fst_length]; omega)]

/-! ### A block -/
def sum16 (s f : List Int) : List Int := (List.range 16).map fun i => add32 (s.getD i 0) (f.getD i 0)
/-- Of which the first k are sums. -/
def sumW (s f : List Int) (k : Nat) : List Int := (List.range 16).map fun i => if i < k then add32 (s.getD i 0) (f.getD i 0) else s.getD i 0
theorem sumW_length (s f : List Int) (k : Nat) : (sumW s f k).length = 16 := by simp [sumW]
theorem sumW_get (s f : List Int) (k i : Nat) (h : i < 16) : (sumW s f k)[i]? = some (if i < k then add32 (s.getD i 0) (f.getD i 0) else s.getD i 0) := by simp [sumW, h]
theorem sumW_zero (s f : List Int) (hs : s.length = 16) : sumW s f 0 = s := by
  apply List.ext_getElem?
  intro i
  by_cases h : i < 16
  · rw [sumW_get _ _ _ _ h, if_neg (by omega), List.getElem?_eq_getElem (by omega)]; simp [List.getD, hs, h]
  · rw [List.getElem?_eq_none (by rw [sumW_length]; omega), List.getElem?_eq_none (by omega)]
theorem sumW_set (s f : List Int) (k : Nat) (h : k < 16) : (sumW s f k).set k (add32 (s.getD k 0) (f.getD k 0)) = sumW s f (k + 1) := by
  apply List.ext_getElem?
  intro j
  rw [List.getElem?_set]
  by_cases hj : j < 16
  · rw [sumW_get _ _ _ _ hj, sumW_get _ _ _ _ hj]
    by_cases e : k = j
    · subst e; rw [if_pos rfl, if_pos (by rw [sumW_length]; exact h), if_pos (by omega)]
    · rw [if_neg e]
      by_cases h1 : j < k
      · rw [if_pos h1, if_pos (by omega)]
      · rw [if_neg h1, if_neg (by omega)]
  · rw [if_neg (by omega), List.getElem?_eq_none (by rw [sumW_length]; omega), List.getElem?_eq_none (by rw [sumW_length]; omega)]
theorem sumW_all (s f : List Int) : sumW s f 16 = sum16 s f := by
  unfold sumW sum16
  apply List.map_congr_left
  intro i hi
  rw [if_pos (List.mem_range.1 hi)]
theorem sum16_length (s f : List Int) : (sum16 s f).length = 16 := by simp [sum16]
/-- A byte of words, as a number of the language; and as a plain one. -/
def oI (s : List Int) (i : Nat) : Int := s.getD (i / 4) 0 / 2 ^ (i % 4 * 8) % 256
def oB (s : List Int) (i : Nat) : Nat := (oI s i).toNat
theorem oI_nat (s : List Int) (i : Nat) : ((oB s i : Nat) : Int) = oI s i := by
  unfold oB
  have : 0 ≤ oI s i := Int.emod_nonneg _ (by decide)
  omega
theorem oB_lt (s : List Int) (i : Nat) : oB s i < 256 := by
  have h1 := oI_nat s i
  have h2 : oI s i < 256 := Int.emod_lt_of_pos _ (by decide)
  omega
/-- Of which the first k are there. -/
def outP (s : List Int) (k : Nat) : List Nat := (List.range 64).map fun i => if i < k then oB s i else 0
def outB (s : List Int) : List Nat := (List.range 64).map (oB s)
theorem outP_length (s : List Int) (k : Nat) : (outP s k).length = 64 := by simp [outP]
theorem outP_get (s : List Int) (k i : Nat) (h : i < 64) : (outP s k)[i]? = some (if i < k then oB s i else 0) := by simp [outP, h]
theorem outP_zero (s : List Int) : outP s 0 = zs 64 := by
  apply List.ext_getElem?
  intro i
  by_cases h : i < 64
  · rw [outP_get _ _ _ h, if_neg (by omega), zs, List.getElem?_replicate, if_pos h]
  · rw [List.getElem?_eq_none (by rw [outP_length]; omega), List.getElem?_eq_none (by rw [zs_length]; omega)]
theorem outP_set (s : List Int) (k : Nat) (h : k < 64) : (outP s k).set k (oB s k) = outP s (k + 1) := by
  apply List.ext_getElem?
  intro j
  rw [List.getElem?_set]
  by_cases hj : j < 64
  · rw [outP_get _ _ _ hj, outP_get _ _ _ hj]
    by_cases e : k = j
    · subst e; rw [if_pos rfl, if_pos (by rw [outP_length]; exact h), if_pos (by omega)]
    · rw [if_neg e]
      by_cases h1 : j < k
      · rw [if_pos h1, if_pos (by omega)]
      · rw [if_neg h1, if_neg (by omega)]
  · rw [if_neg (by omega), List.getElem?_eq_none (by rw [outP_length]; omega), List.getElem?_eq_none (by rw [outP_length]; omega)]
theorem outP_all (s : List Int) : outP s 64 = outB s := by
  unfold outP outB
  apply List.map_congr_left
  intro i hi
  rw [if_pos (List.mem_range.1 hi)]
theorem outB_length (s : List Int) : (outB s).length = 64 := by simp [outB]
theorem outB_bts (s : List Int) : ∀ i, (outB s).getD i 0 < 256 := getD_lt fun x hx => by
  obtain ⟨i, _, rfl⟩ := List.mem_map.1 hx
  exact oB_lt s i
/-- A block. -/
@[irreducible] def blk (k n : List Nat) (c : Nat) : List Nat := outB (sum16 (drnds (fst k n (c : Int)) 10) (fst k n (c : Int)))
theorem blk_length (k n : List Nat) (c : Nat) : (blk k n c).length = 64 := by unfold blk; exact outB_length _
theorem blk_bts (k n : List Nat) (c : Nat) : ∀ i, (blk k n c).getD i 0 < 256 := by unfold blk; exact outB_bts _
theorem blk_eq (k n : List Nat) (c : Nat) : blk k n c = outB (sum16 (drnds (fst k n (c : Int)) 10) (fst k n (c : Int))) := by unfold blk; rfl

/-! ### A stream -/
/-- A byte of the stream from block c on. -/
def stB (k n : List Nat) (c i : Nat) : Nat := (blk k n (c + i / 64)).getD (i % 64) 0
theorem stB_lt (k n : List Nat) (c i : Nat) : stB k n c i < 256 := blk_bts _ _ _ _
def strm (k n : List Nat) (c size : Nat) : List Nat := (List.range size).map (stB k n c)
theorem strm_length (k n : List Nat) (c size : Nat) : (strm k n c size).length = size := by simp [strm]
theorem strm_bts (k n : List Nat) (c size : Nat) : ∀ i, (strm k n c size).getD i 0 < 256 := getD_lt fun x hx => by
  obtain ⟨i, _, rfl⟩ := List.mem_map.1 hx
  exact stB_lt _ _ _ _
/-- Of which the first m bytes are there. -/
def strP (k n : List Nat) (c size m : Nat) : List Nat := (List.range size).map fun i => if i < m then stB k n c i else 0
theorem strP_length (k n : List Nat) (c size m : Nat) : (strP k n c size m).length = size := by simp [strP]
theorem strP_get (k n : List Nat) (c size m i : Nat) (h : i < size) : (strP k n c size m)[i]? = some (if i < m then stB k n c i else 0) := by simp [strP, h]
theorem strP_zero (k n : List Nat) (c size : Nat) : strP k n c size 0 = zs size := by
  apply List.ext_getElem?
  intro i
  by_cases h : i < size
  · rw [strP_get _ _ _ _ _ _ h]; simp [zs, h]
  · rw [List.getElem?_eq_none (by rw [strP_length]; omega), List.getElem?_eq_none (by rw [zs_length]; omega)]
theorem strP_all (k n : List Nat) (c size m : Nat) (h : size ≤ m) : strP k n c size m = strm k n c size := by
  unfold strP strm
  apply List.map_congr_left
  intro i hi
  rw [if_pos (by have := List.mem_range.1 hi; omega)]
/-- One block more goes over. -/
theorem strP_step (k n : List Nat) (c size i t : Nat) (hi : 64 * i < size) (ht : t = min 64 (size - 64 * i)) :
    (strP k n c size (64 * i)).take (64 * i) ++ (blk k n (c + i)).take t ++ (strP k n c size (64 * i)).drop (64 * i + t) = strP k n c size (64 * (i + 1)) := by
  have hl := strP_length k n c size (64 * i)
  have hb := blk_length k n (c + i)
  apply List.ext_getElem?
  intro j
  by_cases hj : j < size
  · rw [strP_get _ _ _ _ _ _ hj]
    by_cases h1 : j < 64 * i
    · rw [List.append_assoc, List.getElem?_append_left (by simp; omega), List.getElem?_take, if_pos h1, strP_get _ _ _ _ _ _ hj, if_pos h1, if_pos (by omega)]
    · by_cases h2 : j < 64 * i + t
      · rw [List.append_assoc, List.getElem?_append_right (by simp; omega), List.getElem?_append_left (by simp; omega)]
        have e : j - ((strP k n c size (64 * i)).take (64 * i)).length = j - 64 * i := by simp; omega
        rw [e, List.getElem?_take, if_pos (by omega), if_pos (by omega), List.getElem?_eq_getElem (by omega)]
        unfold stB
        rw [show c + j / 64 = c + i by omega, show j % 64 = j - 64 * i by omega]
        simp [List.getD, hb, show j - 64 * i < 64 by omega]
      · rw [List.getElem?_append_right (by simp; omega)]
        have e : j - ((strP k n c size (64 * i)).take (64 * i) ++ (blk k n (c + i)).take t).length = j - (64 * i + t) := by simp; omega
        rw [e, List.getElem?_drop, show 64 * i + t + (j - (64 * i + t)) = j by omega, strP_get _ _ _ _ _ _ hj, if_neg h1, if_neg (by omega)]
  · rw [List.getElem?_eq_none (by simp; omega), List.getElem?_eq_none (by rw [strP_length]; omega)]
/-! ### Bytes that are turned -/
def mixd (a b : List Nat) : List Nat := (List.range b.length).map fun i => a.getD i 0 ^^^ b.getD i 0
theorem mixd_length (a b : List Nat) : (mixd a b).length = b.length := by simp [mixd]
theorem mixd_bts {a b : List Nat} (ha : ∀ i, a.getD i 0 < 256) (hb : ∀ i, b.getD i 0 < 256) : ∀ i, (mixd a b).getD i 0 < 256 := getD_lt fun x hx => by
  obtain ⟨i, _, rfl⟩ := List.mem_map.1 hx
  exact xor_lt (ha i) (hb i)
/-- Of which the first m are turned. -/
def mixP (a b : List Nat) (m : Nat) : List Nat := (List.range b.length).map fun i => if i < m then a.getD i 0 ^^^ b.getD i 0 else a.getD i 0
theorem xor_twice (a b : Nat) : a ^^^ (a ^^^ b) = b := by rw [← Nat.xor_assoc, Nat.xor_self, Nat.zero_xor]
/-- Turned twice. -/
theorem mixd_twice (a b : List Nat) : mixd a (mixd a b) = b := by
  apply List.ext_getElem?
  intro i
  by_cases h : i < b.length
  · simp only [mixd, List.length_map, List.length_range, List.getElem?_map, List.getElem?_range h, Option.map_some]
    rw [List.getElem?_eq_getElem h]
    congr 1
    simp only [List.getD, List.getElem?_map, List.getElem?_range h, Option.map_some, Option.getD_some, List.getElem?_eq_getElem h]
    exact xor_twice _ _
  · rw [List.getElem?_eq_none (by rw [mixd_length, mixd_length]; omega), List.getElem?_eq_none (by omega)]
/-- Noughts are turned to the stream itself. -/
theorem mixd_zs (a : List Nat) (m : Nat) (h : m = a.length) : mixd a (zs m) = a := by
  subst h
  apply List.ext_getElem?
  intro i
  by_cases h : i < a.length
  · simp [mixd, zs, h, List.getD]
  · rw [List.getElem?_eq_none (by rw [mixd_length, zs_length]; omega), List.getElem?_eq_none (by omega)]

/-! ### An answer that the document fixes -/
def key0 : List Nat := List.range 32
def non0 : List Nat := [0, 0, 0, 9, 0, 0, 0, 74, 0, 0, 0, 0]
end Go.Ch

/-
  Headers as lists of numbers: streams, proofs, betas, fillers; what a hop takes off. Of no program.
-/
namespace Go.Hd
open Go Go.Sh Go.Ch Go.Cm

/-! ### Of a shared secret -/
def rhoL : List Nat := purp ++ [114, 104, 111]
def muL : List Nat := purp ++ [109, 117]
def tauL : List Nat := purp ++ [116, 97, 117]
/-- The stream. -/
@[irreducible] def hst (s : List Nat) : List Nat := strm (keyN (drv s rhoL)) (zs 12) 0 192
/-- The proof of a beta. -/
@[irreducible] def prf (s b : List Nat) : List Nat := (keyN (mac (keyN (drv s muL)) b)).take 16
/-- The tag. -/
@[irreducible] def tagS (s : List Nat) : List Nat := (keyN (drv s tauL)).take 16
/-- The blinding with an alpha. -/
@[irreducible] def bli (s a : List Nat) : List Nat := keyN (mac s a)
theorem hst_length (s : List Nat) : (hst s).length = 192 := by unfold hst; exact strm_length _ _ _ _
theorem hst_bts (s : List Nat) : ∀ i, (hst s).getD i 0 < 256 := by unfold hst; exact strm_bts _ _ _ _
theorem prf_length (s b : List Nat) : (prf s b).length = 16 := by unfold prf; rw [List.length_take, keyN_length]; rfl
theorem prf_bts (s b : List Nat) : ∀ i, (prf s b).getD i 0 < 256 := by unfold prf; exact bts_take (keyN_bts _) _
theorem tagS_length (s : List Nat) : (tagS s).length = 16 := by unfold tagS; rw [List.length_take, keyN_length]; rfl
theorem bli_length (s a : List Nat) : (bli s a).length = 32 := by unfold bli; exact keyN_length _
theorem bli_bts (s a : List Nat) : ∀ i, (bli s a).getD i 0 < 256 := by unfold bli; exact keyN_bts _

/-! ### What is turned, piece by piece -/
theorem mixd_app (a b c : List Nat) : mixd a (b ++ c) = mixd a b ++ mixd (a.drop b.length) c := by
  apply List.ext_getElem?
  intro i
  by_cases h1 : i < b.length
  · rw [List.getElem?_append_left (by rw [mixd_length]; exact h1)]
    simp only [mixd, List.getElem?_map]
    rw [List.getElem?_range (by rw [List.length_append]; omega), List.getElem?_range h1]
    simp only [Option.map_some, List.getD]
    rw [List.getElem?_append_left h1]
  · rw [List.getElem?_append_right (by rw [mixd_length]; omega), mixd_length]
    by_cases h2 : i < b.length + c.length
    · simp only [mixd, List.getElem?_map]
      rw [List.getElem?_range (by rw [List.length_append]; exact h2), List.getElem?_range (by omega)]
      simp only [Option.map_some, List.getD]
      rw [List.getElem?_append_right (by omega), List.getElem?_drop, show b.length + (i - b.length) = i by omega]
    · rw [List.getElem?_eq_none (by rw [mixd_length, List.length_append]; omega), List.getElem?_eq_none (by rw [mixd_length]; omega)]
theorem mixd_take (a b : List Nat) (n : Nat) : (mixd a b).take n = mixd a (b.take n) := by
  unfold mixd
  rw [← List.map_take, List.take_range, List.length_take]
  apply List.map_congr_left
  intro i hi
  have := List.mem_range.1 hi
  simp only [List.getD]
  rw [List.getElem?_take, if_pos (by omega)]
theorem mixd_drop (a b : List Nat) (n : Nat) (h : n ≤ b.length) : (mixd a b).drop n = mixd (a.drop n) (b.drop n) := by
  conv => lhs; rw [← List.take_append_drop n b]
  have e : (b.take n).length = n := by rw [List.length_take]; omega
  rw [mixd_app, List.drop_append_of_le_length (by rw [mixd_length, e]; exact Nat.le_refl _), List.drop_of_length_le (by rw [mixd_length, e]; exact Nat.le_refl _), List.nil_append, e]
/-! ### Betas -/
/-- A route's hop: a key, and what it has to do. -/
structure Hop where
  k : List Nat
  c : Cmd
/-- The filler of hops that share these secrets. -/
def fil (ss : List (List Nat)) : List Nat := ss.foldl (fun f s => mixd ((hst s).drop (192 - (f.length + 32))) (f ++ zs 32)) []
theorem fil_snoc (ss : List (List Nat)) (s : List Nat) : fil (ss ++ [s]) = mixd ((hst s).drop (192 - ((fil ss).length + 32))) (fil ss ++ zs 32) := by
  unfold fil; rw [List.foldl_append]; rfl
theorem fil_length' : ∀ (ss : List (List Nat)) (f : List Nat), (ss.foldl (fun f s => mixd ((hst s).drop (192 - (f.length + 32))) (f ++ zs 32)) f).length = f.length + 32 * ss.length
  | [], f => rfl
  | s :: ss, f => by
    rw [List.foldl_cons, fil_length' ss, mixd_length, List.length_append, zs_length, List.length_cons]; omega
theorem fil_length (ss : List (List Nat)) : (fil ss).length = 32 * ss.length := by
  have := fil_length' ss []
  simpa [fil] using this
theorem fil_bts : ∀ (ss : List (List Nat)), ∀ i, (fil ss).getD i 0 < 256 := by
  have : ∀ (ss : List (List Nat)) (f : List Nat), (∀ i, f.getD i 0 < 256) → ∀ i, (ss.foldl (fun f s => mixd ((hst s).drop (192 - (f.length + 32))) (f ++ zs 32)) f).getD i 0 < 256 := by
    intro ss
    induction ss with
    | nil => intro f h; exact h
    | cons s ss ih =>
      intro f h
      rw [List.foldl_cons]
      exact ih _ (mixd_bts (bts_drop (hst_bts s) _) (bts_app h (bts_zs _)))
  exact fun ss => this ss [] (by intro i; simp)
/-- What a hop has to find, and noughts or a beta behind it: turned. -/
def wid (s c g b : List Nat) : List Nat := mixd (hst s) (c ++ g ++ b)
theorem wid_length {s c g b : List Nat} (hc : c.length = 16) (hg : g.length = 16) (hb : b.length = 160) : (wid s c g b).length = 192 := by
  unfold wid; rw [mixd_length, List.length_append, List.length_append, hc, hg, hb]
/-- The last hop's beta, behind so many hops. -/
def betaL (ss : List (List Nat)) (s c : List Nat) : List Nat := (wid s c (zs 16) (zs 160)).take (160 - 32 * ss.length) ++ fil ss
/-- The betas: of the hops behind those of 'ss'. -/
def betas (ss : List (List Nat)) : List (List Nat × List Nat) → List Nat
  | [] => []
  | [(s, c)] => betaL ss s c
  | (s, c) :: (t, d) :: r => (wid s c (prf t (betas (ss ++ [s]) ((t, d) :: r))) (betas (ss ++ [s]) ((t, d) :: r))).take 160
theorem betas_more (ss : List (List Nat)) (s c t d : List Nat) (r : List (List Nat × List Nat)) : betas ss ((s, c) :: (t, d) :: r) = (wid s c (prf t (betas (ss ++ [s]) ((t, d) :: r))) (betas (ss ++ [s]) ((t, d) :: r))).take 160 := rfl
theorem betas_length : ∀ (r : List (List Nat × List Nat)) (ss : List (List Nat)), r ≠ [] → (∀ x ∈ r, x.2.length = 16) → ss.length + r.length ≤ 6 → (betas ss r).length = 160
  | [], _, h, _, _ => absurd rfl h
  | [(s, c)], ss, _, hc, hn => by
    show (betaL ss s c).length = 160
    have h1 := hc (s, c) (by simp)
    unfold betaL
    rw [List.length_append, List.length_take, wid_length h1 (zs_length _) (zs_length _), fil_length]
    simp at hn; omega
  | (s, c) :: (t, d) :: r, ss, _, hc, hn => by
    have ih := betas_length ((t, d) :: r) (ss ++ [s]) (by simp) (fun x hx => hc x (List.mem_cons_of_mem _ hx)) (by simp at hn ⊢; omega)
    rw [betas_more, List.length_take, wid_length (hc (s, c) (by simp)) (prf_length _ _) ih]; rfl
theorem betas_bts : ∀ (r : List (List Nat × List Nat)) (ss : List (List Nat)), (∀ x ∈ r, ∀ i, x.2.getD i 0 < 256) → ∀ i, (betas ss r).getD i 0 < 256
  | [], _, _ => by intro i; simp [betas]
  | [(s, c)], ss, hc => bts_app (bts_take (mixd_bts (hst_bts s) (bts_app (bts_app (hc (s, c) (by simp)) (bts_zs _)) (bts_zs _))) _) (fil_bts ss)
  | (s, c) :: (t, d) :: r, ss, hc => by
    have ih := betas_bts ((t, d) :: r) (ss ++ [s]) (fun x hx => hc x (List.mem_cons_of_mem _ hx))
    rw [betas_more]
    exact bts_take (mixd_bts (hst_bts s) (bts_app (bts_app (hc (s, c) (by simp)) (prf_bts _ _)) ih)) _
/-- What the hops ahead made of their noughts stands at the end. -/
theorem betas_tail : ∀ (r : List (List Nat × List Nat)) (ss : List (List Nat)), r ≠ [] → (∀ x ∈ r, x.2.length = 16) → ss.length + r.length ≤ 5 → (betas ss r).drop (160 - 32 * ss.length) = fil ss
  | [], _, h, _, _ => absurd rfl h
  | [(s, c)], ss, _, hc, hn => by
    show (betaL ss s c).drop _ = _
    have h1 := hc (s, c) (by simp)
    unfold betaL
    have e : ((wid s c (zs 16) (zs 160)).take (160 - 32 * ss.length)).length = 160 - 32 * ss.length := by
      rw [List.length_take, wid_length h1 (zs_length _) (zs_length _)]; omega
    rw [List.drop_append_of_le_length (by rw [e]; exact Nat.le_refl _), List.drop_of_length_le (by rw [e]; exact Nat.le_refl _), List.nil_append]
  | (s, c) :: (t, d) :: r, ss, _, hc, hn => by
    have hc' : ∀ x ∈ (t, d) :: r, x.2.length = 16 := fun x hx => hc x (List.mem_cons_of_mem _ hx)
    have hn' : (ss ++ [s]).length + ((t, d) :: r).length ≤ 5 := by simp at hn ⊢; omega
    have ih := betas_tail ((t, d) :: r) (ss ++ [s]) (by simp) hc' hn'
    have il := betas_length ((t, d) :: r) (ss ++ [s]) (by simp) hc' (by omega)
    have hs : ss.length ≤ 3 := by simp at hn; omega
    rw [betas_more]
    generalize betas (ss ++ [s]) ((t, d) :: r) = b at *
    have h1 := hc (s, c) (by simp)
    have hp := prf_length t b
    have hf := fil_length ss
    generalize prf t b = g at *
    simp only at h1
    unfold wid
    have e1 : 160 - 32 * ss.length = 32 + (128 - 32 * ss.length) := by omega
    rw [mixd_take, mixd_drop _ _ _ (by simp only [List.length_take, List.length_append, h1, hp, il]; omega)]
    have e2 : ((c ++ g ++ b).take 160).drop (160 - 32 * ss.length) = (fil (ss ++ [s])).take (32 * ss.length) := by
      rw [← ih, List.length_append, List.length_singleton, List.drop_take, List.drop_append, List.drop_of_length_le (by simp [h1, hp]; omega), List.nil_append]
      simp only [List.length_append, h1, hp]
      congr 1
      congr 1; omega
    rw [e2, fil_snoc, mixd_take, List.take_append_of_le_length (by omega), List.take_of_length_le (by omega), hf]
    have e3 : 192 - (32 * ss.length + 32) = 160 - 32 * ss.length := by omega
    rw [e3]
    exact mixd_twice _ _
/-- A beta, and noughts behind it, turned: what the builder laid. -/
theorem betas_open (ss : List (List Nat)) (s c t d : List Nat) (r : List (List Nat × List Nat)) (hc : ∀ x ∈ (s, c) :: (t, d) :: r, x.2.length = 16) (hn : ss.length + r.length ≤ 3) :
    mixd (hst s) (betas ss ((s, c) :: (t, d) :: r) ++ zs 32) = c ++ prf t (betas (ss ++ [s]) ((t, d) :: r)) ++ betas (ss ++ [s]) ((t, d) :: r) := by
  have hc' : ∀ x ∈ (t, d) :: r, x.2.length = 16 := fun x hx => hc x (List.mem_cons_of_mem _ hx)
  have ih := betas_tail ((t, d) :: r) (ss ++ [s]) (by simp) hc' (by simp; omega)
  have il := betas_length ((t, d) :: r) (ss ++ [s]) (by simp) hc' (by simp; omega)
  have bl := betas_length ((s, c) :: (t, d) :: r) ss (by simp) hc (by simp; omega)
  have h1 := hc (s, c) (by simp)
  rw [mixd_app, bl, betas_more]
  generalize betas (ss ++ [s]) ((t, d) :: r) = b at *
  have hp := prf_length t b
  generalize prf t b = g at *
  simp only at h1
  have hf := fil_length ss
  unfold wid
  rw [mixd_take, mixd_twice]
  have hz : mixd ((hst s).drop 160) (zs 32) = (hst s).drop 160 := mixd_zs _ _ (by rw [List.length_drop, hst_length])
  rw [hz]
  have hlast : b.drop 128 = (hst s).drop 160 := by
    have e : b.drop 128 = (b.drop (160 - 32 * (ss ++ [s]).length)).drop (32 * ss.length) := by
      rw [List.drop_drop]; congr 1; simp; omega
    rw [e, ih, fil_snoc, mixd_drop _ _ _ (by rw [List.length_append]; omega), List.drop_drop, List.drop_append_of_le_length (by omega), List.drop_of_length_le (l := fil ss) (by omega), List.nil_append, hf]
    rw [show 192 - (32 * ss.length + 32) + 32 * ss.length = 160 by omega]
    exact hz
  rw [← hlast]
  conv => rhs; rw [← List.take_append_drop 160 (c ++ g ++ b)]
  congr 1
  rw [List.drop_append, List.drop_of_length_le (l := c ++ g) (by rw [List.length_append]; omega), List.nil_append, List.length_append, h1, hp]
/-- The last hop finds its command. -/
theorem betas_last (ss : List (List Nat)) (s c : List Nat) (hc : c.length = 16) (hn : ss.length ≤ 4) : (mixd (hst s) (betas ss [(s, c)] ++ zs 32)).take 16 = c := by
  have h0 : betas ss [(s, c)] = betaL ss s c := rfl
  have hw := wid_length (s := s) hc (zs_length 16) (zs_length 160)
  rw [h0, mixd_take, List.take_append_of_le_length (by unfold betaL; rw [List.length_append, List.length_take, fil_length, hw]; omega)]
  unfold betaL
  rw [List.take_append_of_le_length (by rw [List.length_take, hw]; omega), List.take_take, show min 16 (160 - 32 * ss.length) = 16 by omega]
  unfold wid
  rw [mixd_take, mixd_twice, List.append_assoc, List.take_append_of_le_length (by omega), List.take_of_length_le (by omega)]
end Go.Hd
