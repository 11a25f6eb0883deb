/-
  Part 2 of the texts behind the theorem.
-/
import Derived.Test.YtdeeecdpgmibnaaPart1
import Derived.OwnWalk
import Derived.Laws.AppendOwnNone
import Derived.Lib.AppendZerosOnto
import Derived.Great.BuildSlice
import Derived.Laws.MakeOwn
import Derived.Laws.OwnMore
import Derived.Deep.MidRow
import Derived.Laws.Cover3
import Derived.Laws.Bits64b
/-
  A region that draws its order, whose operations make new memory alone: each gives a value of which something is known that stays true while the memory grows. It is walked once, whatever the order. Nothing is assumed.
-/
namespace Go.Hold
open Go Go.RowKit
section
variable {P : Program} {md : Region.Mode} {W : World} {Q : Exit → Act → World → Prop} {ops : Array Oper} {n : Nat} {R : Nat → Value → World → Prop} {G : World → World → Prop}

def dstOf (ops : Array Oper) (i : Nat) : Option Tmp := (ops[i]?).bind (·.dst)
def putAll (ops : Array Oper) (vals : Nat → Value) : List Nat → Act → Act
  | [], a => a
  | i :: is, a => putAll ops vals is (a.put (dstOf ops i) (vals i))
def looksB (ops : Array Oper) (o : Oper) (j : Nat) : Bool := match dstOf ops j with
  | some d => (o.looksAt ops).contains d
  | none => false
def depsOf (ops : Array Oper) (n : Nat) (o : Oper) : List Nat := (List.range n).filter (looksB ops o)
def boundB (md : Region.Mode) (o : Oper) (j : Nat) : Bool := o.after.toList.any fun e => Region.binds md e && Nat.beq e.on j
def doneA (n s : Nat) : Array Bool := (Array.range s).map fun i => Nat.blt i n
def apartD (x y : Option Tmp) : Bool := match x with
  | some d => y != some d
  | none => true
def growB (md : Region.Mode) (ops : Array Oper) (n : Nat) (ts : List Nat) : Bool :=
  Region.noSelect ops && decide (n + ts.length = ops.size) && (ts.all fun i => decide (i < ops.size)) &&
  ((List.range n).all fun i => match ops[i]? with
    | some o => edgesOk md i o && ((List.range n).all fun j => !looksB ops o j || boundB md o j)
    | none => false) &&
  ((List.range n).all fun i => (List.range n).all fun j => Nat.beq i j || apartD (dstOf ops i) (dstOf ops j)) &&
  ((List.range ops.size).all fun t => Nat.blt t n || match ops[t]? with
    | some o => (List.range n).all fun j => boundB md o j
    | none => false) &&
  seqT md ops ts (doneA n ops.size)

theorem putAll_append (vals : Nat → Value) : ∀ (x y : List Nat) (a : Act), putAll ops vals (x ++ y) a = putAll ops vals y (putAll ops vals x a)
  | [], _, _ => rfl
  | i :: x, y, a => by simp only [List.cons_append, putAll]; exact putAll_append vals x y _
theorem putAll_congr {v u : Nat → Value} : ∀ (x : List Nat) (a : Act), (∀ i ∈ x, v i = u i) → putAll ops v x a = putAll ops u x a
  | [], _, _ => rfl
  | i :: x, a, h => by simp only [putAll]; rw [h i (by simp)]; exact putAll_congr x _ fun j hj => h j (by simp [hj])
theorem putAll_perm (vals : Nat → Value) (hd : ∀ i j, i < n → j < n → i ≠ j → ∀ d, dstOf ops i = some d → dstOf ops j ≠ some d) {x y : List Nat} (h : x.Perm y) : (∀ i ∈ x, i < n) → ∀ a, putAll ops vals x a = putAll ops vals y a := by
  induction h with
  | nil => intro _ a; rfl
  | cons i _ ih => intro hx a; simp only [putAll]; exact ih (fun j hj => hx j (by simp [hj])) _
  | swap i j l =>
    intro hx a
    simp only [putAll]
    by_cases e : i = j
    · subst e; rfl
    · rw [Act.put_comm a (vals j) (vals i) (hd j i (hx j (by simp)) (hx i (by simp)) (Ne.symm e))]
  | trans h1 _ ih1 ih2 => intro hx a; rw [ih1 hx, ih2 fun i hi => hx i (h1.mem_iff.2 hi)]
theorem putAll_unlooked (vals : Nat → Value) {o : Oper} (hs : ∀ cs b, o.op ≠ .select cs b) : ∀ (y : List Nat) (a : Act), (∀ i ∈ y, looksB ops o i = false) → execOp (putAll ops vals y a).eval o = execOp a.eval o ∧ Region.wanted o (yielded ops (putAll ops vals y a).tmps) = Region.wanted o (yielded ops a.tmps)
  | [], _, _ => ⟨rfl, rfl⟩
  | i :: y, a, h => by
    have h0 : ∀ d, dstOf ops i = some d → d ∉ o.looksAt ops := fun d hd hm => by
      have := h i (by simp)
      unfold looksB at this
      rw [hd] at this
      simp only at this
      rw [List.contains_iff_mem.2 hm] at this
      cases this
    obtain ⟨e1, e2⟩ := putAll_unlooked vals hs y (a.put (dstOf ops i) (vals i)) fun j hj => h j (by simp [hj])
    simp only [putAll]
    exact ⟨e1.trans (execOp_put o hs a _ _ h0), e2.trans (wanted_put o a _ _ h0)⟩
theorem nodup_le : ∀ (x y : List Nat), x.Nodup → (∀ i ∈ x, i ∈ y) → x.length ≤ y.length
  | [], _, _, _ => Nat.zero_le _
  | i :: x, y, hn, h => by
    have hi := h i (by simp)
    have := nodup_le x (y.erase i) (List.nodup_cons.1 hn).2 fun j hj => by
      have hne : j ≠ i := fun e => (List.nodup_cons.1 hn).1 (e ▸ hj)
      exact (List.mem_erase_of_ne hne).2 (h j (by simp [hj]))
    rw [List.length_erase_of_mem hi] at this
    have hp : 0 < y.length := List.length_pos_of_mem hi
    simp only [List.length_cons]; omega
theorem least_not (D : List Nat) : ∀ n, (∃ i, i < n ∧ i ∉ D) → ∃ i, i < n ∧ i ∉ D ∧ ∀ j, j < i → j ∈ D
  | 0, h => by obtain ⟨i, hi, _⟩ := h; omega
  | n + 1, h => by
    by_cases h1 : ∃ i, i < n ∧ i ∉ D
    · obtain ⟨i, hi, h2⟩ := least_not D n h1
      exact ⟨i, by omega, h2⟩
    · obtain ⟨i, hi, hD⟩ := h
      have hin : i = n := by
        by_cases e : i < n
        · exact absurd ⟨i, e, hD⟩ h1
        · omega
      subst hin
      refine ⟨i, hi, hD, fun j hj => ?_⟩
      by_cases e : j ∈ D
      · exact e
      · exact absurd ⟨j, hj, e⟩ h1

/-- What is asked of one operation. -/
def GrowStep (P : Program) (ops : Array Oper) (W : World) (n : Nat) (G : World → World → Prop) (R : Nat → Value → World → Prop) (a : Act) (vals : Nat → Value) (i : Nat) (o : Oper) : Prop :=
  ∀ w, Below W.heap.size W w → (∀ j ∈ depsOf ops n o, R j (vals j) w) →
    Region.wanted o (yielded ops (putAll ops vals (depsOf ops n o) a).tmps) = true ∧
    comes P o (putAll ops vals (depsOf ops n o) a) (fun v _ w' => G w w' ∧ R i v w') ((execOp (putAll ops vals (depsOf ops n o) a).eval o).run P w)

theorem grow_any {l : List Oper} {ts : List Nat} {a : Act} (hop : ops = l.toArray) (hsel : Region.noSelect ops = true) (hsz : n + ts.length = ops.size) (hts : ∀ i ∈ ts, i < l.length)
    (hedge : ∀ i o, i < n → ops[i]? = some o → edgesOk md i o = true ∧ ∀ j, j < n → looksB ops o j = true → boundB md o j = true)
    (hdst : ∀ i j, i < n → j < n → i ≠ j → ∀ d, dstOf ops i = some d → dstOf ops j ≠ some d)
    (hlate : ∀ t o, n ≤ t → ops[t]? = some o → ∀ j, j < n → boundB md o j = true) (hseq : seqT md ops ts (doneA n ops.size) = true)
    (hGB : ∀ w w', Below W.heap.size W w → G w w' → Below W.heap.size W w') (hmono : ∀ i v w w', R i v w → G w w' → R i v w')
    (hst : ∀ vals i o, i < n → ops[i]? = some o → GrowStep P ops W n G R a vals i o)
    (hfin : ∀ vals w, Below W.heap.size W w → (∀ i, i < n → R i (vals i) w) → wpList P ops Q (pick l ts) (putAll ops vals (List.range n) a) w) :
    ∀ (f : Nat) (D : List Nat) (listed : Array Bool) (vals : Nat → Value) (w : World), D.Nodup → (∀ i ∈ D, i < n) → D.length + f = n → listed.size = ops.size →
    (∀ i, i < ops.size → listed.getD i false = decide (i ∈ D)) → Below W.heap.size W w → (∀ i ∈ D, R i (vals i) w) → wpAny P md ops Q (f + ts.length) listed (putAll ops vals D a) w
  | 0, D, listed, vals, w, hnd, hlt, hlen, hls, hl, hb, hR => by
    have hall : ∀ i, i < n → i ∈ D := fun i hi => by
      by_cases e : i ∈ D
      · exact e
      · exfalso
        have := nodup_le (i :: D) (List.range n) (List.nodup_cons.2 ⟨e, hnd⟩) fun j hj => by
          rcases List.mem_cons.1 hj with rfl | h
          · exact List.mem_range.2 hi
          · exact List.mem_range.2 (hlt j h)
        simp at this; omega
    have hp : D.Perm (List.range n) := (List.perm_ext_iff_of_nodup hnd List.nodup_range).2 fun i => ⟨fun h => List.mem_range.2 (hlt i h), fun h => hall i (List.mem_range.1 h)⟩
    have hle : listed = doneA n ops.size := by
      apply Array.ext_getElem?
      intro i
      by_cases hi : i < ops.size
      · have h1 := hl i hi
        have h2 : listed[i]? = some (listed.getD i false) := by simp [hls, hi]
        rw [h2, h1]
        unfold doneA
        rw [Array.getElem?_map, Array.getElem?_range, if_pos hi]
        simp only [Option.map_some, Option.some.injEq]
        by_cases e : i < n
        · rw [decide_eq_true (hall i e)]; exact ((show Nat.blt i n = true from by rw [Nat.blt_eq]; exact e)).symm
        · rw [decide_eq_false fun h => e (hlt i h)]
          cases hx : Nat.blt i n
          · rfl
          · exact absurd ((by rw [Nat.blt_eq] at hx; exact hx)) e
      · rw [Array.getElem?_eq_none (by omega), Array.getElem?_eq_none (by simp [doneA]; omega)]
    subst hle
    rw [Nat.zero_add, putAll_perm vals hdst hp hlt]
    subst hop
    exact wpAny_of_seqT ts _ _ _ hts hseq (hfin vals w hb fun i hi => hR i (hall i hi))
  | f + 1, D, listed, vals, w, hnd, hlt, hlen, hls, hl, hb, hR => by
    have hex : ∃ i, i < n ∧ i ∉ D := by
      apply Classical.byContradiction
      intro hno
      have := nodup_le (List.range n) D List.nodup_range fun i hi => by
        by_cases e : i ∈ D
        · exact e
        · exact absurd ⟨i, List.mem_range.1 hi, e⟩ hno
      simp at this; omega
    obtain ⟨i0, hi0, hi0D, hmin⟩ := least_not D n hex
    have hget : ∀ i, i < ops.size → listed.getD i true = decide (i ∈ D) := fun i hi => by
      have := hl i hi
      simpa [hls, hi] using this
    have hr0 : i0 ∈ Region.ready md ops listed := by
      have hs0 : i0 < ops.size := by omega
      obtain ⟨o, ho⟩ : ∃ o, ops[i0]? = some o := ⟨_, Array.getElem?_eq_getElem hs0⟩
      refine mem_ready.2 ⟨by rw [hget i0 hs0]; exact decide_eq_false hi0D, o, ho, fun e he hbe => ?_⟩
      have h1 := List.all_eq_true.1 (hedge i0 o hi0 ho).1 e (by simpa using he)
      have h2 : e.on < i0 := by simpa [hbe] using h1
      rw [hl _ (by omega)]; exact decide_eq_true (hmin _ h2)
    rw [show f + 1 + ts.length = (f + ts.length) + 1 by omega]
    refine ⟨fun h => (by rw [h] at hr0; cases hr0), fun i hi => ?_⟩
    obtain ⟨hun, o, ho, hdeps⟩ := mem_ready.1 hi
    have hsi : i < ops.size := (Array.getElem?_eq_some_iff.1 ho).1
    have hiD : i ∉ D := by rw [hget i hsi] at hun; exact of_decide_eq_false hun
    have hbd : ∀ j, j < n → boundB md o j = true → j ∈ D := fun j hj hbj => by
      obtain ⟨e, hem, heb⟩ := List.any_eq_true.1 hbj
      rw [Bool.and_eq_true] at heb
      have h1 := hdeps e (by simpa using hem) heb.1
      rw [Nat.eq_of_beq_eq_true heb.2, hl j (by omega)] at h1
      exact of_decide_eq_true h1
    have hin : i < n := by
      apply Classical.byContradiction
      intro hni
      exact hi0D (hbd i0 hi0 (hlate i o (by omega) ho i0 hi0))
    have hdep : ∀ j ∈ depsOf ops n o, j ∈ D := fun j hj => by
      obtain ⟨h1, h2⟩ := List.mem_filter.1 hj
      have hjn := List.mem_range.1 h1
      exact hbd j hjn ((hedge i o hin ho).2 j hjn h2)
    have hsl := fun cs b => Region.noSelect_spec hsel i o cs b ho
    have hcut : ∀ b, putAll ops vals D b = putAll ops vals (D.filter fun j => !looksB ops o j) (putAll ops vals (depsOf ops n o) b) := fun b => by
      rw [← putAll_append]
      refine putAll_perm vals hdst ?_ hlt b
      refine (List.filter_append_perm (looksB ops o) D).symm.trans (List.Perm.append_right _ ?_)
      refine (List.perm_ext_iff_of_nodup (hnd.filter _) (List.nodup_range.filter _)).2 fun j => ?_
      constructor
      · intro h
        obtain ⟨h1, h2⟩ := List.mem_filter.1 h
        exact List.mem_filter.2 ⟨List.mem_range.2 (hlt j h1), h2⟩
      · intro h
        exact List.mem_filter.2 ⟨hdep j h, (List.mem_filter.1 h).2⟩
    obtain ⟨e1, e2⟩ := putAll_unlooked (ops := ops) vals (o := o) hsl (D.filter fun j => !looksB ops o j) (putAll ops vals (depsOf ops n o) a) fun j hj => by
      have := (List.mem_filter.1 hj).2
      simpa using this
    rw [← hcut] at e1 e2
    obtain ⟨hw, hc⟩ := hst vals i o hin ho w hb fun j hj => hR j (hdep j hj)
    rw [← e2] at hw
    rw [← e1] at hc
    have next : ∀ v w', G w w' → R i v w' → wpAny P md ops Q (f + ts.length) (listed.setIfInBounds i true) ((putAll ops vals D a).put o.dst v) w' := fun v w' hb' hRv => by
      have he : (putAll ops vals D a).put o.dst v = putAll ops (fun j => if j = i then v else vals j) (D ++ [i]) a := by
        rw [putAll_append, putAll_congr (v := fun j => if j = i then v else vals j) (u := vals) D a (fun j hj => if_neg (fun (e : j = i) => hiD (e ▸ hj)))]
        simp [putAll, dstOf, ho]
      rw [he]
      refine grow_any hop hsel hsz hts hedge hdst hlate hseq hGB hmono hst hfin f (D ++ [i]) _ _ w' ?_ ?_ (by simp; omega) (by simp [hls]) ?_ (hGB _ _ hb hb') ?_
      · exact List.nodup_append.2 ⟨hnd, by simp, fun x hx y hy => by simp at hy; subst hy; intro e; subst e; exact hiD hx⟩
      · intro j hj
        rcases List.mem_append.1 hj with h | h
        · exact hlt j h
        · simp at h; omega
      · intro j hj
        by_cases e : j = i
        · subst e; simp [hls, hj]
        · have h1 := hl j hj
          have h2 : (listed.setIfInBounds i true).getD j false = listed.getD j false := by
            simp only [Array.getD_eq_getD_getElem?]
            rw [Array.getElem?_setIfInBounds_ne (fun h => e h.symm)]
          rw [h2, h1]
          simp [e]
      · intro j hj
        rcases List.mem_append.1 hj with h | h
        · have : j ≠ i := fun e => hiD (e ▸ h)
          simp only [this, if_false]
          exact hmono _ _ _ _ (hR j h) hb'
        · simp at h; subst h; simpa using hRv
    unfold Go.wpOp
    simp only [ho, hw, if_true]
    refine .inl ?_
    unfold Oper.wp
    revert hc
    generalize (execOp (putAll ops vals D a).eval o).run P w = r
    intro hc
    cases r with
    | halt x w => exact False.elim hc
    | ok nx w2 =>
      cases nx <;> try exact False.elim hc
      case value u => exact next _ _ hc.1 hc.2
      case skip => exact next _ _ hc.1 hc.2
      case enter fn args =>
        refine Calls.mono (P := P) hc ?_
        rintro e w'' ⟨u, rfl, h1, h2⟩
        exact next _ _ h1 h2

/-- The operations from number k on, each by itself; then what is left. -/
def wpGrow (P : Program) (ops : Array Oper) (W : World) (n : Nat) (G : World → World → Prop) (R : Nat → Value → World → Prop) (a : Act) (vals : Nat → Value) (Fin : Prop) : Nat → List Oper → Prop
  | _, [] => Fin
  | k, o :: r => GrowStep P ops W n G R a vals k o ∧ wpGrow P ops W n G R a vals Fin (k + 1) r
theorem wpGrow_out {a : Act} {vals : Nat → Value} {Fin : Prop} : ∀ (k : Nat) (r : List Oper), wpGrow P ops W n G R a vals Fin k r → Fin ∧ ∀ j o, r[j]? = some o → GrowStep P ops W n G R a vals (k + j) o
  | _, [], h => ⟨h, fun j o ho => by simp at ho⟩
  | k, o :: r, h => by
    obtain ⟨h1, h2⟩ := wpGrow_out (k + 1) r h.2
    refine ⟨h1, fun j x hx => ?_⟩
    cases j with
    | zero => simp at hx; subst hx; exact h.1
    | succ j => rw [show k + (j + 1) = k + 1 + j by omega]; exact h2 j x (by simpa using hx)

/-- A REGION THAT DRAWS ITS ORDER: its first n operations make memory alone; then those of ts come. -/
theorem wp_region_grow {id : Nat} {a : Act} {w : World} {l : List Oper} (W : World) (n : Nat) (G : World → World → Prop) (R : Nat → Value → World → Prop) (ts : List Nat) (hm : P.follows .mixedOrders = true) (hB : growB .any l.toArray n ts = true)
    (hW : Below W.heap.size W { w with drawn := w.drawn + 1 }) (hGB : ∀ w w', Below W.heap.size W w → G w w' → Below W.heap.size W w') (hmono : ∀ i v w w', R i v w → G w w' → R i v w')
    (h : ∀ vals, wpGrow P l.toArray W n G R a vals (∀ w, Below W.heap.size W w → (∀ i, i < n → R i (vals i) w) → wpList P l.toArray Q (pick l ts) (putAll l.toArray vals (List.range n) a) w) 0 (l.take n)) :
    (Code.region id l.toArray true).wp P Q a w := by
  simp only [growB, Bool.and_eq_true, decide_eq_true_eq] at hB
  obtain ⟨⟨⟨⟨⟨⟨hsel, hsz⟩, hts⟩, h1⟩, h2⟩, h3⟩, hseq⟩ := hB
  have hts' : ∀ i ∈ ts, i < l.length := fun i hi => by simpa using List.all_eq_true.1 hts i hi
  refine wp_region_any hm ?_
  have H := grow_any (md := .any) (P := P) (W := W) (Q := Q) (n := n) (R := R) (G := G) (l := l) (ts := ts) (a := a) rfl hsel hsz hts'
    (fun i o hi ho => by
      have := List.all_eq_true.1 h1 i (List.mem_range.2 hi)
      rw [ho] at this
      simp only [Bool.and_eq_true] at this
      refine ⟨this.1, fun j hj hlj => ?_⟩
      have h4 := List.all_eq_true.1 this.2 j (List.mem_range.2 hj)
      simpa [hlj] using h4)
    (fun i j hi hj hne d hd => by
      have := List.all_eq_true.1 (List.all_eq_true.1 h2 i (List.mem_range.2 hi)) j (List.mem_range.2 hj)
      rcases Bool.or_eq_true_iff.1 this with h | h
      · exact absurd (Nat.eq_of_beq_eq_true h) hne
      · rw [hd] at h
        simpa [apartD] using h)
    (fun t o ht ho j hj => by
      have := List.all_eq_true.1 h3 t (List.mem_range.2 (Array.getElem?_eq_some_iff.1 ho).1)
      rw [ho] at this
      rcases Bool.or_eq_true_iff.1 this with h | h
      · exact absurd (by rw [Nat.blt_eq] at h; exact h : t < n) (by omega)
      · exact List.all_eq_true.1 h j (List.mem_range.2 hj))
    hseq hGB hmono
    (fun vals i o hi ho => by
      have := (wpGrow_out 0 _ (h vals)).2 i o (by rw [List.getElem?_take, if_pos hi]; simpa using ho)
      rwa [Nat.zero_add] at this)
    (fun vals w hb hR => (wpGrow_out 0 _ (h vals)).1 w hb hR)
    n [] (Array.replicate l.toArray.size false) (fun _ => undef) { w with drawn := w.drawn + 1 } List.nodup_nil (fun i hi => by cases hi) (by simp) (by simp) (fun i hi => by rw [getD_replicate_false]; simp) hW (fun i hi => by cases hi)
  rw [hsz] at H
  exact H

/-- ONE STEP, no call. -/
theorem growStep_val {a : Act} {vals : Nat → Value} {i : Nat} {o : Oper}
    (h : ∀ (K : Value → Act → World → Prop) (w : World), Below W.heap.size W w → (∀ j ∈ depsOf ops n o, R j (vals j) w) → (∀ v a' w', G w w' → R i v w' → K v a' w') →
      Region.wanted o (yielded ops (putAll ops vals (depsOf ops n o) a).tmps) = true ∧ comesV o (putAll ops vals (depsOf ops n o) a) K ((execOp (putAll ops vals (depsOf ops n o) a).eval o).run P w)) : GrowStep P ops W n G R a vals i o := by
  intro w hb hd
  obtain ⟨h1, h2⟩ := h (fun v _ w' => G w w' ∧ R i v w') w hb hd fun v _ w' x y => ⟨x, y⟩
  refine ⟨h1, ?_⟩
  revert h2
  generalize (execOp (putAll ops vals (depsOf ops n o) a).eval o).run P w = r
  cases r with
  | halt x w => exact fun h => False.elim h
  | ok n w => cases n <;> first | exact fun h => False.elim h | exact fun h => h
/-- ONE STEP, a call. -/
theorem growStep_call {a : Act} {vals : Nat → Value} {i : Nat} {o : Oper}
    (h : ∀ (K : Value → World → Prop) (w : World), Below W.heap.size W w → (∀ j ∈ depsOf ops n o, R j (vals j) w) → (∀ v w', G w w' → R i v w' → K v w') →
      Region.wanted o (yielded ops (putAll ops vals (depsOf ops n o) a).tmps) = true ∧ comesC P K ((execOp (putAll ops vals (depsOf ops n o) a).eval o).run P w)) : GrowStep P ops W n G R a vals i o := by
  intro w hb hd
  obtain ⟨h1, h2⟩ := h (fun v w' => G w w' ∧ R i v w') w hb hd fun v w' x y => ⟨x, y⟩
  refine ⟨h1, ?_⟩
  revert h2
  generalize (execOp (putAll ops vals (depsOf ops n o) a).eval o).run P w = r
  cases r with
  | halt x w => exact fun h => False.elim h
  | ok n w => cases n <;> first | exact fun h => False.elim h | exact fun h => h

/-! ### With the tmps named -/
def putZ : List (Option Tmp) → List Value → Act → Act
  | d :: ds, v :: vs, a => putZ ds vs (a.put d v)
  | _, _, a => a
theorem putZ_eq (vals : Nat → Value) : ∀ (ds : List Nat) (a : Act), putAll ops vals ds a = putZ (ds.map (dstOf ops)) (ds.map vals) a
  | [], _ => rfl
  | i :: ds, a => by simp only [putAll, List.map_cons, putZ]; exact putZ_eq vals ds _
theorem grow_val {a : Act} {vals : Nat → Value} {i : Nat} {o : Oper} (ds : List Nat) (qs : List (Option Tmp)) (hds : depsOf ops n o = ds) (hqs : ds.map (dstOf ops) = qs)
    (h : ∀ (K : Value → Act → World → Prop) (w : World), Below W.heap.size W w → (∀ j ∈ ds, R j (vals j) w) → (∀ v a' w', G w w' → R i v w' → K v a' w') →
      Region.wanted o (yielded ops (putZ qs (ds.map vals) a).tmps) = true ∧ comesV o (putZ qs (ds.map vals) a) K ((execOp (putZ qs (ds.map vals) a).eval o).run P w)) : GrowStep P ops W n G R a vals i o := by
  subst hds hqs
  refine growStep_val fun K w hb hd hK => ?_
  rw [putZ_eq]
  exact h K w hb hd hK
theorem grow_call {a : Act} {vals : Nat → Value} {i : Nat} {o : Oper} (ds : List Nat) (qs : List (Option Tmp)) (hds : depsOf ops n o = ds) (hqs : ds.map (dstOf ops) = qs)
    (h : ∀ (K : Value → World → Prop) (w : World), Below W.heap.size W w → (∀ j ∈ ds, R j (vals j) w) → (∀ v w', G w w' → R i v w' → K v w') →
      Region.wanted o (yielded ops (putZ qs (ds.map vals) a).tmps) = true ∧ comesC P K ((execOp (putZ qs (ds.map vals) a).eval o).run P w)) : GrowStep P ops W n G R a vals i o := by
  subst hds hqs
  refine growStep_call fun K w hb hd hK => ?_
  rw [putZ_eq]
  exact h K w hb hd hK
theorem wp_region_grows {id : Nat} {a : Act} {w : World} {l : List Oper} (W : World) (n : Nat) (G : World → World → Prop) (R : Nat → Value → World → Prop) (ts ns : List Nat) (qa : List (Option Tmp)) (hm : P.follows .mixedOrders = true) (hB : growB .any l.toArray n ts = true)
    (hns : List.range n = ns) (hqa : ns.map (dstOf l.toArray) = qa) (hW : Below W.heap.size W { w with drawn := w.drawn + 1 }) (hGB : ∀ w w', Below W.heap.size W w → G w w' → Below W.heap.size W w') (hmono : ∀ i v w w', R i v w → G w w' → R i v w')
    (h : ∀ vals, wpGrow P l.toArray W n G R a vals (∀ w, Below W.heap.size W w → (∀ i ∈ ns, R i (vals i) w) → wpList P l.toArray Q (pick l ts) (putZ qa (ns.map vals) a) w) 0 (l.take n)) :
    (Code.region id l.toArray true).wp P Q a w := by
  subst hns hqa
  refine wp_region_grow W n G R ts hm hB hW hGB hmono fun vals => ?_
  have := h vals
  revert this
  generalize l.take n = r
  intro h1
  suffices hh : ∀ (k : Nat) (r : List Oper) (F H : Prop), (F → H) → wpGrow P l.toArray W n G R a vals F k r → wpGrow P l.toArray W n G R a vals H k r by
    refine hh 0 r _ _ (fun hf w hb hR => ?_) h1
    rw [putZ_eq]
    exact hf w hb fun i hi => hR i (List.mem_range.1 hi)
  intro k r
  induction r generalizing k with
  | nil => intro F H h h2; exact h h2
  | cons o r ih => intro F H h h2; exact ⟨h2.1, ih (k + 1) F H h h2.2⟩
end
end Go.Hold

/-
  Slices of bytes: those that a call made, with bytes laid behind them; copies; new ones.
-/
namespace Go.Proofs.Ytdeeecdpgmibnaa
open Go.RowKit Go.Hold Go.Sh

theorem info_u8 : (Try.prog.info? 5).map (fun i => (i.zero, i.size, i.bytes)) = some (some (.int .u8 0), 1, 1) := by kernel_rfl
def OwnB (w : World) (B : Nat) (v : Value) (l : List Nat) : Prop := w.ownsRow B 5 1 v l.length (bys l)
theorem owns_below {w w' : World} {B : Nat} {e : TypeId} {v : Value} {n : Nat} {xs : List Value} (h : w.ownsRow B e 1 v n xs) (hb : Below w.heap.size w w') : w'.ownsRow B e 1 v n xs :=
  h.kept (row := none) ⟨hb.os, hb.tape, hb.output, hb.size, fun k hk _ => hb.block k hk⟩ (by cases hv : v.ownBlock <;> simp)
theorem OwnB.below {w w' : World} {B : Nat} {v : Value} {l : List Nat} (h : OwnB w B v l) (hb : Below w.heap.size w w') : OwnB w' B v l := owns_below h hb
theorem OwnB.snoc {w : World} {B : Nat} {v : Value} {l m : List Nat} (h : w.ownsRow B 5 1 v (l.length + m.length) (bys l ++ bys m)) : OwnB w B v (l ++ m) := by
  unfold OwnB
  rw [List.length_append, show bys (l ++ m) = bys l ++ bys m by simp [bys]]; exact h
theorem OwnB.addr {w : World} {B : Nat} {v : Value} {l : List Nat} {k : Nat} (h : OwnB w B v l) (hk : l.length = k) (h0 : 0 < k) : ∃ g cap, v = .slice (some ⟨g, 0, none⟩) k cap ∧ B ≤ g ∧ g < w.heap.size ∧ k ≤ cap := by
  subst hk
  rcases h.2 with ⟨_, h1⟩ | ⟨g, cap, cur, rfl, hb, hg, hc, _⟩
  · omega
  · exact ⟨g, cap, rfl, hb, (Array.getElem?_eq_some_iff.1 hg).1, hc⟩
theorem OwnB.bytes {w : World} {B g cap k : Nat} {l : List Nat} (h : OwnB w B (.slice (some ⟨g, 0, none⟩) k cap) l) (hg : g < w.heap.size) : BytesAt w g 0 l := by
  refine ⟨hg, fun i hi => ?_⟩
  have hk : k = l.length := by
    rcases h.2 with ⟨h1, _⟩ | ⟨g', cap', cur, he, _⟩
    · cases h1
    · cases he; rfl
  subst hk
  rw [Nat.zero_add, World.ownsRow.cellAt h i (by omega)]
  simp [bys, hi]
theorem OwnB.base {w : World} {B B' : Nat} {v : Value} {l : List Nat} (h : OwnB w B v l) (hB : B' ≤ B) : OwnB w B' v l := by
  refine ⟨h.1, ?_⟩
  rcases h.2 with hn | ⟨g, cap, cur, rfl, hb, rest⟩
  · exact .inl hn
  · exact .inr ⟨g, cap, cur, rfl, Nat.le_trans hB hb, rest⟩
/-- '[]byte{}', '[]uint32{}'. -/
theorem ownB_empty (w : World) (B : Nat) (hB : B ≤ w.heap.size) : OwnB (w.alloc (.cells #[] 5)) B (.slice (some ⟨w.heap.size, 0, none⟩) 0 0) [] :=
  ⟨rfl, .inr ⟨w.heap.size, 0, #[], rfl, hB, block_new w _, Nat.le_refl _, by decide, rfl, rfl⟩⟩
theorem bys_one (l : List Nat) : ∀ u ∈ bys l, u.oneCell' = true := fun u hu => by
  simp only [bys, List.mem_map] at hu
  obtain ⟨x, _, rfl⟩ := hu; rfl
theorem bys_at {w : World} {b o : Nat} {l : List Nat} (h : BytesAt w b o l) : ∀ j u, (bys l)[j]? = some u → w.cell? ((⟨b, o, none⟩ : Addr).add j) = some u := fun j u hu => by
  have hj : j < l.length := by have := (List.getElem?_eq_some_iff.1 hu).1; rwa [bys_length] at this
  rw [Addr.add_mid, h.2 j hj, ← hu]
  simp [bys, hj]
theorem maxLen_small {n : Nat} (h : n ≤ 16777216) : n ≤ maxLen := by unfold maxLen; omega
/-- A new block of one cell. -/
theorem one_cell {w : World} {v : Value} {t : TypeId} : ∀ j u, [v][j]? = some u → (w.alloc (.cells #[v] t)).cell? ((⟨w.heap.size, 0, none⟩ : Addr).add j) = some u := fun j u hu => by
  match j, hu with
  | 0, hu => simp at hu; subst hu; simp [Addr.add]
theorem one_cell' {w : World} {v : Value} {t : TypeId} {n : Nat} (h : n = w.heap.size) : ∀ j u, [v][j]? = some u → (w.alloc (.cells #[v] t)).cell? ((⟨n, 0, none⟩ : Addr).add j) = some u := by subst h; exact one_cell
theorem grown_below {B : Nat} {w w1 w2 : World} {e : TypeId} {v : Value} {n : Nat} {xs : List Value} (hb : Below B w w1) (ho : w1.ownsRow B e 1 v n xs) (hB : B ≤ w1.heap.size) (hg : w1.grownBy w2 v.ownBlock) : Below B w w2 :=
  hb.grown hg hB fun g hg' => (World.ownsRow.lt ho g hg').1
theorem OwnB.bs {w : World} {B : Nat} {v : Value} {l : List Nat} (h : OwnB w B v l) : ∃ p c, v = .slice p l.length c ∧ Bs0 w p l ∧ l.length ≤ c ∧ (p = none → c = 0) := by
  rcases h.2 with ⟨rfl, h0⟩ | ⟨g, cap, cur, rfl, hb, hg, hc, hm, hs, ht⟩
  · have : l = [] := List.length_eq_zero_iff.1 h0
    subst this
    exact ⟨none, 0, rfl, .inl rfl, Nat.le_refl _, fun _ => rfl⟩
  · exact ⟨some ⟨g, 0, none⟩, cap, rfl, .inr ⟨g, 0, rfl, OwnB.bytes h (Array.getElem?_eq_some_iff.1 hg).1⟩, hc, fun h => by cases h⟩
/-- Bytes are laid behind those of a slice of one's own. -/
theorem app_own {w : World} {B : Nat} {v : Value} {l m : List Nat} {p : Option Addr} {cap k : Nat} (h : OwnB w B v l) (hB : Bs0 w p m) (hk : k = m.length) (hp : p = none → cap = 0) (hBw : B ≤ w.heap.size) (hlen : l.length + m.length ≤ 16777216) :
    ∃ v' w', (Builtin.append_ #[51, 51] 51 #[v, .slice p k cap]).run Try.prog w = .ok v' w' ∧ OwnB w' B v' (l ++ m) ∧ w.grownBy w' v.ownBlock := by
  subst hk
  obtain ⟨i0, hi, hz0, hz1, hz2⟩ := info_parts info_u8
  cases p with
  | none =>
    have hm : m = [] := by
      rcases hB with h | ⟨b, o, h, _⟩
      · exact h
      · cases h
    subst hm
    rw [hp rfl]
    refine ⟨v, w, run_append_owned_none (P := Try.prog) (w := w) B _ _ _ i0 1 Try.underlying51 hi v _ _ h, by rw [List.append_nil]; exact h, ⟨rfl, rfl, rfl, Nat.le_refl _, fun _ _ _ => rfl⟩⟩
  | some a =>
    have hnews : ∀ j u, (bys m)[j]? = some u → w.cell? (a.add j) = some u := by
      rcases hB with rfl | ⟨b, o, he, hB⟩
      · intro j u hu; simp [bys] at hu
      · cases he; exact bys_at hB
    obtain ⟨v', w', h1, h2, h3, _⟩ := run_append_own (P := Try.prog) w B 51 51 5 i0 (.int .u8 0) 1 1 Try.underlying51 hi hz0 hz1 hz2 rfl (by decide) v l.length (bys l) h a m.length cap (bys m) (by rw [bys_length, Nat.mul_one]) hnews (bys_one m) (maxLen_small hlen) (by omega) hBw
    exact ⟨v', w', h1, OwnB.snoc h2, h3⟩
theorem own_below {B : Nat} {w w1 w2 : World} {v : Value} {l : List Nat} (hb : Below B w w1) (ho : OwnB w1 B v l) (hB : B ≤ w1.heap.size) (hg : w1.grownBy w2 v.ownBlock) : Below B w w2 := grown_below hb ho hB hg
theorem own_nil (w : World) (B : Nat) : OwnB w B (.slice none 0 0) [] := World.ownsRow_nil w B _ _
/-- What lay there before lies there still. -/
theorem Bs0.keep {w w' : World} {p : Option Addr} {l : List Nat} (h : Bs0 w p l) (hb : Below w.heap.size w w') : Bs0 w' p l := h.grow hb
theorem Bs0.some {w : World} {g o : Nat} {l : List Nat} (h : BytesAt w g o l) : Bs0 w (some ⟨g, o, none⟩) l := .inr ⟨g, o, rfl, h⟩
theorem slB_h (a : Option Addr) (len cap n : Nat) (h : n ≤ cap) (w : World) : (slB (.slice a len cap) none (some (.int .i64 (n : Int))) none).run Try.prog w = .ok (.slice a n cap) w := by
  unfold slB
  rw [run_sliceAt_slice _ _ _ _ _ _ elem8, run_slice_h _ _ _ _ _ elem8 _ _ (by omega) (by omega), size8]
  cases a <;> simp [sliced, Result.andThen, Addr.add]
@[go_sem] theorem slB_h0 (a : Option Addr) (len cap : Nat) (w : World) : (slB (.slice a len cap) none (some (.int .i64 0)) none).run Try.prog w = .ok (.slice a 0 cap) w := slB_h a len cap 0 (Nat.zero_le _) w
theorem slB_hm (a : Option Addr) (len cap n : Nat) (h : n ≤ cap) (w : World) : (slB (.slice a len cap) none (some (.int .i64 (n : Int))) (some (.int .i64 (n : Int)))).run Try.prog w = .ok (.slice a n n) w := by
  unfold slB
  rw [run_sliceAt_slice _ _ _ _ _ _ elem8, run_slice_hm _ _ _ _ _ elem8 _ _ _ _ (by omega) (Int.le_refl _) (by omega), size8]
  cases a <;> simp [sliced, Result.andThen, Addr.add]
def mkS (l c : Value) : Sem Value := Instr.makeSlice 51 l c
@[go_sem ↓] theorem fold_make (l c : Value) : Instr.makeSlice 51 l c = mkS l c := rfl
theorem made_zs (n : Nat) : madeCells (Value.int IntKind.u8 0).cells (n * 1) = bysA (zs n) := by
  apply Array.ext_getElem?
  intro i
  by_cases h : i < n
  · rw [bysA_get _ i (by rw [zs_length]; exact h)]
    simp only [madeCells, Array.getElem?_map, Array.getElem?_range, Nat.mul_one, if_pos h, Option.map_some, zs, List.getD, List.getElem?_replicate, Option.getD_some]
    rw [show (Value.int IntKind.u8 0).cells.size = 1 from rfl, Nat.mod_one]; rfl
  · rw [Array.getElem?_eq_none (by simp [madeCells]; omega), Array.getElem?_eq_none (by rw [bysA_size, zs_length]; omega)]
theorem run_mkS (w : World) (n : Nat) (h : n ≤ 16777216) : (mkS (.int .i64 (n : Int)) (.int .i64 (n : Int))).run Try.prog w = .ok (.slice (some ⟨w.heap.size, 0, none⟩) n n) (w.alloc (.cells (bysA (zs n)) 5)) := by
  obtain ⟨i0, hi, hz0, hz1, hz2⟩ := info_parts info_u8
  have := run_make (P := Try.prog) w 51 5 i0 (.int .u8 0) Try.underlying51 hi hz0 .i64 .i64 (n : Int) (n : Int) (by omega) (Int.le_refl _) (by rw [hz2]; omega) (by omega)
  unfold mkS
  rw [this, hz1, Int.toNat_natCast, made_zs]
@[go_sem] theorem run_mkS64 (w : World) : (mkS (.int .i64 64) (.int .i64 64)).run Try.prog w = .ok (.slice (some ⟨w.heap.size, 0, none⟩) 64 64) (w.alloc (.cells (bysA (zs 64)) 5)) := run_mkS w 64 (by decide)
theorem setL_bys (r l : List Nat) (h : l.length ≤ r.length) : setL (bysA r) 0 (bys l) = bysA (l ++ r.drop l.length) := by
  apply Array.ext_getElem?
  intro i
  rw [setL_get, bys_length, bysA_size]
  have hn : (l ++ r.drop l.length).length = r.length := by simp; omega
  by_cases hi : i < r.length
  · rw [bysA_get (l ++ r.drop l.length) i (by rw [hn]; exact hi)]
    by_cases h1 : i < l.length
    · rw [if_pos (by omega), Nat.sub_zero]
      simp [bys, List.getD, h1, List.getElem?_append_left h1]
    · rw [if_neg (by omega), bysA_get _ i hi]
      simp only [List.getD]
      rw [List.getElem?_append_right (by omega), List.getElem?_drop, show l.length + (i - l.length) = i by omega]
  · rw [if_neg (by omega), Array.getElem?_eq_none (by rw [bysA_size]; omega), Array.getElem?_eq_none (by rw [bysA_size, hn]; omega)]
/-- Bytes go over the first ones of a row. -/
theorem copy_bytes {W : World} {g c2 cap d s k : Nat} {p : Option Addr} {r l : List Nat} (h : RowAt W g (bysA r)) (hd : d = r.length) (hs : s = l.length) (hk : k = min l.length r.length) (hB : Bs0 W p l) :
    (Builtin.copy_ #[51, 51] 3 #[.slice (some ⟨g, 0, none⟩) d c2, .slice p s cap]).run Try.prog W = .ok (.int .i64 (k : Int)) (W.setRow g (bysA (l.take k ++ r.drop k))) := by
  subst hd hs
  rcases hB with rfl | ⟨b, o, rfl, hB⟩
  · have hk0 : k = 0 := by simpa using hk
    subst hk0
    rw [List.take_zero, List.nil_append, List.drop_zero, setRow_self h]
    exact copy_none W _ _ _ _ _
  · have hl : (bys (l.take k)).length = k := by rw [bys_length, List.length_take]; omega
    have hi : (Try.prog.info? 5).map (·.size) = some 1 := by kernel_rfl
    have := run_copy_cells (P := Try.prog) W 51 51 3 5 g 0 r.length c2 ⟨b, o, none⟩ l.length cap (bys (l.take k)) Try.underlying51 hi (by rw [hl, hk])
      (fun j v hv => by
        have hj : j < k := by have := (List.getElem?_eq_some_iff.1 hv).1; omega
        rw [Addr.add_mid, hB.2 j (by omega), ← hv]
        simp only [bys, List.getElem?_map, List.getElem?_take, if_pos hj, List.getD]
        rw [List.getElem?_eq_getElem (by omega)]; rfl)
      (fun j hj => by rw [h.cellAt (0 + j) (Array.getElem?_eq_getElem (by rw [bysA_size]; omega))]; rfl)
      (fun j _ => h.frozenAt _) (bys_one _)
    rw [this, hl, setCells_row _ _ h, setL_bys _ _ (by rw [List.length_take]; omega)]
    rw [show (l.take k).length = k by rw [List.length_take]; omega]
    rfl
/-- A slice of bytes as a value. -/
def SlV (w : World) (v : Value) (l : List Nat) : Prop := ∃ p c, v = .slice p l.length c ∧ Bs0 w p l ∧ l.length ≤ c ∧ (p = none → c = 0)
theorem SlV.grow {w w' : World} {v : Value} {l : List Nat} (h : SlV w v l) (hb : Below w.heap.size w w') : SlV w' v l := by
  obtain ⟨p, c, rfl, h1, h2, h3⟩ := h
  exact ⟨p, c, rfl, h1.grow hb, h2, h3⟩
theorem u8_wrap (n : Nat) : IntKind.u8.wrap (n : Int) = ((n % 256 : Nat) : Int) := by rw [IntKind.wrap_u8]; omega
def bldB (n : Nat) (ps : Array (Nat × Value)) : Sem Value := Instr.buildSlice 51 n ps
@[go_sem ↓] theorem fold_bldB (n : Nat) (ps : Array (Nat × Value)) : Instr.buildSlice 51 n ps = bldB n ps := rfl
set_option maxRecDepth 100000 in
@[go_sem] theorem run_bldB1 (w : World) (b : Int) : (bldB 1 #[(0, .int .u8 b)]).run Try.prog w = .ok (.slice (some ⟨w.heap.size, 0, none⟩) 1 1) (w.alloc (.cells #[.int .u8 b] 5)) := by
  obtain ⟨ie, h1, h2, h3, _⟩ := info_parts info_u8
  refine run_buildSlice w _ _ 1 _ #[.int .u8 b] ie _ Try.underlying51 h1 h2 (by rw [h3]; decide) (by rw [h3]; decide) ?_
  rw [h3]; kernel_rfl
theorem Bs0.take {w : World} {p : Option Addr} {l : List Nat} (h : Bs0 w p l) (n : Nat) : Bs0 w p (l.take n) := by
  rcases h with rfl | ⟨b, o, rfl, h⟩
  · exact .inl (by simp)
  · refine .inr ⟨b, o, rfl, h.1, fun i hi => ?_⟩
    rw [List.length_take] at hi
    rw [h.2 i (by omega)]
    simp [List.getD, show i < n by omega]
/-- One byte more: the slice lies where it lay, or in a new block. -/
theorem app_at {w : World} {B g : Nat} {v : Value} {l : List Nat} {y : Nat} (h : OwnB w B v l) (hg : BytesAt w g 0 [y]) (hBw : B ≤ w.heap.size) (hlen : l.length + 1 ≤ 16777216) :
    ∃ v' w', (Builtin.append_ #[51, 51] 51 #[v, .slice (some ⟨g, 0, none⟩) 1 1]).run Try.prog w = .ok v' w' ∧ OwnB w' B v' (l ++ [y]) ∧ w.grownBy w' v.ownBlock ∧
      (v'.ownBlock = v.ownBlock ∨ v'.ownBlock = some w.heap.size) := by
  obtain ⟨v', w', h1, h2, h3⟩ := app_own (k := 1) (cap := 1) h (Bs0.some hg) rfl (fun h => by cases h) hBw hlen
  refine ⟨v', w', h1, h2, h3, ?_⟩
  obtain ⟨i0, hi, hz0, hz1, hz2⟩ := info_parts info_u8
  have hnews := bys_at hg
  rcases h.2 with ⟨rfl, h0⟩ | ⟨g0, cap, cur, rfl, hb, hgg, hc, hm, hs, ht⟩
  · have hr := run_append_nil (P := Try.prog) w 51 51 5 i0 (.int .u8 0) Try.underlying51 hi hz0 ⟨g, 0, none⟩ 1 1 (bys [y]) (by rw [hz1]; rfl) hnews (by decide) (by decide) (by rw [hz2]; decide)
    rw [h1] at hr
    cases hr
    exact .inr rfl
  · by_cases hroom : l.length + 1 ≤ cap
    · have hr := run_append_room (P := Try.prog) w 51 51 5 i0 Try.underlying51 hi g0 l.length cap cur hgg ⟨g, 0, none⟩ 1 1 (bys [y]) (by rw [hz1]; rfl) hnews (bys_one _) hroom (by rw [hz1, bys_length]; simp only [List.length_cons, List.length_nil]; omega)
      rw [h1] at hr
      cases hr
      exact .inl rfl
    · have hr := run_append_grow (P := Try.prog) w 51 51 5 i0 (.int .u8 0) Try.underlying51 hi hz0 ⟨g0, 0, none⟩ l.length cap (bys l) (by rw [hz1, bys_length, Nat.mul_one]) (World.ownsRow.cells h (g := g0) rfl) ⟨g, 0, none⟩ 1 1 (bys [y]) (by rw [hz1]; rfl) hnews (by omega) (by omega) (by rw [hz2]; exact growslice_fits (by omega) (by omega))
      rw [h1] at hr
      cases hr
      exact .inr rfl
theorem OwnB.kept {w w' : World} {B : Nat} {v : Value} {l : List Nat} {row : Option Nat} (h : OwnB w B v l) (hg : w.grownBy w' row) (hne : v.ownBlock = none ∨ v.ownBlock ≠ row) : OwnB w' B v l := World.ownsRow.kept h hg hne
theorem OwnB.ltb {w : World} {B : Nat} {v : Value} {l : List Nat} (h : OwnB w B v l) (k : Nat) (hk : v.ownBlock = some k) : B ≤ k ∧ k < w.heap.size := World.ownsRow.lt h k hk
@[go_sem] theorem run_bldB0 (w : World) : (bldB 0 #[]).run Try.prog w = .ok (.slice (some ⟨w.heap.size, 0, none⟩) 0 0) (w.alloc (.cells #[] 5)) := by
  obtain ⟨ie, h1, h2, h3, _⟩ := info_parts info_u8
  simp [bldB, Instr.buildSlice, run_underlying Try.underlying51, sizeOf, typeInfo, h1, Instr.fill, Array.range_zero', newObj, newRow]
  rfl
theorem take_one (s : List Nat) (k : Nat) (h : k < s.length) : s.take k ++ [s.getD k 0] = s.take (k + 1) := by
  rw [List.take_add_one, List.getElem?_eq_getElem h]
  simp [List.getD, h]
end Go.Proofs.Ytdeeecdpgmibnaa

/-
  Rows of bytes are compared: the whole comparison under a name of its own, so that the kernel does not open it in a walk.
-/
namespace Go.Proofs.Ytdeeecdpgmibnaa
open Go.RowKit Go.Hold Go.Sh

/-- The test ahead of a comparison, and the comparison. -/
def eqV (op : BinOp) (t : TypeId) (x y : Operand) (v v' : Value) : Sem Value := do eqGuard op t x y v v'; Go.binOp op t v v'
theorem eq_all {n : Nat} {l m : List Nat} (hl : l.length = n) (hm : m.length = n) : ((List.range n).all fun i => ((l.getD i 0 : Nat) : Int) == ((m.getD i 0 : Nat) : Int)) = decide (l = m) := by
  rw [Bool.eq_iff_iff]
  simp only [List.all_eq_true, List.mem_range, beq_iff_eq, decide_eq_true_iff]
  constructor
  · intro h
    refine List.ext_getElem (by omega) fun i h1 h2 => ?_
    have := h i (by omega)
    simp only [List.getD, List.getElem?_eq_getElem h1, List.getElem?_eq_getElem h2, Option.getD_some] at this
    omega
  · rintro rfl i _; rfl
/-- Two arrays of bytes. -/
theorem equalIn_bytes {t : TypeId} {n : Nat} (hu : Try.prog.underlying t = some (.array n 5)) (d : Nat) {l m : List Nat} (hl : l.length = n) (hm : m.length = n) (w : World) :
    (Op.equalIn (d + 3) t (.agg (bysA l)) (.agg (bysA m))).run Try.prog w = .ok (decide (l = m)) w := by
  obtain ⟨i, hi⟩ : ∃ i, Try.prog.info? 5 = some i := Option.isSome_iff_exists.1 (by kernel_rfl)
  rw [run_equalIn_array w (d + 2) (bysA l) (bysA m) hu hi, show Try.prog.cellsOf 5 = 1 from by kernel_rfl, ← eq_all hl hm]
  exact run_eqItems_int (P := Try.prog) (k := .u8) (d + 1) Try.underlying5 (bysA l) (bysA m) (fun i => ((l.getD i 0 : Nat) : Int)) (fun i => ((m.getD i 0 : Nat) : Int)) w (List.range n) fun j hj => ⟨bysA_get l j (by have := List.mem_range.1 hj; omega), bysA_get m j (by have := List.mem_range.1 hj; omega)⟩
theorem run_eqV {t : TypeId} {n : Nat} (hu : Try.prog.underlying t = some (.array n 5)) (hg : Try.prog.eqGuardType Try.prog.depth t = false) (x y : Operand) {l m : List Nat} (hl : l.length = n) (hm : m.length = n) (w : World) :
    (eqV .eql t x y (.agg (bysA l)) (.agg (bysA m))).run Try.prog w = .ok (.bool (decide (l = m))) w := by
  unfold eqV
  rw [Sem.run_bind, run_eqGuard_agg w .eql t x y _ _ hg, Result.andThen_ok, run_eql_struct, show (10000 : Nat) = 9997 + 3 from rfl, equalIn_bytes hu 9997 hl hm]
  rfl
theorem run_neV {t : TypeId} {n : Nat} (hu : Try.prog.underlying t = some (.array n 5)) (hg : Try.prog.eqGuardType Try.prog.depth t = false) (x y : Operand) {l m : List Nat} (hl : l.length = n) (hm : m.length = n) (w : World) :
    (eqV .neq t x y (.agg (bysA l)) (.agg (bysA m))).run Try.prog w = .ok (.bool (!decide (l = m))) w := by
  unfold eqV
  rw [Sem.run_bind, run_eqGuard_agg w .neq t x y _ _ hg, Result.andThen_ok, run_neq_struct, show (10000 : Nat) = 9997 + 3 from rfl, equalIn_bytes hu 9997 hl hm]
  rfl
/-- A comparison at the type of 16 bytes, as the walk meets it. -/
@[go_sem ↓ high] theorem fold_eq16 (a : Operand → Value) (d : Option Tmp) (op : BinOp) (x y : Operand) (u t : TypeId) (p : String) (af : Array Edge) (g : Option (Nat × Bool)) :
    execOp a ⟨d, .binOp op 26 x y u, t, p, af, g⟩ = (do pure (.value (← eqV op 26 x y (a x) (a y)))) := rfl
@[go_sem] theorem run_eq16 (x y : Operand) (l m : List Nat) (hl : l.length = 16) (hm : m.length = 16) (w : World) :
    (eqV .eql 26 x y (.agg (bysA l)) (.agg (bysA m))).run Try.prog w = .ok (.bool (decide (l = m))) w := run_eqV Try.underlying26 (by kernel_rfl) x y hl hm w
@[go_sem] theorem run_ne16 (x y : Operand) (l m : List Nat) (hl : l.length = 16) (hm : m.length = 16) (w : World) :
    (eqV .neq 26 x y (.agg (bysA l)) (.agg (bysA m))).run Try.prog w = .ok (.bool (!decide (l = m))) w := run_neV Try.underlying26 (by kernel_rfl) x y hl hm w
end Go.Proofs.Ytdeeecdpgmibnaa

/-
  What a function answers: two whole rows, or a row and a plain value.
-/
namespace Go.Proofs.Ytdeeecdpgmibnaa
open Go.RowKit

/-- Two results that are whole rows. -/
theorem results_row2 {P : Program} {fn : Func} {p p' : Tmp} {t t' : TypeId} {d d' : TypeDesc} {cs cs' : Array Value} (w : World) (h : fn.results = #[.cell p t, .cell p' t'])
    (hu : P.underlying t = some d) (hd : (match d with | .struct _ | .array _ _ => true | _ => false) = true) (hi : (P.info? t).map (·.size) = some cs.size)
    (hu' : P.underlying t' = some d') (hd' : (match d' with | .struct _ | .array _ _ => true | _ => false) = true) (hi' : (P.info? t').map (·.size) = some cs'.size)
    (tmps : Array Value) (n n' : Nat) (hp : tmps.getD p undef = .pointer (some ⟨n, 0, none⟩)) (h1 : w.isRow n = true) (h2 : w.rowOf n = cs)
    (hp' : tmps.getD p' undef = .pointer (some ⟨n', 0, none⟩)) (h1' : w.isRow n' = true) (h2' : w.rowOf n' = cs') : (results fn tmps).run P w = .ok (.tuple #[.agg cs, .agg cs']) w := by
  obtain ⟨s, hs⟩ := World.isRow_spec h1
  obtain ⟨s', hs'⟩ := World.isRow_spec h1'
  rw [h2] at hs; rw [h2'] at hs'
  have e : tmps[p]?.getD undef = .pointer (some ⟨n, 0, none⟩) := by simpa using hp
  have e' : tmps[p']?.getD undef = .pointer (some ⟨n', 0, none⟩) := by simpa using hp'
  simp [results, h, e, e', asAddr, run_loadVar_row w n s t cs (0, 0) d hs hu hd hi, run_loadVar_row w n' s' t' cs' (0, 0) d' hs' hu' hd' hi']
/-- A whole row, and a plain value. -/
theorem results_row_slot {P : Program} {fn : Func} {p p' : Tmp} {t : TypeId} {d : TypeDesc} {cs : Array Value} {v : Value} (w : World) (h : fn.results = #[.cell p t, .tmp p'])
    (hu : P.underlying t = some d) (hd : (match d with | .struct _ | .array _ _ => true | _ => false) = true) (hi : (P.info? t).map (·.size) = some cs.size)
    (tmps : Array Value) (n : Nat) (hp : tmps.getD p undef = .pointer (some ⟨n, 0, none⟩)) (h1 : w.isRow n = true) (h2 : w.rowOf n = cs)
    (hp' : tmps.getD p' undef = v) : (results fn tmps).run P w = .ok (.tuple #[.agg cs, v]) w := by
  obtain ⟨s, hs⟩ := World.isRow_spec h1
  rw [h2] at hs
  have e : tmps[p]?.getD undef = .pointer (some ⟨n, 0, none⟩) := by simpa using hp
  have e' : tmps[p']?.getD undef = v := by simpa using hp'
  simp [results, h, e, e', asAddr, run_loadVar_row w n s t cs (0, 0) d hs hu hd hi]
end Go.Proofs.Ytdeeecdpgmibnaa

/-
  Bytes that are laid down, and taken, as lists of numbers. Of no program.
-/
namespace Go.Oc
open Go Go.Sh

/-! ### Numbers in bytes -/
/-- The i-th byte of a number in so many bytes. -/
def dgt (n size i : Nat) : Nat := n / 2 ^ (8 * (size - 1 - i)) % 256
def digN (n size : Nat) : List Nat := (List.range size).map (dgt n size)
def joinN (l : List Nat) : Nat := l.foldl (fun a x => a * 256 + x) 0
theorem dig_length (n size : Nat) : (digN n size).length = size := by simp [digN]
theorem dgt_lt (n size i : Nat) : dgt n size i < 256 := Nat.mod_lt _ (by decide)
theorem dig_bts (n size : Nat) : ∀ i, (digN n size).getD i 0 < 256 := getD_lt fun x hx => by
  obtain ⟨i, _, rfl⟩ := List.mem_map.1 hx
  exact dgt_lt _ _ _
theorem join_snoc (l : List Nat) (x : Nat) : joinN (l ++ [x]) = joinN l * 256 + x := by simp [joinN]
theorem join_part (n size : Nat) : ∀ k, k ≤ size → joinN ((List.range k).map (dgt n size)) = n / 2 ^ (8 * (size - k)) % 2 ^ (8 * k)
  | 0, _ => by simp [joinN, Nat.mod_one]
  | k + 1, h => by
    rw [List.range_succ, List.map_append, List.map_cons, List.map_nil, join_snoc, join_part n size k (by omega)]
    unfold dgt
    have e : 8 * (size - k) = 8 * (size - (k + 1)) + 8 := by omega
    rw [show size - 1 - k = size - (k + 1) by omega, e, Nat.pow_add, ← Nat.div_div_eq_div_mul]
    generalize n / 2 ^ (8 * (size - (k + 1))) = X
    rw [show 8 * (k + 1) = 8 + 8 * k by omega, Nat.pow_add 2 8 (8 * k), show (2 : Nat) ^ 8 = 256 from rfl, Nat.mod_mul]
    omega
theorem join_dig (n size : Nat) (h : n < 2 ^ (8 * size)) : joinN (digN n size) = n := by
  unfold digN
  rw [join_part n size size (Nat.le_refl _), Nat.sub_self, Nat.mul_zero, Nat.pow_zero, Nat.div_one, Nat.mod_eq_of_lt h]
theorem fold_lt : ∀ (l : List Nat) (a : Nat), (∀ x ∈ l, x < 256) → l.foldl (fun a x => a * 256 + x) a < (a + 1) * 2 ^ (8 * l.length)
  | [], a, _ => by simp
  | x :: l, a, h => by
    have h1 := fold_lt l (a * 256 + x) fun y hy => h y (by simp [hy])
    have h2 : x < 256 := h x (by simp)
    rw [List.foldl_cons, List.length_cons, Nat.mul_add, Nat.mul_one, Nat.add_comm (8 * l.length) 8, Nat.pow_add, ← Nat.mul_assoc]
    refine Nat.lt_of_lt_of_le h1 (Nat.mul_le_mul_right _ ?_)
    show a * 256 + x + 1 ≤ (a + 1) * 256
    omega
theorem join_lt (l : List Nat) (h : ∀ i, l.getD i 0 < 256) : joinN l < 2 ^ (8 * l.length) := by
  have := fold_lt l 0 (mem_lt h)
  simpa [joinN] using this
/-- Has a number room in some bytes? -/
def Fits (n : Nat) (sz : Int) : Prop := 1 ≤ sz ∧ sz ≤ 8 ∧ n < 2 ^ (8 * sz.toNat)
instance (n : Nat) (sz : Int) : Decidable (Fits n sz) := by unfold Fits; infer_instance

/-! ### A writer: its first error, and its bytes -/
abbrev Ws := Int × List Nat
def layS (room : Nat) (l m : List Nat) : Ws := if room < l.length + m.length then (8, l) else (0, l ++ m)
def numS (room : Nat) (s : Ws) (n : Nat) (sz : Int) : Ws := if s.1 ≠ 0 then s else if ¬ Fits n sz then (2, s.2) else layS room s.2 (digN n sz.toNat)
def bytS (room : Nat) (s : Ws) (m : List Nat) : Ws := if s.1 ≠ 0 then s else layS room s.2 m
def filS (room : Nat) (s : Ws) (to : Int) : Ws := if s.1 ≠ 0 then s else if to < (s.2.length : Int) then (2, s.2) else if (room : Int) < to then (8, s.2) else layS room s.2 (zs (to.toNat - s.2.length))
/-- What all of it is. -/
def allL (s : Ws) : List Nat := if s.1 ≠ 0 then [] else s.2
theorem layS_le {room : Nat} {l m : List Nat} (h : l.length ≤ room) : (layS room l m).2.length ≤ room := by
  unfold layS; split <;> simp <;> omega
theorem numS_le {room : Nat} {s : Ws} (h : s.2.length ≤ room) (n : Nat) (sz : Int) : (numS room s n sz).2.length ≤ room := by
  unfold numS; split; · exact h
  split; · exact h
  exact layS_le h
theorem bytS_le {room : Nat} {s : Ws} (h : s.2.length ≤ room) (m : List Nat) : (bytS room s m).2.length ≤ room := by
  unfold bytS; split; · exact h
  exact layS_le h
theorem filS_le {room : Nat} {s : Ws} (h : s.2.length ≤ room) (to : Int) : (filS room s to).2.length ≤ room := by
  unfold filS; split; · exact h
  split; · exact h
  split; · exact h
  exact layS_le h
theorem layS_bts {room : Nat} {l m : List Nat} (h : ∀ i, l.getD i 0 < 256) (hm : ∀ i, m.getD i 0 < 256) : ∀ i, (layS room l m).2.getD i 0 < 256 := by
  unfold layS; split
  · exact h
  · exact bts_app h hm
theorem numS_bts {room : Nat} {s : Ws} (h : ∀ i, s.2.getD i 0 < 256) (n : Nat) (sz : Int) : ∀ i, (numS room s n sz).2.getD i 0 < 256 := by
  unfold numS; split; · exact h
  split; · exact h
  exact layS_bts h (dig_bts _ _)
theorem bytS_bts {room : Nat} {s : Ws} (h : ∀ i, s.2.getD i 0 < 256) {m : List Nat} (hm : ∀ i, m.getD i 0 < 256) : ∀ i, (bytS room s m).2.getD i 0 < 256 := by
  unfold bytS; split; · exact h
  exact layS_bts h hm
theorem filS_bts {room : Nat} {s : Ws} (h : ∀ i, s.2.getD i 0 < 256) (to : Int) : ∀ i, (filS room s to).2.getD i 0 < 256 := by
  unfold filS; split; · exact h
  split; · exact h
  split; · exact h
  exact layS_bts h (bts_zs _)

/-! ### A reader: its first error, and the bytes that are left -/
def takS (s : Ws) (n : Nat) : Ws := if s.2.length < n then (4, s.2) else (0, s.2.drop n)
def rnumS (s : Ws) (sz : Int) : Ws := if s.1 ≠ 0 then s else if ¬ (1 ≤ sz ∧ sz ≤ 8) then (2, s.2) else takS s sz.toNat
def rnumV (s : Ws) (sz : Int) : Nat := if s.1 = 0 ∧ (1 ≤ sz ∧ sz ≤ 8) ∧ sz.toNat ≤ s.2.length then joinN (s.2.take sz.toNat) else 0
def rbytS (s : Ws) (n : Int) : Ws := if s.1 ≠ 0 then s else if n < 0 then (2, s.2) else takS s n.toNat
def rbytV (s : Ws) (n : Int) : List Nat := if s.1 = 0 ∧ 0 ≤ n ∧ n.toNat ≤ s.2.length then s.2.take n.toNat else []
def leftS (s : Ws) : Nat := if s.1 ≠ 0 then 0 else s.2.length
def doneS (s : Ws) : Bool := decide (s.1 = 0) && s.2.all (· == 0)
theorem takS_le {s : Ws} {n m : Nat} (h : s.2.length ≤ m) : (takS s n).2.length ≤ m := by
  unfold takS; split <;> simp <;> omega
theorem rnumS_le {s : Ws} {m : Nat} (h : s.2.length ≤ m) (sz : Int) : (rnumS s sz).2.length ≤ m := by
  unfold rnumS; split; · exact h
  split; · exact h
  exact takS_le h
theorem rbytS_le {s : Ws} {m : Nat} (h : s.2.length ≤ m) (sz : Int) : (rbytS s sz).2.length ≤ m := by
  unfold rbytS; split; · exact h
  split; · exact h
  exact takS_le h
theorem takS_bts {s : Ws} {n : Nat} (h : ∀ i, s.2.getD i 0 < 256) : ∀ i, (takS s n).2.getD i 0 < 256 := by
  unfold takS; split
  · exact h
  · exact bts_drop h _
theorem rnumS_bts {s : Ws} (h : ∀ i, s.2.getD i 0 < 256) (sz : Int) : ∀ i, (rnumS s sz).2.getD i 0 < 256 := by
  unfold rnumS; split; · exact h
  split; · exact h
  exact takS_bts h
theorem rbytS_bts {s : Ws} (h : ∀ i, s.2.getD i 0 < 256) (sz : Int) : ∀ i, (rbytS s sz).2.getD i 0 < 256 := by
  unfold rbytS; split; · exact h
  split; · exact h
  exact takS_bts h
theorem rbytV_bts {s : Ws} (h : ∀ i, s.2.getD i 0 < 256) (n : Int) : ∀ i, (rbytV s n).getD i 0 < 256 := by
  unfold rbytV; split
  · exact bts_take h _
  · intro i; simp
end Go.Oc

/-
  Commands, and their bytes, as numbers and lists. Of no program.
-/
namespace Go.Cm
open Go Go.Sh Go.Oc

/-- A command: its kind, the next one, a delay, an id. -/
structure Cmd where
  k : Int
  n : Int
  d : Int
  id : List Nat
/-- May there be such a command? -/
def Cmd.may (c : Cmd) : Bool :=
  if c.k = 1 then decide (0 ≤ c.n ∧ c.n < 16) && decide (0 ≤ c.d ∧ c.d < 65) && decide (c.id = zs 8)
  else if c.k = 2 then decide (0 ≤ c.n ∧ c.n < 8) && decide (c.d = 0) && decide (c.id = zs 8)
  else if c.k = 3 then decide (0 ≤ c.n ∧ c.n < 8) && decide (c.d = 0)
  else if c.k = 4 then decide (c.n = 0) && decide (c.d = 0) && decide (c.id = zs 8)
  else false
/-- Its bytes. -/
def Cmd.enc (c : Cmd) : List Nat := [c.k.toNat % 256, c.n.toNat % 256, c.d.toNat / 256 % 256, c.d.toNat % 256] ++ c.id ++ zs 4
/-- The command that bytes would say. -/
def ofB (b : List Nat) : Cmd := ⟨(b.getD 0 0 : Nat), (b.getD 1 0 : Nat), ((b.getD 2 0 * 256 + b.getD 3 0 : Nat) : Int), (b.drop 4).take 8⟩
/-- Are bytes a command's? -/
def okB (b : List Nat) : Bool := (b.drop 12).all (· == 0) && (ofB b).may
def Cmd.zero : Cmd := ⟨0, 0, 0, zs 8⟩
/-- What is answered: the bytes, or noughts; the error. -/
def encV (c : Cmd) : List Nat := if c.may then c.enc else zs 16
def encE (c : Cmd) : Int := if c.may then 0 else 2
def decV (b : List Nat) : Cmd := if okB b then ofB b else .zero
def decE (b : List Nat) : Int := if okB b then 0 else 5

theorem may_range {c : Cmd} (h : c.may = true) : (1 ≤ c.k ∧ c.k < 5) ∧ (0 ≤ c.n ∧ c.n < 16) ∧ (0 ≤ c.d ∧ c.d < 65) := by
  unfold Cmd.may at h
  split at h
  · simp at h; omega
  split at h
  · simp at h; omega
  split at h
  · simp at h; omega
  split at h
  · simp at h; omega
  · cases h
theorem enc_length {c : Cmd} (h : c.id.length = 8) : c.enc.length = 16 := by simp [Cmd.enc, h, zs]
theorem enc_bts {c : Cmd} (h : ∀ i, c.id.getD i 0 < 256) : ∀ i, c.enc.getD i 0 < 256 := by
  refine getD_lt fun x hx => ?_
  simp only [Cmd.enc, List.mem_append, List.mem_cons, List.not_mem_nil, or_false] at hx
  rcases hx with ((rfl | rfl | rfl | rfl) | hx) | hx
  · exact Nat.mod_lt _ (by decide)
  · exact Nat.mod_lt _ (by decide)
  · exact Nat.mod_lt _ (by decide)
  · exact Nat.mod_lt _ (by decide)
  · exact mem_lt h x hx
  · simp [zs] at hx; omega
theorem ofB_enc {c : Cmd} (hi : c.id.length = 8) (h : c.may = true) : ofB c.enc = c := by
  obtain ⟨h1, h2, h3⟩ := may_range h
  obtain ⟨k, n, d, id⟩ := c
  simp only at h1 h2 h3 hi
  simp only [ofB, Cmd.enc, List.cons_append, List.nil_append, List.getD_cons_zero, List.getD_cons_succ, List.drop_succ_cons, List.drop_zero, Cmd.mk.injEq]
  refine ⟨by omega, by omega, by omega, ?_⟩
  rw [← hi, List.take_left]
theorem okB_enc {c : Cmd} (hi : c.id.length = 8) (h : c.may = true) : okB c.enc = true := by
  unfold okB
  rw [ofB_enc hi h, h, Bool.and_true]
  have : c.enc.drop 12 = zs 4 := by
    simp only [Cmd.enc, List.cons_append, List.nil_append, List.drop_succ_cons]
    rw [← hi, List.drop_left]
  rw [this]; decide
/-- Bytes are a command's just if that command has them. -/
theorem enc_ofB {b : List Nat} (hb : b.length = 16) (h : ∀ i, b.getD i 0 < 256) : (ofB b).enc = b ↔ (b.drop 12).all (· == 0) = true := by
  match b, hb with
  | [b0, b1, b2, b3, b4, b5, b6, b7, b8, b9, b10, b11, b12, b13, b14, b15], _ =>
    have h0 : b0 < 256 := h 0
    have h1 : b1 < 256 := h 1
    have h2 : b2 < 256 := h 2
    have h3 : b3 < 256 := h 3
    simp only [ofB, Cmd.enc, zs, List.getD_cons_zero, List.getD_cons_succ, List.drop_succ_cons, List.drop_zero, List.take_succ_cons, List.take_zero, List.replicate_succ, List.replicate_zero, List.cons_append, List.nil_append, List.cons.injEq, Int.toNat_natCast, List.all_cons, List.all_nil, Bool.and_true, Bool.and_eq_true, beq_iff_eq, true_and, and_true]
    omega
theorem enc_inj {a b : Cmd} (ha : a.id.length = 8) (hb : b.id.length = 8) (ma : a.may = true) (mb : b.may = true) : a.enc = b.enc ↔ a = b :=
  ⟨fun e => by rw [← ofB_enc ha ma, ← ofB_enc hb mb, e], fun e => by rw [e]⟩
theorem ofB_id (b : List Nat) (hb : b.length = 16) : (ofB b).id.length = 8 := by simp [ofB, hb]
theorem encV_length {c : Cmd} (h : c.id.length = 8) : (encV c).length = 16 := by
  unfold encV; split
  · exact enc_length h
  · simp [zs]
theorem encV_bts {c : Cmd} (h : ∀ i, c.id.getD i 0 < 256) : ∀ i, (encV c).getD i 0 < 256 := by
  unfold encV; split
  · exact enc_bts h
  · exact bts_zs _
theorem decV_id {b : List Nat} (hb : b.length = 16) : (decV b).id.length = 8 := by
  unfold decV; split
  · exact ofB_id b hb
  · simp [Cmd.zero, zs]
theorem decV_bts {b : List Nat} (h : ∀ i, b.getD i 0 < 256) : ∀ i, (decV b).id.getD i 0 < 256 := by
  unfold decV; split
  · exact bts_take (bts_drop h _) _
  · exact bts_zs _
end Go.Cm

/-
  Package command: a command as cells; an id among them.
-/
namespace Go.Proofs.Ytdeeecdpgmibnaa
open Go.RowKit Go.Hold Go.Sh Go.Cm

/-- A command's cells. -/
def cmdA (c : Cmd) : Array Value := (([.int .i64 c.k, .int .i64 c.n, .int .i64 c.d] : List Value) ++ bys c.id).toArray
theorem cmdA_size {c : Cmd} (h : c.id.length = 8) : (cmdA c).size = 11 := by simp [cmdA, bys, h]
@[go_sem] theorem cmdA_0 (c : Cmd) : (cmdA c)[0]? = some (.int .i64 c.k) := by simp [cmdA]
@[go_sem] theorem cmdA_1 (c : Cmd) : (cmdA c)[1]? = some (.int .i64 c.n) := by simp [cmdA]
@[go_sem] theorem cmdA_2 (c : Cmd) : (cmdA c)[2]? = some (.int .i64 c.d) := by simp [cmdA]
@[go_sem] theorem cmdA_g0 (c : Cmd) (h : 0 < (cmdA c).size) : (cmdA c)[0]'h = .int .i64 c.k := by simp [cmdA]
@[go_sem] theorem cmdA_g1 (c : Cmd) (h : 1 < (cmdA c).size) : (cmdA c)[1]'h = .int .i64 c.n := by simp [cmdA]
@[go_sem] theorem cmdA_g2 (c : Cmd) (h : 2 < (cmdA c).size) : (cmdA c)[2]'h = .int .i64 c.d := by simp [cmdA]
@[go_sem] theorem cmdA_one (c : Cmd) : oneAll (cmdA c) = true := by simp [oneAll, cmdA, bys, Value.oneCell']
theorem cmdA_get (c : Cmd) (i : Nat) (h : i < c.id.length) : (cmdA c)[3 + i]? = some (.int .u8 ((c.id.getD i 0 : Nat) : Int)) := by
  simp only [cmdA, List.getElem?_toArray]
  rw [List.getElem?_append_right (by simp)]
  simp [bys, h]
@[go_sem] theorem cmdA_ext (c : Cmd) (h : c.id.length = 8) : (cmdA c).extract 3 11 = bysA c.id := by
  apply Array.ext_getElem?
  intro i
  rw [Array.getElem?_extract, cmdA_size h]
  by_cases hi : i < 8
  · rw [if_pos (by omega), cmdA_get c i (by omega), bysA_get _ i (by omega)]
  · rw [if_neg (by omega), Array.getElem?_eq_none (by rw [bysA_size]; omega)]
theorem bytes_cmd {w : World} {g : Nat} {c : Cmd} (h : RowAt w g (cmdA c)) : BytesAt w g 3 c.id :=
  ⟨h.2.2, fun i hi => h.cellAt (3 + i) (cmdA_get c i hi)⟩
/-- The middle of a row, as a value. -/
theorem run_loadMid {t : TypeId} {d : TypeDesc} {o k : Nat} (hu : Try.prog.underlying t = some d) (hd : d.isRow = true) (hi : (Try.prog.info? t).map (·.size) = some k) (w : World) (n : Nat) (h1 : w.isRow n = true) (h2 : o + k ≤ (w.rowOf n).size) :
    (loadRow t (.pointer (some ⟨n, o, none⟩))).run Try.prog w = .ok (.agg ((w.rowOf n).extract o (o + k))) w := by
  obtain ⟨s, hs⟩ := World.isRow_spec h1
  have := run_loadAt_mid (P := Try.prog) w n o t ((w.rowOf n).extract o (o + k)).toList d (World.rangeAt_of_block hs o k) hu hd (by rw [hi]; simp; omega)
  rw [Array.toArray_toList] at this
  exact this
@[go_sem ↓] theorem loadAt_cmd (v : Value) : Instr.loadAt 32 v = loadRow 32 v := rfl
@[go_sem] theorem run_loadCmd (w : World) (n : Nat) (h1 : w.isRow n = true) (h2 : (w.rowOf n).size = 11) : (loadRow 32 (.pointer (some ⟨n, 0, none⟩))).run Try.prog w = .ok (.agg (w.rowOf n)) w := run_loadRow w Try.underlying32 rfl (by kernel_rfl) n h1 h2
@[go_sem ↓] theorem loadAt_id (v : Value) : Instr.loadAt 30 v = loadRow 30 v := rfl
@[go_sem] theorem run_loadId (w : World) (n : Nat) (h1 : w.isRow n = true) (h2 : (w.rowOf n).size = 11) : (loadRow 30 (.pointer (some ⟨n, 3, none⟩))).run Try.prog w = .ok (.agg ((w.rowOf n).extract 3 11)) w := run_loadMid (k := 8) Try.underlying30 rfl (by kernel_rfl) w n h1 (by omega)
@[go_sem ↓] theorem loadAt_b16 (v : Value) : Instr.loadAt 26 v = loadRow 26 v := rfl
@[go_sem] theorem run_loadB16 (w : World) (n : Nat) (h1 : w.isRow n = true) (h2 : (w.rowOf n).size = 16) : (loadRow 26 (.pointer (some ⟨n, 0, none⟩))).run Try.prog w = .ok (.agg (w.rowOf n)) w := run_loadRow w Try.underlying26 rfl (by kernel_rfl) n h1 h2
@[go_sem ↓] theorem build_cmd (ps : Array (Nat × Value)) : Instr.build 32 ps = bldA 32 ps := rfl
@[go_sem ↓] theorem build_id (ps : Array (Nat × Value)) : Instr.build 30 ps = bldA 30 ps := rfl
@[go_sem ↓] theorem build_b16 (ps : Array (Nat × Value)) : Instr.build 26 ps = bldA 26 ps := rfl
@[go_sem] theorem run_bldCmd0 (w : World) : (bldA 32 #[]).run Try.prog w = .ok (.agg (cmdA .zero)) w := run_build w _ _ _ (by kernel_rfl)
@[go_sem] theorem run_bldCmd3 (k n d : Int) (w : World) : (bldA 32 #[(0, .int .i64 k), (1, .int .i64 n), (2, .int .i64 d)]).run Try.prog w = .ok (.agg (cmdA ⟨k, n, d, zs 8⟩)) w := run_build w _ _ _ (by kernel_rfl)
@[go_sem] theorem run_bldId0 (w : World) : (bldA 30 #[]).run Try.prog w = .ok (.agg (bysA (zs 8))) w := run_build w _ _ _ (by kernel_rfl)
@[go_sem] theorem run_bldB16 (w : World) : (bldA 26 #[]).run Try.prog w = .ok (.agg (bysA (zs 16))) w := run_build w _ _ _ (by kernel_rfl)
theorem run_bldCmd4 (c : Cmd) (h : c.id.length = 8) (w : World) : (bldA 32 #[(0, .int .i64 c.k), (1, .int .i64 c.n), (2, .int .i64 c.d), (3, .agg (bysA c.id))]).run Try.prog w = .ok (.agg (cmdA c)) w := by
  obtain ⟨k, n, d, id⟩ := c
  match id, h with
  | [a0, a1, a2, a3, a4, a5, a6, a7], _ => exact run_build w _ _ _ (by kernel_rfl)
/-- A comparison of ids, as the walk meets it. -/
@[go_sem ↓ high] theorem fold_eqId (a : Operand → Value) (d : Option Tmp) (op : BinOp) (x y : Operand) (u t : TypeId) (p : String) (af : Array Edge) (g : Option (Nat × Bool)) :
    execOp a ⟨d, .binOp op 30 x y u, t, p, af, g⟩ = (do pure (.value (← eqV op 30 x y (a x) (a y)))) := rfl
@[go_sem] theorem run_eqId (x y : Operand) (l m : List Nat) (hl : l.length = 8) (hm : m.length = 8) (w : World) :
    (eqV .eql 30 x y (.agg (bysA l)) (.agg (bysA m))).run Try.prog w = .ok (.bool (decide (l = m))) w := run_eqV Try.underlying30 (by kernel_rfl) x y hl hm w
/-- What a function answers: a command, or 16 bytes, and a number. -/
theorem results_cmd {fn : Func} {p p' : Tmp} (h : fn.results = #[.cell p 32, .tmp p']) (c : Cmd) (hc : c.id.length = 8) (x : Value) (w : World) (tmps : Array Value) (n : Nat) (hp : tmps.getD p undef = .pointer (some ⟨n, 0, none⟩)) (h1 : w.isRow n = true) (h2 : w.rowOf n = cmdA c) (hx : tmps.getD p' undef = x) :
    (results fn tmps).run Try.prog w = .ok (.tuple #[.agg (cmdA c), x]) w :=
  results_row_slot w h Try.underlying32 rfl (by rw [cmdA_size hc]; kernel_rfl) tmps n hp h1 h2 hx
theorem results_b16 {fn : Func} {p p' : Tmp} (h : fn.results = #[.cell p 26, .tmp p']) (l : List Nat) (hl : l.length = 16) (x : Value) (w : World) (tmps : Array Value) (n : Nat) (hp : tmps.getD p undef = .pointer (some ⟨n, 0, none⟩)) (h1 : w.isRow n = true) (h2 : w.rowOf n = bysA l) (hx : tmps.getD p' undef = x) :
    (results fn tmps).run Try.prog w = .ok (.tuple #[.agg (bysA l), x]) w :=
  results_row_slot w h Try.underlying26 rfl (by rw [bysA_size, hl]; kernel_rfl) tmps n hp h1 h2 hx
end Go.Proofs.Ytdeeecdpgmibnaa

/-
  The reference of layer 9: a command as cells; two commands are compared.
-/
namespace Go.Cm
open Go
/-- Are two commands one? -/
def beqC (a b : Cmd) : Bool := (a.k == b.k) && ((a.n == b.n) && ((a.d == b.d) && decide (a.id = b.id)))
theorem beqC_iff {a b : Cmd} : beqC a b = true ↔ a = b := by
  obtain ⟨a1, a2, a3, a4⟩ := a
  obtain ⟨b1, b2, b3, b4⟩ := b
  simp [beqC]
theorem beqC_self (a : Cmd) : beqC a a = true := beqC_iff.2 rfl
theorem beqC_dec (a b : Cmd) {p : Prop} [Decidable p] (h : p ↔ a = b) : beqC a b = decide p := by
  by_cases e : a = b
  · rw [beqC_iff.2 e, decide_eq_true (h.2 e)]
  · rw [decide_eq_false (fun x => e (h.1 x))]
    cases hb : beqC a b
    · rfl
    · exact absurd (beqC_iff.1 hb) e
end Go.Cm
namespace Go.Proofs.Ytdeeecdpgmibnaa
open Go.RowKit Go.Hold Go.Sh Go.Cm

@[go_sem ↓] theorem loadAt_rcmd (v : Value) : Instr.loadAt 24 v = loadRow 24 v := rfl
@[go_sem] theorem run_loadRCmd (w : World) (n : Nat) (h1 : w.isRow n = true) (h2 : (w.rowOf n).size = 11) : (loadRow 24 (.pointer (some ⟨n, 0, none⟩))).run Try.prog w = .ok (.agg (w.rowOf n)) w := run_loadRow w Try.underlying24 rfl (by kernel_rfl) n h1 h2
@[go_sem ↓] theorem loadAt_b8 (v : Value) : Instr.loadAt 22 v = loadRow 22 v := rfl
@[go_sem] theorem run_loadB8 (w : World) (n : Nat) (h1 : w.isRow n = true) (h2 : (w.rowOf n).size = 11) : (loadRow 22 (.pointer (some ⟨n, 3, none⟩))).run Try.prog w = .ok (.agg ((w.rowOf n).extract 3 11)) w := run_loadMid (k := 8) Try.underlying22 rfl (by kernel_rfl) w n h1 (by omega)
@[go_sem ↓] theorem build_rcmd (ps : Array (Nat × Value)) : Instr.build 24 ps = bldA 24 ps := rfl
@[go_sem ↓] theorem build_b8 (ps : Array (Nat × Value)) : Instr.build 22 ps = bldA 22 ps := rfl
@[go_sem] theorem run_bldRCmd0 (w : World) : (bldA 24 #[]).run Try.prog w = .ok (.agg (cmdA .zero)) w := run_build w _ _ _ (by kernel_rfl)
@[go_sem] theorem run_bldRCmd3 (k n d : Int) (w : World) : (bldA 24 #[(0, .int .i64 k), (1, .int .i64 n), (2, .int .i64 d)]).run Try.prog w = .ok (.agg (cmdA ⟨k, n, d, zs 8⟩)) w := run_build w _ _ _ (by kernel_rfl)
@[go_sem] theorem run_bldB8 (w : World) : (bldA 22 #[]).run Try.prog w = .ok (.agg (bysA (zs 8))) w := run_build w _ _ _ (by kernel_rfl)
theorem run_bldRCmd4 (c : Cmd) (h : c.id.length = 8) (w : World) : (bldA 24 #[(0, .int .i64 c.k), (1, .int .i64 c.n), (2, .int .i64 c.d), (3, .agg (bysA c.id))]).run Try.prog w = .ok (.agg (cmdA c)) w := by
  obtain ⟨k, n, d, id⟩ := c
  match id, h with
  | [a0, a1, a2, a3, a4, a5, a6, a7], _ => exact run_build w _ _ _ (by kernel_rfl)
@[go_sem ↓ high] theorem fold_eq8 (a : Operand → Value) (d : Option Tmp) (op : BinOp) (x y : Operand) (u t : TypeId) (p : String) (af : Array Edge) (g : Option (Nat × Bool)) :
    execOp a ⟨d, .binOp op 22 x y u, t, p, af, g⟩ = (do pure (.value (← eqV op 22 x y (a x) (a y)))) := rfl
@[go_sem] theorem run_eq8 (x y : Operand) (l m : List Nat) (hl : l.length = 8) (hm : m.length = 8) (w : World) :
    (eqV .eql 22 x y (.agg (bysA l)) (.agg (bysA m))).run Try.prog w = .ok (.bool (decide (l = m))) w := run_eqV Try.underlying22 (by kernel_rfl) x y hl hm w
/-! ### Two commands -/
@[go_sem ↓ high] theorem fold_eqCmd (a : Operand → Value) (d : Option Tmp) (op : BinOp) (x y : Operand) (u t : TypeId) (p : String) (af : Array Edge) (g : Option (Nat × Bool)) :
    execOp a ⟨d, .binOp op 24 x y u, t, p, af, g⟩ = (do pure (.value (← eqV op 24 x y (a x) (a y)))) := rfl
theorem part_int {c : Cmd} {i : Nat} {v : Int} (h : (cmdA c)[i]? = some (.int .i64 v)) (w : World) : (part 3 (cmdA c) i).run Try.prog w = .ok (.int .i64 v) w := by
  have hag : (isAgg 3).run Try.prog w = .ok false w := by unfold isAgg; rw [Sem.run_bind, run_underlying Try.underlying3 w]; simp
  unfold part
  rw [Sem.run_bind, hag]
  simp [h]
theorem part_id {c : Cmd} (hc : c.id.length = 8) (w : World) : (part 22 (cmdA c) 3).run Try.prog w = .ok (.agg (bysA c.id)) w := by
  have hag : (isAgg 22).run Try.prog w = .ok true w := by unfold isAgg; rw [Sem.run_bind, run_underlying Try.underlying22 w]; simp
  unfold part
  rw [Sem.run_bind, hag]
  simp [cmdA_ext c hc]
theorem equalIn_cmd (d : Nat) {a b : Cmd} (ha : a.id.length = 8) (hb : b.id.length = 8) (w : World) :
    (Op.equalIn (d + 4) 24 (.agg (cmdA a)) (.agg (cmdA b))).run Try.prog w = .ok (beqC a b) w := by
  rw [run_equalIn_struct w (d + 3) 24 (cmdA a) (cmdA b) (by kernel_rfl) (by kernel_rfl)]
  obtain ⟨f0, f1, f2, f3, hf, n0, n1, n2, n3, t0, t1, t2, t3, o0, o1, o2, o3⟩ : ∃ f0 f1 f2 f3 : Field, (Try.prog.fieldsOf 24).toList = [f0, f1, f2, f3] ∧ f0.name ≠ "_" ∧ f1.name ≠ "_" ∧ f2.name ≠ "_" ∧ f3.name ≠ "_" ∧ f0.type = 3 ∧ f1.type = 3 ∧ f2.type = 3 ∧ f3.type = 22 ∧ f0.offset = 0 ∧ f1.offset = 1 ∧ f2.offset = 2 ∧ f3.offset = 3 :=
    ⟨_, _, _, _, rfl, by decide +kernel, by decide +kernel, by decide +kernel, by decide +kernel, by kernel_rfl, by kernel_rfl, by kernel_rfl, by kernel_rfl, by kernel_rfl, by kernel_rfl, by kernel_rfl, by kernel_rfl⟩
  rw [hf]
  simp only [Op.eqFields, n0, n1, n2, n3, t0, t1, t2, t3, o0, o1, o2, o3, ne_eq, not_false_eq_true, if_true, Sem.run_bind, part_int (cmdA_0 a), part_int (cmdA_0 b), Result.andThen_ok]
  rw [run_equalIn_int w (d + 2) 3 .i64 .i64 a.k b.k Try.underlying3]
  unfold beqC
  cases h0 : (a.k == b.k)
  · simp
  · simp only [Result.andThen_ok, Bool.not_true, Bool.false_eq_true, if_false, Bool.true_and, Sem.run_bind, part_int (cmdA_1 a), part_int (cmdA_1 b)]
    rw [run_equalIn_int w (d + 2) 3 .i64 .i64 a.n b.n Try.underlying3]
    cases h1 : (a.n == b.n)
    · simp
    · simp only [Result.andThen_ok, Bool.not_true, Bool.false_eq_true, if_false, Bool.true_and, Sem.run_bind, part_int (cmdA_2 a), part_int (cmdA_2 b)]
      rw [run_equalIn_int w (d + 2) 3 .i64 .i64 a.d b.d Try.underlying3]
      cases h2 : (a.d == b.d)
      · simp
      · simp only [Result.andThen_ok, Bool.not_true, Bool.false_eq_true, if_false, Bool.true_and, Sem.run_bind, part_id ha, part_id hb]
        rw [equalIn_bytes Try.underlying22 d ha hb]
        cases decide (a.id = b.id) <;> simp
@[go_sem] theorem run_eqCmd (x y : Operand) (a b : Cmd) (ha : a.id.length = 8) (hb : b.id.length = 8) (w : World) :
    (eqV .eql 24 x y (.agg (cmdA a)) (.agg (cmdA b))).run Try.prog w = .ok (.bool (beqC a b)) w := by
  unfold eqV
  rw [Sem.run_bind, run_eqGuard_agg w .eql 24 x y _ _ (by kernel_rfl), Result.andThen_ok, run_eql_struct, show (10000 : Nat) = 9996 + 4 from rfl, equalIn_cmd 9996 ha hb]
  rfl
@[go_sem] theorem run_neCmd (x y : Operand) (a b : Cmd) (ha : a.id.length = 8) (hb : b.id.length = 8) (w : World) :
    (eqV .neq 24 x y (.agg (cmdA a)) (.agg (cmdA b))).run Try.prog w = .ok (.bool (!beqC a b)) w := by
  unfold eqV
  rw [Sem.run_bind, run_eqGuard_agg w .neq 24 x y _ _ (by kernel_rfl), Result.andThen_ok, run_neq_struct, show (10000 : Nat) = 9996 + 4 from rfl, equalIn_cmd 9996 ha hb]
  rfl
theorem results_rcmd {fn : Func} {p p' : Tmp} (h : fn.results = #[.cell p 24, .tmp p']) (c : Cmd) (hc : c.id.length = 8) (x : Value) (w : World) (tmps : Array Value) (n : Nat) (hp : tmps.getD p undef = .pointer (some ⟨n, 0, none⟩)) (h1 : w.isRow n = true) (h2 : w.rowOf n = cmdA c) (hx : tmps.getD p' undef = x) :
    (results fn tmps).run Try.prog w = .ok (.tuple #[.agg (cmdA c), x]) w :=
  results_row_slot w h Try.underlying24 rfl (by rw [cmdA_size hc]; kernel_rfl) tmps n hp h1 h2 hx
theorem results_rcmd1 {fn : Func} {p : Tmp} (h : fn.results = #[.cell p 24]) (c : Cmd) (hc : c.id.length = 8) (w : World) (tmps : Array Value) (n : Nat) (hp : tmps.getD p undef = .pointer (some ⟨n, 0, none⟩)) (h1 : w.isRow n = true) (h2 : w.rowOf n = cmdA c) : (results fn tmps).run Try.prog w = .ok (.agg (cmdA c)) w :=
  results_row w h Try.underlying24 rfl (by rw [cmdA_size hc]; kernel_rfl) tmps n hp h1 h2
theorem results_cmd1 {fn : Func} {p : Tmp} (h : fn.results = #[.cell p 32]) (c : Cmd) (hc : c.id.length = 8) (w : World) (tmps : Array Value) (n : Nat) (hp : tmps.getD p undef = .pointer (some ⟨n, 0, none⟩)) (h1 : w.isRow n = true) (h2 : w.rowOf n = cmdA c) : (results fn tmps).run Try.prog w = .ok (.agg (cmdA c)) w :=
  results_row w h Try.underlying32 rfl (by rw [cmdA_size hc]; kernel_rfl) tmps n hp h1 h2
theorem results_b16a {fn : Func} {p : Tmp} (h : fn.results = #[.cell p 26]) (l : List Nat) (hl : l.length = 16) (w : World) (tmps : Array Value) (n : Nat) (hp : tmps.getD p undef = .pointer (some ⟨n, 0, none⟩)) (h1 : w.isRow n = true) (h2 : w.rowOf n = bysA l) : (results fn tmps).run Try.prog w = .ok (.agg (bysA l)) w :=
  results_row w h Try.underlying26 rfl (by rw [bysA_size, hl]; kernel_rfl) tmps n hp h1 h2
end Go.Proofs.Ytdeeecdpgmibnaa

/-
  From a walk to the given row: commands, and 16 bytes, that came in.
-/
namespace Go.Proofs.Ytdeeecdpgmibnaa
open Go.ChangeShapes Go.WideShapes Go.ChangeAt Go.RowKit Go.Sh Go.Cm

theorem open_b16 {H : Type} {enc : TypeId × Value → H} {w : World} {r : Reach} {b0 base : Nat} {spare : Nat → Bool} {held : Bool} {v : Value} {d : DataW H} {p : List MemPlace}
    (hv : Value.okWide Try.prog w r b0 26 v) (h : DataW.Trod enc Try.prog w base spare held 26 v d p) :
    ∃ s : List Nat, v = .agg (bysA s) ∧ s.length = 16 ∧ ∀ i, s.getD i 0 < 256 := open_arr Try.underlying26 (by kernel_rfl) hv h
set_option maxRecDepth 100000 in
theorem cmd_of_trod {H : Type} {enc : TypeId × Value → H} {w : World} {base : Nat} {spare : Nat → Bool} {held : Bool} {fuel : Nat} {cs : List Value} {x : DataW H × List MemPlace}
    (hf : DataW.trod enc Try.prog w base spare held fuel 24 cs = some x) : ∃ c : Cmd, cs = (cmdA c).toList ∧ c.id.length = 8 ∧ ∀ i, c.id.getD i 0 < 256 := by
  have hc3 : Try.prog.cellsOf 3 = 1 := by kernel_rfl
  have hc8 : Try.prog.cellsOf 22 = 8 := by kernel_rfl
  have hca : Try.prog.cellsOf 24 = 11 := by kernel_rfl
  obtain ⟨xs, n, _, _, hl, hxl, hx⟩ := DataW.trod_struct Try.underlying24 hf
  rw [hca] at hl
  have hxl4 : xs.length = 4 := by rw [hxl]; rfl
  have h0 : DataW.trod enc Try.prog w base spare held n 3 ((cs.drop 0).take (Try.prog.cellsOf 3)) = xs[0]? := hx 0 _ rfl
  have h1 : DataW.trod enc Try.prog w base spare held n 3 ((cs.drop 1).take (Try.prog.cellsOf 3)) = xs[1]? := hx 1 _ rfl
  have h2 : DataW.trod enc Try.prog w base spare held n 3 ((cs.drop 2).take (Try.prog.cellsOf 3)) = xs[2]? := hx 2 _ rfl
  have h3 : DataW.trod enc Try.prog w base spare held n 22 ((cs.drop 3).take (Try.prog.cellsOf 22)) = xs[3]? := hx 3 _ rfl
  rw [hc3] at h0 h1 h2
  rw [hc8] at h3
  rw [List.getElem?_eq_getElem (by omega)] at h0 h1 h2 h3
  obtain ⟨a0, e0, _, _⟩ := DataW.trod_int Try.underlying3 h0
  obtain ⟨a1, e1, _, _⟩ := DataW.trod_int Try.underlying3 h1
  obtain ⟨a2, e2, _, _⟩ := DataW.trod_int Try.underlying3 h2
  obtain ⟨id, e3, hid, hidb⟩ := arr_of_trod Try.underlying22 hc8 h3
  refine ⟨⟨a0, a1, a2, id⟩, ?_, hid, hidb⟩
  show cs = ([.int .i64 a0, .int .i64 a1, .int .i64 a2] : List Value) ++ bys id
  rw [← e3]
  match cs, hl, e0, e1, e2 with
  | c0 :: c1 :: c2 :: r, hl, e0, e1, e2 =>
    simp at e0 e1 e2 hl
    rw [e0, e1, e2]
    simp [List.take_of_length_le (show r.length ≤ 8 by omega)]
theorem open_cmd {H : Type} {enc : TypeId × Value → H} {w : World} {r : Reach} {b0 base : Nat} {spare : Nat → Bool} {held : Bool} {v : Value} {d : DataW H} {p : List MemPlace}
    (hv : Value.okWide Try.prog w r b0 24 v) (h : DataW.Trod enc Try.prog w base spare held 24 v d p) : ∃ c : Cmd, v = .agg (cmdA c) ∧ c.id.length = 8 ∧ ∀ i, c.id.getD i 0 < 256 := by
  obtain ⟨cs, rfl, _⟩ := okWide_struct Try.underlying24 hv
  obtain ⟨fuel, hf⟩ := h
  obtain ⟨c, ha, hok⟩ := cmd_of_trod hf
  refine ⟨c, ?_, hok⟩
  have : cs.toList = (cmdA c).toList := by simpa [Value.cells] using ha
  rw [Array.toList_inj.1 this]
end Go.Proofs.Ytdeeecdpgmibnaa

/-
  Package command: which commands may be.
-/
namespace Go.Proofs.Ytdeeecdpgmibnaa
open Go.RowKit Go.Hold Go.Sh Go.Cm

theorem below_c (n lim : Int) (w : World) :
    Calls Try.prog 22 #[.int .i64 n, .int .i64 lim] w fun e w' => e = .returned (.bool (decide (0 ≤ n ∧ n < lim))) ∧ w' = w := by
  by_cases h0 : 0 ≤ n
  · by_cases h1 : n < lim
    · rw [decide_eq_true ⟨h0, h1⟩]
      go_enter Try.func22, Try.ntmps22
      go_wp2_with fail
      go_ret
      exact ⟨rfl, rfl⟩
    · rw [decide_eq_false (fun e => h1 e.2)]
      go_enter Try.func22, Try.ntmps22
      go_wp2_with fail
      go_ret
      exact ⟨rfl, rfl⟩
  · rw [decide_eq_false (fun e => h0 e.1)]
    go_enter Try.func22, Try.ntmps22
    go_wp2_with fail
    go_ret
    exact ⟨rfl, rfl⟩

set_option maxHeartbeats 1000000 in
set_option maxRecDepth 100000 in
theorem may_c (c : Cmd) (hid : c.id.length = 8) (w : World) :
    Calls Try.prog 11 #[.agg (cmdA c)] w fun e w' => e = .returned (.bool c.may) ∧ Below w.heap.size w w' := by
  have hcs := cmdA_size hid
  have hz8 : (zs 8).length = 8 := rfl
  have BA := Lib.hid (below_alloc (Below.refl w.heap.size w) (.cells (cmdA c) 32))
  have K := Lib.hid (fun (lim : Int) (n : Int) (W : World) => below_c n lim W)
  by_cases k1 : c.k = 1
  · have hm : c.may = (decide (0 ≤ c.n ∧ c.n < 16) && decide (0 ≤ c.d ∧ c.d < 65) && decide (c.id = zs 8)) := by unfold Cmd.may; rw [if_pos k1]
    have K1 := Lib.hid (K.out 16 c.n)
    have K2 := Lib.hid (K.out 65 c.d)
    rw [hm]
    generalize decide (0 ≤ c.n ∧ c.n < 16) = b1 at *
    generalize decide (0 ≤ c.d ∧ c.d < 65) = b2 at *
    clear hm K
    go_enter Try.func11, Try.ntmps11
    go_wp2_with fail
    refine (K1.out _).mono ?_
    rintro e w' ⟨rfl, rfl⟩
    cases b1
    · go_wp2_with fail
      go_ret
      exact ⟨rfl, BA.out⟩
    go_wp2_with fail
    refine (K2.out _).mono ?_
    rintro e w' ⟨rfl, rfl⟩
    cases b2
    · go_wp2_with fail
      go_ret
      exact ⟨rfl, BA.out⟩
    go_wp2_with fail
    go_ret
    exact ⟨rfl, BA.out⟩
  by_cases k2 : c.k = 2
  · have hm : c.may = (decide (0 ≤ c.n ∧ c.n < 8) && decide (c.d = 0) && decide (c.id = zs 8)) := by unfold Cmd.may; rw [if_neg k1, if_pos k2]
    have K1 := Lib.hid (K.out 8 c.n)
    rw [hm]
    generalize decide (0 ≤ c.n ∧ c.n < 8) = b1 at *
    clear hm K
    by_cases hd : c.d = 0
    · rw [decide_eq_true hd]
      go_enter Try.func11, Try.ntmps11
      go_wp2_with fail
      refine (K1.out _).mono ?_
      rintro e w' ⟨rfl, rfl⟩
      cases b1
      · go_wp2_with fail
        go_ret
        exact ⟨rfl, BA.out⟩
      go_wp2_with fail
      go_ret
      exact ⟨rfl, BA.out⟩
    rw [decide_eq_false hd]
    go_enter Try.func11, Try.ntmps11
    go_wp2_with fail
    refine (K1.out _).mono ?_
    rintro e w' ⟨rfl, rfl⟩
    cases b1
    · go_wp2_with fail
      go_ret
      exact ⟨rfl, BA.out⟩
    go_wp2_with fail
    go_ret
    exact ⟨rfl, BA.out⟩
  by_cases k3 : c.k = 3
  · have hm : c.may = (decide (0 ≤ c.n ∧ c.n < 8) && decide (c.d = 0)) := by unfold Cmd.may; rw [if_neg k1, if_neg k2, if_pos k3]
    have K1 := Lib.hid (K.out 8 c.n)
    rw [hm]
    generalize decide (0 ≤ c.n ∧ c.n < 8) = b1 at *
    clear hm K
    by_cases hd : c.d = 0
    · rw [decide_eq_true hd]
      go_enter Try.func11, Try.ntmps11
      go_wp2_with fail
      refine (K1.out _).mono ?_
      rintro e w' ⟨rfl, rfl⟩
      cases b1
      · go_wp2_with fail
        go_ret
        exact ⟨rfl, BA.out⟩
      go_wp2_with fail
      go_ret
      exact ⟨rfl, BA.out⟩
    rw [decide_eq_false hd]
    have hd2 : (c.d == 0) = false := by simpa using hd
    go_enter Try.func11, Try.ntmps11
    go_wp2_with fail
    refine (K1.out _).mono ?_
    rintro e w' ⟨rfl, rfl⟩
    cases b1
    · go_wp2_with fail
      go_ret
      exact ⟨rfl, BA.out⟩
    go_wp2_with fail
    go_ret
    exact ⟨rfl, BA.out⟩
  by_cases k4 : c.k = 4
  · have hm : c.may = (decide (c.n = 0) && decide (c.d = 0) && decide (c.id = zs 8)) := by unfold Cmd.may; rw [if_neg k1, if_neg k2, if_neg k3, if_pos k4]
    rw [hm]
    clear hm K
    by_cases hn : c.n = 0
    · rw [decide_eq_true hn]
      by_cases hd : c.d = 0
      · rw [decide_eq_true hd]
        go_enter Try.func11, Try.ntmps11
        go_wp2_with fail
        go_ret
        exact ⟨rfl, BA.out⟩
      rw [decide_eq_false hd]
      go_enter Try.func11, Try.ntmps11
      go_wp2_with fail
      go_ret
      exact ⟨rfl, BA.out⟩
    rw [decide_eq_false hn]
    go_enter Try.func11, Try.ntmps11
    go_wp2_with fail
    go_ret
    exact ⟨rfl, BA.out⟩
  have hm : c.may = false := by unfold Cmd.may; rw [if_neg k1, if_neg k2, if_neg k3, if_neg k4]
  rw [hm]
  clear hm K
  go_enter Try.func11, Try.ntmps11
  go_wp2_with fail
  go_ret
  exact ⟨rfl, BA.out⟩
end Go.Proofs.Ytdeeecdpgmibnaa

/-
  A world in which one row was set, and memory was laid behind it.
-/
namespace Go.Proofs.Ytdeeecdpgmibnaa
open Go.RowKit Go.Hold Go.Sh

/-- World w', of w: row g holds c, and some blocks are new. -/
def Sets (w : World) (g : Nat) (c : Array Value) (w' : World) : Prop := ∃ os d, w' = (w.setRow g c).plus os d
theorem Sets.refl {w : World} {g : Nat} {c : Array Value} (h : RowAt w g c) : Sets w g c w := ⟨#[], w.drawn, by rw [setRow_self h]; exact plus_none' w⟩
theorem Sets.size {w w' : World} {g : Nat} {c : Array Value} (s : Sets w g c w') : w.heap.size ≤ w'.heap.size := by
  obtain ⟨os, d, rfl⟩ := s
  rw [World.size_plus, size_setRow]; omega
theorem Sets.row {w w' : World} {g : Nat} {c0 c : Array Value} (h : RowAt w g c0) (s : Sets w g c w') : RowAt w' g c := by
  obtain ⟨os, d, rfl⟩ := s
  exact (h.set c).grow (below_more (Below.refl _ _) os d)
theorem Sets.old {w w' : World} {g n : Nat} {c c1 : Array Value} (s : Sets w g c w') (h : RowAt w n c1) (hn : n ≠ g) : RowAt w' n c1 := by
  obtain ⟨os, d, rfl⟩ := s
  exact (h.other hn c).grow (below_more (Below.refl _ _) os d)
theorem Sets.bytes {w w' : World} {g b o : Nat} {c : Array Value} {l : List Nat} (s : Sets w g c w') (h : BytesAt w b o l) (hn : b ≠ g) : BytesAt w' b o l := by
  obtain ⟨os, d, rfl⟩ := s
  exact (h.other hn c).grow (below_more (Below.refl _ _) os d)
theorem Sets.grow {w w' w2 : World} {g : Nat} {c : Array Value} (s : Sets w g c w') (hb : Below w'.heap.size w' w2) : Sets w g c w2 := by
  obtain ⟨os, d, rfl⟩ := s
  obtain ⟨o2, d2, rfl⟩ := below_plus hb
  exact ⟨os ++ o2, d2, by rw [World.plus_plus]⟩
theorem Sets.cell {w w' : World} {g i : Nat} {c0 c : Array Value} {v : Value} (h : RowAt w g c0) (s : Sets w g c w') : Sets w g (c.setIfInBounds i v) (w'.setCell ⟨g, i, none⟩ v) := by
  obtain ⟨os, d, rfl⟩ := s
  exact ⟨os, d, by rw [World.setCell_plus _ _ _ _ _ _ (by rw [size_setRow]; exact h.2.2), setCell_setRow h]⟩
theorem Sets.set {w w' : World} {g : Nat} {c0 c c' : Array Value} (h : RowAt w g c0) (s : Sets w g c w') : Sets w g c' (w'.setRow g c') := by
  obtain ⟨os, d, rfl⟩ := s
  exact ⟨os, d, setRow_plus_all h⟩
theorem Sets.trans {w w' w2 : World} {g : Nat} {c0 c c' : Array Value} (h : RowAt w g c0) (s : Sets w g c w') (s2 : Sets w' g c' w2) : Sets w g c' w2 := by
  obtain ⟨o2, d2, rfl⟩ := s2
  obtain ⟨os, d, rfl⟩ := s
  exact ⟨os ++ o2, d2, by rw [setRow_plus_all h, World.plus_plus]⟩
theorem Sets.below {a w w' : World} {B g : Nat} {c : Array Value} (s : Sets w g c w') (hb : Below B a w) (hB : B ≤ g) (hBw : B ≤ w.heap.size) : Below B a w' := by
  obtain ⟨os, d, rfl⟩ := s
  refine below_plus_of _ _ _ ⟨hb.os, hb.tape, hb.output, by rw [size_setRow]; exact hb.size, fun k hk => ?_⟩ (by rw [size_setRow]; exact hBw)
  rw [setRow_other w g k c (by omega)]; exact hb.block k hk
end Go.Proofs.Ytdeeecdpgmibnaa

/-
  Worlds in which one row, and one block of bytes of one's own, may have changed, and memory was laid behind.
-/
namespace Go.Proofs.Ytdeeecdpgmibnaa
open Go.RowKit Go.Hold Go.Sh

/-- World w', of w: but row g and block ob all is as it was; some blocks are new. -/
structure Moves (w : World) (g : Nat) (ob : Option Nat) (w' : World) : Prop where
  os : w'.os = w.os
  tape : w'.tape = w.tape
  output : w'.output = w.output
  size : w.heap.size ≤ w'.heap.size
  block : ∀ k, k < w.heap.size → k ≠ g → some k ≠ ob → w'.heap[k]? = w.heap[k]?
/-- A block that is the old one, or new. -/
def NewB (w : World) (ob ob' : Option Nat) : Prop := ∀ k, ob' = some k → ob = some k ∨ w.heap.size ≤ k
theorem NewB.refl (w : World) (ob : Option Nat) : NewB w ob ob := fun _ h => .inl h
theorem NewB.trans {w w1 : World} {a b c : Option Nat} (h : NewB w a b) (h1 : NewB w1 b c) (hs : w.heap.size ≤ w1.heap.size) : NewB w a c := fun k hk => by
  rcases h1 k hk with h2 | h2
  · exact h k h2
  · exact .inr (Nat.le_trans hs h2)
theorem NewB.ne {w : World} {a b : Option Nat} {k : Nat} (h : NewB w a b) (ha : a ≠ some k) (hk : k < w.heap.size) : b ≠ some k := fun e => by
  rcases h k e with h1 | h1
  · exact ha h1
  · omega
theorem Moves.of {w w' : World} (g : Nat) (ob : Option Nat) (h : Below w.heap.size w w') : Moves w g ob w' := ⟨h.os, h.tape, h.output, h.size, fun k hk _ _ => h.block k hk⟩
theorem Moves.refl (w : World) (g : Nat) (ob : Option Nat) : Moves w g ob w := ⟨rfl, rfl, rfl, Nat.le_refl _, fun _ _ _ _ => rfl⟩
theorem Moves.trans {w w1 w2 : World} {g : Nat} {a b : Option Nat} (h : Moves w g a w1) (h1 : Moves w1 g b w2) (hn : NewB w a b) : Moves w g a w2 :=
  ⟨h1.os.trans h.os, h1.tape.trans h.tape, h1.output.trans h.output, Nat.le_trans h.size h1.size, fun k hk hg ha => by
    rw [h1.block k (Nat.lt_of_lt_of_le hk h.size) hg fun e => hn.ne (fun e' => ha e'.symm) hk e.symm, h.block k hk hg ha]⟩
theorem Moves.grow {w w1 w2 : World} {g : Nat} {a : Option Nat} (h : Moves w g a w1) (h1 : Below w1.heap.size w1 w2) : Moves w g a w2 := h.trans (.of g a h1) (.refl w a)
theorem Moves.setCell {w w1 : World} {g : Nat} {a : Option Nat} (h : Moves w g a w1) (i : Nat) (v : Value) : Moves w g a (w1.setCell ⟨g, i, none⟩ v) :=
  ⟨h.os, h.tape, h.output, by simpa [World.setCell] using h.size, fun k hk hg ha => by
    simp only [World.setCell, Array.getElem?_modify]
    rw [if_neg (fun e => hg e.symm), h.block k hk hg ha]⟩
theorem Moves.setRow {w w1 : World} {g : Nat} {a : Option Nat} (h : Moves w g a w1) (c : Array Value) : Moves w g a (w1.setRow g c) :=
  ⟨h.os, h.tape, h.output, by simpa [World.setRow] using h.size, fun k hk hg ha => by
    rw [setRow_other w1 g k c hg, h.block k hk hg ha]⟩
theorem Moves.grownBy {w w1 w2 : World} {g : Nat} {a : Option Nat} (h : Moves w g a w1) (h1 : w1.grownBy w2 a) : Moves w g a w2 :=
  ⟨h1.os.trans h.os, h1.tape.trans h.tape, h1.output.trans h.output, Nat.le_trans h.size h1.size, fun k hk hg ha => by
    rw [h1.block k (Nat.lt_of_lt_of_le hk h.size) (fun e => ha (by rw [← e])), h.block k hk hg ha]⟩
theorem Moves.below {B : Nat} {w0 w w' : World} {g : Nat} {a : Option Nat} (h : Moves w g a w') (hb : Below B w0 w) (hB : B ≤ w.heap.size) (hg : B ≤ g) (ha : ∀ k, a = some k → B ≤ k) : Below B w0 w' :=
  ⟨h.os.trans hb.os, h.tape.trans hb.tape, h.output.trans hb.output, Nat.le_trans hb.size h.size, fun k hk => by
    rw [h.block k (by omega) (by omega) (fun e => by have := ha k e.symm; omega), hb.block k hk]⟩
theorem RowAt.moves {w w' : World} {g n : Nat} {a : Option Nat} {c : Array Value} (h : RowAt w n c) (m : Moves w g a w') (hg : n ≠ g) (ha : a ≠ some n) : RowAt w' n c := by
  obtain ⟨t, ht⟩ := h.block
  exact RowAt.of (t := t) (by rw [m.block n h.2.2 hg (fun e => ha e.symm)]; exact ht)
theorem BytesAt.moves {w w' : World} {g b o : Nat} {a : Option Nat} {l : List Nat} (h : BytesAt w b o l) (m : Moves w g a w') (hg : b ≠ g) (ha : a ≠ some b) : BytesAt w' b o l :=
  ⟨Nat.lt_of_lt_of_le h.1 m.size, fun i hi => by rw [World.cell?_of_block (w := w) (m.block b h.1 hg (fun e => ha e.symm))]; exact h.2 i hi⟩
/-- Bytes that lie in block b, if any. -/
def BsIn (w : World) (b : Nat) (p : Option Addr) (l : List Nat) : Prop := l = [] ∨ ∃ o, p = some ⟨b, o, none⟩ ∧ BytesAt w b o l
theorem BsIn.any {w : World} {b : Nat} {p : Option Addr} {l : List Nat} (h : BsIn w b p l) : Bs0 w p l := by
  rcases h with h | ⟨o, e, h⟩
  · exact .inl h
  · exact .inr ⟨b, o, e, h⟩
theorem BsIn.moves {w w' : World} {g b : Nat} {a : Option Nat} {p : Option Addr} {l : List Nat} (h : BsIn w b p l) (m : Moves w g a w') (hg : b ≠ g) (ha : a ≠ some b) : BsIn w' b p l := by
  rcases h with h | ⟨o, e, h⟩
  · exact .inl h
  · exact .inr ⟨o, e, h.moves m hg ha⟩
theorem Bs0.moves {w w' : World} {g : Nat} {a : Option Nat} {p : Option Addr} {l : List Nat} (h : Bs0 w p l) (m : Moves w g a w') (hne : ∀ b o, p = Option.some ⟨b, o, none⟩ → b ≠ g ∧ a ≠ Option.some b) : Bs0 w' p l := by
  rcases h with h | ⟨b, o, e, h⟩
  · exact .inl h
  · exact .inr ⟨b, o, e, h.moves m (hne b o e).1 (hne b o e).2⟩
theorem OwnB.moves {w w' : World} {B g : Nat} {a : Option Nat} {v : Value} {l : List Nat} (h : OwnB w B v l) (m : Moves w g a w') (hg : v.ownBlock ≠ some g) (ha : ∀ k, v.ownBlock = some k → a ≠ some k) : OwnB w' B v l := by
  refine ⟨h.1, ?_⟩
  rcases h.2 with hn | ⟨g0, cap, cur, rfl, hb, hx, rest⟩
  · exact .inl hn
  · exact .inr ⟨g0, cap, cur, rfl, hb, by
      rw [m.block g0 (Array.getElem?_eq_some_iff.1 hx).1 (fun e => hg (by rw [e]; rfl)) (fun e => ha g0 rfl e.symm)]; exact hx, rest⟩
end Go.Proofs.Ytdeeecdpgmibnaa

/-
  Package octet: the first error, of writers and of readers.
-/
namespace Go.Proofs.Ytdeeecdpgmibnaa
open Go.RowKit Go.Hold Go.Sh Go.Oc

/-- A writer's cells. -/
def wrow (mk : Bool) (er room : Int) (v : Value) : Array Value := #[.bool mk, .int .i64 er, .int .i64 room, v]
/-- A reader's cells. -/
def rrow (mk : Bool) (er : Int) (v : Value) : Array Value := #[.bool mk, .int .i64 er, v]

theorem stays_c (g : Nat) (mk : Bool) (er : Int) (w : World) (h0 : w.cell? ⟨g, 0, none⟩ = some (.bool mk)) (h1 : w.cell? ⟨g, 1, none⟩ = some (.int .i64 er)) :
    Calls Try.prog 35 #[.pointer (some ⟨g, 0, none⟩)] w fun e w' => e = .returned (.int .i64 (if mk then er else 1)) ∧ w' = w := by
  cases mk
  · go_enter Try.func35, Try.ntmps35
    go_wp2_with fail
    go_ret
    exact ⟨rfl, rfl⟩
  · go_enter Try.func35, Try.ntmps35
    go_wp2_with fail
    go_ret
    exact ⟨rfl, rfl⟩
theorem fail_c (g : Nat) (er e0 : Int) (w : World) (h1 : w.cell? ⟨g, 1, none⟩ = some (.int .i64 e0)) (hf : w.frozen? ⟨g, 1, none⟩ = false) :
    Calls Try.prog 28 #[.pointer (some ⟨g, 0, none⟩), .int .i64 er] w fun e w' => e = .returned (.int .i64 er) ∧ w' = w.setCell ⟨g, 1, none⟩ (.int .i64 er) := by
  go_enter Try.func28, Try.ntmps28
  go_wp2_with fail
  go_ret
  exact ⟨rfl, rfl⟩
theorem wstopped_c (g : Nat) (mk : Bool) (er : Int) (w : World) (h0 : w.cell? ⟨g, 0, none⟩ = some (.bool mk)) (h1 : w.cell? ⟨g, 1, none⟩ = some (.int .i64 er)) :
    Calls Try.prog 27 #[.pointer (some ⟨g, 0, none⟩)] w fun e w' => e = .returned (.int .i64 (if mk then er else 1)) ∧ w' = w := by
  have K := Lib.hid (stays_c g mk er w h0 h1)
  generalize (if mk = true then er else 1) = x at *
  go_enter Try.func27, Try.ntmps27
  go_wp2_with fail
  refine K.out.mono ?_
  rintro e w' ⟨rfl, rfl⟩
  go_wp2_with fail
  go_ret
  exact ⟨rfl, rfl⟩
theorem wstopped_nil (w : World) : Calls Try.prog 27 #[.pointer none] w fun e w' => e = .returned (.int .i64 1) ∧ w' = w := by
  go_enter Try.func27, Try.ntmps27
  go_wp2_with fail
  go_ret
  exact ⟨rfl, rfl⟩
theorem rstopped_c (g : Nat) (mk : Bool) (er : Int) (w : World) (h0 : w.cell? ⟨g, 0, none⟩ = some (.bool mk)) (h1 : w.cell? ⟨g, 1, none⟩ = some (.int .i64 er)) :
    Calls Try.prog 32 #[.pointer (some ⟨g, 0, none⟩)] w fun e w' => e = .returned (.int .i64 (if mk then er else 1)) ∧ w' = w := by
  have K := Lib.hid (stays_c g mk er w h0 h1)
  generalize (if mk = true then er else 1) = x at *
  go_enter Try.func32, Try.ntmps32
  go_wp2_with fail
  refine K.out.mono ?_
  rintro e w' ⟨rfl, rfl⟩
  go_wp2_with fail
  go_ret
  exact ⟨rfl, rfl⟩
theorem rstopped_nil (w : World) : Calls Try.prog 32 #[.pointer none] w fun e w' => e = .returned (.int .i64 1) ∧ w' = w := by
  go_enter Try.func32, Try.ntmps32
  go_wp2_with fail
  go_ret
  exact ⟨rfl, rfl⟩
end Go.Proofs.Ytdeeecdpgmibnaa

/-
  Package octet: a number's bytes, and the number of some bytes; a copy of bytes.
-/
namespace Go.Proofs.Ytdeeecdpgmibnaa
open Go.RowKit Go.Hold Go.Sh Go.Oc

/-- The bytes of a number that are laid so far. -/
def digP (n size i : Nat) : List Nat := (digN n size).take i ++ zs (size - i)
theorem digP_zero (n size : Nat) : digP n size 0 = zs size := by simp [digP]
theorem digP_all (n size : Nat) : digP n size size = digN n size := by
  unfold digP
  rw [List.take_of_length_le (by rw [dig_length]; exact Nat.le_refl _), Nat.sub_self]; simp [zs]
theorem digP_length (n size i : Nat) (h : i ≤ size) : (digP n size i).length = size := by
  unfold digP; rw [List.length_append, List.length_take, dig_length, zs_length]; omega
theorem digP_set (n size i : Nat) (h : i < size) : (digP n size i).set i (dgt n size i) = digP n size (i + 1) := by
  unfold digP
  have hx : i < (digN n size).length := by rw [dig_length]; exact h
  have e : zs (size - i) = 0 :: zs (size - (i + 1)) := by
    obtain ⟨k, hk⟩ : ∃ k, size - i = k + 1 := ⟨size - i - 1, by omega⟩
    rw [hk, show size - (i + 1) = k by omega]; rfl
  have hlen : ((digN n size).take i).length = i := by rw [List.length_take]; omega
  rw [List.set_append, if_neg (by omega), hlen, Nat.sub_self, e, List.set_cons_zero, List.take_add_one, List.getElem?_eq_getElem hx, List.append_assoc]
  congr 2
  simp [digN]
set_option maxHeartbeats 600000 in
set_option maxRecDepth 100000 in
theorem split_c (n s : Nat) (h0 : 1 ≤ s) (h8 : s ≤ 8) (w : World) :
    Calls Try.prog 30 #[.int .u64 (n : Int), .int .i64 (s : Int)] w fun e w' => ∃ g, e = .returned (.slice (some ⟨g, 0, none⟩) s s) ∧ RowAt w' g (bysA (digN n s)) ∧ w.heap.size ≤ g ∧ Below w.heap.size w w' := by
  have hmk := run_mkS w s (by omega)
  have H8 := Lib.hid h8
  have H0 := Lib.hid h0
  obtain ⟨s1, es1⟩ : ∃ y, y = s - 1 := ⟨_, rfl⟩
  have k1 : IntKind.i64.wrap ((s : Int) - 1) = (s1 : Int) := by rw [IntWalk.i64_in _ (by omega)]; omega
  have Es1 := Lib.hid es1
  clear h8 h0 es1
  go_enter Try.func30, Try.ntmps30
  go_wp2_with fail
  generalize hW : World.alloc _ _ = W0
  have R0 := Lib.hid (show RowAt W0 w.heap.size (bysA (digP n s 0)) by rw [← hW, digP_zero]; exact RowAt.of (block_new w _))
  have B0 := Lib.hid (show Below w.heap.size w W0 by rw [← hW]; exact below_alloc (Below.refl _ _) _)
  clear hW hmk
  have hgl : w.heap.size ≤ w.heap.size := Nat.le_refl _
  generalize eg : w.heap.size = g at R0 hgl ⊢
  have Eg := Lib.hid eg
  clear eg
  go_loopw [11] (fun i wr => ∃ j : Nat, j ≤ s ∧ i = .int .i64 j ∧ Sets W0 g (bysA (digP n s j)) wr) (fun i _ => s - (intOf i).toNat)
  case atStart => exact ⟨0, Nat.zero_le _, rfl, Sets.refl R0.out⟩
  case round =>
    obtain ⟨j, hj, rfl, hset⟩ := hrel
    by_cases hj8 : j < s
    · have hj0 : (0 : Int) ≤ (j : Int) := by omega
      have hj1 : (j : Int) < (s : Int) := by omega
      have hjb : (j : Int) < 8 := by have := H8.out; omega
      have hrow := hset.row R0.out
      have hc := hrow.cellAt j (bysA_get _ j (by rw [digP_length _ _ _ hj]; exact hj8))
      have hf := hrow.frozenAt j
      obtain ⟨t, et⟩ : ∃ y, y = s - 1 - j := ⟨_, rfl⟩
      have hw0 : IntKind.i64.wrap ((s1 : Int) - (j : Int)) = (t : Int) := by rw [IntWalk.i64_in _ (by have := H8.out; have := Es1.out; omega)]; have := Es1.out; omega
      obtain ⟨y, ey⟩ : ∃ y, y = 8 * t := ⟨_, rfl⟩
      have hw1 : IntKind.i64.wrap (8 * (t : Int)) = (y : Int) := by rw [IntWalk.i64_in _ (by have := H8.out; omega)]; omega
      have hy0 : (0 : Int) ≤ (y : Int) := by omega
      have hy1 : (y : Int) ≤ 64 := by have := H8.out; omega
      obtain ⟨x, ex⟩ : ∃ x, x = dgt n s j := ⟨_, rfl⟩
      have hx : (n : Int) / 2 ^ y % 256 = (x : Int) := by rw [ex, ey, et]; unfold dgt; simp
      have Hset := Lib.hid (digP_set n s j hj8)
      rw [← ex] at Hset
      have HS := Lib.hid hset
      have hg3 := hrow.2.2
      clear hset hrow ex ey et
      go_wp2_with fail
      go_roundw
      case rel =>
        refine ⟨j + 1, by omega, by go_num, ?_⟩
        rw [← Hset.out, ← bysA_set]; exact HS.out.cell R0.out
      case measure => simp [intOf]; omega
    · obtain rfl : j = s := by omega
      have R1 := Lib.hid (hset.row R0.out)
      have B1 := Lib.hid (hset.below B0.out (by rw [Eg.out]; exact hgl) B0.out.size)
      rw [digP_all] at R1
      clear hset
      go_wp2_with fail
      go_ret
      exact ⟨g, rfl, R1.out, Nat.le_of_eq Eg.out, B1.out⟩

/-! ### A copy -/
@[go_sem] theorem run_eqlNil8 (a : Option Addr) (l c : Nat) (w : World) : (binOp .eql 51 (.slice a l c) (.slice none 0 0)).run Try.prog w = .ok (.bool a.isNone) w := by
  simp only [binOp]
  simp [run_equal_slice_nil w 51 5 a l c Try.underlying51]
set_option maxHeartbeats 400000 in
set_option maxRecDepth 100000 in
theorem clone_c (p : Option Addr) (l : List Nat) (n cap : Nat) (w : World) (hn : n = l.length) (hB : Bs0 w p l) (hp : p = none → cap = 0) (hl : l.length ≤ 16000000) :
    Calls Try.prog 31 #[.slice p n cap] w fun e w' => ∃ v, e = .returned v ∧ OwnB w' w.heap.size v l ∧ Below w.heap.size w w' := by
  cases p with
  | none =>
    have hl0 : l = [] := by
      rcases hB with h | ⟨b, o, h, _⟩
      · exact h
      · cases h
    subst hl0
    subst hn
    rw [hp rfl]
    go_enter Try.func31, Try.ntmps31
    go_wp2_with fail
    go_ret
    exact ⟨_, rfl, own_nil w _, Below.refl _ _⟩
  | some a =>
    have BA := below_alloc (Below.refl w.heap.size w) (.cells #[] 5)
    have hE := ownB_empty w w.heap.size (Nat.le_refl _)
    obtain ⟨v1, w1, hr1, ho1, hg1⟩ := app_own (cap := cap) hE (hB.grow BA) hn (fun h => by cases h) BA.size (by simp only [List.length_nil]; omega)
    have hb1 := own_below BA hE BA.size hg1
    rw [List.nil_append] at ho1
    have HO := Lib.hid ho1
    have HB := Lib.hid hb1
    clear BA hE ho1 hg1 hb1 hB hp hl hn
    go_enter Try.func31, Try.ntmps31
    go_wp2_with (at_builtin; refine Lib.wpList_append_run _ rfl _ _ _ _ rfl _ _ rfl rfl _ _ hr1 ?_)
    go_wp2_with fail
    go_ret
    exact ⟨_, rfl, HO.out, HB.out⟩
end Go.Proofs.Ytdeeecdpgmibnaa

/-
  Package octet: a writer.
-/
namespace Go.Proofs.Ytdeeecdpgmibnaa
open Go.RowKit Go.Hold Go.Sh Go.Oc

/-- A writer lies in row g, its bytes in block ob, all of them from block B on. -/
def Wr (w : World) (B g : Nat) (ob : Option Nat) (room : Nat) (s : Ws) : Prop :=
  ∃ v, RowAt w g (wrow true s.1 room v) ∧ OwnB w B v s.2 ∧ v.ownBlock = ob ∧ ob ≠ some g ∧ B ≤ g ∧ s.2.length ≤ room ∧ room ≤ 65536
/-- What a call leaves of a writer. -/
def WStep (w : World) (B g : Nat) (ob : Option Nat) (room : Nat) (s' : Ws) (w' : World) : Prop := ∃ ob', Wr w' B g ob' room s' ∧ NewB w ob ob' ∧ Moves w g ob w'
theorem Wr.row {w : World} {B g room : Nat} {ob : Option Nat} {s : Ws} (h : Wr w B g ob room s) : ∃ v, RowAt w g (wrow true s.1 room v) := by
  obtain ⟨v, h, _⟩ := h; exact ⟨v, h⟩
theorem Wr.lt {w : World} {B g room : Nat} {ob : Option Nat} {s : Ws} (h : Wr w B g ob room s) : g < w.heap.size ∧ ∀ k, ob = some k → B ≤ k ∧ k < w.heap.size := by
  obtain ⟨v, h, ho, rfl, _⟩ := h
  exact ⟨h.2.2, World.ownsRow.lt ho⟩
theorem Wr.base {w : World} {B g room : Nat} {ob : Option Nat} {s : Ws} (h : Wr w B g ob room s) : B ≤ g := by
  obtain ⟨v, _, _, _, _, h, _⟩ := h; exact h
theorem Wr.le {w : World} {B g room : Nat} {ob : Option Nat} {s : Ws} (h : Wr w B g ob room s) : s.2.length ≤ room ∧ room ≤ 65536 := by
  obtain ⟨v, _, _, _, _, _, h⟩ := h; exact h
theorem Wr.apart {w : World} {B g room : Nat} {ob : Option Nat} {s : Ws} (h : Wr w B g ob room s) : ob ≠ some g := by
  obtain ⟨v, _, _, _, h, _⟩ := h; exact h
theorem Wr.moves {w w' : World} {B g room g2 : Nat} {ob ob2 : Option Nat} {s : Ws} (h : Wr w B g ob room s) (m : Moves w g2 ob2 w') (h1 : g ≠ g2) (h2 : ob2 ≠ some g) (h3 : ob ≠ some g2) (h4 : ∀ k, ob = some k → ob2 ≠ some k) : Wr w' B g ob room s := by
  obtain ⟨v, hr, ho, rfl, ha⟩ := h
  exact ⟨v, RowAt.moves hr m h1 h2, ho.moves m h3 h4, rfl, ha⟩
theorem Wr.grow {w w' : World} {B g room : Nat} {ob : Option Nat} {s : Ws} (h : Wr w B g ob room s) (hb : Below w.heap.size w w') : Wr w' B g ob room s := by
  obtain ⟨v, hr, ho, rfl, ha⟩ := h
  exact ⟨v, hr.grow hb, ho.below hb, rfl, ha⟩
theorem WStep.below {w0 w w' : World} {B g room : Nat} {ob : Option Nat} {s s' : Ws} (h : WStep w B g ob room s' w') (h0 : Wr w B g ob room s) (hb : Below B w0 w) (hB : B ≤ w.heap.size) : Below B w0 w' := by
  obtain ⟨ob', _, _, m⟩ := h
  exact m.below hb hB h0.base fun k hk => (h0.lt.2 k hk).1

set_option maxHeartbeats 400000 in
set_option maxRecDepth 100000 in
theorem newWriter_c (room : Nat) (h : room ≤ 65536) (w : World) :
    Calls Try.prog 16 #[.int .i64 (room : Int)] w fun e w' => ∃ g, e = .returned (.pointer (some ⟨g, 0, none⟩)) ∧ Wr w' w.heap.size g none room (0, []) ∧ Below w.heap.size w w' := by
  have h0 : ¬ (room : Int) < 0 := by omega
  have h1 : ¬ (65536 : Int) < (room : Int) := by omega
  have H := Lib.hid h
  clear h
  go_enter Try.func16, Try.ntmps16
  go_wp2_with fail
  go_ret
  exact ⟨_, rfl, ⟨_, RowAt.of (block_new w _), own_nil _ _, rfl, (fun e => by cases e), Nat.le_refl _, Nat.zero_le _, H.out⟩, below_alloc (Below.refl _ _) _⟩
theorem newWriter_bad (z : Int) (h : z < 0 ∨ 65536 < z) (w : World) :
    Calls Try.prog 16 #[.int .i64 z] w fun e w' => e = .returned (.pointer none) ∧ w' = w := by
  rcases h with h | h
  · go_enter Try.func16, Try.ntmps16
    go_wp2_with fail
    go_ret
    exact ⟨rfl, rfl⟩
  · have h0 : ¬ z < 0 := by omega
    go_enter Try.func16, Try.ntmps16
    go_wp2_with fail
    go_ret
    exact ⟨rfl, rfl⟩

/-- The first error is set. -/
theorem WStep.err {w w1 : World} {B g room : Nat} {ob : Option Nat} {s : Ws} (h : Wr w B g ob room s) (hb : Below w.heap.size w w1) (er : Int) : WStep w B g ob room (er, s.2) (w1.setCell ⟨g, 1, none⟩ (.int .i64 er)) := by
  have hlt := h.lt
  obtain ⟨v, hr, ho, rfl, ha⟩ := h
  have hr1 := hr.grow hb
  rw [setCell_row hr1]
  refine ⟨_, ⟨v, hr1.set _, ?_, rfl, ha⟩, NewB.refl _ _, (Moves.of g _ hb).setRow _⟩
  exact (ho.below hb).moves (Moves.setRow (Moves.refl w1 g none) _) ha.1 (fun _ _ e => by cases e)
/-- What is laid behind is put in place. -/
theorem WStep.put {w w1 : World} {B g room : Nat} {ob : Option Nat} {s : Ws} {l' : List Nat} {v' v0 : Value} (h : Wr w B g ob room s) (m : Moves w g ob w1) (hr : RowAt w1 g (wrow true s.1 room v0)) (ho : OwnB w1 B v' l') (hn : NewB w ob v'.ownBlock) (hl : l'.length ≤ room) :
    WStep w B g ob room (s.1, l') (w1.setCell ⟨g, 3, none⟩ v') := by
  have hlt := h.lt
  have hap := h.apart
  have hne : v'.ownBlock ≠ some g := hn.ne hap hlt.1
  rw [setCell_row hr]
  refine ⟨_, ⟨v', hr.set _, ?_, rfl, hne, h.base, hl, h.le.2⟩, hn, m.setRow _⟩
  exact ho.moves (Moves.setRow (Moves.refl w1 g none) _) hne (fun _ _ e => by cases e)
/-- Where bytes lie that were laid behind others. -/
theorem app_new {w : World} {B : Nat} {v : Value} {l m : List Nat} {p : Option Addr} {cap k : Nat} (h : OwnB w B v l) (hB : Bs0 w p m) (hk : k = m.length) (hp : p = none → cap = 0) (hBw : B ≤ w.heap.size) (hlen : l.length + m.length ≤ 16777216) :
    ∃ v' w', (Builtin.append_ #[51, 51] 51 #[v, .slice p k cap]).run Try.prog w = .ok v' w' ∧ OwnB w' B v' (l ++ m) ∧ w.grownBy w' v.ownBlock ∧ NewB w v.ownBlock v'.ownBlock := by
  subst hk
  obtain ⟨i0, hi, hz0, hz1, hz2⟩ := info_parts info_u8
  cases p with
  | none =>
    have hm : m = [] := by
      rcases hB with h | ⟨b, o, h, _⟩
      · exact h
      · cases h
    subst hm
    rw [hp rfl]
    exact ⟨v, w, run_append_owned_none (P := Try.prog) (w := w) B _ _ _ i0 1 Try.underlying51 hi v _ _ h, by rw [List.append_nil]; exact h, ⟨rfl, rfl, rfl, Nat.le_refl _, fun _ _ _ => rfl⟩, NewB.refl _ _⟩
  | some a =>
    have hnews : ∀ j u, (bys m)[j]? = some u → w.cell? (a.add j) = some u := by
      rcases hB with rfl | ⟨b, o, he, hB⟩
      · intro j u hu; simp [bys] at hu
      · cases he; exact bys_at hB
    obtain ⟨v', w', h1, h2, h3, h4⟩ := run_append_own (P := Try.prog) w B 51 51 5 i0 (.int .u8 0) 1 1 Try.underlying51 hi hz0 hz1 hz2 rfl (by decide) v l.length (bys l) h a m.length cap (bys m) (by rw [bys_length, Nat.mul_one]) hnews (bys_one m) (maxLen_small hlen) (by omega) hBw
    refine ⟨v', w', h1, OwnB.snoc h2, h3, ?_⟩
    rcases h.2 with ⟨rfl, h0⟩ | ⟨g0, cap0, cur, rfl, hb, hgg, hc, hm, hs, ht⟩
    · by_cases hm0 : 0 < m.length
      · have hr := run_append_nil (P := Try.prog) w 51 51 5 i0 (.int .u8 0) Try.underlying51 hi hz0 a m.length cap (bys m) (by rw [hz1, bys_length, Nat.mul_one]) hnews hm0 (by omega) (by rw [hz2]; omega)
        rw [h1] at hr
        cases hr
        intro k hk
        simp only [Value.ownBlock, Option.some.injEq] at hk
        exact .inr (by omega)
      · intro k hk
        rw [h4.2 ⟨rfl, by omega⟩] at hk
        cases hk
    · by_cases hroom : l.length + m.length ≤ cap0
      · have hr := run_append_room (P := Try.prog) w 51 51 5 i0 Try.underlying51 hi g0 l.length cap0 cur hgg a m.length cap (bys m) (by rw [hz1, bys_length, Nat.mul_one]) hnews (bys_one _) hroom (by rw [hz1, bys_length]; omega)
        rw [h1] at hr
        cases hr
        exact NewB.refl _ _
      · have hr := run_append_grow (P := Try.prog) w 51 51 5 i0 (.int .u8 0) Try.underlying51 hi hz0 ⟨g0, 0, none⟩ l.length cap0 (bys l) (by rw [hz1, bys_length, Nat.mul_one]) (World.ownsRow.cells h (g := g0) rfl) a m.length cap (bys m) (by rw [hz1, bys_length, Nat.mul_one]) hnews (by omega) (by omega) (by rw [hz2]; exact growslice_fits (by omega) (by omega))
        rw [h1] at hr
        cases hr
        intro k hk
        simp only [Value.ownBlock, Option.some.injEq] at hk
        exact .inr (by omega)

set_option maxHeartbeats 600000 in
set_option maxRecDepth 100000 in
theorem lay_c (B g : Nat) (ob : Option Nat) (room : Nat) (l m : List Nat) (p : Option Addr) (k cap : Nat) (w : World) (h : Wr w B g ob room (0, l)) (hk : k = m.length) (hB : Bs0 w p m) (hp : p = none → cap = 0) :
    Calls Try.prog 29 #[.pointer (some ⟨g, 0, none⟩), .slice p k cap] w fun e w' => e = .returned (.int .i64 (layS room l m).1) ∧ WStep w B g ob room (layS room l m) w' := by
  have H := Lib.hid h
  obtain ⟨v, hr, ho, rfl, hg, hBg, hle, hroom⟩ := h
  simp only at hr ho hle
  have hown := ho
  have HR := Lib.hid hr
  obtain ⟨p0, c0, rfl, _⟩ := ho.bs
  have hc1 := hr.cellAt 1 (show (wrow true 0 room (.slice p0 l.length c0))[1]? = some (.int .i64 0) from rfl)
  have hc2 := hr.cellAt 2 (show (wrow true 0 room (.slice p0 l.length c0))[2]? = some (.int .i64 (room : Int)) from rfl)
  have hc3 := hr.cellAt 3 (show (wrow true 0 room (.slice p0 l.length c0))[3]? = some (.slice p0 l.length c0) from rfl)
  have hf1 := hr.frozenAt 1
  have hgl := hr.2.2
  obtain ⟨n, en⟩ : ∃ n, n = l.length := ⟨_, rfl⟩
  obtain ⟨q, eq⟩ : ∃ q, q = room - n := ⟨_, rfl⟩
  have k1 : IntKind.i64.wrap ((room : Int) - (n : Int)) = (q : Int) := by rw [IntWalk.i64_in _ (by omega)]; omega
  by_cases hfull : room < l.length + m.length
  · have hlay : layS room l m = (8, l) := by unfold layS; rw [if_pos hfull]
    have h1 : (q : Int) < (k : Int) := by omega
    have Hg := Lib.hid hown
    rw [hlay]
    rw [← en] at hc3
    have En := Lib.hid en
    clear hr ho hg hBg hle hroom hB hp hk hlay hfull eq hc1 hf1 hown en
    go_enter Try.func29, Try.ntmps29
    go_wp2_with fail
    refine wp_region_fast (fun w' => ∃ o d, w' = w.plus o d) (by kernel_rfl) (by kernel_rfl) ⟨#[], _, rfl⟩ ?_
    iterate 13 (refine wpHold_val ⟨_, #[], 0, rfl⟩ (wanted_none rfl) (by rintro K _ ⟨o, d, rfl⟩ hK; go_simp; exact hK _ ⟨o, d, rfl⟩) ?_)
    refine wpHold_nil ?_
    rintro _ ⟨of1, nf1, rfl⟩
    have hb1 := below_more (Below.refl w.heap.size w) of1 nf1
    generalize w.plus of1 nf1 = W1 at *
    have hr1 := HR.out.grow hb1
    have KF := Lib.hid (fail_c g 8 0 W1 (hr1.cellAt 1 rfl) (hr1.frozenAt 1))
    have HS := Lib.hid (WStep.err H.out hb1 8)
    clear hb1 hr1
    go_wp2_with fail
    refine KF.out.mono ?_
    rintro e w' ⟨rfl, rfl⟩
    go_wp2_with fail
    go_ret
    exact ⟨rfl, HS.out⟩
  · have hlay : layS room l m = (0, l ++ m) := by unfold layS; rw [if_neg hfull]
    have h1 : ¬ (q : Int) < (k : Int) := by omega
    rw [hlay]
    rw [← en] at hc3
    have En := Lib.hid en
    have HB := Lib.hid hB
    have HP := Lib.hid hp
    have HK := Lib.hid hk
    have HL := Lib.hid hfull
    have HRm := Lib.hid hroom
    have HO := Lib.hid hown
    clear hr ho hg hBg hle hroom hB hp hk hlay hfull eq hc1 hf1 hown en
    go_enter Try.func29, Try.ntmps29
    go_wp2_with fail
    refine wp_region_fast (fun w' => ∃ o d, w' = w.plus o d) (by kernel_rfl) (by kernel_rfl) ⟨#[], _, rfl⟩ ?_
    iterate 13 (refine wpHold_val ⟨_, #[], 0, rfl⟩ (wanted_none rfl) (by rintro K _ ⟨o, d, rfl⟩ hK; go_simp; exact hK _ ⟨o, d, rfl⟩) ?_)
    refine wpHold_nil ?_
    rintro _ ⟨of1, nf1, rfl⟩
    have hb1 := below_more (Below.refl w.heap.size w) of1 nf1
    generalize w.plus of1 nf1 = W1 at *
    have hBs : B ≤ w.heap.size := Nat.le_trans H.out.base (Nat.le_of_lt H.out.lt.1)
    obtain ⟨v2, w2, hr2, ho2, hg2, hn2⟩ := app_new (cap := cap) (HO.out.below hb1) (HB.out.grow hb1) HK.out HP.out (Nat.le_trans hBs hb1.size) (by have := HL.out; have := HRm.out; omega)
    have m2 : Moves w g (Value.slice p0 l.length c0).ownBlock w2 := (Moves.of g _ hb1).grownBy hg2
    have hR1 := HR.out.grow hb1
    have hR2 : RowAt w2 g (wrow true 0 room (.slice p0 l.length c0)) := RowAt.moves hR1 (Moves.grownBy (Moves.refl W1 (g + 1) _) hg2) (by omega) H.out.apart
    have HS := Lib.hid (WStep.put H.out m2 hR2 ho2 (fun k hk => (hn2 k hk).imp id fun h => Nat.le_trans hb1.size h) (by rw [List.length_append]; have := HL.out; omega))
    have hc3 := hR1.cellAt 3 (show (wrow true 0 room (.slice p0 l.length c0))[3]? = some (.slice p0 l.length c0) from rfl)
    have hd3 := hR2.cellAt 3 (show (wrow true 0 room (.slice p0 l.length c0))[3]? = some (.slice p0 l.length c0) from rfl)
    have hf3 := hR2.frozenAt 3
    obtain ⟨p2, c2, rfl, _⟩ := ho2.bs
    clear m2 hR1 hR2 hn2 hg2 ho2 hb1
    generalize (l ++ m).length = n2 at *
    go_wp2_with (at_builtin; refine Lib.wpList_append_run _ rfl _ _ _ _ rfl _ _ rfl rfl _ _ hr2 ?_)
    go_wp2_with fail
    go_ret
    exact ⟨rfl, HS.out⟩
end Go.Proofs.Ytdeeecdpgmibnaa

/-
  Package octet: a writer's calls.
-/
namespace Go.Proofs.Ytdeeecdpgmibnaa
open Go.RowKit Go.Hold Go.Sh Go.Oc

theorem WStep.refl {w : World} {B g room : Nat} {ob : Option Nat} {s : Ws} (h : Wr w B g ob room s) : WStep w B g ob room s w := ⟨ob, h, NewB.refl _ _, Moves.refl _ _ _⟩
theorem WStep.grown {w w1 w' : World} {B g room : Nat} {ob : Option Nat} {s : Ws} (hb : Below w.heap.size w w1) (h : WStep w1 B g ob room s w') : WStep w B g ob room s w' := by
  obtain ⟨ob', h1, h2, h3⟩ := h
  exact ⟨ob', h1, fun k hk => (h2 k hk).imp id fun h => Nat.le_trans hb.size h, (Moves.of g ob hb).trans h3 (NewB.refl _ _)⟩
theorem Wr.stop {w : World} {B g room : Nat} {ob : Option Nat} {s : Ws} (h : Wr w B g ob room s) :
    Calls Try.prog 27 #[.pointer (some ⟨g, 0, none⟩)] w fun e w' => e = .returned (.int .i64 s.1) ∧ w' = w := by
  obtain ⟨v, hr⟩ := h.row
  exact wstopped_c g true s.1 w (hr.cellAt 0 rfl) (hr.cellAt 1 rfl)

set_option maxHeartbeats 600000 in
set_option maxRecDepth 100000 in
theorem wbytes_c (B g : Nat) (ob : Option Nat) (room : Nat) (s : Ws) (m : List Nat) (p : Option Addr) (k cap : Nat) (w : World) (h : Wr w B g ob room s) (hk : k = m.length) (hB : Bs0 w p m) (hp : p = none → cap = 0) :
    Calls Try.prog 18 #[.pointer (some ⟨g, 0, none⟩), .slice p k cap] w fun e w' => e = .returned (.int .i64 (bytS room s m).1) ∧ WStep w B g ob room (bytS room s m) w' := by
  have HS := Lib.hid h.stop
  obtain ⟨er, l⟩ := s
  by_cases her : er = 0
  · subst her
    have hs : bytS room (0, l) m = layS room l m := by unfold bytS; rw [if_neg (by simp)]
    have KL := Lib.hid (lay_c B g ob room l m p k cap w h hk hB hp)
    rw [hs]
    clear hs h hk hB hp
    go_enter Try.func18, Try.ntmps18
    go_wp2_with fail
    refine HS.out.mono ?_
    rintro e w' ⟨rfl, rfl⟩
    go_wp2_with fail
    refine KL.out.mono ?_
    rintro e w2 ⟨rfl, hst⟩
    have HT := Lib.hid hst
    clear hst
    go_wp2_with fail
    go_ret
    exact ⟨rfl, HT.out⟩
  · have hs : bytS room (er, l) m = (er, l) := by unfold bytS; rw [if_pos her]
    have HT := Lib.hid (WStep.refl h)
    rw [hs]
    clear hs h hk hB hp
    go_enter Try.func18, Try.ntmps18
    go_wp2_with fail
    refine HS.out.mono ?_
    rintro e w' ⟨rfl, rfl⟩
    go_wp2_with fail
    go_ret
    exact ⟨rfl, HT.out⟩

theorem fits_shift (n : Nat) (y : Nat) : (n : Int) / 2 ^ y = 0 ↔ n < 2 ^ y := by
  have h : ((n / 2 ^ y : Nat) : Int) = (n : Int) / 2 ^ y := by simp
  rw [← h]
  have h2 := Nat.div_eq_zero_iff (a := n) (b := 2 ^ y)
  have h3 := Nat.two_pow_pos y
  constructor
  · intro h0; have := h2.1 (by omega); omega
  · intro h0; have := h2.2 (.inr h0); omega
set_option maxHeartbeats 1000000 in
set_option maxRecDepth 100000 in
theorem wnum_c (B g : Nat) (ob : Option Nat) (room : Nat) (s : Ws) (n : Nat) (sz : Int) (w : World) (h : Wr w B g ob room s) :
    Calls Try.prog 17 #[.pointer (some ⟨g, 0, none⟩), .int .u64 (n : Int), .int .i64 sz] w fun e w' => e = .returned (.int .i64 (numS room s n sz).1) ∧ WStep w B g ob room (numS room s n sz) w' := by
  have HS := Lib.hid h.stop
  obtain ⟨er, l⟩ := s
  by_cases her : er = 0
  · subst her
    have hs : numS room (0, l) n sz = if ¬ Fits n sz then (2, l) else layS room l (digN n sz.toNat) := by unfold numS; rw [if_neg (by simp)]
    rw [hs]
    have hrow := h.row
    have H := Lib.hid h
    obtain ⟨v, hr⟩ := hrow
    have KF := Lib.hid (fail_c g 2 0 w (hr.cellAt 1 rfl) (hr.frozenAt 1))
    have HE := Lib.hid (WStep.err h (Below.refl _ _) 2)
    by_cases h1 : sz < 1
    · rw [if_pos (by unfold Fits; omega)]
      clear hs h hr
      go_enter Try.func17, Try.ntmps17
      go_wp2_with fail
      refine HS.out.mono ?_
      rintro e w' ⟨rfl, rfl⟩
      go_wp2_with fail
      refine KF.out.mono ?_
      rintro e w' ⟨rfl, rfl⟩
      go_wp2_with fail
      go_ret
      exact ⟨rfl, HE.out⟩
    · by_cases h8 : 8 < sz
      · rw [if_pos (by unfold Fits; omega)]
        clear hs h hr
        go_enter Try.func17, Try.ntmps17
        go_wp2_with fail
        refine HS.out.mono ?_
        rintro e w' ⟨rfl, rfl⟩
        go_wp2_with fail
        refine KF.out.mono ?_
        rintro e w' ⟨rfl, rfl⟩
        go_wp2_with fail
        go_ret
        exact ⟨rfl, HE.out⟩
      · obtain ⟨z, rfl⟩ : ∃ z : Nat, sz = (z : Int) := ⟨sz.toNat, by omega⟩
        rw [Int.toNat_natCast]
        obtain ⟨y, ey⟩ : ∃ y, y = 8 * z := ⟨_, rfl⟩
        have k1 : IntKind.i64.wrap (8 * (z : Int)) = (y : Int) := by rw [IntWalk.i64_in _ (by omega)]; omega
        have hy0 : (0 : Int) ≤ (y : Int) := by omega
        have hy1 : (y : Int) ≤ 64 := by omega
        have hsh := fits_shift n y
        by_cases hfit : n < 2 ^ y
        · rw [if_neg (by unfold Fits; rw [Int.toNat_natCast, ← ey]; omega)]
          have h0 : (n : Int) / 2 ^ y = 0 := hsh.2 hfit
          have KS := Lib.hid (split_c n z (by omega) (by omega) w)
          have HD := Lib.hid (dig_length n z)
          clear hs h hr hsh ey hfit KF HE
          go_enter Try.func17, Try.ntmps17
          go_wp2_with fail
          refine HS.out.mono ?_
          rintro e w' ⟨rfl, rfl⟩
          go_wp2_with fail
          refine KS.out.mono ?_
          rintro e w1 ⟨g1, rfl, hr1, _, hb1⟩
          have KL := Lib.hid (lay_c B g ob room l (digN n z) (some ⟨g1, 0, none⟩) z z w1 (H.out.grow hb1) HD.out.symm (Bs0.some (bytes_row hr1)) (fun h => by cases h))
          have HB := Lib.hid hb1
          clear hr1 hb1
          go_wp2_with fail
          refine KL.out.mono ?_
          rintro e w2 ⟨rfl, hst⟩
          have HT := Lib.hid (hst.grown HB.out)
          clear hst
          go_wp2_with fail
          go_ret
          exact ⟨rfl, HT.out⟩
        · rw [if_pos (by unfold Fits; rw [Int.toNat_natCast, ← ey]; omega)]
          have h0 : ((n : Int) / 2 ^ y != 0) = true := by simpa using fun e => hfit (hsh.1 e)
          clear hs h hr hsh ey hfit
          go_enter Try.func17, Try.ntmps17
          go_wp2_with fail
          refine HS.out.mono ?_
          rintro e w' ⟨rfl, rfl⟩
          go_wp2_with fail
          refine KF.out.mono ?_
          rintro e w' ⟨rfl, rfl⟩
          go_wp2_with fail
          go_ret
          exact ⟨rfl, HE.out⟩
  · have hs : numS room (er, l) n sz = (er, l) := by unfold numS; rw [if_pos her]
    have HT := Lib.hid (WStep.refl h)
    rw [hs]
    clear hs h
    go_enter Try.func17, Try.ntmps17
    go_wp2_with fail
    refine HS.out.mono ?_
    rintro e w' ⟨rfl, rfl⟩
    go_wp2_with fail
    go_ret
    exact ⟨rfl, HT.out⟩
end Go.Proofs.Ytdeeecdpgmibnaa

/-
  Package octet: a writer that is filled; all of its bytes; one that stopped, or that no call made.
-/
namespace Go.Proofs.Ytdeeecdpgmibnaa
open Go.RowKit Go.Hold Go.Sh Go.Oc

/-- What 'stopped' answers of a writer, or of none. -/
def WStop (w : World) (v : Value) (er : Int) : Prop := Calls Try.prog 27 #[v] w fun e w' => e = .returned (.int .i64 er) ∧ w' = w
theorem wnum_stop (po : Option Addr) (er : Int) (her : ¬ er = 0) (a b : Value) (w : World) (h : WStop w (.pointer po) er) : Calls Try.prog 17 #[.pointer po, a, b] w fun e w' => e = .returned (.int .i64 er) ∧ w' = w := by
  have HS := Lib.hid h
  unfold WStop at HS
  clear h
  go_enter Try.func17, Try.ntmps17
  go_wp2_with fail
  refine HS.out.mono ?_
  rintro e w' ⟨rfl, rfl⟩
  go_wp2_with fail
  go_ret
  exact ⟨rfl, rfl⟩
theorem wbytes_stop (po : Option Addr) (er : Int) (her : ¬ er = 0) (a : Value) (w : World) (h : WStop w (.pointer po) er) : Calls Try.prog 18 #[.pointer po, a] w fun e w' => e = .returned (.int .i64 er) ∧ w' = w := by
  have HS := Lib.hid h
  unfold WStop at HS
  clear h
  go_enter Try.func18, Try.ntmps18
  go_wp2_with fail
  refine HS.out.mono ?_
  rintro e w' ⟨rfl, rfl⟩
  go_wp2_with fail
  go_ret
  exact ⟨rfl, rfl⟩
theorem wfill_stop (po : Option Addr) (er : Int) (her : ¬ er = 0) (a : Value) (w : World) (h : WStop w (.pointer po) er) : Calls Try.prog 19 #[.pointer po, a] w fun e w' => e = .returned (.int .i64 er) ∧ w' = w := by
  have HS := Lib.hid h
  unfold WStop at HS
  clear h
  go_enter Try.func19, Try.ntmps19
  go_wp2_with fail
  refine HS.out.mono ?_
  rintro e w' ⟨rfl, rfl⟩
  go_wp2_with fail
  go_ret
  exact ⟨rfl, rfl⟩
theorem wall_stop (po : Option Addr) (er : Int) (her : ¬ er = 0) (w : World) (h : WStop w (.pointer po) er) : Calls Try.prog 20 #[.pointer po] w fun e w' => e = .returned (.tuple #[.slice none 0 0, .int .i64 er]) ∧ w' = w := by
  have HS := Lib.hid h
  unfold WStop at HS
  clear h
  go_enter Try.func20, Try.ntmps20
  go_wp2_with fail
  refine HS.out.mono ?_
  rintro e w' ⟨rfl, rfl⟩
  go_wp2_with fail
  refine bodyPost_ret (v := .tuple #[.slice none 0 0, .int .i64 er]) (results_tmp2 Try.results20 _ _ _) rfl ⟨rfl, rfl⟩

set_option maxHeartbeats 1000000 in
set_option maxRecDepth 100000 in
theorem wfill_c (B g : Nat) (ob : Option Nat) (room : Nat) (s : Ws) (to : Int) (w : World) (h : Wr w B g ob room s) :
    Calls Try.prog 19 #[.pointer (some ⟨g, 0, none⟩), .int .i64 to] w fun e w' => e = .returned (.int .i64 (filS room s to).1) ∧ WStep w B g ob room (filS room s to) w' := by
  have HS := Lib.hid h.stop
  obtain ⟨er, l⟩ := s
  by_cases her : er = 0
  · subst her
    have hs : filS room (0, l) to = if to < (l.length : Int) then (2, l) else if (room : Int) < to then (8, l) else layS room l (zs (to.toNat - l.length)) := by unfold filS; rw [if_neg (by simp)]
    rw [hs]
    have H := Lib.hid h
    have HE := Lib.hid (fun er => WStep.err h (Below.refl _ _) er)
    have hle := h.le
    obtain ⟨v, hr, ho, _⟩ := h
    have KF := Lib.hid (fun er => fail_c g er 0 w (hr.cellAt 1 rfl) (hr.frozenAt 1))
    obtain ⟨p0, c0, rfl, _⟩ := ho.bs
    simp only at hr ho hle
    have hc2 := hr.cellAt 2 (show (wrow true 0 room (.slice p0 l.length c0))[2]? = some (.int .i64 (room : Int)) from rfl)
    have hc3 := hr.cellAt 3 (show (wrow true 0 room (.slice p0 l.length c0))[3]? = some (.slice p0 l.length c0) from rfl)
    have hgl := hr.2.2
    have HLe := Lib.hid hle
    obtain ⟨n, en⟩ : ∃ n, n = l.length := ⟨_, rfl⟩
    rw [← en] at hc3 ⊢
    have En := Lib.hid en
    by_cases h1 : to < (n : Int)
    · rw [if_pos h1]
      have KF2 := Lib.hid (KF.out 2)
      have HE2 := Lib.hid (HE.out 2)
      clear hs hr ho en hle KF HE
      go_enter Try.func19, Try.ntmps19
      go_wp2_with fail
      refine HS.out.mono ?_
      rintro e w' ⟨rfl, rfl⟩
      go_wp2_with fail
      refine KF2.out.mono ?_
      rintro e w' ⟨rfl, rfl⟩
      go_wp2_with fail
      go_ret
      exact ⟨rfl, HE2.out⟩
    · rw [if_neg h1]
      by_cases h8 : (room : Int) < to
      · rw [if_pos h8]
        have KF2 := Lib.hid (KF.out 8)
        have HE2 := Lib.hid (HE.out 8)
        clear hs hr ho en hle KF HE
        go_enter Try.func19, Try.ntmps19
        go_wp2_with fail
        refine HS.out.mono ?_
        rintro e w' ⟨rfl, rfl⟩
        go_wp2_with fail
        refine KF2.out.mono ?_
        rintro e w' ⟨rfl, rfl⟩
        go_wp2_with fail
        go_ret
        exact ⟨rfl, HE2.out⟩
      · rw [if_neg h8]
        obtain ⟨t, rfl⟩ : ∃ t : Nat, to = (t : Int) := ⟨to.toNat, by omega⟩
        rw [Int.toNat_natCast]
        obtain ⟨d, ed⟩ : ∃ d, d = t - n := ⟨_, rfl⟩
        have k1 : IntKind.i64.wrap ((t : Int) - (n : Int)) = (d : Int) := by rw [IntWalk.i64_in _ (by omega)]; omega
        have hmk := run_mkS w d (by omega)
        have hbA := below_alloc (Below.refl w.heap.size w) (.cells (bysA (zs d)) 5)
        have KL := Lib.hid (lay_c B g ob room l (zs d) (some ⟨w.heap.size, 0, none⟩) d d _ (H.out.grow hbA) (zs_length d).symm (Bs0.some (bytes_new w _ _ _)) (fun h => by cases h))
        have HBA := Lib.hid hbA
        have hgl2 : g < w.heap.size + 1 := by omega
        rw [← ed]
        clear hs hr ho en hle KF HE hbA ed
        go_enter Try.func19, Try.ntmps19
        go_wp2_with fail
        refine HS.out.mono ?_
        rintro e w' ⟨rfl, rfl⟩
        go_wp2_with fail
        refine KL.out.mono ?_
        rintro e w2 ⟨rfl, hst⟩
        have HT := Lib.hid (hst.grown HBA.out)
        clear hst
        go_wp2_with fail
        go_ret
        exact ⟨rfl, HT.out⟩
  · have hs : filS room (er, l) to = (er, l) := by unfold filS; rw [if_pos her]
    have HT := Lib.hid (WStep.refl h)
    rw [hs]
    refine (wfill_stop _ er her _ w HS.out).mono ?_
    rintro e w' ⟨rfl, rfl⟩
    exact ⟨rfl, HT.out⟩

set_option maxHeartbeats 1000000 in
set_option maxRecDepth 100000 in
theorem wall_c (B g : Nat) (ob : Option Nat) (room : Nat) (s : Ws) (w : World) (h : Wr w B g ob room s) :
    Calls Try.prog 20 #[.pointer (some ⟨g, 0, none⟩)] w fun e w' => ∃ v, e = .returned (.tuple #[v, .int .i64 s.1]) ∧ OwnB w' w.heap.size v (allL s) ∧ Below w.heap.size w w' := by
  have HS := Lib.hid h.stop
  obtain ⟨er, l⟩ := s
  by_cases her : er = 0
  · subst her
    have hs : allL (0, l) = l := by unfold allL; rw [if_neg (by simp)]
    rw [hs]
    have hle := h.le
    obtain ⟨v, hr, ho, rfl, _⟩ := h
    obtain ⟨p0, c0, rfl, hb0, _, hp0⟩ := ho.bs
    simp only at hr ho hle
    have hc3 := hr.cellAt 3 (show (wrow true 0 room (.slice p0 l.length c0))[3]? = some (.slice p0 l.length c0) from rfl)
    have hgl := hr.2.2
    have KC := Lib.hid (clone_c p0 l l.length c0 w rfl hb0 hp0 (by omega))
    generalize l.length = n at *
    clear hs hr ho hle hb0 hp0
    go_enter Try.func20, Try.ntmps20
    go_wp2_with fail
    refine HS.out.mono ?_
    rintro e w' ⟨rfl, rfl⟩
    go_wp2_with fail
    refine KC.out.mono ?_
    rintro e w2 ⟨v2, rfl, ho2, hb2⟩
    have HO := Lib.hid ho2
    have HB := Lib.hid hb2
    clear ho2 hb2
    go_wp2_with fail
    refine bodyPost_ret (v := .tuple #[v2, .int .i64 0]) (results_tmp2 Try.results20 _ _ _) rfl ⟨_, rfl, HO.out, HB.out⟩
  · have hs : allL (er, l) = [] := by unfold allL; rw [if_pos her]
    rw [hs]
    refine (wall_stop _ er her w HS.out).mono ?_
    rintro e w' ⟨rfl, rfl⟩
    exact ⟨_, rfl, own_nil _ _, Below.refl _ _⟩
theorem WStep.out {w w' : World} {B g room : Nat} {ob : Option Nat} {s s' s2 : Ws} (h : WStep w B g ob room s' w') (h0 : Wr w B g ob room s) (e : s' = s2) {w0 : World} (hb : Below B w0 w) (hB : B ≤ w.heap.size) : ∃ ob', Wr w' B g ob' room s2 ∧ Below B w0 w' := by
  subst e
  have h2 := h.below h0 hb hB
  obtain ⟨ob', h1, _⟩ := h
  exact ⟨ob', h1, h2⟩
end Go.Proofs.Ytdeeecdpgmibnaa

/-
  What one call lays down, or takes, where there is room. Of no program.
-/
namespace Go.Oc
open Go Go.Sh

theorem numS_ok {room : Nat} {l : List Nat} {n sz : Nat} (h1 : 1 ≤ sz) (h8 : sz ≤ 8) (hn : n < 2 ^ (8 * sz)) (hr : l.length + sz ≤ room) : numS room (0, l) n (sz : Int) = (0, l ++ digN n sz) := by
  unfold numS
  rw [if_neg (by simp), if_neg (by unfold Fits; rw [Int.toNat_natCast]; omega), Int.toNat_natCast]
  unfold layS
  rw [if_neg (by simp only [dig_length]; omega)]
theorem bytS_ok {room : Nat} {l m : List Nat} (hr : l.length + m.length ≤ room) : bytS room (0, l) m = (0, l ++ m) := by
  unfold bytS
  rw [if_neg (by simp)]
  unfold layS
  rw [if_neg (by simp only; omega)]
theorem filS_ok {room : Nat} {l : List Nat} {to : Nat} (h1 : l.length ≤ to) (h2 : to ≤ room) : filS room (0, l) (to : Int) = (0, l ++ zs (to - l.length)) := by
  unfold filS
  rw [if_neg (by simp), if_neg (by simp only; omega), if_neg (by omega), Int.toNat_natCast]
  unfold layS
  rw [if_neg (by simp only [zs_length]; omega)]
theorem dig_1 {n : Nat} (h : n < 256) : digN n 1 = [n] := by
  show [dgt n 1 0] = [n]
  unfold dgt
  rw [show 8 * (1 - 1 - 0) = 0 from rfl, Nat.pow_zero, Nat.div_one, Nat.mod_eq_of_lt h]
theorem dig_2 (n : Nat) : digN n 2 = [n / 256 % 256, n % 256] := by
  show [dgt n 2 0, dgt n 2 1] = _
  unfold dgt
  rw [show 8 * (2 - 1 - 0) = 8 from rfl, show 8 * (2 - 1 - 1) = 0 from rfl, Nat.pow_zero, Nat.div_one]
theorem rnumS_ok {l : List Nat} {sz : Nat} (h1 : 1 ≤ sz) (h8 : sz ≤ 8) (hr : sz ≤ l.length) : rnumS (0, l) (sz : Int) = (0, l.drop sz) := by
  unfold rnumS
  rw [if_neg (by simp), if_neg (by omega), Int.toNat_natCast]
  unfold takS
  rw [if_neg (by simp only; omega)]
theorem rnumV_ok {l : List Nat} {sz : Nat} (h1 : 1 ≤ sz) (h8 : sz ≤ 8) (hr : sz ≤ l.length) : rnumV (0, l) (sz : Int) = joinN (l.take sz) := by
  unfold rnumV
  rw [if_pos ⟨rfl, by omega, by rw [Int.toNat_natCast]; exact hr⟩, Int.toNat_natCast]
theorem rbytS_ok {l : List Nat} {n : Nat} (hr : n ≤ l.length) : rbytS (0, l) (n : Int) = (0, l.drop n) := by
  unfold rbytS
  rw [if_neg (by simp), if_neg (by omega), Int.toNat_natCast]
  unfold takS
  rw [if_neg (by simp only; omega)]
theorem rbytV_ok {l : List Nat} {n : Nat} (hr : n ≤ l.length) : rbytV (0, l) (n : Int) = l.take n := by
  unfold rbytV
  rw [if_pos ⟨rfl, by omega, by rw [Int.toNat_natCast]; exact hr⟩, Int.toNat_natCast]
end Go.Oc

/-
  Package octet: the calls of a writer that has room, and of a reader that has bytes; what is made behind a world W0 alone changes.
-/
namespace Go.Proofs.Ytdeeecdpgmibnaa
open Go.RowKit Go.Hold Go.Sh Go.Oc

theorem wnum_ok {W0 w : World} {g room : Nat} {ob : Option Nat} {l : List Nat} (h : Wr w W0.heap.size g ob room (0, l)) (hb : Below W0.heap.size W0 w) (n sz : Nat) (h1 : 1 ≤ sz) (h8 : sz ≤ 8) (hn : n < 2 ^ (8 * sz)) (hr : l.length + sz ≤ room) :
    Calls Try.prog 17 #[.pointer (some ⟨g, 0, none⟩), .int .u64 (n : Int), .int .i64 (sz : Int)] w fun e w' => e = .returned (.int .i64 0) ∧ ∃ ob', Wr w' W0.heap.size g ob' room (0, l ++ digN n sz) ∧ Below W0.heap.size W0 w' := by
  refine (wnum_c W0.heap.size g ob room (0, l) n (sz : Int) w h).mono ?_
  rintro e w' ⟨rfl, hst⟩
  have hs := numS_ok (l := l) h1 h8 hn hr
  exact ⟨by rw [hs], hst.out h hs hb hb.size⟩
theorem wbytes_ok {W0 w : World} {g room : Nat} {ob : Option Nat} {l : List Nat} (h : Wr w W0.heap.size g ob room (0, l)) (hb : Below W0.heap.size W0 w) (m : List Nat) (p : Option Addr) (k cap : Nat) (hk : k = m.length) (hB : Bs0 w p m) (hp : p = none → cap = 0) (hr : l.length + m.length ≤ room) :
    Calls Try.prog 18 #[.pointer (some ⟨g, 0, none⟩), .slice p k cap] w fun e w' => e = .returned (.int .i64 0) ∧ ∃ ob', Wr w' W0.heap.size g ob' room (0, l ++ m) ∧ Below W0.heap.size W0 w' := by
  refine (wbytes_c W0.heap.size g ob room (0, l) m p k cap w h hk hB hp).mono ?_
  rintro e w' ⟨rfl, hst⟩
  have hs := bytS_ok (l := l) hr
  exact ⟨by rw [hs], hst.out h hs hb hb.size⟩
theorem wfill_ok {W0 w : World} {g room : Nat} {ob : Option Nat} {l : List Nat} (h : Wr w W0.heap.size g ob room (0, l)) (hb : Below W0.heap.size W0 w) (to : Nat) (h1 : l.length ≤ to) (h2 : to ≤ room) :
    Calls Try.prog 19 #[.pointer (some ⟨g, 0, none⟩), .int .i64 (to : Int)] w fun e w' => e = .returned (.int .i64 0) ∧ ∃ ob', Wr w' W0.heap.size g ob' room (0, l ++ zs (to - l.length)) ∧ Below W0.heap.size W0 w' := by
  refine (wfill_c W0.heap.size g ob room (0, l) (to : Int) w h).mono ?_
  rintro e w' ⟨rfl, hst⟩
  have hs := filS_ok (l := l) h1 h2
  exact ⟨by rw [hs], hst.out h hs hb hb.size⟩
theorem wall_ok {W0 w : World} {g room : Nat} {ob : Option Nat} {l : List Nat} (h : Wr w W0.heap.size g ob room (0, l)) (hb : Below W0.heap.size W0 w) :
    Calls Try.prog 20 #[.pointer (some ⟨g, 0, none⟩)] w fun e w' => ∃ v, e = .returned (.tuple #[v, .int .i64 0]) ∧ OwnB w' w.heap.size v l ∧ Below W0.heap.size W0 w' := by
  refine (wall_c W0.heap.size g ob room (0, l) w h).mono ?_
  rintro e w' ⟨v, rfl, ho, hb'⟩
  exact ⟨v, rfl, ho, hb.trans (hb'.mono hb.size)⟩
end Go.Proofs.Ytdeeecdpgmibnaa

/-
  Package command: a command's bytes.
-/
namespace Go.Cm
open Go Go.Sh Go.Oc
theorem enc_steps {k n d : Nat} {id : List Nat} (hk : k < 5) (hn : n < 16) (hi : id.length = 8) :
    (((([] ++ digN k 1) ++ digN n 1) ++ digN d 2) ++ id) ++ zs (16 - (((([] ++ digN k 1) ++ digN n 1) ++ digN d 2) ++ id).length) = (Cmd.mk k n d id).enc := by
  rw [dig_1 (by omega), dig_1 (by omega), dig_2]
  simp [Cmd.enc, hi]
  omega
end Go.Cm
namespace Go.Proofs.Ytdeeecdpgmibnaa
open Go.RowKit Go.Hold Go.Sh Go.Oc Go.Cm

set_option maxHeartbeats 1000000 in
set_option maxRecDepth 100000 in
theorem encode_c (c : Cmd) (hid : c.id.length = 8) (w : World) :
    Calls Try.prog 8 #[.agg (cmdA c)] w fun e w' => e = .returned (.tuple #[.agg (bysA (encV c)), .int .i64 (encE c)]) ∧ Below w.heap.size w w' := by
  have hcs := cmdA_size hid
  have hzs : (bysA (zs 16)).size = 16 := rfl
  by_cases hm : c.may = false
  · have hV : encV c = zs 16 := by unfold encV; rw [hm]; rfl
    have hE : encE c = 2 := by unfold encE; rw [hm]; rfl
    rw [hV, hE]
    have KM := Lib.hid (fun (W : World) => may_c c hid W)
    rw [hm] at KM
    clear hm hV hE
    go_enter Try.func8, Try.ntmps8
    go_wp2_with fail
    generalize hW : World.alloc _ _ = W0
    have R0 := Lib.hid (show RowAt W0 w.heap.size (cmdA c) by rw [← hW]; clear hW; exact ⟨by go_simp, by go_simp, by go_simp⟩)
    have T0 := Lib.hid (show RowAt W0 (w.heap.size + 1) (bysA (zs 16)) by rw [← hW]; clear hW; exact ⟨by go_simp, by go_simp; rfl, by go_simp⟩)
    have B0 := Lib.hid (show Below w.heap.size w W0 by rw [← hW]; repeat (first | apply below_alloc | exact Below.refl _ _))
    have hz1 : w.heap.size ≤ w.heap.size + 1 := by omega
    have hz3 : w.heap.size ≠ w.heap.size + 1 := by omega
    generalize w.heap.size + 1 = t at *
    obtain ⟨z, ez⟩ : ∃ z, z = w.heap.size := ⟨_, rfl⟩
    rw [← ez] at R0 hz1 hz3 ⊢
    have Ez := Lib.hid ez
    clear ez
    refine (KM.out W0).mono ?_
    rintro e W1 ⟨rfl, hb1⟩
    have R1 := Lib.hid (R0.out.grow hb1)
    have T1 := Lib.hid (T0.out.grow hb1)
    have B1 := Lib.hid (B0.out.trans (hb1.mono B0.out.size))
    clear hb1 hW R0 T0 B0
    clear R1 hz3
    obtain ⟨t1, t2, t3⟩ := T1.out
    go_wp2_with fail
    refine bodyPost_ret (v := .tuple #[.agg (bysA (zs 16)), .int .i64 2]) (results_b16 Try.results8 (zs 16) rfl _ _ _ t rfl (by go_simp) (by go_simp) rfl) rfl ⟨rfl, ?_⟩
    exact below_setRow B1.out (by rw [← Ez.out]; exact hz1) _
  have hm : c.may = true := by simpa using hm
  have hV : encV c = c.enc := by unfold encV; rw [hm]; rfl
  have hE : encE c = 0 := by unfold encE; rw [hm]; rfl
  rw [hV, hE]
  have KM := Lib.hid (fun (W : World) => may_c c hid W)
  rw [hm] at KM
  obtain ⟨⟨ha1, ha2⟩, ⟨hb1, hb2⟩, hc1, hc2⟩ := may_range hm
  obtain ⟨k, ek⟩ := Int.eq_ofNat_of_zero_le (show 0 ≤ c.k by omega)
  obtain ⟨n, en⟩ := Int.eq_ofNat_of_zero_le hb1
  obtain ⟨d, ed⟩ := Int.eq_ofNat_of_zero_le hc1
  have HX := Lib.hid (show (((([] ++ digN k 1) ++ digN n 1) ++ digN d 2) ++ c.id) ++ zs (16 - (((([] ++ digN k 1) ++ digN n 1) ++ digN d 2) ++ c.id).length) = c.enc by
    rw [enc_steps (by omega) (by omega) hid, ← ek, ← en, ← ed])
  have HL := Lib.hid (enc_length hid)
  have HI := Lib.hid hid
  have u1 : IntKind.u64.wrap (k : Int) = (k : Int) := IntWalk.u64_in _ (by omega)
  have u2 : IntKind.u64.wrap (n : Int) = (n : Int) := IntWalk.u64_in _ (by omega)
  have u3 : IntKind.u64.wrap (d : Int) = (d : Int) := IntWalk.u64_in _ (by omega)
  have V1 := Lib.hid (show k < 2 ^ (8 * 1) by omega)
  have V2 := Lib.hid (show n < 2 ^ (8 * 1) by omega)
  have V3 := Lib.hid (show d < 2 ^ (8 * 2) by omega)
  clear hm hV hE ha1 ha2 hb1 hb2 hc1 hc2
  go_enter Try.func8, Try.ntmps8
  go_wp2_with fail
  generalize hW : World.alloc _ _ = W0
  have R0 := Lib.hid (show RowAt W0 w.heap.size (cmdA c) by rw [← hW]; clear hW; exact ⟨by go_simp, by go_simp, by go_simp⟩)
  have T0 := Lib.hid (show RowAt W0 (w.heap.size + 1) (bysA (zs 16)) by rw [← hW]; clear hW; exact ⟨by go_simp, by go_simp; rfl, by go_simp⟩)
  have B0 := Lib.hid (show Below w.heap.size w W0 by rw [← hW]; repeat (first | apply below_alloc | exact Below.refl _ _))
  have hz1 : w.heap.size ≤ w.heap.size + 1 := by omega
  have hz3 : w.heap.size ≠ w.heap.size + 1 := by omega
  generalize w.heap.size + 1 = t at *
  obtain ⟨z, ez⟩ : ∃ z, z = w.heap.size := ⟨_, rfl⟩
  rw [← ez] at R0 hz1 hz3 ⊢
  have Ez := Lib.hid ez
  clear ez
  refine (KM.out W0).mono ?_
  rintro e W1 ⟨rfl, hb1⟩
  have R1 := Lib.hid (R0.out.grow hb1)
  have T1 := Lib.hid (T0.out.grow hb1)
  have B1 := Lib.hid (B0.out.trans (hb1.mono B0.out.size))
  clear hb1 hW R0 T0 B0
  go_wp2_with fail
  refine (newWriter_c 16 (by decide) W1).mono ?_
  rintro e w2 ⟨g, rfl, hw2, hb2⟩
  have X2 := Lib.hid hw2
  have Y2 := Lib.hid hb2
  have hc0 : w2.cell? ⟨z, 0, none⟩ = some (.int .i64 (k : Int)) := by rw [← ek]; exact (R1.out.keep hb2 R1.out.2.2).cellAt 0 (cmdA_0 c)
  clear hw2 hb2
  go_wp2_with fail
  refine (wnum_ok X2.out Y2.out k 1 (by decide) (by decide) V1.out (by simp)).mono ?_
  rintro e w3 ⟨rfl, ob3, hw3, hb3⟩
  have X3 := Lib.hid hw3
  have Y3 := Lib.hid hb3
  have hc0 : w3.cell? ⟨z, 1, none⟩ = some (.int .i64 (n : Int)) := by rw [← en]; exact (R1.out.keep hb3 R1.out.2.2).cellAt 1 (cmdA_1 c)
  clear hw3 hb3 X2 Y2
  go_wp2_with fail
  refine (wnum_ok X3.out Y3.out n 1 (by decide) (by decide) V2.out (by simp [dig_length])).mono ?_
  rintro e w4 ⟨rfl, ob4, hw4, hb4⟩
  have X4 := Lib.hid hw4
  have Y4 := Lib.hid hb4
  have hc0 : w4.cell? ⟨z, 2, none⟩ = some (.int .i64 (d : Int)) := by rw [← ed]; exact (R1.out.keep hb4 R1.out.2.2).cellAt 2 (cmdA_2 c)
  clear hw4 hb4 X3 Y3
  go_wp2_with fail
  refine (wnum_ok X4.out Y4.out d 2 (by decide) (by decide) V3.out (by simp [dig_length])).mono ?_
  rintro e w5 ⟨rfl, ob5, hw5, hb5⟩
  have X5 := Lib.hid hw5
  have Y5 := Lib.hid hb5
  have HB5 := Lib.hid (Bs0.some (bytes_cmd (R1.out.keep hb5 R1.out.2.2)))
  clear hw5 hb5 X4 Y4
  go_wp2_with fail
  refine (wbytes_ok X5.out Y5.out c.id (some ⟨z, 3, none⟩) 8 8 HI.out.symm HB5.out (fun h => by cases h) (by simp [dig_length, HI.out])).mono ?_
  rintro e w6 ⟨rfl, ob6, hw6, hb6⟩
  have X6 := Lib.hid hw6
  have Y6 := Lib.hid hb6
  clear hw6 hb6 X5 Y5 HB5
  go_wp2_with fail
  refine (wfill_ok X6.out Y6.out 16 (by simp [dig_length, HI.out]) (by decide)).mono ?_
  rintro e w7 ⟨rfl, ob7, hw7, hb7⟩
  rw [HX.out] at hw7
  have X7 := Lib.hid hw7
  have Y7 := Lib.hid hb7
  clear hw7 hb7 X6 Y6
  go_wp2_with fail
  refine (wall_ok X7.out Y7.out).mono ?_
  rintro e w8 ⟨v, rfl, ho, hb8⟩
  obtain ⟨p, q, rfl, hs8, _, _⟩ := ho.bs
  rw [HL.out]
  have S8 := Lib.hid hs8
  have T8 := Lib.hid (T1.out.keep hb8 T1.out.2.2)
  have B8 := Lib.hid (B1.out.trans (hb8.mono B1.out.size))
  clear ho hs8 hb8 X7 Y7 R1 T1 B1
  go_wp2_with fail
  generalize hW : World.alloc _ _ = W9
  have hbA : Below w8.heap.size w8 W9 := by rw [← hW]; exact below_alloc (Below.refl _ _) _
  have N9 := Lib.hid (show RowAt W9 w8.heap.size (bysA (zs 16)) by rw [← hW]; clear hW; exact ⟨by go_simp, by go_simp; rfl, by go_simp⟩)
  have S9 := Lib.hid (S8.out.grow hbA)
  have T9 := Lib.hid (T8.out.grow hbA)
  have B9 := Lib.hid (B8.out.trans (hbA.mono B8.out.size))
  have hne : t ≠ w8.heap.size := by have := T8.out.2.2; omega
  have hle : w.heap.size ≤ w8.heap.size := B8.out.size
  clear hW hbA S8 T8 B8
  generalize w8.heap.size = g9 at *
  have hcp := copy_bytes (c2 := 16) (cap := q) (d := 16) (s := 16) (k := 16) N9.out (by rw [zs_length]) HL.out.symm (by rw [zs_length, HL.out]; decide) S9.out
  rw [show c.enc.take 16 ++ (zs 16).drop 16 = c.enc by rw [List.take_of_length_le (by rw [HL.out]; exact Nat.le_refl _)]; simp [zs]] at hcp
  have N10 := N9.out.set (bysA c.enc)
  have T10 := T9.out.other hne (bysA c.enc)
  have B10 := Lib.hid (below_setRow B9.out hle (bysA c.enc))
  have hes : (bysA c.enc).size = 16 := by rw [bysA_size]; exact HL.out
  generalize W9.setRow g9 (bysA c.enc) = W10 at *
  obtain ⟨n1, n2, n3⟩ := N10
  obtain ⟨t1, t2, t3⟩ := T10
  clear N9 S9 T9 B9
  rw [hcp]
  clear hcp
  go_simp
  go_wp2_with fail
  refine bodyPost_ret (v := .tuple #[.agg (bysA (c.enc)), .int .i64 0]) (results_b16 Try.results8 (c.enc) HL.out _ _ _ t rfl (by go_simp) (by go_simp) rfl) rfl ⟨rfl, ?_⟩
  exact below_setRow B10.out (by rw [← Ez.out]; exact hz1) _
end Go.Proofs.Ytdeeecdpgmibnaa

/-
  Package octet: a reader.
-/
namespace Go.Oc
theorem or_add (a x : Nat) (hx : x < 256) : a * 256 ||| x = a * 256 + x := by
  have := Nat.shiftLeft_add_eq_or_of_lt (i := 8) (b := x) hx a
  rw [Nat.shiftLeft_eq] at this
  exact this.symm
end Go.Oc
namespace Go.Proofs.Ytdeeecdpgmibnaa
open Go.RowKit Go.Hold Go.Sh Go.Oc

/-- Bytes of a reader: none, or in its block. -/
def RB (w : World) (bb : Option Nat) (p : Option Addr) (l : List Nat) : Prop := (p = none ∧ l = []) ∨ ∃ b o, bb = some b ∧ p = some ⟨b, o, none⟩ ∧ BytesAt w b o l
theorem RB.any {w : World} {bb : Option Nat} {p : Option Addr} {l : List Nat} (h : RB w bb p l) : Bs0 w p l := by
  rcases h with ⟨_, h⟩ | ⟨b, o, _, e, h⟩
  · exact .inl h
  · exact .inr ⟨b, o, e, h⟩
theorem RB.moves {w w' : World} {g : Nat} {a bb : Option Nat} {p : Option Addr} {l : List Nat} (h : RB w bb p l) (m : Moves w g a w') (h1 : bb ≠ some g) (h2 : ∀ k, bb = some k → a ≠ some k) : RB w' bb p l := by
  rcases h with h | ⟨b, o, e1, e, h⟩
  · exact .inl h
  · exact .inr ⟨b, o, e1, e, h.moves m (fun e2 => h1 (by rw [e1, e2])) (h2 b e1)⟩
theorem RB.lt {w : World} {bb : Option Nat} {p : Option Addr} {l : List Nat} (h : RB w bb p l) : p ≠ none → ∀ k, bb = some k → k < w.heap.size := by
  rcases h with ⟨h, _⟩ | ⟨b, o, e1, _, h⟩
  · intro hp; exact absurd h hp
  · intro _ k hk; rw [e1] at hk; cases hk; exact h.1
/-- A reader lies in row g, its bytes in block bb. -/
def Rd (w : World) (g : Nat) (bb : Option Nat) (s : Ws) : Prop :=
  ∃ p c, RowAt w g (rrow true s.1 (.slice p s.2.length c)) ∧ RB w bb p s.2 ∧ (p = none → c = 0) ∧ s.2.length ≤ c ∧ bb ≠ some g ∧ s.2.length ≤ 65536 ∧ ∀ k, bb = some k → k < w.heap.size
/-- What a call leaves of a reader. -/
def RStep (w : World) (g : Nat) (bb : Option Nat) (s' : Ws) (w' : World) : Prop := Rd w' g bb s' ∧ Moves w g none w'
theorem Rd.lt {w : World} {g : Nat} {bb : Option Nat} {s : Ws} (h : Rd w g bb s) : g < w.heap.size ∧ ∀ k, bb = some k → k < w.heap.size := by
  obtain ⟨p, c, h, _, _, _, _, _, h2⟩ := h
  exact ⟨h.2.2, h2⟩
theorem Rd.le {w : World} {g : Nat} {bb : Option Nat} {s : Ws} (h : Rd w g bb s) : s.2.length ≤ 65536 := by
  obtain ⟨p, c, _, _, _, _, _, h, _⟩ := h; exact h
theorem Rd.apart {w : World} {g : Nat} {bb : Option Nat} {s : Ws} (h : Rd w g bb s) : bb ≠ some g := by
  obtain ⟨p, c, _, _, _, _, h, _, _⟩ := h; exact h
theorem Rd.moves {w w' : World} {g g2 : Nat} {bb ob2 : Option Nat} {s : Ws} (h : Rd w g bb s) (m : Moves w g2 ob2 w') (h1 : g ≠ g2) (h2 : ob2 ≠ some g) (h3 : bb ≠ some g2) (h4 : ∀ k, bb = some k → ob2 ≠ some k) : Rd w' g bb s := by
  obtain ⟨p, c, hr, hb, h5, h6, h7, h8, h9⟩ := h
  exact ⟨p, c, RowAt.moves hr m h1 h2, hb.moves m h3 h4, h5, h6, h7, h8, fun k hk => Nat.lt_of_lt_of_le (h9 k hk) m.size⟩
theorem Rd.grow {w w' : World} {g : Nat} {bb : Option Nat} {s : Ws} (h : Rd w g bb s) (hb : Below w.heap.size w w') : Rd w' g bb s := by
  have hl := h.lt
  refine h.moves (g2 := w.heap.size) (ob2 := none) (Moves.of _ _ hb) (by omega) (fun e => by cases e) (fun e => ?_) (fun _ _ e => by cases e)
  have := hl.2 _ e; omega
theorem RStep.refl {w : World} {g : Nat} {bb : Option Nat} {s : Ws} (h : Rd w g bb s) : RStep w g bb s w := ⟨h, Moves.refl _ _ _⟩
theorem RStep.grow {w w1 w' : World} {g : Nat} {bb : Option Nat} {s : Ws} (h : RStep w g bb s w1) (hb : Below w1.heap.size w1 w') : RStep w g bb s w' := ⟨h.1.grow hb, h.2.grow hb⟩
theorem Rd.row {w : World} {g : Nat} {bb : Option Nat} {s : Ws} (h : Rd w g bb s) : ∃ v, RowAt w g (rrow true s.1 v) := by
  obtain ⟨p, c, h, _⟩ := h; exact ⟨_, h⟩
/-- The first error is set. -/
theorem RStep.err {w : World} {g : Nat} {bb : Option Nat} {s : Ws} (h : Rd w g bb s) (er : Int) : RStep w g bb (er, s.2) (w.setCell ⟨g, 1, none⟩ (.int .i64 er)) := by
  have hl := h.lt
  obtain ⟨p, c, hr, hb, h5, h6, h7, h8, h9⟩ := h
  rw [setCell_row hr]
  have m := Moves.setRow (Moves.refl w g none) ((rrow true s.1 (.slice p s.2.length c)).setIfInBounds 1 (.int .i64 er))
  exact ⟨⟨p, c, hr.set _, hb.moves m h7 (fun _ _ e => by cases e), h5, h6, h7, h8, fun k hk => Nat.lt_of_lt_of_le (h9 k hk) m.size⟩, m⟩
/-- What is left is put in place. -/
theorem RStep.put {w : World} {g : Nat} {bb : Option Nat} {s : Ws} {l : List Nat} {p : Option Addr} {c : Nat} (h : Rd w g bb s) (hb : RB w bb p l) (hp : p = none → c = 0) (hc : l.length ≤ c) (hl : l.length ≤ 65536) :
    RStep w g bb (s.1, l) (w.setCell ⟨g, 2, none⟩ (.slice p l.length c)) := by
  obtain ⟨p0, c0, hr, hb0, h5, h6, h7, h8, h9⟩ := h
  rw [setCell_row hr]
  have m := Moves.setRow (Moves.refl w g none) ((rrow true s.1 (.slice p0 s.2.length c0)).setIfInBounds 2 (.slice p l.length c))
  exact ⟨⟨p, c, hr.set _, hb.moves m h7 (fun _ _ e => by cases e), hp, hc, h7, hl, fun k hk => Nat.lt_of_lt_of_le (h9 k hk) m.size⟩, m⟩
theorem slB_loN (w : World) : (slB (.slice none 0 0) (some (.int .i64 ((0 : Nat) : Int))) none none).run Try.prog w = .ok (.slice none 0 0) w := by
  unfold slB
  rw [run_sliceAt_slice _ _ _ _ _ _ elem8, run_slice_l _ _ _ _ _ elem8 _ _ (by omega) (by omega), size8]
  simp [sliced, Result.andThen]

set_option maxHeartbeats 600000 in
set_option maxRecDepth 100000 in
theorem newReader_c (p : Option Addr) (l : List Nat) (n cap : Nat) (w : World) (hn : n = l.length) (hl : l.length ≤ 65536) (hB : Bs0 w p l) (hp : p = none → cap = 0) :
    Calls Try.prog 23 #[.slice p n cap] w fun e w' => ∃ g bb, e = .returned (.pointer (some ⟨g, 0, none⟩)) ∧ Rd w' g bb (0, l) ∧ w.heap.size ≤ g ∧ (∀ k, bb = some k → w.heap.size ≤ k) ∧ Below w.heap.size w w' := by
  have h1 : ¬ (65536 : Int) < (n : Int) := by omega
  have KC := Lib.hid (clone_c p l n cap w hn hB hp (by omega))
  have HL := Lib.hid hl
  clear hl hB hp hn
  go_enter Try.func23, Try.ntmps23
  go_wp2_with fail
  refine KC.out.mono ?_
  rintro e w1 ⟨v, rfl, ho, hb1⟩
  have HO := Lib.hid ho
  have HB := Lib.hid hb1
  obtain ⟨p1, c1, rfl, _, hc1, hp1⟩ := ho.bs
  have HC := Lib.hid hc1
  have HP := Lib.hid hp1
  have HE := Lib.hid (Eq.refl l.length)
  clear ho hb1 hc1 hp1
  generalize hk : l.length = k at *
  have Hk := Lib.hid hk
  clear hk
  go_wp2_with fail
  go_ret
  refine ⟨_, (Value.slice p1 k c1).ownBlock, rfl, ?_, HB.out.size, fun k' hk' => (World.ownsRow.lt HO.out k' hk').1, (HB.out).trans ((below_alloc (Below.refl w1.heap.size w1) _).mono HB.out.size)⟩
  have hlt := World.ownsRow.lt HO.out
  refine ⟨p1, c1, by simp only [Hk.out]; exact RowAt.of (block_new w1 _), ?_, HP.out, by simp only [Hk.out]; exact HC.out, fun e => by have := (hlt _ e).2; omega, by simp only [Hk.out]; exact HL.out, fun k' hk' => Nat.lt_of_lt_of_le (hlt k' hk').2 (by simp)⟩
  rcases HO.out.2 with ⟨hv, h0⟩ | ⟨gx, cap, cur, hv, _⟩
  · cases hv
    exact .inl ⟨rfl, List.length_eq_zero_iff.1 h0⟩
  · cases hv
    exact .inr ⟨gx, 0, rfl, rfl, (OwnB.bytes HO.out (hlt gx rfl).2).grow (below_alloc (Below.refl _ _) _)⟩
theorem newReader_bad (p : Option Addr) (n cap : Nat) (w : World) (h : 65536 < n) : Calls Try.prog 23 #[.slice p n cap] w fun e w' => e = .returned (.pointer none) ∧ w' = w := by
  have h1 : (65536 : Int) < (n : Int) := by omega
  go_enter Try.func23, Try.ntmps23
  go_wp2_with fail
  go_ret
  exact ⟨rfl, rfl⟩
end Go.Proofs.Ytdeeecdpgmibnaa

/-
  Package octet: what a reader takes.
-/
namespace Go.Proofs.Ytdeeecdpgmibnaa
open Go.RowKit Go.Hold Go.Sh Go.Oc

/-- What is taken. -/
def tkL (l : List Nat) (n : Nat) : List Nat := if l.length < n then [] else l.take n
theorem Rd.stop {w : World} {g : Nat} {bb : Option Nat} {s : Ws} (h : Rd w g bb s) :
    Calls Try.prog 32 #[.pointer (some ⟨g, 0, none⟩)] w fun e w' => e = .returned (.int .i64 s.1) ∧ w' = w := by
  obtain ⟨v, hr⟩ := h.row
  exact rstopped_c g true s.1 w (hr.cellAt 0 rfl) (hr.cellAt 1 rfl)
theorem RB.drop {w : World} {bb : Option Nat} {b o n cap : Nat} {l : List Nat} (h : RB w bb (some ⟨b, o, none⟩) l) (hc : l.length ≤ cap) : RB w bb (some ⟨b, adv o n cap, none⟩) (l.drop n) := by
  rcases h with ⟨h, _⟩ | ⟨b', o', e1, e2, h⟩
  · cases h
  · cases e2
    exact .inr ⟨b, _, e1, rfl, h.adv hc⟩
set_option maxHeartbeats 600000 in
set_option maxRecDepth 100000 in
theorem rtake_c (g : Nat) (bb : Option Nat) (l : List Nat) (n : Nat) (w : World) (h : Rd w g bb (0, l)) :
    Calls Try.prog 33 #[.pointer (some ⟨g, 0, none⟩), .int .i64 (n : Int)] w fun e w' => ∃ p c, e = .returned (.tuple #[.slice p (tkL l n).length c, .int .i64 (takS (0, l) n).1]) ∧ Bs0 w' p (tkL l n) ∧ (p = none → c = 0) ∧ RStep w g bb (takS (0, l) n) w' := by
  have H := Lib.hid h
  obtain ⟨p, c, hr, hb, hpc, hlc, hap, hle, hbl⟩ := h
  simp only at hr hb hlc hle
  have hc1 := hr.cellAt 1 (show (rrow true 0 (.slice p l.length c))[1]? = some (.int .i64 0) from rfl)
  have hc2 := hr.cellAt 2 (show (rrow true 0 (.slice p l.length c))[2]? = some (.slice p l.length c) from rfl)
  have hf1 := hr.frozenAt 1
  have hf2 := hr.frozenAt 2
  have hgl := hr.2.2
  obtain ⟨k, ek⟩ : ∃ k, k = l.length := ⟨_, rfl⟩
  by_cases hs : l.length < n
  · have e1 : tkL l n = [] := by unfold tkL; rw [if_pos hs]
    have e2 : takS (0, l) n = (4, l) := by unfold takS; rw [if_pos hs]
    rw [e1, e2]
    have h1 : (k : Int) < (n : Int) := by omega
    have KF := Lib.hid (fail_c g 4 0 w hc1 hf1)
    have HE := Lib.hid (RStep.err H.out 4)
    rw [← ek] at hc2
    clear hr hb hpc hlc hap hle hbl hs e1 e2 hc1 hf1 hf2 ek
    go_enter Try.func33, Try.ntmps33
    go_wp2_with fail
    refine KF.out.mono ?_
    rintro e w' ⟨rfl, rfl⟩
    go_wp2_with fail
    refine bodyPost_ret (v := .tuple #[.slice none 0 0, .int .i64 4]) (results_tmp2 Try.results33 _ _ _) rfl ⟨none, 0, rfl, .inl rfl, fun _ => rfl, HE.out⟩
  · have e1 : tkL l n = l.take n := by unfold tkL; rw [if_neg hs]
    have e2 : takS (0, l) n = (0, l.drop n) := by unfold takS; rw [if_neg hs]
    rw [e1, e2]
    have h1 : ¬ (k : Int) < (n : Int) := by omega
    have hlen : (l.take n).length = n := by rw [List.length_take]; omega
    have hh := slB_h p k c n (by omega)
    have hbt := hb.any.take n
    have hld : (l.drop n).length = k - n := by rw [List.length_drop, ek]
    have hc64 : c ≤ c := Nat.le_refl _
    rcases hb with ⟨rfl, rfl⟩ | ⟨b, o, rfl, rfl, hb⟩
    · obtain rfl := hpc rfl
      obtain rfl : n = 0 := by simp at hs; exact hs
      obtain rfl : k = 0 := by rw [ek]; rfl
      have hlo := slB_loN
      have HE := Lib.hid (RStep.put H.out (.inl ⟨rfl, rfl⟩) (fun _ => rfl) (Nat.le_refl _) (by simp) : RStep w g bb (0, []) _)
      clear hr hpc hlc hap hle hbl hs e1 e2 hc1 hf1 ek hlen hld hbt
      simp only [List.length_nil, List.take_nil, List.drop_nil] at *
      rw [show ((0 : Nat) : Int) = 0 from rfl] at *
      go_enter Try.func33, Try.ntmps33
      go_wp2_with fail
      refine bodyPost_ret (v := .tuple #[.slice none 0 0, .int .i64 0]) (results_tmp2 Try.results33 _ _ _) rfl ⟨none, 0, rfl, .inl rfl, fun _ => rfl, HE.out⟩
    · have hlo := slB_lo b o k c n (by omega)
      have hrb : RB w (some b) (some ⟨b, adv o n c, none⟩) (l.drop n) := RB.drop (.inr ⟨b, o, rfl, rfl, hb⟩) hlc
      have HE0 : RStep w g (some b) (0, l.drop n) _ := RStep.put (c := c - n) H.out hrb (fun e => by cases e) (by omega) (by omega)
      have HBt := Lib.hid (show Bs0 (w.setCell ⟨g, 2, none⟩ (.slice (some ⟨b, adv o n c, none⟩) (l.drop n).length (c - n))) (some ⟨b, o, none⟩) (l.take n) from
        hbt.moves (Moves.setCell (Moves.refl w g none) 2 _) (fun b' o' e => by cases e; exact ⟨fun e => hap (by rw [e]), fun e => by cases e⟩))
      rw [hld] at HE0 HBt
      have HE := Lib.hid HE0
      rw [← ek] at hc2
      clear hr hpc hlc hap hle hbl hs e1 e2 hc1 hf1 ek hrb hld hbt hb HE0
      generalize l.take n = t at *
      subst hlen
      go_enter Try.func33, Try.ntmps33
      go_wp2_with fail
      refine bodyPost_ret (v := .tuple #[.slice (some ⟨b, o, none⟩) t.length c, .int .i64 0]) (results_tmp2 Try.results33 _ _ _) rfl ⟨_, _, rfl, HBt.out, (fun e => by cases e), HE.out⟩

set_option maxHeartbeats 600000 in
set_option maxRecDepth 100000 in
theorem joined_c (p : Option Addr) (l : List Nat) (n cap : Nat) (w : World) (hn : n = l.length) (hl : l.length ≤ 8) (hB : Bs0 w p l) (hlb : ∀ i, l.getD i 0 < 256) :
    Calls Try.prog 34 #[.slice p n cap] w fun e w' => e = .returned (.int .u64 (joinN l : Int)) ∧ w' = w := by
  have HB := Lib.hid hB
  have Hn := Lib.hid hn
  have HL := Lib.hid hl
  have HLb := Lib.hid hlb
  clear hB hn hl hlb
  go_enter Try.func34, Try.ntmps34
  go_wp2_with fail
  go_loopw [3, 8] (fun z i wr => ∃ j : Nat, j ≤ n ∧ i = .int .i64 j ∧ z = .int .u64 (joinN (l.take j) : Int) ∧ wr = w) (fun _ i _ => n - (intOf i).toNat)
  case atStart => exact ⟨0, Nat.zero_le _, rfl, rfl, rfl⟩
  case round =>
    obtain ⟨j, hj, rfl, rfl, hwr⟩ := hrel
    subst hwr
    by_cases hjn : j < n
    · have hj0 : (0 : Int) ≤ (j : Int) := by omega
      have hj1 : (j : Int) < (n : Int) := by omega
      have hjb : (j : Int) < 8 := by have := HL.out; have := Hn.out; omega
      have hjl : j < l.length := by rw [← Hn.out]; exact hjn
      obtain ⟨b, o, hp, hby⟩ : ∃ b o, p = some ⟨b, o, none⟩ ∧ BytesAt wr b o l := by
        rcases HB.out with rfl | h
        · simp at hjl
        · exact h
      subst hp
      have hcj := hby.2 j hjl
      have hx := HLb.out j
      have ht : l.take (j + 1) = l.take j ++ [l.getD j 0] := by rw [List.take_add_one, List.getElem?_eq_getElem hjl]; simp [List.getD, hjl]
      obtain ⟨x, ex⟩ : ∃ x, x = l.getD j 0 := ⟨_, rfl⟩
      rw [← ex] at hcj hx ht
      have hjs : joinN (l.take (j + 1)) = joinN (l.take j) * 256 + x := by rw [ht, join_snoc]
      have hlt := join_lt (l.take (j + 1)) (bts_take HLb.out _)
      have hpow : (2 : Nat) ^ (8 * (l.take (j + 1)).length) ≤ 18446744073709551616 := by
        rw [show (18446744073709551616 : Nat) = 2 ^ 64 from rfl]
        refine Nat.pow_le_pow_right (by decide) ?_
        rw [List.length_take]; have := HL.out; omega
      obtain ⟨a2, ea2⟩ : ∃ a, a = joinN (l.take (j + 1)) := ⟨_, rfl⟩
      obtain ⟨a, ea⟩ : ∃ a, a = joinN (l.take j) := ⟨_, rfl⟩
      rw [← ea2, ← ea] at hjs
      rw [← ea2] at hlt
      rw [← ea]
      obtain ⟨y, ey⟩ : ∃ y, y = a * 256 := ⟨_, rfl⟩
      have hsh : IntKind.u64.wrap ((a : Int) * 256) = (y : Int) := by rw [IntWalk.u64_in _ (by omega)]; omega
      have hcx : IntKind.u64.wrap (x : Int) = (x : Int) := IntWalk.u64_in _ (by omega)
      have hor : bits .or .u64 (y : Int) (x : Int) = (a2 : Int) := by rw [bits_or_u64_nat y x (by omega) (by omega), ey, or_add a x hx, hjs]
      have Ea2 := Lib.hid ea2
      clear hby hx ht ex hjs hlt hpow ea2 ea ey hjl
      go_wp2_with fail
      go_roundw
      case rel => exact ⟨j + 1, by omega, by go_num, by rw [← Ea2.out], by first | trivial | rfl⟩
      case measure => simp [intOf]; omega
    · obtain rfl : j = n := by omega
      have hall : l.take j = l := List.take_of_length_le (by rw [← Hn.out]; exact Nat.le_refl _)
      rw [hall]
      clear hall
      go_wp2_with fail
      go_ret
      exact ⟨rfl, rfl⟩
end Go.Proofs.Ytdeeecdpgmibnaa

/-
  Package octet: a reader's calls that take, and whether nothing but noughts is left.
-/
namespace Go.Proofs.Ytdeeecdpgmibnaa
open Go.RowKit Go.Hold Go.Sh Go.Oc

/-- What 'stopped' answers of a reader, or of none. -/
def RStop (w : World) (v : Value) (er : Int) : Prop := Calls Try.prog 32 #[v] w fun e w' => e = .returned (.int .i64 er) ∧ w' = w
theorem rdNum_stop (po : Option Addr) (er : Int) (her : ¬ er = 0) (a : Value) (w : World) (h : RStop w (.pointer po) er) : Calls Try.prog 24 #[.pointer po, a] w fun e w' => e = .returned (.tuple #[.int .u64 0, .int .i64 er]) ∧ w' = w := by
  have HS := Lib.hid h
  unfold RStop at HS
  clear h
  go_enter Try.func24, Try.ntmps24
  go_wp2_with fail
  refine HS.out.mono ?_
  rintro e w' ⟨rfl, rfl⟩
  go_wp2_with fail
  refine bodyPost_ret (v := .tuple #[.int .u64 0, .int .i64 er]) (results_tmp2 Try.results24 _ _ _) rfl ⟨rfl, rfl⟩
theorem rdBytes_stop (po : Option Addr) (er : Int) (her : ¬ er = 0) (a : Value) (w : World) (h : RStop w (.pointer po) er) : Calls Try.prog 25 #[.pointer po, a] w fun e w' => e = .returned (.tuple #[.slice none 0 0, .int .i64 er]) ∧ w' = w := by
  have HS := Lib.hid h
  unfold RStop at HS
  clear h
  go_enter Try.func25, Try.ntmps25
  go_wp2_with fail
  refine HS.out.mono ?_
  rintro e w' ⟨rfl, rfl⟩
  go_wp2_with fail
  refine bodyPost_ret (v := .tuple #[.slice none 0 0, .int .i64 er]) (results_tmp2 Try.results25 _ _ _) rfl ⟨rfl, rfl⟩
theorem rdDone_stop (po : Option Addr) (er : Int) (her : ¬ er = 0) (w : World) (h : RStop w (.pointer po) er) : Calls Try.prog 26 #[.pointer po] w fun e w' => e = .returned (.bool false) ∧ w' = w := by
  have HS := Lib.hid h
  unfold RStop at HS
  have h2 : (er != 0) = true := by simpa using her
  clear h
  go_enter Try.func26, Try.ntmps26
  go_wp2_with fail
  refine HS.out.mono ?_
  rintro e w' ⟨rfl, rfl⟩
  go_wp2_with fail
  go_ret
  exact ⟨rfl, rfl⟩

set_option maxHeartbeats 1000000 in
set_option maxRecDepth 100000 in
theorem rdNum_c (g : Nat) (bb : Option Nat) (s : Ws) (sz : Int) (w : World) (h : Rd w g bb s) (hb : ∀ i, s.2.getD i 0 < 256) :
    Calls Try.prog 24 #[.pointer (some ⟨g, 0, none⟩), .int .i64 sz] w fun e w' => e = .returned (.tuple #[.int .u64 (rnumV s sz : Int), .int .i64 (rnumS s sz).1]) ∧ RStep w g bb (rnumS s sz) w' := by
  have HS := Lib.hid h.stop
  obtain ⟨er, l⟩ := s
  by_cases her : er = 0
  · subst her
    have hs : rnumS (0, l) sz = if ¬ (1 ≤ sz ∧ sz ≤ 8) then (2, l) else takS (0, l) sz.toNat := by unfold rnumS; rw [if_neg (by simp)]
    rw [hs]
    by_cases h18 : 1 ≤ sz ∧ sz ≤ 8
    · rw [if_neg (by simpa using h18)]
      obtain ⟨z, rfl⟩ : ∃ z : Nat, sz = (z : Int) := ⟨sz.toNat, by omega⟩
      rw [Int.toNat_natCast]
      have KT := Lib.hid (rtake_c g bb l z w h)
      have hv : rnumV (0, l) (z : Int) = joinN (tkL l z) := by
        unfold rnumV tkL
        simp only [Int.toNat_natCast]
        by_cases hx : l.length < z
        · rw [if_neg (by omega), if_pos hx]; rfl
        · rw [if_pos ⟨by simp, h18, by omega⟩, if_neg hx]
      rw [hv]
      have HT := Lib.hid (show (tkL l z).length ≤ 8 ∧ ∀ i, (tkL l z).getD i 0 < 256 by
        unfold tkL; split
        · exact ⟨by simp, fun i => by simp⟩
        · exact ⟨by rw [List.length_take]; omega, bts_take hb _⟩)
      have h1 : ¬ (z : Int) < 1 := by omega
      have h8 : ¬ (8 : Int) < (z : Int) := by omega
      obtain ⟨x, ex⟩ : ∃ x, x = joinN (tkL l z) := ⟨_, rfl⟩
      rw [← ex]
      have Ex := Lib.hid ex
      clear hs h hb hv h18 ex
      go_enter Try.func24, Try.ntmps24
      go_wp2_with fail
      refine HS.out.mono ?_
      rintro e w' ⟨rfl, rfl⟩
      go_wp2_with fail
      refine KT.out.mono ?_
      rintro e w1 ⟨p, c, rfl, hb1, _, hst⟩
      have KJ := Lib.hid (joined_c p (tkL l z) (tkL l z).length c w1 rfl HT.out.1 hb1 HT.out.2)
      have HR := Lib.hid hst
      clear hb1 hst KT
      rw [← Ex.out] at KJ
      generalize (tkL l z).length = k at *
      go_wp2_with fail
      refine KJ.out.mono ?_
      rintro e w' ⟨rfl, rfl⟩
      go_wp2_with fail
      refine bodyPost_ret (v := .tuple #[.int .u64 (x : Int), .int .i64 (takS (0, l) z).1]) (results_tmp2 Try.results24 _ _ _) rfl ⟨rfl, HR.out⟩
    · rw [if_pos h18]
      have hv : rnumV (0, l) sz = 0 := by unfold rnumV; rw [if_neg (fun e => h18 e.2.1)]
      rw [hv]
      obtain ⟨v, hr⟩ := h.row
      have KF := Lib.hid (fail_c g 2 0 w (hr.cellAt 1 rfl) (hr.frozenAt 1))
      have HE := Lib.hid (RStep.err h 2)
      clear hs h hb hv hr
      by_cases h1 : sz < 1
      · clear h18
        go_enter Try.func24, Try.ntmps24
        go_wp2_with fail
        refine HS.out.mono ?_
        rintro e w' ⟨rfl, rfl⟩
        go_wp2_with fail
        refine KF.out.mono ?_
        rintro e w' ⟨rfl, rfl⟩
        go_wp2_with fail
        refine bodyPost_ret (v := .tuple #[.int .u64 0, .int .i64 2]) (results_tmp2 Try.results24 _ _ _) rfl ⟨rfl, HE.out⟩
      · have h8 : (8 : Int) < sz := by omega
        clear h18
        go_enter Try.func24, Try.ntmps24
        go_wp2_with fail
        refine HS.out.mono ?_
        rintro e w' ⟨rfl, rfl⟩
        go_wp2_with fail
        refine KF.out.mono ?_
        rintro e w' ⟨rfl, rfl⟩
        go_wp2_with fail
        refine bodyPost_ret (v := .tuple #[.int .u64 0, .int .i64 2]) (results_tmp2 Try.results24 _ _ _) rfl ⟨rfl, HE.out⟩
  · have hs : rnumS (er, l) sz = (er, l) := by unfold rnumS; rw [if_pos her]
    have hv : rnumV (er, l) sz = 0 := by unfold rnumV; rw [if_neg (fun e => her e.1)]
    rw [hs, hv]
    refine (rdNum_stop _ er her _ w HS.out).mono ?_
    rintro e w' ⟨rfl, rfl⟩
    exact ⟨rfl, RStep.refl h⟩

set_option maxHeartbeats 1000000 in
set_option maxRecDepth 100000 in
theorem rdBytes_c (g : Nat) (bb : Option Nat) (s : Ws) (n : Int) (w : World) (h : Rd w g bb s) :
    Calls Try.prog 25 #[.pointer (some ⟨g, 0, none⟩), .int .i64 n] w fun e w' => ∃ v, e = .returned (.tuple #[v, .int .i64 (rbytS s n).1]) ∧ OwnB w' w.heap.size v (rbytV s n) ∧ RStep w g bb (rbytS s n) w' := by
  have HS := Lib.hid h.stop
  obtain ⟨er, l⟩ := s
  by_cases her : er = 0
  · subst her
    have hs : rbytS (0, l) n = if n < 0 then (2, l) else takS (0, l) n.toNat := by unfold rbytS; rw [if_neg (by simp)]
    rw [hs]
    by_cases h0 : n < 0
    · rw [if_pos h0]
      have hv : rbytV (0, l) n = [] := by unfold rbytV; rw [if_neg (fun e => by have := e.2.1; omega)]
      rw [hv]
      obtain ⟨v, hr⟩ := h.row
      have KF := Lib.hid (fail_c g 2 0 w (hr.cellAt 1 rfl) (hr.frozenAt 1))
      have HE := Lib.hid (RStep.err h 2)
      clear hs h hv hr
      go_enter Try.func25, Try.ntmps25
      go_wp2_with fail
      refine HS.out.mono ?_
      rintro e w' ⟨rfl, rfl⟩
      go_wp2_with fail
      refine KF.out.mono ?_
      rintro e w' ⟨rfl, rfl⟩
      go_wp2_with fail
      refine bodyPost_ret (v := .tuple #[.slice none 0 0, .int .i64 2]) (results_tmp2 Try.results25 _ _ _) rfl ⟨_, rfl, own_nil _ _, HE.out⟩
    · rw [if_neg h0]
      obtain ⟨z, rfl⟩ : ∃ z : Nat, n = (z : Int) := ⟨n.toNat, by omega⟩
      rw [Int.toNat_natCast]
      have KT := Lib.hid (rtake_c g bb l z w h)
      have hv : rbytV (0, l) (z : Int) = tkL l z := by
        unfold rbytV tkL
        simp only [Int.toNat_natCast]
        by_cases hx : l.length < z
        · rw [if_neg (by omega), if_pos hx]
        · rw [if_pos ⟨by simp, by omega, by omega⟩, if_neg hx]
      rw [hv]
      have HT := Lib.hid (show (tkL l z).length ≤ 16000000 by
        have := h.le
        simp only at this
        unfold tkL; split
        · simp
        · rw [List.length_take]; omega)
      clear hs h hv
      go_enter Try.func25, Try.ntmps25
      go_wp2_with fail
      refine HS.out.mono ?_
      rintro e w' ⟨rfl, rfl⟩
      go_wp2_with fail
      refine KT.out.mono ?_
      rintro e w1 ⟨p, c, rfl, hb1, hp1, hst⟩
      have KJ := Lib.hid (clone_c p (tkL l z) (tkL l z).length c w1 rfl hb1 hp1 HT.out)
      have HR := Lib.hid hst
      clear hb1 hp1 hst KT
      generalize (tkL l z).length = k at *
      go_wp2_with fail
      refine KJ.out.mono ?_
      rintro e w2 ⟨v2, rfl, ho2, hb2⟩
      have HO := Lib.hid ho2
      have HB := Lib.hid hb2
      clear ho2 hb2
      go_wp2_with fail
      refine bodyPost_ret (v := .tuple #[v2, .int .i64 (takS (0, l) z).1]) (results_tmp2 Try.results25 _ _ _) rfl ⟨_, rfl, HO.out.base HR.out.2.size, HR.out.grow HB.out⟩
  · have hs : rbytS (er, l) n = (er, l) := by unfold rbytS; rw [if_pos her]
    have hv : rbytV (er, l) n = [] := by unfold rbytV; rw [if_neg (fun e => her e.1)]
    rw [hs, hv]
    refine (rdBytes_stop _ er her _ w HS.out).mono ?_
    rintro e w' ⟨rfl, rfl⟩
    exact ⟨_, rfl, own_nil _ _, RStep.refl h⟩

theorem done_zero (l : List Nat) (k : Nat) (h : ∀ i, i < k → l.getD i 0 = 0) (hk : l.length ≤ k) : l.all (· == 0) = true := by
  rw [List.all_eq_true]
  intro x hx
  obtain ⟨i, hi, rfl⟩ := List.getElem_of_mem hx
  have := h i (by omega)
  simpa [List.getD, hi] using this
theorem done_not (l : List Nat) (k : Nat) (hk : k < l.length) (h : l.getD k 0 ≠ 0) : l.all (· == 0) = false := by
  rw [List.all_eq_false]
  refine ⟨l[k], List.getElem_mem hk, ?_⟩
  simpa [List.getD, hk] using h
set_option maxHeartbeats 1000000 in
set_option maxRecDepth 100000 in
theorem rdDone_c (g : Nat) (bb : Option Nat) (s : Ws) (w : World) (h : Rd w g bb s) :
    Calls Try.prog 26 #[.pointer (some ⟨g, 0, none⟩)] w fun e w' => e = .returned (.bool (doneS s)) ∧ w' = w := by
  have HS := Lib.hid h.stop
  obtain ⟨er, l⟩ := s
  by_cases her : er = 0
  · subst her
    have hs : doneS (0, l) = l.all (· == 0) := by unfold doneS; simp
    rw [hs]
    have hle := h.le
    obtain ⟨p, c, hr, hb, _⟩ := h
    simp only at hr hb hle
    have hc2 := hr.cellAt 2 (show (rrow true 0 (.slice p l.length c))[2]? = some (.slice p l.length c) from rfl)
    have hgl := hr.2.2
    have HB := Lib.hid hb.any
    clear hs hr hb
    obtain ⟨n, en⟩ : ∃ n, n = l.length := ⟨_, rfl⟩
    have hnb : (n : Int) ≤ 65536 := by omega
    have Hn := Lib.hid en
    rw [← en] at hc2
    clear en hle
    go_enter Try.func26, Try.ntmps26
    go_wp2_with fail
    refine HS.out.mono ?_
    rintro e w' ⟨rfl, rfl⟩
    go_wp2_with fail
    go_loopw [13] (fun i wr => ∃ j : Nat, j ≤ n ∧ i = .int .i64 j ∧ (∀ i, i < j → l.getD i 0 = 0) ∧ wr = w') (fun i _ => n - (intOf i).toNat)
    case atStart => exact ⟨0, Nat.zero_le _, rfl, fun i hi => absurd hi (by omega), rfl⟩
    case round =>
      obtain ⟨j, hj, rfl, hz, hwr⟩ := hrel
      subst hwr
      have HZ := Lib.hid hz
      clear hz
      by_cases hjn : j < n
      · have hj0 : (0 : Int) ≤ (j : Int) := by omega
        have hj1 : (j : Int) < (n : Int) := by omega
        have hjb : (j : Int) < 65536 := by omega
        have hjl : j < l.length := by rw [← Hn.out]; exact hjn
        obtain ⟨b, o, hp, hby⟩ : ∃ b o, p = some ⟨b, o, none⟩ ∧ BytesAt wr b o l := by
          rcases HB.out with rfl | h
          · simp at hjl
          · exact h
        subst hp
        have hcj := hby.2 j hjl
        have HJ := Lib.hid hjl
        obtain ⟨x, ex⟩ : ∃ x, x = l.getD j 0 := ⟨_, rfl⟩
        rw [← ex] at hcj
        have Ex := Lib.hid ex
        clear hby hjl ex
        by_cases hx : x = 0
        · subst hx
          go_wp2_with fail
          go_roundw
          case rel => exact ⟨j + 1, by omega, by go_num, fun i hi => by
            by_cases e : i = j
            · subst e; exact Ex.out.symm
            · exact HZ.out i (by omega), by first | trivial | rfl⟩
          case measure => simp [intOf]; omega
        · have hx' : ((x : Int) != 0) = true := by simpa using hx
          have HF := Lib.hid (done_not l j HJ.out (by rw [← Ex.out]; exact hx))
          clear hx
          go_wp2_with fail
          go_ret
          exact ⟨by rw [HF.out]; rfl, rfl⟩
      · obtain rfl : j = n := by omega
        have HF := Lib.hid (done_zero l j HZ.out (by rw [← Hn.out]; exact Nat.le_refl _))
        go_wp2_with fail
        go_ret
        exact ⟨by rw [HF.out]; rfl, rfl⟩
  · have hs : doneS (er, l) = false := by unfold doneS; simp [her]
    rw [hs]
    exact rdDone_stop _ er her w HS.out
end Go.Proofs.Ytdeeecdpgmibnaa

/-
  Package octet: the calls of a reader that has bytes; what is made behind a world W0 alone changes.
-/
namespace Go.Proofs.Ytdeeecdpgmibnaa
open Go.RowKit Go.Hold Go.Sh Go.Oc

theorem rnum_ok {W0 w : World} {g : Nat} {bb : Option Nat} {l : List Nat} (h : Rd w g bb (0, l)) (hl : ∀ i, l.getD i 0 < 256) (hg : W0.heap.size ≤ g) (hb : Below W0.heap.size W0 w) (sz : Nat) (h1 : 1 ≤ sz) (h8 : sz ≤ 8) (hr : sz ≤ l.length) :
    Calls Try.prog 24 #[.pointer (some ⟨g, 0, none⟩), .int .i64 (sz : Int)] w fun e w' => e = .returned (.tuple #[.int .u64 (joinN (l.take sz) : Int), .int .i64 0]) ∧ Rd w' g bb (0, l.drop sz) ∧ Below W0.heap.size W0 w' := by
  refine (rdNum_c g bb (0, l) (sz : Int) w h hl).mono ?_
  rintro e w' ⟨rfl, h2, hm⟩
  rw [rnumS_ok h1 h8 hr] at h2 ⊢
  rw [rnumV_ok h1 h8 hr]
  exact ⟨rfl, h2, hm.below hb hb.size hg (fun _ e => by cases e)⟩
theorem rbytes_ok {W0 w : World} {g : Nat} {bb : Option Nat} {l : List Nat} (h : Rd w g bb (0, l)) (hg : W0.heap.size ≤ g) (hb : Below W0.heap.size W0 w) (n : Nat) (hr : n ≤ l.length) :
    Calls Try.prog 25 #[.pointer (some ⟨g, 0, none⟩), .int .i64 (n : Int)] w fun e w' => ∃ v, e = .returned (.tuple #[v, .int .i64 0]) ∧ OwnB w' w.heap.size v (l.take n) ∧ Rd w' g bb (0, l.drop n) ∧ Below W0.heap.size W0 w' := by
  refine (rdBytes_c g bb (0, l) (n : Int) w h).mono ?_
  rintro e w' ⟨v, rfl, ho, h2, hm⟩
  rw [rbytS_ok hr] at h2 ⊢
  rw [rbytV_ok hr] at ho
  exact ⟨v, rfl, ho, h2, hm.below hb hb.size hg (fun _ e => by cases e)⟩
theorem rdone_ok {w : World} {g : Nat} {bb : Option Nat} {l : List Nat} (h : Rd w g bb (0, l)) :
    Calls Try.prog 26 #[.pointer (some ⟨g, 0, none⟩)] w fun e w' => e = .returned (.bool (l.all (· == 0))) ∧ w' = w := by
  refine (rdDone_c g bb (0, l) w h).mono ?_
  rintro e w' ⟨rfl, hw⟩
  exact ⟨by simp [doneS], hw⟩
end Go.Proofs.Ytdeeecdpgmibnaa

/-
  Package command: the command of bytes.
-/
namespace Go.Cm
open Go Go.Sh Go.Oc
theorem join_1 {l : List Nat} (h : 1 ≤ l.length) : joinN (l.take 1) = l.getD 0 0 := by
  match l, h with
  | x :: _, _ => simp [joinN]
theorem join_2 {l : List Nat} (h : 2 ≤ l.length) : joinN (l.take 2) = l.getD 0 0 * 256 + l.getD 1 0 := by
  match l, h with
  | x :: y :: _, _ => simp [joinN]
theorem getD_drop (l : List Nat) (i j : Nat) : (l.drop i).getD j 0 = l.getD (i + j) 0 := by simp [List.getD, List.getElem?_drop]
end Go.Cm
namespace Go.Proofs.Ytdeeecdpgmibnaa
open Go.RowKit Go.Hold Go.Sh Go.Oc Go.Cm

theorem setL_id (c : Cmd) (hc : c.id.length = 8) (m : List Nat) (hm : m.length = 8) : setL (cmdA c) 3 (bys m) = cmdA ⟨c.k, c.n, c.d, m⟩ := by
  apply Array.ext_getElem?
  intro i
  rw [setL_get, bys_length, hm, cmdA_size hc]
  by_cases h : 3 ≤ i ∧ i < 3 + 8 ∧ i < 11
  · rw [if_pos h]
    obtain ⟨j, rfl⟩ : ∃ j, i = 3 + j := ⟨i - 3, by omega⟩
    rw [cmdA_get ⟨c.k, c.n, c.d, m⟩ j (by simp only [hm]; omega), Nat.add_sub_cancel_left]
    simp only [bys, List.getElem?_map, List.getD]
    rw [List.getElem?_eq_getElem (by omega)]; rfl
  · rw [if_neg h]
    by_cases h3 : i < 3
    · match i, h3 with
      | 0, _ => rw [cmdA_0, cmdA_0]
      | 1, _ => rw [cmdA_1, cmdA_1]
      | 2, _ => rw [cmdA_2, cmdA_2]
    · rw [Array.getElem?_eq_none (by rw [cmdA_size hc]; omega), Array.getElem?_eq_none (by rw [cmdA_size (c := ⟨c.k, c.n, c.d, m⟩) hm]; omega)]
/-- An id goes into a command. -/
theorem copy_id {W : World} {g cap : Nat} {p : Option Addr} {c : Cmd} {m : List Nat} (h : RowAt W g (cmdA c)) (hc : c.id.length = 8) (hm : m.length = 8) (hB : Bs0 W p m) :
    (Builtin.copy_ #[51, 51] 3 #[.slice (some ⟨g, 3, none⟩) 8 8, .slice p 8 cap]).run Try.prog W = .ok (.int .i64 8) (W.setRow g (cmdA ⟨c.k, c.n, c.d, m⟩)) := by
  rcases hB with rfl | ⟨b, o, rfl, hB⟩
  · cases hm
  · have hl : (bys m).length = 8 := by rw [bys_length]; exact hm
    have hi : (Try.prog.info? 5).map (·.size) = some 1 := by kernel_rfl
    have := run_copy_cells (P := Try.prog) W 51 51 3 5 g 3 8 8 ⟨b, o, none⟩ 8 cap (bys m) Try.underlying51 hi (by rw [hl]; decide)
      (fun j v hv => by
        have hj : j < 8 := by have := (List.getElem?_eq_some_iff.1 hv).1; omega
        rw [Addr.add_mid, hB.2 j (by omega), ← hv]
        simp only [bys, List.getElem?_map, List.getD]
        rw [List.getElem?_eq_getElem (by omega)]; rfl)
      (fun j hj => by rw [h.cellAt (3 + j) (Array.getElem?_eq_getElem (by rw [cmdA_size hc]; omega))]; rfl)
      (fun j _ => h.frozenAt _) (bys_one _)
    rw [this, hl, setCells_row _ _ h, setL_id c hc m hm]
    rfl
set_option maxHeartbeats 1000000 in
set_option maxRecDepth 100000 in
theorem decode_c (b : List Nat) (hb : b.length = 16) (hbb : ∀ i, b.getD i 0 < 256) (w : World) :
    Calls Try.prog 13 #[.agg (bysA b)] w fun e w' => e = .returned (.tuple #[.agg (cmdA (decV b)), .int .i64 (decE b)]) ∧ Below w.heap.size w w' := by
  have hzs : (cmdA .zero).size = 11 := cmdA_size rfl
  obtain ⟨x0, e0⟩ : ∃ x, x = b.getD 0 0 := ⟨_, rfl⟩
  obtain ⟨x1, e1⟩ : ∃ x, x = b.getD 1 0 := ⟨_, rfl⟩
  obtain ⟨x2, e2⟩ : ∃ x, x = b.getD 2 0 * 256 + b.getD 3 0 := ⟨_, rfl⟩
  obtain ⟨m, em⟩ : ∃ m, m = (b.drop 4).take 8 := ⟨_, rfl⟩
  obtain ⟨dn, ed⟩ : ∃ d, d = (b.drop 12).all (· == 0) := ⟨_, rfl⟩
  have hml : m.length = 8 := by rw [em]; simp [hb]
  have hC : ofB b = ⟨x0, x1, x2, m⟩ := by rw [e0, e1, e2, em]; rfl
  have hO : okB b = (dn && (Cmd.mk x0 x1 x2 m).may) := by unfold okB; rw [hC, ed]
  have l0 : x0 < 256 := by rw [e0]; exact hbb 0
  have l1 : x1 < 256 := by rw [e1]; exact hbb 1
  have l2 : x2 < 65536 := by rw [e2]; have := hbb 2; have := hbb 3; omega
  have HJ0 := Lib.hid (show joinN (b.take 1) = x0 by rw [join_1 (by omega), ← e0])
  have HJ1 := Lib.hid (show joinN ((b.drop 1).take 1) = x1 by rw [join_1 (by simp; omega), getD_drop, ← e1])
  have HJ2 := Lib.hid (show joinN (((b.drop 1).drop 1).take 2) = x2 by rw [join_2 (by simp; omega), List.drop_drop, getD_drop, getD_drop, ← e2])
  have HJ3 := Lib.hid (show ((((b.drop 1).drop 1).drop 2).take 8) = m by rw [List.drop_drop, List.drop_drop, em])
  have HJ4 := Lib.hid (show (((((b.drop 1).drop 1).drop 2).drop 8).all (· == 0)) = dn by rw [List.drop_drop, List.drop_drop, List.drop_drop, ed])
  have u0 : IntKind.i64.wrap (x0 : Int) = (x0 : Int) := IntWalk.i64_in _ (by omega)
  have u1 : IntKind.i64.wrap (x1 : Int) = (x1 : Int) := IntWalk.i64_in _ (by omega)
  have u2 : IntKind.i64.wrap (x2 : Int) = (x2 : Int) := IntWalk.i64_in _ (by omega)
  have Hb := Lib.hid hb
  have Hbb := Lib.hid hbb
  have hbs : (bysA b).size = 16 := by rw [bysA_size]; exact hb
  have hcz : (cmdA ⟨x0, x1, x2, zs 8⟩).size = 11 := cmdA_size rfl
  have hcm : (cmdA ⟨x0, x1, x2, m⟩).size = 11 := cmdA_size hml
  have KM := Lib.hid (fun (W : World) => may_c ⟨x0, x1, x2, m⟩ hml W)
  have Hml := Lib.hid hml
  have HD := Lib.hid (show decV b = (if okB b then ⟨x0, x1, x2, m⟩ else .zero) by unfold decV; rw [hC])
  have HE := Lib.hid (show decE b = (if okB b then 0 else 5) from rfl)
  rw [hO] at HD HE
  obtain ⟨mb, emb⟩ : ∃ mb, mb = (Cmd.mk x0 x1 x2 m).may := ⟨_, rfl⟩
  rw [← emb] at HD HE KM
  rw [HD.out, HE.out]
  clear HD HE hO hC emb e0 e1 e2 em ed l0 l1 l2 hml hb hbb
  go_enter Try.func13, Try.ntmps13
  go_wp2_with fail
  generalize hW : World.alloc _ _ = W0
  have R0 := Lib.hid (show RowAt W0 w.heap.size (bysA b) by rw [← hW]; clear hW; exact ⟨by go_simp, by go_simp, by go_simp⟩)
  have T0 := Lib.hid (show RowAt W0 (w.heap.size + 1) (cmdA .zero) by rw [← hW]; clear hW; exact ⟨by go_simp, by go_simp; rfl, by go_simp⟩)
  have B0 := Lib.hid (show Below w.heap.size w W0 by rw [← hW]; repeat (first | apply below_alloc | exact Below.refl _ _))
  have hz1 : w.heap.size ≤ w.heap.size + 1 := by omega
  clear hW
  generalize w.heap.size + 1 = t at *
  obtain ⟨z, ez⟩ : ∃ z, z = w.heap.size := ⟨_, rfl⟩
  rw [← ez] at R0 hz1 ⊢
  have Ez := Lib.hid ez
  clear ez
  refine (newReader_c (some ⟨z, 0, none⟩) b 16 16 W0 Hb.out.symm (by rw [Hb.out]; decide) (Bs0.some (bytes_row R0.out)) (fun h => by cases h)).mono ?_
  rintro e w1 ⟨g, bb, rfl, hr1, hg1, _, hb1⟩
  have X1 := Lib.hid hr1
  have Y1 := Lib.hid hb1
  have G1 := Lib.hid hg1
  clear hr1 hb1 hg1 R0
  go_wp2_with fail
  refine (rnum_ok X1.out Hbb.out G1.out Y1.out 1 (by decide) (by decide) (by rw [Hb.out]; decide)).mono ?_
  rintro e w2 ⟨rfl, hr2, hb2⟩
  rw [HJ0.out]
  have X2 := Lib.hid hr2
  have Y2 := Lib.hid hb2
  clear hr2 hb2 X1 Y1
  go_wp2_with fail
  refine (rnum_ok X2.out (bts_drop Hbb.out 1) G1.out Y2.out 1 (by decide) (by decide) (by simp [Hb.out])).mono ?_
  rintro e w3 ⟨rfl, hr3, hb3⟩
  rw [HJ1.out]
  have X3 := Lib.hid hr3
  have Y3 := Lib.hid hb3
  clear hr3 hb3 X2 Y2
  go_wp2_with fail
  refine (rnum_ok X3.out (bts_drop (bts_drop Hbb.out 1) 1) G1.out Y3.out 2 (by decide) (by decide) (by simp [Hb.out])).mono ?_
  rintro e w4 ⟨rfl, hr4, hb4⟩
  rw [HJ2.out]
  have X4 := Lib.hid hr4
  have Y4 := Lib.hid hb4
  clear hr4 hb4 X3 Y3
  go_wp2_with fail
  refine (rbytes_ok X4.out G1.out Y4.out 8 (by simp [Hb.out])).mono ?_
  rintro e w5 ⟨v, rfl, ho, hr5, hb5⟩
  rw [HJ3.out] at ho
  obtain ⟨p, q, rfl, hs5, _, _⟩ := ho.bs
  rw [Hml.out]
  have X5 := Lib.hid hr5
  have Y5 := Lib.hid hb5
  have S5 := Lib.hid hs5
  clear ho hs5 hr5 hb5 X4 Y4 HJ0 HJ1 HJ2 HJ3
  go_wp2_with fail
  generalize hW : World.alloc _ _ = W6
  have hbA : Below w5.heap.size w5 W6 := by rw [← hW]; exact below_alloc (Below.refl _ _) _
  have C6 := Lib.hid (show RowAt W6 w5.heap.size (cmdA ⟨x0, x1, x2, zs 8⟩) by rw [← hW]; clear hW; exact ⟨by go_simp, by go_simp, by go_simp⟩)
  have S6 := Lib.hid (S5.out.grow hbA)
  have X6 := Lib.hid (X5.out.grow hbA)
  have T6 := Lib.hid ((T0.out.keep Y5.out T0.out.2.2).grow hbA)
  have B6 := Lib.hid ((B0.out.trans (Y5.out.mono B0.out.size)).trans (hbA.mono (Nat.le_trans B0.out.size Y5.out.size)))
  have hne : t ≠ w5.heap.size := by have := T0.out.2.2; have := Y5.out.size; omega
  have hle : w.heap.size ≤ w5.heap.size := Nat.le_trans B0.out.size Y5.out.size
  have hng : g ≠ w5.heap.size := by have := X5.out.lt.1; omega
  have hnb : bb ≠ some w5.heap.size := fun e => by have := X5.out.lt.2 _ e; omega
  clear hW hbA S5 X5 T0 B0 Y5 G1
  generalize w5.heap.size = gc at *
  have hcp := copy_id (cap := q) C6.out rfl Hml.out S6.out
  have C7 := Lib.hid (C6.out.set (cmdA ⟨x0, x1, x2, m⟩))
  have T7 := Lib.hid (T6.out.other hne (cmdA ⟨x0, x1, x2, m⟩))
  have B7 := Lib.hid (below_setRow B6.out hle (cmdA ⟨x0, x1, x2, m⟩))
  have X7 := Lib.hid (X6.out.moves (Moves.setRow (Moves.refl W6 gc none) (cmdA ⟨x0, x1, x2, m⟩)) hng (fun e => by cases e) hnb (fun _ _ e => by cases e))
  rw [hcp]
  clear hcp
  generalize W6.setRow gc (cmdA ⟨x0, x1, x2, m⟩) = W7 at *
  clear C6 S6 X6 T6 B6 hng hnb
  obtain ⟨c1, c2, c3⟩ := C7.out
  obtain ⟨t1, t2, t3⟩ := T7.out
  go_simp
  go_wp2_with fail
  refine (rdone_ok X7.out).mono ?_
  rintro e w' ⟨rfl, rfl⟩
  rw [HJ4.out]
  cases dn
  · go_wp2_with fail
    refine bodyPost_ret (v := .tuple #[.agg (cmdA .zero), .int .i64 5]) (results_cmd Try.results13 .zero rfl _ _ _ t rfl (by go_simp) (by go_simp) rfl) rfl ⟨rfl, ?_⟩
    exact below_setRow B7.out (by rw [← Ez.out]; exact hz1) _

  go_wp2_with fail
  refine (KM.out w').mono ?_
  rintro e W8 ⟨rfl, hb8⟩
  have C8 := Lib.hid (C7.out.grow hb8)
  have T8 := Lib.hid (T7.out.grow hb8)
  have B8 := Lib.hid (B7.out.trans (hb8.mono B7.out.size))
  clear hb8 C7 T7 B7 X7 c1 c2 c3 t1 t2 t3
  obtain ⟨c1, c2, c3⟩ := C8.out
  obtain ⟨t1, t2, t3⟩ := T8.out
  cases mb
  · go_wp2_with fail
    refine bodyPost_ret (v := .tuple #[.agg (cmdA .zero), .int .i64 5]) (results_cmd Try.results13 .zero rfl _ _ _ t rfl (by go_simp) (by go_simp) rfl) rfl ⟨rfl, ?_⟩
    exact below_setRow B8.out (by rw [← Ez.out]; exact hz1) _
  go_wp2_with fail
  refine bodyPost_ret (v := .tuple #[.agg (cmdA ⟨x0, x1, x2, m⟩), .int .i64 0]) (results_cmd Try.results13 ⟨x0, x1, x2, m⟩ Hml.out _ _ _ t rfl (by go_simp) (by go_simp) rfl) rfl ⟨rfl, ?_⟩
  exact below_setRow B8.out (by rw [← Ez.out]; exact hz1) _
end Go.Proofs.Ytdeeecdpgmibnaa

/-
  The laws of layer 9 ask first for answers that the document fixes: they are so.
-/
namespace Go.Proofs.Ytdeeecdpgmibnaa
open Go.RowKit Go.Hold Go.Sh Go.Cm

def bE : List Nat := [1, 3, 0, 10, 0, 0, 0, 0, 0, 0, 0, 0, 0, 0, 0, 0]
def bF : List Nat := [5, 0, 0, 0, 0, 0, 0, 0, 0, 0, 0, 0, 0, 0, 0, 0]
def cE : Cmd := ⟨1, 3, 10, zs 8⟩
theorem run_bldE (w : World) : (bldA 26 #[(0, .int .u8 1), (1, .int .u8 3), (2, .int .u8 0), (3, .int .u8 10)]).run Try.prog w = .ok (.agg (bysA bE)) w := run_build w _ _ _ (by kernel_rfl)
theorem run_bldF (w : World) : (bldA 26 #[(0, .int .u8 5)]).run Try.prog w = .ok (.agg (bysA bF)) w := run_build w _ _ _ (by kernel_rfl)
theorem run_bldCE (w : World) : (bldA 32 #[(0, .int .i64 1), (1, .int .i64 3), (2, .int .i64 10)]).run Try.prog w = .ok (.agg (cmdA cE)) w := run_build w _ _ _ (by kernel_rfl)
set_option maxHeartbeats 1000000 in
set_option maxRecDepth 100000 in
theorem alive9_c (w : World) : Calls Try.prog 7 #[] w fun e w' => e = .returned (.bool true) ∧ Below w.heap.size w w' := by
  obtain ⟨E, eE⟩ : ∃ E, E = bE := ⟨_, rfl⟩
  obtain ⟨F, eF⟩ : ∃ F, F = bF := ⟨_, rfl⟩
  obtain ⟨C, eC⟩ : ∃ C, C = cE := ⟨_, rfl⟩
  have b1 : ∀ W, (bldA 26 #[(0, .int .u8 1), (1, .int .u8 3), (2, .int .u8 0), (3, .int .u8 10)]).run Try.prog W = .ok (.agg (bysA E)) W := fun W => by rw [eE]; exact run_bldE W
  have b2 : ∀ W, (bldA 26 #[(0, .int .u8 5)]).run Try.prog W = .ok (.agg (bysA F)) W := fun W => by rw [eF]; exact run_bldF W
  have b3 : ∀ W, (bldA 32 #[(0, .int .i64 1), (1, .int .i64 3), (2, .int .i64 10)]).run Try.prog W = .ok (.agg (cmdA C)) W := fun W => by rw [eC]; exact run_bldCE W
  have K1 := Lib.hid (fun (W : World) => encode_c cE (by decide) W)
  have K2 := Lib.hid (fun (W : World) => decode_c bE (by decide) (getD_lt (by decide)) W)
  have K3 := Lib.hid (fun (W : World) => decode_c bF (by decide) (getD_lt (by decide)) W)
  have K4 := Lib.hid (fun (W : World) => may_c cE (by decide) W)
  rw [show encV cE = bE by decide, show encE cE = 0 by decide, ← eE, ← eC] at K1
  rw [show decE bE = 0 by decide, show decV bE = cE by unfold decV; rw [if_pos (by decide)]; rfl, ← eE, ← eC] at K2
  rw [show decE bF = 5 by decide, show decV bF = .zero by unfold decV; rw [if_neg (by decide)], ← eF] at K3
  rw [show cE.may = true by decide, ← eC] at K4
  have hE : (bysA E).size = 16 := by rw [eE]; rfl
  have hEl : E.length = 16 := by rw [eE]; rfl
  have hC : (cmdA C).size = 11 := by rw [eC]; rfl
  have hz : (cmdA .zero).size = 11 := rfl
  have hn : C.n = 3 := by rw [eC]; rfl
  clear eE eF eC
  go_enter Try.func7, Try.ntmps7
  go_wp2_with fail
  refine (K1.out w).mono ?_
  rintro e W1 ⟨rfl, hb1⟩
  have B1 := Lib.hid hb1
  clear hb1
  go_wp2_with fail
  have hA := below_alloc (Below.refl W1.heap.size W1) (.cells (bysA E) 26)
  have R2 := Lib.hid (RowAt.of (block_new W1 (.cells (bysA E) 26)))
  have B2 := Lib.hid (B1.out.trans (hA.mono B1.out.size))
  clear hA B1
  generalize W1.heap.size = g1 at *
  generalize W1.alloc (.cells (bysA E) 26) = W2 at *
  refine (K2.out W2).mono ?_
  rintro e W3 ⟨rfl, hb3⟩
  have R3 := Lib.hid (R2.out.grow hb3)
  have B3 := Lib.hid (B2.out.trans (hb3.mono B2.out.size))
  clear hb3 R2 B2
  go_wp2_with fail
  have hA := below_alloc (Below.refl W3.heap.size W3) (.cells (cmdA C) 32)
  have C4 := Lib.hid (RowAt.of (block_new W3 (.cells (cmdA C) 32)))
  have R4 := Lib.hid (R3.out.grow hA)
  have B4 := Lib.hid (B3.out.trans (hA.mono B3.out.size))
  clear hA R3 B3
  generalize W3.heap.size = g3 at *
  generalize W3.alloc (.cells (cmdA C) 32) = W4 at *
  refine (K3.out W4).mono ?_
  rintro e W5 ⟨rfl, hb5⟩
  have C5 := Lib.hid (C4.out.grow hb5)
  have R5 := Lib.hid (R4.out.grow hb5)
  have B5 := Lib.hid (B4.out.trans (hb5.mono B4.out.size))
  clear hb5 R4 B4 C4
  obtain ⟨r1, r2, r3⟩ := R5.out
  obtain ⟨c1, c2, c3⟩ := C5.out
  have hcn := C5.out.cellAt 1 (cmdA_1 C)
  rw [hn] at hcn
  go_wp2_with fail
  refine (K4.out _).mono ?_
  rintro e W6 ⟨rfl, hb6⟩
  have hA := below_alloc (Below.refl W5.heap.size W5) (.cells (cmdA .zero) 32)
  have B6 := Lib.hid ((B5.out.trans (hA.mono B5.out.size)).trans (hb6.mono (Nat.le_trans B5.out.size hA.size)))
  clear hb6 hA R5 C5 B5 hcn r1 r2 r3 c1 c2 c3
  go_wp2_with fail
  go_ret
  exact ⟨rfl, B6.out⟩
end Go.Proofs.Ytdeeecdpgmibnaa

/-
  The laws of layer 9: the program's commands and the reference's are the same.
-/
namespace Go.Proofs.Ytdeeecdpgmibnaa
open Go.RowKit Go.Hold Go.Sh Go.Cm

set_option maxHeartbeats 1000000 in
set_option maxRecDepth 100000 in
theorem theirs_c (c : Cmd) (hid : c.id.length = 8) (w : World) :
    Calls Try.prog 9 #[.agg (cmdA c)] w fun e w' => e = .returned (.agg (cmdA c)) ∧ Below w.heap.size w w' := by
  have hcs := cmdA_size hid
  have hzs : (cmdA .zero).size = 11 := cmdA_size rfl
  have hbd := fun W => run_bldCmd4 c hid W
  go_enter Try.func9, Try.ntmps9
  go_wp2_with fail
  refine bodyPost_ret (v := .agg (cmdA c)) (results_cmd1 Try.results9 c hid _ _ (w.heap.size + 1) rfl (by go_simp) (by go_simp)) rfl ⟨rfl, ?_⟩
  repeat (first | apply below_alloc | exact Below.refl _ _)
set_option maxHeartbeats 1000000 in
set_option maxRecDepth 100000 in
theorem ours_c (c : Cmd) (hid : c.id.length = 8) (w : World) :
    Calls Try.prog 15 #[.agg (cmdA c)] w fun e w' => e = .returned (.agg (cmdA c)) ∧ Below w.heap.size w w' := by
  have hcs := cmdA_size hid
  have hzs : (cmdA .zero).size = 11 := cmdA_size rfl
  have hbd := fun W => run_bldRCmd4 c hid W
  go_enter Try.func15, Try.ntmps15
  go_wp2_with fail
  refine bodyPost_ret (v := .agg (cmdA c)) (results_rcmd1 Try.results15 c hid _ _ (w.heap.size + 1) rfl (by go_simp) (by go_simp)) rfl ⟨rfl, ?_⟩
  repeat (first | apply below_alloc | exact Below.refl _ _)
end Go.Proofs.Ytdeeecdpgmibnaa

/-
  The reference of layer 9: which commands may be.
-/
namespace Go.Proofs.Ytdeeecdpgmibnaa
open Go.RowKit Go.Hold Go.Sh Go.Cm

set_option maxHeartbeats 4000000 in
set_option maxRecDepth 100000 in
theorem rmay_c (c : Cmd) (hid : c.id.length = 8) (w : World) :
    Calls Try.prog 12 #[.agg (cmdA c)] w fun e w' => e = .returned (.bool c.may) ∧ Below w.heap.size w w' := by
  have hcs := cmdA_size hid
  have hz8 : (zs 8).length = 8 := rfl
  have BA := Lib.hid (below_alloc (Below.refl w.heap.size w) (.cells (cmdA c) 24))
  by_cases k1 : c.k = 1
  · have hm : c.may = (decide (0 ≤ c.n ∧ c.n < 16) && decide (0 ≤ c.d ∧ c.d < 65) && decide (c.id = zs 8)) := by unfold Cmd.may; rw [if_pos k1]
    rw [hm]
    clear hm
    by_cases n0 : 0 ≤ c.n
    · by_cases n1 : c.n ≤ 15
      · rw [decide_eq_true (show 0 ≤ c.n ∧ c.n < 16 by omega)]
        by_cases d0 : 0 ≤ c.d
        · by_cases d1 : c.d ≤ 64
          · rw [decide_eq_true (show 0 ≤ c.d ∧ c.d < 65 by omega)]
            go_enter Try.func12, Try.ntmps12
            go_wp2_with fail
            go_ret
            exact ⟨rfl, BA.out⟩
          rw [decide_eq_false (show ¬ (0 ≤ c.d ∧ c.d < 65) by omega)]
          go_enter Try.func12, Try.ntmps12
          go_wp2_with fail
          go_ret
          exact ⟨rfl, BA.out⟩
        rw [decide_eq_false (show ¬ (0 ≤ c.d ∧ c.d < 65) by omega)]
        go_enter Try.func12, Try.ntmps12
        go_wp2_with fail
        go_ret
        exact ⟨rfl, BA.out⟩
      rw [decide_eq_false (show ¬ (0 ≤ c.n ∧ c.n < 16) by omega)]
      go_enter Try.func12, Try.ntmps12
      go_wp2_with fail
      go_ret
      exact ⟨rfl, BA.out⟩
    rw [decide_eq_false (show ¬ (0 ≤ c.n ∧ c.n < 16) by omega)]
    go_enter Try.func12, Try.ntmps12
    go_wp2_with fail
    go_ret
    exact ⟨rfl, BA.out⟩
  by_cases k2 : c.k = 2
  · have hm : c.may = (decide (0 ≤ c.n ∧ c.n < 8) && decide (c.d = 0) && decide (c.id = zs 8)) := by unfold Cmd.may; rw [if_neg k1, if_pos k2]
    rw [hm]
    clear hm
    by_cases n0 : 0 ≤ c.n
    · by_cases n1 : c.n ≤ 7
      · rw [decide_eq_true (show 0 ≤ c.n ∧ c.n < 8 by omega)]
        by_cases hd : c.d = 0
        · rw [decide_eq_true hd]
          go_enter Try.func12, Try.ntmps12
          go_wp2_with fail
          go_ret
          exact ⟨rfl, BA.out⟩
        rw [decide_eq_false hd]
        have hd2 : (c.d == 0) = false := by simpa using hd
        go_enter Try.func12, Try.ntmps12
        go_wp2_with fail
        go_ret
        exact ⟨rfl, BA.out⟩
      rw [decide_eq_false (show ¬ (0 ≤ c.n ∧ c.n < 8) by omega)]
      go_enter Try.func12, Try.ntmps12
      go_wp2_with fail
      go_ret
      exact ⟨rfl, BA.out⟩
    rw [decide_eq_false (show ¬ (0 ≤ c.n ∧ c.n < 8) by omega)]
    go_enter Try.func12, Try.ntmps12
    go_wp2_with fail
    go_ret
    exact ⟨rfl, BA.out⟩
  by_cases k3 : c.k = 3
  · have hm : c.may = (decide (0 ≤ c.n ∧ c.n < 8) && decide (c.d = 0)) := by unfold Cmd.may; rw [if_neg k1, if_neg k2, if_pos k3]
    rw [hm]
    clear hm
    by_cases n0 : 0 ≤ c.n
    · by_cases n1 : c.n ≤ 7
      · rw [decide_eq_true (show 0 ≤ c.n ∧ c.n < 8 by omega)]
        by_cases hd : c.d = 0
        · rw [decide_eq_true hd]
          go_enter Try.func12, Try.ntmps12
          go_wp2_with fail
          go_ret
          exact ⟨rfl, BA.out⟩
        rw [decide_eq_false hd]
        have hd2 : (c.d == 0) = false := by simpa using hd
        go_enter Try.func12, Try.ntmps12
        go_wp2_with fail
        go_ret
        exact ⟨rfl, BA.out⟩
      rw [decide_eq_false (show ¬ (0 ≤ c.n ∧ c.n < 8) by omega)]
      go_enter Try.func12, Try.ntmps12
      go_wp2_with fail
      go_ret
      exact ⟨rfl, BA.out⟩
    rw [decide_eq_false (show ¬ (0 ≤ c.n ∧ c.n < 8) by omega)]
    go_enter Try.func12, Try.ntmps12
    go_wp2_with fail
    go_ret
    exact ⟨rfl, BA.out⟩
  by_cases k4 : c.k = 4
  · have hm : c.may = (decide (c.n = 0) && decide (c.d = 0) && decide (c.id = zs 8)) := by unfold Cmd.may; rw [if_neg k1, if_neg k2, if_neg k3, if_pos k4]
    rw [hm]
    clear hm
    by_cases hn : c.n = 0
    · rw [decide_eq_true hn]
      by_cases hd : c.d = 0
      · rw [decide_eq_true hd]
        go_enter Try.func12, Try.ntmps12
        go_wp2_with fail
        go_ret
        exact ⟨rfl, BA.out⟩
      rw [decide_eq_false hd]
      have hd2 : (c.d == 0) = false := by simpa using hd
      go_enter Try.func12, Try.ntmps12
      go_wp2_with fail
      go_ret
      exact ⟨rfl, BA.out⟩
    rw [decide_eq_false hn]
    have hn2 : (c.n == 0) = false := by simpa using hn
    go_enter Try.func12, Try.ntmps12
    go_wp2_with fail
    go_ret
    exact ⟨rfl, BA.out⟩
  have hm : c.may = false := by unfold Cmd.may; rw [if_neg k1, if_neg k2, if_neg k3, if_neg k4]
  rw [hm]
  clear hm
  go_enter Try.func12, Try.ntmps12
  go_wp2_with fail
  go_ret
  exact ⟨rfl, BA.out⟩
end Go.Proofs.Ytdeeecdpgmibnaa
