/-
  A region that draws its order, whose operations (calls that make memory among them) give the same values in every world that meets one condition S, and keep S: it may be walked once, in the order of the text. Nothing is assumed.
-/
import Derived.StillTail
namespace Go.Hold
open Go

section
variable {P : Program} {ops : Array Oper} {md : Region.Mode} {S : World → Prop}

/-- What operation 'o' comes to in state 'a', handed on to K: its value, the state behind it, the world behind it. -/
def comes (P : Program) (o : Oper) (a : Act) (K : Value → Act → World → Prop) : Result Next → Prop
  | .ok (.value v) w' => K v (a.put o.dst v) w'
  | .ok .skip w' => K undef (a.put o.dst undef) w'
  | .ok (.enter f args) w' => Calls P f args w' fun e w'' => ∃ v, e = .returned v ∧ K v (a.put o.dst v) w''
  | _ => False

theorem comes_mono {o : Oper} {a a' : Act} {K K' : Value → Act → World → Prop} (h : ∀ v w, K v (a.put o.dst v) w → K' v (a'.put o.dst v) w) (r : Result Next) (hh : comes P o a K r) : comes P o a' K' r := by
  cases r with
  | halt x w => exact False.elim hh
  | ok n w =>
    cases n <;> try exact False.elim hh
    case value v => exact h _ _ hh
    case skip => exact h _ _ hh
    case enter f args => exact Calls.mono (P := P) hh fun _ _ ⟨v, he, hk⟩ => ⟨v, he, h _ _ hk⟩

/-- In state 'a' operation 'o' gives 'v' in every world that meets S, and keeps S. -/
def Gives (P : Program) (ops : Array Oper) (S : World → Prop) (o : Oper) (v : Value) (a : Act) : Prop :=
  (Region.wanted o (yielded ops a.tmps) = true ∧ ∀ w, S w → comes P o a (fun u _ w' => u = v ∧ S w') ((execOp a.eval o).run P w)) ∨
  (Region.wanted o (yielded ops a.tmps) = false ∧ v = undef)

theorem Gives.like {o : Oper} {v : Value} {a a' : Act} (h : Gives P ops S o v a) (he : execOp a'.eval o = execOp a.eval o)
    (hw : Region.wanted o (yielded ops a'.tmps) = Region.wanted o (yielded ops a.tmps)) : Gives P ops S o v a' := by
  rcases h with ⟨h1, h2⟩ | ⟨h1, h2⟩
  · exact .inl ⟨hw ▸ h1, fun w hS => by rw [he]; exact comes_mono (fun _ _ h => h) _ (h2 w hS)⟩
  · exact .inr ⟨hw ▸ h1, h2⟩

theorem Gives.wpOp {i : Nat} {o : Oper} {v : Value} {a : Act} {Q : Exit → Act → World → Prop} (hi : ops[i]? = some o) (hg : Gives P ops S o v a) {K : Act → World → Prop} {w : World} (hS : S w)
    (h : ∀ w', S w' → K (a.put o.dst v) w') : wpOp P ops Q i K a w := by
  unfold Go.wpOp
  simp only [hi]
  rcases hg with ⟨hw, hv⟩ | ⟨hw, rfl⟩
  · simp only [hw, if_true]
    refine .inl ?_
    have hv := hv w hS
    unfold Oper.wp
    generalize (execOp a.eval o).run P w = r at hv
    cases r with
    | halt x w => exact False.elim hv
    | ok n w =>
      cases n <;> try exact False.elim hv
      case value u => obtain ⟨rfl, hs⟩ := hv; exact h _ hs
      case skip => obtain ⟨rfl, hs⟩ := hv; exact h _ hs
      case enter f args =>
        refine Calls.mono (P := P) hv ?_
        rintro e w'' ⟨u, rfl, rfl, hs⟩
        exact h _ hs
  · simp only [hw, Bool.false_eq_true, if_false]
    exact h w hS

/-- Whatever order is picked for the next operations below number n, each gives its value; then L. -/
def anyG (P : Program) (md : Region.Mode) (ops : Array Oper) (S : World → Prop) (n : Nat) (L : Array Bool → Act → Prop) : Nat → Array Bool → Act → Prop
  | 0, listed, a => L listed a
  | f + 1, listed, a => Region.ready md ops listed ≠ [] ∧ ∀ i ∈ Region.ready md ops listed, i < n ∧ ∃ o v, ops[i]? = some o ∧ Gives P ops S o v a ∧ anyG P md ops S n L f (listed.setIfInBounds i true) (a.put o.dst v)

theorem wpAny_of_anyG {n g : Nat} {L : Array Bool → Act → Prop} {Q : Exit → Act → World → Prop} (hL : ∀ listed a w, L listed a → S w → wpAny P md ops Q g listed a w) :
    ∀ (f : Nat) (listed : Array Bool) (a : Act) (w : World), S w → anyG P md ops S n L f listed a → wpAny P md ops Q (f + g) listed a w
  | 0, listed, a, w, hS, h => by rw [Nat.zero_add]; exact hL _ _ _ h hS
  | f + 1, listed, a, w, hS, h => by
    rw [show f + 1 + g = (f + g) + 1 by omega]
    refine ⟨fun h0 => absurd h0 h.1, fun i hi => ?_⟩
    obtain ⟨_, o, v, ho, hg, hn⟩ := h.2 i hi
    exact hg.wpOp ho hS fun w' hS' => wpAny_of_anyG hL f _ _ w' hS' hn

theorem anyG_take {n i : Nat} {oi : Oper} {v : Value} {L : Array Bool → Act → Prop} (hi : ops[i]? = some oi) (hsel : ∀ (j : Nat) (o : Oper) cs b, ops[j]? = some o → o.op ≠ .select cs b) (hin : i < n)
    (hwait : ∀ listed, HeadInv md ops n listed → listed.getD i true = false → ∀ t, n ≤ t → t ∉ Region.ready md ops listed) (hdone : ∀ listed a, L listed a → ∀ j ∈ Region.ready md ops listed, n ≤ j) :
    ∀ (f : Nat) (listed : Array Bool) (a : Act), HeadInv md ops n listed →
      (∀ j oj, ops[j]? = some oj → j ≠ i → listed.getD j true = false → (∀ e ∈ oj.after, Region.binds md e = true → e.on ≠ i) → oi.apart ops oj = true) →
      i ∈ Region.ready md ops listed → Gives P ops S oi v a →
      anyG P md ops S n L f (listed.setIfInBounds i true) (a.put oi.dst v) → anyG P md ops S n L (f + 1) listed a := by
  intro f
  induction f with
  | zero =>
    intro listed a inv _ hr hg H
    refine ⟨fun h => (by rw [h] at hr; cases hr), fun j hj => ?_⟩
    have hjn : j < n := Nat.lt_of_not_le fun h => hwait listed inv (mem_ready.1 hr).1 j h hj
    by_cases hji : j = i
    · subst hji; exact ⟨hjn, oi, v, hi, hg, H⟩
    · have := hdone _ _ H j (ready_mono hj hji); omega
  | succ f ih =>
    intro listed a inv hfree hr hg H
    have hun := (mem_ready.1 hr).1
    refine ⟨fun h => (by rw [h] at hr; cases hr), fun j hj => ?_⟩
    have hjn : j < n := Nat.lt_of_not_le fun h => hwait listed inv hun j h hj
    by_cases hji : j = i
    · subst hji; exact ⟨hjn, oi, v, hi, hg, H⟩
    · obtain ⟨_, oj, u, hoj, hgj, hn⟩ := H.2 j (ready_mono hj hji)
      obtain ⟨hjun, oj', hoj', hall⟩ := mem_ready.1 hj
      obtain rfl : oj' = oj := Option.some.inj (hoj'.symm.trans hoj)
      have hnot : ∀ e ∈ oj'.after, Region.binds md e = true → e.on ≠ i := fun e he hb heq => by
        have h1 := hall e he hb
        rw [heq, getD_both hun] at h1
        cases h1
      obtain ⟨p1, p2, p3⟩ := Oper.apart_spec (hfree j oj' hoj hji hjun hnot)
      refine ⟨hjn, oj', u, hoj, hgj.like (execOp_put oj' (fun cs b => hsel j oj' cs b hoj) a oi.dst v p1).symm (wanted_put oj' a oi.dst v p1).symm, ?_⟩
      refine ih (listed.setIfInBounds j true) (a.put oj'.dst u) (inv.set hj hjn) ?_ (ready_mono hr (Ne.symm hji)) ?_ ?_
      · intro k ok hk hki hkun hno
        refine hfree k ok hk hki ?_ hno
        by_cases hjk : j = k
        · subst hjk; exact hjun
        · rw [getD_set_ne true hjk] at hkun; exact hkun
      · exact hg.like (execOp_put oi (fun cs b => hsel i oi cs b hi) a oj'.dst u p3) (wanted_put oi a oj'.dst u p3)
      · rw [Array.setIfInBounds_comm _ _ hji, Act.put_comm a u v fun d hd => fun e => p2 d e hd]
        exact hn

/-- The operations in the order of the text. -/
def wpHold (P : Program) (ops : Array Oper) (S : World → Prop) (Q : Act → Prop) : List Oper → Act → Prop
  | [], a => Q a
  | o :: rest, a => ∃ v, Gives P ops S o v a ∧ wpHold P ops S Q rest (a.put o.dst v)

theorem wpHold_nil {Q : Act → Prop} {a : Act} (h : Q a) : wpHold P ops S Q [] a := h

/-- The same where no Go function is entered. -/
def comesV (o : Oper) (a : Act) (K : Value → Act → World → Prop) : Result Next → Prop
  | .ok (.value v) w' => K v (a.put o.dst v) w'
  | .ok .skip w' => K undef (a.put o.dst undef) w'
  | _ => False
@[go_sem] theorem comesV_value (o : Oper) (a : Act) (K : Value → Act → World → Prop) (v : Value) (w : World) : comesV o a K (.ok (.value v) w) = K v (a.put o.dst v) w := rfl
@[go_sem] theorem comesV_skip (o : Oper) (a : Act) (K : Value → Act → World → Prop) (w : World) : comesV o a K (.ok .skip w) = K undef (a.put o.dst undef) w := rfl
/-- The same at a call. -/
def comesC (P : Program) (K : Value → World → Prop) : Result Next → Prop
  | .ok (.enter f args) w' => Calls P f args w' fun e w'' => ∃ v, e = .returned v ∧ K v w''
  | _ => False
@[go_sem] theorem comesC_enter (K : Value → World → Prop) (f : FuncId) (args : Array Value) (w : World) : comesC P K (.ok (.enter f args) w) = Calls P f args w fun e w'' => ∃ v, e = .returned v ∧ K v w'' := rfl

/-- ONE STEP, no call: shown for an abstract continuation K, so that the walk's simp comes to 'K v a' w'. -/
theorem wpHold_step {Q : Act → Prop} {a a' : Act} {o : Oper} {rest : List Oper} {v : Value} (hw0 : ∃ w, S w)
    (h : ∀ (K : Value → Act → World → Prop) (w : World), S w → (∀ w', S w' → K v a' w') → if Region.wanted o (yielded ops a.tmps) then comesV o a K ((execOp a.eval o).run P w) else K undef (a.put o.dst undef) w)
    (next : wpHold P ops S Q rest a') : wpHold P ops S Q (o :: rest) a := by
  by_cases hw : Region.wanted o (yielded ops a.tmps) = true
  · simp only [hw, if_true] at h
    have hput : a.put o.dst v = a' := by
      obtain ⟨w, hS⟩ := hw0
      have := h (fun u b _ => u = v ∧ b = a') w hS fun _ _ => ⟨rfl, rfl⟩
      revert this
      generalize (execOp a.eval o).run P w = r
      cases r with
      | halt x w => exact fun h => False.elim h
      | ok n w =>
        cases n <;> try exact fun h => False.elim h
        case value u => rintro ⟨rfl, hb⟩; exact hb
        case skip => rintro ⟨rfl, hb⟩; exact hb
    refine ⟨v, .inl ⟨hw, fun w hS => ?_⟩, hput ▸ next⟩
    have := h (fun u _ w' => u = v ∧ S w') w hS fun w' hw' => ⟨rfl, hw'⟩
    revert this
    generalize (execOp a.eval o).run P w = r
    cases r with
    | halt x w => exact fun h => False.elim h
    | ok n w =>
      cases n <;> first | exact fun h => False.elim h | exact fun h => h
  · simp only [hw] at h
    obtain ⟨w, hS⟩ := hw0
    have hu : undef = v ∧ a.put o.dst undef = a' := by
      have := h (fun u b _ => u = v ∧ b = a') w hS fun _ _ => ⟨rfl, rfl⟩
      simpa using this
    exact ⟨v, .inr ⟨by simpa using hw, hu.1.symm⟩, by rw [← hu.1, hu.2]; exact next⟩

/-- ONE STEP, a call. -/
theorem wpHold_call {Q : Act → Prop} {a : Act} {o : Oper} {rest : List Oper} {v : Value} (hw : Region.wanted o (yielded ops a.tmps) = true)
    (h : ∀ (K : Value → World → Prop) (w : World), S w → (∀ w', S w' → K v w') → comesC P K ((execOp a.eval o).run P w))
    (next : wpHold P ops S Q rest (a.put o.dst v)) : wpHold P ops S Q (o :: rest) a := by
  refine ⟨v, .inl ⟨hw, fun w hS => ?_⟩, next⟩
  have := h (fun u w' => u = v ∧ S w') w hS fun w' hw' => ⟨rfl, hw'⟩
  revert this
  generalize (execOp a.eval o).run P w = r
  cases r with
  | halt x w => exact fun h => False.elim h
  | ok n w =>
    cases n <;> first | exact fun h => False.elim h | exact fun h => h

theorem anyG_lex {n g : Nat} {Lq : Act → Prop} (hsel : Region.noSelect ops = true) (hs : Region.sinkB md ops n = true) (hc : Region.chainB md ops n = true) (hn : n < ops.size) :
    ∀ (l : List Oper) (k : Nat) (listed : Array Bool) (a : Act), (∀ j, j < l.length → l[j]? = ops[k + j]?) → k + l.length = n → HeadInv md ops n listed →
    Region.lexHead md ops g l.length k listed = true → wpHold P ops S Lq l a →
    anyG P md ops S n (fun listed' a' => Region.seqB md ops g n listed' = true ∧ Lq a') l.length listed a
  | [], k, listed, a, _, hk, _, hB, h => by
    obtain rfl : k = n := by simpa using hk
    exact ⟨by simpa [Region.lexHead] using hB, h⟩
  | o :: l, k, listed, a, hl, hk, inv, hB, h => by
    have h0 : ops[k]? = some o := by simpa using (hl 0 (by simp)).symm
    simp only [List.length_cons, Region.lexHead, Bool.and_eq_true] at hB
    obtain ⟨⟨hr, hf⟩, hB'⟩ := hB
    have hkn : k < n := by simp only [List.length_cons] at hk; omega
    have hr' : k ∈ Region.ready md ops listed := by simpa using hr
    obtain ⟨v, hg, hK⟩ := h
    exact anyG_take h0 (Region.noSelect_spec hsel) hkn (fun listed' inv' hun => tail_waits hs hc hn inv' _ k rfl hkn hun) (fun listed' a' hL => seqB_ready hL.1) l.length listed a inv (Region.free_spec h0 hf) hr' hg
      (anyG_lex hsel hs hc hn l (k + 1) _ _ (fun j hj => by have := hl (j + 1) (by simp; omega); simpa [Nat.add_assoc, Nat.add_comm 1 j] using this) (by simp only [List.length_cons] at hk; omega) (inv.set hr' hkn) hB' hK)

/-- A REGION THAT DRAWS ITS ORDER: the first n operations give the same in every world that meets S, and keep S; the rest comes in one order. -/
theorem wp_region_hold {id : Nat} {Q : Exit → Act → World → Prop} {a : Act} {w : World} {l : List Oper} (S : World → Prop) (n : Nat) (hm : P.follows .mixedOrders = true) (hB : Region.lexTailB .any l.toArray n = true)
    (hS : S { w with drawn := w.drawn + 1 }) (h : wpHold P l.toArray S (fun a' => ∀ w', S w' → wpList P l.toArray Q (l.drop n) a' w') (l.take n) a) : (Code.region id l.toArray true).wp P Q a w := by
  simp only [Region.lexTailB, Bool.and_eq_true, decide_eq_true_eq] at hB
  obtain ⟨⟨⟨⟨hsel, hn⟩, hs⟩, hc⟩, hlex⟩ := hB
  have hn' : n < l.length := by simpa using hn
  have htl : (l.take n).length = n := by simp; omega
  have hdl : (l.drop n).length = l.toArray.size - n := by simp
  have inv0 : HeadInv .any l.toArray n (Array.replicate l.toArray.size false) :=
    ⟨by simp, fun j oj _ hl => (by rw [getD_replicate_false] at hl; cases hl), fun t _ ht => getD_in (by simpa using ht) (getD_replicate_false _ _)⟩
  have H := anyG_lex (md := .any) (g := l.toArray.size - n) hsel hs hc hn (l.take n) 0 _ a (fun j hj => by
    have hj' : j < n := by rw [htl] at hj; exact hj
    simp [hj']) (by simpa using htl) inv0 (by rw [htl]; exact hlex) h
  refine wp_region_any hm ?_
  have := wpAny_of_anyG (Q := Q) (g := l.toArray.size - n) (fun listed a' w' hL hS' => by
    have := wpAny_of_seq (md := .any) (Q' := Q) (l.drop n) n listed a' w' (fun j => by simp [List.getElem?_drop]) (by rw [hdl]; exact hL.1) (hL.2 w' hS')
    rwa [hdl] at this) _ _ _ _ hS H
  rw [htl, show n + (l.toArray.size - n) = l.toArray.size by omega] at this
  exact this

theorem headInv_free {listed : Array Bool} (_ : HeadInv md ops ops.size listed) : ∀ t, ops.size ≤ t → t ∉ Region.ready md ops listed := fun t ht hr => by
  obtain ⟨_, o, ho, _⟩ := mem_ready.1 hr
  have := (Array.getElem?_eq_some_iff.1 ho).1
  omega

theorem anyG_lex0 {Lq : Act → Prop} (hsel : Region.noSelect ops = true) :
    ∀ (l : List Oper) (k : Nat) (listed : Array Bool) (a : Act), (∀ j, l[j]? = ops[k + j]?) → k + l.length = ops.size → HeadInv md ops ops.size listed →
    Region.lexFrom md ops l.length k listed = true → wpHold P ops S Lq l a →
    anyG P md ops S ops.size (fun listed' a' => Region.ready md ops listed' = [] ∧ Lq a') l.length listed a
  | [], k, listed, a, _, _, _, hB, h => ⟨by simpa [Region.lexFrom] using hB, h⟩
  | o :: l, k, listed, a, hl, hk, inv, hB, h => by
    have h0 : ops[k]? = some o := by simpa using (hl 0).symm
    simp only [List.length_cons, Region.lexFrom, Bool.and_eq_true] at hB
    obtain ⟨⟨hr, hf⟩, hB'⟩ := hB
    have hkn : k < ops.size := (Array.getElem?_eq_some_iff.1 h0).1
    have hr' : k ∈ Region.ready md ops listed := by simpa using hr
    obtain ⟨v, hg, hK⟩ := h
    exact anyG_take h0 (Region.noSelect_spec hsel) hkn (fun listed' inv' _ => headInv_free inv') (fun listed' a' hL j hj => by rw [hL.1] at hj; cases hj) l.length listed a inv (Region.free_spec h0 hf) hr' hg
      (anyG_lex0 hsel l (k + 1) _ _ (fun j => by have := hl (j + 1); simpa [Nat.add_assoc, Nat.add_comm 1 j] using this) (by simp only [List.length_cons] at hk; omega) (inv.set hr' hkn) hB' hK)

/-- A REGION THAT DRAWS ITS ORDER, each of whose operations gives the same in every world that meets S, and keeps S. -/
theorem wp_region_hold_all {id : Nat} {Q : Exit → Act → World → Prop} {a : Act} {w : World} {l : List Oper} (S : World → Prop) (hm : P.follows .mixedOrders = true) (hB : Region.lexB .any l.toArray = true)
    (hS : S { w with drawn := w.drawn + 1 }) (h : wpHold P l.toArray S (fun a' => ∀ w', S w' → Q .normal a' w') l a) : (Code.region id l.toArray true).wp P Q a w := by
  simp only [Region.lexB, Bool.and_eq_true] at hB
  have inv0 : HeadInv .any l.toArray l.toArray.size (Array.replicate l.toArray.size false) :=
    ⟨by simp, fun j oj _ hl => (by rw [getD_replicate_false] at hl; cases hl), fun t _ ht => getD_in (by simpa using ht) (getD_replicate_false _ _)⟩
  have H := anyG_lex0 (md := .any) hB.1 l 0 _ a (fun j => by simp) (by simp) inv0 (by simpa using hB.2) h
  refine wp_region_any hm ?_
  have := wpAny_of_anyG (Q := Q) (g := 0) (fun listed a' w' hL hS' => ⟨hL.1, hL.2 w' hS'⟩) _ _ _ _ hS H
  simpa using this

/-! ### Three parts: operations that hold under S; such as hang on no world; the rest in one order -/
/-- Each operation behind number n waits for that one, or for another one behind it. -/
def tailB (md : Region.Mode) (ops : Array Oper) (n : Nat) : Bool :=
  (List.range ops.size).all fun t => decide (t < n) || Region.waitsFor md ops t (n - 1) || (List.range ops.size).any fun u => decide (n ≤ u) && Region.waitsFor md ops t u
def midB (md : Region.Mode) (ops : Array Oper) (g : Nat) : Nat → Nat → Array Bool → Bool
  | 0, k, listed => Region.seqB md ops g k listed
  | m + 1, k, listed => (Region.ready md ops listed).contains k && Region.free md ops listed k && midB md ops g m (k + 1) (listed.setIfInBounds k true)
def headB (md : Region.Mode) (ops : Array Oper) (g m : Nat) : Nat → Nat → Array Bool → Bool
  | 0, k, listed => midB md ops g m k listed
  | f + 1, k, listed => (Region.ready md ops listed).contains k && Region.free md ops listed k && headB md ops g m f (k + 1) (listed.setIfInBounds k true)
def partsB (md : Region.Mode) (ops : Array Oper) (n m : Nat) : Bool :=
  Region.noSelect ops && decide (1 ≤ n) && decide (n + m ≤ ops.size) && Region.sinkB md ops (n - 1) && tailB md ops n && headB md ops (ops.size - (n + m)) m n 0 (Array.replicate ops.size false)

theorem head_listed {n : Nat} {listed : Array Bool} (hs : Region.sinkB md ops (n - 1) = true) (inv : HeadInv md ops n listed) (hl : listed.getD (n - 1) false = true) :
    ∀ (d i : Nat), n - 1 - i = d → i ≤ n - 1 → listed.getD i false = true := by
  intro d
  induction d using Nat.strongRecOn with
  | _ d ih =>
    intro i hd hi
    rcases Nat.lt_or_ge i (n - 1) with h | h
    · obtain ⟨j, hj, hj2⟩ := List.any_eq_true.1 (List.all_eq_true.1 hs i (List.mem_range.2 h))
      simp only [Bool.and_eq_true, decide_eq_true_eq] at hj2
      obtain ⟨oj, hoj, e, he, hb, hon⟩ := Region.waitsFor_spec hj2.2
      have hjle : j ≤ n - 1 := by have := List.mem_range.1 hj; omega
      have hjl := ih (n - 1 - j) (by omega) j rfl hjle
      have := inv.closed j oj hoj hjl e he hb
      rwa [hon] at this
    · obtain rfl : i = n - 1 := by omega
      exact hl

theorem tail_waits2 {n : Nat} (hs : Region.sinkB md ops (n - 1) = true) (ht : tailB md ops n = true) {i : Nat} (hi : i < n) (listed : Array Bool) (inv : HeadInv md ops n listed) (hun : listed.getD i true = false) :
    ∀ t, n ≤ t → t ∉ Region.ready md ops listed := fun t hnt hr => by
  obtain ⟨_, ot, hot, hall⟩ := mem_ready.1 hr
  have htl : t < ops.size := (Array.getElem?_eq_some_iff.1 hot).1
  have h1 := List.all_eq_true.1 ht t (List.mem_range.2 htl)
  simp only [Bool.or_eq_true, decide_eq_true_eq] at h1
  have key : ∀ u, Region.waitsFor md ops t u = true → listed.getD u false = true := fun u hu => by
    obtain ⟨o', ho', e, he, hb, hon⟩ := Region.waitsFor_spec hu
    obtain rfl : o' = ot := Option.some.inj (ho'.symm.trans hot)
    have := hall e he hb
    rwa [hon] at this
  rcases h1 with (h1 | h1) | h1
  · omega
  · have h2 := head_listed hs inv (key _ h1) _ i rfl (by omega)
    rw [getD_both hun] at h2; cases h2
  · obtain ⟨u, hu, hu2⟩ := List.any_eq_true.1 h1
    simp only [Bool.and_eq_true, decide_eq_true_eq] at hu2
    have h2 := key u hu2.2
    rw [getD_both (inv.tail u hu2.1 (List.mem_range.1 hu))] at h2; cases h2

/-- Operations that yield in whatever world, in the order of the text. -/
def wpFree (P : Program) (ops : Array Oper) (Q : Act → Prop) : List Oper → Act → Prop
  | [], a => Q a
  | o :: rest, a => ∃ v, Yields P ops o v a ∧ wpFree P ops Q rest (a.put o.dst v)
theorem wpFree_nil {Q : Act → Prop} {a : Act} (h : Q a) : wpFree P ops Q [] a := h
theorem wpFree_step {Q : Act → Prop} {a a' : Act} {o : Oper} {rest : List Oper} {v : Value}
    (h : ∀ (K : Value → Act → World → Prop) (w : World), (∀ w', K v a' w') → if Region.wanted o (yielded ops a.tmps) then comesV o a K ((execOp a.eval o).run P w) else K undef (a.put o.dst undef) w)
    (hw' : ∀ w, Region.wanted o (yielded ops a.tmps) = true → (execOp a.eval o).run P w = .ok (.value v) w)
    (next : wpFree P ops Q rest a') : wpFree P ops Q (o :: rest) a := by
  by_cases hw : Region.wanted o (yielded ops a.tmps) = true
  · simp only [hw, if_true] at h
    refine ⟨v, .inl ⟨hw, fun w => hw' w hw⟩, ?_⟩
    have := h (fun _ b _ => b = a') default fun _ => rfl
    rw [hw' default hw] at this
    exact this ▸ next
  · simp only [hw] at h
    have := h (fun u b _ => u = v ∧ b = a') default fun _ => ⟨rfl, rfl⟩
    obtain ⟨rfl, hb⟩ : undef = v ∧ a.put o.dst undef = a' := by simpa using this
    exact ⟨_, .inr ⟨by simpa using hw, rfl⟩, hb ▸ next⟩

theorem wpAny_mid {Q : Exit → Act → World → Prop} (hsel : Region.noSelect ops = true) (hQ : ∀ c a d v w, Q (.panic c) (Act.put a d v) w → Q (.panic c) a w) (w : World) :
    ∀ (m : Nat) (l : List Oper) (k : Nat) (listed : Array Bool) (a : Act), m ≤ l.length → (∀ j, l[j]? = ops[k + j]?) → midB md ops (l.length - m) m k listed = true →
    wpFree P ops (fun a' => wpList P ops Q (l.drop m) a' w) (l.take m) a → wpAny P md ops Q l.length listed a w
  | 0, l, k, listed, a, _, hl, hB, h => wpAny_of_seq l k listed a w hl (by simpa [midB] using hB) (by simpa [wpFree] using h)
  | m + 1, [], k, listed, a, hm, _, _, _ => by simp at hm
  | m + 1, o :: l, k, listed, a, hm, hl, hB, h => by
    have h0 : ops[k]? = some o := by simpa using (hl 0).symm
    simp only [List.length_cons, Nat.add_sub_add_right, midB, Bool.and_eq_true] at hB
    obtain ⟨⟨hr, hf⟩, hB'⟩ := hB
    simp only [List.take_succ_cons, List.drop_succ_cons, wpFree] at h
    obtain ⟨v, hy, hn⟩ := h
    exact wpAny_take h0 hsel hf hr (fun c a w => hQ c a _ _ w) hy (wpAny_mid hsel hQ w m l (k + 1) _ _ (by simpa using hm) (fun j => by have := hl (j + 1); simpa [Nat.add_assoc, Nat.add_comm 1 j] using this) hB' hn)

theorem anyG_parts {n m g : Nat} {Lq : Act → Prop} (hsel : Region.noSelect ops = true) (hs : Region.sinkB md ops (n - 1) = true) (ht : tailB md ops n = true) :
    ∀ (l : List Oper) (k : Nat) (listed : Array Bool) (a : Act), (∀ j, j < l.length → l[j]? = ops[k + j]?) → k + l.length = n → n ≤ ops.size → HeadInv md ops n listed → (∀ j, j < k → listed.getD j false = true) →
    headB md ops g m l.length k listed = true → wpHold P ops S Lq l a →
    anyG P md ops S n (fun listed' a' => midB md ops g m n listed' = true ∧ (∀ j, j < n → listed'.getD j false = true) ∧ Lq a') l.length listed a
  | [], k, listed, a, _, hk, _, _, hdn, hB, h => by
    obtain rfl : k = n := by simpa using hk
    exact ⟨by simpa [headB] using hB, hdn, h⟩
  | o :: l, k, listed, a, hl, hk, hns, inv, hdn, hB, h => by
    have h0 : ops[k]? = some o := by simpa using (hl 0 (by simp)).symm
    simp only [List.length_cons, headB, Bool.and_eq_true] at hB
    obtain ⟨⟨hr, hf⟩, hB'⟩ := hB
    have hkn : k < n := by simp only [List.length_cons] at hk; omega
    have hr' : k ∈ Region.ready md ops listed := by simpa using hr
    obtain ⟨v, hg, hK⟩ := h
    refine anyG_take h0 (Region.noSelect_spec hsel) hkn (fun listed' inv' hun => tail_waits2 hs ht hkn listed' inv' hun) (fun listed' a' hL j hj => ?_) l.length listed a inv (Region.free_spec h0 hf) hr' hg
      (anyG_parts hsel hs ht l (k + 1) _ _ (fun j hj => by have := hl (j + 1) (by simp; omega); simpa [Nat.add_assoc, Nat.add_comm 1 j] using this) (by simp only [List.length_cons] at hk; omega) hns (inv.set hr' hkn) (fun j hj => ?_) hB' hK)
    · refine Nat.le_of_not_lt fun hjn => ?_
      have h1 := (mem_ready.1 hj).1
      have h2 := hL.2.1 j hjn
      rw [getD_both h1] at h2; cases h2
    · by_cases hjk : j = k
      · subst hjk
        have hlt : j < listed.size := by rw [inv.size]; exact (Array.getElem?_eq_some_iff.1 h0).1
        simp [hlt]
      · exact getD_set_true (hdn j (by omega))

/-- A REGION THAT DRAWS ITS ORDER: n operations give the same in every world that meets S, and keep S; m more hang on no world; the rest comes in one order. -/
theorem wp_region_parts {id : Nat} {Q : Exit → Act → World → Prop} {a : Act} {w : World} {l : List Oper} (S : World → Prop) (n m : Nat) (hm : P.follows .mixedOrders = true) (hB : partsB .any l.toArray n m = true)
    (hQ : ∀ c a d v w, Q (.panic c) (Act.put a d v) w → Q (.panic c) a w) (hS : S { w with drawn := w.drawn + 1 })
    (h : wpHold P l.toArray S (fun a' => ∀ w', S w' → wpFree P l.toArray (fun a'' => wpList P l.toArray Q ((l.drop n).drop m) a'' w') ((l.drop n).take m) a') (l.take n) a) : (Code.region id l.toArray true).wp P Q a w := by
  simp only [partsB, Bool.and_eq_true, decide_eq_true_eq] at hB
  obtain ⟨⟨⟨⟨⟨hsel, h1n⟩, hnm⟩, hs⟩, ht⟩, hhead⟩ := hB
  have hsz : l.toArray.size = l.length := by simp
  have htl : (l.take n).length = n := by simp; omega
  have hdl : (l.drop n).length = l.toArray.size - n := by simp
  have inv0 : HeadInv .any l.toArray n (Array.replicate l.toArray.size false) :=
    ⟨by simp, fun j oj _ hl => (by rw [getD_replicate_false] at hl; cases hl), fun t _ ht => getD_in (by simpa using ht) (getD_replicate_false _ _)⟩
  have H := anyG_parts (md := .any) (g := l.toArray.size - (n + m)) (m := m) hsel hs ht (l.take n) 0 _ a (fun j hj => by
    have hj' : j < n := by rw [htl] at hj; exact hj
    simp [hj']) (by simpa using htl) (by omega) inv0 (fun j hj => by omega) (by rw [htl]; exact hhead) h
  refine wp_region_any hm ?_
  have := wpAny_of_anyG (Q := Q) (g := l.toArray.size - n) (fun listed a' w' hL hS' => by
    have := wpAny_mid (md := .any) (Q := Q) hsel hQ w' m (l.drop n) n listed a' (by rw [hdl]; omega) (fun j => by simp [List.getElem?_drop]) (by rw [hdl, show l.toArray.size - n - m = l.toArray.size - (n + m) by omega]; exact hL.1) (hL.2.2 w' hS')
    rwa [hdl] at this) _ _ _ _ hS H
  rw [htl, show n + (l.toArray.size - n) = l.toArray.size by omega] at this
  exact this
end
end Go.Hold
