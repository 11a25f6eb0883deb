/-
  A held region, all of it: its order looked at pair by pair, so that a great region is looked at in a moment.
-/
import Derived.Test.YtbhgmefdimjlaaaStep
namespace Go.Hold
open Go
section
variable {P : Program} {ops : Array Oper} {md : Region.Mode} {S : World → Prop}

def edgesOk (md : Region.Mode) (k : Nat) (o : Oper) : Bool := o.after.toList.all fun e => !Region.binds md e || Nat.blt e.on k
def pairOk (md : Region.Mode) (ops : Array Oper) (k : Nat) (ok oj : Oper) : Bool := ok.apart ops oj || oj.after.toList.any fun e => Region.binds md e && Nat.beq e.on k
def fastFrom (md : Region.Mode) (ops : Array Oper) : Nat → List Oper → Bool
  | _, [] => true
  | k, o :: l => edgesOk md k o && l.all (pairOk md ops k o) && fastFrom md ops (k + 1) l
def fastB (md : Region.Mode) (l : List Oper) : Bool := Region.noSelect l.toArray && fastFrom md l.toArray 0 l

theorem anyG_fast {Lq : Act → Prop} (hsel : Region.noSelect ops = true) :
    ∀ (l : List Oper) (k : Nat) (listed : Array Bool) (a : Act), (∀ j, l[j]? = ops[k + j]?) → k + l.length = ops.size → HeadInv md ops ops.size listed →
    (∀ j, j < k → listed.getD j false = true) → (∀ j, k ≤ j → j < ops.size → listed.getD j true = false) → fastFrom md ops k l = true → wpHold P ops S Lq l a →
    anyG P md ops S ops.size (fun listed' a' => Region.ready md ops listed' = [] ∧ Lq a') l.length listed a
  | [], k, listed, a, _, hk, _, hdn, _, _, h => by
    refine ⟨?_, h⟩
    rw [List.eq_nil_iff_forall_not_mem]
    intro i hi
    obtain ⟨h1, o, ho, _⟩ := mem_ready.1 hi
    have := hdn i (by have := (Array.getElem?_eq_some_iff.1 ho).1; simp at hk; omega)
    rw [getD_both h1] at this; cases this
  | o :: l, k, listed, a, hl, hk, inv, hdn, hun, hB, h => by
    have h0 : ops[k]? = some o := by simpa using (hl 0).symm
    simp only [fastFrom, Bool.and_eq_true] at hB
    obtain ⟨⟨he, hp⟩, hB'⟩ := hB
    have hkn : k < ops.size := (Array.getElem?_eq_some_iff.1 h0).1
    have hr' : k ∈ Region.ready md ops listed := by
      refine mem_ready.2 ⟨hun k (Nat.le_refl _) hkn, o, h0, fun e hm hb => hdn _ ?_⟩
      have := List.all_eq_true.1 he e (by simpa using hm)
      simpa [hb] using this
    obtain ⟨v, hg, hK⟩ := h
    refine anyG_take h0 (Region.noSelect_spec hsel) hkn (fun listed' inv' _ => headInv_free inv') (fun listed' a' hL j hj => by rw [hL.1] at hj; cases hj) l.length listed a inv (fun j oj hj hne hju hno => ?_) hr' hg
      (anyG_fast hsel l (k + 1) _ _ (fun j => by have := hl (j + 1); simpa [Nat.add_assoc, Nat.add_comm 1 j] using this) (by simp only [List.length_cons] at hk; omega) (inv.set hr' hkn) (fun j hj => ?_) (fun j hj hjs => ?_) hB' hK)
    · have hjk : k < j := by
        rcases Nat.lt_or_ge j k with h | h
        · have := hdn j h; rw [getD_both hju] at this; cases this
        · omega
      have hmem : oj ∈ l := by
        have := hl (j - k)
        rw [show k + (j - k) = j by omega, hj, show j - k = (j - k - 1) + 1 by omega, List.getElem?_cons_succ] at this
        exact List.mem_of_getElem? this
      have hpo := List.all_eq_true.1 hp oj hmem
      unfold pairOk at hpo
      rcases Bool.or_eq_true_iff.1 hpo with h | h
      · exact h
      · obtain ⟨e, hem, heb⟩ := List.any_eq_true.1 h
        rw [Bool.and_eq_true] at heb
        exact absurd (Nat.eq_of_beq_eq_true heb.2) (hno e (by simpa using hem) heb.1)
    · by_cases hjk : j = k
      · subst hjk
        have hlt : j < listed.size := by rw [inv.size]; exact hkn
        simp [hlt]
      · exact getD_set_true (hdn j (by omega))
    · rw [getD_set_ne true (by omega)]; exact hun j (by omega) hjs

theorem wp_region_fast {id : Nat} {Q : Exit → Act → World → Prop} {a : Act} {w : World} {l : List Oper} (S : World → Prop) (hm : P.follows .mixedOrders = true) (hB : fastB .any l = true)
    (hS : S { w with drawn := w.drawn + 1 }) (h : wpHold P l.toArray S (fun a' => ∀ w', S w' → Q .normal a' w') l a) : (Code.region id l.toArray true).wp P Q a w := by
  simp only [fastB, Bool.and_eq_true] at hB
  have inv0 : HeadInv .any l.toArray l.toArray.size (Array.replicate l.toArray.size false) :=
    ⟨by simp, fun j oj _ hl => (by rw [getD_replicate_false] at hl; cases hl), fun t _ ht => getD_in (by simpa using ht) (getD_replicate_false _ _)⟩
  have H := anyG_fast (md := .any) hB.1 l 0 _ a (fun j => by simp) (by simp) inv0 (fun j hj => by omega) (fun j _ hj => getD_in (by simpa using hj) (getD_replicate_false _ _)) hB.2 h
  refine wp_region_any hm ?_
  have := wpAny_of_anyG (Q := Q) (g := 0) (fun listed a' w' hL hS' => ⟨hL.1, hL.2 w' hS'⟩) _ _ _ _ hS H
  simpa using this
end
end Go.Hold
