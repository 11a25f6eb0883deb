/-
  A region that draws its order, of which any operations hold, and the others come in one order that is named: some that hold may come late, among these.
-/
import Derived.Test.YtbhgmefdimjlaaaPick
namespace Go.Hold
open Go Go.RowKit
section
variable {P : Program} {md : Region.Mode} {W : World} {Q : Exit → Act → World → Prop} {l : List Oper} {hs ts : List Nat} {bs : List Bool} {vs : List Value}

def seqT (md : Region.Mode) (ops : Array Oper) : List Nat → Array Bool → Bool
  | [], listed => (Region.ready md ops listed).isEmpty
  | t :: ts, listed => decide (Region.ready md ops listed = [t]) && seqT md ops ts (listed.setIfInBounds t true)
def takeT (md : Region.Mode) (ops : Array Oper) (ts : List Nat) : List Nat → Array Bool → Bool
  | [], listed => seqT md ops ts listed
  | k :: ks, listed => (Region.ready md ops listed).contains k && Region.free md ops listed k && takeT md ops ts ks (listed.setIfInBounds k true)
def pickTB (md : Region.Mode) (ops : Array Oper) (hs : List Nat) (bs : List Bool) (ts : List Nat) : Bool :=
  Region.noSelect ops && decide (hs.length + ts.length = ops.size) && decide (bs.length = hs.length) && decide hs.Nodup && (hs.all fun i => decide (i < ops.size)) && (ts.all fun i => decide (i < ops.size)) &&
  ((List.range ops.size).all fun t => hs.contains t || ((List.range ops.size).any fun u => !hs.contains u && Region.waitsFor md ops t u) || waitB md ops t (hs.filter fun i => !(late hs bs).contains i)) &&
  takeT md ops ts hs (Array.replicate ops.size false)

theorem wpAny_of_seqT : ∀ (ts : List Nat) (listed : Array Bool) (a : Act) (w : World), (∀ i ∈ ts, i < l.length) → seqT md l.toArray ts listed = true → wpList P l.toArray Q (pick l ts) a w → wpAny P md l.toArray Q ts.length listed a w
  | [], listed, a, w, _, hB, h => ⟨by simpa [seqT] using hB, h⟩
  | t :: ts, listed, a, w, hlt, hB, h => by
    have ht : t < l.length := hlt t (by simp)
    have h0 : l.toArray[t]? = some l[t] := by simp [ht]
    simp only [seqT, Bool.and_eq_true, decide_eq_true_eq] at hB
    refine ⟨fun h1 => (by rw [hB.1] at h1; cases h1), fun i hi => ?_⟩
    rw [hB.1] at hi
    have hik : i = t := by simpa using hi
    subst hik
    rw [pick, List.getElem?_eq_getElem ht] at h
    have hw : wpOp P l.toArray Q i (wpList P l.toArray Q (pick l ts)) a w := by unfold wpOp; simp only [h0]; exact h
    exact wpOp_mono (fun a' w' h' => wpAny_of_seqT ts _ a' w' (fun j hj => hlt j (by simp [hj])) hB.2 h') hw

theorem anyP_heldT (hsel : Region.noSelect l.toArray = true) (hlt : ∀ i ∈ hs, i < l.length) (hts : ∀ i ∈ ts, i < l.length) (hnd : hs.Nodup) (hbl : bs.length = hs.length) (hvl : vs.length = hs.length)
    (hwait : ∀ listed, PickInv md l.toArray (fun i => hs.contains i) listed → ¬ Done l.toArray (fun i => hs.contains i) (fun i => (late hs bs).contains i) listed → ∀ t ∈ Region.ready md l.toArray listed, (fun i => hs.contains i) t = true)
    (hQ : ∀ c a d v w, Q (.panic c) (Act.put a d v) w → Q (.panic c) a w) :
    ∀ (ks : List Nat) (cs : List Bool) (ws : List Value) (p : Nat) (listed : Array Bool) (a : Act), hs.drop p = ks → bs.drop p = cs → vs.drop p = ws → p ≤ hs.length → PickInv md l.toArray (fun i => hs.contains i) listed →
    (∀ i, i ∈ hs → i ∉ ks → listed.getD i false = true) → takeT md l.toArray ts ks listed = true →
    chainF P l.toArray W (fun a' => ∀ w', Below W.heap.size W w' → wpList P l.toArray Q (pick l ts) a' w') (pick l ks) cs ws a →
    anyP (fun _ => none) (look hs vs) (fun i => hs.contains i) (fun i => (late hs bs).contains i) P md l.toArray W Q ts.length ks.length (fun _ => none) listed a
  | [], cs, ws, p, listed, a, hd, hb, hw, hp, inv, hdn, hB, h => by
    have hpe : p = hs.length := by
      have := congrArg List.length hd
      simp at this; omega
    have hwn : ws = [] := by rw [← hw, hpe, ← hvl, List.drop_length]
    subst hwn
    refine ⟨fun i hi => ?_, fun i _ hin _ => hdn i (by simpa using hin) (by simp), fun w hS _ => ?_⟩
    · refine Bool.eq_false_iff.2 fun hc => ?_
      have h1 := (mem_ready.1 hi).1
      have h2 := hdn i (by simpa using hc) (by simp)
      rw [getD_both h1] at h2; cases h2
    · have hq : ∀ w', Below W.heap.size W w' → wpList P l.toArray Q (pick l ts) a w' := by
        cases cs <;> exact h
      exact wpAny_of_seqT ts listed a w hts hB (hq w hS)
  | k :: ks, cs, ws, p, listed, a, hd, hb, hw, hp, inv, hdn, hB, h => by
    have hpk : hs[p]? = some k := by
      have := congrArg (fun x => x[0]?) hd
      simpa using this
    have hkm : k ∈ hs := List.mem_of_getElem? hpk
    have hpl : p < hs.length := (List.getElem?_eq_some_iff.1 hpk).1
    have hkl : k < l.length := hlt k hkm
    have h0 : l.toArray[k]? = some l[k] := by simp [hkl]
    simp only [takeT, Bool.and_eq_true] at hB
    obtain ⟨⟨hr, hf⟩, hB'⟩ := hB
    have hr' : k ∈ Region.ready md l.toArray listed := by simpa using hr
    rw [pick, List.getElem?_eq_getElem hkl] at h
    cases cs with
    | nil => simp [chainF] at h
    | cons c cs =>
    cases ws with
    | nil => simp [chainF] at h
    | cons v ws =>
      obtain ⟨hg, hy, hnx⟩ := h
      have hbp : bs[p]? = some c := by
        have := congrArg (fun x => x[0]?) hb
        simpa using this
      have hvp : vs[p]? = some v := by
        have := congrArg (fun x => x[0]?) hw
        simpa using this
      have hval : look hs vs k = v := look_at hs vs p k v hnd hpk hvp
      have hfl : (late hs bs).contains k = c := late_spec hs bs p k c hnd hbl hpk hbp
      have hsz : k < listed.size := by rw [inv.size]; simpa using hkl
      show anyP _ _ _ _ P md l.toArray W Q _ (ks.length + 1) _ listed a
      refine anyP_take _ _ _ _ h0 hsel (by simpa using hkm) hwait hQ (fun _ => rfl) ks.length _ listed a ⟨0, fun _ _ h => by cases h⟩ (fun _ _ => rfl) inv (Region.free_spec h0 hf) hr' (fun hfk => by rw [hval]; exact hy (hfl.symm.trans hfk))
        ⟨fun _ => ?_, fun t z he => by cases he⟩
      rw [hval]
      refine ⟨hg, anyP_heldT hsel hlt hts hnd hbl hvl hwait hQ ks cs ws (p + 1) _ _ (by rw [← List.drop_drop, hd]; rfl) (by rw [← List.drop_drop, hb]; rfl) (by rw [← List.drop_drop, hw]; rfl) (by omega) (inv.set hr' (by simpa using hkm)) (fun i hi hik => ?_) hB' hnx⟩
      by_cases hik' : i = k
      · subst hik'; simp [hsz]
      · exact getD_set_true (hdn i hi (by simp only [List.mem_cons, not_or]; exact ⟨hik', hik⟩))

/-- A REGION THAT DRAWS ITS ORDER: operations hold, in the order hs (those that bs marks hang on no world, and may come late); the others come in the order ts. -/
theorem wp_region_pickT {id : Nat} {a : Act} {w : World} (W : World) (hs : List Nat) (bs : List Bool) (ts : List Nat) (hm : P.follows .mixedOrders = true) (hB : pickTB .any l.toArray hs bs ts = true)
    (hQ : ∀ c a d v w, Q (.panic c) (Act.put a d v) w → Q (.panic c) a w) (hW : Below W.heap.size W { w with drawn := w.drawn + 1 })
    (h : wpHoldF P l.toArray W (fun a' => ∀ w', Below W.heap.size W w' → wpList P l.toArray Q (pick l ts) a' w') (pick l hs) bs a) :
    (Code.region id l.toArray true).wp P Q a w := by
  simp only [pickTB, Bool.and_eq_true, decide_eq_true_eq] at hB
  obtain ⟨⟨⟨⟨⟨⟨⟨hsel, hsz⟩, hbl⟩, hnd⟩, hlt⟩, hts⟩, hw⟩, htk⟩ := hB
  have hlt' : ∀ i ∈ hs, i < l.length := fun i hi => by simpa using List.all_eq_true.1 hlt i hi
  have hts' : ∀ i ∈ ts, i < l.length := fun i hi => by simpa using List.all_eq_true.1 hts i hi
  have hwait : ∀ listed, PickInv .any l.toArray (fun i => hs.contains i) listed → ¬ Done l.toArray (fun i => hs.contains i) (fun i => (late hs bs).contains i) listed → ∀ t ∈ Region.ready .any l.toArray listed, (fun i => hs.contains i) t = true := by
    intro listed inv hnd' t ht
    cases htn : hs.contains t with
    | true => exact htn
    | false =>
      exfalso
      obtain ⟨_, ot, hot, hdeps⟩ := mem_ready.1 ht
      have hts2 : t < l.toArray.size := (Array.getElem?_eq_some_iff.1 hot).1
      have h1 := List.all_eq_true.1 hw t (List.mem_range.2 hts2)
      simp only [Bool.or_eq_true] at h1
      rcases h1 with (h1 | h1) | h1
      · rw [htn] at h1; cases h1
      · obtain ⟨u, hu, hu2⟩ := List.any_eq_true.1 h1
        simp only [Bool.and_eq_true, Bool.not_eq_true'] at hu2
        obtain ⟨o', ho', e, he, hb, hon⟩ := Region.waitsFor_spec hu2.2
        obtain rfl : o' = ot := Option.some.inj (ho'.symm.trans hot)
        have h3 := hdeps e he hb
        rw [hon, getD_both (inv.tail u hu2.1 (List.mem_range.1 hu))] at h3
        cases h3
      · apply hnd'
        intro i _ hin hfi
        refine waitB_listed inv ht _ h1 i ?_
        rw [List.mem_filter]
        refine ⟨by simpa using hin, ?_⟩
        have hfi' : (late hs bs).contains i = false := hfi
        rw [hfi']; rfl
  obtain ⟨vs, hvl, hc⟩ := valsF _ _ _ h
  have hpl := (pick_eq l hs hlt').1
  have inv0 : PickInv .any l.toArray (fun i => hs.contains i) (Array.replicate l.toArray.size false) :=
    ⟨by simp, fun j oj _ hl => (by rw [getD_replicate_false] at hl; cases hl), fun t _ ht => getD_in (by simpa using ht) (getD_replicate_false _ _)⟩
  have H := anyP_heldT (md := .any) (vs := vs) hsel hlt' hts' hnd hbl (by rw [hvl, hpl]) hwait hQ hs bs vs 0 _ a rfl rfl rfl (Nat.zero_le _) inv0 (fun i hi hni => absurd hi hni) htk hc
  refine wp_region_any hm ?_
  have := wpAny_of_anyP (fun _ => none) (look hs vs) (fun i => hs.contains i) (fun i => (late hs bs).contains i) _ _ _ _ _ hW (fun i g hg => by cases hg) H
  rw [hsz] at this
  exact this
end
end Go.Hold
