/-
  The reference of layer 7: what is taken of bytes.
-/
import Derived.Test.YtbhgmefdimjlaaaOctRef2
import Derived.Test.YtbhgmefdimjlaaaOctTake
namespace Go.Proofs.Ytbhgmefdimjlaaa
open Go.RowKit Go.Hold Go.Sh Go.Oc

/-- A slice of bytes: empty, or in block bb. -/
def NV (w : World) (bb : Option Nat) (v : Value) (l : List Nat) : Prop :=
  ∃ p c, v = .slice p l.length c ∧ (l = [] ∨ ∃ b o, bb = some b ∧ p = some ⟨b, o, none⟩ ∧ BytesAt w b o l) ∧ l.length ≤ c ∧ (p = none → c = 0)
theorem NV.sl {w : World} {bb : Option Nat} {v : Value} {l : List Nat} (h : NV w bb v l) : SlV w v l := by
  obtain ⟨p, c, rfl, h1, h2, h3⟩ := h
  refine ⟨p, c, rfl, ?_, h2, h3⟩
  rcases h1 with h | ⟨b, o, _, e, h⟩
  · exact .inl h
  · exact .inr ⟨b, o, e, h⟩
theorem NV.grow {w w' : World} {bb : Option Nat} {v : Value} {l : List Nat} (h : NV w bb v l) (hb : Below w.heap.size w w') : NV w' bb v l := by
  obtain ⟨p, c, rfl, h1, h2, h3⟩ := h
  refine ⟨p, c, rfl, ?_, h2, h3⟩
  rcases h1 with h | ⟨b, o, e1, e, h⟩
  · exact .inl h
  · exact .inr ⟨b, o, e1, e, h.grow hb⟩
theorem NV.moves {w w' : World} {bb : Option Nat} {v : Value} {l : List Nat} {g : Nat} {a : Option Nat} (h : NV w bb v l) (m : Moves w g a w') (h1 : bb ≠ some g) (h2 : ∀ k, bb = some k → a ≠ some k) : NV w' bb v l := by
  obtain ⟨p, c, rfl, h3, h4, h5⟩ := h
  refine ⟨p, c, rfl, ?_, h4, h5⟩
  rcases h3 with h | ⟨b, o, e1, e, h⟩
  · exact .inl h
  · exact .inr ⟨b, o, e1, e, h.moves m (fun e2 => h1 (by rw [e1, e2])) (h2 b e1)⟩
/-- What is left of a slice from its n-th byte on. -/
theorem NV.drop {w : World} {bb : Option Nat} {p : Option Addr} {c n k : Nat} {l : List Nat} (h : NV w bb (.slice p k c) l) (hn : n ≤ l.length) :
    ∃ p', (∀ W, (slB (.slice p k c) (some (.int .i64 (n : Int))) none none).run Try.prog W = .ok (.slice p' (k - n) (c - n)) W) ∧ NV w bb (.slice p' (k - n) (c - n)) (l.drop n) := by
  obtain ⟨p0, c0, e, h1, h2, h3⟩ := h
  cases e
  have hld : (l.drop n).length = l.length - n := List.length_drop ..
  rcases h1 with h1 | ⟨b, o, e1, rfl, h1⟩
  · subst h1
    obtain rfl : n = 0 := by simpa using hn
    cases p with
    | none =>
      obtain rfl := h3 rfl
      exact ⟨none, fun W => slB_loN W, none, 0, rfl, .inl rfl, Nat.le_refl _, fun _ => rfl⟩
    | some a =>
      refine ⟨some a, fun W => ?_, some a, c - 0, rfl, .inl rfl, Nat.zero_le _, fun h => by cases h⟩
      unfold slB
      rw [run_sliceAt_slice _ _ _ _ _ _ elem8, run_slice_l _ _ _ _ _ elem8 _ _ (by omega) (by simp), size8]
      by_cases e : c = 0
      · subst e; simp [sliced, Result.andThen]
      · simp [sliced, Result.andThen, Addr.add]
  · exact ⟨some ⟨b, adv o n c, none⟩, fun W => slB_lo b o l.length c n hn W, _, _, by rw [hld], .inr ⟨b, _, e1, rfl, h1.adv h2⟩, by omega, fun h => by cases h⟩
theorem NV.take {w : World} {bb : Option Nat} {p : Option Addr} {c n k : Nat} {l : List Nat} (h : NV w bb (.slice p k c) l) (hn : n ≤ l.length) : NV w bb (.slice p n c) (l.take n) := by
  obtain ⟨p0, c0, e, h1, h2, h3⟩ := h
  cases e
  refine ⟨p, c, by rw [List.length_take, Nat.min_eq_left hn], ?_, by rw [List.length_take]; omega, h3⟩
  rcases h1 with h1 | ⟨b, o, e1, e, h1⟩
  · exact .inl (by simp [h1])
  · refine .inr ⟨b, o, e1, e, h1.1, fun i hi => ?_⟩
    rw [List.length_take] at hi
    rw [h1.2 i (by omega)]
    simp [List.getD, show i < n by omega]
theorem results_mr {fn : Func} {p p' p'' : Tmp} (h : fn.results = #[.cell p 46, .tmp p', .tmp p'']) (v : Value) (er : Int) (x y : Value) (w : World) (tmps : Array Value) (n : Nat) (hp : tmps.getD p undef = .pointer (some ⟨n, 0, none⟩)) (h1 : w.isRow n = true) (h2 : w.rowOf n = nrow v er) (hx : tmps.getD p' undef = x) (hy : tmps.getD p'' undef = y) :
    (results fn tmps).run Try.prog w = .ok (.tuple #[.agg (nrow v er), x, y]) w := by
  obtain ⟨s, hs⟩ := World.isRow_spec h1
  rw [h2] at hs
  have e : tmps[p]?.getD undef = .pointer (some ⟨n, 0, none⟩) := by simpa using hp
  have e' : tmps[p']?.getD undef = x := by simpa using hx
  have e'' : tmps[p'']?.getD undef = y := by simpa using hy
  simp [results, h, e, e', e'', asAddr, run_loadVar_row w n s 46 (nrow v er) (0, 0) _ hs Try.underlying46 rfl (by rw [nrow_size]; kernel_rfl)]
theorem n0row (w : World) (c z : Array Value) (t : TypeId) : RowAt ((w.alloc (.cells c t)).alloc (.cells z t)) w.heap.size c ∧ RowAt ((w.alloc (.cells c t)).alloc (.cells z t)) (w.heap.size + 1) z := m0row w c z t
/-- What a call of the reference's reader answers. -/
def NRet (w : World) (bb : Option Nat) (s' : Ws) (x : Value) (e : Ending) (w' : World) : Prop :=
  ∃ v', e = .returned (.tuple #[.agg (nrow v' s'.1), x, .int .i64 s'.1]) ∧ NV w' bb v' s'.2 ∧ Below w.heap.size w w'
theorem NRet.mk {w w' : World} {bb : Option Nat} {s' : Ws} {x v' : Value} (h : NV w bb v' s'.2) (hb : Below w.heap.size w w') : NRet w bb s' x (.returned (.tuple #[.agg (nrow v' s'.1), x, .int .i64 s'.1])) w' := ⟨v', rfl, h.grow hb, hb⟩

set_option maxHeartbeats 1000000 in
set_option maxRecDepth 100000 in
theorem rtakeBytes_c (v : Value) (bb : Option Nat) (s : Ws) (n : Int) (w : World) (hv : NV w bb v s.2) :
    Calls Try.prog 21 #[.agg (nrow v s.1), .int .i64 n] w fun e w' => ∃ u, NRet w bb (rbytS s n) u e w' ∧ NV w' bb u (rbytV s n) := by
  obtain ⟨er, l⟩ := s
  simp only at hv
  have HN := Lib.hid hv
  obtain ⟨p, c, rfl, _⟩ := hv
  obtain ⟨k, ek⟩ : ∃ k, k = l.length := ⟨_, rfl⟩
  rw [← ek] at HN ⊢
  have HNil := Lib.hid (show ∀ W, NV W bb (.slice none 0 0) [] from fun W => ⟨none, 0, rfl, .inl rfl, Nat.le_refl _, fun _ => rfl⟩)
  by_cases her : er = 0
  · subst her
    have hs : rbytS (0, l) n = if n < 0 then (2, l) else takS (0, l) n.toNat := by unfold rbytS; rw [if_neg (by simp)]
    rw [hs]
    by_cases h0 : n < 0
    · rw [if_pos h0]
      have hx : rbytV (0, l) n = [] := by unfold rbytV; rw [if_neg (fun e => by have := e.2.1; omega)]
      rw [hx]
      have HR := Lib.hid (NRet.mk (s' := (2, l)) (x := .slice none 0 0) HN.out (below_alloc (below_alloc (Below.refl _ _) (.cells (nrow (.slice p k c) 2) 46)) (.cells (nrow (.slice p k c) 2) 46)))
      clear hs hx ek
      go_enter Try.func21, Try.ntmps21
      go_wp2_with fail
      refine bodyPost_ret (v := .tuple #[.agg (nrow (.slice p k c) 2), .slice none 0 0, .int .i64 2]) (results_mr Try.results21 _ _ _ _ _ _ (w.heap.size + 1) rfl ?_ ?_ rfl rfl) rfl ?_
      · go_simp
      · go_simp
      · exact ⟨_, HR.out, HNil.out _⟩
    · rw [if_neg h0]
      obtain ⟨z, rfl⟩ : ∃ z : Nat, n = (z : Int) := ⟨n.toNat, by omega⟩
      rw [Int.toNat_natCast]
      by_cases hsh : l.length < z
      · have hx : rbytV (0, l) (z : Int) = [] := by unfold rbytV; rw [if_neg (fun e => by have := e.2.2; simp only [Int.toNat_natCast] at this; omega)]
        have e2 : takS (0, l) z = (4, l) := by unfold takS; rw [if_pos hsh]
        rw [hx, e2]
        have h1 : (k : Int) < (z : Int) := by omega
        have HR := Lib.hid (NRet.mk (s' := (4, l)) (x := .slice none 0 0) HN.out (below_alloc (below_alloc (Below.refl _ _) (.cells (nrow (.slice p k c) 4) 46)) (.cells (nrow (.slice p k c) 4) 46)))
        clear hs hx ek e2 hsh
        go_enter Try.func21, Try.ntmps21
        go_wp2_with fail
        refine bodyPost_ret (v := .tuple #[.agg (nrow (.slice p k c) 4), .slice none 0 0, .int .i64 4]) (results_mr Try.results21 _ _ _ _ _ _ (w.heap.size + 1) rfl ?_ ?_ rfl rfl) rfl ?_
        · go_simp
        · go_simp
        · exact ⟨_, HR.out, HNil.out _⟩
      · have hx : rbytV (0, l) (z : Int) = l.take z := by unfold rbytV; rw [if_pos ⟨by simp, by omega, by simp only [Int.toNat_natCast]; omega⟩]; rfl
        have e2 : takS (0, l) z = (0, l.drop z) := by unfold takS; rw [if_neg hsh]
        rw [hx, e2]
        have h1 : ¬ (k : Int) < (z : Int) := by omega
        obtain ⟨p', hlo, hnd⟩ := HN.out.drop (n := z) (by omega)
        have hkc : k ≤ c := by obtain ⟨p0, c0, e, _, h2, _⟩ := HN.out; cases e; exact h2
        have hh := fun W => slB_h p k c z (by omega) W
        have HT := Lib.hid (HN.out.take (n := z) (by omega))
        have HB := Lib.hid (below_alloc (below_alloc (Below.refl w.heap.size w) (.cells (nrow (.slice p' (k - z) (c - z)) 0) 46)) (.cells (nrow (.slice p' (k - z) (c - z)) 0) 46))
        have HR := Lib.hid (NRet.mk (s' := (0, l.drop z)) (x := .slice p z c) hnd HB.out)
        clear hs hx ek e2 hsh hnd
        generalize k - z = kz at *
        generalize c - z = cz at *
        go_enter Try.func21, Try.ntmps21
        go_wp2_with fail
        refine bodyPost_ret (v := .tuple #[.agg (nrow (.slice p' kz cz) 0), .slice p z c, .int .i64 0]) (results_mr Try.results21 _ _ _ _ _ _ (w.heap.size + 1) rfl ?_ ?_ rfl rfl) rfl ?_
        · go_simp
        · go_simp
        · exact ⟨_, HR.out, HT.out.grow HB.out⟩
  · have hs : rbytS (er, l) n = (er, l) := by unfold rbytS; rw [if_pos her]
    have hx : rbytV (er, l) n = [] := by unfold rbytV; rw [if_neg (fun e => her e.1)]
    rw [hs, hx]
    have her' : (er != 0) = true := by simpa using her
    have HR := Lib.hid (NRet.mk (s' := (er, l)) (x := .slice none 0 0) HN.out (below_alloc (below_alloc (Below.refl w.heap.size w) (.cells (nrow (.slice p k c) er) 46)) (.cells (nrow (.slice p k c) er) 46)).drew)
    clear hs hx ek
    go_enter Try.func21, Try.ntmps21
    go_wp2_with fail
    go_region
    go_wp2_with fail
    refine bodyPost_ret (v := .tuple #[.agg (nrow (.slice p k c) er), .slice none 0 0, .int .i64 er]) (results_mr Try.results21 _ _ _ _ _ _ (w.heap.size + 1) rfl ?_ ?_ rfl rfl) rfl ?_
    · go_simp
    · go_simp
    · exact ⟨_, HR.out, HNil.out _⟩
end Go.Proofs.Ytbhgmefdimjlaaa
