/-
  The reference of layer 7: bytes that are laid down.
-/
import Derived.Test.YtbhgmefdimjlaaaOctRows
import Derived.Test.YtbhgmefdimjlaaaOctWriter
namespace Go.Proofs.Ytbhgmefdimjlaaa
open Go.RowKit Go.Hold Go.Sh Go.Oc

set_option maxHeartbeats 600000 in
set_option maxRecDepth 100000 in
theorem rfail_c (p : Option Addr) (k c : Nat) (room er e1 : Int) (w : World) :
    Calls Try.prog 31 #[.agg (mrow (.slice p k c) room er), .int .i64 e1] w fun e w' => e = .returned (.tuple #[.agg (mrow (.slice p k c) room e1), .int .i64 e1]) ∧ Below w.heap.size w w' := by
  go_enter Try.func31, Try.ntmps31
  go_wp2_with fail
  refine bodyPost_ret (v := .tuple #[.agg (mrow (.slice p k c) room e1), .int .i64 e1]) (results_mw Try.results31 _ _ _ _ _ _ (w.heap.size + 1) rfl (by go_simp) (by go_simp) rfl) rfl ⟨rfl, ?_⟩
  repeat (first | apply below_more | apply below_alloc | exact Below.refl _ _)
theorem results_own {w : World} {B : Nat} {v : Value} {l : List Nat} (h : OwnB w B v l) : SlV w v l := by
  obtain ⟨p, c, rfl, h1, h2, h3⟩ := h.bs
  exact ⟨p, c, rfl, h1, h2, h3⟩
/-- A slice of bytes whose block is one of the world's. -/
def MV (w : World) (v : Value) (l : List Nat) : Prop := SlV w v l ∧ ∀ k, v.ownBlock = some k → k < w.heap.size
theorem MV.grow {w w' : World} {v : Value} {l : List Nat} (h : MV w v l) (hb : Below w.heap.size w w') : MV w' v l := ⟨h.1.grow hb, fun k hk => Nat.lt_of_lt_of_le (h.2 k hk) hb.size⟩
theorem MV.moves {w w' : World} {v : Value} {l : List Nat} {g : Nat} {a : Option Nat} (h : MV w v l) (m : Moves w g a w') (hg : v.ownBlock ≠ some g) (ha : ∀ k, v.ownBlock = some k → a ≠ some k) : MV w' v l := by
  obtain ⟨⟨p, c, rfl, h1, h2, h3⟩, h4⟩ := h
  exact ⟨⟨p, c, rfl, h1.moves m (fun b o e => by subst e; exact ⟨fun e => hg (by rw [e]; rfl), ha b rfl⟩), h2, h3⟩, fun k hk => Nat.lt_of_lt_of_le (h4 k hk) m.size⟩
theorem MV.own {w : World} {B : Nat} {v : Value} {l : List Nat} (h : OwnB w B v l) : MV w v l := ⟨results_own h, fun k hk => (World.ownsRow.lt h k hk).2⟩
theorem MV.nil (w : World) : MV w (.slice none 0 0) [] := ⟨⟨none, 0, rfl, .inl rfl, Nat.le_refl _, fun _ => rfl⟩, fun k hk => by cases hk⟩
set_option maxHeartbeats 1000000 in
set_option maxRecDepth 100000 in
theorem rlay_c (v u : Value) (room : Nat) (l m : List Nat) (w : World) (hv : MV w v l) (hu : SlV w u m) (hroom : room ≤ 65536) (hle : l.length ≤ room) (hm : m.length ≤ 8000000) :
    Calls Try.prog 32 #[.agg (mrow v room 0), u] w fun e w' => ∃ v', e = .returned (.tuple #[.agg (mrow v' room (layS room l m).1), .int .i64 (layS room l m).1]) ∧ MV w' v' (layS room l m).2 ∧ NewB w v.ownBlock v'.ownBlock ∧ Below w.heap.size w w' := by
  have HMV := Lib.hid hv
  obtain ⟨⟨p, c, rfl, hp, hlc, hpc⟩, _⟩ := hv
  obtain ⟨q, cap, rfl, hq, hqc, hqn⟩ := hu
  obtain ⟨n, en⟩ : ∃ n, n = l.length := ⟨_, rfl⟩
  obtain ⟨k, ek⟩ : ∃ k, k = m.length := ⟨_, rfl⟩
  obtain ⟨t, et⟩ : ∃ t, t = n + k := ⟨_, rfl⟩
  have k1 : IntKind.i64.wrap ((n : Int) + (k : Int)) = (t : Int) := by rw [IntWalk.i64_in _ (by omega)]; omega
  rw [← en, ← ek]
  by_cases hfull : room < l.length + m.length
  · have hlay : layS room l m = (8, l) := by unfold layS; rw [if_pos hfull]
    have h1 : (room : Int) < (t : Int) := by omega
    rw [← en] at HMV
    rw [hlay]
    clear hlay hfull hp hlc hpc hq hqc hqn en ek et hm hle hroom
    go_enter Try.func32, Try.ntmps32
    go_wp2_with fail
    have HB := Lib.hid (show Below w.heap.size w ((w.alloc (.cells (mrow (.slice p n c) room 8) 28)).alloc (.cells (mrow (.slice p n c) room 8) 28)) from below_alloc (below_alloc (Below.refl _ _) _) _)
    refine bodyPost_ret (v := .tuple #[.agg (mrow (.slice p n c) room 8), .int .i64 8]) (results_mw Try.results32 _ _ _ _ _ _ (w.heap.size + 1) rfl ?_ ?_ rfl) rfl ?_
    · go_simp
    · go_simp
    · exact ⟨_, rfl, HMV.out.grow HB.out, NewB.refl _ _, HB.out⟩
  · have hlay : layS room l m = (0, l ++ m) := by unfold layS; rw [if_neg hfull]
    have h1 : ¬ (room : Int) < (t : Int) := by omega
    have B0 := below_alloc (below_alloc (below_alloc (Below.refl w.heap.size w) (.cells (mrow (.slice p n c) room 0) 28)) (.cells #[.slice none 0 0, .int .i64 0, .int .i64 0] 28)) (.cells #[] 5)
    have R0 : RowAt (((w.alloc (.cells (mrow (.slice p n c) room 0) 28)).alloc (.cells #[.slice none 0 0, .int .i64 0, .int .i64 0] 28)).alloc (.cells #[] 5)) w.heap.size (mrow (.slice p n c) room 0) := ⟨by go_simp, by go_simp, by go_simp⟩
    have R1 : RowAt (((w.alloc (.cells (mrow (.slice p n c) room 0) 28)).alloc (.cells #[.slice none 0 0, .int .i64 0, .int .i64 0] 28)).alloc (.cells #[] 5)) (w.heap.size + 1) #[.slice none 0 0, .int .i64 0, .int .i64 0] := ⟨by go_simp, by go_simp, by go_simp⟩
    have hE := ownB_empty ((w.alloc (.cells (mrow (.slice p n c) room 0) 28)).alloc (.cells #[.slice none 0 0, .int .i64 0, .int .i64 0] 28)) (w.heap.size + 1 + 1) (by simp)
    have hsz : ((w.alloc (.cells (mrow (.slice p n c) room 0) 28)).alloc (.cells #[.slice none 0 0, .int .i64 0, .int .i64 0] 28)).heap.size = w.heap.size + 1 + 1 := by simp
    rw [hsz] at hE
    have hs2 : (((w.alloc (.cells (mrow (.slice p n c) room 0) 28)).alloc (.cells #[.slice none 0 0, .int .i64 0, .int .i64 0] 28)).alloc (.cells #[] 5)).heap.size = w.heap.size + 1 + 1 + 1 := by simp
    rw [hlay]
    have HW : ∃ W2, W2 = ((w.alloc (.cells (mrow (.slice p n c) room 0) 28)).alloc (.cells #[.slice none 0 0, .int .i64 0, .int .i64 0] 28)).alloc (.cells #[] 5) := ⟨_, rfl⟩
    obtain ⟨W2, eW⟩ := HW
    rw [← eW] at B0 R0 R1 hE hs2
    obtain ⟨v1, w1, hr1, ho1, hg1⟩ := app_own (p := p) (cap := c) (k := n) hE (hp.grow B0) en hpc (by omega) (by rw [List.length_nil]; omega)
    rw [List.nil_append] at ho1
    have B1 := own_below (B := w.heap.size + 1 + 1) (w1 := W2) (Below.refl _ W2) hE (by omega) hg1
    have B1' : Below w.heap.size w w1 := B0.trans (B1.mono (by omega))
    obtain ⟨v2, w2, hr2, ho2, hg2⟩ := app_own (p := q) (cap := cap) (k := k) ho1 (hq.grow B1') ek hqn (by have := B1.size; omega) (by omega)
    have B2 := own_below (B := w.heap.size + 1 + 1) (w1 := w1) B1 ho1 (by have := B1.size; omega) hg2
    have B2' : Below w.heap.size w w2 := B0.trans (B2.mono (by omega))
    have R0' := R0.keep B2 (by omega)
    have R1' := R1.keep B2 (by omega)
    obtain ⟨p2, c2, rfl, _⟩ := ho2.bs
    generalize hn2 : (l ++ m).length = n2 at *
    have hc0 := R0'.cellAt 0 (show (mrow (.slice p n c) room 0)[0]? = some (.slice p n c) from rfl)
    have hf0 := R0'.frozenAt 0
    have S0 := R0'.setCell 0 (.slice p2 n2 c2)
    rw [mrow_v] at S0
    have S1 : RowAt (w2.setCell ⟨w.heap.size, 0, none⟩ (.slice p2 n2 c2)) (w.heap.size + 1) #[.slice none 0 0, .int .i64 0, .int .i64 0] :=
      RowAt.moves R1' (Moves.setCell (Moves.refl w2 w.heap.size none) 0 _) (by omega) (fun e => by cases e)
    have hO : OwnB ((w2.setCell ⟨w.heap.size, 0, none⟩ (.slice p2 n2 c2)).setRow (w.heap.size + 1) (mrow (.slice p2 n2 c2) room 0)) (w.heap.size + 1 + 1) (.slice p2 n2 c2) (l ++ m) := by
      have hlt := World.ownsRow.lt ho2
      have a1 := ho2.moves (Moves.setCell (Moves.refl w2 w.heap.size none) 0 (.slice p2 n2 c2)) (fun e => by have := (hlt _ e).1; omega) (fun _ _ e => by cases e)
      exact a1.moves (Moves.setRow (Moves.refl _ (w.heap.size + 1) none) _) (fun e => by have := (hlt _ e).1; omega) (fun _ _ e => by cases e)
    have HO := Lib.hid (MV.own hO)
    have HN := Lib.hid (show NewB w (Value.slice p n c).ownBlock (Value.slice p2 n2 c2).ownBlock from fun k hk => .inr (by have := (World.ownsRow.lt hO k hk).1; omega))
    have HB := Lib.hid (show Below w.heap.size w ((w2.setCell ⟨w.heap.size, 0, none⟩ (.slice p2 n2 c2)).setRow (w.heap.size + 1) (mrow (.slice p2 n2 c2) room 0)) from by
      have a1 : Below w.heap.size w (w2.setCell ⟨w.heap.size, 0, none⟩ (.slice p2 n2 c2)) := Moves.below (Moves.setCell (Moves.refl w2 w.heap.size none) 0 _) B2' B2'.size (Nat.le_refl _) (fun _ e => by cases e)
      exact Moves.below (Moves.setRow (Moves.refl _ (w.heap.size + 1) none) _) a1 a1.size (by omega) (fun _ e => by cases e))
    obtain ⟨a1, a2, a3⟩ := S0
    obtain ⟨b1, b2, b3⟩ := S1
    subst eW
    clear hlay hfull hp hlc hpc hq hqc hqn en ek et hm hle hroom B0 R0 R1 hE hs2 hsz ho1 hg1 B1 B1' ho2 hg2 B2 B2' R0' R1' hn2 hO
    go_enter Try.func32, Try.ntmps32
    go_wp2_with (at_builtin; first | refine Lib.wpList_append_run _ rfl _ _ _ _ rfl _ _ rfl rfl _ _ hr1 ?_ | refine Lib.wpList_append_run _ rfl _ _ _ _ rfl _ _ rfl rfl _ _ hr2 ?_)
    go_wp2_with fail
    refine bodyPost_ret (v := .tuple #[.agg (mrow (.slice p2 n2 c2) room 0), .int .i64 0]) (results_mw Try.results32 _ _ _ _ _ _ (w.heap.size + 1) rfl ?_ ?_ rfl) rfl ?_
    · go_simp
    · go_simp
    · exact ⟨_, rfl, HO.out, HN.out, HB.out⟩
end Go.Proofs.Ytbhgmefdimjlaaa
