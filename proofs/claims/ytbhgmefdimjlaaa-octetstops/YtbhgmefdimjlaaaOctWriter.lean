/-
  Package octet: a writer.
-/
import Derived.Test.YtbhgmefdimjlaaaOctSplit
namespace Go.Proofs.Ytbhgmefdimjlaaa
open Go.RowKit Go.Hold Go.Sh Go.Oc

/-- A writer lies in row g, its bytes in block ob, all of them from block B on. -/
def Wr (w : World) (B g : Nat) (ob : Option Nat) (room : Nat) (s : Ws) : Prop :=
  ∃ v, RowAt w g (wrow true s.1 room v) ∧ OwnB w B v s.2 ∧ v.ownBlock = ob ∧ ob ≠ some g ∧ B ≤ g ∧ s.2.length ≤ room ∧ room ≤ 65536
/-- What a call leaves of a writer. -/
def WStep (w : World) (B g : Nat) (ob : Option Nat) (room : Nat) (s' : Ws) (w' : World) : Prop := ∃ ob', Wr w' B g ob' room s' ∧ NewB w ob ob' ∧ Moves w g ob w'
theorem Wr.row {w : World} {B g room : Nat} {ob : Option Nat} {s : Ws} (h : Wr w B g ob room s) : ∃ v, RowAt w g (wrow true s.1 room v) := by
  obtain ⟨v, h, _⟩ := h; exact ⟨v, h⟩
theorem Wr.lt {w : World} {B g room : Nat} {ob : Option Nat} {s : Ws} (h : Wr w B g ob room s) : g < w.heap.size ∧ ∀ k, ob = some k → B ≤ k ∧ k < w.heap.size := by
  obtain ⟨v, h, ho, rfl, _⟩ := h
  exact ⟨h.2.2, World.ownsRow.lt ho⟩
theorem Wr.base {w : World} {B g room : Nat} {ob : Option Nat} {s : Ws} (h : Wr w B g ob room s) : B ≤ g := by
  obtain ⟨v, _, _, _, _, h, _⟩ := h; exact h
theorem Wr.le {w : World} {B g room : Nat} {ob : Option Nat} {s : Ws} (h : Wr w B g ob room s) : s.2.length ≤ room ∧ room ≤ 65536 := by
  obtain ⟨v, _, _, _, _, _, h⟩ := h; exact h
theorem Wr.apart {w : World} {B g room : Nat} {ob : Option Nat} {s : Ws} (h : Wr w B g ob room s) : ob ≠ some g := by
  obtain ⟨v, _, _, _, h, _⟩ := h; exact h
theorem Wr.moves {w w' : World} {B g room g2 : Nat} {ob ob2 : Option Nat} {s : Ws} (h : Wr w B g ob room s) (m : Moves w g2 ob2 w') (h1 : g ≠ g2) (h2 : ob2 ≠ some g) (h3 : ob ≠ some g2) (h4 : ∀ k, ob = some k → ob2 ≠ some k) : Wr w' B g ob room s := by
  obtain ⟨v, hr, ho, rfl, ha⟩ := h
  exact ⟨v, RowAt.moves hr m h1 h2, ho.moves m h3 h4, rfl, ha⟩
theorem Wr.grow {w w' : World} {B g room : Nat} {ob : Option Nat} {s : Ws} (h : Wr w B g ob room s) (hb : Below w.heap.size w w') : Wr w' B g ob room s := by
  obtain ⟨v, hr, ho, rfl, ha⟩ := h
  exact ⟨v, hr.grow hb, ho.below hb, rfl, ha⟩
theorem WStep.below {w0 w w' : World} {B g room : Nat} {ob : Option Nat} {s s' : Ws} (h : WStep w B g ob room s' w') (h0 : Wr w B g ob room s) (hb : Below B w0 w) (hB : B ≤ w.heap.size) : Below B w0 w' := by
  obtain ⟨ob', _, _, m⟩ := h
  exact m.below hb hB h0.base fun k hk => (h0.lt.2 k hk).1

set_option maxHeartbeats 400000 in
set_option maxRecDepth 100000 in
theorem newWriter_c (room : Nat) (h : room ≤ 65536) (w : World) :
    Calls Try.prog 9 #[.int .i64 (room : Int)] w fun e w' => ∃ g, e = .returned (.pointer (some ⟨g, 0, none⟩)) ∧ Wr w' w.heap.size g none room (0, []) ∧ Below w.heap.size w w' := by
  have h0 : ¬ (room : Int) < 0 := by omega
  have h1 : ¬ (65536 : Int) < (room : Int) := by omega
  have H := Lib.hid h
  clear h
  go_enter Try.func9, Try.ntmps9
  go_wp2_with fail
  go_ret
  exact ⟨_, rfl, ⟨_, RowAt.of (block_new w _), own_nil _ _, rfl, (fun e => by cases e), Nat.le_refl _, Nat.zero_le _, H.out⟩, below_alloc (Below.refl _ _) _⟩
theorem newWriter_bad (z : Int) (h : z < 0 ∨ 65536 < z) (w : World) :
    Calls Try.prog 9 #[.int .i64 z] w fun e w' => e = .returned (.pointer none) ∧ w' = w := by
  rcases h with h | h
  · go_enter Try.func9, Try.ntmps9
    go_wp2_with fail
    go_ret
    exact ⟨rfl, rfl⟩
  · have h0 : ¬ z < 0 := by omega
    go_enter Try.func9, Try.ntmps9
    go_wp2_with fail
    go_ret
    exact ⟨rfl, rfl⟩

/-- The first error is set. -/
theorem WStep.err {w w1 : World} {B g room : Nat} {ob : Option Nat} {s : Ws} (h : Wr w B g ob room s) (hb : Below w.heap.size w w1) (er : Int) : WStep w B g ob room (er, s.2) (w1.setCell ⟨g, 1, none⟩ (.int .i64 er)) := by
  have hlt := h.lt
  obtain ⟨v, hr, ho, rfl, ha⟩ := h
  have hr1 := hr.grow hb
  rw [setCell_row hr1]
  refine ⟨_, ⟨v, hr1.set _, ?_, rfl, ha⟩, NewB.refl _ _, (Moves.of g _ hb).setRow _⟩
  exact (ho.below hb).moves (Moves.setRow (Moves.refl w1 g none) _) ha.1 (fun _ _ e => by cases e)
/-- What is laid behind is put in place. -/
theorem WStep.put {w w1 : World} {B g room : Nat} {ob : Option Nat} {s : Ws} {l' : List Nat} {v' v0 : Value} (h : Wr w B g ob room s) (m : Moves w g ob w1) (hr : RowAt w1 g (wrow true s.1 room v0)) (ho : OwnB w1 B v' l') (hn : NewB w ob v'.ownBlock) (hl : l'.length ≤ room) :
    WStep w B g ob room (s.1, l') (w1.setCell ⟨g, 3, none⟩ v') := by
  have hlt := h.lt
  have hap := h.apart
  have hne : v'.ownBlock ≠ some g := hn.ne hap hlt.1
  rw [setCell_row hr]
  refine ⟨_, ⟨v', hr.set _, ?_, rfl, hne, h.base, hl, h.le.2⟩, hn, m.setRow _⟩
  exact ho.moves (Moves.setRow (Moves.refl w1 g none) _) hne (fun _ _ e => by cases e)
/-- Where bytes lie that were laid behind others. -/
theorem app_new {w : World} {B : Nat} {v : Value} {l m : List Nat} {p : Option Addr} {cap k : Nat} (h : OwnB w B v l) (hB : Bs0 w p m) (hk : k = m.length) (hp : p = none → cap = 0) (hBw : B ≤ w.heap.size) (hlen : l.length + m.length ≤ 16777216) :
    ∃ v' w', (Builtin.append_ #[26, 26] 26 #[v, .slice p k cap]).run Try.prog w = .ok v' w' ∧ OwnB w' B v' (l ++ m) ∧ w.grownBy w' v.ownBlock ∧ NewB w v.ownBlock v'.ownBlock := by
  subst hk
  obtain ⟨i0, hi, hz0, hz1, hz2⟩ := info_parts info_u8
  cases p with
  | none =>
    have hm : m = [] := by
      rcases hB with h | ⟨b, o, h, _⟩
      · exact h
      · cases h
    subst hm
    rw [hp rfl]
    exact ⟨v, w, run_append_owned_none (P := Try.prog) (w := w) B _ _ _ i0 1 Try.underlying26 hi v _ _ h, by rw [List.append_nil]; exact h, ⟨rfl, rfl, rfl, Nat.le_refl _, fun _ _ _ => rfl⟩, NewB.refl _ _⟩
  | some a =>
    have hnews : ∀ j u, (bys m)[j]? = some u → w.cell? (a.add j) = some u := by
      rcases hB with rfl | ⟨b, o, he, hB⟩
      · intro j u hu; simp [bys] at hu
      · cases he; exact bys_at hB
    obtain ⟨v', w', h1, h2, h3, h4⟩ := run_append_own (P := Try.prog) w B 26 26 5 i0 (.int .u8 0) 1 1 Try.underlying26 hi hz0 hz1 hz2 rfl (by decide) v l.length (bys l) h a m.length cap (bys m) (by rw [bys_length, Nat.mul_one]) hnews (bys_one m) (maxLen_small hlen) (by omega) hBw
    refine ⟨v', w', h1, OwnB.snoc h2, h3, ?_⟩
    rcases h.2 with ⟨rfl, h0⟩ | ⟨g0, cap0, cur, rfl, hb, hgg, hc, hm, hs, ht⟩
    · by_cases hm0 : 0 < m.length
      · have hr := run_append_nil (P := Try.prog) w 26 26 5 i0 (.int .u8 0) Try.underlying26 hi hz0 a m.length cap (bys m) (by rw [hz1, bys_length, Nat.mul_one]) hnews hm0 (by omega) (by rw [hz2]; omega)
        rw [h1] at hr
        cases hr
        intro k hk
        simp only [Value.ownBlock, Option.some.injEq] at hk
        exact .inr (by omega)
      · intro k hk
        rw [h4.2 ⟨rfl, by omega⟩] at hk
        cases hk
    · by_cases hroom : l.length + m.length ≤ cap0
      · have hr := run_append_room (P := Try.prog) w 26 26 5 i0 Try.underlying26 hi g0 l.length cap0 cur hgg a m.length cap (bys m) (by rw [hz1, bys_length, Nat.mul_one]) hnews (bys_one _) hroom (by rw [hz1, bys_length]; omega)
        rw [h1] at hr
        cases hr
        exact NewB.refl _ _
      · have hr := run_append_grow (P := Try.prog) w 26 26 5 i0 (.int .u8 0) Try.underlying26 hi hz0 ⟨g0, 0, none⟩ l.length cap0 (bys l) (by rw [hz1, bys_length, Nat.mul_one]) (World.ownsRow.cells h (g := g0) rfl) a m.length cap (bys m) (by rw [hz1, bys_length, Nat.mul_one]) hnews (by omega) (by omega) (by rw [hz2]; exact growslice_fits (by omega) (by omega))
        rw [h1] at hr
        cases hr
        intro k hk
        simp only [Value.ownBlock, Option.some.injEq] at hk
        exact .inr (by omega)

set_option maxHeartbeats 600000 in
set_option maxRecDepth 100000 in
theorem lay_c (B g : Nat) (ob : Option Nat) (room : Nat) (l m : List Nat) (p : Option Addr) (k cap : Nat) (w : World) (h : Wr w B g ob room (0, l)) (hk : k = m.length) (hB : Bs0 w p m) (hp : p = none → cap = 0) :
    Calls Try.prog 29 #[.pointer (some ⟨g, 0, none⟩), .slice p k cap] w fun e w' => e = .returned (.int .i64 (layS room l m).1) ∧ WStep w B g ob room (layS room l m) w' := by
  have H := Lib.hid h
  obtain ⟨v, hr, ho, rfl, hg, hBg, hle, hroom⟩ := h
  simp only at hr ho hle
  have hown := ho
  have HR := Lib.hid hr
  obtain ⟨p0, c0, rfl, _⟩ := ho.bs
  have hc1 := hr.cellAt 1 (show (wrow true 0 room (.slice p0 l.length c0))[1]? = some (.int .i64 0) from rfl)
  have hc2 := hr.cellAt 2 (show (wrow true 0 room (.slice p0 l.length c0))[2]? = some (.int .i64 (room : Int)) from rfl)
  have hc3 := hr.cellAt 3 (show (wrow true 0 room (.slice p0 l.length c0))[3]? = some (.slice p0 l.length c0) from rfl)
  have hf1 := hr.frozenAt 1
  have hgl := hr.2.2
  obtain ⟨n, en⟩ : ∃ n, n = l.length := ⟨_, rfl⟩
  obtain ⟨q, eq⟩ : ∃ q, q = room - n := ⟨_, rfl⟩
  have k1 : IntKind.i64.wrap ((room : Int) - (n : Int)) = (q : Int) := by rw [IntWalk.i64_in _ (by omega)]; omega
  by_cases hfull : room < l.length + m.length
  · have hlay : layS room l m = (8, l) := by unfold layS; rw [if_pos hfull]
    have h1 : (q : Int) < (k : Int) := by omega
    have Hg := Lib.hid hown
    rw [hlay]
    rw [← en] at hc3
    have En := Lib.hid en
    clear hr ho hg hBg hle hroom hB hp hk hlay hfull eq hc1 hf1 hown en
    go_enter Try.func29, Try.ntmps29
    go_wp2_with fail
    refine wp_region_fast (fun w' => ∃ o d, w' = w.plus o d) (by kernel_rfl) (by kernel_rfl) ⟨#[], _, rfl⟩ ?_
    iterate 13 (refine wpHold_val ⟨_, #[], 0, rfl⟩ (wanted_none rfl) (by rintro K _ ⟨o, d, rfl⟩ hK; go_simp; exact hK _ ⟨o, d, rfl⟩) ?_)
    refine wpHold_nil ?_
    rintro _ ⟨of1, nf1, rfl⟩
    have hb1 := below_more (Below.refl w.heap.size w) of1 nf1
    generalize w.plus of1 nf1 = W1 at *
    have hr1 := HR.out.grow hb1
    have KF := Lib.hid (fail_c g 8 0 W1 (hr1.cellAt 1 rfl) (hr1.frozenAt 1))
    have HS := Lib.hid (WStep.err H.out hb1 8)
    clear hb1 hr1
    go_wp2_with fail
    refine KF.out.mono ?_
    rintro e w' ⟨rfl, rfl⟩
    go_wp2_with fail
    go_ret
    exact ⟨rfl, HS.out⟩
  · have hlay : layS room l m = (0, l ++ m) := by unfold layS; rw [if_neg hfull]
    have h1 : ¬ (q : Int) < (k : Int) := by omega
    rw [hlay]
    rw [← en] at hc3
    have En := Lib.hid en
    have HB := Lib.hid hB
    have HP := Lib.hid hp
    have HK := Lib.hid hk
    have HL := Lib.hid hfull
    have HRm := Lib.hid hroom
    have HO := Lib.hid hown
    clear hr ho hg hBg hle hroom hB hp hk hlay hfull eq hc1 hf1 hown en
    go_enter Try.func29, Try.ntmps29
    go_wp2_with fail
    refine wp_region_fast (fun w' => ∃ o d, w' = w.plus o d) (by kernel_rfl) (by kernel_rfl) ⟨#[], _, rfl⟩ ?_
    iterate 13 (refine wpHold_val ⟨_, #[], 0, rfl⟩ (wanted_none rfl) (by rintro K _ ⟨o, d, rfl⟩ hK; go_simp; exact hK _ ⟨o, d, rfl⟩) ?_)
    refine wpHold_nil ?_
    rintro _ ⟨of1, nf1, rfl⟩
    have hb1 := below_more (Below.refl w.heap.size w) of1 nf1
    generalize w.plus of1 nf1 = W1 at *
    have hBs : B ≤ w.heap.size := Nat.le_trans H.out.base (Nat.le_of_lt H.out.lt.1)
    obtain ⟨v2, w2, hr2, ho2, hg2, hn2⟩ := app_new (cap := cap) (HO.out.below hb1) (HB.out.grow hb1) HK.out HP.out (Nat.le_trans hBs hb1.size) (by have := HL.out; have := HRm.out; omega)
    have m2 : Moves w g (Value.slice p0 l.length c0).ownBlock w2 := (Moves.of g _ hb1).grownBy hg2
    have hR1 := HR.out.grow hb1
    have hR2 : RowAt w2 g (wrow true 0 room (.slice p0 l.length c0)) := RowAt.moves hR1 (Moves.grownBy (Moves.refl W1 (g + 1) _) hg2) (by omega) H.out.apart
    have HS := Lib.hid (WStep.put H.out m2 hR2 ho2 (fun k hk => (hn2 k hk).imp id fun h => Nat.le_trans hb1.size h) (by rw [List.length_append]; have := HL.out; omega))
    have hc3 := hR1.cellAt 3 (show (wrow true 0 room (.slice p0 l.length c0))[3]? = some (.slice p0 l.length c0) from rfl)
    have hd3 := hR2.cellAt 3 (show (wrow true 0 room (.slice p0 l.length c0))[3]? = some (.slice p0 l.length c0) from rfl)
    have hf3 := hR2.frozenAt 3
    obtain ⟨p2, c2, rfl, _⟩ := ho2.bs
    clear m2 hR1 hR2 hn2 hg2 ho2 hb1
    generalize (l ++ m).length = n2 at *
    go_wp2_with (at_builtin; refine Lib.wpList_append_run _ rfl _ _ _ _ rfl _ _ rfl rfl _ _ hr2 ?_)
    go_wp2_with fail
    go_ret
    exact ⟨rfl, HS.out⟩
end Go.Proofs.Ytbhgmefdimjlaaa
