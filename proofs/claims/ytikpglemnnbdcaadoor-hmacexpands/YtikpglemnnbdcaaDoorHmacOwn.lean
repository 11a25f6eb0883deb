/-
  Bytes are laid behind those of a slice of one's own: where the new slice lies. Two slices of one's own.
-/
import Derived.Test.YtikpglemnnbdcaaDoorHmacExpand
namespace Go.Proofs.YtikpglemnnbdcaaDoor
open Go.RowKit Go.Hold Go.Sh

/-- One byte more: the slice lies where it lay, or in a new block. -/
theorem app_at {w : World} {B g : Nat} {v : Value} {l : List Nat} {y : Nat} (h : OwnB w B v l) (hg : BytesAt w g 0 [y]) (hBw : B ≤ w.heap.size) (hlen : l.length + 1 ≤ 16777216) :
    ∃ v' w', (Builtin.append_ #[22, 22] 22 #[v, .slice (some ⟨g, 0, none⟩) 1 1]).run Tryd.prog w = .ok v' w' ∧ OwnB w' B v' (l ++ [y]) ∧ w.grownBy w' v.ownBlock ∧
      (v'.ownBlock = v.ownBlock ∨ v'.ownBlock = some w.heap.size) := by
  obtain ⟨v', w', h1, h2, h3⟩ := app_own (k := 1) (cap := 1) h (Bs0.some hg) rfl (fun h => by cases h) hBw hlen
  refine ⟨v', w', h1, h2, h3, ?_⟩
  obtain ⟨i0, hi, hz0, hz1, hz2⟩ := info_parts info_u8
  have hnews := bys_at hg
  rcases h.2 with ⟨rfl, h0⟩ | ⟨g0, cap, cur, rfl, hb, hgg, hc, hm, hs, ht⟩
  · have hr := run_append_nil (P := Tryd.prog) w 22 22 5 i0 (.int .u8 0) Tryd.underlying22 hi hz0 ⟨g, 0, none⟩ 1 1 (bys [y]) (by rw [hz1]; rfl) hnews (by decide) (by decide) (by rw [hz2]; decide)
    rw [h1] at hr
    cases hr
    exact .inr rfl
  · by_cases hroom : l.length + 1 ≤ cap
    · have hr := run_append_room (P := Tryd.prog) w 22 22 5 i0 Tryd.underlying22 hi g0 l.length cap cur hgg ⟨g, 0, none⟩ 1 1 (bys [y]) (by rw [hz1]; rfl) hnews (bys_one _) hroom (by rw [hz1, bys_length]; simp only [List.length_cons, List.length_nil]; omega)
      rw [h1] at hr
      cases hr
      exact .inl rfl
    · have hr := run_append_grow (P := Tryd.prog) w 22 22 5 i0 (.int .u8 0) Tryd.underlying22 hi hz0 ⟨g0, 0, none⟩ l.length cap (bys l) (by rw [hz1, bys_length, Nat.mul_one]) (World.ownsRow.cells h (g := g0) rfl) ⟨g, 0, none⟩ 1 1 (bys [y]) (by rw [hz1]; rfl) hnews (by omega) (by omega) (by rw [hz2]; exact growslice_fits (by omega) (by omega))
      rw [h1] at hr
      cases hr
      exact .inr rfl
theorem OwnB.kept {w w' : World} {B : Nat} {v : Value} {l : List Nat} {row : Option Nat} (h : OwnB w B v l) (hg : w.grownBy w' row) (hne : v.ownBlock = none ∨ v.ownBlock ≠ row) : OwnB w' B v l := World.ownsRow.kept h hg hne
theorem OwnB.ltb {w : World} {B : Nat} {v : Value} {l : List Nat} (h : OwnB w B v l) (k : Nat) (hk : v.ownBlock = some k) : B ≤ k ∧ k < w.heap.size := World.ownsRow.lt h k hk

@[go_sem] theorem run_bldB0 (w : World) : (bldB 0 #[]).run Tryd.prog w = .ok (.slice (some ⟨w.heap.size, 0, none⟩) 0 0) (w.alloc (.cells #[] 5)) := by
  obtain ⟨ie, h1, h2, h3, _⟩ := info_parts info_u8
  simp [bldB, Instr.buildSlice, run_underlying Tryd.underlying22, sizeOf, typeInfo, h1, Instr.fill, Array.range_zero', newObj, newRow]
  rfl
set_option maxHeartbeats 400000 in
set_option maxRecDepth 100000 in
theorem rjoin_c (ac bc na nb : Nat) (ap bp : Option Addr) (a b : List Nat) (w : World) (hna : na = a.length) (hnb : nb = b.length) (haB : Bs0 w ap a) (hap : ap = none → ac = 0) (hbB : Bs0 w bp b) (hbp : bp = none → bc = 0) (hl : a.length + b.length ≤ 16000000) :
    Calls Tryd.prog 27 #[.slice ap na ac, .slice bp nb bc] w fun e w' => ∃ v, e = .returned v ∧ OwnB w' w.heap.size v (a ++ b) ∧ Below w.heap.size w w' := by
  have BA := below_alloc (Below.refl w.heap.size w) (.cells #[] 5)
  have hE := ownB_empty w w.heap.size (Nat.le_refl _)
  obtain ⟨v1, w1, hr1, ho1, hg1⟩ := app_own (cap := ac) hE (haB.grow BA) hna hap BA.size (by simp only [List.length_nil]; omega)
  have hb1 := own_below BA hE BA.size hg1
  rw [List.nil_append] at ho1
  obtain ⟨v2, w2, hr2, ho2, hg2⟩ := app_own (cap := bc) ho1 (hbB.grow hb1) hnb hbp hb1.size (by omega)
  have hb2 := own_below hb1 ho1 hb1.size hg2
  have HO := Lib.hid ho2
  have HB := Lib.hid hb2
  clear BA hE ho1 hg1 hb1 ho2 hg2 hb2 haB hbB hap hbp hl hna hnb
  go_enter Tryd.func27, Tryd.ntmps27
  go_wp2_with (at_builtin; first | refine Lib.wpList_append_run _ rfl _ _ _ _ rfl _ _ rfl rfl _ _ hr1 ?_ | refine Lib.wpList_append_run _ rfl _ _ _ _ rfl _ _ rfl rfl _ _ hr2 ?_)
  go_wp2_with fail
  go_ret
  exact ⟨_, rfl, HO.out, HB.out⟩

theorem take_one (s : List Nat) (k : Nat) (h : k < s.length) : s.take k ++ [s.getD k 0] = s.take (k + 1) := by
  rw [List.take_add_one, List.getElem?_eq_getElem h]
  simp [List.getD, h]
set_option maxHeartbeats 400000 in
set_option maxRecDepth 100000 in
theorem rbytes_c (s : List Nat) (hs : s.length = 32) (w : World) : Calls Tryd.prog 25 #[.agg (bysA s)] w fun e w' => ∃ v, e = .returned v ∧ OwnB w' w.heap.size v s ∧ Below w.heap.size w w' := by
  have Hs := Lib.hid hs
  clear hs
  go_enter Tryd.func25, Tryd.ntmps25
  go_wp2_with fail
  have R0 := Lib.hid (show RowAt (w.alloc (.cells (bysA s) 25)) w.heap.size (bysA s) from RowAt.of (block_new w _))
  have B0 := Lib.hid (below_alloc (Below.refl w.heap.size w) (.cells (bysA s) 25))
  generalize w.alloc (.cells (bysA s) 25) = W0 at *
  go_loopw [3, 4] (fun v i wr => ∃ k : Nat, k ≤ 32 ∧ i = .int .i64 k ∧ OwnB wr W0.heap.size v (s.take k) ∧ Below W0.heap.size W0 wr) (fun _ i _ => 32 - (intOf i).toNat)
  case atStart => exact ⟨0, by decide, rfl, own_nil W0 _, Below.refl _ _⟩
  case round =>
    obtain ⟨k, hk, rfl, hown, hbel⟩ := hrel
    by_cases hk32 : k < 32
    · have hk0 : (0 : Int) ≤ (k : Int) := by omega
      have hk1 : (k : Int) < 32 := by omega
      have hkl : k < s.length := by rw [Hs.out]; exact hk32
      have hc := (R0.out.grow hbel).cellAt k (bysA_get s k hkl)
      have ht := take_one s k hkl
      generalize s.getD k 0 = y at *
      have BA := below_alloc (Below.refl wr.heap.size wr) (.cells #[.int .u8 (y : Int)] 5)
      obtain ⟨v2, w2, hr2, hown2, hgr2⟩ := app_own (k := 1) (cap := 1) (hown.below BA) (Bs0.some (bytes_new wr [y] 5 (0, 0))) rfl (fun h => by cases h) (Nat.le_trans hbel.size BA.size) (by rw [List.length_take]; simp only [List.length_cons, List.length_nil]; omega)
      have Hb2 := Lib.hid (own_below (hbel.alloc hbel.size (.cells #[.int .u8 (y : Int)] 5)) (hown.below BA) (Nat.le_trans hbel.size BA.size) hgr2)
      have Ho2 := Lib.hid (show OwnB w2 W0.heap.size v2 (s.take (k + 1)) by rw [← ht]; exact hown2)
      clear hown2 hgr2 BA hown hbel ht hkl
      go_wp2_with (at_builtin; refine Lib.wpList_append_run _ rfl _ _ _ _ rfl _ _ rfl rfl _ _ hr2 ?_)
      go_wp2_with fail
      go_roundw
      case rel => exact ⟨k + 1, by omega, by go_num, Ho2.out, Hb2.out⟩
      case measure => simp [intOf]; omega
    · obtain rfl : k = 32 := by omega
      have HO := Lib.hid hown
      have HB := Lib.hid hbel
      clear hown hbel
      go_wp2_with fail
      go_ret
      refine ⟨_, rfl, ?_, B0.out.trans (HB.out.mono B0.out.size)⟩
      have := HO.out
      rw [List.take_of_length_le (by rw [Hs.out]; exact Nat.le_refl _)] at this
      exact this.base B0.out.size
end Go.Proofs.YtikpglemnnbdcaaDoor
