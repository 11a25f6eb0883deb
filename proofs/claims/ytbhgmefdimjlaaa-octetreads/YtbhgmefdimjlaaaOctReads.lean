/-
  What any calls in a row take of any bytes is the reference's.
-/
import Derived.Test.YtbhgmefdimjlaaaActs
import Derived.Test.YtbhgmefdimjlaaaOctRTakeN
import Derived.Test.YtbhgmefdimjlaaaStrs
import Derived.Laws.BitsAllLaws
namespace Go.Proofs.Ytbhgmefdimjlaaa
open Go.RowKit Go.Hold Go.Sh Go.Oc

/-- The code's reader and the reference's, which stand alike. -/
def RInv (B : Nat) (w0 : World) (g gm : Nat) (bb b0 : Option Nat) (s : Ws) (w : World) : Prop :=
  Rd w g bb s ∧ (∃ v, RowAt w gm (nrow v s.1) ∧ NV w b0 v s.2) ∧ Below B w0 w ∧ ∀ i, s.2.getD i 0 < 256
theorem nv_of {w : World} {p : Option Addr} {l : List Nat} {c : Nat} (h : Bs0 w p l) (hc : p = none → c = 0) (hl : l.length ≤ c) : ∃ b0, NV w b0 (.slice p l.length c) l ∧ ∀ k, b0 = some k → k < w.heap.size := by
  rcases h with h | ⟨b, o, e, h⟩
  · exact ⟨none, ⟨p, c, rfl, .inl h, hl, hc⟩, fun k hk => by cases hk⟩
  · exact ⟨some b, ⟨p, c, rfl, .inr ⟨b, o, rfl, e, h⟩, hl, hc⟩, fun k hk => by cases hk; exact h.1⟩
set_option maxHeartbeats 4000000 in
set_option maxRecDepth 100000 in
theorem reads_any (cap0 cap1 : Nat) (pt0 pt1 : Option Addr) (l0 : List Nat) (ls : List Actv) (w : World) (hb0 : Bs0 w pt0 l0) (hz0 : pt0 = none → cap0 = 0) (hc0 : l0.length ≤ cap0) (ht0 : ∀ i, l0.getD i 0 < 256) (hA : ActsAt w pt1 ls) :
    Calls Try.prog 4 #[.slice pt0 l0.length cap0, .slice pt1 ls.length cap1] w fun e w' => e = .returned (.bool true) ∧ Below w.heap.size w w' := by
  obtain ⟨n, en⟩ : ∃ n, n = l0.length := ⟨_, rfl⟩
  rw [← en]
  have En := Lib.hid en
  have HB := Lib.hid hb0
  have HZ := Lib.hid hz0
  have HC := Lib.hid hc0
  have HT := Lib.hid ht0
  have HA := Lib.hid hA
  obtain ⟨N, eN⟩ : ∃ N, N = ls.length := ⟨_, rfl⟩
  rw [← eN]
  have EN := Lib.hid eN
  clear en hb0 hz0 hc0 ht0 hA eN
  go_enter Try.func4, Try.ntmps4
  go_wp2_with fail
  refine (alive7_c w).mono ?_
  rintro e w1 ⟨rfl, hb1⟩
  have B1 := Lib.hid hb1
  clear hb1
  by_cases hbig : (1000 : Int) < (n : Int)
  · go_wp2_with fail
    go_ret
    exact ⟨rfl, B1.out⟩
  have Hbig := Lib.hid hbig
  go_wp2_with fail
  refine (newReader_c pt0 l0 n cap0 w1 En.out (by rw [← En.out]; have := Hbig.out; omega) (HB.out.grow B1.out) HZ.out).mono ?_
  rintro e w2 ⟨g, bb, rfl, hr, hg, hbb, hb2⟩
  obtain ⟨b0, hnv, hb0⟩ := nv_of HB.out HZ.out HC.out
  rw [← En.out] at hnv
  have R2 := Lib.hid hr
  have G2 := Lib.hid (show w1.heap.size ≤ g ∧ g < w2.heap.size ∧ (∀ k, bb = some k → w1.heap.size ≤ k ∧ k < w2.heap.size) ∧ ∀ k, b0 = some k → k < w1.heap.size from
    ⟨hg, hr.lt.1, fun k hk => ⟨hbb k hk, hr.lt.2 k hk⟩, fun k hk => Nat.lt_of_lt_of_le (hb0 k hk) B1.out.size⟩)
  have V2 := Lib.hid (hnv.grow B1.out |>.grow hb2)
  have K2 := Lib.hid hb2
  clear hr hg hbb hb2 hnv hb0
  go_wp2_with fail
  have BA := below_alloc (Below.refl w2.heap.size w2) (.cells (nrow (.slice pt0 n cap0) 0) 46)
  have I0 := Lib.hid (show RInv w1.heap.size w1 g w2.heap.size bb b0 (0, l0) (w2.alloc (.cells (nrow (.slice pt0 n cap0) 0) 46)) from
    ⟨R2.out.grow BA, ⟨_, RowAt.of (block_new w2 _), V2.out.grow BA⟩, K2.out.trans (BA.mono K2.out.size), HT.out⟩)
  have GM := Lib.hid (show w1.heap.size ≤ w2.heap.size ∧ g ≠ w2.heap.size ∧ bb ≠ some w2.heap.size from ⟨K2.out.size, by have := G2.out.2.1; omega, fun e => by have := (G2.out.2.2.1 _ e).2; omega⟩)
  have G3 := Lib.hid (show w1.heap.size ≤ g ∧ (∀ k, b0 = some k → k < w1.heap.size) from ⟨G2.out.1, G2.out.2.2.2⟩)
  clear BA R2 V2 K2 G2
  change Code.wp _ _ _ _ (w2.alloc (.cells (nrow (.slice pt0 n cap0) 0) 46))
  generalize w2.alloc (.cells (nrow (.slice pt0 n cap0) 0) 46) = w3 at *
  generalize w2.heap.size = gm at *
  go_loopw [7] (fun i wr => ∃ (j : Nat) (s : Ws), j ≤ N ∧ j ≤ 60 ∧ i = .int .i64 j ∧ RInv w1.heap.size w1 g gm bb b0 s wr) (fun i _ => 60 - (intOf i).toNat)
  case atStart => exact ⟨0, _, Nat.zero_le _, Nat.zero_le _, rfl, I0.out⟩
  case round =>
    obtain ⟨j, s, hjN, hj60, rfl, hI⟩ := hrel
    clear I0
    by_cases h1 : j < N
    · by_cases h2 : j < 60
      · have hj0 : (0 : Int) ≤ (j : Int) := by omega
        have hj1 : (j : Int) < (N : Int) := by omega
        have hj2 : (j : Int) < 60 := by omega
        obtain ⟨hR, ⟨v, hM, hV⟩, hbel, hbt⟩ := hI
        obtain ⟨a, ha⟩ : ∃ a, ls[j]? = some a := ⟨_, List.getElem?_eq_getElem (by rw [← EN.out]; exact h1)⟩
        obtain ⟨hok, ga, o, rfl, hld⟩ := HA.out.load ha (B1.out.trans (hbel.mono B1.out.size))
        obtain ⟨k, m, z, p, l, c⟩ := a
        simp only [Actv.cells] at hld
        have BA := below_alloc (Below.refl wr.heap.size wr) (.cells (arow k m z (.slice p l.length c)) 31)
        have A4 := Lib.hid (RowAt.of (block_new wr (.cells (arow k m z (.slice p l.length c)) 31)))
        have R4 := Lib.hid (hR.grow BA)
        have M4 := Lib.hid (hM.grow BA)
        have V4 := Lib.hid (hV.grow BA)
        have K4 := Lib.hid (hbel.trans (BA.mono hbel.size))
        have T4 := Lib.hid hbt
        generalize l.length = q at *
        have hx0 := A4.out.cellAt 0 (show (arow k m z (.slice p q c))[0]? = some (.int .u8 (k : Int)) from rfl)
        have hx2 := A4.out.cellAt 2 (show (arow k m z (.slice p q c))[2]? = some (.int .i64 z) from rfl)
        have Y := Lib.hid (show g < wr.heap.size ∧ gm < wr.heap.size ∧ ∀ k, bb = some k → k < wr.heap.size from ⟨hR.lt.1, hM.2.2, hR.lt.2⟩)
        clear hR hM hV hbel hbt ha hok BA hjN hj60 h1 h2
        by_cases hk3 : k % 3 = 0
        · have hkk : ((k : Int) % 3 == 0) = true := by rw [beq_iff_eq]; omega
          go_wp2_with fail
          refine (rdNum_c g bb s z _ R4.out T4.out).mono ?_
          rintro e w5 ⟨rfl, hst⟩
          have R5 := Lib.hid hst.1
          have hb0g : b0 ≠ some g := fun e => by have := G3.out.2 _ e; have := G3.out.1; omega
          have M5 := Lib.hid (RowAt.moves M4.out hst.2 (fun e => GM.out.2.1 e.symm) (fun e => by cases e))
          have V5 := Lib.hid (V4.out.moves hst.2 hb0g (fun _ _ e => by cases e))
          have K5 := Lib.hid (hst.below K4.out K4.out.size G3.out.1)
          have A5 := Lib.hid (RowAt.moves A4.out hst.2 (fun e => by have := Y.out.1; omega) (fun e => by cases e))
          have T7 := Lib.hid (rnumS_bts T4.out z)
          clear hst hx0 hx2 A4 R4 M4 V4 K4 hld
          have hx2 := A5.out.cellAt 2 (show (arow k m z (.slice p q c))[2]? = some (.int .i64 z) from rfl)
          obtain ⟨m1, m2, m3⟩ := M5.out
          have KT := Lib.hid (rtakeNum_c v b0 s z w5 V5.out T4.out)
          generalize rnumV s z = x at *
          generalize rnumS s z = s' at *
          go_wp2_with fail
          refine KT.out.mono ?_
          rintro e w6 ⟨v', rfl, hv', hb6⟩
          clear m1 m2 m3 hx2 KT
          have hgm6 : gm < w6.heap.size := Nat.lt_of_lt_of_le M5.out.2.2 hb6.size
          have m7 := Moves.setRow (Moves.refl w6 gm none) (nrow v' s'.1)
          have a7 := below_alloc (Below.refl (w6.setRow gm (nrow v' s'.1)).heap.size (w6.setRow gm (nrow v' s'.1))) (.cells (nrow v' s'.1) 46)
          have R7 := Lib.hid (((R5.out.grow hb6).moves m7 GM.out.2.1 (fun e => by cases e) GM.out.2.2 (fun _ _ e => by cases e)).grow a7)
          have M7 := Lib.hid (((M5.out.grow hb6).set (nrow v' s'.1)).grow a7)
          have hb0m : b0 ≠ some gm := fun e => by have := G3.out.2 _ e; have := GM.out.1; omega
          have V7 := Lib.hid ((hv'.moves m7 hb0m (fun _ _ e => by cases e)).grow a7)
          have K7 := Lib.hid ((m7.below (K5.out.trans (hb6.mono K5.out.size)) (Nat.le_trans K5.out.size hb6.size) GM.out.1 (fun _ e => by cases e)).trans (a7.mono (Nat.le_trans (Nat.le_trans K5.out.size hb6.size) m7.size)))
          obtain ⟨p', c', rfl, _⟩ := hv'
          generalize s'.2.length = q' at *
          obtain ⟨n1, n2, n3⟩ := M5.out.grow hb6
          clear a7 m7 hb6 M5 V5 K5 A5 R5 T4 hb0m hb0g
          go_wp2_with fail
          generalize (w6.setRow gm (nrow (.slice p' q' c') s'.1)).alloc (.cells (nrow (.slice p' q' c') s'.1) 46) = w7 at *
          clear n1 n2 n3 hgm6
          refine wp_region_fast (fun w' => Below w7.heap.size w7 w') (by kernel_rfl) (by kernel_rfl) ((Below.refl _ _).drew) ?_
          have HS0 : ∃ w', Below w7.heap.size w7 w' := ⟨w7, Below.refl _ _⟩
          refine wpHold_val HS0 (wanted_none rfl) (by intro K w' hS hK; go_simp; exact hK _ hS) ?_
          refine wpHold_call (v := .int .i64 (leftS s' : Int)) (wanted_none rfl) (by intro K w' hS hK; go_simp; refine (rdLeft_c g bb s' w' (R7.out.grow hS)).mono ?_; rintro e w'' ⟨rfl, rfl⟩; exact ⟨_, rfl, hK _ hS⟩) ?_
          refine wpHold_val HS0 (wanted_none rfl) (by intro K w' hS hK; obtain ⟨a1, a2, a3⟩ := M7.out.grow hS; go_simp; exact hK _ hS) ?_
          refine wpHold_call (v := .int .i64 (leftS s' : Int)) (wanted_none rfl) (by intro K w' hS hK; go_simp; refine (rleft_c _ b0 s' w' (V7.out.grow hS)).mono ?_; rintro e w'' ⟨rfl, hb''⟩; exact ⟨_, rfl, hK _ (hS.trans (hb''.mono hS.size))⟩) ?_
          iterate 2 (refine wpHold_val HS0 (wanted_none rfl) (by intro K w' hS hK; go_simp; exact hK _ hS) ?_)
          refine wpHold_val HS0 (wanted_some rfl rfl rfl) (by intro K w' hS hK; go_simp; exact hK _ hS) ?_
          refine wpHold_call (v := .bool (doneS s')) (wanted_some rfl rfl rfl) (by intro K w' hS hK; go_simp; refine (rdDone_c g bb s' w' (R7.out.grow hS)).mono ?_; rintro e w'' ⟨rfl, rfl⟩; exact ⟨_, rfl, hK _ hS⟩) ?_
          refine wpHold_val HS0 (wanted_some rfl rfl rfl) (by intro K w' hS hK; obtain ⟨a1, a2, a3⟩ := M7.out.grow hS; go_simp; exact hK _ hS) ?_
          refine wpHold_call (v := .bool (doneS s')) (wanted_some rfl rfl rfl) (by intro K w' hS hK; go_simp; refine (rdone_c _ b0 s' w' (V7.out.grow hS) (R7.out.le)).mono ?_; rintro e w'' ⟨rfl, hb''⟩; exact ⟨_, rfl, hK _ (hS.trans (hb''.mono hS.size))⟩) ?_
          refine wpHold_val HS0 (wanted_some rfl rfl rfl) (by intro K w' hS hK; go_simp; exact hK _ hS) ?_
          refine wpHold_val HS0 (wanted_none rfl) (by intro K w' hS hK; go_simp; exact hK _ hS) ?_
          refine wpHold_nil ?_
          intro w8 hb8
          have I8 := Lib.hid (show RInv w1.heap.size w1 g gm bb b0 s' w8 from ⟨R7.out.grow hb8, ⟨_, M7.out.grow hb8, V7.out.grow hb8⟩, K7.out.trans (hb8.mono K7.out.size), T7.out⟩)
          clear hb8 HS0 R7 M7 V7 K7 T7
          go_wp2_with fail
          go_roundw
          case rel => exact ⟨j + 1, _, by omega, by omega, by go_num, I8.out⟩
          case measure => simp [intOf]; omega
        · have hkk : ((k : Int) % 3 == 0) = false := by rw [beq_eq_false_iff_ne]; omega
          go_wp2_with fail
          have R4le := Lib.hid R4.out.le
          refine (rdBytes_c g bb s z _ R4.out).mono ?_
          rintro e w5 ⟨vx, rfl, hox, hst⟩
          have R5 := Lib.hid hst.1
          have hb0g : b0 ≠ some g := fun e => by have := G3.out.2 _ e; have := G3.out.1; omega
          have M5 := Lib.hid (RowAt.moves M4.out hst.2 (fun e => GM.out.2.1 e.symm) (fun e => by cases e))
          have V5 := Lib.hid (V4.out.moves hst.2 hb0g (fun _ _ e => by cases e))
          have K5 := Lib.hid (hst.below K4.out K4.out.size G3.out.1)
          have A5 := Lib.hid (RowAt.moves A4.out hst.2 (fun e => by have := Y.out.1; omega) (fun e => by cases e))
          have T7 := Lib.hid (rbytS_bts T4.out z)
          have TX := Lib.hid (rbytV_bts T4.out z)
          have hoy := hox.base (show wr.heap.size + 1 ≤ _ by simp)
          clear hst hx0 hx2 A4 R4 M4 V4 K4 hld hox
          have hx2 := A5.out.cellAt 2 (show (arow k m z (.slice p q c))[2]? = some (.int .i64 z) from rfl)
          obtain ⟨m1, m2, m3⟩ := M5.out
          have KT := Lib.hid (rtakeBytes_c v b0 s z w5 V5.out)
          have hkb : (rbytV s z).length ≤ 65536 := by
            have := R5.out.le
            have h2 := R4le.out
            unfold rbytV; split
            · rw [List.length_take]; omega
            · simp
          generalize rbytV s z = L at *
          generalize rbytS s z = s' at *
          have hby := hoy.bs
          obtain ⟨px, cx, rfl, _⟩ := hby
          have OX := Lib.hid hoy
          have HL := Lib.hid (Eq.refl L.length)
          generalize hkx : L.length = kx at *
          have Hkx := Lib.hid hkx
          clear hoy hkx HL
          go_wp2_with fail
          refine KT.out.mono ?_
          rintro e w6 ⟨u, ⟨v', rfl, hv', hb6⟩, hu⟩
          clear m1 m2 m3 hx2 KT
          have hgm6 : gm < w6.heap.size := Nat.lt_of_lt_of_le M5.out.2.2 hb6.size
          have m7 := Moves.setRow (Moves.refl w6 gm none) (nrow v' s'.1)
          have a7 := below_alloc (Below.refl (w6.setRow gm (nrow v' s'.1)).heap.size (w6.setRow gm (nrow v' s'.1))) (.cells (nrow v' s'.1) 46)
          have R7 := Lib.hid (((R5.out.grow hb6).moves m7 GM.out.2.1 (fun e => by cases e) GM.out.2.2 (fun _ _ e => by cases e)).grow a7)
          have M7 := Lib.hid (((M5.out.grow hb6).set (nrow v' s'.1)).grow a7)
          have hb0m : b0 ≠ some gm := fun e => by have := G3.out.2 _ e; have := GM.out.1; omega
          have V7 := Lib.hid ((hv'.moves m7 hb0m (fun _ _ e => by cases e)).grow a7)
          have K7 := Lib.hid ((m7.below (K5.out.trans (hb6.mono K5.out.size)) (Nat.le_trans K5.out.size hb6.size) GM.out.1 (fun _ e => by cases e)).trans (a7.mono (Nat.le_trans (Nat.le_trans K5.out.size hb6.size) m7.size)))
          obtain ⟨p', c', rfl, _⟩ := hv'
          generalize s'.2.length = q' at *
          obtain ⟨n1, n2, n3⟩ := M5.out.grow hb6
          have hlx := World.ownsRow.lt OX.out
          have hygm := Y.out.2.1
          have O7 := Lib.hid ((OwnB.moves (OX.out.below hb6) m7 (fun e => by have := (hlx _ e).1; omega) (fun _ _ e => by cases e)).below a7)
          have U7 := Lib.hid ((hu.moves m7 hb0m (fun _ _ e => by cases e)).grow a7)
          have Y7 := Lib.hid (show wr.heap.size < ((w6.setRow gm (nrow (.slice p' q' c') s'.1)).alloc (.cells (nrow (.slice p' q' c') s'.1) 46)).heap.size from by
            have := A5.out.2.2; have := hb6.size; simp; omega)
          obtain ⟨pu, cu, rfl, _⟩ := hu
          have hcx : ∀ (hpx : OwnB ((w6.setRow gm (nrow (.slice p' q' c') s'.1)).alloc (.cells (nrow (.slice p' q' c') s'.1) 46)) (wr.heap.size + 1) (.slice px kx cx) L), (cvBS (.slice px kx cx)).run Try.prog ((w6.setRow gm (nrow (.slice p' q' c') s'.1)).alloc (.cells (nrow (.slice p' q' c') s'.1) 46)) = .ok (.string (toS L)) ((w6.setRow gm (nrow (.slice p' q' c') s'.1)).alloc (.cells (nrow (.slice p' q' c') s'.1) 46)) := fun hpx => by
            obtain ⟨p2, c2, e2, h2, _⟩ := hpx.bs
            cases e2
            exact run_cvBS h2 rfl
          have hcx := hcx O7.out
          have hcu : (cvBS (.slice pu L.length cu)).run Try.prog ((w6.setRow gm (nrow (.slice p' q' c') s'.1)).alloc (.cells (nrow (.slice p' q' c') s'.1) 46)) = .ok (.string (toS L)) ((w6.setRow gm (nrow (.slice p' q' c') s'.1)).alloc (.cells (nrow (.slice p' q' c') s'.1) 46)) := by
            obtain ⟨p2, c2, e2, h2, _⟩ := U7.out.sl
            cases e2
            exact run_cvBS h2 rfl
          clear a7 m7 hb6 M5 V5 K5 A5 R5 T4 hb0m hb0g hlx OX
          go_wp2_with fail
          clear n1 n2 n3 hgm6 hcx hcu
          generalize (w6.setRow gm (nrow (.slice p' q' c') s'.1)).alloc (.cells (nrow (.slice p' q' c') s'.1) 46) = wf at *
          clear U7
          have hob : ∀ i, (Value.slice px kx cx).ownBlock = some i → wr.heap.size + 1 ≤ i ∧ i < wf.heap.size := World.ownsRow.lt O7.out
          have Hob := Lib.hid hob
          clear hob hygm
          have HY := Lib.hid Y.out
          generalize wr.heap.size = y at *
          go_loopw [101] (fun i wr2 => ∃ (t : Nat) (l' : List Nat), t ≤ kx ∧ i = .int .i64 t ∧ l'.length = kx ∧ (∀ i, l'.getD i 0 < 256) ∧ OwnB wr2 (y + 1) (.slice px kx cx) l' ∧ Moves wf y (Value.slice px kx cx).ownBlock wr2) (fun i _ => kx - (intOf i).toNat)
          case atStart => exact ⟨0, L, Nat.zero_le _, rfl, Hkx.out, TX.out, O7.out, Moves.refl _ _ _⟩
          case round =>
            obtain ⟨t, l', ht, rfl, hl', hbt', hown, hmv⟩ := hrel
            by_cases htk : t < kx
            · have ht0 : (0 : Int) ≤ (t : Int) := by omega
              have ht1 : (t : Int) < (kx : Int) := by omega
              have ht2 : (t : Int) < 65536 := by omega
              obtain ⟨gx, cp, e, _⟩ := OwnB.addr hown hl' (by omega)
              cases e
              have hown' := hown
              unfold OwnB at hown'
              rw [hl'] at hown'
              have hcell := World.ownsRow.cellAt hown' t (by omega)
              rw [show (bys l')[t]? = some (.int .u8 ((l'.getD t 0 : Nat) : Int)) by simp [bys, List.getD, show t < l'.length by omega]] at hcell
              have hfrz := World.ownsRow.frozenAt hown' t
              have hxb := hbt' t
              obtain ⟨x, ex⟩ : ∃ x, x = l'.getD t 0 := ⟨_, rfl⟩
              rw [← ex] at hcell hxb
              obtain ⟨x2, ex2⟩ : ∃ x2, x2 = x ^^^ 255 := ⟨_, rfl⟩
              have hxo : bits .xor .u8 (x : Int) 255 = (x2 : Int) := by rw [ex2]; exact u8_xor_nat x 255 hxb (by decide)
              have hx2 : x2 < 256 := by rw [ex2]; exact xor_lt hxb (by decide)
              obtain ⟨hs1, hs2⟩ := World.ownsRow.stored hown' t (.int .u8 (x2 : Int))
              have N2 := Lib.hid (show OwnB (wr.setCell ⟨gx, t, none⟩ (.int .u8 (x2 : Int))) (y + 1) (.slice (some ⟨gx, 0, none⟩) kx cx) (l'.set t x2) from by
                have : (bys l').set t (.int .u8 (x2 : Int)) = bys (l'.set t x2) := by simp [bys, List.map_set]
                unfold OwnB; rw [List.length_set, ← this, hl']; exact hs1)
              have N3 := Lib.hid (show Moves wf y (Value.slice (some ⟨gx, 0, none⟩) kx cx).ownBlock (wr.setCell ⟨gx, t, none⟩ (.int .u8 (x2 : Int))) from hmv.grownBy hs2)
              have N4 := Lib.hid (bts_set hbt' hx2 t)
              have N5 := Lib.hid (show (l'.set t x2).length = kx by rw [List.length_set]; exact hl')
              clear hs1 hs2 hown hown' hmv hbt' hl' ex ex2 hx2 hxb
              go_wp2_with fail
              go_roundw
              case rel => exact ⟨t + 1, l'.set t x2, by omega, by go_num, N5.out, N4.out, N2.out, N3.out⟩
              case measure => simp [intOf]; omega
            · obtain rfl : t = kx := by omega
              have hbne : ∀ i, i < y + 1 → (Value.slice px t cx).ownBlock ≠ some i := fun i hi e => by have := (Hob.out i e).1; omega
              have hY := HY.out
              have R8 := Lib.hid (R7.out.moves hmv (by omega) (hbne g (by omega)) (fun e => by have := hY.2.2 _ e; omega) (fun i hi => hbne i (by have := hY.2.2 i hi; omega)))
              have M8 := Lib.hid (RowAt.moves M7.out hmv (by omega) (hbne gm (by omega)))
              have V8 := Lib.hid (V7.out.moves hmv (fun e => by have := G3.out.2 _ e; have := G3.out.1; omega) (fun i hi => hbne i (by have := G3.out.2 i hi; have := G3.out.1; omega)))
              have K8 := Lib.hid (hmv.below K7.out K7.out.size (by have := G3.out.1; omega) (fun i hi => by have := (Hob.out i hi).1; have := G3.out.1; omega))
              clear hmv hown hbt' hl' R7 M7 V7 K7
              go_wp2_with fail
              refine wp_region_fast (fun w' => Below wr.heap.size wr w') (by kernel_rfl) (by kernel_rfl) ((Below.refl _ _).drew) ?_
              have HS0 : ∃ w', Below wr.heap.size wr w' := ⟨wr, Below.refl _ _⟩
              refine wpHold_val HS0 (wanted_none rfl) (by intro K w' hS hK; go_simp; exact hK _ hS) ?_
              refine wpHold_call (v := .int .i64 (leftS s' : Int)) (wanted_none rfl) (by intro K w' hS hK; go_simp; refine (rdLeft_c g bb s' w' (R8.out.grow hS)).mono ?_; rintro e w'' ⟨rfl, rfl⟩; exact ⟨_, rfl, hK _ hS⟩) ?_
              refine wpHold_val HS0 (wanted_none rfl) (by intro K w' hS hK; obtain ⟨a1, a2, a3⟩ := M8.out.grow hS; go_simp; exact hK _ hS) ?_
              refine wpHold_call (v := .int .i64 (leftS s' : Int)) (wanted_none rfl) (by intro K w' hS hK; go_simp; refine (rleft_c _ b0 s' w' (V8.out.grow hS)).mono ?_; rintro e w'' ⟨rfl, hb''⟩; exact ⟨_, rfl, hK _ (hS.trans (hb''.mono hS.size))⟩) ?_
              iterate 2 (refine wpHold_val HS0 (wanted_none rfl) (by intro K w' hS hK; go_simp; exact hK _ hS) ?_)
              refine wpHold_val HS0 (wanted_some rfl rfl rfl) (by intro K w' hS hK; go_simp; exact hK _ hS) ?_
              refine wpHold_call (v := .bool (doneS s')) (wanted_some rfl rfl rfl) (by intro K w' hS hK; go_simp; refine (rdDone_c g bb s' w' (R8.out.grow hS)).mono ?_; rintro e w'' ⟨rfl, rfl⟩; exact ⟨_, rfl, hK _ hS⟩) ?_
              refine wpHold_val HS0 (wanted_some rfl rfl rfl) (by intro K w' hS hK; obtain ⟨a1, a2, a3⟩ := M8.out.grow hS; go_simp; exact hK _ hS) ?_
              refine wpHold_call (v := .bool (doneS s')) (wanted_some rfl rfl rfl) (by intro K w' hS hK; go_simp; refine (rdone_c _ b0 s' w' (V8.out.grow hS) (R8.out.le)).mono ?_; rintro e w'' ⟨rfl, hb''⟩; exact ⟨_, rfl, hK _ (hS.trans (hb''.mono hS.size))⟩) ?_
              refine wpHold_val HS0 (wanted_some rfl rfl rfl) (by intro K w' hS hK; go_simp; exact hK _ hS) ?_
              refine wpHold_val HS0 (wanted_none rfl) (by intro K w' hS hK; go_simp; exact hK _ hS) ?_
              refine wpHold_nil ?_
              intro w9 hb9
              have I8 := Lib.hid (show RInv w1.heap.size w1 g gm bb b0 s' w9 from ⟨R8.out.grow hb9, ⟨_, M8.out.grow hb9, V8.out.grow hb9⟩, K8.out.trans (hb9.mono K8.out.size), T7.out⟩)
              clear hb9 HS0 R8 M8 V8 K8 T7
              go_wp2_with fail
              go_roundw
              case rel => exact ⟨j + 1, _, by omega, by omega, by go_num, I8.out⟩
              case measure => simp [intOf]; omega
      · have hj1 : (j : Int) < (N : Int) := by omega
        have hj2 : ¬ (j : Int) < 60 := by omega
        have HF := Lib.hid (B1.out.trans (hI.2.2.1.mono B1.out.size))
        clear hI
        go_wp2_with fail
        go_ret
        exact ⟨rfl, HF.out⟩
    · have hj1 : ¬ (j : Int) < (N : Int) := by omega
      have HF := Lib.hid (B1.out.trans (hI.2.2.1.mono B1.out.size))
      clear hI
      go_wp2_with fail
      go_ret
      exact ⟨rfl, HF.out⟩
end Go.Proofs.Ytbhgmefdimjlaaa
