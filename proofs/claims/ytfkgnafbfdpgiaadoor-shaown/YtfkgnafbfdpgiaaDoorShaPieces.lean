/-
  Bytes written in whatever pieces have, behind each, the digest of all of them so far.
-/
import Derived.Test.YtfkgnafbfdpgiaaDoorShaPiecesRow
namespace Go.Proofs.YtfkgnafbfdpgiaaDoor
open Go.RowKit Go.Hold Go.Sh

theorem owns_other {w : World} {B g : Nat} {e : TypeId} {v : Value} {n : Nat} {xs : List Value} (h : w.ownsRow B e 1 v n xs) (hg : g < B) (c : Array Value) : (w.setRow g c).ownsRow B e 1 v n xs := by
  refine ⟨h.1, ?_⟩
  rcases h.2 with hn | ⟨g', cap, cur, rfl, hb, hc, rest⟩
  · exact .inl hn
  · exact .inr ⟨g', cap, cur, rfl, hb, by rw [setRow_other w g g' c (by omega)]; exact hc, rest⟩
/-- A slice of its own as one that is read. -/
theorem OwnB.read {w : World} {B : Nat} {v : Value} {m : List Nat} (h : OwnB w B v m) : ∃ p c, v = .slice p m.length c ∧ Bs0 w p m ∧ m.length ≤ c ∧ (p = none → c = 0) := by
  rcases h.2 with ⟨h1, h2⟩ | ⟨g, cap, cur, rfl, hb, hg, hc, _⟩
  · have hm : m = [] := List.eq_nil_of_length_eq_zero h2
    subst hm
    exact ⟨none, 0, h1, .inl rfl, Nat.le_refl _, fun _ => rfl⟩
  · exact ⟨some ⟨g, 0, none⟩, cap, rfl, .inr ⟨g, 0, rfl, h.bytes (Array.getElem?_eq_some_iff.1 hg).1⟩, hc, fun h => by cases h⟩
theorem grown_row {w w' : World} {v : Value} {B n g : Nat} {e : TypeId} {xs : List Value} {c : Array Value} (h : RowAt w g c) (ho : w.ownsRow B e 1 v n xs) (hg : g < B) (hgr : w.grownBy w' v.ownBlock) : RowAt w' g c := by
  obtain ⟨t, ht⟩ := h.block
  refine RowAt.of (t := t) ?_
  rw [hgr.block g h.2.2 (fun e => by have := (World.ownsRow.lt ho g e.symm).1; omega)]
  exact ht

theorem readB {w w' : World} {B L cv : Nat} {pv : Option Addr} {M : List Nat} (h : OwnB w B (.slice pv L cv) M) (hL : L = M.length) (hb : Below w.heap.size w w') : Bs0 w' pv M := by
  subst hL
  obtain ⟨p, c, e, hp, _⟩ := (h.below hb).read
  cases e
  exact hp
set_option maxHeartbeats 1000000 in
set_option maxRecDepth 100000 in
theorem pieces_any (pt : Option Addr) (n cap : Nat) (w : World) (hT : Tabs w) (hP : PsAt w pt n) :
    Calls Tryd.prog 4 #[.slice pt n cap] w fun e w' => e = .returned (.bool true) ∧ Below w.heap.size w w' := by
  obtain ⟨i0, hi, hz0, hz1, hz2⟩ := info_parts info_u8
  obtain ⟨B, eB⟩ : ∃ B, B = w.heap.size := ⟨_, rfl⟩
  have EB := Lib.hid eB
  have HT := Lib.hid hT
  have HP := Lib.hid hP
  have hw1 : 1 < B := by rw [eB]; exact hT.1
  clear hT hP
  rw [← eB]
  clear eB
  go_enter Tryd.func4, Tryd.ntmps4
  go_wp2_with fail
  refine (alive_c _ HT.out).mono ?_
  rintro e W0 ⟨rfl, hb0⟩
  have B0 := Lib.hid hb0
  clear hb0
  go_wp2_with fail
  refine (new_c _ (HT.out.grow B0.out)).mono ?_
  rintro e W1 ⟨g, rfl, hb1, hg1, hG1⟩
  have B1 := Lib.hid (show Below B w W1 from (EB.out ▸ B0.out).trans (hb1.mono (by rw [EB.out]; exact B0.out.size)))
  have G1 := Lib.hid hG1
  have hgB : B ≤ g := by have := B0.out.size; rw [← EB.out] at this; omega
  obtain ⟨B2, eB2⟩ : ∃ B2, B2 = W1.heap.size := ⟨_, rfl⟩
  have hgB2 : g < B2 := by rw [eB2]; exact hG1.2.2
  have hB2w : B2 ≤ W1.heap.size := by omega
  clear hb1 hG1 hg1 B0 eB2
  go_wp2_with fail
  go_loopw [4, 5] (fun v t wr => ∃ (k : Nat) (m : List Nat), t = .int .i64 k ∧ k ≤ 30 ∧ k ≤ n ∧ m.length ≤ 300 * k ∧ (∀ i, m.getD i 0 < 256) ∧ OwnB wr B2 v m ∧ RowAt wr g (hshA m) ∧ Below B w wr ∧ B2 ≤ wr.heap.size) (fun _ t _ => 30 - (intOf t).toNat)
  case atStart => exact ⟨0, [], rfl, by decide, Nat.zero_le _, by decide, bts_0, World.ownsRow_nil _ _ _ _, G1.out, B1.out, hB2w⟩
  case round =>
    obtain ⟨k, m, rfl, hk, hkn, hm, hmb, hown, hrow, hbel, hsz⟩ := hrel
    have hkk : (0 : Int) ≤ (k : Int) := by omega
    by_cases hkl : k < n ∧ k < 30
    · obtain ⟨hk1, hk2⟩ := hkl
      have hk1' : (k : Int) < (n : Int) := by omega
      have hk2' : (k : Int) < 30 := by omega
      obtain ⟨b, o, p, l, c, hpt, hb, hcell, hBs, hlc, hlb, hpc⟩ := HP.out k hk1
      subst hpt
      have hbw : Below w.heap.size w wr := by rw [← EB.out]; exact hbel
      replace hcell : wr.cell? ⟨b, o + k, none⟩ = some (.slice p l.length c) := by rw [hbw.cell hb]; exact hcell
      have hBs' := hBs.grow hbw
      have HBs := Lib.hid hBs
      have Hbel := Lib.hid hbel
      have Hown := Lib.hid hown
      have Hrow := Lib.hid hrow
      have hbl : b < wr.heap.size := by have := hbw.size; omega
      have hkw : IntKind.i64.wrap ((k : Int) + 1) = ((k + 1 : Nat) : Int) := by rw [IntWalk.i64_in _ (by omega)]; omega
      obtain ⟨k', ek'⟩ : ∃ y, y = k + 1 := ⟨_, rfl⟩
      rw [← ek'] at hkw
      obtain ⟨q, eq⟩ : ∃ q, q = l.length := ⟨_, rfl⟩
      rw [← eq] at hcell
      have Hek := Lib.hid ek'
      have Heq := Lib.hid eq
      clear hbel hown hrow hbw hBs ek'
      by_cases hq : q ≤ 300
      · have hq' : ¬ (300 : Int) < (q : Int) := by omega
        have hml : m.length + l.length ≤ 9300 := by omega
        clear eq
        cases p with
        | none =>
          obtain rfl : c = 0 := hpc rfl
          have hl0 : l = [] := by
            rcases HBs.out with h | ⟨b, o, h, _⟩
            · exact h
            · cases h
          have hq0 : q = 0 := by rw [Heq.out, hl0]; rfl
          have Hq0 := Lib.hid hq0
          have Hl0 := Lib.hid hl0
          clear hq0 hl0
          have hO1 : OwnB wr B2 u4 (m ++ l) := by rw [Hl0.out, List.append_nil]; exact Hown.out
          have hG1 : RowAt wr g (hshA m) := Hrow.out
          have hb1 : Below B w wr := Hbel.out
          have hBs1 := HBs.out
          have hmlb : ∀ i, (m ++ l).getD i 0 < 256 := bts_app hmb hlb
          obtain ⟨M, eM⟩ : ∃ M, M = m ++ l := ⟨_, rfl⟩
          rw [← eM] at hO1 hmlb
          have hMl : M.length = m.length + l.length := by rw [eM, List.length_append]
          have HM := Lib.hid eM
          obtain ⟨pv, cv, ev, hpv, hcv, hzv⟩ := hO1.read
          have KW := Lib.hid (write_c g 0 none m l wr (HT.out.grow (EB.out ▸ hb1)) (by omega) hG1 (by omega) hmb hlb (hBs1.new (EB.out ▸ hb1) (by rw [← EB.out]; exact hgB)) hlc)
          rw [← Heq.out, ← eM] at KW
          have HO1 := Lib.hid hO1
          have HG1 := Lib.hid hG1
          have Hb1 := Lib.hid hb1
          subst ev
          obtain ⟨L, eL⟩ : ∃ L, L = M.length := ⟨_, rfl⟩
          rw [← eL] at HO1 Hown ⊢
          have HL := Lib.hid eL
          clear hO1 hG1 hb1 eM hMl eL
          go_wp2_with (at_builtin; refine wpList_append_own_none rfl _ _ 22 rfl B2 5 i0 1 Tryd.underlying22 hi _ _ _ rfl Hown.out (congrArg (fun k => Value.slice none k 0) Hq0.out) ?_)
          refine KW.out.mono ?_
          rintro e w' ⟨rfl, o2, d2, rfl⟩
          have hG2 := Lib.hid ((HG1.out.set (hshA M)).grow (below_more (Below.refl _ _) o2 d2))
          have hO2 := Lib.hid (show OwnB ((wr.setRow g (hshA M)).plus o2 d2) B2 (.slice pv L cv) M from OwnB.below (owns_other HO1.out hgB2 (hshA M)) (below_more (Below.refl _ _) o2 d2))
          have hb2 := Lib.hid (show Below B w ((wr.setRow g (hshA M)).plus o2 d2) by rw [EB.out] at Hb1 hgB ⊢; exact below_more (below_setRow Hb1.out hgB (hshA M)) o2 d2)
          have hsz2 : B2 ≤ ((wr.setRow g (hshA M)).plus o2 d2).heap.size := by simp; omega
          generalize (wr.setRow g (hshA M)).plus o2 d2 = w2 at *
          have KL := Lib.hid (len_c g M w2 hG2.out)
          rw [← HL.out] at KL
          clear KW
          go_wp2_with fail
          refine KL.out.mono ?_
          rintro e w' ⟨rfl, hwE⟩
          rw [hwE]
          clear hwE w' KL
          have hM6 : M.length < 1152921504606846976 := by rw [HM.out, List.length_append]; omega
          have hM5 : M.length ≤ 100000 := by rw [HM.out, List.length_append]; omega
          have KS := Lib.hid (fun (W : World) (hb : Below w2.heap.size w2 W) => hsum_c g M W ((HT.out.grow (EB.out ▸ hb2.out)).grow hb) (hG2.out.grow hb) hM6 hmlb)
          have KR := Lib.hid (fun (W : World) (hb : Below w2.heap.size w2 W) => rsum_c cv pv M W hM5 hmlb (readB hO2.out HL.out hb) hzv)
          have KF := Lib.hid (fun (W : World) (hb : Below w2.heap.size w2 W) => sum_c cv pv M W ((HT.out.grow (EB.out ▸ hb2.out)).grow hb) hM6 hmlb (readB hO2.out HL.out hb) hcv)
          rw [← HL.out] at KR KF
          generalize eD : dig M = D at KS KR KF
          clear eD hM6 hM5 hpv hcv hzv
          go_wp2_with fail
          refine (KS.out w2 (Below.refl _ _)).mono ?_
          rintro e w3 ⟨rfl, hb3⟩
          have C3 := Lib.hid hb3
          clear hb3
          go_wp2_with fail
          refine (KR.out w3 C3.out).mono ?_
          rintro e w4 ⟨rfl, hb4⟩
          have C4 := Lib.hid (C3.out.trans (hb4.mono C3.out.size))
          clear hb4
          go_wp2_with fail
          refine (KS.out w4 C4.out).mono ?_
          rintro e w5 ⟨rfl, hb5⟩
          have C5 := Lib.hid (C4.out.trans (hb5.mono C4.out.size))
          clear hb5
          go_wp2_with fail
          refine (KF.out w5 C5.out).mono ?_
          rintro e w6 ⟨rfl, hb6⟩
          have C6 := Lib.hid (C5.out.trans (hb6.mono C5.out.size))
          clear hb6
          go_wp2_with fail
          go_roundw
          case rel =>
            have hM : M.length ≤ 300 * k' := by rw [HM.out, List.length_append, ← Heq.out, Hek.out]; omega
            exact ⟨k', M, rfl, by have := Hek.out; omega, by have := Hek.out; omega, hM, hmlb, hO2.out.below C6.out, hG2.out.grow C6.out, hb2.out.trans (C6.out.mono (by have := hsz2; omega)), by have := C6.out.size; omega⟩
          case measure => have := Hek.out; simp [intOf]; omega
        | some ad =>
          have hnews : ∀ j u, (bys l)[j]? = some u → wr.cell? (ad.add j) = some u := fun j u hu => by
            rcases hBs' with h | ⟨b, o, h, hy⟩
            · subst h; simp [bys] at hu
            · cases h; exact bys_at hy j u hu
          clear hBs'
          go_wp2_with (at_builtin; refine wpList_append_own _ rfl _ _ 22 rfl B2 5 i0 (.int .u8 0) 1 1 Tryd.underlying22 hi hz0 hz1 hz2 rfl (by decide) _ _ _ rfl Hown.out ad q c (bys l) rfl (by rw [bys_length, ← Heq.out, Nat.mul_one]) hnews (bys_one l) (maxLen_small (by have := Heq.out; omega)) (by have := Heq.out; omega) hsz ?_)
          intro v1 w1 hown1 hgrow1 _
          have hO1 : OwnB w1 B2 v1 (m ++ l) := OwnB.snoc (by rw [← Heq.out]; exact hown1)
          have hG1 : RowAt w1 g (hshA m) := grown_row Hrow.out Hown.out hgB2 hgrow1
          have hb1 : Below B w w1 := Hbel.out.grown hgrow1 (by omega) fun x hx => by have := (World.ownsRow.lt Hown.out x hx).1; omega
          have hsz1 : B2 ≤ w1.heap.size := by have := hgrow1.size; omega
          have hBs1 := HBs.out
          have hc1 : w1.cell? ⟨b, o + k, none⟩ = some (.slice (some ad) q c) := by
            have hbB : b < B := by rw [EB.out]; exact hb
            rw [hb1.cell hbB, ← Hbel.out.cell hbB]; exact hcell
          clear hown1 hgrow1 hnews hcell
          have hmlb : ∀ i, (m ++ l).getD i 0 < 256 := bts_app hmb hlb
          obtain ⟨M, eM⟩ : ∃ M, M = m ++ l := ⟨_, rfl⟩
          rw [← eM] at hO1 hmlb
          have hMl : M.length = m.length + l.length := by rw [eM, List.length_append]
          have HM := Lib.hid eM
          obtain ⟨pv, cv, ev, hpv, hcv, hzv⟩ := hO1.read
          have KW := Lib.hid (write_c g c (some ad) m l w1 (HT.out.grow (EB.out ▸ hb1)) (by omega) hG1 (by omega) hmb hlb (hBs1.new (EB.out ▸ hb1) (by rw [← EB.out]; exact hgB)) hlc)
          rw [← Heq.out, ← eM] at KW
          have HO1 := Lib.hid hO1
          have HG1 := Lib.hid hG1
          have Hb1 := Lib.hid hb1
          subst ev
          obtain ⟨L, eL⟩ : ∃ L, L = M.length := ⟨_, rfl⟩
          rw [← eL] at HO1 ⊢
          have HL := Lib.hid eL
          clear hO1 hG1 hb1 eM hMl eL
          go_wp2_with fail
          refine KW.out.mono ?_
          rintro e w' ⟨rfl, o2, d2, rfl⟩
          have hG2 := Lib.hid ((HG1.out.set (hshA M)).grow (below_more (Below.refl _ _) o2 d2))
          have hO2 := Lib.hid (show OwnB ((w1.setRow g (hshA M)).plus o2 d2) B2 (.slice pv L cv) M from OwnB.below (owns_other HO1.out hgB2 (hshA M)) (below_more (Below.refl _ _) o2 d2))
          have hb2 := Lib.hid (show Below B w ((w1.setRow g (hshA M)).plus o2 d2) by rw [EB.out] at Hb1 hgB ⊢; exact below_more (below_setRow Hb1.out hgB (hshA M)) o2 d2)
          have hsz2 : B2 ≤ ((w1.setRow g (hshA M)).plus o2 d2).heap.size := by simp; omega
          generalize (w1.setRow g (hshA M)).plus o2 d2 = w2 at *
          have KL := Lib.hid (len_c g M w2 hG2.out)
          rw [← HL.out] at KL
          clear KW
          go_wp2_with fail
          refine KL.out.mono ?_
          rintro e w' ⟨rfl, hwE⟩
          rw [hwE]
          clear hwE w' KL
          have hM6 : M.length < 1152921504606846976 := by rw [HM.out, List.length_append]; omega
          have hM5 : M.length ≤ 100000 := by rw [HM.out, List.length_append]; omega
          have KS := Lib.hid (fun (W : World) (hb : Below w2.heap.size w2 W) => hsum_c g M W ((HT.out.grow (EB.out ▸ hb2.out)).grow hb) (hG2.out.grow hb) hM6 hmlb)
          have KR := Lib.hid (fun (W : World) (hb : Below w2.heap.size w2 W) => rsum_c cv pv M W hM5 hmlb (readB hO2.out HL.out hb) hzv)
          have KF := Lib.hid (fun (W : World) (hb : Below w2.heap.size w2 W) => sum_c cv pv M W ((HT.out.grow (EB.out ▸ hb2.out)).grow hb) hM6 hmlb (readB hO2.out HL.out hb) hcv)
          rw [← HL.out] at KR KF
          generalize eD : dig M = D at KS KR KF
          clear eD hM6 hM5 hpv hcv hzv
          go_wp2_with fail
          refine (KS.out w2 (Below.refl _ _)).mono ?_
          rintro e w3 ⟨rfl, hb3⟩
          have C3 := Lib.hid hb3
          clear hb3
          go_wp2_with fail
          refine (KR.out w3 C3.out).mono ?_
          rintro e w4 ⟨rfl, hb4⟩
          have C4 := Lib.hid (C3.out.trans (hb4.mono C3.out.size))
          clear hb4
          go_wp2_with fail
          refine (KS.out w4 C4.out).mono ?_
          rintro e w5 ⟨rfl, hb5⟩
          have C5 := Lib.hid (C4.out.trans (hb5.mono C4.out.size))
          clear hb5
          go_wp2_with fail
          refine (KF.out w5 C5.out).mono ?_
          rintro e w6 ⟨rfl, hb6⟩
          have C6 := Lib.hid (C5.out.trans (hb6.mono C5.out.size))
          clear hb6
          go_wp2_with fail
          go_roundw
          case rel =>
            have hM : M.length ≤ 300 * k' := by rw [HM.out, List.length_append, ← Heq.out, Hek.out]; omega
            exact ⟨k', M, rfl, by have := Hek.out; omega, by have := Hek.out; omega, hM, hmlb, hO2.out.below C6.out, hG2.out.grow C6.out, hb2.out.trans (C6.out.mono (by have := hsz2; omega)), by have := C6.out.size; omega⟩
          case measure => have := Hek.out; simp [intOf]; omega
      · have hq' : (300 : Int) < (q : Int) := by omega
        clear eq hBs'
        go_wp2_with fail
        go_roundw
        case rel => exact ⟨k', m, rfl, by have := Hek.out; omega, by have := Hek.out; omega, by have := Hek.out; omega, hmb, Hown.out, Hrow.out, Hbel.out, hsz⟩
        case measure => have := Hek.out; simp [intOf]; omega
    · have hend : ¬ ((k : Int) < (n : Int) ∧ (k : Int) < 30) := by omega
      have Hbel := Lib.hid hbel
      clear hbel hown hrow
      by_cases hkn' : (k : Int) < (n : Int)
      · have hk30 : ¬ (k : Int) < 30 := by omega
        go_wp2_with fail
        go_ret
        exact ⟨rfl, Hbel.out⟩
      · go_wp2_with fail
        go_ret
        exact ⟨rfl, Hbel.out⟩
end Go.Proofs.YtfkgnafbfdpgiaaDoor
