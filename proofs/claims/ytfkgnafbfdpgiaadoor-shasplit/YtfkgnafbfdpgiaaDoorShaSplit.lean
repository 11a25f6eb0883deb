/-
  Bytes in two pieces, at whatever place they are cut, have the digest of all of them.
-/
import Derived.Test.YtfkgnafbfdpgiaaDoorShaAlive
namespace Go.Proofs.YtfkgnafbfdpgiaaDoor
open Go.RowKit Go.Hold Go.Sh

def advO (p : Option Addr) (n cap : Nat) : Option Addr := if cap = n then p else p.map (·.add n)
theorem slB_loO (p : Option Addr) (len cap n : Nat) (h : n ≤ len) (w : World) : (slB (.slice p len cap) (some (.int .i64 (n : Int))) none none).run Tryd.prog w = .ok (.slice (advO p n cap) (len - n) (cap - n)) w := by
  unfold slB
  rw [run_sliceAt_slice _ _ _ _ _ _ elem8, run_slice_l _ _ _ _ _ elem8 _ _ (by omega) (by omega), size8]
  unfold advO
  simp [sliced, Result.andThen]
theorem slB_hiO (p : Option Addr) (len cap n : Nat) (h : n ≤ cap) (w : World) : (slB (.slice p len cap) none (some (.int .i64 (n : Int))) none).run Tryd.prog w = .ok (.slice p n cap) w := by
  unfold slB
  rw [run_sliceAt_slice _ _ _ _ _ _ elem8, run_slice_h _ _ _ _ _ elem8 _ _ (by omega) (by omega), size8]
  cases p <;> simp [sliced, Result.andThen, Addr.add]
theorem Bs0.take {w : World} {p : Option Addr} {l : List Nat} (h : Bs0 w p l) (n : Nat) : Bs0 w p (l.take n) := by
  rcases h with rfl | ⟨b, o, e, h⟩
  · exact .inl (by simp)
  · refine .inr ⟨b, o, e, h.1, fun i hi => ?_⟩
    rw [List.length_take] at hi
    rw [h.2 i (by omega)]
    simp [List.getD, show i < n by omega]
theorem Bs0.drop {w : World} {p : Option Addr} {l : List Nat} {cap : Nat} (h : Bs0 w p l) (n : Nat) (hc : l.length ≤ cap) : Bs0 w (advO p n cap) (l.drop n) := by
  rcases h with rfl | ⟨b, o, rfl, h⟩
  · exact .inl (by simp)
  · unfold advO
    by_cases e : cap = n
    · exact .inl (List.drop_eq_nil_of_le (by omega))
    · refine .inr ⟨b, o + n, ?_, h.1, fun i hi => ?_⟩
      · rw [if_neg e, Option.map_some, Addr.add_mid]
      · rw [List.length_drop] at hi
        rw [Nat.add_assoc, h.2 (n + i) (by omega)]
        simp [List.getD, List.getElem?_drop]

set_option maxHeartbeats 2000000 in
set_option maxRecDepth 100000 in
theorem split_any (at' cap : Nat) (p : Option Addr) (l : List Nat) (w : World) (hat : at' < 65536) (hT : Tabs w) (hlb : ∀ i, l.getD i 0 < 256) (hB : Bs0 w p l) (hc : l.length ≤ cap) :
    Calls Tryd.prog 6 #[.slice p l.length cap, .int .u16 (at' : Int)] w fun e w' => e = .returned (.bool true) ∧ Below w.heap.size w w' := by
  have HT := Lib.hid hT
  have HB := Lib.hid hB
  have hw1 := hT.1
  obtain ⟨n, en⟩ : ∃ n, n = l.length := ⟨_, rfl⟩
  rw [← en] at hc ⊢
  have En := Lib.hid en
  clear hT hB en
  by_cases h3 : n ≤ 3000
  · have h3' : ¬ (3000 : Int) < (n : Int) := by omega
    go_enter Tryd.func6, Tryd.ntmps6
    go_wp2_with fail
    refine (alive_c _ HT.out).mono ?_
    rintro e w' ⟨rfl, hbw⟩
    obtain ⟨o1, d1, rfl⟩ := below_plus hbw
    clear hbw
    go_wp2_with fail
    case inl =>
      have hk : n ≤ n := Nat.le_refl _
      have hkc : n ≤ cap := by omega
      have hk0 : (0 : Int) ≤ (n : Int) := by omega
      have hhi := slB_hiO p n cap n hkc
      have hlo := slB_loO p n cap n hk
      obtain ⟨n2, en2⟩ : ∃ y, y = n - n := ⟨_, rfl⟩
      obtain ⟨c2, ec2⟩ : ∃ y, y = cap - n := ⟨_, rfl⟩
      obtain ⟨p2, ep2⟩ : ∃ y, y = advO p n cap := ⟨_, rfl⟩
      rw [← en2, ← ec2, ← ep2] at hlo
      have HBd := Lib.hid (show ∀ W, Bs0 W p l → Bs0 W p2 (l.drop n) from fun W h => by rw [ep2]; exact h.drop _ (by rw [← En.out]; exact hc))
      have hn2 : n2 ≤ 3000 := by omega
      have hc2 : n2 ≤ c2 := by omega
      have hl2 : (l.drop n).length = n2 := by rw [List.length_drop, ← En.out, en2]
      have hkn : n + n2 ≤ 3000 := by omega
      clear en2 ec2 ep2
      refine (new_c _ (HT.out.grow (below_more (Below.refl _ _) _ _))).mono ?_
      rintro e W1 ⟨g, rfl, hb1, hg, hG1⟩
      have B1 := Lib.hid ((below_more (Below.refl w.heap.size w) o1 d1).trans (hb1.mono (by simp)))
      have hgw : w.heap.size ≤ g := by simp at hg; omega
      have G1 := Lib.hid hG1
      have hl1 : (l.take n).length = n := by rw [List.length_take, ← En.out]; omega
      have K1 := write_c g cap p [] (l.take n) W1 (HT.out.grow B1.out) (by omega) hG1 (by rw [hl1]; simp; omega) bts_0 (bts_take hlb _) ((HB.out.take _).new B1.out hgw) (by rw [hl1]; exact hkc)
      rw [hl1, List.nil_append] at K1
      have HK1 := Lib.hid K1
      clear hb1 hG1 K1 hg
      go_wp2_with fail
      refine HK1.out.mono ?_
      rintro e w' ⟨rfl, o2, d2, rfl⟩
      have G2 := Lib.hid ((G1.out.set (hshA (l.take n))).grow (below_more (Below.refl _ _) o2 d2))
      have B2 := Lib.hid (below_more (below_setRow B1.out hgw (hshA (l.take n))) o2 d2)
      generalize (W1.setRow g (hshA (l.take n))).plus o2 d2 = W2 at *
      have K2 := write_c g c2 p2 (l.take n) (l.drop n) W2 (HT.out.grow B2.out) (by omega) G2.out (by rw [hl1, hl2]; omega) (bts_take hlb _) (bts_drop hlb _) ((HBd.out _ HB.out).new B2.out hgw) (by rw [hl2]; exact hc2)
      rw [hl2, List.take_append_drop] at K2
      have HK2 := Lib.hid K2
      clear K2 HK1 G1 B1
      go_wp2_with fail
      refine HK2.out.mono ?_
      rintro e w' ⟨rfl, o3, d3, rfl⟩
      have G3 := Lib.hid ((G2.out.set (hshA l)).grow (below_more (Below.refl _ _) o3 d3))
      have B3 := Lib.hid (below_more (below_setRow B2.out hgw (hshA l)) o3 d3)
      generalize (W2.setRow g (hshA l)).plus o3 d3 = W3 at *
      clear HK2 G2 B2
      have hln : l.length < 1152921504606846976 := by rw [← En.out]; omega
      go_wp2_with fail
      refine (hsum_c g l W3 (HT.out.grow B3.out) G3.out hln hlb).mono ?_
      rintro e w' ⟨rfl, hbw⟩
      have G4 := Lib.hid (G3.out.grow hbw)
      have B4 := Lib.hid (B3.out.trans (hbw.mono B3.out.size))
      clear hbw G3 B3
      have K3 := sum_c cap p l w' (HT.out.grow B4.out) hln hlb (HB.out.grow B4.out) (by rw [← En.out]; exact hc)
      rw [← En.out] at K3
      have HK3 := Lib.hid K3
      clear K3
      go_wp2_with fail
      refine HK3.out.mono ?_
      rintro e w5 ⟨rfl, hbw⟩
      have G5 := Lib.hid (G4.out.grow hbw)
      have B5 := Lib.hid (B4.out.trans (hbw.mono B4.out.size))
      clear hbw G4 B4 HK3
      have K4 := len_c g l w5 G5.out
      rw [← En.out] at K4
      have HK4 := Lib.hid K4
      clear K4
      go_wp2_with fail
      refine HK4.out.mono ?_
      rintro e w' ⟨rfl, rfl⟩
      go_wp2_with fail
      go_ret
      exact ⟨rfl, B5.out⟩
    case inr =>
      have hk : at' ≤ n := by omega
      have hkc : at' ≤ cap := by omega
      have hk0 : (0 : Int) ≤ (at' : Int) := by omega
      have hhi := slB_hiO p n cap at' hkc
      have hlo := slB_loO p n cap at' hk
      obtain ⟨n2, en2⟩ : ∃ y, y = n - at' := ⟨_, rfl⟩
      obtain ⟨c2, ec2⟩ : ∃ y, y = cap - at' := ⟨_, rfl⟩
      obtain ⟨p2, ep2⟩ : ∃ y, y = advO p at' cap := ⟨_, rfl⟩
      rw [← en2, ← ec2, ← ep2] at hlo
      have HBd := Lib.hid (show ∀ W, Bs0 W p l → Bs0 W p2 (l.drop at') from fun W h => by rw [ep2]; exact h.drop _ (by rw [← En.out]; exact hc))
      have hn2 : n2 ≤ 3000 := by omega
      have hc2 : n2 ≤ c2 := by omega
      have hl2 : (l.drop at').length = n2 := by rw [List.length_drop, ← En.out, en2]
      have hkn : at' + n2 ≤ 3000 := by omega
      clear en2 ec2 ep2
      refine (new_c _ (HT.out.grow (below_more (Below.refl _ _) _ _))).mono ?_
      rintro e W1 ⟨g, rfl, hb1, hg, hG1⟩
      have B1 := Lib.hid ((below_more (Below.refl w.heap.size w) o1 d1).trans (hb1.mono (by simp)))
      have hgw : w.heap.size ≤ g := by simp at hg; omega
      have G1 := Lib.hid hG1
      have hl1 : (l.take at').length = at' := by rw [List.length_take, ← En.out]; omega
      have K1 := write_c g cap p [] (l.take at') W1 (HT.out.grow B1.out) (by omega) hG1 (by rw [hl1]; simp; omega) bts_0 (bts_take hlb _) ((HB.out.take _).new B1.out hgw) (by rw [hl1]; exact hkc)
      rw [hl1, List.nil_append] at K1
      have HK1 := Lib.hid K1
      clear hb1 hG1 K1 hg
      go_wp2_with fail
      refine HK1.out.mono ?_
      rintro e w' ⟨rfl, o2, d2, rfl⟩
      have G2 := Lib.hid ((G1.out.set (hshA (l.take at'))).grow (below_more (Below.refl _ _) o2 d2))
      have B2 := Lib.hid (below_more (below_setRow B1.out hgw (hshA (l.take at'))) o2 d2)
      generalize (W1.setRow g (hshA (l.take at'))).plus o2 d2 = W2 at *
      have K2 := write_c g c2 p2 (l.take at') (l.drop at') W2 (HT.out.grow B2.out) (by omega) G2.out (by rw [hl1, hl2]; omega) (bts_take hlb _) (bts_drop hlb _) ((HBd.out _ HB.out).new B2.out hgw) (by rw [hl2]; exact hc2)
      rw [hl2, List.take_append_drop] at K2
      have HK2 := Lib.hid K2
      clear K2 HK1 G1 B1
      go_wp2_with fail
      refine HK2.out.mono ?_
      rintro e w' ⟨rfl, o3, d3, rfl⟩
      have G3 := Lib.hid ((G2.out.set (hshA l)).grow (below_more (Below.refl _ _) o3 d3))
      have B3 := Lib.hid (below_more (below_setRow B2.out hgw (hshA l)) o3 d3)
      generalize (W2.setRow g (hshA l)).plus o3 d3 = W3 at *
      clear HK2 G2 B2
      have hln : l.length < 1152921504606846976 := by rw [← En.out]; omega
      go_wp2_with fail
      refine (hsum_c g l W3 (HT.out.grow B3.out) G3.out hln hlb).mono ?_
      rintro e w' ⟨rfl, hbw⟩
      have G4 := Lib.hid (G3.out.grow hbw)
      have B4 := Lib.hid (B3.out.trans (hbw.mono B3.out.size))
      clear hbw G3 B3
      have K3 := sum_c cap p l w' (HT.out.grow B4.out) hln hlb (HB.out.grow B4.out) (by rw [← En.out]; exact hc)
      rw [← En.out] at K3
      have HK3 := Lib.hid K3
      clear K3
      go_wp2_with fail
      refine HK3.out.mono ?_
      rintro e w5 ⟨rfl, hbw⟩
      have G5 := Lib.hid (G4.out.grow hbw)
      have B5 := Lib.hid (B4.out.trans (hbw.mono B4.out.size))
      clear hbw G4 B4 HK3
      have K4 := len_c g l w5 G5.out
      rw [← En.out] at K4
      have HK4 := Lib.hid K4
      clear K4
      go_wp2_with fail
      refine HK4.out.mono ?_
      rintro e w' ⟨rfl, rfl⟩
      go_wp2_with fail
      go_ret
      exact ⟨rfl, B5.out⟩
  · have h3' : (3000 : Int) < (n : Int) := by omega
    go_enter Tryd.func6, Tryd.ntmps6
    go_wp2_with fail
    refine (alive_c _ HT.out).mono ?_
    rintro e w' ⟨rfl, hbw⟩
    go_wp2_with fail
    go_ret
    exact ⟨rfl, hbw⟩
end Go.Proofs.YtfkgnafbfdpgiaaDoor
