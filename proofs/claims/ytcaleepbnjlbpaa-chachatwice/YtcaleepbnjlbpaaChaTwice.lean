/-
  Bytes that are turned twice are what they were.
-/
import Derived.Test.YtcaleepbnjlbpaaChaAlive
namespace Go.Proofs.Ytcaleepbnjlbpaa
open Go.RowKit Go.Hold Go.Sh Go.Ch

set_option maxHeartbeats 1000000 in
set_option maxRecDepth 100000 in
theorem twice_any (cap : Nat) (p : Option Addr) (k n l : List Nat) (w : World) (hk : k.length = 32) (hkb : ∀ i, k.getD i 0 < 256) (hn : n.length = 12) (hnb : ∀ i, n.getD i 0 < 256) (hlb : ∀ i, l.getD i 0 < 256) (hB : Bs0 w p l) :
    Calls Try.prog 5 #[.agg (bysA k), .agg (bysA n), .slice p l.length cap] w fun e w' => e = .returned (.bool true) ∧ Below w.heap.size w w' := by
  have hks := bysA_size' hk
  have hns := bysA_size' hn
  obtain ⟨m, em⟩ : ∃ m, m = l.length := ⟨_, rfl⟩
  rw [← em]
  have Em := Lib.hid em
  have HB := Lib.hid hB
  go_enter Try.func5, Try.ntmps5
  go_wp2_with fail
  refine (alive5_c _).mono ?_
  rintro e W1 ⟨rfl, hb1⟩
  have hA := below_alloc (below_alloc (Below.refl w.heap.size w) (.cells (bysA k) 23)) (.cells (bysA n) 24)
  have K1 := Lib.hid (((RowAt.of (block_new w (.cells (bysA k) 23))).grow (below_alloc (Below.refl _ _) (.cells (bysA n) 24))).grow hb1)
  have N1 := Lib.hid ((RowAt.of (block_new (w.alloc (.cells (bysA k) 23)) (.cells (bysA n) 24))).grow hb1)
  rw [World.size_alloc] at N1
  have B1 := Lib.hid (hA.trans (hb1.mono hA.size))
  clear hA hb1 em
  by_cases hm : 2000 < m
  · have hm' : (2000 : Int) < (m : Int) := by omega
    go_wp2_with fail
    go_ret
    exact ⟨rfl, B1.out⟩
  have hm' : ¬ (2000 : Int) < (m : Int) := by omega
  have HX := Lib.hid (xor_c k n l 7 m cap p hk hkb hn hnb Em.out hlb (by omega) (by omega) (by decide) W1 (HB.out.grow B1.out))
  have hXl := mixd_length (strm k n 7 m) l
  have HXb := Lib.hid (mixd_bts (strm_bts k n 7 m) hlb)
  have HX2 := Lib.hid (fun (q : Option Addr) (W : World) => xor_c k n (mixd (strm k n 7 m) l) 7 m m q hk hkb hn hnb (by rw [hXl]; exact Em.out) HXb.out (by omega) (by omega) (by decide) W)
  rw [mixd_twice] at HX2
  generalize mixd (strm k n 7 m) l = X at *
  clear hk hkb hn hnb hlb hB hm hXl
  generalize w.heap.size + 1 = gn at *
  generalize eg : w.heap.size = gk at K1 ⊢
  have Eg := Lib.hid eg
  clear eg
  obtain ⟨k1, k2, k3⟩ := K1.out
  obtain ⟨n1, n2, n3⟩ := N1.out
  go_wp2_with fail
  refine HX.out.mono ?_
  rintro e W2 ⟨g2, rfl, hr2, _, hb2⟩
  have K2 := Lib.hid (K1.out.grow hb2)
  have N2 := Lib.hid (N1.out.grow hb2)
  have B2 := Lib.hid (B1.out.trans (hb2.mono B1.out.size))
  have HX3 := Lib.hid (HX2.out (some ⟨g2, 0, none⟩) W2 (Bs0.some (bytes_row hr2)))
  clear hb2 hr2 k1 k2 k3 n1 n2 n3 HX HX2
  obtain ⟨k1, k2, k3⟩ := K2.out
  obtain ⟨n1, n2, n3⟩ := N2.out
  go_wp2_with fail
  refine HX3.out.mono ?_
  rintro e W3 ⟨g3, rfl, hr3, _, hb3⟩
  have B3 := Lib.hid (B2.out.trans (hb3.mono B2.out.size))
  have hcv1 : (cvBS (.slice (some ⟨g3, 0, none⟩) m m)).run Try.prog W3 = .ok (.string (toS l)) W3 := run_cvBS (Bs0.some (bytes_row hr3)) Em.out
  have hcv2 : (cvBS (.slice p m cap)).run Try.prog W3 = .ok (.string (toS l)) W3 := run_cvBS (HB.out.grow B3.out) Em.out
  generalize toS l = K0 at *
  clear hb3 hr3 k1 k2 k3 n1 n2 n3
  go_wp2_with fail
  go_ret
  exact ⟨rfl, B3.out⟩
end Go.Proofs.Ytcaleepbnjlbpaa
