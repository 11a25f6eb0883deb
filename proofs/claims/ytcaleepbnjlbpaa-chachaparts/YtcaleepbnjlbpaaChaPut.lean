/-
  Package chacha: bytes are put into words.
-/
import Derived.Test.YtcaleepbnjlbpaaChaWords
import Derived.Test.YtcaleepbnjlbpaaPickT
namespace Go.Proofs.Ytcaleepbnjlbpaa
open Go.RowKit Go.Hold Go.Sh Go.Ch

set_option maxHeartbeats 1000000 in
set_option maxRecDepth 100000 in
theorem put_c (g b a n cap : Nat) (s : List Int) (l : List Nat) (w : World) (hn : n = l.length) (hs : s.length = 16) (hz : ∀ j, a ≤ j → s.getD j 0 = 0) (ha : a + (n + 3) / 4 ≤ 16) (hlb : ∀ i, l.getD i 0 < 256) (h : RowAt w g (wosA s)) (hB : BytesAt w b 0 l) (hbg : b ≠ g) :
    Calls Try.prog 22 #[.pointer (some ⟨g, 0, none⟩), .int .i64 (a : Int), .slice (some ⟨b, 0, none⟩) n cap] w fun e w' => e = .returned (.tuple #[]) ∧ Sets w g (wosA (wput s a l n)) w' := by
  have H := Lib.hid h
  have HB := Lib.hid hB
  have Hn := Lib.hid hn
  have S0 := Lib.hid (show Sets w g (wosA (wput s a l 0)) w by rw [wput_zero s a l hs hz]; exact Sets.refl h)
  clear h hB hn hs hz
  go_enter Try.func22, Try.ntmps22
  go_wp2_with fail
  go_loopw [10] (fun i wr => ∃ k : Nat, k ≤ n ∧ i = .int .i64 k ∧ Sets w g (wosA (wput s a l k)) wr) (fun i _ => n - (intOf i).toNat)
  case atStart => exact ⟨0, by omega, rfl, S0.out⟩
  case round =>
    obtain ⟨k, hk, rfl, hset⟩ := hrel
    by_cases hkn : k < n
    · have hk0 : (0 : Int) ≤ (k : Int) := by omega
      have hk1 : (k : Int) < (n : Int) := by omega
      have hkl : k < l.length := by rw [← Hn.out]; exact hkn
      have hrow := hset.row H.out
      have hcb : wr.cell? ⟨b, k, none⟩ = some (.int .u8 ((l.getD k 0 : Nat) : Int)) := by
        have := (hset.bytes HB.out hbg).2 k hkl
        rwa [Nat.zero_add] at this
      have hq : (k : Int).tdiv 4 = ((k / 4 : Nat) : Int) := rfl
      have hm : (k : Int).tmod 4 = ((k % 4 : Nat) : Int) := rfl
      have hc := hrow.cellAt (a + k / 4) (wosA_get' _ _ (wput_get s a l k (a + k / 4) (by omega)))
      rw [if_neg (by omega), show a + k / 4 - a = k / 4 by omega, show k - 4 * (k / 4) = k % 4 by omega] at hc
      have hf := hrow.frozenAt (a + k / 4)
      have hst := wput_step l hlb k
      have Hset := Lib.hid (wput_set s a l k (by omega))
      have hlt := hlb k
      generalize l.getD k 0 = y at hcb hst hlt
      have hyw : IntKind.u32.wrap (y : Int) = (y : Int) := IntWalk.u32_in _ (by omega)
      have hm3 : k % 4 < 4 := by omega
      generalize pkl l (k / 4) (k % 4) = p at hc hst
      generalize ((pkl l (k / 4) (k % 4 + 1) : Nat) : Int) = p' at hst Hset
      have hq4 : a + k / 4 < 16 := by omega
      generalize k / 4 = q at *
      generalize k % 4 = r at *
      obtain ⟨x, ex⟩ : ∃ x, x = a + q := ⟨_, rfl⟩
      rw [← ex] at hc hf hq4 Hset
      have hqw : IntKind.i64.wrap (q : Int) = (q : Int) := IntWalk.i64_in _ (by omega)
      have hx : IntKind.i64.wrap ((a : Int) + (q : Int)) = (x : Int) := by rw [IntWalk.i64_in _ (by omega)]; omega
      have hx0 : (0 : Int) ≤ (x : Int) := by omega
      have hx1 : (x : Int) < 16 := by omega
      obtain ⟨m, em⟩ : ∃ m, m = r * 8 := ⟨_, rfl⟩
      rw [← em] at hst
      have hmw : IntKind.i64.wrap ((r : Int) * 8) = (m : Int) := by rw [IntWalk.i64_in _ (by omega)]; omega
      have hm0 : (0 : Int) ≤ (m : Int) := by omega
      have hm1 : (m : Int) ≤ 32 := by omega
      have Hset2 := Lib.hid hset
      have hgl := hrow.2.2
      clear ex em hset hrow hkl
      go_wp2_with fail
      refine wp_region_pick wr [0, 1, 2, 3, 4, 5, 6, 7, 8, 9, 10, 11, 12, 13, 14, 15, 16] [false, false, false, false, false, false, false, false, false, false, false, false, false, false, false, false, false] [] [] 17 (by kernel_rfl) rfl (by kernel_rfl) (by intro c a d v w h; cases d <;> exact h) ((Below.refl _ _).drew) ?_
      simp only [pick, List.getElem?_cons_succ, List.getElem?_cons_zero, List.drop_succ_cons, List.drop_zero]
      iterate 17 (refine wpHoldF_val (wanted_none rfl) (by intro K o d hK; go_simp; exact hK _ (Below.refl _ _)) ?_)
      refine wpHoldF_nil ?_
      intro w2 hb2 _
      have S2 := Lib.hid (Hset2.out.grow hb2)
      have hc2 : w2.cell? ⟨g, x, none⟩ = some (.int .u32 (p : Int)) := by rw [hb2.cell hgl]; exact hc
      have hf2 := (S2.out.row H.out).frozenAt x
      clear hb2 hc hf Hset2
      go_wp2_with fail
      go_roundw
      case rel =>
        refine ⟨k + 1, by omega, by go_num, ?_⟩
        rw [← Hset.out, ← wosA_set]; exact S2.out.cell H.out
      case measure => simp [intOf]; omega
    · obtain rfl : k = n := by omega
      have HS := Lib.hid hset
      clear hset
      go_wp2_with fail
      go_end0
      exact ⟨rfl, HS.out⟩
end Go.Proofs.Ytcaleepbnjlbpaa
