/-
  Package chacha: bytes, each turned by one of the stream.
-/
import Derived.Test.YtcaleepbnjlbpaaChaStream
import Derived.Laws.BitsAllLaws
namespace Go.Proofs.Ytcaleepbnjlbpaa
open Go.RowKit Go.Hold Go.Sh Go.Ch

set_option maxHeartbeats 400000 in
set_option maxRecDepth 100000 in
/-- What is refused. -/
theorem xor_bad (k n : List Nat) (c m cap : Nat) (p : Option Addr) (hk : k.length = 32) (hn : n.length = 12) (hc : c < 4294967296) (w : World) (h : 65536 < m ∨ m ≤ 65536 ∧ 4294967296 < c + (m + 63) / 64) :
    Calls Try.prog 13 #[.agg (bysA k), .agg (bysA n), .int .u32 (c : Int), .slice p m cap] w fun e w' => e = .returned (.tuple #[.slice none 0 0, .int .i64 3]) ∧ Below w.heap.size w w' := by
  have hks := bysA_size' hk
  have hns := bysA_size' hn
  have HS := Lib.hid (fun W => stream_bad k n c (m : Int) 3 hc W (by omega))
  go_enter Try.func13, Try.ntmps13
  go_wp2_with fail
  refine (HS.out _).mono ?_
  rintro e W2 ⟨rfl, hb2⟩
  have B2 := Lib.hid ((below_alloc (below_alloc (Below.refl w.heap.size w) (.cells (bysA k) 23)) (.cells (bysA n) 33)).trans (hb2.mono (by simp; omega)))
  clear hb2
  go_wp2_with fail
  refine bodyPost_ret (v := .tuple #[.slice none 0 0, .int .i64 3]) (results_tmp2 Try.results13 _ _ _) rfl ⟨rfl, B2.out⟩

set_option maxHeartbeats 1000000 in
set_option maxRecDepth 100000 in
theorem xor_c (k n l : List Nat) (c m cap : Nat) (p : Option Addr) (hk : k.length = 32) (hkb : ∀ i, k.getD i 0 < 256) (hn : n.length = 12) (hnb : ∀ i, n.getD i 0 < 256) (hl : m = l.length) (hlb : ∀ i, l.getD i 0 < 256)
    (hm : m ≤ 65536) (hc : c + (m + 63) / 64 ≤ 4294967296) (hc' : c < 4294967296) (w : World) (hB : Bs0 w p l) :
    Calls Try.prog 13 #[.agg (bysA k), .agg (bysA n), .int .u32 (c : Int), .slice p m cap] w fun e w' => ∃ g, e = .returned (.tuple #[.slice (some ⟨g, 0, none⟩) m m, .int .i64 0]) ∧ RowAt w' g (bysA (mixd (strm k n c m) l)) ∧ w.heap.size ≤ g ∧ Below w.heap.size w w' := by
  have hks := bysA_size' hk
  have hns := bysA_size' hn
  have HS := Lib.hid (fun W => stream_c k n c m hk hkb hn hnb hm hc hc' W)
  have hTl := strm_length k n c m
  have hTb := strm_bts k n c m
  generalize strm k n c m = T at *
  have HL := Lib.hid hl
  have HTl := Lib.hid hTl
  have HB := Lib.hid hB
  have hmi : (m : Int) ≤ 65536 := by omega
  clear hk hkb hn hnb hc hc' hB hl hTl
  go_enter Try.func13, Try.ntmps13
  go_wp2_with fail
  refine (HS.out _).mono ?_
  rintro e W2 ⟨g, rfl, hr2, hg, hb2⟩
  have l0 : w.heap.size ≤ g := by simp at hg; omega
  have B2 := Lib.hid ((below_alloc (below_alloc (Below.refl w.heap.size w) (.cells (bysA k) 23)) (.cells (bysA n) 33)).trans (hb2.mono (by simp; omega)))
  have R2 := Lib.hid (show RowAt W2 g (bysA (mixP T l 0)) by rw [mixP_zero T l (by rw [HTl.out, HL.out])]; exact hr2)
  have HB2 := Lib.hid (HB.out.grow B2.out)
  clear hb2 hr2 hg HS
  go_wp2_with fail
  go_loopw [28] (fun i wr => ∃ j : Nat, j ≤ m ∧ i = .int .i64 j ∧ Sets W2 g (bysA (mixP T l j)) wr) (fun i _ => m - (intOf i).toNat)
  case atStart => exact ⟨0, Nat.zero_le _, rfl, Sets.refl R2.out⟩
  case round =>
    obtain ⟨j, hj, rfl, hset⟩ := hrel
    by_cases hjm : j < m
    · have hj0 : (j : Int) < (m : Int) := by omega
      have hj1 : (0 : Int) ≤ (j : Int) := by omega
      have hjl : j < l.length := by rw [← HL.out]; exact hjm
      obtain ⟨b, o, rfl, hbw⟩ : ∃ b o, p = some ⟨b, o, none⟩ ∧ BytesAt w b o l := by
        rcases HB.out with h | h
        · rw [h] at hjl; simp at hjl
        · exact h
      have hbg : b ≠ g := by have := hbw.1; omega
      have hcb := (hset.bytes (hbw.grow B2.out) hbg).2 j hjl
      have hrow := hset.row R2.out
      have hca := hrow.cellAt j (bysA_get _ j (by rw [mixP_length]; exact hjl))
      rw [List.getD, mixP_get T l j j hjl, if_neg (by omega), Option.getD_some] at hca
      have hfa := hrow.frozenAt j
      have hx := u8_xor_nat (T.getD j 0) (l.getD j 0) (hTb j) (hlb j)
      have Hset := Lib.hid (mixP_set T l j hjl)
      generalize T.getD j 0 = y at *
      generalize l.getD j 0 = z at *
      generalize y ^^^ z = v at *
      have hgl := hrow.2.2
      have HSet := Lib.hid hset
      clear hset hrow hjl hbw
      go_wp2_with fail
      go_roundw
      case rel =>
        refine ⟨j + 1, by omega, by go_num, ?_⟩
        rw [← Hset.out, ← bysA_set]; exact HSet.out.cell R2.out
      case measure => simp [intOf]; omega
    · obtain rfl : j = m := by omega
      have R3 := Lib.hid (hset.row R2.out)
      have B3 := Lib.hid (hset.below B2.out l0 B2.out.size)
      clear hset
      go_wp2_with fail
      refine bodyPost_ret (v := .tuple #[.slice (some ⟨g, 0, none⟩) j j, .int .i64 0]) (results_tmp2 Try.results13 _ _ _) rfl ⟨g, rfl, ?_, l0, B3.out⟩
      have h1 := R3.out
      rw [HL.out, mixP_all] at h1
      exact h1
end Go.Proofs.Ytcaleepbnjlbpaa
