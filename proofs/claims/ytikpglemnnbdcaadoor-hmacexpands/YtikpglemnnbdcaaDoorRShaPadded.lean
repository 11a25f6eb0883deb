/-
  The reference of layer 3: bytes with what comes behind them.
-/
import Derived.Test.YtikpglemnnbdcaaDoorRShaSlices
namespace Go.Proofs.YtikpglemnnbdcaaDoor
open Go.RowKit Go.Hold Go.Sh

theorem shift_byte (a i : Nat) : ((a : Nat) : Int) / 2 ^ (8 * i) % 256 = ((a / 256 ^ i % 256 : Nat) : Int) := by
  rw [show (256 : Nat) ^ i = 2 ^ (8 * i) by rw [Nat.pow_mul]]
  simp
set_option maxHeartbeats 4000000 in
set_option maxRecDepth 100000 in
theorem padded_c (cap : Nat) (p : Option Addr) (l : List Nat) (w : World) (hl : l.length ≤ 100000) (hB : Bs0 w p l) (hpc : p = none → cap = 0) :
    Calls Tryd.prog 32 #[.slice p l.length cap] w fun e w' => ∃ g c, e = .returned (.slice (some ⟨g, 0, none⟩) (pad l).length c) ∧ BytesAt w' g 0 (pad l) ∧ (pad l).length ≤ c ∧ Below w.heap.size w w' := by
  obtain ⟨i0, hi, hz0, hz1, hz2⟩ := info_parts info_u8
  have HB := Lib.hid hB
  obtain ⟨n, en⟩ : ∃ n, n = l.length := ⟨_, rfl⟩
  have hgap : gap n < 64 := by unfold gap; omega
  rw [← en] at hl ⊢
  have En := Lib.hid en
  obtain ⟨N, eN⟩ : ∃ N, N = n * 8 := ⟨_, rfl⟩
  have hN1 : IntKind.u64.wrap (n : Int) = (n : Int) := by rw [IntWalk.u64_in _ (by omega)]
  have hN2 : IntKind.u64.wrap ((n : Int) * 8) = (N : Int) := by rw [IntWalk.u64_in _ (by omega), eN]; omega
  have EN := Lib.hid eN
  obtain ⟨B, eB⟩ : ∃ B, B = w.heap.size := ⟨_, rfl⟩
  have EB := Lib.hid eB
  have hBw : B ≤ w.heap.size := by omega
  clear en eN eB
  cases p with
  | none =>
    have hl0 : l = [] := by
      rcases hB with h | ⟨b, o, h, _⟩
      · exact h
      · cases h
    have hn0 : n = 0 := by rw [En.out, hl0]; rfl
    obtain rfl : cap = 0 := hpc rfl
    clear hB hpc
    have Hn0 := Lib.hid hn0
    have Hl0 := Lib.hid hl0
    clear hn0 hl0
    have Hown := Lib.hid (show OwnB (w.alloc (.cells #[] 5)) B (.slice (some ⟨w.heap.size, 0, none⟩) 0 0) l by rw [Hl0.out]; exact ownB_empty w B hBw)
    have Hbel := Lib.hid (show Below B w (w.alloc (.cells #[] 5)) from ((Below.refl w.heap.size w).alloc (Nat.le_refl _) _).mono hBw)
    have hsz : B ≤ (w.alloc (.cells #[] 5)).heap.size := by simp; omega
    go_enter Tryd.func32, Tryd.ntmps32
    go_wp2_with (at_builtin; first | refine wpList_append_own_none rfl _ _ 22 rfl B 5 i0 1 Tryd.underlying22 hi _ _ _ rfl (ownB_empty w B hBw) (congrArg (fun k => Value.slice none k 0) Hn0.out) ?_ | refine wpList_append_own _ rfl _ _ 22 rfl B 5 i0 (.int .u8 0) 1 1 Tryd.underlying22 hi hz0 hz1 hz2 rfl (by decide) _ _ _ rfl (owns_below Hown.out (below_alloc (Below.refl _ _) _)) ⟨w.heap.size + 1, 0, none⟩ 1 1 [.int .u8 128] rfl rfl (one_cell' (by simp)) (fun u hu => by simp at hu; subst hu; rfl) (maxLen_small (show l.length + 1 ≤ 16777216 by have := En.out; omega)) (by have := (show l.length + 1 ≤ 16777216 by have := En.out; omega); omega) (by simp; omega) ?_)
    intro v2 w2 hown2 hgrow2 _
    have Hb2 := Lib.hid (grown_below (Hbel.out.alloc hsz _) (owns_below Hown.out (below_alloc (Below.refl _ _) (.cells #[.int .u8 128] 5))) (by simp; omega) hgrow2)
    have Ho2 := Lib.hid (OwnB.snoc (m := [128]) hown2)
    have hsz2 : B ≤ w2.heap.size := by have := hgrow2.size; simp at this; omega
    clear hown2 hgrow2 Hown Hbel hsz
    obtain ⟨g2, c2, ev2, hg2, hgl2, hc2⟩ := Ho2.out.addr (k := n + 1) (by rw [List.length_append, ← En.out]; rfl) (by omega)
    subst ev2
    go_wp2_with fail
    go_loopw [3] (fun v wr => ∃ k len g c : Nat, k ≤ gap n ∧ len = n + 1 + k ∧ v = .slice (some ⟨g, 0, none⟩) len c ∧ OwnB wr B v (l ++ [128] ++ zs k) ∧ Below B w wr ∧ B ≤ wr.heap.size) (fun v _ => match v with | .slice _ len _ => (n + 1 + gap n) - len | _ => 0)
    case atStart => exact ⟨0, n + 1, g2, c2, Nat.zero_le _, rfl, rfl, by rw [show zs 0 = [] from rfl, List.append_nil]; exact Ho2.out, Hb2.out, hsz2⟩
    case round =>
      obtain ⟨k, len, g, c, hk, hlen, rfl, hown, hbel, hsz⟩ := hrel
      have hgs := gap_step n k hk
      rw [← hlen] at hgs
      have hll : (l ++ [128] ++ zs k).length = len := by rw [List.length_append, List.length_append, zs_length, ← En.out, hlen]; rfl
      have htm := cast_tmod64' len
      obtain ⟨L, eL⟩ : ∃ L, L = l ++ [128] ++ zs k := ⟨_, rfl⟩
      rw [← eL] at hown hll
      have HL := Lib.hid eL
      clear eL
      have Hown := Lib.hid hown
      have Hbel := Lib.hid hbel
      have HLL := Lib.hid hll
      clear hown hbel hll
      by_cases hkg : k = gap n
      · have hm : ((len % 64 : Nat) : Int) = 56 := by omega
        rw [hm] at htm
        have Hlen := Lib.hid hlen
        have Hkg := Lib.hid hkg
        clear hlen hgs hm hkg
        go_wp2_with fail
        obtain ⟨W3, eW3⟩ : ∃ x, x = wr := ⟨_, rfl⟩
        rw [← eW3] at Hown Hbel hsz ⊢
        clear eW3
        go_loopw [3, 5] (fun v i wr => ∃ (j : Nat) (z : Int) (g c : Nat), j ≤ 8 ∧ z = 7 - (j : Int) ∧ i = .int .i64 z ∧ v = .slice (some ⟨g, 0, none⟩) (len + j) c ∧ OwnB wr B v (L ++ (len8 n).take j) ∧ Below B w wr ∧ B ≤ wr.heap.size) (fun _ i _ => (intOf i + 1).toNat)
        case atStart => exact ⟨0, 7, g, c, by decide, rfl, rfl, rfl, by rw [List.take_zero, List.append_nil]; exact Hown.out, Hbel.out, hsz⟩
        case round =>
          obtain ⟨j, z, g, c, hj, hz, rfl, rfl, hown, hbel, hsz⟩ := hrel
          have hlj : (L ++ (len8 n).take j).length = len + j := by rw [List.length_append, HLL.out, List.length_take, len8_length]; omega
          obtain ⟨M, eM⟩ : ∃ M, M = L ++ (len8 n).take j := ⟨_, rfl⟩
          rw [← eM] at hown hlj
          have HM := Lib.hid eM
          have Hown := Lib.hid hown
          have Hbel := Lib.hid hbel
          have HLJ := Lib.hid hlj
          clear eM hlj
          clear hown hbel
          by_cases hj8 : j < 8
          · have hz0' : (0 : Int) ≤ z := by omega
            obtain ⟨y, ey⟩ : ∃ y, y = 8 * (7 - j) := ⟨_, rfl⟩
            have hw1 : IntKind.i64.wrap (8 * z) = (y : Int) := by rw [IntWalk.i64_in _ (by omega)]; omega
            have hw2 : IntKind.u64.wrap (y : Int) = (y : Int) := by rw [IntWalk.u64_in _ (by omega)]
            have hy0 : (0 : Int) ≤ (y : Int) := by omega
            have hy1 : (y : Int) ≤ 64 := by omega
            obtain ⟨x, ex⟩ : ∃ x, x = n * 8 / 256 ^ (7 - j) % 256 := ⟨_, rfl⟩
            have hx : (N : Int) / 2 ^ y % 256 = (x : Int) := by
              rw [ex, ey, EN.out]; exact shift_byte _ _
            have Hx := Lib.hid ex
            have hz1 : z - 1 = 7 - ((j + 1 : Nat) : Int) := by omega
            have Hz := Lib.hid hz
            have Hz1 := Lib.hid hz1
            obtain ⟨z', ez'⟩ : ∃ y, y = z - 1 := ⟨_, rfl⟩
            rw [← ez'] at Hz1
            have hzz : IntKind.i64.wrap (z - 1) = z' := by rw [IntWalk.i64_in _ (by omega), ez']
            have Hz' := Lib.hid ez'
            have hzp : 0 ≤ z' + 1 := by omega
            clear ex ey hz hz1 ez'
            go_wp2_with (at_builtin; refine wpList_append_own _ rfl _ _ 22 rfl B 5 i0 (.int .u8 0) 1 1 Tryd.underlying22 hi hz0 hz1 hz2 rfl (by decide) _ _ _ rfl (owns_below Hown.out (below_alloc (Below.refl _ _) _)) ⟨wr.heap.size, 0, none⟩ 1 1 [.int .u8 (x : Int)] rfl rfl one_cell (fun u hu => by simp at hu; subst hu; rfl) (maxLen_small (show M.length + 1 ≤ 16777216 by rw [HLJ.out]; have := Hlen.out; have := Hkg.out; omega)) (by have := (show M.length + 1 ≤ 16777216 by rw [HLJ.out]; have := Hlen.out; have := Hkg.out; omega); omega) (by simp; omega) ?_)
            intro v' w4 hown4 hgrow4 _
            have Hb4 := Lib.hid (grown_below (Hbel.out.alloc hsz _) (owns_below Hown.out (below_alloc (Below.refl _ _) (.cells #[.int .u8 (x : Int)] 5))) (by simp; omega) hgrow4)
            have Ho4 := Lib.hid (OwnB.snoc (m := [x]) hown4)
            have hsz4 : B ≤ w4.heap.size := by have := hgrow4.size; simp at this; omega
            clear hown4 hgrow4
            obtain ⟨g4, c4, ev4, _, _, _⟩ := Ho4.out.addr (k := len + (j + 1)) (by rw [List.length_append, HLJ.out]; rfl) (by omega)
            subst ev4
            go_wp2_with fail
            go_roundw
            case rel => exact ⟨j + 1, z', g4, c4, by omega, Hz1.out, rfl, rfl, by rw [len8_take n j hj8, ← Hx.out, ← List.append_assoc, ← HM.out]; exact Ho4.out, Hb4.out, hsz4⟩
            case measure => have := Hz'.out; simp [intOf]; omega
          · obtain rfl : j = 8 := by omega
            have hzn : ¬ (0 : Int) ≤ z := by omega
            have epad : M = pad l := by
              rw [HM.out, HL.out]
              unfold pad
              rw [List.take_of_length_le (by rw [len8_length]; exact Nat.le_refl _), Hkg.out, En.out]
              simp
            rw [epad] at Hown HLJ
            obtain ⟨g5, c5, ev5, hg5, hgl5, hc5⟩ := Hown.out.addr HLJ.out (by have := Hlen.out; omega)
            cases ev5
            have Hc5 := Lib.hid (show (pad l).length ≤ _ by rw [HLJ.out]; exact hc5)
            clear epad hc5
            go_wp2_with fail
            go_ret
            exact ⟨g, c, (by show Ending.returned (.slice (some ⟨g, 0, none⟩) (len + 8) c) = Ending.returned (.slice (some ⟨g, 0, none⟩) (pad l).length c); rw [HLJ.out]), Hown.out.bytes hgl5, Hc5.out, by rw [← EB.out]; exact Hbel.out⟩
      · have hm : ((len % 64 : Nat) : Int) ≠ 56 := by omega
        obtain ⟨md, emd⟩ : ∃ x, x = len % 64 := ⟨_, rfl⟩
        rw [← emd] at htm hm
        clear emd
        go_wp2_with (at_builtin; refine wpList_append_own _ rfl _ _ 22 rfl B 5 i0 (.int .u8 0) 1 1 Tryd.underlying22 hi hz0 hz1 hz2 rfl (by decide) _ _ _ rfl (owns_below Hown.out (below_alloc (Below.refl _ _) _)) ⟨wr.heap.size, 0, none⟩ 1 1 [.int .u8 0] rfl rfl one_cell (fun u hu => by simp at hu; subst hu; rfl) (maxLen_small (show L.length + 1 ≤ 16777216 by rw [HLL.out]; omega)) (by have := (show L.length + 1 ≤ 16777216 by rw [HLL.out]; omega); omega) (by simp; omega) ?_)
        intro v' w4 hown4 hgrow4 _
        have Hb4 := Lib.hid (grown_below (Hbel.out.alloc hsz _) (owns_below Hown.out (below_alloc (Below.refl _ _) (.cells #[.int .u8 0] 5))) (by simp; omega) hgrow4)
        have Ho4 := Lib.hid (OwnB.snoc (m := [0]) hown4)
        have hsz4 : B ≤ w4.heap.size := by have := hgrow4.size; simp at this; omega
        clear hown4 hgrow4
        obtain ⟨g4, c4, ev4, _, _, _⟩ := Ho4.out.addr (k := len + 1) (by rw [List.length_append, HLL.out]; rfl) (by omega)
        subst ev4
        go_wp2_with fail
        go_roundw
        case rel => exact ⟨k + 1, len + 1, g4, c4, by omega, by omega, rfl, by rw [← zs_snoc, ← List.append_assoc, ← HL.out]; exact Ho4.out, Hb4.out, hsz4⟩
        case measure => simp; omega
  | some ad =>
    have hnews : ∀ (o : Obj) j u, (bys l)[j]? = some u → (w.alloc o).cell? (ad.add j) = some u := fun ob j u hu => by
      rcases hB with h | ⟨b, o, h, hy⟩
      · subst h; simp [bys] at hu
      · cases h; exact bys_at (hy.grow (below_alloc (Below.refl _ _) _)) j u hu
    clear hB hpc
    go_enter Tryd.func32, Tryd.ntmps32
    go_wp2_with (at_builtin; refine wpList_append_own _ rfl _ _ 22 rfl B 5 i0 (.int .u8 0) 1 1 Tryd.underlying22 hi hz0 hz1 hz2 rfl (by decide) _ _ _ rfl (ownB_empty w B hBw) ad n cap (bys l) rfl (by rw [bys_length, ← En.out, Nat.mul_one]) (hnews _) (bys_one l) (maxLen_small (by simp; omega)) (by simp; omega) (by simp; omega) ?_)
    intro v1 w1 hown1 hgrow1 _
    have Hbel := Lib.hid (grown_below (((Below.refl w.heap.size w).alloc (Nat.le_refl _) _).mono hBw) (ownB_empty w B hBw) (by simp; omega) hgrow1)
    have Hown := Lib.hid (show OwnB w1 B v1 l from (by unfold OwnB; rw [← En.out]; exact hown1))
    have hsz : B ≤ w1.heap.size := by have := hgrow1.size; simp at this; omega
    clear hown1 hgrow1 hnews
    go_wp2_with (at_builtin; refine wpList_append_own _ rfl _ _ 22 rfl B 5 i0 (.int .u8 0) 1 1 Tryd.underlying22 hi hz0 hz1 hz2 rfl (by decide) _ _ _ rfl (owns_below Hown.out (below_alloc (Below.refl _ _) _)) ⟨w1.heap.size, 0, none⟩ 1 1 [.int .u8 128] rfl rfl one_cell (fun u hu => by simp at hu; subst hu; rfl) (maxLen_small (show l.length + 1 ≤ 16777216 by have := En.out; omega)) (by have := (show l.length + 1 ≤ 16777216 by have := En.out; omega); omega) (by simp; omega) ?_)
    intro v2 w2 hown2 hgrow2 _
    have Hb2 := Lib.hid (grown_below (Hbel.out.alloc hsz _) (owns_below Hown.out (below_alloc (Below.refl _ _) (.cells #[.int .u8 128] 5))) (by simp; omega) hgrow2)
    have Ho2 := Lib.hid (OwnB.snoc (m := [128]) hown2)
    have hsz2 : B ≤ w2.heap.size := by have := hgrow2.size; simp at this; omega
    clear hown2 hgrow2 Hown Hbel hsz
    obtain ⟨g2, c2, ev2, hg2, hgl2, hc2⟩ := Ho2.out.addr (k := n + 1) (by rw [List.length_append, ← En.out]; rfl) (by omega)
    subst ev2
    go_wp2_with fail
    go_loopw [3] (fun v wr => ∃ k len g c : Nat, k ≤ gap n ∧ len = n + 1 + k ∧ v = .slice (some ⟨g, 0, none⟩) len c ∧ OwnB wr B v (l ++ [128] ++ zs k) ∧ Below B w wr ∧ B ≤ wr.heap.size) (fun v _ => match v with | .slice _ len _ => (n + 1 + gap n) - len | _ => 0)
    case atStart => exact ⟨0, n + 1, g2, c2, Nat.zero_le _, rfl, rfl, by rw [show zs 0 = [] from rfl, List.append_nil]; exact Ho2.out, Hb2.out, hsz2⟩
    case round =>
      obtain ⟨k, len, g, c, hk, hlen, rfl, hown, hbel, hsz⟩ := hrel
      have hgs := gap_step n k hk
      rw [← hlen] at hgs
      have hll : (l ++ [128] ++ zs k).length = len := by rw [List.length_append, List.length_append, zs_length, ← En.out, hlen]; rfl
      have htm := cast_tmod64' len
      obtain ⟨L, eL⟩ : ∃ L, L = l ++ [128] ++ zs k := ⟨_, rfl⟩
      rw [← eL] at hown hll
      have HL := Lib.hid eL
      clear eL
      have Hown := Lib.hid hown
      have Hbel := Lib.hid hbel
      have HLL := Lib.hid hll
      clear hown hbel hll
      by_cases hkg : k = gap n
      · have hm : ((len % 64 : Nat) : Int) = 56 := by omega
        rw [hm] at htm
        have Hlen := Lib.hid hlen
        have Hkg := Lib.hid hkg
        clear hlen hgs hm hkg
        go_wp2_with fail
        obtain ⟨W3, eW3⟩ : ∃ x, x = wr := ⟨_, rfl⟩
        rw [← eW3] at Hown Hbel hsz ⊢
        clear eW3
        go_loopw [3, 5] (fun v i wr => ∃ (j : Nat) (z : Int) (g c : Nat), j ≤ 8 ∧ z = 7 - (j : Int) ∧ i = .int .i64 z ∧ v = .slice (some ⟨g, 0, none⟩) (len + j) c ∧ OwnB wr B v (L ++ (len8 n).take j) ∧ Below B w wr ∧ B ≤ wr.heap.size) (fun _ i _ => (intOf i + 1).toNat)
        case atStart => exact ⟨0, 7, g, c, by decide, rfl, rfl, rfl, by rw [List.take_zero, List.append_nil]; exact Hown.out, Hbel.out, hsz⟩
        case round =>
          obtain ⟨j, z, g, c, hj, hz, rfl, rfl, hown, hbel, hsz⟩ := hrel
          have hlj : (L ++ (len8 n).take j).length = len + j := by rw [List.length_append, HLL.out, List.length_take, len8_length]; omega
          obtain ⟨M, eM⟩ : ∃ M, M = L ++ (len8 n).take j := ⟨_, rfl⟩
          rw [← eM] at hown hlj
          have HM := Lib.hid eM
          have Hown := Lib.hid hown
          have Hbel := Lib.hid hbel
          have HLJ := Lib.hid hlj
          clear eM hlj
          clear hown hbel
          by_cases hj8 : j < 8
          · have hz0' : (0 : Int) ≤ z := by omega
            obtain ⟨y, ey⟩ : ∃ y, y = 8 * (7 - j) := ⟨_, rfl⟩
            have hw1 : IntKind.i64.wrap (8 * z) = (y : Int) := by rw [IntWalk.i64_in _ (by omega)]; omega
            have hw2 : IntKind.u64.wrap (y : Int) = (y : Int) := by rw [IntWalk.u64_in _ (by omega)]
            have hy0 : (0 : Int) ≤ (y : Int) := by omega
            have hy1 : (y : Int) ≤ 64 := by omega
            obtain ⟨x, ex⟩ : ∃ x, x = n * 8 / 256 ^ (7 - j) % 256 := ⟨_, rfl⟩
            have hx : (N : Int) / 2 ^ y % 256 = (x : Int) := by
              rw [ex, ey, EN.out]; exact shift_byte _ _
            have Hx := Lib.hid ex
            have hz1 : z - 1 = 7 - ((j + 1 : Nat) : Int) := by omega
            have Hz := Lib.hid hz
            have Hz1 := Lib.hid hz1
            obtain ⟨z', ez'⟩ : ∃ y, y = z - 1 := ⟨_, rfl⟩
            rw [← ez'] at Hz1
            have hzz : IntKind.i64.wrap (z - 1) = z' := by rw [IntWalk.i64_in _ (by omega), ez']
            have Hz' := Lib.hid ez'
            have hzp : 0 ≤ z' + 1 := by omega
            clear ex ey hz hz1 ez'
            go_wp2_with (at_builtin; refine wpList_append_own _ rfl _ _ 22 rfl B 5 i0 (.int .u8 0) 1 1 Tryd.underlying22 hi hz0 hz1 hz2 rfl (by decide) _ _ _ rfl (owns_below Hown.out (below_alloc (Below.refl _ _) _)) ⟨wr.heap.size, 0, none⟩ 1 1 [.int .u8 (x : Int)] rfl rfl one_cell (fun u hu => by simp at hu; subst hu; rfl) (maxLen_small (show M.length + 1 ≤ 16777216 by rw [HLJ.out]; have := Hlen.out; have := Hkg.out; omega)) (by have := (show M.length + 1 ≤ 16777216 by rw [HLJ.out]; have := Hlen.out; have := Hkg.out; omega); omega) (by simp; omega) ?_)
            intro v' w4 hown4 hgrow4 _
            have Hb4 := Lib.hid (grown_below (Hbel.out.alloc hsz _) (owns_below Hown.out (below_alloc (Below.refl _ _) (.cells #[.int .u8 (x : Int)] 5))) (by simp; omega) hgrow4)
            have Ho4 := Lib.hid (OwnB.snoc (m := [x]) hown4)
            have hsz4 : B ≤ w4.heap.size := by have := hgrow4.size; simp at this; omega
            clear hown4 hgrow4
            obtain ⟨g4, c4, ev4, _, _, _⟩ := Ho4.out.addr (k := len + (j + 1)) (by rw [List.length_append, HLJ.out]; rfl) (by omega)
            subst ev4
            go_wp2_with fail
            go_roundw
            case rel => exact ⟨j + 1, z', g4, c4, by omega, Hz1.out, rfl, rfl, by rw [len8_take n j hj8, ← Hx.out, ← List.append_assoc, ← HM.out]; exact Ho4.out, Hb4.out, hsz4⟩
            case measure => have := Hz'.out; simp [intOf]; omega
          · obtain rfl : j = 8 := by omega
            have hzn : ¬ (0 : Int) ≤ z := by omega
            have epad : M = pad l := by
              rw [HM.out, HL.out]
              unfold pad
              rw [List.take_of_length_le (by rw [len8_length]; exact Nat.le_refl _), Hkg.out, En.out]
              simp
            rw [epad] at Hown HLJ
            obtain ⟨g5, c5, ev5, hg5, hgl5, hc5⟩ := Hown.out.addr HLJ.out (by have := Hlen.out; omega)
            cases ev5
            have Hc5 := Lib.hid (show (pad l).length ≤ _ by rw [HLJ.out]; exact hc5)
            clear epad hc5
            go_wp2_with fail
            go_ret
            exact ⟨g, c, (by show Ending.returned (.slice (some ⟨g, 0, none⟩) (len + 8) c) = Ending.returned (.slice (some ⟨g, 0, none⟩) (pad l).length c); rw [HLJ.out]), Hown.out.bytes hgl5, Hc5.out, by rw [← EB.out]; exact Hbel.out⟩
      · have hm : ((len % 64 : Nat) : Int) ≠ 56 := by omega
        obtain ⟨md, emd⟩ : ∃ x, x = len % 64 := ⟨_, rfl⟩
        rw [← emd] at htm hm
        clear emd
        go_wp2_with (at_builtin; refine wpList_append_own _ rfl _ _ 22 rfl B 5 i0 (.int .u8 0) 1 1 Tryd.underlying22 hi hz0 hz1 hz2 rfl (by decide) _ _ _ rfl (owns_below Hown.out (below_alloc (Below.refl _ _) _)) ⟨wr.heap.size, 0, none⟩ 1 1 [.int .u8 0] rfl rfl one_cell (fun u hu => by simp at hu; subst hu; rfl) (maxLen_small (show L.length + 1 ≤ 16777216 by rw [HLL.out]; omega)) (by have := (show L.length + 1 ≤ 16777216 by rw [HLL.out]; omega); omega) (by simp; omega) ?_)
        intro v' w4 hown4 hgrow4 _
        have Hb4 := Lib.hid (grown_below (Hbel.out.alloc hsz _) (owns_below Hown.out (below_alloc (Below.refl _ _) (.cells #[.int .u8 0] 5))) (by simp; omega) hgrow4)
        have Ho4 := Lib.hid (OwnB.snoc (m := [0]) hown4)
        have hsz4 : B ≤ w4.heap.size := by have := hgrow4.size; simp at this; omega
        clear hown4 hgrow4
        obtain ⟨g4, c4, ev4, _, _, _⟩ := Ho4.out.addr (k := len + 1) (by rw [List.length_append, HLL.out]; rfl) (by omega)
        subst ev4
        go_wp2_with fail
        go_roundw
        case rel => exact ⟨k + 1, len + 1, g4, c4, by omega, by omega, rfl, by rw [← zs_snoc, ← List.append_assoc, ← HL.out]; exact Ho4.out, Hb4.out, hsz4⟩
        case measure => simp; omega
end Go.Proofs.YtikpglemnnbdcaaDoor
