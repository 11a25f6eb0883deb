/-
  The reference of layer 7: a number's bytes; bytes as they are.
-/
import Derived.Test.YtbhgmefdimjlaaaOctRef
import Derived.Test.YtbhgmefdimjlaaaOctWCalls
namespace Go.Proofs.Ytbhgmefdimjlaaa
open Go.RowKit Go.Hold Go.Sh Go.Oc

theorem fits_iff (n z : Nat) (hz : 1 ≤ z) (h8 : z ≤ 8) : Fits n (z : Int) ↔ n < 2 ^ (8 * z) := by
  unfold Fits
  rw [Int.toNat_natCast]
  constructor
  · exact fun h => h.2.2
  · exact fun h => ⟨by omega, by omega, h⟩
set_option maxHeartbeats 600000 in
set_option maxRecDepth 100000 in
theorem rfits_c (n : Nat) (sz : Int) (hn : n < 18446744073709551616) (w : World) :
    Calls Try.prog 26 #[.int .u64 (n : Int), .int .i64 sz] w fun e w' => e = .returned (.bool (decide (Fits n sz))) ∧ w' = w := by
  by_cases h1 : sz < 1
  · have hF : decide (Fits n sz) = false := by rw [decide_eq_false_iff_not]; unfold Fits; omega
    have h1' : ¬ 1 ≤ sz := by omega
    rw [hF]
    go_enter Try.func26, Try.ntmps26
    go_wp2_with fail
    go_ret
    exact ⟨rfl, rfl⟩
  · have h1' : 1 ≤ sz := by omega
    by_cases h8 : 8 < sz
    · have hF : decide (Fits n sz) = false := by rw [decide_eq_false_iff_not]; unfold Fits; omega
      have h8' : ¬ sz ≤ 8 := by omega
      rw [hF]
      clear h1
      go_enter Try.func26, Try.ntmps26
      go_wp2_with fail
      go_ret
      exact ⟨rfl, rfl⟩
    · have h8' : sz ≤ 8 := by omega
      by_cases he : sz = 8
      · subst he
        have hF : decide (Fits n 8) = true := by rw [decide_eq_true_iff]; exact ⟨by decide, by decide, hn⟩
        rw [hF]
        clear h1 h8 h1' h8'
        go_enter Try.func26, Try.ntmps26
        go_wp2_with fail
        go_ret
        exact ⟨rfl, rfl⟩
      · obtain ⟨z, rfl⟩ : ∃ z : Nat, sz = (z : Int) := ⟨sz.toNat, by omega⟩
        have hfi := fits_iff n z (by omega) (by omega)
        obtain ⟨y, ey⟩ : ∃ y, y = 8 * z := ⟨_, rfl⟩
        rw [← ey] at hfi
        have k1 : IntKind.i64.wrap (8 * (z : Int)) = (y : Int) := by rw [IntWalk.i64_in _ (by omega)]; omega
        have k2 : IntKind.u64.wrap (y : Int) = (y : Int) := IntWalk.u64_in _ (by omega)
        have hy0 : (0 : Int) ≤ (y : Int) := by omega
        have hy1 : (y : Int) ≤ 64 := by omega
        have hsh := fits_shift n y
        have he' : ((z : Int) == 8) = false := by simpa using he
        by_cases hf : n < 2 ^ y
        · have hF : decide (Fits n (z : Int)) = true := by rw [decide_eq_true_iff]; exact hfi.2 hf
          have h0 : ((n : Int) / 2 ^ y == 0) = true := by simpa using hsh.2 hf
          rw [hF]
          clear h1 h8 ey hfi hsh hf hF
          go_enter Try.func26, Try.ntmps26
          go_wp2_with fail
          go_ret
          exact ⟨by first | rfl | simp, rfl⟩
        · have hF : decide (Fits n (z : Int)) = false := by rw [decide_eq_false_iff_not]; exact fun e => hf (hfi.1 e)
          have h0 : ((n : Int) / 2 ^ y == 0) = false := by simpa using fun e => hf (hsh.1 e)
          rw [hF]
          clear h1 h8 ey hfi hsh hf hF
          go_enter Try.func26, Try.ntmps26
          go_wp2_with fail
          go_ret
          exact ⟨by first | rfl | simp, rfl⟩
theorem dig_take (n s i : Nat) (h : i < s) : (digN n s).take i ++ [dgt n s i] = (digN n s).take (i + 1) := by
  rw [List.take_add_one, List.getElem?_eq_getElem (by rw [dig_length]; exact h)]
  simp [digN]
set_option maxHeartbeats 600000 in
set_option maxRecDepth 100000 in
theorem rdigits_c (n s : Nat) (h0 : 1 ≤ s) (h8 : s ≤ 8) (w : World) :
    Calls Try.prog 33 #[.int .u64 (n : Int), .int .i64 (s : Int)] w fun e w' => ∃ v, e = .returned v ∧ OwnB w' w.heap.size v (digN n s) ∧ Below w.heap.size w w' := by
  have H8 := Lib.hid h8
  obtain ⟨s1, es1⟩ : ∃ y, y = s - 1 := ⟨_, rfl⟩
  have k1 : IntKind.i64.wrap ((s : Int) - 1) = (s1 : Int) := by rw [IntWalk.i64_in _ (by omega)]; omega
  have Es1 := Lib.hid es1
  clear h8 h0 es1
  go_enter Try.func33, Try.ntmps33
  go_wp2_with fail
  go_loopw [5, 6] (fun v i wr => ∃ j : Nat, j ≤ s ∧ i = .int .i64 j ∧ OwnB wr w.heap.size v ((digN n s).take j) ∧ Below w.heap.size w wr) (fun _ i _ => s - (intOf i).toNat)
  case atStart => exact ⟨0, Nat.zero_le _, rfl, own_nil w _, Below.refl _ _⟩
  case round =>
    obtain ⟨j, hj, rfl, hown, hbel⟩ := hrel
    by_cases hjs : j < s
    · have hj0 : (0 : Int) ≤ (j : Int) := by omega
      have hj1 : (j : Int) < (s : Int) := by omega
      have hjb : (j : Int) < 8 := by have := H8.out; omega
      obtain ⟨t, et⟩ : ∃ y, y = s - 1 - j := ⟨_, rfl⟩
      have hw0 : IntKind.i64.wrap ((s1 : Int) - (j : Int)) = (t : Int) := by rw [IntWalk.i64_in _ (by have := H8.out; have := Es1.out; omega)]; have := Es1.out; omega
      obtain ⟨y, ey⟩ : ∃ y, y = 8 * t := ⟨_, rfl⟩
      have hw1 : IntKind.i64.wrap (8 * (t : Int)) = (y : Int) := by rw [IntWalk.i64_in _ (by have := H8.out; omega)]; omega
      have hw2 : IntKind.u64.wrap (y : Int) = (y : Int) := IntWalk.u64_in _ (by have := H8.out; omega)
      have hy0 : (0 : Int) ≤ (y : Int) := by omega
      have hy1 : (y : Int) ≤ 64 := by have := H8.out; omega
      obtain ⟨x, ex⟩ : ∃ x, x = dgt n s j := ⟨_, rfl⟩
      have hx : (n : Int) / 2 ^ y % 256 = (x : Int) := by rw [ex, ey, et]; unfold dgt; simp
      have ht := dig_take n s j hjs
      rw [← ex] at ht
      have hlt : ((digN n s).take j).length ≤ 8 := by rw [List.length_take]; omega
      have BA := below_alloc (Below.refl wr.heap.size wr) (.cells #[.int .u8 (x : Int)] 5)
      obtain ⟨v2, w2, hr2, hown2, hgr2⟩ := app_own (k := 1) (cap := 1) (hown.below BA) (Bs0.some (bytes_new wr [x] 5 (0, 0))) rfl (fun h => by cases h) (Nat.le_trans hbel.size BA.size) (by simp only [List.length_cons, List.length_nil]; omega)
      have Hb2 := Lib.hid (own_below (hbel.alloc hbel.size (.cells #[.int .u8 (x : Int)] 5)) (hown.below BA) (Nat.le_trans hbel.size BA.size) hgr2)
      have Ho2 := Lib.hid (show OwnB w2 w.heap.size v2 ((digN n s).take (j + 1)) by rw [← ht]; exact hown2)
      clear hown2 hgr2 BA hown hbel ht ex ey et hlt
      go_wp2_with (at_builtin; refine Lib.wpList_append_run _ rfl _ _ _ _ rfl _ _ rfl rfl _ _ hr2 ?_)
      go_wp2_with fail
      go_roundw
      case rel => exact ⟨j + 1, by omega, by go_num, Ho2.out, Hb2.out⟩
      case measure => simp [intOf]; omega
    · obtain rfl : j = s := by omega
      rw [List.take_of_length_le (by rw [dig_length]; exact Nat.le_refl _)] at hown
      have HO := Lib.hid hown
      have HB := Lib.hid hbel
      clear hown hbel
      go_wp2_with fail
      go_ret
      exact ⟨_, rfl, HO.out, HB.out⟩

/-! ### Bytes as they are -/
theorem m0row (w : World) (c z : Array Value) (t : TypeId) : RowAt ((w.alloc (.cells c t)).alloc (.cells z t)) w.heap.size c ∧ RowAt ((w.alloc (.cells c t)).alloc (.cells z t)) (w.heap.size + 1) z :=
  ⟨⟨by go_simp, by go_simp, by go_simp⟩, ⟨by go_simp, by go_simp, by go_simp⟩⟩
/-- What a call of the reference's writer answers. -/
def MRet (w : World) (v : Value) (room : Nat) (s' : Ws) (e : Ending) (w' : World) : Prop :=
  ∃ v', e = .returned (.tuple #[.agg (mrow v' room s'.1), .int .i64 s'.1]) ∧ MV w' v' s'.2 ∧ NewB w v.ownBlock v'.ownBlock ∧ Below w.heap.size w w'
theorem MV.put {w w2 : World} {v : Value} {l : List Nat} {g : Nat} {c : Array Value} {ob : Option Nat} (h : MV w2 v l) (hn : NewB w ob v.ownBlock) (ho : ∀ k, ob = some k → k < g) (hg : g < w.heap.size) : MV (w2.setRow g c) v l :=
  h.moves (Moves.setRow (Moves.refl w2 g none) c) (hn.ne (fun e => by have := ho g e; omega) hg) (fun _ _ e => by cases e)
set_option maxHeartbeats 1000000 in
set_option maxRecDepth 100000 in
theorem rbyt_c (v u : Value) (room : Nat) (s : Ws) (m : List Nat) (w : World) (hv : MV w v s.2) (hu : SlV w u m) (hroom : room ≤ 65536) (hle : s.2.length ≤ room) (hm : m.length ≤ 8000000) :
    Calls Try.prog 13 #[.agg (mrow v room s.1), u] w (MRet w v room (bytS room s m)) := by
  obtain ⟨er, l⟩ := s
  simp only at hv hle
  have HMV := Lib.hid hv
  have HR := Lib.hid (m0row w (mrow v room er) #[.slice none 0 0, .int .i64 0, .int .i64 0] 28)
  have B0 := below_alloc (below_alloc (Below.refl w.heap.size w) (.cells (mrow v room er) 28)) (.cells #[.slice none 0 0, .int .i64 0, .int .i64 0] 28)
  have HB0 := Lib.hid B0
  by_cases her : er = 0
  · subst her
    have hs : bytS room (0, l) m = layS room l m := by unfold bytS; rw [if_neg (by simp)]
    rw [hs]
    have KL := Lib.hid (rlay_c v u room l m _ (hv.grow B0) (hu.grow B0) hroom hle hm)
    obtain ⟨⟨p, c, rfl, _⟩, _⟩ := hv
    obtain ⟨q, cap, rfl, _⟩ := hu
    generalize layS room l m = S at *
    obtain ⟨e1, L⟩ := S
    simp only at KL
    generalize l.length = n at *
    generalize m.length = k at *
    clear hs B0 hroom hle hm
    go_enter Try.func13, Try.ntmps13
    go_wp2_with fail
    refine KL.out.mono ?_
    rintro e w2 ⟨v', rfl, hv2, hn2, hb2⟩
    have HB := Lib.hid (HB0.out.trans (hb2.mono HB0.out.size))
    have HV := Lib.hid (hv2.put (c := mrow v' room e1) (g := w.heap.size + 1) hn2 (fun k hk => by have := HMV.out.2 k hk; omega) (by simp))
    have HN := Lib.hid (show NewB w _ _ from fun k hk => (hn2 k hk).imp id fun h => Nat.le_trans HB0.out.size h)
    obtain ⟨a1, a2, a3⟩ := (HR.out.2).grow hb2
    obtain ⟨⟨p2, c2, rfl, _⟩, _⟩ := hv2
    generalize L.length = k2 at *
    clear hb2 hn2
    go_wp2_with fail
    refine bodyPost_ret (v := .tuple #[.agg (mrow (.slice p2 k2 c2) room e1), .int .i64 e1]) (results_mw Try.results13 _ _ _ _ _ _ (w.heap.size + 1) rfl ?_ ?_ rfl) rfl ?_
    · go_simp
    · go_simp
    · exact ⟨_, rfl, HV.out, HN.out, below_setRow HB.out (by omega) _⟩
  · have hs : bytS room (er, l) m = (er, l) := by unfold bytS; rw [if_pos her]
    rw [hs]
    have her' : (er != 0) = true := by simpa using her
    have HV := Lib.hid (show MRet w v room (er, l) (.returned (.tuple #[.agg (mrow v room er), .int .i64 er])) ((w.alloc (.cells (mrow v room er) 28)).alloc (.cells (mrow v room er) 28)).drew from
      ⟨v, rfl, hv.grow (below_alloc (below_alloc (Below.refl _ _) _) _).drew, NewB.refl _ _, (below_alloc (below_alloc (Below.refl _ _) _) _).drew⟩)
    obtain ⟨⟨p, c, rfl, _⟩, _⟩ := hv
    obtain ⟨q, cap, rfl, _⟩ := hu
    generalize l.length = n at *
    generalize m.length = k at *
    clear hs B0 hroom hle hm HB0
    go_enter Try.func13, Try.ntmps13
    go_wp2_with fail
    go_region
    go_wp2_with fail
    refine bodyPost_ret (v := .tuple #[.agg (mrow (.slice p n c) room er), .int .i64 er]) (results_mw Try.results13 _ _ _ _ _ _ (w.heap.size + 1) rfl ?_ ?_ rfl) rfl ?_
    · go_simp
    · go_simp
    · exact HV.out
end Go.Proofs.Ytbhgmefdimjlaaa
