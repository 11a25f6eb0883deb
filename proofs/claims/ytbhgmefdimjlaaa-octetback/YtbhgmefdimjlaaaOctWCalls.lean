/-
  Package octet: a writer's calls.
-/
import Derived.Test.YtbhgmefdimjlaaaOctWriter
namespace Go.Proofs.Ytbhgmefdimjlaaa
open Go.RowKit Go.Hold Go.Sh Go.Oc

theorem WStep.refl {w : World} {B g room : Nat} {ob : Option Nat} {s : Ws} (h : Wr w B g ob room s) : WStep w B g ob room s w := ⟨ob, h, NewB.refl _ _, Moves.refl _ _ _⟩
theorem WStep.grown {w w1 w' : World} {B g room : Nat} {ob : Option Nat} {s : Ws} (hb : Below w.heap.size w w1) (h : WStep w1 B g ob room s w') : WStep w B g ob room s w' := by
  obtain ⟨ob', h1, h2, h3⟩ := h
  exact ⟨ob', h1, fun k hk => (h2 k hk).imp id fun h => Nat.le_trans hb.size h, (Moves.of g ob hb).trans h3 (NewB.refl _ _)⟩
theorem Wr.stop {w : World} {B g room : Nat} {ob : Option Nat} {s : Ws} (h : Wr w B g ob room s) :
    Calls Try.prog 27 #[.pointer (some ⟨g, 0, none⟩)] w fun e w' => e = .returned (.int .i64 s.1) ∧ w' = w := by
  obtain ⟨v, hr⟩ := h.row
  exact wstopped_c g true s.1 w (hr.cellAt 0 rfl) (hr.cellAt 1 rfl)

set_option maxHeartbeats 600000 in
set_option maxRecDepth 100000 in
theorem wbytes_c (B g : Nat) (ob : Option Nat) (room : Nat) (s : Ws) (m : List Nat) (p : Option Addr) (k cap : Nat) (w : World) (h : Wr w B g ob room s) (hk : k = m.length) (hB : Bs0 w p m) (hp : p = none → cap = 0) :
    Calls Try.prog 12 #[.pointer (some ⟨g, 0, none⟩), .slice p k cap] w fun e w' => e = .returned (.int .i64 (bytS room s m).1) ∧ WStep w B g ob room (bytS room s m) w' := by
  have HS := Lib.hid h.stop
  obtain ⟨er, l⟩ := s
  by_cases her : er = 0
  · subst her
    have hs : bytS room (0, l) m = layS room l m := by unfold bytS; rw [if_neg (by simp)]
    have KL := Lib.hid (lay_c B g ob room l m p k cap w h hk hB hp)
    rw [hs]
    clear hs h hk hB hp
    go_enter Try.func12, Try.ntmps12
    go_wp2_with fail
    refine HS.out.mono ?_
    rintro e w' ⟨rfl, rfl⟩
    go_wp2_with fail
    refine KL.out.mono ?_
    rintro e w2 ⟨rfl, hst⟩
    have HT := Lib.hid hst
    clear hst
    go_wp2_with fail
    go_ret
    exact ⟨rfl, HT.out⟩
  · have hs : bytS room (er, l) m = (er, l) := by unfold bytS; rw [if_pos her]
    have HT := Lib.hid (WStep.refl h)
    rw [hs]
    clear hs h hk hB hp
    go_enter Try.func12, Try.ntmps12
    go_wp2_with fail
    refine HS.out.mono ?_
    rintro e w' ⟨rfl, rfl⟩
    go_wp2_with fail
    go_ret
    exact ⟨rfl, HT.out⟩

theorem fits_shift (n : Nat) (y : Nat) : (n : Int) / 2 ^ y = 0 ↔ n < 2 ^ y := by
  have h : ((n / 2 ^ y : Nat) : Int) = (n : Int) / 2 ^ y := by simp
  rw [← h]
  have h2 := Nat.div_eq_zero_iff (a := n) (b := 2 ^ y)
  have h3 := Nat.two_pow_pos y
  constructor
  · intro h0; have := h2.1 (by omega); omega
  · intro h0; have := h2.2 (.inr h0); omega
set_option maxHeartbeats 1000000 in
set_option maxRecDepth 100000 in
theorem wnum_c (B g : Nat) (ob : Option Nat) (room : Nat) (s : Ws) (n : Nat) (sz : Int) (w : World) (h : Wr w B g ob room s) :
    Calls Try.prog 10 #[.pointer (some ⟨g, 0, none⟩), .int .u64 (n : Int), .int .i64 sz] w fun e w' => e = .returned (.int .i64 (numS room s n sz).1) ∧ WStep w B g ob room (numS room s n sz) w' := by
  have HS := Lib.hid h.stop
  obtain ⟨er, l⟩ := s
  by_cases her : er = 0
  · subst her
    have hs : numS room (0, l) n sz = if ¬ Fits n sz then (2, l) else layS room l (digN n sz.toNat) := by unfold numS; rw [if_neg (by simp)]
    rw [hs]
    have hrow := h.row
    have H := Lib.hid h
    obtain ⟨v, hr⟩ := hrow
    have KF := Lib.hid (fail_c g 2 0 w (hr.cellAt 1 rfl) (hr.frozenAt 1))
    have HE := Lib.hid (WStep.err h (Below.refl _ _) 2)
    by_cases h1 : sz < 1
    · rw [if_pos (by unfold Fits; omega)]
      clear hs h hr
      go_enter Try.func10, Try.ntmps10
      go_wp2_with fail
      refine HS.out.mono ?_
      rintro e w' ⟨rfl, rfl⟩
      go_wp2_with fail
      refine KF.out.mono ?_
      rintro e w' ⟨rfl, rfl⟩
      go_wp2_with fail
      go_ret
      exact ⟨rfl, HE.out⟩
    · by_cases h8 : 8 < sz
      · rw [if_pos (by unfold Fits; omega)]
        clear hs h hr
        go_enter Try.func10, Try.ntmps10
        go_wp2_with fail
        refine HS.out.mono ?_
        rintro e w' ⟨rfl, rfl⟩
        go_wp2_with fail
        refine KF.out.mono ?_
        rintro e w' ⟨rfl, rfl⟩
        go_wp2_with fail
        go_ret
        exact ⟨rfl, HE.out⟩
      · obtain ⟨z, rfl⟩ : ∃ z : Nat, sz = (z : Int) := ⟨sz.toNat, by omega⟩
        rw [Int.toNat_natCast]
        obtain ⟨y, ey⟩ : ∃ y, y = 8 * z := ⟨_, rfl⟩
        have k1 : IntKind.i64.wrap (8 * (z : Int)) = (y : Int) := by rw [IntWalk.i64_in _ (by omega)]; omega
        have hy0 : (0 : Int) ≤ (y : Int) := by omega
        have hy1 : (y : Int) ≤ 64 := by omega
        have hsh := fits_shift n y
        by_cases hfit : n < 2 ^ y
        · rw [if_neg (by unfold Fits; rw [Int.toNat_natCast, ← ey]; omega)]
          have h0 : (n : Int) / 2 ^ y = 0 := hsh.2 hfit
          have KS := Lib.hid (split_c n z (by omega) (by omega) w)
          have HD := Lib.hid (dig_length n z)
          clear hs h hr hsh ey hfit KF HE
          go_enter Try.func10, Try.ntmps10
          go_wp2_with fail
          refine HS.out.mono ?_
          rintro e w' ⟨rfl, rfl⟩
          go_wp2_with fail
          refine KS.out.mono ?_
          rintro e w1 ⟨g1, rfl, hr1, _, hb1⟩
          have KL := Lib.hid (lay_c B g ob room l (digN n z) (some ⟨g1, 0, none⟩) z z w1 (H.out.grow hb1) HD.out.symm (Bs0.some (bytes_row hr1)) (fun h => by cases h))
          have HB := Lib.hid hb1
          clear hr1 hb1
          go_wp2_with fail
          refine KL.out.mono ?_
          rintro e w2 ⟨rfl, hst⟩
          have HT := Lib.hid (hst.grown HB.out)
          clear hst
          go_wp2_with fail
          go_ret
          exact ⟨rfl, HT.out⟩
        · rw [if_pos (by unfold Fits; rw [Int.toNat_natCast, ← ey]; omega)]
          have h0 : ((n : Int) / 2 ^ y != 0) = true := by simpa using fun e => hfit (hsh.1 e)
          clear hs h hr hsh ey hfit
          go_enter Try.func10, Try.ntmps10
          go_wp2_with fail
          refine HS.out.mono ?_
          rintro e w' ⟨rfl, rfl⟩
          go_wp2_with fail
          refine KF.out.mono ?_
          rintro e w' ⟨rfl, rfl⟩
          go_wp2_with fail
          go_ret
          exact ⟨rfl, HE.out⟩
  · have hs : numS room (er, l) n sz = (er, l) := by unfold numS; rw [if_pos her]
    have HT := Lib.hid (WStep.refl h)
    rw [hs]
    clear hs h
    go_enter Try.func10, Try.ntmps10
    go_wp2_with fail
    refine HS.out.mono ?_
    rintro e w' ⟨rfl, rfl⟩
    go_wp2_with fail
    go_ret
    exact ⟨rfl, HT.out⟩
end Go.Proofs.Ytbhgmefdimjlaaa
