/-
  Package octet: a writer that is filled; all of its bytes; one that stopped, or that no call made.
-/
import Derived.Test.YtbhgmefdimjlaaaOctWCalls
namespace Go.Proofs.Ytbhgmefdimjlaaa
open Go.RowKit Go.Hold Go.Sh Go.Oc

/-- What 'stopped' answers of a writer, or of none. -/
def WStop (w : World) (v : Value) (er : Int) : Prop := Calls Try.prog 27 #[v] w fun e w' => e = .returned (.int .i64 er) ∧ w' = w
theorem wnum_stop (po : Option Addr) (er : Int) (her : ¬ er = 0) (a b : Value) (w : World) (h : WStop w (.pointer po) er) : Calls Try.prog 10 #[.pointer po, a, b] w fun e w' => e = .returned (.int .i64 er) ∧ w' = w := by
  have HS := Lib.hid h
  unfold WStop at HS
  clear h
  go_enter Try.func10, Try.ntmps10
  go_wp2_with fail
  refine HS.out.mono ?_
  rintro e w' ⟨rfl, rfl⟩
  go_wp2_with fail
  go_ret
  exact ⟨rfl, rfl⟩
theorem wbytes_stop (po : Option Addr) (er : Int) (her : ¬ er = 0) (a : Value) (w : World) (h : WStop w (.pointer po) er) : Calls Try.prog 12 #[.pointer po, a] w fun e w' => e = .returned (.int .i64 er) ∧ w' = w := by
  have HS := Lib.hid h
  unfold WStop at HS
  clear h
  go_enter Try.func12, Try.ntmps12
  go_wp2_with fail
  refine HS.out.mono ?_
  rintro e w' ⟨rfl, rfl⟩
  go_wp2_with fail
  go_ret
  exact ⟨rfl, rfl⟩
theorem wfill_stop (po : Option Addr) (er : Int) (her : ¬ er = 0) (a : Value) (w : World) (h : WStop w (.pointer po) er) : Calls Try.prog 14 #[.pointer po, a] w fun e w' => e = .returned (.int .i64 er) ∧ w' = w := by
  have HS := Lib.hid h
  unfold WStop at HS
  clear h
  go_enter Try.func14, Try.ntmps14
  go_wp2_with fail
  refine HS.out.mono ?_
  rintro e w' ⟨rfl, rfl⟩
  go_wp2_with fail
  go_ret
  exact ⟨rfl, rfl⟩
theorem wall_stop (po : Option Addr) (er : Int) (her : ¬ er = 0) (w : World) (h : WStop w (.pointer po) er) : Calls Try.prog 16 #[.pointer po] w fun e w' => e = .returned (.tuple #[.slice none 0 0, .int .i64 er]) ∧ w' = w := by
  have HS := Lib.hid h
  unfold WStop at HS
  clear h
  go_enter Try.func16, Try.ntmps16
  go_wp2_with fail
  refine HS.out.mono ?_
  rintro e w' ⟨rfl, rfl⟩
  go_wp2_with fail
  refine bodyPost_ret (v := .tuple #[.slice none 0 0, .int .i64 er]) (results_tmp2 Try.results16 _ _ _) rfl ⟨rfl, rfl⟩

set_option maxHeartbeats 1000000 in
set_option maxRecDepth 100000 in
theorem wfill_c (B g : Nat) (ob : Option Nat) (room : Nat) (s : Ws) (to : Int) (w : World) (h : Wr w B g ob room s) :
    Calls Try.prog 14 #[.pointer (some ⟨g, 0, none⟩), .int .i64 to] w fun e w' => e = .returned (.int .i64 (filS room s to).1) ∧ WStep w B g ob room (filS room s to) w' := by
  have HS := Lib.hid h.stop
  obtain ⟨er, l⟩ := s
  by_cases her : er = 0
  · subst her
    have hs : filS room (0, l) to = if to < (l.length : Int) then (2, l) else if (room : Int) < to then (8, l) else layS room l (zs (to.toNat - l.length)) := by unfold filS; rw [if_neg (by simp)]
    rw [hs]
    have H := Lib.hid h
    have HE := Lib.hid (fun er => WStep.err h (Below.refl _ _) er)
    have hle := h.le
    obtain ⟨v, hr, ho, _⟩ := h
    have KF := Lib.hid (fun er => fail_c g er 0 w (hr.cellAt 1 rfl) (hr.frozenAt 1))
    obtain ⟨p0, c0, rfl, _⟩ := ho.bs
    simp only at hr ho hle
    have hc2 := hr.cellAt 2 (show (wrow true 0 room (.slice p0 l.length c0))[2]? = some (.int .i64 (room : Int)) from rfl)
    have hc3 := hr.cellAt 3 (show (wrow true 0 room (.slice p0 l.length c0))[3]? = some (.slice p0 l.length c0) from rfl)
    have hgl := hr.2.2
    have HLe := Lib.hid hle
    obtain ⟨n, en⟩ : ∃ n, n = l.length := ⟨_, rfl⟩
    rw [← en] at hc3 ⊢
    have En := Lib.hid en
    by_cases h1 : to < (n : Int)
    · rw [if_pos h1]
      have KF2 := Lib.hid (KF.out 2)
      have HE2 := Lib.hid (HE.out 2)
      clear hs hr ho en hle KF HE
      go_enter Try.func14, Try.ntmps14
      go_wp2_with fail
      refine HS.out.mono ?_
      rintro e w' ⟨rfl, rfl⟩
      go_wp2_with fail
      refine KF2.out.mono ?_
      rintro e w' ⟨rfl, rfl⟩
      go_wp2_with fail
      go_ret
      exact ⟨rfl, HE2.out⟩
    · rw [if_neg h1]
      by_cases h8 : (room : Int) < to
      · rw [if_pos h8]
        have KF2 := Lib.hid (KF.out 8)
        have HE2 := Lib.hid (HE.out 8)
        clear hs hr ho en hle KF HE
        go_enter Try.func14, Try.ntmps14
        go_wp2_with fail
        refine HS.out.mono ?_
        rintro e w' ⟨rfl, rfl⟩
        go_wp2_with fail
        refine KF2.out.mono ?_
        rintro e w' ⟨rfl, rfl⟩
        go_wp2_with fail
        go_ret
        exact ⟨rfl, HE2.out⟩
      · rw [if_neg h8]
        obtain ⟨t, rfl⟩ : ∃ t : Nat, to = (t : Int) := ⟨to.toNat, by omega⟩
        rw [Int.toNat_natCast]
        obtain ⟨d, ed⟩ : ∃ d, d = t - n := ⟨_, rfl⟩
        have k1 : IntKind.i64.wrap ((t : Int) - (n : Int)) = (d : Int) := by rw [IntWalk.i64_in _ (by omega)]; omega
        have hmk := run_mkS w d (by omega)
        have hbA := below_alloc (Below.refl w.heap.size w) (.cells (bysA (zs d)) 5)
        have KL := Lib.hid (lay_c B g ob room l (zs d) (some ⟨w.heap.size, 0, none⟩) d d _ (H.out.grow hbA) (zs_length d).symm (Bs0.some (bytes_new w _ _ _)) (fun h => by cases h))
        have HBA := Lib.hid hbA
        have hgl2 : g < w.heap.size + 1 := by omega
        rw [← ed]
        clear hs hr ho en hle KF HE hbA ed
        go_enter Try.func14, Try.ntmps14
        go_wp2_with fail
        refine HS.out.mono ?_
        rintro e w' ⟨rfl, rfl⟩
        go_wp2_with fail
        refine KL.out.mono ?_
        rintro e w2 ⟨rfl, hst⟩
        have HT := Lib.hid (hst.grown HBA.out)
        clear hst
        go_wp2_with fail
        go_ret
        exact ⟨rfl, HT.out⟩
  · have hs : filS room (er, l) to = (er, l) := by unfold filS; rw [if_pos her]
    have HT := Lib.hid (WStep.refl h)
    rw [hs]
    refine (wfill_stop _ er her _ w HS.out).mono ?_
    rintro e w' ⟨rfl, rfl⟩
    exact ⟨rfl, HT.out⟩

set_option maxHeartbeats 1000000 in
set_option maxRecDepth 100000 in
theorem wall_c (B g : Nat) (ob : Option Nat) (room : Nat) (s : Ws) (w : World) (h : Wr w B g ob room s) :
    Calls Try.prog 16 #[.pointer (some ⟨g, 0, none⟩)] w fun e w' => ∃ v, e = .returned (.tuple #[v, .int .i64 s.1]) ∧ OwnB w' w.heap.size v (allL s) ∧ Below w.heap.size w w' := by
  have HS := Lib.hid h.stop
  obtain ⟨er, l⟩ := s
  by_cases her : er = 0
  · subst her
    have hs : allL (0, l) = l := by unfold allL; rw [if_neg (by simp)]
    rw [hs]
    have hle := h.le
    obtain ⟨v, hr, ho, rfl, _⟩ := h
    obtain ⟨p0, c0, rfl, hb0, _, hp0⟩ := ho.bs
    simp only at hr ho hle
    have hc3 := hr.cellAt 3 (show (wrow true 0 room (.slice p0 l.length c0))[3]? = some (.slice p0 l.length c0) from rfl)
    have hgl := hr.2.2
    have KC := Lib.hid (clone_c p0 l l.length c0 w rfl hb0 hp0 (by omega))
    generalize l.length = n at *
    clear hs hr ho hle hb0 hp0
    go_enter Try.func16, Try.ntmps16
    go_wp2_with fail
    refine HS.out.mono ?_
    rintro e w' ⟨rfl, rfl⟩
    go_wp2_with fail
    refine KC.out.mono ?_
    rintro e w2 ⟨v2, rfl, ho2, hb2⟩
    have HO := Lib.hid ho2
    have HB := Lib.hid hb2
    clear ho2 hb2
    go_wp2_with fail
    refine bodyPost_ret (v := .tuple #[v2, .int .i64 0]) (results_tmp2 Try.results16 _ _ _) rfl ⟨_, rfl, HO.out, HB.out⟩
  · have hs : allL (er, l) = [] := by unfold allL; rw [if_pos her]
    rw [hs]
    refine (wall_stop _ er her w HS.out).mono ?_
    rintro e w' ⟨rfl, rfl⟩
    exact ⟨_, rfl, own_nil _ _, Below.refl _ _⟩
end Go.Proofs.Ytbhgmefdimjlaaa
