/-
  Numbers and bytes that were laid down come back in the same order.
-/
import Derived.Test.YtbhgmefdimjlaaaOctGood
import Derived.Test.YtbhgmefdimjlaaaOctRef2
import Derived.Test.YtbhgmefdimjlaaaStrs
namespace Go.Proofs.Ytbhgmefdimjlaaa
open Go.RowKit Go.Hold Go.Sh Go.Oc

/-- A writer that holds what the calls lay down that are kept beside it. -/
def GInv (w0 : World) (g : Nat) (gl : List Actv) (v : Value) (w : World) : Prop :=
  ∃ ob, Wr w w0.heap.size g ob 65536 (0, enc gl) ∧ OwnA w w0.heap.size v gl ∧ v.ownBlock ≠ some g ∧ (∀ k, v.ownBlock = some k → ob ≠ some k) ∧ Below w0.heap.size w0 w
theorem GInv.grow {w0 w w' : World} {g : Nat} {gl : List Actv} {v : Value} (h : GInv w0 g gl v w) (hb : Below w.heap.size w w') : GInv w0 g gl v w' := by
  obtain ⟨ob, h1, h2, h3, h4, h5⟩ := h
  exact ⟨ob, h1.grow hb, h2.grow hb, h3, h4, h5.trans (hb.mono h5.size)⟩
/-- In the midst of a call. -/
def GMid (w0 : World) (g : Nat) (s : Ws) (gl : List Actv) (v : Value) (w : World) : Prop :=
  ∃ ob, Wr w w0.heap.size g ob 65536 s ∧ OwnA w w0.heap.size v gl ∧ v.ownBlock ≠ some g ∧ (∀ k, v.ownBlock = some k → ob ≠ some k) ∧ Below w0.heap.size w0 w
theorem GMid.step {w0 w w' : World} {g : Nat} {ob : Option Nat} {s s' : Ws} {gl : List Actv} {v : Value} (h1 : Wr w w0.heap.size g ob 65536 s) (h2 : OwnA w w0.heap.size v gl) (h3 : v.ownBlock ≠ some g) (h4 : ∀ k, v.ownBlock = some k → ob ≠ some k) (h5 : Below w0.heap.size w0 w)
    (st : WStep w w0.heap.size g ob 65536 s' w') : ∃ ob', (Wr w' w0.heap.size g ob' 65536 s' ∧ OwnA w' w0.heap.size v gl ∧ v.ownBlock ≠ some g ∧ (∀ k, v.ownBlock = some k → ob' ≠ some k) ∧ Below w0.heap.size w0 w') ∧ NewB w ob ob' := by
  have hb := st.below h1 h5 (Nat.le_trans h1.base (Nat.le_of_lt h1.lt.1))
  obtain ⟨ob', hw, hn, m⟩ := st
  have hl := World.ownsRow.lt h2
  exact ⟨ob', ⟨hw, h2.moves m h3 h4, h3, fun k hk => hn.ne (h4 k hk) (hl k hk).2, hb⟩, hn⟩
theorem GMid.app {w0 w w2 : World} {g : Nat} {s : Ws} {gl gl' : List Actv} {v v' : Value} (h : GMid w0 g s gl v w) (ho : OwnA w2 w0.heap.size v' gl') (hg : w.grownBy w2 v.ownBlock) (hn : NewB w v.ownBlock v'.ownBlock) (hs : s = (0, enc gl')) : GInv w0 g gl' v' w2 := by
  subst hs
  obtain ⟨ob, h1, h2, h3, h4, h5⟩ := h
  have hl := h1.lt
  have m : Moves w w.heap.size v.ownBlock w2 := Moves.grownBy (Moves.refl w _ _) hg
  refine ⟨ob, h1.moves m (by omega) h3 (fun e => by have := (hl.2 _ e).2; omega) (fun k hk e => h4 k e hk), ho, hn.ne h3 hl.1, fun k hk e => ?_, ?_⟩
  · rcases hn k hk with h | h
    · exact h4 k h e
    · have := (hl.2 k e).2; omega
  · exact m.below h5 h5.size h5.size (fun k hk => (World.ownsRow.lt h2 k hk).1)
theorem bts_of_app {a b c : List Nat} (h : ∀ i, (a ++ (b ++ c)).getD i 0 < 256) : ∀ i, (b ++ c).getD i 0 < 256 := getD_lt fun x hx => mem_lt h x (List.mem_append_right _ hx)
theorem cvBS_ownB {w : World} {B : Nat} {v : Value} {l : List Nat} (h : OwnB w B v l) : (cvBS v).run Try.prog w = .ok (.string (toS l)) w := by
  obtain ⟨p, c, rfl, h2, _⟩ := h.bs
  exact run_cvBS h2 rfl
set_option maxHeartbeats 8000000 in
set_option maxRecDepth 100000 in
theorem back_any (cap0 : Nat) (pt0 : Option Addr) (ls : List Actv) (w : World) (hA : ActsAt w pt0 ls) :
    Calls Try.prog 5 #[.slice pt0 ls.length cap0] w fun e w' => e = .returned (.bool true) ∧ Below w.heap.size w w' := by
  have HA := Lib.hid hA
  obtain ⟨N, eN⟩ : ∃ N, N = ls.length := ⟨_, rfl⟩
  rw [← eN]
  have EN := Lib.hid eN
  clear hA eN
  go_enter Try.func5, Try.ntmps5
  go_wp2_with fail
  refine (alive7_c w).mono ?_
  rintro e w1 ⟨rfl, hb1⟩
  have B1 := Lib.hid hb1
  clear hb1
  go_wp2_with fail
  refine (newWriter_c 65536 (Nat.le_refl _) w1).mono ?_
  rintro e w2 ⟨g, rfl, hw2, hb2⟩
  have I0 := Lib.hid (show GInv w1 g [] (.slice none 0 0) w2 from ⟨none, hw2, ownA_nil _ _, (fun e => by cases e), (fun _ e => by cases e), hb2⟩)
  clear hw2 hb2
  go_wp2_with fail
  go_loopw [4, 5] (fun v i wr => ∃ (j : Nat) (gl : List Actv), j ≤ N ∧ j ≤ 60 ∧ i = .int .i64 j ∧ gl.length ≤ j ∧ (∀ a ∈ gl, Keeps1 a ∧ ActOk w a) ∧ GInv w1 g gl v wr) (fun _ i _ => 60 - (intOf i).toNat)
  case atStart => exact ⟨0, [], Nat.zero_le _, Nat.zero_le _, rfl, Nat.le_refl _, (fun a ha => by cases ha), I0.out⟩
  case round =>
    obtain ⟨j, gl, hjN, hj60, rfl, hgl, hall, hI⟩ := hrel
    have HAll := Lib.hid hall
    have HGl := Lib.hid hgl
    clear I0 hall hgl
    by_cases h1 : j < N ∧ j < 60
    · have hj0 : (0 : Int) ≤ (j : Int) := by omega
      have hj1 : (j : Int) < (N : Int) := by omega
      have hj2 : (j : Int) < 60 := by omega
      obtain ⟨a, ha⟩ : ∃ a, ls[j]? = some a := ⟨_, List.getElem?_eq_getElem (by rw [← EN.out]; exact h1.1)⟩
      obtain ⟨ob, i1, i2, i3, i4, hbel⟩ := hI
      have Y := Lib.hid i1.lt
      have HLe := Lib.hid (enc_le fun a ha => (HAll.out a ha).1)
      obtain ⟨hok, ga, o, rfl, hld⟩ := HA.out.load ha (B1.out.trans (hbel.mono B1.out.size))
      have Act0 := Lib.hid (HA.out j a ha).1
      obtain ⟨k, m, z, p, l, c⟩ := a
      simp only [Actv.cells] at hld
      have BA := below_alloc (Below.refl wr.heap.size wr) (.cells (arow k m z (.slice p l.length c)) 31)
      have A4 := Lib.hid (RowAt.of (block_new wr (.cells (arow k m z (.slice p l.length c)) 31)))
      have I4 := Lib.hid (show GInv w1 g gl _ _ from ⟨ob, i1.grow BA, i2.grow BA, i3, i4, hbel.trans (BA.mono hbel.size)⟩)
      have W4 := Lib.hid (i1.grow BA)
      have OK := Lib.hid (hok.grow BA)
      have M4 := Lib.hid (fun (s' : Ws) (w' : World) (st : WStep _ w1.heap.size g ob 65536 s' w') => GMid.step W4.out (i2.grow BA) i3 i4 (hbel.trans (BA.mono hbel.size)) st)
      obtain ⟨q, eq⟩ : ∃ q, q = l.length := ⟨_, rfl⟩
      have Eq := Lib.hid eq
      rw [← eq] at A4 W4 I4 M4 OK hld
      have hx0 := A4.out.cellAt 0 (show (arow k m z (.slice p q c))[0]? = some (.int .u8 (k : Int)) from rfl)
      have hx1 := A4.out.cellAt 1 (show (arow k m z (.slice p q c))[1]? = some (.int .u64 (m : Int)) from rfl)
      have hx2 := A4.out.cellAt 2 (show (arow k m z (.slice p q c))[2]? = some (.int .i64 z) from rfl)
      have hx3 := A4.out.cellAt 3 (show (arow k m z (.slice p q c))[3]? = some (.slice p q c) from rfl)
      clear i1 i2 i3 i4 hbel ha hok BA eq h1
      by_cases hq : (1000 : Int) < (q : Int)
      · go_wp2_with fail
        go_roundw
        case rel => exact ⟨j + 1, gl, by omega, by omega, by go_num, by have := HGl.out; omega, HAll.out, I4.out⟩
        case measure => simp [intOf]; omega
      have HQ := Lib.hid (show l.length ≤ 1000 by have := Eq.out; omega)
      have KF := Lib.hid (fun W => rfits_c m z Act0.out.2.1 W)
      have HLS := Lib.hid (show (enc gl).length + l.length ≤ 65536 - 8 by have := HLe.out; have := HGl.out; have := HQ.out; omega)
      have KB := Lib.hid (wbytes_c _ g ob 65536 (0, enc gl) l p q c _ W4.out Eq.out OK.out.2.2.1 OK.out.2.2.2.2.1)
      rw [bytS_fits (by have := HLS.out; omega)] at KB
      by_cases hk : k % 2 = 0
      · have b0 : ((k : Int) % 2 == 0) = true := by rw [beq_iff_eq]; omega
        by_cases hfit : Fits m z
        · rw [show decide (Fits m z) = true from decide_eq_true hfit] at KF
          have NAll := Lib.hid (show ∀ a ∈ gl ++ [(⟨k, m, z, p, l, c⟩ : Actv)], Keeps1 a ∧ ActOk w a from fun a ha => by
            rcases List.mem_append.1 ha with h | h
            · exact HAll.out a h
            · rw [List.mem_singleton.1 h]; exact ⟨⟨HQ.out, fun _ => hfit⟩, Act0.out⟩)
          have ES := Lib.hid (show ((0, enc gl ++ l ++ digN m z.toNat) : Ws) = (0, enc (gl ++ [⟨k, m, z, p, l, c⟩])) by
            rw [enc_snoc]; unfold enc1; simp only; rw [if_pos hk, List.append_assoc])
          have Hf := Lib.hid hfit
          clear hfit hk
          go_wp2_with fail
          refine (KF.out _).mono ?_
          rintro e w' ⟨rfl, hww⟩
          rw [hww]
          clear hww w'
          go_wp2_with fail
          refine KB.out.mono ?_
          rintro e w5 ⟨rfl, hst⟩
          obtain ⟨ob5, ⟨y1, y2, y3, y4, y5⟩, hn5⟩ := M4.out _ w5 hst
          have A5 := Lib.hid (show RowAt w5 wr.heap.size _ by obtain ⟨_, _, _, mm⟩ := hst; exact RowAt.moves A4.out mm (by have := Y.out.1; omega) (fun e => by have := (Y.out.2 _ e).2; omega))
          have hob5 : ob5 ≠ some wr.heap.size := hn5.ne (fun e => by have := (Y.out.2 _ e).2; omega) (by simp)
          have KN := Lib.hid (wnum_c _ g ob5 65536 (0, enc gl ++ l) m z w5 y1)
          rw [numS_fits Hf.out (by rw [List.length_append]; have := HLS.out; omega)] at KN
          have N5 := Lib.hid (fun (s' : Ws) (w' : World) (st : WStep _ w1.heap.size g ob5 65536 s' w') => GMid.step y1 y2 y3 y4 y5 st)
          clear hst hx0 hx1 hx2 hx3 A4 I4 hld W4 M4 KF KB y1 y2 y3 y4 y5
          have hx0 := A5.out.cellAt 0 (show (arow k m z (.slice p q c))[0]? = some (.int .u8 (k : Int)) from rfl)
          have hx1 := A5.out.cellAt 1 (show (arow k m z (.slice p q c))[1]? = some (.int .u64 (m : Int)) from rfl)
          have hx2 := A5.out.cellAt 2 (show (arow k m z (.slice p q c))[2]? = some (.int .i64 z) from rfl)
          go_wp2_with fail
          refine KN.out.mono ?_
          rintro e w6 ⟨rfl, hst⟩
          obtain ⟨ob6, hm6, _⟩ := N5.out _ w6 hst
          have M5 := Lib.hid (show GMid w1 g _ gl _ w6 from ⟨ob6, hm6⟩)
          have A6 := Lib.hid (show RowAt w6 wr.heap.size _ by obtain ⟨_, _, _, mm⟩ := hst; exact RowAt.moves A5.out mm (by have := Y.out.1; omega) hob5)
          clear hst hx0 hx1 hx2 A5 N5 KN hm6 hn5 hob5
          obtain ⟨S5, eS5⟩ : ∃ S, S = ((0, enc gl ++ l ++ digN m z.toNat) : Ws) := ⟨_, rfl⟩
          rw [← eS5] at M5 ES
          clear eS5
          obtain ⟨q1, q2, q3⟩ := A6.out
          have BN := below_alloc (Below.refl w6.heap.size w6) (.cells (arow k m z (.slice p q c)) 31)
          obtain ⟨obx, x1, x2, x3, x4, x5⟩ := M5.out
          have X5 := Lib.hid (show GMid w1 g S5 gl _ (w6.alloc (.cells (arow k m z (.slice p q c)) 31)) from ⟨obx, x1.grow BN, x2.grow BN, x3, x4, x5.trans (BN.mono x5.size)⟩)
          have hcl : (Actv.mk k m z p l c).cells = arow k m z (.slice p q c) := by rw [Eq.out]; rfl
          obtain ⟨v6, w7, hr6, ho6, hg6, hn6, p6, c6, rfl⟩ := app_act (a := ⟨k, m, z, p, l, c⟩) (x2.grow BN) (by rw [hcl]; exact RowAt.of (block_new w6 _)) (Nat.le_trans x5.size BN.size) (by have := HGl.out; omega)
          have I6 := Lib.hid (X5.out.app ho6 hg6 hn6 ES.out)
          clear x1 x2 x3 x4 x5 BN X5 ho6 hg6 hn6 hcl M5
          go_wp2_with (at_builtin; refine Lib.wpList_append_run _ rfl _ _ _ _ rfl _ _ rfl rfl _ _ hr6 ?_)
          go_wp2_with fail
          go_roundw
          case rel => exact ⟨j + 1, gl ++ [⟨k, m, z, p, l, c⟩], by omega, by omega, by go_num, by have := HGl.out; simp; omega, NAll.out, I6.out⟩
          case measure => simp [intOf]; omega
        · rw [show decide (Fits m z) = false from decide_eq_false hfit] at KF
          go_wp2_with fail
          refine (KF.out _).mono ?_
          rintro e w' ⟨rfl, hww⟩
          rw [hww]
          clear hww w'
          go_wp2_with fail
          go_roundw
          case rel => exact ⟨j + 1, gl, by omega, by omega, by go_num, by have := HGl.out; omega, HAll.out, I4.out⟩
          case measure => simp [intOf]; omega
      · have b0 : ((k : Int) % 2 == 0) = false := by rw [beq_eq_false_iff_ne]; omega
        have NAll := Lib.hid (show ∀ a ∈ gl ++ [(⟨k, m, z, p, l, c⟩ : Actv)], Keeps1 a ∧ ActOk w a from fun a ha => by
          rcases List.mem_append.1 ha with h | h
          · exact HAll.out a h
          · rw [List.mem_singleton.1 h]; exact ⟨⟨HQ.out, fun e => absurd e hk⟩, Act0.out⟩)
        have ES := Lib.hid (show ((0, enc gl ++ l) : Ws) = (0, enc (gl ++ [⟨k, m, z, p, l, c⟩])) by
          rw [enc_snoc]; unfold enc1; simp only; rw [if_neg hk, List.append_nil])
        clear hk KF
        go_wp2_with fail
        refine KB.out.mono ?_
        rintro e w5 ⟨rfl, hst⟩
        obtain ⟨ob5, hm5, _⟩ := M4.out _ w5 hst
        have M5 := Lib.hid (show GMid w1 g _ gl _ w5 from ⟨ob5, hm5⟩)
        clear hm5
        have A5 := Lib.hid (show RowAt w5 wr.heap.size _ by obtain ⟨_, _, _, mm⟩ := hst; exact RowAt.moves A4.out mm (by have := Y.out.1; omega) (fun e => by have := (Y.out.2 _ e).2; omega))
        clear hst hx0 hx1 hx2 hx3 A4 I4 hld W4 M4 KB
        have hx0 := A5.out.cellAt 0 (show (arow k m z (.slice p q c))[0]? = some (.int .u8 (k : Int)) from rfl)
        obtain ⟨S5, eS5⟩ : ∃ S, S = ((0, enc gl ++ l) : Ws) := ⟨_, rfl⟩
        rw [← eS5] at M5 ES
        clear eS5
        obtain ⟨q1, q2, q3⟩ := A5.out
        have BN := below_alloc (Below.refl w5.heap.size w5) (.cells (arow k m z (.slice p q c)) 31)
        obtain ⟨obx, x1, x2, x3, x4, x5⟩ := M5.out
        have X5 := Lib.hid (show GMid w1 g S5 gl _ (w5.alloc (.cells (arow k m z (.slice p q c)) 31)) from ⟨obx, x1.grow BN, x2.grow BN, x3, x4, x5.trans (BN.mono x5.size)⟩)
        have hcl : (Actv.mk k m z p l c).cells = arow k m z (.slice p q c) := by rw [Eq.out]; rfl
        obtain ⟨v6, w6, hr6, ho6, hg6, hn6, p6, c6, rfl⟩ := app_act (a := ⟨k, m, z, p, l, c⟩) (x2.grow BN) (by rw [hcl]; exact RowAt.of (block_new w5 _)) (Nat.le_trans x5.size BN.size) (by have := HGl.out; omega)
        have I6 := Lib.hid (X5.out.app ho6 hg6 hn6 ES.out)
        clear x1 x2 x3 x4 x5 BN X5 ho6 hg6 hn6 hcl M5
        go_wp2_with (at_builtin; refine Lib.wpList_append_run _ rfl _ _ _ _ rfl _ _ rfl rfl _ _ hr6 ?_)
        go_wp2_with fail
        go_roundw
        case rel => exact ⟨j + 1, gl ++ [⟨k, m, z, p, l, c⟩], by omega, by omega, by go_num, by have := HGl.out; simp; omega, NAll.out, I6.out⟩
        case measure => simp [intOf]; omega
    · by_cases hN : j < N
      · have hj1 : (j : Int) < (N : Int) := by omega
        have hj2 : ¬ (j : Int) < 60 := by omega
        obtain ⟨ob, i1, i2, i3, i4, hbel⟩ := hI
        have W4 := Lib.hid i1
        have O4 := Lib.hid i2
        have K4 := Lib.hid hbel
        obtain ⟨pg, cg, rfl, hpg⟩ := i2.form
        have HPg := Lib.hid hpg
        have HLe := Lib.hid (enc_le fun a ha => (HAll.out a ha).1)
        obtain ⟨n, en⟩ : ∃ n, n = gl.length := ⟨_, rfl⟩
        have EN2 := Lib.hid en
        have hn60 : (n : Int) ≤ 60 := by have := HGl.out; omega
        rw [← en] at O4 ⊢
        clear i1 i2 i3 i4 hbel hpg en
        go_wp2_with fail
        refine (wall_c _ g ob 65536 (0, enc gl) wr W4.out).mono ?_
        rintro e w4 ⟨vb, rfl, ho, hb⟩
        rw [show allL (0, enc gl) = enc gl by unfold allL; rw [if_neg (by simp)]] at ho
        have O5 := Lib.hid (O4.out.grow hb)
        have K5 := Lib.hid (K4.out.trans (hb.mono K4.out.size))
        obtain ⟨pb, cb, rfl, hbs, _, hbn⟩ := ho.bs
        have KR := Lib.hid (newReader_c pb (enc gl) (enc gl).length cb w4 rfl (by have := HLe.out; have := HGl.out; omega) hbs hbn)
        have L5 := Lib.hid (show ∀ k, (Value.slice pg n cg).ownBlock = some k → k < w4.heap.size from fun k hk => (World.ownsRow.lt O5.out k hk).2)
        clear hb ho hbs hbn O4 K4 W4
        generalize (enc gl).length = nb at *
        go_wp2_with fail
        refine KR.out.mono ?_
        rintro e w5 ⟨g6, bb, rfl, hr, hg6, _, hb⟩
        have O6 := Lib.hid (O5.out.grow hb)
        have K6 := Lib.hid (K5.out.trans (hb.mono K5.out.size))
        have R6 := Lib.hid (show Rd w5 g6 bb (0, enc (gl.drop 0)) from hr)
        have G6 := Lib.hid (show w1.heap.size ≤ g6 ∧ (Value.slice pg n cg).ownBlock ≠ some g6 from ⟨Nat.le_trans K5.out.size hg6, fun e => by have := L5.out _ e; omega⟩)
        clear hr hg6 hb O5 K5 KR L5
        go_wp2_with fail
        go_loopw [89] (fun i wr => ∃ q : Nat, q ≤ n ∧ i = .int .i64 q ∧ Rd wr g6 bb (0, enc (gl.drop q)) ∧ OwnA wr w1.heap.size (.slice pg n cg) gl ∧ Below w1.heap.size w1 wr) (fun i _ => n - (intOf i).toNat)
        case atStart => exact ⟨0, Nat.zero_le _, rfl, R6.out, O6.out, K6.out⟩
        case round =>
          obtain ⟨q, hqn, rfl, hR, hO, hK⟩ := hrel
          clear R6 O6 K6
          by_cases hq : q < n
          · have hq0 : (0 : Int) ≤ (q : Int) := by omega
            have hq1 : (q : Int) < (n : Int) := by omega
            have hq2 : (q : Int) < 60 := by omega
            obtain ⟨a, ha⟩ : ∃ a, gl[q]? = some a := ⟨_, List.getElem?_eq_getElem (by rw [← EN2.out]; exact hq)⟩
            obtain ⟨gg, rfl⟩ := HPg.out (by rw [← EN2.out]; omega)
            have hld := hO.load ha
            have hed := enc_drop ha
            rw [hed] at hR
            obtain ⟨hkeep, hact⟩ := HAll.out a (List.mem_of_getElem? ha)
            have HAct := Lib.hid hact
            have HKp := Lib.hid hkeep
            obtain ⟨k, m, z, p, l, c⟩ := a
            have hbt : ∀ i, (enc1 ⟨k, m, z, p, l, c⟩ ++ enc (gl.drop (q + 1))).getD i 0 < 256 := by
              rw [← hed]
              exact enc_bts fun a ha => (HAll.out a (List.mem_of_mem_drop ha)).2.2.2.2.1
            have HBt := Lib.hid hbt
            unfold enc1 at hR hbt
            simp only at hR hbt
            simp only [Actv.cells] at hld
            have BA := below_alloc (Below.refl wr.heap.size wr) (.cells (arow k m z (.slice p l.length c)) 31)
            have A7 := Lib.hid (RowAt.of (block_new wr (.cells (arow k m z (.slice p l.length c)) 31)))
            have R7 := Lib.hid (hR.grow BA)
            have O7 := Lib.hid (hO.grow BA)
            have K7 := Lib.hid (hK.trans (BA.mono hK.size))
            have Y := Lib.hid hR.lt.1
            clear BA hR hO hK hed ha hkeep hact HBt
            obtain ⟨T, eT⟩ : ∃ T, T = enc (gl.drop (q + 1)) := ⟨_, rfl⟩
            rw [← eT] at R7 hbt
            have ET := Lib.hid eT
            have HBt := Lib.hid hbt
            obtain ⟨D, eD⟩ : ∃ D, D = (if k % 2 = 0 then digN m z.toNat else []) := ⟨_, rfl⟩
            rw [← eD, List.append_assoc] at R7 HBt
            have ED := Lib.hid eD
            have hfr := rbyt_front l (D ++ T)
            have KB := Lib.hid (rdBytes_c g6 bb (0, l ++ (D ++ T)) (l.length : Int) _ R7.out)
            rw [hfr.1, hfr.2] at KB
            obtain ⟨u, eu⟩ : ∃ u, u = l.length := ⟨_, rfl⟩
            have Eu := Lib.hid eu
            rw [← eu] at A7 R7 O7 K7 KB hld
            have hx3 := A7.out.cellAt 3 (show (arow k m z (.slice p u c))[3]? = some (.slice p u c) from rfl)
            clear eT eD hfr eu hbt hqn hq
            go_wp2_with fail
            refine KB.out.mono ?_
            rintro e w7 ⟨vx, rfl, hox, hst⟩
            have A8 := Lib.hid (RowAt.moves A7.out hst.2 (by have := Y.out; omega) (fun e => by cases e))
            have R8 := Lib.hid hst.1
            have O8 := Lib.hid (O7.out.moves hst.2 G6.out.2 (fun _ _ e => by cases e))
            have K8 := Lib.hid (hst.below K7.out K7.out.size G6.out.1)
            have hcx := cvBS_ownB hox
            have hca : (cvBS (.slice p u c)).run Try.prog w7 = .ok (.string (toS l)) w7 := run_cvBS (HAct.out.2.2.1.grow (B1.out.trans (K8.out.mono B1.out.size))) Eu.out
            obtain ⟨px, cx, rfl, _⟩ := hox.bs
            clear hst hox hx3 A7 R7 O7 K7 KB hld
            have hx0 := A8.out.cellAt 0 (show (arow k m z (.slice p u c))[0]? = some (.int .u8 (k : Int)) from rfl)
            have hx1 := A8.out.cellAt 1 (show (arow k m z (.slice p u c))[1]? = some (.int .u64 (m : Int)) from rfl)
            have hx2 := A8.out.cellAt 2 (show (arow k m z (.slice p u c))[2]? = some (.int .i64 z) from rfl)
            have hx3 := A8.out.cellAt 3 (show (arow k m z (.slice p u c))[3]? = some (.slice p u c) from rfl)
            generalize l.length = ul at *
            by_cases hk : k % 2 = 0
            · have b0 : ((k : Int) % 2 != 0) = false := by rw [bne_eq_false_iff_eq]; omega
              have hfit := HKp.out.2 hk
              have hD : D = digN m z.toNat := by rw [ED.out, if_pos hk]
              have hrf := rnum_front m z T hfit
              rw [← hD] at hrf
              have KN := Lib.hid (rdNum_c g6 bb (0, D ++ T) z w7 R8.out (fun i => by
                have := HBt.out
                exact bts_of_app this i))
              rw [hrf.1, hrf.2] at KN
              clear hfit hD hrf hk
              go_wp2_with fail
              refine KN.out.mono ?_
              rintro e w8 ⟨rfl, hst⟩
              have A9 := Lib.hid (RowAt.moves A8.out hst.2 (by have := Y.out; omega) (fun e => by cases e))
              have R9 := Lib.hid hst.1
              have O9 := Lib.hid (O8.out.moves hst.2 G6.out.2 (fun _ _ e => by cases e))
              have K9 := Lib.hid (hst.below K8.out K8.out.size G6.out.1)
              clear hst hx0 hx1 hx2 hx3 hcx hca A8 R8 O8 K8 KN
              have hx1 := A9.out.cellAt 1 (show (arow k m z (.slice p u c))[1]? = some (.int .u64 (m : Int)) from rfl)
              rw [ET.out] at R9
              go_wp2_with fail
              go_roundw
              case rel => exact ⟨q + 1, by omega, by go_num, R9.out, O9.out, K9.out⟩
              case measure => simp [intOf]; omega
            · have b0 : ((k : Int) % 2 != 0) = true := by rw [bne_iff_ne]; omega
              have hD : D = [] := by rw [ED.out, if_neg hk]
              rw [hD, List.nil_append, ET.out] at R8
              clear hD hk
              go_wp2_with fail
              go_roundw
              case rel => exact ⟨q + 1, by omega, by go_num, R8.out, O8.out, K8.out⟩
              case measure => simp [intOf]; omega
          · obtain rfl : q = n := by omega
            rw [show gl.drop q = [] by rw [EN2.out]; exact List.drop_length] at hR
            have R7 := Lib.hid hR
            have HF := Lib.hid (B1.out.trans (hK.mono B1.out.size))
            clear hR hO hK
            go_wp2_with fail
            refine (rdLeft_c g6 bb (0, enc []) wr R7.out).mono ?_
            rintro e w' ⟨rfl, hww⟩
            rw [hww]
            clear hww w'
            rw [show ((leftS (0, enc []) : Nat) : Int) = 0 from by decide]
            go_wp2_with fail
            refine (rdDone_c g6 bb (0, enc []) wr R7.out).mono ?_
            rintro e w' ⟨rfl, hww⟩
            rw [hww]
            clear hww w'
            rw [show doneS (0, enc []) = true from by decide]
            go_wp2_with fail
            go_ret
            exact ⟨rfl, HF.out⟩
      · have hj1 : ¬ (j : Int) < (N : Int) := by omega
        obtain ⟨ob, i1, i2, i3, i4, hbel⟩ := hI
        have W4 := Lib.hid i1
        have O4 := Lib.hid i2
        have K4 := Lib.hid hbel
        obtain ⟨pg, cg, rfl, hpg⟩ := i2.form
        have HPg := Lib.hid hpg
        have HLe := Lib.hid (enc_le fun a ha => (HAll.out a ha).1)
        obtain ⟨n, en⟩ : ∃ n, n = gl.length := ⟨_, rfl⟩
        have EN2 := Lib.hid en
        have hn60 : (n : Int) ≤ 60 := by have := HGl.out; omega
        rw [← en] at O4 ⊢
        clear i1 i2 i3 i4 hbel hpg en
        go_wp2_with fail
        refine (wall_c _ g ob 65536 (0, enc gl) wr W4.out).mono ?_
        rintro e w4 ⟨vb, rfl, ho, hb⟩
        rw [show allL (0, enc gl) = enc gl by unfold allL; rw [if_neg (by simp)]] at ho
        have O5 := Lib.hid (O4.out.grow hb)
        have K5 := Lib.hid (K4.out.trans (hb.mono K4.out.size))
        obtain ⟨pb, cb, rfl, hbs, _, hbn⟩ := ho.bs
        have KR := Lib.hid (newReader_c pb (enc gl) (enc gl).length cb w4 rfl (by have := HLe.out; have := HGl.out; omega) hbs hbn)
        have L5 := Lib.hid (show ∀ k, (Value.slice pg n cg).ownBlock = some k → k < w4.heap.size from fun k hk => (World.ownsRow.lt O5.out k hk).2)
        clear hb ho hbs hbn O4 K4 W4
        generalize (enc gl).length = nb at *
        go_wp2_with fail
        refine KR.out.mono ?_
        rintro e w5 ⟨g6, bb, rfl, hr, hg6, _, hb⟩
        have O6 := Lib.hid (O5.out.grow hb)
        have K6 := Lib.hid (K5.out.trans (hb.mono K5.out.size))
        have R6 := Lib.hid (show Rd w5 g6 bb (0, enc (gl.drop 0)) from hr)
        have G6 := Lib.hid (show w1.heap.size ≤ g6 ∧ (Value.slice pg n cg).ownBlock ≠ some g6 from ⟨Nat.le_trans K5.out.size hg6, fun e => by have := L5.out _ e; omega⟩)
        clear hr hg6 hb O5 K5 KR L5
        go_wp2_with fail
        go_loopw [89] (fun i wr => ∃ q : Nat, q ≤ n ∧ i = .int .i64 q ∧ Rd wr g6 bb (0, enc (gl.drop q)) ∧ OwnA wr w1.heap.size (.slice pg n cg) gl ∧ Below w1.heap.size w1 wr) (fun i _ => n - (intOf i).toNat)
        case atStart => exact ⟨0, Nat.zero_le _, rfl, R6.out, O6.out, K6.out⟩
        case round =>
          obtain ⟨q, hqn, rfl, hR, hO, hK⟩ := hrel
          clear R6 O6 K6
          by_cases hq : q < n
          · have hq0 : (0 : Int) ≤ (q : Int) := by omega
            have hq1 : (q : Int) < (n : Int) := by omega
            have hq2 : (q : Int) < 60 := by omega
            obtain ⟨a, ha⟩ : ∃ a, gl[q]? = some a := ⟨_, List.getElem?_eq_getElem (by rw [← EN2.out]; exact hq)⟩
            obtain ⟨gg, rfl⟩ := HPg.out (by rw [← EN2.out]; omega)
            have hld := hO.load ha
            have hed := enc_drop ha
            rw [hed] at hR
            obtain ⟨hkeep, hact⟩ := HAll.out a (List.mem_of_getElem? ha)
            have HAct := Lib.hid hact
            have HKp := Lib.hid hkeep
            obtain ⟨k, m, z, p, l, c⟩ := a
            have hbt : ∀ i, (enc1 ⟨k, m, z, p, l, c⟩ ++ enc (gl.drop (q + 1))).getD i 0 < 256 := by
              rw [← hed]
              exact enc_bts fun a ha => (HAll.out a (List.mem_of_mem_drop ha)).2.2.2.2.1
            have HBt := Lib.hid hbt
            unfold enc1 at hR hbt
            simp only at hR hbt
            simp only [Actv.cells] at hld
            have BA := below_alloc (Below.refl wr.heap.size wr) (.cells (arow k m z (.slice p l.length c)) 31)
            have A7 := Lib.hid (RowAt.of (block_new wr (.cells (arow k m z (.slice p l.length c)) 31)))
            have R7 := Lib.hid (hR.grow BA)
            have O7 := Lib.hid (hO.grow BA)
            have K7 := Lib.hid (hK.trans (BA.mono hK.size))
            have Y := Lib.hid hR.lt.1
            clear BA hR hO hK hed ha hkeep hact HBt
            obtain ⟨T, eT⟩ : ∃ T, T = enc (gl.drop (q + 1)) := ⟨_, rfl⟩
            rw [← eT] at R7 hbt
            have ET := Lib.hid eT
            have HBt := Lib.hid hbt
            obtain ⟨D, eD⟩ : ∃ D, D = (if k % 2 = 0 then digN m z.toNat else []) := ⟨_, rfl⟩
            rw [← eD, List.append_assoc] at R7 HBt
            have ED := Lib.hid eD
            have hfr := rbyt_front l (D ++ T)
            have KB := Lib.hid (rdBytes_c g6 bb (0, l ++ (D ++ T)) (l.length : Int) _ R7.out)
            rw [hfr.1, hfr.2] at KB
            obtain ⟨u, eu⟩ : ∃ u, u = l.length := ⟨_, rfl⟩
            have Eu := Lib.hid eu
            rw [← eu] at A7 R7 O7 K7 KB hld
            have hx3 := A7.out.cellAt 3 (show (arow k m z (.slice p u c))[3]? = some (.slice p u c) from rfl)
            clear eT eD hfr eu hbt hqn hq
            go_wp2_with fail
            refine KB.out.mono ?_
            rintro e w7 ⟨vx, rfl, hox, hst⟩
            have A8 := Lib.hid (RowAt.moves A7.out hst.2 (by have := Y.out; omega) (fun e => by cases e))
            have R8 := Lib.hid hst.1
            have O8 := Lib.hid (O7.out.moves hst.2 G6.out.2 (fun _ _ e => by cases e))
            have K8 := Lib.hid (hst.below K7.out K7.out.size G6.out.1)
            have hcx := cvBS_ownB hox
            have hca : (cvBS (.slice p u c)).run Try.prog w7 = .ok (.string (toS l)) w7 := run_cvBS (HAct.out.2.2.1.grow (B1.out.trans (K8.out.mono B1.out.size))) Eu.out
            obtain ⟨px, cx, rfl, _⟩ := hox.bs
            clear hst hox hx3 A7 R7 O7 K7 KB hld
            have hx0 := A8.out.cellAt 0 (show (arow k m z (.slice p u c))[0]? = some (.int .u8 (k : Int)) from rfl)
            have hx1 := A8.out.cellAt 1 (show (arow k m z (.slice p u c))[1]? = some (.int .u64 (m : Int)) from rfl)
            have hx2 := A8.out.cellAt 2 (show (arow k m z (.slice p u c))[2]? = some (.int .i64 z) from rfl)
            have hx3 := A8.out.cellAt 3 (show (arow k m z (.slice p u c))[3]? = some (.slice p u c) from rfl)
            generalize l.length = ul at *
            by_cases hk : k % 2 = 0
            · have b0 : ((k : Int) % 2 != 0) = false := by rw [bne_eq_false_iff_eq]; omega
              have hfit := HKp.out.2 hk
              have hD : D = digN m z.toNat := by rw [ED.out, if_pos hk]
              have hrf := rnum_front m z T hfit
              rw [← hD] at hrf
              have KN := Lib.hid (rdNum_c g6 bb (0, D ++ T) z w7 R8.out (fun i => by
                have := HBt.out
                exact bts_of_app this i))
              rw [hrf.1, hrf.2] at KN
              clear hfit hD hrf hk
              go_wp2_with fail
              refine KN.out.mono ?_
              rintro e w8 ⟨rfl, hst⟩
              have A9 := Lib.hid (RowAt.moves A8.out hst.2 (by have := Y.out; omega) (fun e => by cases e))
              have R9 := Lib.hid hst.1
              have O9 := Lib.hid (O8.out.moves hst.2 G6.out.2 (fun _ _ e => by cases e))
              have K9 := Lib.hid (hst.below K8.out K8.out.size G6.out.1)
              clear hst hx0 hx1 hx2 hx3 hcx hca A8 R8 O8 K8 KN
              have hx1 := A9.out.cellAt 1 (show (arow k m z (.slice p u c))[1]? = some (.int .u64 (m : Int)) from rfl)
              rw [ET.out] at R9
              go_wp2_with fail
              go_roundw
              case rel => exact ⟨q + 1, by omega, by go_num, R9.out, O9.out, K9.out⟩
              case measure => simp [intOf]; omega
            · have b0 : ((k : Int) % 2 != 0) = true := by rw [bne_iff_ne]; omega
              have hD : D = [] := by rw [ED.out, if_neg hk]
              rw [hD, List.nil_append, ET.out] at R8
              clear hD hk
              go_wp2_with fail
              go_roundw
              case rel => exact ⟨q + 1, by omega, by go_num, R8.out, O8.out, K8.out⟩
              case measure => simp [intOf]; omega
          · obtain rfl : q = n := by omega
            rw [show gl.drop q = [] by rw [EN2.out]; exact List.drop_length] at hR
            have R7 := Lib.hid hR
            have HF := Lib.hid (B1.out.trans (hK.mono B1.out.size))
            clear hR hO hK
            go_wp2_with fail
            refine (rdLeft_c g6 bb (0, enc []) wr R7.out).mono ?_
            rintro e w' ⟨rfl, hww⟩
            rw [hww]
            clear hww w'
            rw [show ((leftS (0, enc []) : Nat) : Int) = 0 from by decide]
            go_wp2_with fail
            refine (rdDone_c g6 bb (0, enc []) wr R7.out).mono ?_
            rintro e w' ⟨rfl, hww⟩
            rw [hww]
            clear hww w'
            rw [show doneS (0, enc []) = true from by decide]
            go_wp2_with fail
            go_ret
            exact ⟨rfl, HF.out⟩
end Go.Proofs.Ytbhgmefdimjlaaa
