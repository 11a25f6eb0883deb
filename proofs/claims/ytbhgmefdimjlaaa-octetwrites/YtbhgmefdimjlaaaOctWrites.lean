/-
  What any calls in a row lay down is the reference's.
-/
import Derived.Test.YtbhgmefdimjlaaaActs
import Derived.Test.YtbhgmefdimjlaaaOctRFill
import Derived.Test.YtbhgmefdimjlaaaStrs
namespace Go.Proofs.Ytbhgmefdimjlaaa
open Go.RowKit Go.Hold Go.Sh Go.Oc

/-- The code's writer and the reference's, which stand alike. -/
def WInvV (w0 : World) (g gm room : Nat) (s : Ws) (v : Value) (w : World) : Prop :=
  ∃ ob, Wr w w0.heap.size g ob room s ∧ RowAt w gm (mrow v room s.1) ∧ MV w v s.2 ∧ ob ≠ some gm ∧ v.ownBlock ≠ some g ∧ v.ownBlock ≠ some gm ∧ (∀ k, v.ownBlock = some k → ob ≠ some k) ∧ Below w0.heap.size w0 w ∧ ∀ i, s.2.getD i 0 < 256
def WInv (w0 : World) (g gm room : Nat) (s : Ws) (w : World) : Prop := ∃ v, WInvV w0 g gm room s v w
theorem WInvV.grow {w0 w w' : World} {g gm room : Nat} {s : Ws} {v : Value} (h : WInvV w0 g gm room s v w) (hb : Below w.heap.size w w') : WInvV w0 g gm room s v w' := by
  obtain ⟨ob, h1, h2, h3, h4, h5, h6, h7, h8, h9⟩ := h
  exact ⟨ob, h1.grow hb, h2.grow hb, h3.grow hb, h4, h5, h6, h7, h8.trans (hb.mono h8.size), h9⟩
/-- Between the code's call and the reference's. -/
def WMid (w0 : World) (g gm room : Nat) (s s' : Ws) (v : Value) (w : World) : Prop :=
  ∃ ob, Wr w w0.heap.size g ob room s' ∧ RowAt w gm (mrow v room s.1) ∧ MV w v s.2 ∧ ob ≠ some gm ∧ v.ownBlock ≠ some g ∧ v.ownBlock ≠ some gm ∧ (∀ k, v.ownBlock = some k → ob ≠ some k) ∧ Below w0.heap.size w0 w
theorem WInv.step {w0 w w' : World} {g gm room : Nat} {ob : Option Nat} {s s' : Ws} {v : Value} (hg : g ≠ gm) (h1 : Wr w w0.heap.size g ob room s) (h2 : RowAt w gm (mrow v room s.1)) (h3 : MV w v s.2) (h4 : ob ≠ some gm) (h5 : v.ownBlock ≠ some g) (h6 : v.ownBlock ≠ some gm) (h7 : ∀ k, v.ownBlock = some k → ob ≠ some k) (h8 : Below w0.heap.size w0 w)
    (st : WStep w w0.heap.size g ob room s' w') : WMid w0 g gm room s s' v w' := by
  have hb := st.below h1 h8 (Nat.le_trans h1.base (Nat.le_of_lt h1.lt.1))
  obtain ⟨ob', hw, hn, m⟩ := st
  exact ⟨ob', hw, RowAt.moves h2 m (fun e => hg e.symm) h4, h3.moves m h5 h7, hn.ne h4 h2.2.2, h5, h6, fun k hk => hn.ne (h7 k hk) (h3.2 k hk), hb⟩
theorem WMid.put {w0 w5 w6 : World} {g gm room : Nat} {s s' : Ws} {v v' : Value} (hg : g ≠ gm) (hB : w0.heap.size ≤ gm) (h : WMid w0 g gm room s s' v w5) (hm : MV w6 v' s'.2) (hn : NewB w5 v.ownBlock v'.ownBlock) (hb : Below w5.heap.size w5 w6) (hbt : ∀ i, s'.2.getD i 0 < 256) (c : Array Value) (hc : c = mrow v' room s'.1) :
    WInvV w0 g gm room s' v' (w6.setRow gm c) := by
  subst hc
  obtain ⟨ob, h1, h2, h3, h4, h5, h6, h7, h8⟩ := h
  have m7 := Moves.setRow (Moves.refl w6 gm none) (mrow v' room s'.1)
  have hl := h1.lt
  refine ⟨ob, (h1.grow hb).moves m7 hg (fun e => by cases e) h4 (fun _ _ e => by cases e), (h2.grow hb).set _, hm.moves m7 (hn.ne h6 h2.2.2) (fun _ _ e => by cases e), h4, hn.ne h5 hl.1, hn.ne h6 h2.2.2, fun k hk e => ?_, m7.below (h8.trans (hb.mono h8.size)) (Nat.le_trans h8.size hb.size) hB (fun _ e => by cases e), hbt⟩
  rcases hn k hk with h | h
  · exact h7 k h e
  · have := (hl.2 k e).2; omega
theorem cvBS_own {w : World} {B : Nat} {v : Value} {l : List Nat} (h : OwnB w B v l) : (cvBS v).run Try.prog w = .ok (.string (toS l)) w := by
  obtain ⟨p, c, rfl, h2, _⟩ := h.bs
  exact run_cvBS h2 rfl
theorem cvBS_mv {w : World} {v : Value} {l : List Nat} (h : MV w v l) : (cvBS v).run Try.prog w = .ok (.string (toS l)) w := by
  obtain ⟨⟨p, c, rfl, h2, _⟩, _⟩ := h
  exact run_cvBS h2 rfl
theorem cvBS_nil (w : World) : (cvBS (.slice none 0 0)).run Try.prog w = .ok (.string (toS [])) w := run_cvBS (.inl rfl) rfl
set_option maxHeartbeats 8000000 in
set_option maxRecDepth 100000 in
theorem writes_any (z0 : Int) (cap1 : Nat) (pt1 : Option Addr) (ls : List Actv) (w : World) (hA : ActsAt w pt1 ls) :
    Calls Try.prog 3 #[.int .i64 z0, .slice pt1 ls.length cap1] w fun e w' => e = .returned (.bool true) ∧ Below w.heap.size w w' := by
  have HA := Lib.hid hA
  obtain ⟨N, eN⟩ : ∃ N, N = ls.length := ⟨_, rfl⟩
  rw [← eN]
  have EN := Lib.hid eN
  clear hA eN
  go_enter Try.func3, Try.ntmps3
  go_wp2_with fail
  refine (alive7_c w).mono ?_
  rintro e w1 ⟨rfl, hb1⟩
  have B1 := Lib.hid hb1
  clear hb1
  by_cases hbad : z0 < 0 ∨ 65536 < z0
  · go_wp2_with fail
    refine (newWriter_bad z0 hbad w1).mono ?_
    rintro e w' ⟨rfl, hww⟩
    rw [hww]
    clear hww w'
    have HF := Lib.hid (B1.out.trans ((below_alloc (Below.refl w1.heap.size w1) (.cells (mrow (.slice none 0 0) z0 0) 28)).mono B1.out.size))
    rcases hbad with hbad | hbad
    · have hb1 : ¬ 0 ≤ z0 := by omega
      go_wp2_with fail
      go_loopw [7] (fun i wr => i = .int .i64 0 ∧ wr = w1.alloc (.cells (mrow (.slice none 0 0) z0 0) 28)) (fun i _ => 0)
      case atStart => exact ⟨rfl, rfl⟩
      case round =>
        obtain ⟨rfl, hwr⟩ := hrel
        rw [hwr]
        clear hwr wr
        go_wp2_with fail
        go_ret
        exact ⟨rfl, HF.out⟩
    · have hb1 : 0 ≤ z0 := by omega
      have hb2 : ¬ z0 ≤ 65536 := by omega
      go_wp2_with fail
      go_loopw [7] (fun i wr => i = .int .i64 0 ∧ wr = w1.alloc (.cells (mrow (.slice none 0 0) z0 0) 28)) (fun i _ => 0)
      case atStart => exact ⟨rfl, rfl⟩
      case round =>
        obtain ⟨rfl, hwr⟩ := hrel
        rw [hwr]
        clear hwr wr
        go_wp2_with fail
        go_ret
        exact ⟨rfl, HF.out⟩
  obtain ⟨room, rfl⟩ : ∃ room : Nat, z0 = (room : Int) := ⟨z0.toNat, by omega⟩
  have hroom : room ≤ 65536 := by omega
  have HRm := Lib.hid hroom
  have hr1 : (0 : Int) ≤ (room : Int) := by omega
  have hr2 : (room : Int) ≤ 65536 := by omega
  clear hbad
  go_wp2_with fail
  refine (newWriter_c room hroom w1).mono ?_
  rintro e w2 ⟨g, rfl, hw2, hb2⟩
  have BA := below_alloc (Below.refl w2.heap.size w2) (.cells (mrow (.slice none 0 0) room 0) 28)
  have I0 := Lib.hid (show WInv w1 g w2.heap.size room (0, []) (w2.alloc (.cells (mrow (.slice none 0 0) room 0) 28)) from
    ⟨_, none, hw2.grow BA, RowAt.of (block_new w2 _), MV.nil _, (fun e => by cases e), (fun e => by cases e), (fun e => by cases e), (fun _ e => by cases e), hb2.trans (BA.mono hb2.size), fun i => by simp⟩)
  have GM := Lib.hid (show w1.heap.size ≤ w2.heap.size ∧ g ≠ w2.heap.size from ⟨hb2.size, by have := hw2.lt.1; omega⟩)
  clear BA hw2 hb2 hroom
  go_wp2_with fail
  change Code.wp _ _ _ _ (w2.alloc (.cells (mrow (.slice none 0 0) room 0) 28))
  generalize w2.alloc (.cells (mrow (.slice none 0 0) room 0) 28) = w3 at *
  generalize w2.heap.size = gm at *
  go_loopw [7] (fun i wr => ∃ (j : Nat) (s : Ws), j ≤ N ∧ j ≤ 60 ∧ i = .int .i64 j ∧ WInv w1 g gm room s wr) (fun i _ => 60 - (intOf i).toNat)
  case atStart => exact ⟨0, _, Nat.zero_le _, Nat.zero_le _, rfl, I0.out⟩
  case round =>
    obtain ⟨j, s, hjN, hj60, rfl, hI⟩ := hrel
    clear I0
    by_cases h1 : j < N
    · by_cases h2 : j < 60
      · have hj0 : (0 : Int) ≤ (j : Int) := by omega
        have hj1 : (j : Int) < (N : Int) := by omega
        have hj2 : (j : Int) < 60 := by omega
        obtain ⟨a, ha⟩ : ∃ a, ls[j]? = some a := ⟨_, List.getElem?_eq_getElem (by rw [← EN.out]; exact h1)⟩
        obtain ⟨v, ob, i1, i2, i3, i4, i5, i6, i7, hbel, i9⟩ := hI
        have Y := Lib.hid (And.intro i1.lt i2.2.2)
        obtain ⟨hok, ga, o, rfl, hld⟩ := HA.out.load ha (B1.out.trans (hbel.mono B1.out.size))
        obtain ⟨k, m, z, p, l, c⟩ := a
        simp only [Actv.cells] at hld
        have BA := below_alloc (Below.refl wr.heap.size wr) (.cells (arow k m z (.slice p l.length c)) 31)
        have A4 := Lib.hid (RowAt.of (block_new wr (.cells (arow k m z (.slice p l.length c)) 31)))
        have W4 := Lib.hid (i1.grow BA)
        have V4 := Lib.hid (i3.grow BA)
        have I4 := Lib.hid (show WInv w1 g gm room s _ from ⟨v, ob, W4.out, i2.grow BA, V4.out, i4, i5, i6, i7, hbel.trans (BA.mono hbel.size), i9⟩)
        have M4 := Lib.hid (fun (s' : Ws) (w' : World) (st : WStep _ w1.heap.size g ob room s' w') => WInv.step GM.out.2 W4.out (i2.grow BA) V4.out i4 i5 i6 i7 (hbel.trans (BA.mono hbel.size)) st)
        have I9 := Lib.hid i9
        have K4 := Lib.hid (hbel.trans (BA.mono hbel.size))
        have HAct := Lib.hid (fun (w' : World) (hb : Below w1.heap.size w1 w') => (HA.out.load ha (B1.out.trans (hb.mono B1.out.size))).1)
        have OK := Lib.hid (hok.grow BA)
        obtain ⟨q, eq⟩ : ∃ q, q = l.length := ⟨_, rfl⟩
        have Eq := Lib.hid eq
        rw [← eq] at A4 W4 V4 I4 M4 K4 OK hld
        have hx0 := A4.out.cellAt 0 (show (arow k m z (.slice p q c))[0]? = some (.int .u8 (k : Int)) from rfl)
        have hx1 := A4.out.cellAt 1 (show (arow k m z (.slice p q c))[1]? = some (.int .u64 (m : Int)) from rfl)
        have hx2 := A4.out.cellAt 2 (show (arow k m z (.slice p q c))[2]? = some (.int .i64 z) from rfl)
        have hx3 := A4.out.cellAt 3 (show (arow k m z (.slice p q c))[3]? = some (.slice p q c) from rfl)
        clear i1 i2 i3 i4 i5 i6 i7 hbel i9 ha hok BA hjN hj60 h1 h2 eq
        by_cases hq : (1000 : Int) < (q : Int)
        · go_wp2_with fail
          go_roundw
          case rel => exact ⟨j + 1, s, by omega, by omega, by go_num, I4.out⟩
          case measure => simp [intOf]; omega
        have HQ := Lib.hid (show l.length ≤ 8000000 by have := Eq.out; omega)
        by_cases hk0 : k % 3 = 0
        · have b0 : ((k : Int) % 3 == 0) = true := by rw [beq_iff_eq]; omega
          have b1 : ((k : Int) % 3 == 1) = false := by rw [beq_eq_false_iff_ne]; omega
          have b2 : ((k : Int) % 3 == 2) = false := by rw [beq_eq_false_iff_ne]; omega
          have BT := Lib.hid (numS_bts (room := room) I9.out m z)
          have HLe := Lib.hid W4.out.le.1
          go_wp2_with fail
          refine (wnum_c _ g ob room s m z _ W4.out).mono ?_
          rintro e w5 ⟨rfl, hst⟩
          have M5 := Lib.hid (M4.out _ w5 hst)
          have A5 := Lib.hid (show RowAt w5 wr.heap.size _ by obtain ⟨_, _, _, mm⟩ := hst; exact RowAt.moves A4.out mm (by have := Y.out.1.1; omega) (fun e => by have := (Y.out.1.2 _ e).2; omega))
          have OK5 := Lib.hid (show Bs0 w5 p l from (HAct.out _ (hst.below W4.out K4.out (Nat.le_trans W4.out.base (Nat.le_of_lt W4.out.lt.1)))).2.2.1)
          clear hst hx0 hx1 hx2 hx3 A4 I4 hld W4 M4 V4 K4 HAct
          have hx1 := A5.out.cellAt 1 (show (arow k m z (.slice p q c))[1]? = some (.int .u64 (m : Int)) from rfl)
          have hx2 := A5.out.cellAt 2 (show (arow k m z (.slice p q c))[2]? = some (.int .i64 z) from rfl)
          have hx3 := A5.out.cellAt 3 (show (arow k m z (.slice p q c))[3]? = some (.slice p q c) from rfl)
          obtain ⟨r1, r2, r3⟩ : RowAt w5 gm (mrow v room s.1) := by obtain ⟨_, _, h, _⟩ := M5.out; exact h
          have V5 := Lib.hid (show MV w5 v s.2 by obtain ⟨_, _, _, h, _⟩ := M5.out; exact h)
          have KR := Lib.hid (rnumW_c v room s m z w5 V5.out HRm.out HLe.out OK.out.2.1)
          generalize numS room s m z = s' at *
          go_wp2_with fail
          refine KR.out.mono ?_
          rintro e w6 ⟨v', rfl, hm6, hn6, hb6⟩
          have I7 := Lib.hid (M5.out.put GM.out.2 GM.out.1 hm6 hn6 hb6 BT.out _ rfl)
          have hgm6 : gm < w6.heap.size := Nat.lt_of_lt_of_le r3 hb6.size
          obtain ⟨n1, n2, n3⟩ := RowAt.grow ⟨r1, r2, r3⟩ hb6
          obtain ⟨⟨p', c', rfl, _⟩, _⟩ := hm6
          generalize s'.2.length = q' at *
          clear hn6 hb6 r1 r2 r3 hx1 hx2 hx3 A5 M5 V5 KR OK5 BT HLe
          go_wp2_with fail
          clear n1 n2 n3 hgm6
          obtain ⟨ob7, hw7, _⟩ := I7.out
          refine (wall_c _ g ob7 room s' _ hw7).mono ?_
          rintro e w8 ⟨vb, rfl, ho8, hb8⟩
          have I8 := Lib.hid (I7.out.grow hb8)
          obtain ⟨q1, q2, q3⟩ : RowAt w8 gm (mrow (.slice p' q' c') room s'.1) ∧ MV w8 (.slice p' q' c') s'.2 ∧ True := by obtain ⟨_, _, h1, h2, _⟩ := I8.out; exact ⟨h1, h2, trivial⟩
          have hg0 := q1.cellAt 0 (show (mrow (.slice p' q' c') room s'.1)[0]? = some (.slice p' q' c') from rfl)
          have hg2 := q1.cellAt 2 (show (mrow (.slice p' q' c') room s'.1)[2]? = some (.int .i64 s'.1) from rfl)
          have hcb := cvBS_own ho8
          have hcw := cvBS_mv q2
          have hcn := cvBS_nil w8
          obtain ⟨pb, cb, rfl, _⟩ := ho8.bs
          clear hw7 ho8 hb8 q1 q2 q3 I7
          obtain ⟨e', l'⟩ := s'
          generalize hal : (allL (e', l')).length = nb at *
          clear hal
          by_cases her : e' = 0
          · subst her
            rw [show allL (0, l') = l' by unfold allL; rw [if_neg (by simp)]] at hcb
            go_wp2_with fail
            go_roundw
            case rel => exact ⟨j + 1, _, by omega, by omega, by go_num, _, I8.out⟩
            case measure => simp [intOf]; omega
          · have her' : (e' != 0) = true := by simpa using her
            rw [show allL (e', l') = [] by unfold allL; rw [if_pos her]] at hcb
            go_wp2_with fail
            go_roundw
            case rel => exact ⟨j + 1, _, by omega, by omega, by go_num, _, I8.out⟩
            case measure => simp [intOf]; omega
        by_cases hk1 : k % 3 = 1
        · have b0 : ((k : Int) % 3 == 0) = false := by rw [beq_eq_false_iff_ne]; omega
          have b1 : ((k : Int) % 3 == 1) = true := by rw [beq_iff_eq]; omega
          have b2 : ((k : Int) % 3 == 2) = false := by rw [beq_eq_false_iff_ne]; omega
          have BT := Lib.hid (bytS_bts (room := room) I9.out OK.out.2.2.2.1)
          have HLe := Lib.hid W4.out.le.1
          go_wp2_with fail
          refine (wbytes_c _ g ob room s l p q c _ W4.out Eq.out OK.out.2.2.1 OK.out.2.2.2.2.1).mono ?_
          rintro e w5 ⟨rfl, hst⟩
          have M5 := Lib.hid (M4.out _ w5 hst)
          have A5 := Lib.hid (show RowAt w5 wr.heap.size _ by obtain ⟨_, _, _, mm⟩ := hst; exact RowAt.moves A4.out mm (by have := Y.out.1.1; omega) (fun e => by have := (Y.out.1.2 _ e).2; omega))
          have OK5 := Lib.hid (show Bs0 w5 p l from (HAct.out _ (hst.below W4.out K4.out (Nat.le_trans W4.out.base (Nat.le_of_lt W4.out.lt.1)))).2.2.1)
          clear hst hx0 hx1 hx2 hx3 A4 I4 hld W4 M4 V4 K4 HAct
          have hx1 := A5.out.cellAt 1 (show (arow k m z (.slice p q c))[1]? = some (.int .u64 (m : Int)) from rfl)
          have hx2 := A5.out.cellAt 2 (show (arow k m z (.slice p q c))[2]? = some (.int .i64 z) from rfl)
          have hx3 := A5.out.cellAt 3 (show (arow k m z (.slice p q c))[3]? = some (.slice p q c) from rfl)
          obtain ⟨r1, r2, r3⟩ : RowAt w5 gm (mrow v room s.1) := by obtain ⟨_, _, h, _⟩ := M5.out; exact h
          have V5 := Lib.hid (show MV w5 v s.2 by obtain ⟨_, _, _, h, _⟩ := M5.out; exact h)
          have KR := Lib.hid (rbyt_c v (.slice p q c) room s l w5 V5.out ⟨p, c, by rw [Eq.out], OK5.out, OK.out.2.2.2.2.2, OK.out.2.2.2.2.1⟩ HRm.out HLe.out HQ.out)
          generalize bytS room s l = s' at *
          go_wp2_with fail
          refine KR.out.mono ?_
          rintro e w6 ⟨v', rfl, hm6, hn6, hb6⟩
          have I7 := Lib.hid (M5.out.put GM.out.2 GM.out.1 hm6 hn6 hb6 BT.out _ rfl)
          have hgm6 : gm < w6.heap.size := Nat.lt_of_lt_of_le r3 hb6.size
          obtain ⟨n1, n2, n3⟩ := RowAt.grow ⟨r1, r2, r3⟩ hb6
          obtain ⟨⟨p', c', rfl, _⟩, _⟩ := hm6
          generalize s'.2.length = q' at *
          clear hn6 hb6 r1 r2 r3 hx1 hx2 hx3 A5 M5 V5 KR OK5 BT HLe
          go_wp2_with fail
          clear n1 n2 n3 hgm6
          obtain ⟨ob7, hw7, _⟩ := I7.out
          refine (wall_c _ g ob7 room s' _ hw7).mono ?_
          rintro e w8 ⟨vb, rfl, ho8, hb8⟩
          have I8 := Lib.hid (I7.out.grow hb8)
          obtain ⟨q1, q2, q3⟩ : RowAt w8 gm (mrow (.slice p' q' c') room s'.1) ∧ MV w8 (.slice p' q' c') s'.2 ∧ True := by obtain ⟨_, _, h1, h2, _⟩ := I8.out; exact ⟨h1, h2, trivial⟩
          have hg0 := q1.cellAt 0 (show (mrow (.slice p' q' c') room s'.1)[0]? = some (.slice p' q' c') from rfl)
          have hg2 := q1.cellAt 2 (show (mrow (.slice p' q' c') room s'.1)[2]? = some (.int .i64 s'.1) from rfl)
          have hcb := cvBS_own ho8
          have hcw := cvBS_mv q2
          have hcn := cvBS_nil w8
          obtain ⟨pb, cb, rfl, _⟩ := ho8.bs
          clear hw7 ho8 hb8 q1 q2 q3 I7
          obtain ⟨e', l'⟩ := s'
          generalize hal : (allL (e', l')).length = nb at *
          clear hal
          by_cases her : e' = 0
          · subst her
            rw [show allL (0, l') = l' by unfold allL; rw [if_neg (by simp)]] at hcb
            go_wp2_with fail
            go_roundw
            case rel => exact ⟨j + 1, _, by omega, by omega, by go_num, _, I8.out⟩
            case measure => simp [intOf]; omega
          · have her' : (e' != 0) = true := by simpa using her
            rw [show allL (e', l') = [] by unfold allL; rw [if_pos her]] at hcb
            go_wp2_with fail
            go_roundw
            case rel => exact ⟨j + 1, _, by omega, by omega, by go_num, _, I8.out⟩
            case measure => simp [intOf]; omega
        have b0 : ((k : Int) % 3 == 0) = false := by rw [beq_eq_false_iff_ne]; omega
        have b1 : ((k : Int) % 3 == 1) = false := by rw [beq_eq_false_iff_ne]; omega
        have b2 : ((k : Int) % 3 == 2) = true := by rw [beq_iff_eq]; omega
        by_cases hz1 : (1000 : Int) < z
        · by_cases hz2 : z ≤ (room : Int)
          · go_wp2_with fail
            go_roundw
            case rel => exact ⟨j + 1, s, by omega, by omega, by go_num, I4.out⟩
            case measure => simp [intOf]; omega
          · have BT := Lib.hid (filS_bts (room := room) I9.out z)
            have HLe := Lib.hid W4.out.le.1
            go_wp2_with fail
            refine (wfill_c _ g ob room s z _ W4.out).mono ?_
            rintro e w5 ⟨rfl, hst⟩
            have M5 := Lib.hid (M4.out _ w5 hst)
            have A5 := Lib.hid (show RowAt w5 wr.heap.size _ by obtain ⟨_, _, _, mm⟩ := hst; exact RowAt.moves A4.out mm (by have := Y.out.1.1; omega) (fun e => by have := (Y.out.1.2 _ e).2; omega))
            have OK5 := Lib.hid (show Bs0 w5 p l from (HAct.out _ (hst.below W4.out K4.out (Nat.le_trans W4.out.base (Nat.le_of_lt W4.out.lt.1)))).2.2.1)
            clear hst hx0 hx1 hx2 hx3 A4 I4 hld W4 M4 V4 K4 HAct
            have hx1 := A5.out.cellAt 1 (show (arow k m z (.slice p q c))[1]? = some (.int .u64 (m : Int)) from rfl)
            have hx2 := A5.out.cellAt 2 (show (arow k m z (.slice p q c))[2]? = some (.int .i64 z) from rfl)
            have hx3 := A5.out.cellAt 3 (show (arow k m z (.slice p q c))[3]? = some (.slice p q c) from rfl)
            obtain ⟨r1, r2, r3⟩ : RowAt w5 gm (mrow v room s.1) := by obtain ⟨_, _, h, _⟩ := M5.out; exact h
            have V5 := Lib.hid (show MV w5 v s.2 by obtain ⟨_, _, _, h, _⟩ := M5.out; exact h)
            have KR := Lib.hid (rfilW_c v room s z w5 V5.out HRm.out HLe.out)
            generalize filS room s z = s' at *
            go_wp2_with fail
            refine KR.out.mono ?_
            rintro e w6 ⟨v', rfl, hm6, hn6, hb6⟩
            have I7 := Lib.hid (M5.out.put GM.out.2 GM.out.1 hm6 hn6 hb6 BT.out _ rfl)
            have hgm6 : gm < w6.heap.size := Nat.lt_of_lt_of_le r3 hb6.size
            obtain ⟨n1, n2, n3⟩ := RowAt.grow ⟨r1, r2, r3⟩ hb6
            obtain ⟨⟨p', c', rfl, _⟩, _⟩ := hm6
            generalize s'.2.length = q' at *
            clear hn6 hb6 r1 r2 r3 hx1 hx2 hx3 A5 M5 V5 KR OK5 BT HLe
            go_wp2_with fail
            clear n1 n2 n3 hgm6
            obtain ⟨ob7, hw7, _⟩ := I7.out
            refine (wall_c _ g ob7 room s' _ hw7).mono ?_
            rintro e w8 ⟨vb, rfl, ho8, hb8⟩
            have I8 := Lib.hid (I7.out.grow hb8)
            obtain ⟨q1, q2, q3⟩ : RowAt w8 gm (mrow (.slice p' q' c') room s'.1) ∧ MV w8 (.slice p' q' c') s'.2 ∧ True := by obtain ⟨_, _, h1, h2, _⟩ := I8.out; exact ⟨h1, h2, trivial⟩
            have hg0 := q1.cellAt 0 (show (mrow (.slice p' q' c') room s'.1)[0]? = some (.slice p' q' c') from rfl)
            have hg2 := q1.cellAt 2 (show (mrow (.slice p' q' c') room s'.1)[2]? = some (.int .i64 s'.1) from rfl)
            have hcb := cvBS_own ho8
            have hcw := cvBS_mv q2
            have hcn := cvBS_nil w8
            obtain ⟨pb, cb, rfl, _⟩ := ho8.bs
            clear hw7 ho8 hb8 q1 q2 q3 I7
            obtain ⟨e', l'⟩ := s'
            generalize hal : (allL (e', l')).length = nb at *
            clear hal
            by_cases her : e' = 0
            · subst her
              rw [show allL (0, l') = l' by unfold allL; rw [if_neg (by simp)]] at hcb
              go_wp2_with fail
              go_roundw
              case rel => exact ⟨j + 1, _, by omega, by omega, by go_num, _, I8.out⟩
              case measure => simp [intOf]; omega
            · have her' : (e' != 0) = true := by simpa using her
              rw [show allL (e', l') = [] by unfold allL; rw [if_pos her]] at hcb
              go_wp2_with fail
              go_roundw
              case rel => exact ⟨j + 1, _, by omega, by omega, by go_num, _, I8.out⟩
              case measure => simp [intOf]; omega
        · have BT := Lib.hid (filS_bts (room := room) I9.out z)
          have HLe := Lib.hid W4.out.le.1
          go_wp2_with fail
          refine (wfill_c _ g ob room s z _ W4.out).mono ?_
          rintro e w5 ⟨rfl, hst⟩
          have M5 := Lib.hid (M4.out _ w5 hst)
          have A5 := Lib.hid (show RowAt w5 wr.heap.size _ by obtain ⟨_, _, _, mm⟩ := hst; exact RowAt.moves A4.out mm (by have := Y.out.1.1; omega) (fun e => by have := (Y.out.1.2 _ e).2; omega))
          have OK5 := Lib.hid (show Bs0 w5 p l from (HAct.out _ (hst.below W4.out K4.out (Nat.le_trans W4.out.base (Nat.le_of_lt W4.out.lt.1)))).2.2.1)
          clear hst hx0 hx1 hx2 hx3 A4 I4 hld W4 M4 V4 K4 HAct
          have hx1 := A5.out.cellAt 1 (show (arow k m z (.slice p q c))[1]? = some (.int .u64 (m : Int)) from rfl)
          have hx2 := A5.out.cellAt 2 (show (arow k m z (.slice p q c))[2]? = some (.int .i64 z) from rfl)
          have hx3 := A5.out.cellAt 3 (show (arow k m z (.slice p q c))[3]? = some (.slice p q c) from rfl)
          obtain ⟨r1, r2, r3⟩ : RowAt w5 gm (mrow v room s.1) := by obtain ⟨_, _, h, _⟩ := M5.out; exact h
          have V5 := Lib.hid (show MV w5 v s.2 by obtain ⟨_, _, _, h, _⟩ := M5.out; exact h)
          have KR := Lib.hid (rfilW_c v room s z w5 V5.out HRm.out HLe.out)
          generalize filS room s z = s' at *
          go_wp2_with fail
          refine KR.out.mono ?_
          rintro e w6 ⟨v', rfl, hm6, hn6, hb6⟩
          have I7 := Lib.hid (M5.out.put GM.out.2 GM.out.1 hm6 hn6 hb6 BT.out _ rfl)
          have hgm6 : gm < w6.heap.size := Nat.lt_of_lt_of_le r3 hb6.size
          obtain ⟨n1, n2, n3⟩ := RowAt.grow ⟨r1, r2, r3⟩ hb6
          obtain ⟨⟨p', c', rfl, _⟩, _⟩ := hm6
          generalize s'.2.length = q' at *
          clear hn6 hb6 r1 r2 r3 hx1 hx2 hx3 A5 M5 V5 KR OK5 BT HLe
          go_wp2_with fail
          clear n1 n2 n3 hgm6
          obtain ⟨ob7, hw7, _⟩ := I7.out
          refine (wall_c _ g ob7 room s' _ hw7).mono ?_
          rintro e w8 ⟨vb, rfl, ho8, hb8⟩
          have I8 := Lib.hid (I7.out.grow hb8)
          obtain ⟨q1, q2, q3⟩ : RowAt w8 gm (mrow (.slice p' q' c') room s'.1) ∧ MV w8 (.slice p' q' c') s'.2 ∧ True := by obtain ⟨_, _, h1, h2, _⟩ := I8.out; exact ⟨h1, h2, trivial⟩
          have hg0 := q1.cellAt 0 (show (mrow (.slice p' q' c') room s'.1)[0]? = some (.slice p' q' c') from rfl)
          have hg2 := q1.cellAt 2 (show (mrow (.slice p' q' c') room s'.1)[2]? = some (.int .i64 s'.1) from rfl)
          have hcb := cvBS_own ho8
          have hcw := cvBS_mv q2
          have hcn := cvBS_nil w8
          obtain ⟨pb, cb, rfl, _⟩ := ho8.bs
          clear hw7 ho8 hb8 q1 q2 q3 I7
          obtain ⟨e', l'⟩ := s'
          generalize hal : (allL (e', l')).length = nb at *
          clear hal
          by_cases her : e' = 0
          · subst her
            rw [show allL (0, l') = l' by unfold allL; rw [if_neg (by simp)]] at hcb
            go_wp2_with fail
            go_roundw
            case rel => exact ⟨j + 1, _, by omega, by omega, by go_num, _, I8.out⟩
            case measure => simp [intOf]; omega
          · have her' : (e' != 0) = true := by simpa using her
            rw [show allL (e', l') = [] by unfold allL; rw [if_pos her]] at hcb
            go_wp2_with fail
            go_roundw
            case rel => exact ⟨j + 1, _, by omega, by omega, by go_num, _, I8.out⟩
            case measure => simp [intOf]; omega
      · have hj1 : (j : Int) < (N : Int) := by omega
        have hj2 : ¬ (j : Int) < 60 := by omega
        have HF := Lib.hid (show Below w.heap.size w wr by obtain ⟨_, _, _, _, _, _, _, _, _, h, _⟩ := hI; exact B1.out.trans (h.mono B1.out.size))
        clear hI
        go_wp2_with fail
        go_ret
        exact ⟨rfl, HF.out⟩
    · have hj1 : ¬ (j : Int) < (N : Int) := by omega
      have HF := Lib.hid (show Below w.heap.size w wr by obtain ⟨_, _, _, _, _, _, _, _, _, h, _⟩ := hI; exact B1.out.trans (h.mono B1.out.size))
      clear hI
      go_wp2_with fail
      go_ret
      exact ⟨rfl, HF.out⟩
end Go.Proofs.Ytbhgmefdimjlaaa
