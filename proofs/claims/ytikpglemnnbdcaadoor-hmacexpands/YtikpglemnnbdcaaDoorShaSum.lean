/-
  Package sha: the digest of bytes.
-/
import Derived.Test.YtikpglemnnbdcaaDoorShaTakeBig
namespace Go.Proofs.YtikpglemnnbdcaaDoor
open Go.RowKit Go.Hold Go.Sh

/-- A slice of bytes: empty, or at an address outside one block. -/
def Bs (w : World) (p : Option Addr) (l : List Nat) (g : Nat) : Prop := l = [] ∨ ∃ b o, p = some ⟨b, o, none⟩ ∧ BytesAt w b o l ∧ b ≠ g
theorem Bs.grow {w w' : World} {p : Option Addr} {l : List Nat} {g : Nat} (h : Bs w p l g) (hb : Below w.heap.size w w') : Bs w' p l g := by
  rcases h with h | ⟨b, o, e, h, n⟩
  · exact .inl h
  · exact .inr ⟨b, o, e, h.grow hb, n⟩
theorem Bs.set {w : World} {p : Option Addr} {l : List Nat} {g : Nat} (h : Bs w p l g) (c : Array Value) : Bs (w.setRow g c) p l g := by
  rcases h with h | ⟨b, o, e, h, n⟩
  · exact .inl h
  · exact .inr ⟨b, o, e, h.other n c, n⟩
/-- A slice of bytes, wherever it lies. -/
def Bs0 (w : World) (p : Option Addr) (l : List Nat) : Prop := l = [] ∨ ∃ b o, p = some ⟨b, o, none⟩ ∧ BytesAt w b o l
theorem Bs.any {w : World} {p : Option Addr} {l : List Nat} {g : Nat} (h : Bs w p l g) : Bs0 w p l := by
  rcases h with h | ⟨b, o, e, h, _⟩
  · exact .inl h
  · exact .inr ⟨b, o, e, h⟩
theorem Bs0.grow {w w' : World} {p : Option Addr} {l : List Nat} (h : Bs0 w p l) (hb : Below w.heap.size w w') : Bs0 w' p l := by
  rcases h with h | ⟨b, o, e, h⟩
  · exact .inl h
  · exact .inr ⟨b, o, e, h.grow hb⟩
/-- A slice that lay there before a block was laid lies outside it. -/
theorem Bs0.new {w w' : World} {p : Option Addr} {l : List Nat} {g' : Nat} (h : Bs0 w p l) (hb : Below w.heap.size w w') (hg : w.heap.size ≤ g') : Bs w' p l g' := by
  rcases h with h | ⟨b, o, e, h⟩
  · exact .inl h
  · exact .inr ⟨b, o, e, h.grow hb, by have := h.1; omega⟩
theorem hshA_nil : hshA [] = hasA true 0 st0 (zs 64) := rfl
theorem hshA_size (m : List Nat) : (hshA m).size = 74 := by unfold hshA; rw [hasA_size, rst_length]
@[go_sem] theorem hshA_one (m : List Nat) : oneAll (hshA m) = true := hasA_one _ _ _ _

set_option maxHeartbeats 1000000 in
set_option maxRecDepth 100000 in
theorem take_nil_c (g cap : Nat) (p : Option Addr) (m : List Nat) (w : World) (h : RowAt w g (hshA m)) (hm : m.length < 1152921504606846976) :
    Calls Tryd.prog 29 #[.pointer (some ⟨g, 0, none⟩), .slice p 0 cap] w fun e w' => e = .returned (.tuple #[]) ∧ ∃ os d, w' = (w.setRow g (hshA m)).plus os d := by
  have H := Lib.hid h
  obtain ⟨h1, h2, h3⟩ := h
  have hcn := H.out.cellAt 1 (show (hshA m)[1]? = some (.int .i64 m.length) from rfl)
  have hcf := H.out.frozenAt 1
  have hu := cast_tmod64 m.length
  obtain ⟨n, en⟩ : ∃ n, n = m.length := ⟨_, rfl⟩
  obtain ⟨u, eu⟩ : ∃ u, u = m.length % 64 := ⟨_, rfl⟩
  rw [← eu] at hu
  rw [← en] at hcn hu
  have hk : IntKind.i64.wrap (n : Int) = (n : Int) := by rw [IntWalk.i64_in _ (by omega)]
  have hku : IntKind.i64.wrap (u : Int) = (u : Int) := by rw [IntWalk.i64_in _ (by omega)]
  have hu0 : (0 : Int) ≤ (u : Int) := by omega
  have hu1 : (u : Int) ≤ 64 := by omega
  have hu2 : (u : Int) < 64 := by omega
  have hset : w.setCell ⟨g, 1, none⟩ (.int .i64 (n : Int)) = w.setRow g (hshA m) := by
    rw [setCell_row H.out, hshA, setL_len, en]
  have hcp : ∀ W : World, (Builtin.copy_ #[22, 22] 3 #[.slice (some ⟨g, 10 + u, none⟩) (64 - u) (64 - u), .slice p 0 cap]).run Tryd.prog W = .ok (.int .i64 0) W := fun W => copy_none W _ _ _ _ _
  have En := Lib.hid en
  have Eu := Lib.hid eu
  clear en eu hm
  go_enter Tryd.func29, Tryd.ntmps29
  go_wp2_with fail
  refine bodyPost_ret (v := .tuple #[]) (results_none Tryd.results29 _ _ _) rfl ⟨rfl, #[], _, plus_none' _⟩
/-- Bytes are laid behind those that there were. -/
theorem take_c (g cap : Nat) (p : Option Addr) (m l : List Nat) (w : World) (hT : Tabs w) (hg : 1 < g) (h : RowAt w g (hshA m)) (hm : m.length + l.length < 1152921504606846976) (hmb : ∀ i, m.getD i 0 < 256) (hlb : ∀ i, l.getD i 0 < 256)
    (hB : Bs w p l g) (hc : l.length ≤ cap) :
    Calls Tryd.prog 29 #[.pointer (some ⟨g, 0, none⟩), .slice p l.length cap] w fun e w' => e = .returned (.tuple #[]) ∧ ∃ os d, w' = (w.setRow g (hshA (m ++ l))).plus os d := by
  rcases hB with rfl | ⟨b, o, rfl, hB, hbg⟩
  · rw [List.append_nil]; exact take_nil_c g cap p m w h (by simp at hm; exact hm)
  · by_cases hs : m.length % 64 + l.length < 64
    · exact take_small_c g b o cap m l w h (by omega) hs hB hbg
    · exact take_big_c g b o cap m l w hT hg h hm hmb hlb (by omega) hB hc hbg
/-- The digest of a hash. -/
theorem digest_h (g : Nat) (m : List Nat) (w : World) (hT : Tabs w) (h : RowAt w g (hshA m)) (hm : m.length < 1152921504606846976) (hmb : ∀ i, m.getD i 0 < 256) :
    Calls Tryd.prog 30 #[.pointer (some ⟨g, 0, none⟩)] w fun e w' => e = .returned (.agg (keA (dig m))) ∧ Below w.heap.size w w' := by
  have := digest_c g m.length (hrun st0 m) (rst m) w hT h (rst_length m) (rst_bts hmb) hm
  rw [digF_all] at this; exact this

set_option maxHeartbeats 1000000 in
set_option maxRecDepth 100000 in
theorem sum_c (cap : Nat) (p : Option Addr) (l : List Nat) (w : World) (hT : Tabs w) (hl : l.length < 1152921504606846976) (hlb : ∀ i, l.getD i 0 < 256) (hB : Bs0 w p l) (hc : l.length ≤ cap) :
    Calls Tryd.prog 21 #[.slice p l.length cap] w fun e w' => e = .returned (.agg (keA (dig l))) ∧ Below w.heap.size w w' := by
  have HT := Lib.hid hT
  have HB := Lib.hid hB
  have hz := zsize
  have hz1 : (hasA true 0 st0 (zs 64)).size = 74 := hshA_size []
  have hT1 := hT.1
  clear hT hB
  go_enter Tryd.func21, Tryd.ntmps21
  go_wp2_with fail
  refine (begun_c _ (HT.out.grow (below_alloc (Below.refl _ _) _))).mono ?_
  rintro e w' ⟨rfl, hbw⟩
  obtain ⟨oc1, nc1, rfl⟩ := below_plus hbw
  clear hbw
  go_wp2_with fail
  generalize hW : World.alloc _ _ = W1
  have hR0 := Lib.hid (show ∃ c, c.size = 32 ∧ RowAt W1 w.heap.size c by rw [← hW]; clear hW; exact ⟨byI (List.replicate 32 0), by simp [byI], by go_simp, by go_simp; rfl, by go_simp⟩)
  have hG0 := Lib.hid (show RowAt W1 (w.heap.size + 1 + oc1.size) (hshA []) by rw [← hW, hshA_nil]; clear hW; exact ⟨by go_simp, by go_simp, by go_simp⟩)
  have B0 := Lib.hid (show Below w.heap.size w W1 by rw [← hW]; repeat (first | apply below_more | apply below_alloc | apply Below.drew | exact Below.refl _ _))
  clear hW
  have hgw : w.heap.size < w.heap.size + 1 + oc1.size := by omega
  generalize w.heap.size + 1 + oc1.size = g at *
  refine (take_c g cap p [] l W1 (HT.out.grow B0.out) (by omega) hG0.out (by simpa using hl) (by intro i; simp) hlb (HB.out.new B0.out (by omega)) hc).mono ?_
  rintro e w' ⟨rfl, os, d, rfl⟩
  rw [List.nil_append]
  have hG1 := Lib.hid ((hG0.out.set (hshA l)).grow (below_more (Below.refl _ _) os d))
  obtain ⟨c0, hc0, hR1⟩ := hR0.out
  replace hR1 := Lib.hid ((hR1.other (show w.heap.size ≠ g by omega) (hshA l)).grow (below_more (Below.refl _ _) os d))
  have B1 := Lib.hid (below_more (below_setRow B0.out (show w.heap.size ≤ g by omega) (hshA l)) os d)
  generalize (W1.setRow g (hshA l)).plus os d = W2 at *
  go_wp2_with fail
  refine (digest_h g l W2 (HT.out.grow B1.out) hG1.out hl hlb).mono ?_
  rintro e w' ⟨rfl, hbw⟩
  obtain ⟨r1, r2, r3⟩ := hR1.out.grow hbw
  have B2 := Lib.hid (B1.out.trans (hbw.mono B1.out.size))
  clear hbw
  go_wp2_with fail
  refine bodyPost_ret (v := .agg (keA (dig l))) (results_key Tryd.results21 (keA_size _) _ _ _ rfl (by go_simp) (by go_simp)) rfl ⟨rfl, ?_⟩
  exact below_setRow B2.out (Nat.le_refl _) _

theorem zk_size : (bysA (zs 32)).size = 32 := by rw [bysA_size]; rfl
end Go.Proofs.YtikpglemnnbdcaaDoor
