/-
  Package sha: bytes are laid behind those that there were.
-/
import Derived.Test.YtikpglemnnbdcaaDoorShaDigest
import Derived.Test.YtikpglemnnbdcaaDoorShaPure
namespace Go.Proofs.YtikpglemnnbdcaaDoor
open Go.RowKit Go.Hold Go.Sh

/-- Bytes lie in a block, from an offset on. -/
def BytesAt (w : World) (b o : Nat) (l : List Nat) : Prop := b < w.heap.size ∧ ∀ i, i < l.length → w.cell? ⟨b, o + i, none⟩ = some (.int .u8 ((l.getD i 0 : Nat) : Int))
theorem BytesAt.grow {w w' : World} {b o : Nat} {l : List Nat} (h : BytesAt w b o l) (hb : Below w.heap.size w w') : BytesAt w' b o l :=
  ⟨Nat.lt_of_lt_of_le h.1 hb.size, fun i hi => by rw [hb.cell h.1]; exact h.2 i hi⟩
theorem BytesAt.other {w : World} {b o g : Nat} {l : List Nat} (h : BytesAt w b o l) (hg : b ≠ g) (c : Array Value) : BytesAt (w.setRow g c) b o l :=
  ⟨by rw [size_setRow]; exact h.1, fun i hi => by rw [World.cell?_of_block (w := w) (setRow_other w g b c hg)]; exact h.2 i hi⟩
/-- A hash of bytes. -/
def hshA (m : List Nat) : Array Value := hasA true m.length (hrun st0 m) (rst m)

theorem bys_length (l : List Nat) : (bys l).length = l.length := by simp [bys]
/-- Bytes go into a hash's rest. -/
theorem copy_rest {W : World} {g u b o cap c2 len k : Nat} {N : Int} {s : St} {r l : List Nat} (hr : r.length = 64) (h : RowAt W g (hasA true N s r)) (hu : u ≤ 64) (hlen : len = l.length) (hk : k = min l.length (64 - u)) (hB : BytesAt W b o l) :
    (Builtin.copy_ #[22, 22] 3 #[.slice (some ⟨g, 10 + u, none⟩) (64 - u) c2, .slice (some ⟨b, o, none⟩) len cap]).run Tryd.prog W = .ok (.int .i64 (k : Int)) (W.setRow g (hasA true N s (r.take u ++ l.take k ++ r.drop (u + k)))) := by
  subst hlen
  have hl : (bys (l.take k)).length = k := by rw [bys_length, List.length_take]; omega
  have hi : (Tryd.prog.info? 5).map (·.size) = some 1 := by kernel_rfl
  have hsz : (hasA true N s r).size = 74 := by rw [hasA_size, hr]
  have := run_copy_cells (P := Tryd.prog) W 22 22 3 5 g (10 + u) (64 - u) c2 ⟨b, o, none⟩ l.length cap (bys (l.take k)) Tryd.underlying22 hi (by rw [hl, hk])
    (fun j v hv => by
      have hj : j < k := by have := (List.getElem?_eq_some_iff.1 hv).1; omega
      rw [Addr.add_mid, hB.2 j (by omega), ← hv]
      simp only [bys, List.getElem?_map, List.getElem?_take, if_pos hj, List.getD]
      rw [List.getElem?_eq_getElem (by omega)]; rfl)
    (fun j hj => by rw [h.cellAt (10 + u + j) (Array.getElem?_eq_getElem (by omega))]; rfl)
    (fun j _ => h.frozenAt _) (fun v hv => by simp only [bys, List.mem_map] at hv; obtain ⟨x, _, rfl⟩ := hv; rfl)
  rw [this, hl, setCells_row _ _ h, setL_rest _ _ _ _ _ _ (by rw [List.length_take]; omega)]
  rw [show (l.take k).length = k by rw [List.length_take]; omega]
  rfl
/-- Nothing goes over. -/
theorem copy_none (W : World) (d a : Option Addr) (dl dc cap : Nat) : (Builtin.copy_ #[22, 22] 3 #[.slice d dl dc, .slice a 0 cap]).run Tryd.prog W = .ok (.int .i64 0) W :=
  run_copy_none W _ _ _ 5 _ _ _ _ _ _ Tryd.underlying22 (by kernel_rfl) (by simp)

theorem plus_none' (w : World) : w = w.plus #[] w.drawn := by unfold World.plus; rw [Array.append_empty]
set_option maxHeartbeats 2000000 in
set_option maxRecDepth 100000 in
theorem take_small_c (g b o cap : Nat) (m l : List Nat) (w : World) (h : RowAt w g (hshA m)) (hm : m.length < 1152921504606846976) (hsm : m.length % 64 + l.length < 64) (hB : BytesAt w b o l) (hbg : b ≠ g) :
    Calls Tryd.prog 29 #[.pointer (some ⟨g, 0, none⟩), .slice (some ⟨b, o, none⟩) l.length cap] w fun e w' => e = .returned (.tuple #[]) ∧ ∃ os d, w' = (w.setRow g (hshA (m ++ l))).plus os d := by
  have H := Lib.hid h
  have HB := Lib.hid hB
  obtain ⟨h1, h2, h3⟩ := h
  have hcn := H.out.cellAt 1 (show (hshA m)[1]? = some (.int .i64 m.length) from rfl)
  have hcf := H.out.frozenAt 1
  have hu := cast_tmod64 m.length
  obtain ⟨n, en⟩ : ∃ n, n = m.length := ⟨_, rfl⟩
  obtain ⟨k, ek⟩ : ∃ k, k = l.length := ⟨_, rfl⟩
  obtain ⟨u, eu⟩ : ∃ u, u = m.length % 64 := ⟨_, rfl⟩
  rw [← eu] at hu
  rw [← en] at hcn hu
  have hk : IntKind.i64.wrap ((n : Int) + (k : Int)) = ((n + k : Nat) : Int) := by rw [IntWalk.i64_in _ (by omega)]; omega
  have hs : IntKind.i64.wrap ((u : Int) + (k : Int)) = ((u + k : Nat) : Int) := by rw [IntWalk.i64_in _ (by omega)]; omega
  have hlt : (u : Int) + (k : Int) < 64 := by omega
  have hu0 : (0 : Int) ≤ (u : Int) := by omega
  have hu1 : (u : Int) ≤ 64 := by omega
  clear hB
  rw [← ek]
  have hset : w.setCell ⟨g, 1, none⟩ (.int .i64 ((n + k : Nat) : Int)) = w.setRow g (hasA true ((n + k : Nat) : Int) (hrun st0 m) (rst m)) := by
    rw [setCell_row H.out, hshA, setL_len]
  have hfin : (hasA true ((n + k : Nat) : Int) (hrun st0 m) ((rst m).take u ++ l.take k ++ (rst m).drop (u + k))) = hshA (m ++ l) := by
    obtain ⟨e1, e2⟩ := take_small m l u eu (by omega)
    unfold hshA
    rw [e1, e2, List.length_append, en, ek, List.take_length]
  generalize ((n + k : Nat) : Int) = nk at hk hset hfin
  have hcp := copy_rest (c2 := 64 - u) (cap := cap) (len := k) (k := k) (rst_length m) (H.out.set (hasA true nk (hrun st0 m) (rst m))) (show u ≤ 64 by omega) ek (by omega) (HB.out.other hbg _)
  rw [setRow_setRow, hfin] at hcp
  have En := Lib.hid en
  have Ek := Lib.hid ek
  have Eu := Lib.hid eu
  clear en ek eu hfin
  go_enter Tryd.func29, Tryd.ntmps29
  go_wp2_with fail
  refine bodyPost_ret (v := .tuple #[]) (results_none Tryd.results29 _ _ _) rfl ⟨rfl, #[], (w.setRow g (hshA (m ++ l))).drawn, plus_none' _⟩
end Go.Proofs.YtikpglemnnbdcaaDoor
