/-
  Part 9 of the texts behind the theorem.
-/
import Derived.Test.YtddmjddlbhdcpaaGreatDoorPart7
import Derived.Test.YtddmjddlbhdcpaaGreatDoorPart8
import Derived.Test.YtddmjddlbhdcpaaGreatDoorPart6
import Derived.Laws.BitsAllLaws
import Derived.Laws.Cover3
import Derived.Lib.AppendZeros
namespace Go.Proofs.YtddmjddlbhdcpaaGreatDoor
open Go.RowKit Go.Hold Go.Sh Go.Ch Go.Cm Go.Hd
theorem drv_rho (s:List Nat) (hs:s.length=32) (hsb:∀ i,s.getD i 0<256) (w:World) (hT:Tabs w) :
  Calls Tryz.prog 58 #[.agg (bysA s),.string { data:=#[114,104,111] }] w fun e w'=>e=.returned (.agg (bysA (keyN (drv s rhoL))))∧Below w.heap.size w w':=by
 have:=derive_c s ⟨#[114,104,111]⟩ w hT hs hsb (by decide)
 rwa [keA_bys,show purp++strB ⟨#[114,104,111]⟩=rhoL by decide] at this
theorem drv_mu (s:List Nat) (hs:s.length=32) (hsb:∀ i,s.getD i 0<256) (w:World) (hT:Tabs w) :
  Calls Tryz.prog 58 #[.agg (bysA s),.string { data:=#[109,117] }] w fun e w'=>e=.returned (.agg (bysA (keyN (drv s muL))))∧Below w.heap.size w w':=by
 have:=derive_c s ⟨#[109,117]⟩ w hT hs hsb (by decide)
 rwa [keA_bys,show purp++strB ⟨#[109,117]⟩=muL by decide] at this
theorem drv_tau (s:List Nat) (hs:s.length=32) (hsb:∀ i,s.getD i 0<256) (w:World) (hT:Tabs w) :
  Calls Tryz.prog 58 #[.agg (bysA s),.string { data:=#[116,97,117] }] w fun e w'=>e=.returned (.agg (bysA (keyN (drv s tauL))))∧Below w.heap.size w w':=by
 have:=derive_c s ⟨#[116,97,117]⟩ w hT hs hsb (by decide)
 rwa [keA_bys,show purp++strB ⟨#[116,97,117]⟩=tauL by decide] at this
set_option maxHeartbeats 1000000 in
set_option maxRecDepth 100000 in
theorem hstream_c (s:List Nat) (hs:s.length=32) (hsb:∀ i,s.getD i 0<256) (w:World) (hT:Tabs w) :
  Calls Tryz.prog 79 #[.agg (bysA s)] w fun e w'=>e=.returned (.agg (bysA (hst s)))∧Below w.heap.size w w':=by
 have hss:=bysA_size' hs
 have hh:=bysA_size' (hst_length s)
 have hzw:=bysA_size' (zs_length 192)
 have HD:=Lib.hid (fun (W:World) (h:Tabs W)=>drv_rho s hs hsb W h)
 have HT:=Lib.hid hT
 have HS:=Lib.hid (fun (W:World)=>show Calls Tryz.prog 108 #[.agg (bysA (keyN (drv s rhoL))),.agg (bysA (zs 12)),.int .u32 0,.int .i64 192] W fun e w'=>∃ g,e=.returned (.tuple #[.slice (some ⟨g,0,none⟩) 192 192,.int .i64 0])∧RowAt w' g (bysA (hst s))∧W.heap.size≤g∧Below W.heap.size W w' by
  unfold hst
  exact stream_c (keyN (drv s rhoL)) (zs 12) 0 192 (keyN_length _) (keyN_bts _) (zs_length 12) (bts_zs 12) (by decide) (by decide) (by decide) W)
 have hcp:∀ (W:World) (g b:Nat),RowAt W g (bysA (zs 192))→RowAt W b (bysA (hst s))→(Builtin.copy_ #[38,38] 3 #[.slice (some ⟨g,0,none⟩) 192 192,.slice (some ⟨b,0,none⟩) 192 192]).run Tryz.prog W=.ok (.int .i64 ((192:Nat):Int)) (W.setRow g (bysA (hst s))):=by
  intro W g b hg hb
  have:=copy_bytes (c2:=192) (cap:=192) (d:=192) (s:=192) (k:=192) hg (by rw[zs_length]) (hst_length s).symm (by rw[zs_length,hst_length];decide) (Bs0.some (bytes_row hb))
  rwa [show (hst s).take 192++(zs 192).drop 192=hst s by rw[List.take_of_length_le (by rw[hst_length];exact Nat.le_refl _),zs_drop];simp[zs]] at this
 have Hcp:=Lib.hid hcp
 clear hs hsb hT hcp
 generalize hst s=H at *
 generalize keyN (drv s rhoL)=D at *
 go_enter Tryz.func79,Tryz.ntmps79
 go_wp2_with fail
 generalize hW:World.alloc _ _=W0
 have R0x0:=Lib.hid (show RowAt W0 (w.heap.size) (bysA s) by rw[←hW];clear hW;exact⟨by go_simp,by first | (go_simp;done) | (go_simp;rfl),by go_simp⟩)
 have R0x1:=Lib.hid (show RowAt W0 (w.heap.size+1) (bysA (zs 192)) by rw[←hW];clear hW;exact⟨by go_simp,by first | (go_simp;done) | (go_simp;rfl),by go_simp⟩)
 have R0x2:=Lib.hid (show RowAt W0 (w.heap.size+1+1) (bysA (zs 192)) by rw[←hW];clear hW;exact⟨by go_simp,by first | (go_simp;done) | (go_simp;rfl),by go_simp⟩)
 have B0:=Lib.hid (show Below w.heap.size w W0 by rw[←hW];repeat (first | apply below_alloc | exact Below.refl _ _))
 clear hW
 have hzs192:=bysA_size' (zs_length 192)
 have l_z:w.heap.size≤w.heap.size:=by omega
 have l_r:w.heap.size≤w.heap.size+1:=by omega
 have n_z_r:w.heap.size≠w.heap.size+1:=by omega
 have l_v:w.heap.size≤w.heap.size+1+1:=by omega
 have n_z_v:w.heap.size≠w.heap.size+1+1:=by omega
 have n_r_v:w.heap.size+1≠w.heap.size+1+1:=by omega
 generalize w.heap.size+1+1=v at *
 generalize w.heap.size+1=r at *
 obtain⟨z,ez⟩:∃ z,z=w.heap.size:=⟨_,rfl⟩
 rw[←ez] at R0x0 n_z_r n_z_v ⊢
 have l_z:w.heap.size≤z:=by rw[ez];exact Nat.le_refl _
 clear ez
 refine(HD.out _ (HT.out.grow B0.out)).mono ?_
 rintro e W1 ⟨rfl,hb1⟩
 have R1x0:=Lib.hid (R0x0.out.grow hb1)
 have R1x1:=Lib.hid (R0x1.out.grow hb1)
 have R1x2:=Lib.hid (R0x2.out.grow hb1)
 have B1:=Lib.hid (B0.out.trans (hb1.mono B0.out.size))
 clear hb1 B0 R0x0 R0x1 R0x2
 obtain⟨R1x0a,R1x0b,R1x0c⟩:=R1x0.out
 obtain⟨R1x1a,R1x1b,R1x1c⟩:=R1x1.out
 obtain⟨R1x2a,R1x2b,R1x2c⟩:=R1x2.out
 go_wp2_with fail
 refine(HS.out _).mono ?_
 rintro e W2 ⟨g,rfl,hg,_,hb2⟩
 have HG:=Lib.hid hg
 clear hg
 clear R1x0a R1x0b R1x0c R1x1a R1x1b R1x1c R1x2a R1x2b R1x2c
 have R2x0:=Lib.hid (R1x0.out.grow hb2)
 have R2x1:=Lib.hid (R1x1.out.grow hb2)
 have R2x2:=Lib.hid (R1x2.out.grow hb2)
 have B2:=Lib.hid (B1.out.trans (hb2.mono B1.out.size))
 clear hb2 B1 R1x0 R1x1 R1x2
 have hcp:=Hcp.out _ _ _ R2x2.out HG.out
 obtain⟨R2x0a,R2x0b,R2x0c⟩:=R2x0.out
 obtain⟨R2x1a,R2x1b,R2x1c⟩:=R2x1.out
 obtain⟨R2x2a,R2x2b,R2x2c⟩:=R2x2.out
 go_wp2_with fail
 refine bodyPost_ret (v:=.agg (bysA H)) (results_wide Tryz.results79 hh _ _ _ rfl (by go_simp) (by go_simp)) rfl ⟨rfl,?_⟩
 exact below_setRow (below_setRow (B2.out) l_v _) l_r _
set_option maxHeartbeats 1000000 in
set_option maxRecDepth 100000 in
theorem htag_c (s:List Nat) (hs:s.length=32) (hsb:∀ i,s.getD i 0<256) (w:World) (hT:Tabs w) :
  Calls Tryz.prog 52 #[.agg (bysA s)] w fun e w'=>e=.returned (.agg (bysA (tagS s)))∧Below w.heap.size w w':=by
 have hss:=bysA_size' hs
 have ht:=bysA_size' (tagS_length s)
 have HD:=Lib.hid (fun (W:World) (h:Tabs W)=>drv_tau s hs hsb W h)
 have HDl:=Lib.hid (keyN_length (drv s tauL))
 have HT:=Lib.hid hT
 unfold tagS at *
 clear hs hsb hT
 generalize keyN (drv s tauL)=D at *
 go_enter Tryz.func52,Tryz.ntmps52
 go_wp2_with fail
 generalize hW:World.alloc _ _=W0
 have R0x0:=Lib.hid (show RowAt W0 (w.heap.size) (bysA s) by rw[←hW];clear hW;exact⟨by go_simp,by first | (go_simp;done) | (go_simp;rfl),by go_simp⟩)
 have R0x1:=Lib.hid (show RowAt W0 (w.heap.size+1) (bysA (zs 16)) by rw[←hW];clear hW;exact⟨by go_simp,by first | (go_simp;done) | (go_simp;rfl),by go_simp⟩)
 have B0:=Lib.hid (show Below w.heap.size w W0 by rw[←hW];repeat (first | apply below_alloc | exact Below.refl _ _))
 clear hW
 have hzs16:=bysA_size' (zs_length 16)
 have l_z:w.heap.size≤w.heap.size:=by omega
 have l_r:w.heap.size≤w.heap.size+1:=by omega
 have n_z_r:w.heap.size≠w.heap.size+1:=by omega
 generalize w.heap.size+1=r at *
 obtain⟨z,ez⟩:∃ z,z=w.heap.size:=⟨_,rfl⟩
 rw[←ez] at R0x0 n_z_r ⊢
 have l_z:w.heap.size≤z:=by rw[ez];exact Nat.le_refl _
 clear ez
 obtain⟨R0x0a,R0x0b,R0x0c⟩:=R0x0.out
 obtain⟨R0x1a,R0x1b,R0x1c⟩:=R0x1.out
 clear R0x0a R0x0b R0x0c R0x1a R0x1b R0x1c
 refine(HD.out _ (HT.out.grow B0.out)).mono ?_
 rintro e W1 ⟨rfl,hb1⟩
 have R1x0:=Lib.hid (R0x0.out.grow hb1)
 have R1x1:=Lib.hid (R0x1.out.grow hb1)
 have B1:=Lib.hid (B0.out.trans (hb1.mono B0.out.size))
 clear hb1 B0 R0x0 R0x1
 obtain⟨R1x0a,R1x0b,R1x0c⟩:=R1x0.out
 obtain⟨R1x1a,R1x1b,R1x1c⟩:=R1x1.out
 go_wp2_with fail
 refine(short_c D HDl.out _).mono ?_
 rintro e W2 ⟨rfl,hb2⟩
 clear R1x0a R1x0b R1x0c R1x1a R1x1b R1x1c
 have R2x0:=Lib.hid (R1x0.out.grow hb2)
 have R2x1:=Lib.hid (R1x1.out.grow hb2)
 have B2:=Lib.hid (B1.out.trans (hb2.mono B1.out.size))
 clear hb2 B1 R1x0 R1x1
 obtain⟨R2x0a,R2x0b,R2x0c⟩:=R2x0.out
 obtain⟨R2x1a,R2x1b,R2x1c⟩:=R2x1.out
 go_wp2_with fail
 refine bodyPost_ret (v:=.agg (bysA (D.take 16))) (results_tag Tryz.results52 ht _ _ _ rfl (by go_simp) (by go_simp)) rfl ⟨rfl,?_⟩
 exact below_setRow (B2.out) l_r _
set_option maxHeartbeats 1000000 in
set_option maxRecDepth 100000 in
theorem blinding_c (s a:List Nat) (hs:s.length=32) (hsb:∀ i,s.getD i 0<256) (ha:a.length=32) (hab:∀ i,a.getD i 0<256) (w:World) (hT:Tabs w) :
  Calls Tryz.prog 49 #[.agg (bysA s),.agg (bysA a)] w fun e w'=>e=.returned (.agg (bysA (bli s a)))∧Below w.heap.size w w':=by
 have hss:=bysA_size' hs
 have has:=bysA_size' ha
 have hm:=bysA_size' (bli_length s a)
 have HM:=Lib.hid (fun (W:World) (h:Tabs W) {p q:Option Addr} (hp:Bs0 W p s) (hq:Bs0 W q a) (hqc:q=none→32=0)=>mac_at (kc:=32) (bc:=32) (m:=32) (nb:=32) hs.symm ha.symm (rfl:mac s a=mac s a) h (by omega) hsb hp (by omega) (by omega) hab hq hqc)
 rw[show (keA (mac s a))=bysA (bli s a) by unfold bli;exact keA_bys _] at HM
 have HT:=Lib.hid hT
 clear hs hsb hT ha hab
 generalize bli s a=M at *
 go_enter Tryz.func49,Tryz.ntmps49
 go_wp2_with fail
 generalize hW:World.alloc _ _=W0
 have R0x0:=Lib.hid (show RowAt W0 (w.heap.size) (bysA s) by rw[←hW];clear hW;exact⟨by go_simp,by first | (go_simp;done) | (go_simp;rfl),by go_simp⟩)
 have R0x1:=Lib.hid (show RowAt W0 (w.heap.size+1) (bysA a) by rw[←hW];clear hW;exact⟨by go_simp,by first | (go_simp;done) | (go_simp;rfl),by go_simp⟩)
 have R0x2:=Lib.hid (show RowAt W0 (w.heap.size+1+1) (bysA (zs 32)) by rw[←hW];clear hW;exact⟨by go_simp,by first | (go_simp;done) | (go_simp;rfl),by go_simp⟩)
 have B0:=Lib.hid (show Below w.heap.size w W0 by rw[←hW];repeat (first | apply below_alloc | exact Below.refl _ _))
 clear hW
 have hzs32:=bysA_size' (zs_length 32)
 have l_z:w.heap.size≤w.heap.size:=by omega
 have l_y:w.heap.size≤w.heap.size+1:=by omega
 have n_z_y:w.heap.size≠w.heap.size+1:=by omega
 have l_r:w.heap.size≤w.heap.size+1+1:=by omega
 have n_z_r:w.heap.size≠w.heap.size+1+1:=by omega
 have n_y_r:w.heap.size+1≠w.heap.size+1+1:=by omega
 generalize w.heap.size+1+1=r at *
 generalize w.heap.size+1=y at *
 obtain⟨z,ez⟩:∃ z,z=w.heap.size:=⟨_,rfl⟩
 rw[←ez] at R0x0 n_z_y n_z_r ⊢
 have l_z:w.heap.size≤z:=by rw[ez];exact Nat.le_refl _
 clear ez
 refine wp_region_pickT W0 [0,1] [true,true] [2,3] (by kernel_rfl) (by kernel_rfl) (by intro c a d v w h;cases d<;>exact h) (by first | exact(Below.refl _ _).drew | exact Below.refl _ _) ?_
 simp only[pick,List.getElem?_cons_succ,List.getElem?_cons_zero]
 iterate 2 (refine wpHoldF_late (wanted_none rfl) (fun w=>by go_simp;rfl) ?_)
 refine wpHoldF_nil ?_
 intro W1 hb1
 have R1x0:=Lib.hid (R0x0.out.grow hb1)
 have R1x1:=Lib.hid (R0x1.out.grow hb1)
 have R1x2:=Lib.hid (R0x2.out.grow hb1)
 have B1:=Lib.hid (B0.out.trans (hb1.mono B0.out.size))
 clear hb1 B0 R0x0 R0x1 R0x2
 go_wp2_with fail
 refine(HM.out _ (HT.out.grow B1.out) (Bs0.some (bytes_row R1x0.out)) (Bs0.some (bytes_row R1x1.out)) (fun h=>by cases h)).mono ?_
 rintro e W2 ⟨rfl,hb2⟩
 have R2x0:=Lib.hid (R1x0.out.grow hb2)
 have R2x1:=Lib.hid (R1x1.out.grow hb2)
 have R2x2:=Lib.hid (R1x2.out.grow hb2)
 have B2:=Lib.hid (B1.out.trans (hb2.mono B1.out.size))
 clear hb2 B1 R1x0 R1x1 R1x2
 obtain⟨R2x0a,R2x0b,R2x0c⟩:=R2x0.out
 obtain⟨R2x1a,R2x1b,R2x1c⟩:=R2x1.out
 obtain⟨R2x2a,R2x2b,R2x2c⟩:=R2x2.out
 go_wp2_with fail
 refine bodyPost_ret (v:=.agg (bysA M)) (results_key Tryz.results49 hm _ _ _ rfl (by go_simp) (by go_simp)) rfl ⟨rfl,?_⟩
 exact below_setRow (B2.out) l_r _
end Go.Proofs.YtddmjddlbhdcpaaGreatDoor

namespace Go.Proofs.YtddmjddlbhdcpaaGreatDoor
open Go.RowKit Go.Hold Go.Sh
structure Moves (w:World) (g:Nat) (ob:Option Nat) (w':World):Prop where
 os:w'.os=w.os
 tape:w'.tape=w.tape
 output:w'.output=w.output
 size:w.heap.size≤w'.heap.size
 block:∀ k,k<w.heap.size→k≠g→some k≠ob→w'.heap[k]?=w.heap[k]?
def NewB (w:World) (ob ob':Option Nat):Prop:=∀ k,ob'=some k→ob=some k∨w.heap.size≤k
theorem NewB.refl (w:World) (ob:Option Nat):NewB w ob ob:=fun _ h=>.inl h
theorem NewB.trans {w w1:World} {a b c:Option Nat} (h:NewB w a b) (h1:NewB w1 b c) (hs:w.heap.size≤w1.heap.size):NewB w a c:=fun k hk=>by
 rcases h1 k hk with h2 | h2
 ·exact h k h2
 ·exact .inr (Nat.le_trans hs h2)
theorem NewB.ne {w:World} {a b:Option Nat} {k:Nat} (h:NewB w a b) (ha:a≠some k) (hk:k<w.heap.size):b≠some k:=fun e=>by
 rcases h k e with h1 | h1
 ·exact ha h1
 ·omega
theorem Moves.of {w w':World} (g:Nat) (ob:Option Nat) (h:Below w.heap.size w w'):Moves w g ob w':=⟨h.os,h.tape,h.output,h.size,fun k hk _ _=>h.block k hk⟩
theorem Moves.refl (w:World) (g:Nat) (ob:Option Nat):Moves w g ob w:=⟨rfl,rfl,rfl,Nat.le_refl _,fun _ _ _ _=>rfl⟩
theorem Moves.trans {w w1 w2:World} {g:Nat} {a b:Option Nat} (h:Moves w g a w1) (h1:Moves w1 g b w2) (hn:NewB w a b):Moves w g a w2 :=
 ⟨h1.os.trans h.os,h1.tape.trans h.tape,h1.output.trans h.output,Nat.le_trans h.size h1.size,fun k hk hg ha=>by
  rw[h1.block k (Nat.lt_of_lt_of_le hk h.size) hg fun e=>hn.ne (fun e'=>ha e'.symm) hk e.symm,h.block k hk hg ha]⟩
theorem Moves.grow {w w1 w2:World} {g:Nat} {a:Option Nat} (h:Moves w g a w1) (h1:Below w1.heap.size w1 w2):Moves w g a w2:=h.trans (.of g a h1) (.refl w a)
theorem Moves.setCell {w w1:World} {g:Nat} {a:Option Nat} (h:Moves w g a w1) (i:Nat) (v:Value):Moves w g a (w1.setCell ⟨g,i,none⟩ v) :=
 ⟨h.os,h.tape,h.output,by simpa [World.setCell] using h.size,fun k hk hg ha=>by
  simp only[World.setCell,Array.getElem?_modify]
  rw[if_neg (fun e=>hg e.symm),h.block k hk hg ha]⟩
theorem Moves.setRow {w w1:World} {g:Nat} {a:Option Nat} (h:Moves w g a w1) (c:Array Value):Moves w g a (w1.setRow g c) :=
 ⟨h.os,h.tape,h.output,by simpa [World.setRow] using h.size,fun k hk hg ha=>by
  rw[setRow_other w1 g k c hg,h.block k hk hg ha]⟩
theorem Moves.grownBy {w w1 w2:World} {g:Nat} {a:Option Nat} (h:Moves w g a w1) (h1:w1.grownBy w2 a):Moves w g a w2 :=
 ⟨h1.os.trans h.os,h1.tape.trans h.tape,h1.output.trans h.output,Nat.le_trans h.size h1.size,fun k hk hg ha=>by
  rw[h1.block k (Nat.lt_of_lt_of_le hk h.size) (fun e=>ha (by rw[←e])),h.block k hk hg ha]⟩
theorem Moves.below {B:Nat} {w0 w w':World} {g:Nat} {a:Option Nat} (h:Moves w g a w') (hb:Below B w0 w) (hB:B≤w.heap.size) (hg:B≤g) (ha:∀ k,a=some k→B≤k):Below B w0 w' :=
 ⟨h.os.trans hb.os,h.tape.trans hb.tape,h.output.trans hb.output,Nat.le_trans hb.size h.size,fun k hk=>by
  rw[h.block k (by omega) (by omega) (fun e=>by have:=ha k e.symm;omega),hb.block k hk]⟩
theorem RowAt.moves {w w':World} {g n:Nat} {a:Option Nat} {c:Array Value} (h:RowAt w n c) (m:Moves w g a w') (hg:n≠g) (ha:a≠some n):RowAt w' n c:=by
 obtain⟨t,ht⟩:=h.block
 exact RowAt.of (t:=t) (by rw[m.block n h.2.2 hg (fun e=>ha e.symm)];exact ht)
theorem BytesAt.moves {w w':World} {g b o:Nat} {a:Option Nat} {l:List Nat} (h:BytesAt w b o l) (m:Moves w g a w') (hg:b≠g) (ha:a≠some b):BytesAt w' b o l :=
 ⟨Nat.lt_of_lt_of_le h.1 m.size,fun i hi=>by rw[World.cell?_of_block (w:=w) (m.block b h.1 hg (fun e=>ha e.symm))];exact h.2 i hi⟩
def BsIn (w:World) (b:Nat) (p:Option Addr) (l:List Nat):Prop:=l=[]∨∃ o,p=some ⟨b,o,none⟩∧BytesAt w b o l
theorem BsIn.any {w:World} {b:Nat} {p:Option Addr} {l:List Nat} (h:BsIn w b p l):Bs0 w p l:=by
 rcases h with h | ⟨o,e,h⟩
 ·exact .inl h
 ·exact .inr ⟨b,o,e,h⟩
theorem BsIn.moves {w w':World} {g b:Nat} {a:Option Nat} {p:Option Addr} {l:List Nat} (h:BsIn w b p l) (m:Moves w g a w') (hg:b≠g) (ha:a≠some b):BsIn w' b p l:=by
 rcases h with h | ⟨o,e,h⟩
 ·exact .inl h
 ·exact .inr ⟨o,e,h.moves m hg ha⟩
theorem Bs0.moves {w w':World} {g:Nat} {a:Option Nat} {p:Option Addr} {l:List Nat} (h:Bs0 w p l) (m:Moves w g a w') (hne:∀ b o,p=Option.some ⟨b,o,none⟩→b≠g∧a≠Option.some b):Bs0 w' p l:=by
 rcases h with h | ⟨b,o,e,h⟩
 ·exact .inl h
 ·exact .inr ⟨b,o,e,h.moves m (hne b o e).1 (hne b o e).2⟩
theorem OwnB.moves {w w':World} {B g:Nat} {a:Option Nat} {v:Value} {l:List Nat} (h:OwnB w B v l) (m:Moves w g a w') (hg:v.ownBlock≠some g) (ha:∀ k,v.ownBlock=some k→a≠some k):OwnB w' B v l:=by
 refine⟨h.1,?_⟩
 rcases h.2 with hn | ⟨g0,cap,cur,rfl,hb,hx,rest⟩
 ·exact .inl hn
 ·exact .inr ⟨g0,cap,cur,rfl,hb,by
   rw[m.block g0 (Array.getElem?_eq_some_iff.1 hx).1 (fun e=>hg (by rw[e];rfl)) (fun e=>ha g0 rfl e.symm)];exact hx,rest⟩
end Go.Proofs.YtddmjddlbhdcpaaGreatDoor

namespace Go.Proofs.YtddmjddlbhdcpaaGreatDoor
open Go.RowKit Go.Hold Go.Sh Go.Ch
theorem setL_snoc:∀ (vs:List Value) (v:Value) (c:Array Value) (o:Nat),setL c o (vs++[v])=(setL c o vs).setIfInBounds (o+vs.length) v
 | [],_,_,_=>rfl
 | u::vs,v,c,o=>by
  rw[List.cons_append,setL,setL_snoc vs,setL,List.length_cons,show o+1+vs.length=o+(vs.length+1) by omega]
def FrontB (c:Array Value) (l:List Nat):Prop:=l.length≤c.size∧∀ i,i<l.length→c[i]?=some (.int .u8 ((l.getD i 0:Nat):Int))
theorem FrontB.all (l:List Nat):FrontB (bysA l) l:=⟨by rw[bysA_size];exact Nat.le_refl _,fun i hi=>bysA_get l i hi⟩
def xorC (c:Array Value) (l x:List Nat) (k:Nat):Array Value:=setL c 0 (bys ((mixd l x).take k))
theorem xorC_zero (c:Array Value) (l x:List Nat):xorC c l x 0=c:=rfl
theorem xorC_at {c:Array Value} {l x:List Nat} (h:FrontB c l) (k:Nat) (hk:k<l.length):(xorC c l x k)[k]?=some (.int .u8 ((l.getD k 0:Nat):Int)):=by
 unfold xorC
 rw[setL_get,if_neg (by rw[bys_length,List.length_take];omega)]
 exact h.2 k hk
theorem xorC_set {c:Array Value} {l x:List Nat} (hx:x.length=l.length) (k:Nat) (hk:k<l.length):(xorC c l x k).setIfInBounds k (.int .u8 ((l.getD k 0 ^^^ x.getD k 0:Nat):Int))=xorC c l x (k+1):=by
 have hml:(mixd l x).length=l.length:=by rw[mixd_length,hx]
 have h1:(mixd l x).take (k+1)=(mixd l x).take k++[l.getD k 0 ^^^ x.getD k 0]:=by
  rw[List.take_add_one,List.getElem?_eq_getElem (by omega)]
  congr 1
  simp[mixd]
 unfold xorC
 rw[h1,show bys ((mixd l x).take k++[l.getD k 0 ^^^ x.getD k 0])=bys ((mixd l x).take k)++[.int .u8 ((l.getD k 0 ^^^ x.getD k 0:Nat):Int)] by simp[bys],setL_snoc,bys_length,List.length_take,Nat.zero_add,show min k (mixd l x).length=k by omega]
theorem xorC_all (l x:List Nat) (hx:x.length=l.length):xorC (bysA l) l x l.length=bysA (mixd l x):=by
 unfold xorC
 have hml:(mixd l x).length=l.length:=by rw[mixd_length,hx]
 rw[List.take_of_length_le (by omega),setL_bys _ _ (by omega),List.drop_of_length_le (by omega),List.append_nil]
set_option maxHeartbeats 1000000 in
set_option maxRecDepth 100000 in
theorem hxor_c (g n m cb cx:Nat) (q:Option Addr) (c:Array Value) (l x:List Nat) (w:World) (hc:RowAt w g c) (hf:FrontB c l) (hn:n=l.length) (hm:m=l.length) (hx:x.length=l.length) (hl:l.length≤100000) (hlb:∀ i,l.getD i 0<256) (hxb:∀ i,x.getD i 0<256) (hB:Bs w q x g) :
  Calls Tryz.prog 80 #[.slice (some ⟨g,0,none⟩) n cb,.slice q m cx] w fun e w'=>e=.returned (.tuple #[])∧Sets w g (xorC c l x l.length) w':=by
 subst hn hm
 obtain⟨n,en⟩:∃ n,n=l.length:=⟨_,rfl⟩
 have hnl:n≤100000:=by omega
 have En:=Lib.hid en
 have Hx:=Lib.hid hx
 have Hc:=Lib.hid hc
 have Hf:=Lib.hid hf
 have HB:=Lib.hid hB
 have Hlb:=Lib.hid hlb
 have Hxb:=Lib.hid hxb
 rw[←en]
 clear hc hf hl hlb hxb hB hx en
 go_enter Tryz.func80,Tryz.ntmps80
 go_wp2_with fail
 go_loopw [8] (fun i wr=>∃ k:Nat,k≤n∧i=.int .i64 k∧Sets w g (xorC c l x k) wr) (fun i _=>n-(intOf i).toNat)
 case atStart=>exact⟨0,Nat.zero_le _,rfl,by rw[xorC_zero];exact Sets.refl Hc.out⟩
 case round =>
  obtain⟨k,hk,rfl,hset⟩:=hrel
  by_cases hkn:k<n
  ·have hk0:(0:Int)≤(k:Int):=by omega
   have hk1:(k:Int)<(n:Int):=by omega
   have hkl:k<l.length:=by rw[←En.out];exact hkn
   obtain⟨b,o,eq,hb,hbg⟩:∃ b o,q=some ⟨b,o,none⟩∧BytesAt w b o x∧b≠g:=by
    rcases HB.out with h | h
    ·exfalso;have:=Hx.out;rw[h] at this;simp at this;omega
    ·exact h
   subst eq
   have hcx:=(hset.bytes hb hbg).2 k (by rw[Hx.out];exact hkl)
   have hrow:=hset.row Hc.out
   have hck:=hrow.cellAt k (xorC_at Hf.out k hkl)
   have hfk:=hrow.frozenAt k
   have hxx:=u8_xor_nat (l.getD k 0) (x.getD k 0) (Hlb.out k) (Hxb.out k)
   have hst:=hset.cell Hc.out (i:=k) (v:=.int .u8 ((l.getD k 0 ^^^ x.getD k 0:Nat):Int))
   rw[xorC_set Hx.out k hkl] at hst
   have Hst:=Lib.hid hst
   generalize l.getD k 0=y at *
   generalize x.getD k 0=z at *
   generalize y ^^^ z=v at *
   have hgl:=hrow.2.2
   clear hst hset hrow hb hkl
   go_wp2_with fail
   go_roundw
   case rel=>exact⟨k+1,by omega,by go_num,Hst.out⟩
   case measure=>simp[intOf];omega
  ·obtain rfl:k=n:=by omega
   have HS:=Lib.hid hset
   clear hset
   go_wp2_with fail
   go_end0
   exact⟨rfl,HS.out⟩
end Go.Proofs.YtddmjddlbhdcpaaGreatDoor

namespace Go.Proofs.YtddmjddlbhdcpaaGreatDoor
open Go.RowKit Go.Hold Go.Sh Go.Cm
theorem below_c (n lim:Int) (w:World) :
  Calls Tryz.prog 68 #[.int .i64 n,.int .i64 lim] w fun e w'=>e=.returned (.bool (decide (0≤n∧n<lim)))∧w'=w:=by
 by_cases h0:0≤n
 ·by_cases h1:n<lim
  ·rw[decide_eq_true ⟨h0,h1⟩]
   go_enter Tryz.func68,Tryz.ntmps68
   go_wp2_with fail
   go_ret
   exact⟨rfl,rfl⟩
  ·rw[decide_eq_false (fun e=>h1 e.2)]
   go_enter Tryz.func68,Tryz.ntmps68
   go_wp2_with fail
   go_ret
   exact⟨rfl,rfl⟩
 ·rw[decide_eq_false (fun e=>h0 e.1)]
  go_enter Tryz.func68,Tryz.ntmps68
  go_wp2_with fail
  go_ret
  exact⟨rfl,rfl⟩
set_option maxHeartbeats 1000000 in
set_option maxRecDepth 100000 in
theorem may_c (c:Cmd) (hid:c.id.length=8) (w:World) :
  Calls Tryz.prog 30 #[.agg (cmdA c)] w fun e w'=>e=.returned (.bool c.may)∧Below w.heap.size w w':=by
 have hcs:=cmdA_size hid
 have hz8:(zs 8).length=8:=rfl
 have BA:=Lib.hid (below_alloc (Below.refl w.heap.size w) (.cells (cmdA c) 51))
 have K:=Lib.hid (fun (lim:Int) (n:Int) (W:World)=>below_c n lim W)
 by_cases k1:c.k=1
 ·have hm:c.may=(decide (0≤c.n∧c.n<16) && decide (0≤c.d∧c.d<65) && decide (c.id=zs 8)):=by unfold Cmd.may;rw[if_pos k1]
  have K1:=Lib.hid (K.out 16 c.n)
  have K2:=Lib.hid (K.out 65 c.d)
  rw[hm]
  generalize decide (0≤c.n∧c.n<16)=b1 at *
  generalize decide (0≤c.d∧c.d<65)=b2 at *
  clear hm K
  go_enter Tryz.func30,Tryz.ntmps30
  go_wp2_with fail
  refine(K1.out _).mono ?_
  rintro e w' ⟨rfl,rfl⟩
  cases b1
  ·go_wp2_with fail
   go_ret
   exact⟨rfl,BA.out⟩
  go_wp2_with fail
  refine(K2.out _).mono ?_
  rintro e w' ⟨rfl,rfl⟩
  cases b2
  ·go_wp2_with fail
   go_ret
   exact⟨rfl,BA.out⟩
  go_wp2_with fail
  go_ret
  exact⟨rfl,BA.out⟩
 by_cases k2:c.k=2
 ·have hm:c.may=(decide (0≤c.n∧c.n<8) && decide (c.d=0) && decide (c.id=zs 8)):=by unfold Cmd.may;rw[if_neg k1,if_pos k2]
  have K1:=Lib.hid (K.out 8 c.n)
  rw[hm]
  generalize decide (0≤c.n∧c.n<8)=b1 at *
  clear hm K
  by_cases hd:c.d=0
  ·rw[decide_eq_true hd]
   go_enter Tryz.func30,Tryz.ntmps30
   go_wp2_with fail
   refine(K1.out _).mono ?_
   rintro e w' ⟨rfl,rfl⟩
   cases b1
   ·go_wp2_with fail
    go_ret
    exact⟨rfl,BA.out⟩
   go_wp2_with fail
   go_ret
   exact⟨rfl,BA.out⟩
  rw[decide_eq_false hd]
  go_enter Tryz.func30,Tryz.ntmps30
  go_wp2_with fail
  refine(K1.out _).mono ?_
  rintro e w' ⟨rfl,rfl⟩
  cases b1
  ·go_wp2_with fail
   go_ret
   exact⟨rfl,BA.out⟩
  go_wp2_with fail
  go_ret
  exact⟨rfl,BA.out⟩
 by_cases k3:c.k=3
 ·have hm:c.may=(decide (0≤c.n∧c.n<8) && decide (c.d=0)):=by unfold Cmd.may;rw[if_neg k1,if_neg k2,if_pos k3]
  have K1:=Lib.hid (K.out 8 c.n)
  rw[hm]
  generalize decide (0≤c.n∧c.n<8)=b1 at *
  clear hm K
  by_cases hd:c.d=0
  ·rw[decide_eq_true hd]
   go_enter Tryz.func30,Tryz.ntmps30
   go_wp2_with fail
   refine(K1.out _).mono ?_
   rintro e w' ⟨rfl,rfl⟩
   cases b1
   ·go_wp2_with fail
    go_ret
    exact⟨rfl,BA.out⟩
   go_wp2_with fail
   go_ret
   exact⟨rfl,BA.out⟩
  rw[decide_eq_false hd]
  have hd2:(c.d == 0)=false:=by simpa using hd
  go_enter Tryz.func30,Tryz.ntmps30
  go_wp2_with fail
  refine(K1.out _).mono ?_
  rintro e w' ⟨rfl,rfl⟩
  cases b1
  ·go_wp2_with fail
   go_ret
   exact⟨rfl,BA.out⟩
  go_wp2_with fail
  go_ret
  exact⟨rfl,BA.out⟩
 by_cases k4:c.k=4
 ·have hm:c.may=(decide (c.n=0) && decide (c.d=0) && decide (c.id=zs 8)):=by unfold Cmd.may;rw[if_neg k1,if_neg k2,if_neg k3,if_pos k4]
  rw[hm]
  clear hm K
  by_cases hn:c.n=0
  ·rw[decide_eq_true hn]
   by_cases hd:c.d=0
   ·rw[decide_eq_true hd]
    go_enter Tryz.func30,Tryz.ntmps30
    go_wp2_with fail
    go_ret
    exact⟨rfl,BA.out⟩
   rw[decide_eq_false hd]
   go_enter Tryz.func30,Tryz.ntmps30
   go_wp2_with fail
   go_ret
   exact⟨rfl,BA.out⟩
  rw[decide_eq_false hn]
  go_enter Tryz.func30,Tryz.ntmps30
  go_wp2_with fail
  go_ret
  exact⟨rfl,BA.out⟩
 have hm:c.may=false:=by unfold Cmd.may;rw[if_neg k1,if_neg k2,if_neg k3,if_neg k4]
 rw[hm]
 clear hm K
 go_enter Tryz.func30,Tryz.ntmps30
 go_wp2_with fail
 go_ret
 exact⟨rfl,BA.out⟩
end Go.Proofs.YtddmjddlbhdcpaaGreatDoor

namespace Go.Proofs.YtddmjddlbhdcpaaGreatDoor
open Go.RowKit Go.Hold Go.Sh Go.Oc
def wrow (mk:Bool) (er room:Int) (v:Value):Array Value:=#[.bool mk,.int .i64 er,.int .i64 room,v]
def rrow (mk:Bool) (er:Int) (v:Value):Array Value:=#[.bool mk,.int .i64 er,v]
theorem stays_c (g:Nat) (mk:Bool) (er:Int) (w:World) (h0:w.cell? ⟨g,0,none⟩=some (.bool mk)) (h1:w.cell? ⟨g,1,none⟩=some (.int .i64 er)) :
  Calls Tryz.prog 140 #[.pointer (some ⟨g,0,none⟩)] w fun e w'=>e=.returned (.int .i64 (if mk then er else 1))∧w'=w:=by
 cases mk
 ·go_enter Tryz.func140,Tryz.ntmps140
  go_wp2_with fail
  go_ret
  exact⟨rfl,rfl⟩
 ·go_enter Tryz.func140,Tryz.ntmps140
  go_wp2_with fail
  go_ret
  exact⟨rfl,rfl⟩
theorem fail_c (g:Nat) (er e0:Int) (w:World) (h1:w.cell? ⟨g,1,none⟩=some (.int .i64 e0)) (hf:w.frozen? ⟨g,1,none⟩=false) :
  Calls Tryz.prog 111 #[.pointer (some ⟨g,0,none⟩),.int .i64 er] w fun e w'=>e=.returned (.int .i64 er)∧w'=w.setCell ⟨g,1,none⟩ (.int .i64 er):=by
 go_enter Tryz.func111,Tryz.ntmps111
 go_wp2_with fail
 go_ret
 exact⟨rfl,rfl⟩
theorem wstopped_c (g:Nat) (mk:Bool) (er:Int) (w:World) (h0:w.cell? ⟨g,0,none⟩=some (.bool mk)) (h1:w.cell? ⟨g,1,none⟩=some (.int .i64 er)) :
  Calls Tryz.prog 156 #[.pointer (some ⟨g,0,none⟩)] w fun e w'=>e=.returned (.int .i64 (if mk then er else 1))∧w'=w:=by
 have K:=Lib.hid (stays_c g mk er w h0 h1)
 generalize (if mk=true then er else 1)=x at *
 go_enter Tryz.func156,Tryz.ntmps156
 go_wp2_with fail
 refine K.out.mono ?_
 rintro e w' ⟨rfl,rfl⟩
 go_wp2_with fail
 go_ret
 exact⟨rfl,rfl⟩
theorem rstopped_c (g:Nat) (mk:Bool) (er:Int) (w:World) (h0:w.cell? ⟨g,0,none⟩=some (.bool mk)) (h1:w.cell? ⟨g,1,none⟩=some (.int .i64 er)) :
  Calls Tryz.prog 110 #[.pointer (some ⟨g,0,none⟩)] w fun e w'=>e=.returned (.int .i64 (if mk then er else 1))∧w'=w:=by
 have K:=Lib.hid (stays_c g mk er w h0 h1)
 generalize (if mk=true then er else 1)=x at *
 go_enter Tryz.func110,Tryz.ntmps110
 go_wp2_with fail
 refine K.out.mono ?_
 rintro e w' ⟨rfl,rfl⟩
 go_wp2_with fail
 go_ret
 exact⟨rfl,rfl⟩
end Go.Proofs.YtddmjddlbhdcpaaGreatDoor

namespace Go.Proofs.YtddmjddlbhdcpaaGreatDoor
open Go.RowKit Go.Hold Go.Sh Go.Oc
def digP (n size i:Nat):List Nat:=(digN n size).take i++zs (size-i)
theorem digP_zero (n size:Nat):digP n size 0=zs size:=by simp[digP]
theorem digP_all (n size:Nat):digP n size size=digN n size:=by
 unfold digP
 rw[List.take_of_length_le (by rw[dig_length];exact Nat.le_refl _),Nat.sub_self];simp[zs]
theorem digP_length (n size i:Nat) (h:i≤size):(digP n size i).length=size:=by
 unfold digP;rw[List.length_append,List.length_take,dig_length,zs_length];omega
theorem digP_set (n size i:Nat) (h:i<size):(digP n size i).set i (dgt n size i)=digP n size (i+1):=by
 unfold digP
 have hx:i<(digN n size).length:=by rw[dig_length];exact h
 have e:zs (size-i)=0::zs (size-(i+1)):=by
  obtain⟨k,hk⟩:∃ k,size-i=k+1:=⟨size-i-1,by omega⟩
  rw[hk,show size-(i+1)=k by omega];rfl
 have hlen:((digN n size).take i).length=i:=by rw[List.length_take];omega
 rw[List.set_append,if_neg (by omega),hlen,Nat.sub_self,e,List.set_cons_zero,List.take_add_one,List.getElem?_eq_getElem hx,List.append_assoc]
 congr 2
 simp[digN]
set_option maxHeartbeats 600000 in
set_option maxRecDepth 100000 in
theorem split_c (n s:Nat) (h0:1≤s) (h8:s≤8) (w:World) :
  Calls Tryz.prog 158 #[.int .u64 (n:Int),.int .i64 (s:Int)] w fun e w'=>∃ g,e=.returned (.slice (some ⟨g,0,none⟩) s s)∧RowAt w' g (bysA (digN n s))∧w.heap.size≤g∧Below w.heap.size w w':=by
 have hmk:=run_mkS w s (by omega)
 have H8:=Lib.hid h8
 have H0:=Lib.hid h0
 obtain⟨s1,es1⟩:∃ y,y=s-1:=⟨_,rfl⟩
 have k1:IntKind.i64.wrap ((s:Int)-1)=(s1:Int):=by rw[IntWalk.i64_in _ (by omega)];omega
 have Es1:=Lib.hid es1
 clear h8 h0 es1
 go_enter Tryz.func158,Tryz.ntmps158
 go_wp2_with fail
 generalize hW:World.alloc _ _=W0
 have R0:=Lib.hid (show RowAt W0 w.heap.size (bysA (digP n s 0)) by rw[←hW,digP_zero];exact RowAt.of (block_new w _))
 have B0:=Lib.hid (show Below w.heap.size w W0 by rw[←hW];exact below_alloc (Below.refl _ _) _)
 clear hW hmk
 have hgl:w.heap.size≤w.heap.size:=Nat.le_refl _
 generalize eg:w.heap.size=g at R0 hgl ⊢
 have Eg:=Lib.hid eg
 clear eg
 go_loopw [11] (fun i wr=>∃ j:Nat,j≤s∧i=.int .i64 j∧Sets W0 g (bysA (digP n s j)) wr) (fun i _=>s-(intOf i).toNat)
 case atStart=>exact⟨0,Nat.zero_le _,rfl,Sets.refl R0.out⟩
 case round =>
  obtain⟨j,hj,rfl,hset⟩:=hrel
  by_cases hj8:j<s
  ·have hj0:(0:Int)≤(j:Int):=by omega
   have hj1:(j:Int)<(s:Int):=by omega
   have hjb:(j:Int)<8:=by have:=H8.out;omega
   have hrow:=hset.row R0.out
   have hc:=hrow.cellAt j (bysA_get _ j (by rw[digP_length _ _ _ hj];exact hj8))
   have hf:=hrow.frozenAt j
   obtain⟨t,et⟩:∃ y,y=s-1-j:=⟨_,rfl⟩
   have hw0:IntKind.i64.wrap ((s1:Int)-(j:Int))=(t:Int):=by rw[IntWalk.i64_in _ (by have:=H8.out;have:=Es1.out;omega)];have:=Es1.out;omega
   obtain⟨y,ey⟩:∃ y,y=8*t:=⟨_,rfl⟩
   have hw1:IntKind.i64.wrap (8*(t:Int))=(y:Int):=by rw[IntWalk.i64_in _ (by have:=H8.out;omega)];omega
   have hy0:(0:Int)≤(y:Int):=by omega
   have hy1:(y:Int)≤64:=by have:=H8.out;omega
   obtain⟨x,ex⟩:∃ x,x=dgt n s j:=⟨_,rfl⟩
   have hx:(n:Int)/2^y%256=(x:Int):=by rw[ex,ey,et];unfold dgt;simp
   have Hset:=Lib.hid (digP_set n s j hj8)
   rw[←ex] at Hset
   have HS:=Lib.hid hset
   have hg3:=hrow.2.2
   clear hset hrow ex ey et
   go_wp2_with fail
   go_roundw
   case rel =>
    refine⟨j+1,by omega,by go_num,?_⟩
    rw[←Hset.out,←bysA_set];exact HS.out.cell R0.out
   case measure=>simp[intOf];omega
  ·obtain rfl:j=s:=by omega
   have R1:=Lib.hid (hset.row R0.out)
   have B1:=Lib.hid (hset.below B0.out (by rw[Eg.out];exact hgl) B0.out.size)
   rw[digP_all] at R1
   clear hset
   go_wp2_with fail
   go_ret
   exact⟨g,rfl,R1.out,Nat.le_of_eq Eg.out,B1.out⟩
@[go_sem] theorem run_eqlNil8 (a:Option Addr) (l c:Nat) (w:World):(binOp .eql 38 (.slice a l c) (.slice none 0 0)).run Tryz.prog w=.ok (.bool a.isNone) w:=by
 simp only[binOp]
 simp[run_equal_slice_nil w 38 5 a l c Tryz.underlying38]
set_option maxHeartbeats 400000 in
set_option maxRecDepth 100000 in
theorem clone_c (p:Option Addr) (l:List Nat) (n cap:Nat) (w:World) (hn:n=l.length) (hB:Bs0 w p l) (hp:p=none→cap=0) (hl:l.length≤16000000) :
  Calls Tryz.prog 109 #[.slice p n cap] w fun e w'=>∃ v,e=.returned v∧OwnB w' w.heap.size v l∧Below w.heap.size w w':=by
 cases p with
 | none =>
  have hl0:l=[]:=by
   rcases hB with h | ⟨b,o,h,_⟩
   ·exact h
   ·cases h
  subst hl0
  subst hn
  rw[hp rfl]
  go_enter Tryz.func109,Tryz.ntmps109
  go_wp2_with fail
  go_ret
  exact⟨_,rfl,own_nil w _,Below.refl _ _⟩
 | some a =>
  have BA:=below_alloc (Below.refl w.heap.size w) (.cells #[] 5)
  have hE:=ownB_empty w w.heap.size (Nat.le_refl _)
  obtain⟨v1,w1,hr1,ho1,hg1⟩:=app_own (cap:=cap) hE (hB.grow BA) hn (fun h=>by cases h) BA.size (by simp only[List.length_nil];omega)
  have hb1:=own_below BA hE BA.size hg1
  rw[List.nil_append] at ho1
  have HO:=Lib.hid ho1
  have HB:=Lib.hid hb1
  clear BA hE ho1 hg1 hb1 hB hp hl hn
  go_enter Tryz.func109,Tryz.ntmps109
  go_wp2_with (at_builtin;refine Lib.wpList_append_run _ rfl _ _ _ _ rfl _ _ rfl rfl _ _ hr1 ?_)
  go_wp2_with fail
  go_ret
  exact⟨_,rfl,HO.out,HB.out⟩
end Go.Proofs.YtddmjddlbhdcpaaGreatDoor

namespace Go.Proofs.YtddmjddlbhdcpaaGreatDoor
open Go.RowKit Go.Hold Go.Sh Go.Oc
def Wr (w:World) (B g:Nat) (ob:Option Nat) (room:Nat) (s:Ws):Prop :=
 ∃ v,RowAt w g (wrow true s.1 room v)∧OwnB w B v s.2∧v.ownBlock=ob∧ob≠some g∧B≤g∧s.2.length≤room∧room≤65536
def WStep (w:World) (B g:Nat) (ob:Option Nat) (room:Nat) (s':Ws) (w':World):Prop:=∃ ob',Wr w' B g ob' room s'∧NewB w ob ob'∧Moves w g ob w'
theorem Wr.row {w:World} {B g room:Nat} {ob:Option Nat} {s:Ws} (h:Wr w B g ob room s):∃ v,RowAt w g (wrow true s.1 room v):=by
 obtain⟨v,h,_⟩:=h;exact⟨v,h⟩
theorem Wr.lt {w:World} {B g room:Nat} {ob:Option Nat} {s:Ws} (h:Wr w B g ob room s):g<w.heap.size∧∀ k,ob=some k→B≤k∧k<w.heap.size:=by
 obtain⟨v,h,ho,rfl,_⟩:=h
 exact⟨h.2.2,World.ownsRow.lt ho⟩
theorem Wr.base {w:World} {B g room:Nat} {ob:Option Nat} {s:Ws} (h:Wr w B g ob room s):B≤g:=by
 obtain⟨v,_,_,_,_,h,_⟩:=h;exact h
theorem Wr.le {w:World} {B g room:Nat} {ob:Option Nat} {s:Ws} (h:Wr w B g ob room s):s.2.length≤room∧room≤65536:=by
 obtain⟨v,_,_,_,_,_,h⟩:=h;exact h
theorem Wr.apart {w:World} {B g room:Nat} {ob:Option Nat} {s:Ws} (h:Wr w B g ob room s):ob≠some g:=by
 obtain⟨v,_,_,_,h,_⟩:=h;exact h
theorem Wr.moves {w w':World} {B g room g2:Nat} {ob ob2:Option Nat} {s:Ws} (h:Wr w B g ob room s) (m:Moves w g2 ob2 w') (h1:g≠g2) (h2:ob2≠some g) (h3:ob≠some g2) (h4:∀ k,ob=some k→ob2≠some k):Wr w' B g ob room s:=by
 obtain⟨v,hr,ho,rfl,ha⟩:=h
 exact⟨v,RowAt.moves hr m h1 h2,ho.moves m h3 h4,rfl,ha⟩
theorem Wr.grow {w w':World} {B g room:Nat} {ob:Option Nat} {s:Ws} (h:Wr w B g ob room s) (hb:Below w.heap.size w w'):Wr w' B g ob room s:=by
 obtain⟨v,hr,ho,rfl,ha⟩:=h
 exact⟨v,hr.grow hb,ho.below hb,rfl,ha⟩
theorem WStep.below {w0 w w':World} {B g room:Nat} {ob:Option Nat} {s s':Ws} (h:WStep w B g ob room s' w') (h0:Wr w B g ob room s) (hb:Below B w0 w) (hB:B≤w.heap.size):Below B w0 w':=by
 obtain⟨ob',_,_,m⟩:=h
 exact m.below hb hB h0.base fun k hk=>(h0.lt.2 k hk).1
set_option maxHeartbeats 400000 in
set_option maxRecDepth 100000 in
theorem newWriter_c (room:Nat) (h:room≤65536) (w:World) :
  Calls Tryz.prog 128 #[.int .i64 (room:Int)] w fun e w'=>∃ g,e=.returned (.pointer (some ⟨g,0,none⟩))∧Wr w' w.heap.size g none room (0,[])∧Below w.heap.size w w':=by
 have h0:¬(room:Int)<0:=by omega
 have h1:¬(65536:Int)<(room:Int):=by omega
 have H:=Lib.hid h
 clear h
 go_enter Tryz.func128,Tryz.ntmps128
 go_wp2_with fail
 go_ret
 exact⟨_,rfl,⟨_,RowAt.of (block_new w _),own_nil _ _,rfl,(fun e=>by cases e),Nat.le_refl _,Nat.zero_le _,H.out⟩,below_alloc (Below.refl _ _) _⟩
theorem WStep.err {w w1:World} {B g room:Nat} {ob:Option Nat} {s:Ws} (h:Wr w B g ob room s) (hb:Below w.heap.size w w1) (er:Int):WStep w B g ob room (er,s.2) (w1.setCell ⟨g,1,none⟩ (.int .i64 er)):=by
 have hlt:=h.lt
 obtain⟨v,hr,ho,rfl,ha⟩:=h
 have hr1:=hr.grow hb
 rw[setCell_row hr1]
 refine⟨_,⟨v,hr1.set _,?_,rfl,ha⟩,NewB.refl _ _,(Moves.of g _ hb).setRow _⟩
 exact(ho.below hb).moves (Moves.setRow (Moves.refl w1 g none) _) ha.1 (fun _ _ e=>by cases e)
theorem WStep.put {w w1:World} {B g room:Nat} {ob:Option Nat} {s:Ws} {l':List Nat} {v' v0:Value} (h:Wr w B g ob room s) (m:Moves w g ob w1) (hr:RowAt w1 g (wrow true s.1 room v0)) (ho:OwnB w1 B v' l') (hn:NewB w ob v'.ownBlock) (hl:l'.length≤room) :
  WStep w B g ob room (s.1,l') (w1.setCell ⟨g,3,none⟩ v'):=by
 have hlt:=h.lt
 have hap:=h.apart
 have hne:v'.ownBlock≠some g:=hn.ne hap hlt.1
 rw[setCell_row hr]
 refine⟨_,⟨v',hr.set _,?_,rfl,hne,h.base,hl,h.le.2⟩,hn,m.setRow _⟩
 exact ho.moves (Moves.setRow (Moves.refl w1 g none) _) hne (fun _ _ e=>by cases e)
theorem app_new {w:World} {B:Nat} {v:Value} {l m:List Nat} {p:Option Addr} {cap k:Nat} (h:OwnB w B v l) (hB:Bs0 w p m) (hk:k=m.length) (hp:p=none→cap=0) (hBw:B≤w.heap.size) (hlen:l.length+m.length≤16777216) :
  ∃ v' w',(Builtin.append_ #[38,38] 38 #[v,.slice p k cap]).run Tryz.prog w=.ok v' w'∧OwnB w' B v' (l++m)∧w.grownBy w' v.ownBlock∧NewB w v.ownBlock v'.ownBlock:=by
 subst hk
 obtain⟨i0,hi,hz0,hz1,hz2⟩:=info_parts info_u8
 cases p with
 | none =>
  have hm:m=[]:=by
   rcases hB with h | ⟨b,o,h,_⟩
   ·exact h
   ·cases h
  subst hm
  rw[hp rfl]
  exact⟨v,w,run_append_owned_none (P:=Tryz.prog) (w:=w) B _ _ _ i0 1 Tryz.underlying38 hi v _ _ h,by rw[List.append_nil];exact h,⟨rfl,rfl,rfl,Nat.le_refl _,fun _ _ _=>rfl⟩,NewB.refl _ _⟩
 | some a =>
  have hnews:∀ j u,(bys m)[j]?=some u→w.cell? (a.add j)=some u:=by
   rcases hB with rfl | ⟨b,o,he,hB⟩
   ·intro j u hu;simp[bys] at hu
   ·cases he;exact bys_at hB
  obtain⟨v',w',h1,h2,h3,h4⟩:=run_append_own (P:=Tryz.prog) w B 38 38 5 i0 (.int .u8 0) 1 1 Tryz.underlying38 hi hz0 hz1 hz2 rfl (by decide) v l.length (bys l) h a m.length cap (bys m) (by rw[bys_length,Nat.mul_one]) hnews (bys_one m) (maxLen_small hlen) (by omega) hBw
  refine⟨v',w',h1,OwnB.snoc h2,h3,?_⟩
  rcases h.2 with ⟨rfl,h0⟩ | ⟨g0,cap0,cur,rfl,hb,hgg,hc,hm,hs,ht⟩
  ·by_cases hm0:0<m.length
   ·have hr:=run_append_nil (P:=Tryz.prog) w 38 38 5 i0 (.int .u8 0) Tryz.underlying38 hi hz0 a m.length cap (bys m) (by rw[hz1,bys_length,Nat.mul_one]) hnews hm0 (by omega) (by rw[hz2];omega)
    rw[h1] at hr
    cases hr
    intro k hk
    simp only[Value.ownBlock,Option.some.injEq] at hk
    exact .inr (by omega)
   ·intro k hk
    rw[h4.2 ⟨rfl,by omega⟩] at hk
    cases hk
  ·by_cases hroom:l.length+m.length≤cap0
   ·have hr:=run_append_room (P:=Tryz.prog) w 38 38 5 i0 Tryz.underlying38 hi g0 l.length cap0 cur hgg a m.length cap (bys m) (by rw[hz1,bys_length,Nat.mul_one]) hnews (bys_one _) hroom (by rw[hz1,bys_length];omega)
    rw[h1] at hr
    cases hr
    exact NewB.refl _ _
   ·have hr:=run_append_grow (P:=Tryz.prog) w 38 38 5 i0 (.int .u8 0) Tryz.underlying38 hi hz0 ⟨g0,0,none⟩ l.length cap0 (bys l) (by rw[hz1,bys_length,Nat.mul_one]) (World.ownsRow.cells h (g:=g0) rfl) a m.length cap (bys m) (by rw[hz1,bys_length,Nat.mul_one]) hnews (by omega) (by omega) (by rw[hz2];exact growslice_fits (by omega) (by omega))
    rw[h1] at hr
    cases hr
    intro k hk
    simp only[Value.ownBlock,Option.some.injEq] at hk
    exact .inr (by omega)
set_option maxHeartbeats 600000 in
set_option maxRecDepth 100000 in
theorem lay_c (B g:Nat) (ob:Option Nat) (room:Nat) (l m:List Nat) (p:Option Addr) (k cap:Nat) (w:World) (h:Wr w B g ob room (0,l)) (hk:k=m.length) (hB:Bs0 w p m) (hp:p=none→cap=0) :
  Calls Tryz.prog 157 #[.pointer (some ⟨g,0,none⟩),.slice p k cap] w fun e w'=>e=.returned (.int .i64 (layS room l m).1)∧WStep w B g ob room (layS room l m) w':=by
 have H:=Lib.hid h
 obtain⟨v,hr,ho,rfl,hg,hBg,hle,hroom⟩:=h
 simp only at hr ho hle
 have hown:=ho
 have HR:=Lib.hid hr
 obtain⟨p0,c0,rfl,_⟩:=ho.bs
 have hc1:=hr.cellAt 1 (show (wrow true 0 room (.slice p0 l.length c0))[1]?=some (.int .i64 0) from rfl)
 have hc2:=hr.cellAt 2 (show (wrow true 0 room (.slice p0 l.length c0))[2]?=some (.int .i64 (room:Int)) from rfl)
 have hc3:=hr.cellAt 3 (show (wrow true 0 room (.slice p0 l.length c0))[3]?=some (.slice p0 l.length c0) from rfl)
 have hf1:=hr.frozenAt 1
 have hgl:=hr.2.2
 obtain⟨n,en⟩:∃ n,n=l.length:=⟨_,rfl⟩
 obtain⟨q,eq⟩:∃ q,q=room-n:=⟨_,rfl⟩
 have k1:IntKind.i64.wrap ((room:Int)-(n:Int))=(q:Int):=by rw[IntWalk.i64_in _ (by omega)];omega
 by_cases hfull:room<l.length+m.length
 ·have hlay:layS room l m=(8,l):=by unfold layS;rw[if_pos hfull]
  have h1:(q:Int)<(k:Int):=by omega
  have Hg:=Lib.hid hown
  rw[hlay]
  rw[←en] at hc3
  have En:=Lib.hid en
  clear hr ho hg hBg hle hroom hB hp hk hlay hfull eq hc1 hf1 hown en
  go_enter Tryz.func157,Tryz.ntmps157
  go_wp2_with fail
  refine wp_region_fast (fun w'=>∃ o d,w'=w.plus o d) (by kernel_rfl) (by kernel_rfl) ⟨#[],_,rfl⟩ ?_
  iterate 13 (refine wpHold_val ⟨_,#[],0,rfl⟩ (wanted_none rfl) (by rintro K _ ⟨o,d,rfl⟩ hK;go_simp;exact hK _ ⟨o,d,rfl⟩) ?_)
  refine wpHold_nil ?_
  rintro _ ⟨of1,nf1,rfl⟩
  have hb1:=below_more (Below.refl w.heap.size w) of1 nf1
  generalize w.plus of1 nf1=W1 at *
  have hr1:=HR.out.grow hb1
  have KF:=Lib.hid (fail_c g 8 0 W1 (hr1.cellAt 1 rfl) (hr1.frozenAt 1))
  have HS:=Lib.hid (WStep.err H.out hb1 8)
  clear hb1 hr1
  go_wp2_with fail
  refine KF.out.mono ?_
  rintro e w' ⟨rfl,rfl⟩
  go_wp2_with fail
  go_ret
  exact⟨rfl,HS.out⟩
 ·have hlay:layS room l m=(0,l++m):=by unfold layS;rw[if_neg hfull]
  have h1:¬(q:Int)<(k:Int):=by omega
  rw[hlay]
  rw[←en] at hc3
  have En:=Lib.hid en
  have HB:=Lib.hid hB
  have HP:=Lib.hid hp
  have HK:=Lib.hid hk
  have HL:=Lib.hid hfull
  have HRm:=Lib.hid hroom
  have HO:=Lib.hid hown
  clear hr ho hg hBg hle hroom hB hp hk hlay hfull eq hc1 hf1 hown en
  go_enter Tryz.func157,Tryz.ntmps157
  go_wp2_with fail
  refine wp_region_fast (fun w'=>∃ o d,w'=w.plus o d) (by kernel_rfl) (by kernel_rfl) ⟨#[],_,rfl⟩ ?_
  iterate 13 (refine wpHold_val ⟨_,#[],0,rfl⟩ (wanted_none rfl) (by rintro K _ ⟨o,d,rfl⟩ hK;go_simp;exact hK _ ⟨o,d,rfl⟩) ?_)
  refine wpHold_nil ?_
  rintro _ ⟨of1,nf1,rfl⟩
  have hb1:=below_more (Below.refl w.heap.size w) of1 nf1
  generalize w.plus of1 nf1=W1 at *
  have hBs:B≤w.heap.size:=Nat.le_trans H.out.base (Nat.le_of_lt H.out.lt.1)
  obtain⟨v2,w2,hr2,ho2,hg2,hn2⟩:=app_new (cap:=cap) (HO.out.below hb1) (HB.out.grow hb1) HK.out HP.out (Nat.le_trans hBs hb1.size) (by have:=HL.out;have:=HRm.out;omega)
  have m2:Moves w g (Value.slice p0 l.length c0).ownBlock w2:=(Moves.of g _ hb1).grownBy hg2
  have hR1:=HR.out.grow hb1
  have hR2:RowAt w2 g (wrow true 0 room (.slice p0 l.length c0)):=RowAt.moves hR1 (Moves.grownBy (Moves.refl W1 (g+1) _) hg2) (by omega) H.out.apart
  have HS:=Lib.hid (WStep.put H.out m2 hR2 ho2 (fun k hk=>(hn2 k hk).imp id fun h=>Nat.le_trans hb1.size h) (by rw[List.length_append];have:=HL.out;omega))
  have hc3:=hR1.cellAt 3 (show (wrow true 0 room (.slice p0 l.length c0))[3]?=some (.slice p0 l.length c0) from rfl)
  have hd3:=hR2.cellAt 3 (show (wrow true 0 room (.slice p0 l.length c0))[3]?=some (.slice p0 l.length c0) from rfl)
  have hf3:=hR2.frozenAt 3
  obtain⟨p2,c2,rfl,_⟩:=ho2.bs
  clear m2 hR1 hR2 hn2 hg2 ho2 hb1
  generalize (l++m).length=n2 at *
  go_wp2_with (at_builtin;refine Lib.wpList_append_run _ rfl _ _ _ _ rfl _ _ rfl rfl _ _ hr2 ?_)
  go_wp2_with fail
  go_ret
  exact⟨rfl,HS.out⟩
end Go.Proofs.YtddmjddlbhdcpaaGreatDoor

namespace Go.Proofs.YtddmjddlbhdcpaaGreatDoor
open Go.RowKit Go.Hold Go.Sh Go.Oc
theorem WStep.refl {w:World} {B g room:Nat} {ob:Option Nat} {s:Ws} (h:Wr w B g ob room s):WStep w B g ob room s w:=⟨ob,h,NewB.refl _ _,Moves.refl _ _ _⟩
theorem WStep.grown {w w1 w':World} {B g room:Nat} {ob:Option Nat} {s:Ws} (hb:Below w.heap.size w w1) (h:WStep w1 B g ob room s w'):WStep w B g ob room s w':=by
 obtain⟨ob',h1,h2,h3⟩:=h
 exact⟨ob',h1,fun k hk=>(h2 k hk).imp id fun h=>Nat.le_trans hb.size h,(Moves.of g ob hb).trans h3 (NewB.refl _ _)⟩
theorem Wr.stop {w:World} {B g room:Nat} {ob:Option Nat} {s:Ws} (h:Wr w B g ob room s) :
  Calls Tryz.prog 156 #[.pointer (some ⟨g,0,none⟩)] w fun e w'=>e=.returned (.int .i64 s.1)∧w'=w:=by
 obtain⟨v,hr⟩:=h.row
 exact wstopped_c g true s.1 w (hr.cellAt 0 rfl) (hr.cellAt 1 rfl)
set_option maxHeartbeats 600000 in
set_option maxRecDepth 100000 in
theorem wbytes_c (B g:Nat) (ob:Option Nat) (room:Nat) (s:Ws) (m:List Nat) (p:Option Addr) (k cap:Nat) (w:World) (h:Wr w B g ob room s) (hk:k=m.length) (hB:Bs0 w p m) (hp:p=none→cap=0) :
  Calls Tryz.prog 130 #[.pointer (some ⟨g,0,none⟩),.slice p k cap] w fun e w'=>e=.returned (.int .i64 (bytS room s m).1)∧WStep w B g ob room (bytS room s m) w':=by
 have HS:=Lib.hid h.stop
 obtain⟨er,l⟩:=s
 by_cases her:er=0
 ·subst her
  have hs:bytS room (0,l) m=layS room l m:=by unfold bytS;rw[if_neg (by simp)]
  have KL:=Lib.hid (lay_c B g ob room l m p k cap w h hk hB hp)
  rw[hs]
  clear hs h hk hB hp
  go_enter Tryz.func130,Tryz.ntmps130
  go_wp2_with fail
  refine HS.out.mono ?_
  rintro e w' ⟨rfl,rfl⟩
  go_wp2_with fail
  refine KL.out.mono ?_
  rintro e w2 ⟨rfl,hst⟩
  have HT:=Lib.hid hst
  clear hst
  go_wp2_with fail
  go_ret
  exact⟨rfl,HT.out⟩
 ·have hs:bytS room (er,l) m=(er,l):=by unfold bytS;rw[if_pos her]
  have HT:=Lib.hid (WStep.refl h)
  rw[hs]
  clear hs h hk hB hp
  go_enter Tryz.func130,Tryz.ntmps130
  go_wp2_with fail
  refine HS.out.mono ?_
  rintro e w' ⟨rfl,rfl⟩
  go_wp2_with fail
  go_ret
  exact⟨rfl,HT.out⟩
theorem fits_shift (n:Nat) (y:Nat):(n:Int)/2^y=0↔n<2^y:=by
 have h:((n/2^y:Nat):Int)=(n:Int)/2^y:=by simp
 rw[←h]
 have h2:=Nat.div_eq_zero_iff (a:=n) (b:=2^y)
 have h3:=Nat.two_pow_pos y
 constructor
 ·intro h0;have:=h2.1 (by omega);omega
 ·intro h0;have:=h2.2 (.inr h0);omega
set_option maxHeartbeats 1000000 in
set_option maxRecDepth 100000 in
theorem wnum_c (B g:Nat) (ob:Option Nat) (room:Nat) (s:Ws) (n:Nat) (sz:Int) (w:World) (h:Wr w B g ob room s) :
  Calls Tryz.prog 129 #[.pointer (some ⟨g,0,none⟩),.int .u64 (n:Int),.int .i64 sz] w fun e w'=>e=.returned (.int .i64 (numS room s n sz).1)∧WStep w B g ob room (numS room s n sz) w':=by
 have HS:=Lib.hid h.stop
 obtain⟨er,l⟩:=s
 by_cases her:er=0
 ·subst her
  have hs:numS room (0,l) n sz=if ¬Fits n sz then (2,l) else layS room l (digN n sz.toNat):=by unfold numS;rw[if_neg (by simp)]
  rw[hs]
  have hrow:=h.row
  have H:=Lib.hid h
  obtain⟨v,hr⟩:=hrow
  have KF:=Lib.hid (fail_c g 2 0 w (hr.cellAt 1 rfl) (hr.frozenAt 1))
  have HE:=Lib.hid (WStep.err h (Below.refl _ _) 2)
  by_cases h1:sz<1
  ·rw[if_pos (by unfold Fits;omega)]
   clear hs h hr
   go_enter Tryz.func129,Tryz.ntmps129
   go_wp2_with fail
   refine HS.out.mono ?_
   rintro e w' ⟨rfl,rfl⟩
   go_wp2_with fail
   refine KF.out.mono ?_
   rintro e w' ⟨rfl,rfl⟩
   go_wp2_with fail
   go_ret
   exact⟨rfl,HE.out⟩
  ·by_cases h8:8<sz
   ·rw[if_pos (by unfold Fits;omega)]
    clear hs h hr
    go_enter Tryz.func129,Tryz.ntmps129
    go_wp2_with fail
    refine HS.out.mono ?_
    rintro e w' ⟨rfl,rfl⟩
    go_wp2_with fail
    refine KF.out.mono ?_
    rintro e w' ⟨rfl,rfl⟩
    go_wp2_with fail
    go_ret
    exact⟨rfl,HE.out⟩
   ·obtain⟨z,rfl⟩:∃ z:Nat,sz=(z:Int):=⟨sz.toNat,by omega⟩
    rw[Int.toNat_natCast]
    obtain⟨y,ey⟩:∃ y,y=8*z:=⟨_,rfl⟩
    have k1:IntKind.i64.wrap (8*(z:Int))=(y:Int):=by rw[IntWalk.i64_in _ (by omega)];omega
    have hy0:(0:Int)≤(y:Int):=by omega
    have hy1:(y:Int)≤64:=by omega
    have hsh:=fits_shift n y
    by_cases hfit:n<2^y
    ·rw[if_neg (by unfold Fits;rw[Int.toNat_natCast,←ey];omega)]
     have h0:(n:Int)/2^y=0:=hsh.2 hfit
     have KS:=Lib.hid (split_c n z (by omega) (by omega) w)
     have HD:=Lib.hid (dig_length n z)
     clear hs h hr hsh ey hfit KF HE
     go_enter Tryz.func129,Tryz.ntmps129
     go_wp2_with fail
     refine HS.out.mono ?_
     rintro e w' ⟨rfl,rfl⟩
     go_wp2_with fail
     refine KS.out.mono ?_
     rintro e w1 ⟨g1,rfl,hr1,_,hb1⟩
     have KL:=Lib.hid (lay_c B g ob room l (digN n z) (some ⟨g1,0,none⟩) z z w1 (H.out.grow hb1) HD.out.symm (Bs0.some (bytes_row hr1)) (fun h=>by cases h))
     have HB:=Lib.hid hb1
     clear hr1 hb1
     go_wp2_with fail
     refine KL.out.mono ?_
     rintro e w2 ⟨rfl,hst⟩
     have HT:=Lib.hid (hst.grown HB.out)
     clear hst
     go_wp2_with fail
     go_ret
     exact⟨rfl,HT.out⟩
    ·rw[if_pos (by unfold Fits;rw[Int.toNat_natCast,←ey];omega)]
     have h0:((n:Int)/2^y != 0)=true:=by simpa using fun e=>hfit (hsh.1 e)
     clear hs h hr hsh ey hfit
     go_enter Tryz.func129,Tryz.ntmps129
     go_wp2_with fail
     refine HS.out.mono ?_
     rintro e w' ⟨rfl,rfl⟩
     go_wp2_with fail
     refine KF.out.mono ?_
     rintro e w' ⟨rfl,rfl⟩
     go_wp2_with fail
     go_ret
     exact⟨rfl,HE.out⟩
 ·have hs:numS room (er,l) n sz=(er,l):=by unfold numS;rw[if_pos her]
  have HT:=Lib.hid (WStep.refl h)
  rw[hs]
  clear hs h
  go_enter Tryz.func129,Tryz.ntmps129
  go_wp2_with fail
  refine HS.out.mono ?_
  rintro e w' ⟨rfl,rfl⟩
  go_wp2_with fail
  go_ret
  exact⟨rfl,HT.out⟩
end Go.Proofs.YtddmjddlbhdcpaaGreatDoor

namespace Go.Proofs.YtddmjddlbhdcpaaGreatDoor
open Go.RowKit Go.Hold Go.Sh Go.Oc
def WStop (w:World) (v:Value) (er:Int):Prop:=Calls Tryz.prog 156 #[v] w fun e w'=>e=.returned (.int .i64 er)∧w'=w
theorem wfill_stop (po:Option Addr) (er:Int) (her:¬er=0) (a:Value) (w:World) (h:WStop w (.pointer po) er):Calls Tryz.prog 131 #[.pointer po,a] w fun e w'=>e=.returned (.int .i64 er)∧w'=w:=by
 have HS:=Lib.hid h
 unfold WStop at HS
 clear h
 go_enter Tryz.func131,Tryz.ntmps131
 go_wp2_with fail
 refine HS.out.mono ?_
 rintro e w' ⟨rfl,rfl⟩
 go_wp2_with fail
 go_ret
 exact⟨rfl,rfl⟩
theorem wall_stop (po:Option Addr) (er:Int) (her:¬er=0) (w:World) (h:WStop w (.pointer po) er):Calls Tryz.prog 132 #[.pointer po] w fun e w'=>e=.returned (.tuple #[.slice none 0 0,.int .i64 er])∧w'=w:=by
 have HS:=Lib.hid h
 unfold WStop at HS
 clear h
 go_enter Tryz.func132,Tryz.ntmps132
 go_wp2_with fail
 refine HS.out.mono ?_
 rintro e w' ⟨rfl,rfl⟩
 go_wp2_with fail
 refine bodyPost_ret (v:=.tuple #[.slice none 0 0,.int .i64 er]) (results_tmp2 Tryz.results132 _ _ _) rfl ⟨rfl,rfl⟩
set_option maxHeartbeats 1000000 in
set_option maxRecDepth 100000 in
theorem wfill_c (B g:Nat) (ob:Option Nat) (room:Nat) (s:Ws) (to:Int) (w:World) (h:Wr w B g ob room s) :
  Calls Tryz.prog 131 #[.pointer (some ⟨g,0,none⟩),.int .i64 to] w fun e w'=>e=.returned (.int .i64 (filS room s to).1)∧WStep w B g ob room (filS room s to) w':=by
 have HS:=Lib.hid h.stop
 obtain⟨er,l⟩:=s
 by_cases her:er=0
 ·subst her
  have hs:filS room (0,l) to=if to<(l.length:Int) then (2,l) else if (room:Int)<to then (8,l) else layS room l (zs (to.toNat-l.length)):=by unfold filS;rw[if_neg (by simp)]
  rw[hs]
  have H:=Lib.hid h
  have HE:=Lib.hid (fun er=>WStep.err h (Below.refl _ _) er)
  have hle:=h.le
  obtain⟨v,hr,ho,_⟩:=h
  have KF:=Lib.hid (fun er=>fail_c g er 0 w (hr.cellAt 1 rfl) (hr.frozenAt 1))
  obtain⟨p0,c0,rfl,_⟩:=ho.bs
  simp only at hr ho hle
  have hc2:=hr.cellAt 2 (show (wrow true 0 room (.slice p0 l.length c0))[2]?=some (.int .i64 (room:Int)) from rfl)
  have hc3:=hr.cellAt 3 (show (wrow true 0 room (.slice p0 l.length c0))[3]?=some (.slice p0 l.length c0) from rfl)
  have hgl:=hr.2.2
  have HLe:=Lib.hid hle
  obtain⟨n,en⟩:∃ n,n=l.length:=⟨_,rfl⟩
  rw[←en] at hc3 ⊢
  have En:=Lib.hid en
  by_cases h1:to<(n:Int)
  ·rw[if_pos h1]
   have KF2:=Lib.hid (KF.out 2)
   have HE2:=Lib.hid (HE.out 2)
   clear hs hr ho en hle KF HE
   go_enter Tryz.func131,Tryz.ntmps131
   go_wp2_with fail
   refine HS.out.mono ?_
   rintro e w' ⟨rfl,rfl⟩
   go_wp2_with fail
   refine KF2.out.mono ?_
   rintro e w' ⟨rfl,rfl⟩
   go_wp2_with fail
   go_ret
   exact⟨rfl,HE2.out⟩
  ·rw[if_neg h1]
   by_cases h8:(room:Int)<to
   ·rw[if_pos h8]
    have KF2:=Lib.hid (KF.out 8)
    have HE2:=Lib.hid (HE.out 8)
    clear hs hr ho en hle KF HE
    go_enter Tryz.func131,Tryz.ntmps131
    go_wp2_with fail
    refine HS.out.mono ?_
    rintro e w' ⟨rfl,rfl⟩
    go_wp2_with fail
    refine KF2.out.mono ?_
    rintro e w' ⟨rfl,rfl⟩
    go_wp2_with fail
    go_ret
    exact⟨rfl,HE2.out⟩
   ·rw[if_neg h8]
    obtain⟨t,rfl⟩:∃ t:Nat,to=(t:Int):=⟨to.toNat,by omega⟩
    rw[Int.toNat_natCast]
    obtain⟨d,ed⟩:∃ d,d=t-n:=⟨_,rfl⟩
    have k1:IntKind.i64.wrap ((t:Int)-(n:Int))=(d:Int):=by rw[IntWalk.i64_in _ (by omega)];omega
    have hmk:=run_mkS w d (by omega)
    have hbA:=below_alloc (Below.refl w.heap.size w) (.cells (bysA (zs d)) 5)
    have KL:=Lib.hid (lay_c B g ob room l (zs d) (some ⟨w.heap.size,0,none⟩) d d _ (H.out.grow hbA) (zs_length d).symm (Bs0.some (bytes_new w _ _ _)) (fun h=>by cases h))
    have HBA:=Lib.hid hbA
    have hgl2:g<w.heap.size+1:=by omega
    rw[←ed]
    clear hs hr ho en hle KF HE hbA ed
    go_enter Tryz.func131,Tryz.ntmps131
    go_wp2_with fail
    refine HS.out.mono ?_
    rintro e w' ⟨rfl,rfl⟩
    go_wp2_with fail
    refine KL.out.mono ?_
    rintro e w2 ⟨rfl,hst⟩
    have HT:=Lib.hid (hst.grown HBA.out)
    clear hst
    go_wp2_with fail
    go_ret
    exact⟨rfl,HT.out⟩
 ·have hs:filS room (er,l) to=(er,l):=by unfold filS;rw[if_pos her]
  have HT:=Lib.hid (WStep.refl h)
  rw[hs]
  refine(wfill_stop _ er her _ w HS.out).mono ?_
  rintro e w' ⟨rfl,rfl⟩
  exact⟨rfl,HT.out⟩
set_option maxHeartbeats 1000000 in
set_option maxRecDepth 100000 in
theorem wall_c (B g:Nat) (ob:Option Nat) (room:Nat) (s:Ws) (w:World) (h:Wr w B g ob room s) :
  Calls Tryz.prog 132 #[.pointer (some ⟨g,0,none⟩)] w fun e w'=>∃ v,e=.returned (.tuple #[v,.int .i64 s.1])∧OwnB w' w.heap.size v (allL s)∧Below w.heap.size w w':=by
 have HS:=Lib.hid h.stop
 obtain⟨er,l⟩:=s
 by_cases her:er=0
 ·subst her
  have hs:allL (0,l)=l:=by unfold allL;rw[if_neg (by simp)]
  rw[hs]
  have hle:=h.le
  obtain⟨v,hr,ho,rfl,_⟩:=h
  obtain⟨p0,c0,rfl,hb0,_,hp0⟩:=ho.bs
  simp only at hr ho hle
  have hc3:=hr.cellAt 3 (show (wrow true 0 room (.slice p0 l.length c0))[3]?=some (.slice p0 l.length c0) from rfl)
  have hgl:=hr.2.2
  have KC:=Lib.hid (clone_c p0 l l.length c0 w rfl hb0 hp0 (by omega))
  generalize l.length=n at *
  clear hs hr ho hle hb0 hp0
  go_enter Tryz.func132,Tryz.ntmps132
  go_wp2_with fail
  refine HS.out.mono ?_
  rintro e w' ⟨rfl,rfl⟩
  go_wp2_with fail
  refine KC.out.mono ?_
  rintro e w2 ⟨v2,rfl,ho2,hb2⟩
  have HO:=Lib.hid ho2
  have HB:=Lib.hid hb2
  clear ho2 hb2
  go_wp2_with fail
  refine bodyPost_ret (v:=.tuple #[v2,.int .i64 0]) (results_tmp2 Tryz.results132 _ _ _) rfl ⟨_,rfl,HO.out,HB.out⟩
 ·have hs:allL (er,l)=[]:=by unfold allL;rw[if_pos her]
  rw[hs]
  refine(wall_stop _ er her w HS.out).mono ?_
  rintro e w' ⟨rfl,rfl⟩
  exact⟨_,rfl,own_nil _ _,Below.refl _ _⟩
theorem WStep.out {w w':World} {B g room:Nat} {ob:Option Nat} {s s' s2:Ws} (h:WStep w B g ob room s' w') (h0:Wr w B g ob room s) (e:s'=s2) {w0:World} (hb:Below B w0 w) (hB:B≤w.heap.size):∃ ob',Wr w' B g ob' room s2∧Below B w0 w':=by
 subst e
 have h2:=h.below h0 hb hB
 obtain⟨ob',h1,_⟩:=h
 exact⟨ob',h1,h2⟩
end Go.Proofs.YtddmjddlbhdcpaaGreatDoor

namespace Go.Oc
open Go Go.Sh
theorem numS_ok {room:Nat} {l:List Nat} {n sz:Nat} (h1:1≤sz) (h8:sz≤8) (hn:n<2^(8*sz)) (hr:l.length+sz≤room):numS room (0,l) n (sz:Int)=(0,l++digN n sz):=by
 unfold numS
 rw[if_neg (by simp),if_neg (by unfold Fits;rw[Int.toNat_natCast];omega),Int.toNat_natCast]
 unfold layS
 rw[if_neg (by simp only[dig_length];omega)]
theorem bytS_ok {room:Nat} {l m:List Nat} (hr:l.length+m.length≤room):bytS room (0,l) m=(0,l++m):=by
 unfold bytS
 rw[if_neg (by simp)]
 unfold layS
 rw[if_neg (by simp only;omega)]
theorem filS_ok {room:Nat} {l:List Nat} {to:Nat} (h1:l.length≤to) (h2:to≤room):filS room (0,l) (to:Int)=(0,l++zs (to-l.length)):=by
 unfold filS
 rw[if_neg (by simp),if_neg (by simp only;omega),if_neg (by omega),Int.toNat_natCast]
 unfold layS
 rw[if_neg (by simp only[zs_length];omega)]
theorem dig_1 {n:Nat} (h:n<256):digN n 1=[n]:=by
 show [dgt n 1 0]=[n]
 unfold dgt
 rw[show 8*(1-1-0)=0 from rfl,Nat.pow_zero,Nat.div_one,Nat.mod_eq_of_lt h]
theorem dig_2 (n:Nat):digN n 2=[n/256%256,n%256]:=by
 show [dgt n 2 0,dgt n 2 1]=_
 unfold dgt
 rw[show 8*(2-1-0)=8 from rfl,show 8*(2-1-1)=0 from rfl,Nat.pow_zero,Nat.div_one]
theorem rnumS_ok {l:List Nat} {sz:Nat} (h1:1≤sz) (h8:sz≤8) (hr:sz≤l.length):rnumS (0,l) (sz:Int)=(0,l.drop sz):=by
 unfold rnumS
 rw[if_neg (by simp),if_neg (by omega),Int.toNat_natCast]
 unfold takS
 rw[if_neg (by simp only;omega)]
theorem rnumV_ok {l:List Nat} {sz:Nat} (h1:1≤sz) (h8:sz≤8) (hr:sz≤l.length):rnumV (0,l) (sz:Int)=joinN (l.take sz):=by
 unfold rnumV
 rw[if_pos ⟨rfl,by omega,by rw[Int.toNat_natCast];exact hr⟩,Int.toNat_natCast]
theorem rbytS_ok {l:List Nat} {n:Nat} (hr:n≤l.length):rbytS (0,l) (n:Int)=(0,l.drop n):=by
 unfold rbytS
 rw[if_neg (by simp),if_neg (by omega),Int.toNat_natCast]
 unfold takS
 rw[if_neg (by simp only;omega)]
theorem rbytV_ok {l:List Nat} {n:Nat} (hr:n≤l.length):rbytV (0,l) (n:Int)=l.take n:=by
 unfold rbytV
 rw[if_pos ⟨rfl,by omega,by rw[Int.toNat_natCast];exact hr⟩,Int.toNat_natCast]
end Go.Oc

namespace Go.Proofs.YtddmjddlbhdcpaaGreatDoor
open Go.RowKit Go.Hold Go.Sh Go.Oc
theorem wnum_ok {W0 w:World} {g room:Nat} {ob:Option Nat} {l:List Nat} (h:Wr w W0.heap.size g ob room (0,l)) (hb:Below W0.heap.size W0 w) (n sz:Nat) (h1:1≤sz) (h8:sz≤8) (hn:n<2^(8*sz)) (hr:l.length+sz≤room) :
  Calls Tryz.prog 129 #[.pointer (some ⟨g,0,none⟩),.int .u64 (n:Int),.int .i64 (sz:Int)] w fun e w'=>e=.returned (.int .i64 0)∧∃ ob',Wr w' W0.heap.size g ob' room (0,l++digN n sz)∧Below W0.heap.size W0 w':=by
 refine(wnum_c W0.heap.size g ob room (0,l) n (sz:Int) w h).mono ?_
 rintro e w' ⟨rfl,hst⟩
 have hs:=numS_ok (l:=l) h1 h8 hn hr
 exact⟨by rw[hs],hst.out h hs hb hb.size⟩
theorem wbytes_ok {W0 w:World} {g room:Nat} {ob:Option Nat} {l:List Nat} (h:Wr w W0.heap.size g ob room (0,l)) (hb:Below W0.heap.size W0 w) (m:List Nat) (p:Option Addr) (k cap:Nat) (hk:k=m.length) (hB:Bs0 w p m) (hp:p=none→cap=0) (hr:l.length+m.length≤room) :
  Calls Tryz.prog 130 #[.pointer (some ⟨g,0,none⟩),.slice p k cap] w fun e w'=>e=.returned (.int .i64 0)∧∃ ob',Wr w' W0.heap.size g ob' room (0,l++m)∧Below W0.heap.size W0 w':=by
 refine(wbytes_c W0.heap.size g ob room (0,l) m p k cap w h hk hB hp).mono ?_
 rintro e w' ⟨rfl,hst⟩
 have hs:=bytS_ok (l:=l) hr
 exact⟨by rw[hs],hst.out h hs hb hb.size⟩
theorem wfill_ok {W0 w:World} {g room:Nat} {ob:Option Nat} {l:List Nat} (h:Wr w W0.heap.size g ob room (0,l)) (hb:Below W0.heap.size W0 w) (to:Nat) (h1:l.length≤to) (h2:to≤room) :
  Calls Tryz.prog 131 #[.pointer (some ⟨g,0,none⟩),.int .i64 (to:Int)] w fun e w'=>e=.returned (.int .i64 0)∧∃ ob',Wr w' W0.heap.size g ob' room (0,l++zs (to-l.length))∧Below W0.heap.size W0 w':=by
 refine(wfill_c W0.heap.size g ob room (0,l) (to:Int) w h).mono ?_
 rintro e w' ⟨rfl,hst⟩
 have hs:=filS_ok (l:=l) h1 h2
 exact⟨by rw[hs],hst.out h hs hb hb.size⟩
theorem wall_ok {W0 w:World} {g room:Nat} {ob:Option Nat} {l:List Nat} (h:Wr w W0.heap.size g ob room (0,l)) (hb:Below W0.heap.size W0 w) :
  Calls Tryz.prog 132 #[.pointer (some ⟨g,0,none⟩)] w fun e w'=>∃ v,e=.returned (.tuple #[v,.int .i64 0])∧OwnB w' w.heap.size v l∧Below W0.heap.size W0 w':=by
 refine(wall_c W0.heap.size g ob room (0,l) w h).mono ?_
 rintro e w' ⟨v,rfl,ho,hb'⟩
 exact⟨v,rfl,ho,hb.trans (hb'.mono hb.size)⟩
end Go.Proofs.YtddmjddlbhdcpaaGreatDoor

namespace Go.Cm
open Go Go.Sh Go.Oc
theorem enc_steps {k n d:Nat} {id:List Nat} (hk:k<5) (hn:n<16) (hi:id.length=8) :
  (((([]++digN k 1)++digN n 1)++digN d 2)++id)++zs (16-(((([]++digN k 1)++digN n 1)++digN d 2)++id).length)=(Cmd.mk k n d id).enc:=by
 rw[dig_1 (by omega),dig_1 (by omega),dig_2]
 simp[Cmd.enc,hi]
 omega
end Go.Cm
namespace Go.Proofs.YtddmjddlbhdcpaaGreatDoor
open Go.RowKit Go.Hold Go.Sh Go.Oc Go.Cm
set_option maxHeartbeats 1000000 in
set_option maxRecDepth 100000 in
theorem encode_c (c:Cmd) (hid:c.id.length=8) (w:World) :
  Calls Tryz.prog 102 #[.agg (cmdA c)] w fun e w'=>e=.returned (.tuple #[.agg (bysA (encV c)),.int .i64 (encE c)])∧Below w.heap.size w w':=by
 have hcs:=cmdA_size hid
 have hzs:(bysA (zs 16)).size=16:=rfl
 by_cases hm:c.may=false
 ·have hV:encV c=zs 16:=by unfold encV;rw[hm];rfl
  have hE:encE c=2:=by unfold encE;rw[hm];rfl
  rw[hV,hE]
  have KM:=Lib.hid (fun (W:World)=>may_c c hid W)
  rw[hm] at KM
  clear hm hV hE
  go_enter Tryz.func102,Tryz.ntmps102
  go_wp2_with fail
  generalize hW:World.alloc _ _=W0
  have R0:=Lib.hid (show RowAt W0 w.heap.size (cmdA c) by rw[←hW];clear hW;exact⟨by go_simp,by go_simp,by go_simp⟩)
  have T0:=Lib.hid (show RowAt W0 (w.heap.size+1) (bysA (zs 16)) by rw[←hW];clear hW;exact⟨by go_simp,by go_simp;rfl,by go_simp⟩)
  have B0:=Lib.hid (show Below w.heap.size w W0 by rw[←hW];repeat (first | apply below_alloc | exact Below.refl _ _))
  have hz1:w.heap.size≤w.heap.size+1:=by omega
  have hz3:w.heap.size≠w.heap.size+1:=by omega
  generalize w.heap.size+1=t at *
  obtain⟨z,ez⟩:∃ z,z=w.heap.size:=⟨_,rfl⟩
  rw[←ez] at R0 hz1 hz3 ⊢
  have Ez:=Lib.hid ez
  clear ez
  refine(KM.out W0).mono ?_
  rintro e W1 ⟨rfl,hb1⟩
  have R1:=Lib.hid (R0.out.grow hb1)
  have T1:=Lib.hid (T0.out.grow hb1)
  have B1:=Lib.hid (B0.out.trans (hb1.mono B0.out.size))
  clear hb1 hW R0 T0 B0
  clear R1 hz3
  obtain⟨t1,t2,t3⟩:=T1.out
  go_wp2_with fail
  refine bodyPost_ret (v:=.tuple #[.agg (bysA (zs 16)),.int .i64 2]) (results_b16 Tryz.results102 (zs 16) rfl _ _ _ t rfl (by go_simp) (by go_simp) rfl) rfl ⟨rfl,?_⟩
  exact below_setRow B1.out (by rw[←Ez.out];exact hz1) _
 have hm:c.may=true:=by simpa using hm
 have hV:encV c=c.enc:=by unfold encV;rw[hm];rfl
 have hE:encE c=0:=by unfold encE;rw[hm];rfl
 rw[hV,hE]
 have KM:=Lib.hid (fun (W:World)=>may_c c hid W)
 rw[hm] at KM
 obtain⟨⟨ha1,ha2⟩,⟨hb1,hb2⟩,hc1,hc2⟩:=may_range hm
 obtain⟨k,ek⟩:=Int.eq_ofNat_of_zero_le (show 0≤c.k by omega)
 obtain⟨n,en⟩:=Int.eq_ofNat_of_zero_le hb1
 obtain⟨d,ed⟩:=Int.eq_ofNat_of_zero_le hc1
 have HX:=Lib.hid (show (((([]++digN k 1)++digN n 1)++digN d 2)++c.id)++zs (16-(((([]++digN k 1)++digN n 1)++digN d 2)++c.id).length)=c.enc by
  rw[enc_steps (by omega) (by omega) hid,←ek,←en,←ed])
 have HL:=Lib.hid (enc_length hid)
 have HI:=Lib.hid hid
 have u1:IntKind.u64.wrap (k:Int)=(k:Int):=IntWalk.u64_in _ (by omega)
 have u2:IntKind.u64.wrap (n:Int)=(n:Int):=IntWalk.u64_in _ (by omega)
 have u3:IntKind.u64.wrap (d:Int)=(d:Int):=IntWalk.u64_in _ (by omega)
 have V1:=Lib.hid (show k<2^(8*1) by omega)
 have V2:=Lib.hid (show n<2^(8*1) by omega)
 have V3:=Lib.hid (show d<2^(8*2) by omega)
 clear hm hV hE ha1 ha2 hb1 hb2 hc1 hc2
 go_enter Tryz.func102,Tryz.ntmps102
 go_wp2_with fail
 generalize hW:World.alloc _ _=W0
 have R0:=Lib.hid (show RowAt W0 w.heap.size (cmdA c) by rw[←hW];clear hW;exact⟨by go_simp,by go_simp,by go_simp⟩)
 have T0:=Lib.hid (show RowAt W0 (w.heap.size+1) (bysA (zs 16)) by rw[←hW];clear hW;exact⟨by go_simp,by go_simp;rfl,by go_simp⟩)
 have B0:=Lib.hid (show Below w.heap.size w W0 by rw[←hW];repeat (first | apply below_alloc | exact Below.refl _ _))
 have hz1:w.heap.size≤w.heap.size+1:=by omega
 have hz3:w.heap.size≠w.heap.size+1:=by omega
 generalize w.heap.size+1=t at *
 obtain⟨z,ez⟩:∃ z,z=w.heap.size:=⟨_,rfl⟩
 rw[←ez] at R0 hz1 hz3 ⊢
 have Ez:=Lib.hid ez
 clear ez
 refine(KM.out W0).mono ?_
 rintro e W1 ⟨rfl,hb1⟩
 have R1:=Lib.hid (R0.out.grow hb1)
 have T1:=Lib.hid (T0.out.grow hb1)
 have B1:=Lib.hid (B0.out.trans (hb1.mono B0.out.size))
 clear hb1 hW R0 T0 B0
 go_wp2_with fail
 refine(newWriter_c 16 (by decide) W1).mono ?_
 rintro e w2 ⟨g,rfl,hw2,hb2⟩
 have X2:=Lib.hid hw2
 have Y2:=Lib.hid hb2
 have hc0:w2.cell? ⟨z,0,none⟩=some (.int .i64 (k:Int)):=by rw[←ek];exact(R1.out.keep hb2 R1.out.2.2).cellAt 0 (cmdA_0 c)
 clear hw2 hb2
 go_wp2_with fail
 refine(wnum_ok X2.out Y2.out k 1 (by decide) (by decide) V1.out (by simp)).mono ?_
 rintro e w3 ⟨rfl,ob3,hw3,hb3⟩
 have X3:=Lib.hid hw3
 have Y3:=Lib.hid hb3
 have hc0:w3.cell? ⟨z,1,none⟩=some (.int .i64 (n:Int)):=by rw[←en];exact(R1.out.keep hb3 R1.out.2.2).cellAt 1 (cmdA_1 c)
 clear hw3 hb3 X2 Y2
 go_wp2_with fail
 refine(wnum_ok X3.out Y3.out n 1 (by decide) (by decide) V2.out (by simp[dig_length])).mono ?_
 rintro e w4 ⟨rfl,ob4,hw4,hb4⟩
 have X4:=Lib.hid hw4
 have Y4:=Lib.hid hb4
 have hc0:w4.cell? ⟨z,2,none⟩=some (.int .i64 (d:Int)):=by rw[←ed];exact(R1.out.keep hb4 R1.out.2.2).cellAt 2 (cmdA_2 c)
 clear hw4 hb4 X3 Y3
 go_wp2_with fail
 refine(wnum_ok X4.out Y4.out d 2 (by decide) (by decide) V3.out (by simp[dig_length])).mono ?_
 rintro e w5 ⟨rfl,ob5,hw5,hb5⟩
 have X5:=Lib.hid hw5
 have Y5:=Lib.hid hb5
 have HB5:=Lib.hid (Bs0.some (bytes_cmd (R1.out.keep hb5 R1.out.2.2)))
 clear hw5 hb5 X4 Y4
 go_wp2_with fail
 refine(wbytes_ok X5.out Y5.out c.id (some ⟨z,3,none⟩) 8 8 HI.out.symm HB5.out (fun h=>by cases h) (by simp[dig_length,HI.out])).mono ?_
 rintro e w6 ⟨rfl,ob6,hw6,hb6⟩
 have X6:=Lib.hid hw6
 have Y6:=Lib.hid hb6
 clear hw6 hb6 X5 Y5 HB5
 go_wp2_with fail
 refine(wfill_ok X6.out Y6.out 16 (by simp[dig_length,HI.out]) (by decide)).mono ?_
 rintro e w7 ⟨rfl,ob7,hw7,hb7⟩
 rw[HX.out] at hw7
 have X7:=Lib.hid hw7
 have Y7:=Lib.hid hb7
 clear hw7 hb7 X6 Y6
 go_wp2_with fail
 refine(wall_ok X7.out Y7.out).mono ?_
 rintro e w8 ⟨v,rfl,ho,hb8⟩
 obtain⟨p,q,rfl,hs8,_,_⟩:=ho.bs
 rw[HL.out]
 have S8:=Lib.hid hs8
 have T8:=Lib.hid (T1.out.keep hb8 T1.out.2.2)
 have B8:=Lib.hid (B1.out.trans (hb8.mono B1.out.size))
 clear ho hs8 hb8 X7 Y7 R1 T1 B1
 go_wp2_with fail
 generalize hW:World.alloc _ _=W9
 have hbA:Below w8.heap.size w8 W9:=by rw[←hW];exact below_alloc (Below.refl _ _) _
 have N9:=Lib.hid (show RowAt W9 w8.heap.size (bysA (zs 16)) by rw[←hW];clear hW;exact⟨by go_simp,by go_simp;rfl,by go_simp⟩)
 have S9:=Lib.hid (S8.out.grow hbA)
 have T9:=Lib.hid (T8.out.grow hbA)
 have B9:=Lib.hid (B8.out.trans (hbA.mono B8.out.size))
 have hne:t≠w8.heap.size:=by have:=T8.out.2.2;omega
 have hle:w.heap.size≤w8.heap.size:=B8.out.size
 clear hW hbA S8 T8 B8
 generalize w8.heap.size=g9 at *
 have hcp:=copy_bytes (c2:=16) (cap:=q) (d:=16) (s:=16) (k:=16) N9.out (by rw[zs_length]) HL.out.symm (by rw[zs_length,HL.out];decide) S9.out
 rw[show c.enc.take 16++(zs 16).drop 16=c.enc by rw[List.take_of_length_le (by rw[HL.out];exact Nat.le_refl _)];simp[zs]] at hcp
 have N10:=N9.out.set (bysA c.enc)
 have T10:=T9.out.other hne (bysA c.enc)
 have B10:=Lib.hid (below_setRow B9.out hle (bysA c.enc))
 have hes:(bysA c.enc).size=16:=by rw[bysA_size];exact HL.out
 generalize W9.setRow g9 (bysA c.enc)=W10 at *
 obtain⟨n1,n2,n3⟩:=N10
 obtain⟨t1,t2,t3⟩:=T10
 clear N9 S9 T9 B9
 rw[hcp]
 clear hcp
 go_simp
 go_wp2_with fail
 refine bodyPost_ret (v:=.tuple #[.agg (bysA (c.enc)),.int .i64 0]) (results_b16 Tryz.results102 (c.enc) HL.out _ _ _ t rfl (by go_simp) (by go_simp) rfl) rfl ⟨rfl,?_⟩
 exact below_setRow B10.out (by rw[←Ez.out];exact hz1) _
end Go.Proofs.YtddmjddlbhdcpaaGreatDoor

namespace Go.Li
open Go Go.Sh Go.Ch
theorem mixd_comm (a b:List Nat) (h:a.length=b.length):mixd a b=mixd b a:=by
 unfold mixd
 rw[h]
 apply List.map_congr_left
 intro i _
 exact Nat.xor_comm _ _
abbrev Blk:=List Nat × List Nat
def sRd (k:List Nat) (x:Blk):Blk:=(x.1,mixd (strm (mixd k x.1) (zs 12) 0 x.2.length) x.2)
def tRd (k:List Nat) (x:Blk):Blk:=(mixd (keyN (mac k x.2)) x.1,x.2)
def rd (t:Bool) (k:List Nat) (x:Blk):Blk:=if t then tRd k x else sRd k x
structure OkB (x:Blk):Prop where
 left:x.1.length=32
 lb:∀ i,x.1.getD i 0<256
 rb:∀ i,x.2.getD i 0<256
theorem rd_left (t:Bool) (k:List Nat) (x:Blk):(rd t k x).1.length=x.1.length:=by
 cases t
 ·rfl
 ·exact mixd_length _ _
theorem OkB.rd {x:Blk} (h:OkB x) (t:Bool) (k:List Nat):OkB (rd t k x):=by
 refine⟨by rw[rd_left];exact h.left,?_,?_⟩
 ·cases t
  ·exact h.lb
  ·exact mixd_bts (keyN_bts _) h.lb
 ·cases t
  ·exact mixd_bts (strm_bts _ _ _ _) h.rb
  ·exact h.rb
def lab (i:Nat):List Nat:=[108,105,111,110,32,48+i]
def rkey (k:List Nat) (i:Nat):List Nat:=keyN (drv k (purp++lab i))
def rnd (k:List Nat) (i:Nat) (x:Blk):Blk:=rd (i%2 == 0) (rkey k i) x
def rnds (k:List Nat):List Nat→Blk→Blk
 | [],x=>x
 | i::l,x=>rnds k l (rnd k i x)
theorem OkB.rnds {k:List Nat}:∀ (l:List Nat) {x:Blk},OkB x→OkB (rnds k l x)
 | [],_,h=>h
 | _::l,_,h=>OkB.rnds l (h.rd _ _)
def prt (b:List Nat):Blk:=(b.take 32,b.drop 32)
def jn (x:Blk):List Nat:=x.1++x.2
def mixL (k:List Nat) (l:List Nat) (b:List Nat):List Nat:=jn (rnds k l (prt b))
def fwd:List Nat:=[1,2,3,4]
def bwd:List Nat:=[4,3,2,1]
def lockL (k b:List Nat):List Nat:=mixL k fwd b
def unlockL (k b:List Nat):List Nat:=mixL k bwd b
end Go.Li

namespace Go.Proofs.YtddmjddlbhdcpaaGreatDoor
open Go.RowKit Go.Hold Go.Sh Go.Ch Go.Cm Go.Hd
set_option maxHeartbeats 1000000 in
set_option maxRecDepth 100000 in
theorem hproof_c (s b:List Nat) (hs:s.length=32) (hsb:∀ i,s.getD i 0<256) (hb:b.length=160) (hbb:∀ i,b.getD i 0<256) (w:World) (hT:Tabs w) :
  Calls Tryz.prog 24 #[.agg (bysA s),.agg (bysA b)] w fun e w'=>e=.returned (.agg (bysA (prf s b)))∧Below w.heap.size w w':=by
 have hss:=bysA_size' hs
 have hbs:=bysA_size' hb
 have ht:=bysA_size' (prf_length s b)
 have HD:=Lib.hid (fun (W:World) (h:Tabs W)=>drv_mu s hs hsb W h)
 have hds:=bysA_size' (keyN_length (drv s muL))
 have HM:=Lib.hid (fun (W:World) (h:Tabs W) {p q:Option Addr} (hp:Bs0 W p (keyN (drv s muL))) (hq:Bs0 W q b) (hqc:q=none→160=0)=>mac_at (kc:=32) (bc:=160) (m:=32) (nb:=160) (keyN_length _).symm hb.symm (rfl:mac (keyN (drv s muL)) b=mac (keyN (drv s muL)) b) h (by rw[keyN_length];decide) (keyN_bts _) hp (by rw[keyN_length];decide) (by omega) hbb hq hqc)
 rw[keA_bys] at HM
 have HMl:=Lib.hid (keyN_length (mac (keyN (drv s muL)) b))
 unfold prf at *
 have HT:=Lib.hid hT
 clear hs hsb hT hb hbb
 generalize keyN (mac (keyN (drv s muL)) b)=M at *
 generalize keyN (drv s muL)=D at *
 go_enter Tryz.func24,Tryz.ntmps24
 go_wp2_with fail
 generalize hW:World.alloc _ _=W0
 have R0x0:=Lib.hid (show RowAt W0 (w.heap.size) (bysA s) by rw[←hW];clear hW;exact⟨by go_simp,by first | (go_simp;done) | (go_simp;rfl),by go_simp⟩)
 have R0x1:=Lib.hid (show RowAt W0 (w.heap.size+1) (bysA b) by rw[←hW];clear hW;exact⟨by go_simp,by first | (go_simp;done) | (go_simp;rfl),by go_simp⟩)
 have R0x2:=Lib.hid (show RowAt W0 (w.heap.size+1+1) (bysA (zs 16)) by rw[←hW];clear hW;exact⟨by go_simp,by first | (go_simp;done) | (go_simp;rfl),by go_simp⟩)
 have B0:=Lib.hid (show Below w.heap.size w W0 by rw[←hW];repeat (first | apply below_alloc | exact Below.refl _ _))
 clear hW
 have hzs16:=bysA_size' (zs_length 16)
 have l_z:w.heap.size≤w.heap.size:=by omega
 have l_y:w.heap.size≤w.heap.size+1:=by omega
 have n_z_y:w.heap.size≠w.heap.size+1:=by omega
 have l_r:w.heap.size≤w.heap.size+1+1:=by omega
 have n_z_r:w.heap.size≠w.heap.size+1+1:=by omega
 have n_y_r:w.heap.size+1≠w.heap.size+1+1:=by omega
 generalize w.heap.size+1+1=r at *
 generalize w.heap.size+1=y at *
 obtain⟨z,ez⟩:∃ z,z=w.heap.size:=⟨_,rfl⟩
 rw[←ez] at R0x0 n_z_y n_z_r ⊢
 have l_z:w.heap.size≤z:=by rw[ez];exact Nat.le_refl _
 clear ez
 refine(HD.out _ (HT.out.grow B0.out)).mono ?_
 rintro e W1 ⟨rfl,hb1⟩
 have R1x0:=Lib.hid (R0x0.out.grow hb1)
 have R1x1:=Lib.hid (R0x1.out.grow hb1)
 have R1x2:=Lib.hid (R0x2.out.grow hb1)
 have B1:=Lib.hid (B0.out.trans (hb1.mono B0.out.size))
 clear hb1 B0 R0x0 R0x1 R0x2
 obtain⟨R1x0a,R1x0b,R1x0c⟩:=R1x0.out
 obtain⟨R1x1a,R1x1b,R1x1c⟩:=R1x1.out
 obtain⟨R1x2a,R1x2b,R1x2c⟩:=R1x2.out
 go_wp2_with fail
 have n_z_p:z≠W1.heap.size:=Nat.ne_of_lt R1x0.out.2.2
 have n_y_p:y≠W1.heap.size:=Nat.ne_of_lt R1x1.out.2.2
 have n_r_p:r≠W1.heap.size:=Nat.ne_of_lt R1x2.out.2.2
 have l_p:w.heap.size≤W1.heap.size:=B1.out.size
 have hb2:=below_alloc (Below.refl W1.heap.size W1) (.cells (bysA D) 23)
 have N2:=Lib.hid (RowAt.of (block_new W1 (.cells (bysA D) 23)))
 have R2x0:=Lib.hid (R1x0.out.grow hb2)
 have R2x1:=Lib.hid (R1x1.out.grow hb2)
 have R2x2:=Lib.hid (R1x2.out.grow hb2)
 have B2:=Lib.hid (B1.out.trans (hb2.mono B1.out.size))
 clear hb2 B1 R1x0 R1x1 R1x2 R1x0a R1x0b R1x0c R1x1a R1x1b R1x1c R1x2a R1x2b R1x2c
 generalize W1.heap.size=p at *
 generalize W1.alloc (.cells (bysA D) 23)=W2 at *
 refine wp_region_pickT W2 [0,1] [true,true] [2,3,4] (by kernel_rfl) (by kernel_rfl) (by intro c a d v w h;cases d<;>exact h) (by first | exact(Below.refl _ _).drew | exact Below.refl _ _) ?_
 simp only[pick,List.getElem?_cons_succ,List.getElem?_cons_zero]
 iterate 2 (refine wpHoldF_late (wanted_none rfl) (fun w=>by go_simp;rfl) ?_)
 refine wpHoldF_nil ?_
 intro W3 hb3
 have R3x0:=Lib.hid (R2x0.out.grow hb3)
 have R3x1:=Lib.hid (R2x1.out.grow hb3)
 have R3x2:=Lib.hid (R2x2.out.grow hb3)
 have R3x3:=Lib.hid (N2.out.grow hb3)
 have B3:=Lib.hid (B2.out.trans (hb3.mono B2.out.size))
 clear hb3 B2 R2x0 R2x1 R2x2 N2
 go_wp2_with fail
 refine(HM.out _ (HT.out.grow B3.out) (Bs0.some (bytes_row R3x3.out)) (Bs0.some (bytes_row R3x1.out)) (fun h=>by cases h)).mono ?_
 rintro e W4 ⟨rfl,hb4⟩
 have R4x0:=Lib.hid (R3x0.out.grow hb4)
 have R4x1:=Lib.hid (R3x1.out.grow hb4)
 have R4x2:=Lib.hid (R3x2.out.grow hb4)
 have R4x3:=Lib.hid (R3x3.out.grow hb4)
 have B4:=Lib.hid (B3.out.trans (hb4.mono B3.out.size))
 clear hb4 B3 R3x0 R3x1 R3x2 R3x3
 obtain⟨R4x0a,R4x0b,R4x0c⟩:=R4x0.out
 obtain⟨R4x1a,R4x1b,R4x1c⟩:=R4x1.out
 obtain⟨R4x2a,R4x2b,R4x2c⟩:=R4x2.out
 obtain⟨R4x3a,R4x3b,R4x3c⟩:=R4x3.out
 go_wp2_with fail
 refine(short_c M HMl.out _).mono ?_
 rintro e W5 ⟨rfl,hb5⟩
 clear R4x0a R4x0b R4x0c R4x1a R4x1b R4x1c R4x2a R4x2b R4x2c R4x3a R4x3b R4x3c
 have R5x0:=Lib.hid (R4x0.out.grow hb5)
 have R5x1:=Lib.hid (R4x1.out.grow hb5)
 have R5x2:=Lib.hid (R4x2.out.grow hb5)
 have R5x3:=Lib.hid (R4x3.out.grow hb5)
 have B5:=Lib.hid (B4.out.trans (hb5.mono B4.out.size))
 clear hb5 B4 R4x0 R4x1 R4x2 R4x3
 obtain⟨R5x0a,R5x0b,R5x0c⟩:=R5x0.out
 obtain⟨R5x1a,R5x1b,R5x1c⟩:=R5x1.out
 obtain⟨R5x2a,R5x2b,R5x2c⟩:=R5x2.out
 obtain⟨R5x3a,R5x3b,R5x3c⟩:=R5x3.out
 go_wp2_with fail
 refine bodyPost_ret (v:=.agg (bysA (M.take 16))) (results_tag Tryz.results24 ht _ _ _ rfl (by go_simp) (by go_simp)) rfl ⟨rfl,?_⟩
 exact below_setRow (B5.out) l_r _
set_option maxHeartbeats 1000000 in
set_option maxRecDepth 100000 in
theorem widened_c (b:List Nat) (hb:b.length=160) (w:World) :
  Calls Tryz.prog 45 #[.agg (bysA b)] w fun e w'=>e=.returned (.agg (bysA (b++zs 32)))∧Below w.heap.size w w':=by
 have hbs:=bysA_size' hb
 have hw:=bysA_size' (show (b++zs 32).length=192 by rw[List.length_append,hb,zs_length])
 have Hcp:=Lib.hid (show b.take 160++(zs 192).drop 160=b++zs 32 by rw[List.take_of_length_le (by omega),zs_drop])
 have Hb:=Lib.hid hb
 clear hb
 go_enter Tryz.func45,Tryz.ntmps45
 go_wp2_with fail
 generalize hW:World.alloc _ _=W0
 have R0x0:=Lib.hid (show RowAt W0 (w.heap.size) (bysA b) by rw[←hW];clear hW;exact⟨by go_simp,by first | (go_simp;done) | (go_simp;rfl),by go_simp⟩)
 have R0x1:=Lib.hid (show RowAt W0 (w.heap.size+1) (bysA (zs 192)) by rw[←hW];clear hW;exact⟨by go_simp,by first | (go_simp;done) | (go_simp;rfl),by go_simp⟩)
 have R0x2:=Lib.hid (show RowAt W0 (w.heap.size+1+1) (bysA (zs 192)) by rw[←hW];clear hW;exact⟨by go_simp,by first | (go_simp;done) | (go_simp;rfl),by go_simp⟩)
 have B0:=Lib.hid (show Below w.heap.size w W0 by rw[←hW];repeat (first | apply below_alloc | exact Below.refl _ _))
 clear hW
 have hzs192:=bysA_size' (zs_length 192)
 have l_y:w.heap.size≤w.heap.size:=by omega
 have l_r:w.heap.size≤w.heap.size+1:=by omega
 have n_y_r:w.heap.size≠w.heap.size+1:=by omega
 have l_v:w.heap.size≤w.heap.size+1+1:=by omega
 have n_y_v:w.heap.size≠w.heap.size+1+1:=by omega
 have n_r_v:w.heap.size+1≠w.heap.size+1+1:=by omega
 generalize w.heap.size+1+1=v at *
 generalize w.heap.size+1=r at *
 obtain⟨y,ey⟩:∃ z,z=w.heap.size:=⟨_,rfl⟩
 rw[←ey] at R0x0 n_y_r n_y_v ⊢
 have l_y:w.heap.size≤y:=by rw[ey];exact Nat.le_refl _
 clear ey
 refine wp_region_pickT W0 [0,1] [true,true] [2] (by kernel_rfl) (by kernel_rfl) (by intro c a d v w h;cases d<;>exact h) (by first | exact(Below.refl _ _).drew | exact Below.refl _ _) ?_
 simp only[pick,List.getElem?_cons_succ,List.getElem?_cons_zero]
 iterate 2 (refine wpHoldF_late (wanted_none rfl) (fun w=>by go_simp;rfl) ?_)
 refine wpHoldF_nil ?_
 intro W1 hb1
 have R1x0:=Lib.hid (R0x0.out.grow hb1)
 have R1x1:=Lib.hid (R0x1.out.grow hb1)
 have R1x2:=Lib.hid (R0x2.out.grow hb1)
 have B1:=Lib.hid (B0.out.trans (hb1.mono B0.out.size))
 clear hb1 B0 R0x0 R0x1 R0x2
 have hcp:=copy_bytes (c2:=192) (cap:=160) (d:=192) (s:=160) (k:=160) R1x2.out (by rw[zs_length]) Hb.out.symm (by rw[zs_length,Hb.out];decide) (Bs0.some (bytes_row R1x0.out))
 rw[Hcp.out] at hcp
 obtain⟨R1x0a,R1x0b,R1x0c⟩:=R1x0.out
 obtain⟨R1x1a,R1x1b,R1x1c⟩:=R1x1.out
 obtain⟨R1x2a,R1x2b,R1x2c⟩:=R1x2.out
 go_wp2_with fail
 refine bodyPost_ret (v:=.agg (bysA (b++zs 32))) (results_wide Tryz.results45 hw _ _ _ rfl (by go_simp) (by go_simp)) rfl ⟨rfl,?_⟩
 exact below_setRow (below_setRow (B1.out) l_v _) l_r _
set_option maxHeartbeats 1000000 in
set_option maxRecDepth 100000 in
theorem turned_c (l s:List Nat) (hl:l.length=192) (hlb:∀ i,l.getD i 0<256) (hs:s.length=32) (hsb:∀ i,s.getD i 0<256) (w:World) (hT:Tabs w) :
  Calls Tryz.prog 46 #[.agg (bysA l),.agg (bysA s)] w fun e w'=>e=.returned (.agg (bysA (mixd (hst s) l)))∧Below w.heap.size w w':=by
 have hss:=bysA_size' hs
 have hls:=bysA_size' hl
 have hhs:=bysA_size' (hst_length s)
 have HS:=Lib.hid (fun (W:World) (h:Tabs W)=>hstream_c s hs hsb W h)
 have Hx:=Lib.hid (show xorC (bysA l) l (hst s) l.length=bysA (mixd (hst s) l) by rw[xorC_all l (hst s) (by rw[hst_length,hl]),Go.Li.mixd_comm _ _ (by rw[hst_length,hl])])
 have hx:=bysA_size' (show (mixd (hst s) l).length=192 by rw[mixd_length,hl])
 have Hl:=Lib.hid hl
 have Hlb:=Lib.hid hlb
 have Hh:=Lib.hid (hst_length s)
 have Hhb:=Lib.hid (hst_bts s)
 have HT:=Lib.hid hT
 clear hl hlb hs hsb hT
 generalize mixd (hst s) l=X at *
 generalize hst s=H at *
 go_enter Tryz.func46,Tryz.ntmps46
 go_wp2_with fail
 generalize hW:World.alloc _ _=W0
 have R0x0:=Lib.hid (show RowAt W0 (w.heap.size) (bysA l) by rw[←hW];clear hW;exact⟨by go_simp,by first | (go_simp;done) | (go_simp;rfl),by go_simp⟩)
 have R0x1:=Lib.hid (show RowAt W0 (w.heap.size+1) (bysA s) by rw[←hW];clear hW;exact⟨by go_simp,by first | (go_simp;done) | (go_simp;rfl),by go_simp⟩)
 have R0x2:=Lib.hid (show RowAt W0 (w.heap.size+1+1) (bysA (zs 192)) by rw[←hW];clear hW;exact⟨by go_simp,by first | (go_simp;done) | (go_simp;rfl),by go_simp⟩)
 have B0:=Lib.hid (show Below w.heap.size w W0 by rw[←hW];repeat (first | apply below_alloc | exact Below.refl _ _))
 clear hW
 have hzs192:=bysA_size' (zs_length 192)
 have l_y:w.heap.size≤w.heap.size:=by omega
 have l_z:w.heap.size≤w.heap.size+1:=by omega
 have n_y_z:w.heap.size≠w.heap.size+1:=by omega
 have l_r:w.heap.size≤w.heap.size+1+1:=by omega
 have n_y_r:w.heap.size≠w.heap.size+1+1:=by omega
 have n_z_r:w.heap.size+1≠w.heap.size+1+1:=by omega
 generalize w.heap.size+1+1=r at *
 generalize w.heap.size+1=z at *
 obtain⟨y,ey⟩:∃ z,z=w.heap.size:=⟨_,rfl⟩
 rw[←ey] at R0x0 n_y_z n_y_r ⊢
 have l_y:w.heap.size≤y:=by rw[ey];exact Nat.le_refl _
 clear ey
 refine(HS.out _ (HT.out.grow B0.out)).mono ?_
 rintro e W1 ⟨rfl,hb1⟩
 have R1x0:=Lib.hid (R0x0.out.grow hb1)
 have R1x1:=Lib.hid (R0x1.out.grow hb1)
 have R1x2:=Lib.hid (R0x2.out.grow hb1)
 have B1:=Lib.hid (B0.out.trans (hb1.mono B0.out.size))
 clear hb1 B0 R0x0 R0x1 R0x2
 obtain⟨R1x0a,R1x0b,R1x0c⟩:=R1x0.out
 obtain⟨R1x1a,R1x1b,R1x1c⟩:=R1x1.out
 obtain⟨R1x2a,R1x2b,R1x2c⟩:=R1x2.out
 go_wp2_with fail
 have n_y_v:y≠W1.heap.size:=Nat.ne_of_lt R1x0.out.2.2
 have n_z_v:z≠W1.heap.size:=Nat.ne_of_lt R1x1.out.2.2
 have n_r_v:r≠W1.heap.size:=Nat.ne_of_lt R1x2.out.2.2
 have l_v:w.heap.size≤W1.heap.size:=B1.out.size
 have hb2:=below_alloc (Below.refl W1.heap.size W1) (.cells (bysA H) 99)
 have N2:=Lib.hid (RowAt.of (block_new W1 (.cells (bysA H) 99)))
 have R2x0:=Lib.hid (R1x0.out.grow hb2)
 have R2x1:=Lib.hid (R1x1.out.grow hb2)
 have R2x2:=Lib.hid (R1x2.out.grow hb2)
 have B2:=Lib.hid (B1.out.trans (hb2.mono B1.out.size))
 clear hb2 B1 R1x0 R1x1 R1x2 R1x0a R1x0b R1x0c R1x1a R1x1b R1x1c R1x2a R1x2b R1x2c
 generalize W1.heap.size=v at *
 generalize W1.alloc (.cells (bysA H) 99)=W2 at *
 refine wp_region_pickT W2 [0,1] [true,true] [2] (by kernel_rfl) (by kernel_rfl) (by intro c a d v w h;cases d<;>exact h) (by first | exact(Below.refl _ _).drew | exact Below.refl _ _) ?_
 simp only[pick,List.getElem?_cons_succ,List.getElem?_cons_zero]
 iterate 2 (refine wpHoldF_late (wanted_none rfl) (fun w=>by go_simp;rfl) ?_)
 refine wpHoldF_nil ?_
 intro W3 hb3
 have R3x0:=Lib.hid (R2x0.out.grow hb3)
 have R3x1:=Lib.hid (R2x1.out.grow hb3)
 have R3x2:=Lib.hid (R2x2.out.grow hb3)
 have R3x3:=Lib.hid (N2.out.grow hb3)
 have B3:=Lib.hid (B2.out.trans (hb3.mono B2.out.size))
 clear hb3 B2 R2x0 R2x1 R2x2 N2
 go_wp2_with fail
 refine(hxor_c y 192 192 192 192 (some ⟨v,0,none⟩) (bysA l) l H W3 R3x0.out (FrontB.all l) Hl.out.symm Hl.out.symm (by rw[Hh.out,Hl.out]) (by rw[Hl.out];decide) Hlb.out Hhb.out (.inr ⟨v,0,rfl,bytes_row R3x3.out,Ne.symm n_y_v⟩)).mono ?_
 rintro e W4 ⟨rfl,hset⟩
 rw[Hx.out] at hset
 have R4x0:=Lib.hid (hset.row R3x0.out)
 have R4x1:=Lib.hid (hset.old R3x1.out (Ne.symm n_y_z))
 have R4x2:=Lib.hid (hset.old R3x2.out (Ne.symm n_y_r))
 have R4x3:=Lib.hid (hset.old R3x3.out (Ne.symm n_y_v))
 have B4:=Lib.hid (hset.below B3.out l_y B3.out.size)
 clear hset B3 R3x0 R3x1 R3x2 R3x3
 obtain⟨R4x0a,R4x0b,R4x0c⟩:=R4x0.out
 obtain⟨R4x1a,R4x1b,R4x1c⟩:=R4x1.out
 obtain⟨R4x2a,R4x2b,R4x2c⟩:=R4x2.out
 obtain⟨R4x3a,R4x3b,R4x3c⟩:=R4x3.out
 go_wp2_with fail
 refine bodyPost_ret (v:=.agg (bysA X)) (results_wide Tryz.results46 hx _ _ _ rfl (by go_simp) (by go_simp)) rfl ⟨rfl,?_⟩
 exact below_setRow (B4.out) l_r _
set_option maxHeartbeats 1000000 in
set_option maxRecDepth 100000 in
theorem wbeta_c (l:List Nat) (hl:l.length=192) (w:World) :
  Calls Tryz.prog 72 #[.agg (bysA l)] w fun e w'=>e=.returned (.agg (bysA (l.take 160)))∧Below w.heap.size w w':=by
 have hls:=bysA_size' hl
 have hXl:(l.take 160).length=160:=by simp[hl]
 have hX:=bysA_size' hXl
 have hz:=bysA_size' (zs_length 160)
 obtain⟨X,eX⟩:∃ X,X=l.take 160:=⟨_,rfl⟩
 have hE:l.take 160=X:=by rw[eX]
 rw[←eX] at hXl hX ⊢
 clear eX hl
 go_enter Tryz.func72,Tryz.ntmps72
 go_wp2_with fail
 refine bodyPost_ret (v:=.agg (bysA X)) (results_beta Tryz.results72 hX _ _ _ rfl (by go_simp) (by go_simp)) rfl ⟨rfl,?_⟩
 repeat (first | apply below_alloc | exact Below.refl _ _)
set_option maxHeartbeats 1000000 in
set_option maxRecDepth 100000 in
theorem wcmd_c (l:List Nat) (hl:l.length=192) (w:World) :
  Calls Tryz.prog 48 #[.agg (bysA l)] w fun e w'=>e=.returned (.agg (bysA (l.take 16)))∧Below w.heap.size w w':=by
 have hls:=bysA_size' hl
 have hXl:(l.take 16).length=16:=by simp[hl]
 have hX:=bysA_size' hXl
 have hz:=bysA_size' (zs_length 16)
 obtain⟨X,eX⟩:∃ X,X=l.take 16:=⟨_,rfl⟩
 have hE:l.take 16=X:=by rw[eX]
 rw[←eX] at hXl hX ⊢
 clear eX hl
 go_enter Tryz.func48,Tryz.ntmps48
 go_wp2_with fail
 refine bodyPost_ret (v:=.agg (bysA X)) (results_b16a Tryz.results48 X hXl _ _ _ rfl (by go_simp) (by go_simp)) rfl ⟨rfl,?_⟩
 repeat (first | apply below_alloc | exact Below.refl _ _)
set_option maxHeartbeats 1000000 in
set_option maxRecDepth 100000 in
theorem wnxb_c (l:List Nat) (hl:l.length=192) (w:World) :
  Calls Tryz.prog 50 #[.agg (bysA l)] w fun e w'=>e=.returned (.agg (bysA (l.drop 32)))∧Below w.heap.size w w':=by
 have hls:=bysA_size' hl
 have hXl:(l.drop 32).length=160:=by simp[hl]
 have hX:=bysA_size' hXl
 have hz:=bysA_size' (zs_length 160)
 obtain⟨X,eX⟩:∃ X,X=l.drop 32:=⟨_,rfl⟩
 have hE:(l.drop 32).take 160=X:=by rw[eX];rw[List.take_of_length_le (by simp[hl])]
 rw[←eX] at hXl hX ⊢
 clear eX hl
 go_enter Tryz.func50,Tryz.ntmps50
 go_wp2_with fail
 refine bodyPost_ret (v:=.agg (bysA X)) (results_beta Tryz.results50 hX _ _ _ rfl (by go_simp) (by go_simp)) rfl ⟨rfl,?_⟩
 repeat (first | apply below_alloc | exact Below.refl _ _)
set_option maxHeartbeats 1000000 in
set_option maxRecDepth 100000 in
theorem wnxg_c (l:List Nat) (hl:l.length=192) (w:World) :
  Calls Tryz.prog 51 #[.agg (bysA l)] w fun e w'=>e=.returned (.agg (bysA ((l.drop 16).take 16)))∧Below w.heap.size w w':=by
 have hls:=bysA_size' hl
 have hXl:((l.drop 16).take 16).length=16:=by simp[hl]
 have hX:=bysA_size' hXl
 have hz:=bysA_size' (zs_length 16)
 obtain⟨X,eX⟩:∃ X,X=(l.drop 16).take 16:=⟨_,rfl⟩
 have hE:(l.drop 16).take 16=X:=by rw[eX]
 rw[←eX] at hXl hX ⊢
 clear eX hl
 go_enter Tryz.func51,Tryz.ntmps51
 go_wp2_with fail
 refine bodyPost_ret (v:=.agg (bysA X)) (results_tag Tryz.results51 hX _ _ _ rfl (by go_simp) (by go_simp)) rfl ⟨rfl,?_⟩
 repeat (first | apply below_alloc | exact Below.refl _ _)
set_option maxHeartbeats 1000000 in
set_option maxRecDepth 100000 in
theorem laid_c (c:Cmd) (hid:c.id.length=8) (g b:List Nat) (hg:g.length=16) (hb:b.length=160) (w:World) :
  Calls Tryz.prog 71 #[.agg (cmdA c),.agg (bysA g),.agg (bysA b)] w fun e w'=>e=.returned (.agg (bysA (encV c++g++b)))∧Below w.heap.size w w':=by
 have hcs:=cmdA_size hid
 have hgs:=bysA_size' hg
 have hbs:=bysA_size' hb
 have HE:=Lib.hid (fun (W:World)=>encode_c c hid W)
 have hC:=encV_length hid
 have hCs:=bysA_size' hC
 have hz16:=bysA_size' (zs_length 16)
 have hws:=bysA_size' (show (encV c++zs 176).length=192 by rw[List.length_append,hC,zs_length])
 have hws2:=bysA_size' (show (encV c++g++zs 160).length=192 by rw[List.length_append,List.length_append,hC,hg,zs_length])
 have hw:=bysA_size' (show (encV c++g++b).length=192 by rw[List.length_append,List.length_append,hC,hg,hb])
 have H1:=Lib.hid (show (zs 192).take 0++(encV c).take 16++(zs 192).drop (0+16)=encV c++zs 176 by rw[List.take_zero,List.nil_append,List.take_of_length_le (by omega),zs_drop])
 have H2:=Lib.hid (show (encV c++zs 176).take 16++g.take 16++(encV c++zs 176).drop (16+16)=encV c++g++zs 160 by rw[List.take_append_of_le_length (by omega),List.take_of_length_le (by omega),List.take_of_length_le (l:=g) (by omega),List.drop_append,List.drop_of_length_le (by omega),List.nil_append,hC,zs_drop])
 have H3:=Lib.hid (show (encV c++g++zs 160).take 32++b.take 160++(encV c++g++zs 160).drop (32+160)=encV c++g++b by rw[List.take_append_of_le_length (by rw[List.length_append];omega),List.take_of_length_le (by rw[List.length_append];omega),List.take_of_length_le (l:=b) (by omega),List.drop_of_length_le (by rw[List.length_append,List.length_append,zs_length];omega),List.append_nil])
 have H1l:=zs_length 192
 have H2l:=show (encV c++zs 176).length=192 by rw[List.length_append,hC,zs_length]
 have H3l:=show (encV c++g++zs 160).length=192 by rw[List.length_append,List.length_append,hC,hg,zs_length]
 have L1:=Lib.hid (And.intro H1l (And.intro H2l H3l))
 have L2:=Lib.hid (And.intro hC (And.intro hg hb))
 clear hid hC hg hb H1l H2l H3l
 generalize encV c++zs 176=X1 at *
 generalize encV c++g++zs 160=X2 at *
 generalize encV c++g++b=X3 at *
 generalize encV c=C at *
 generalize encE c=er at *
 go_enter Tryz.func71,Tryz.ntmps71
 go_wp2_with fail
 generalize hW:World.alloc _ _=W0
 have R0x0:=Lib.hid (show RowAt W0 (w.heap.size) (cmdA c) by rw[←hW];clear hW;exact⟨by go_simp,by first | (go_simp;done) | (go_simp;rfl),by go_simp⟩)
 have R0x1:=Lib.hid (show RowAt W0 (w.heap.size+1) (bysA g) by rw[←hW];clear hW;exact⟨by go_simp,by first | (go_simp;done) | (go_simp;rfl),by go_simp⟩)
 have R0x2:=Lib.hid (show RowAt W0 (w.heap.size+1+1) (bysA b) by rw[←hW];clear hW;exact⟨by go_simp,by first | (go_simp;done) | (go_simp;rfl),by go_simp⟩)
 have R0x3:=Lib.hid (show RowAt W0 (w.heap.size+1+1+1) (bysA (zs 192)) by rw[←hW];clear hW;exact⟨by go_simp,by first | (go_simp;done) | (go_simp;rfl),by go_simp⟩)
 have R0x4:=Lib.hid (show RowAt W0 (w.heap.size+1+1+1+1) (bysA (zs 192)) by rw[←hW];clear hW;exact⟨by go_simp,by first | (go_simp;done) | (go_simp;rfl),by go_simp⟩)
 have B0:=Lib.hid (show Below w.heap.size w W0 by rw[←hW];repeat (first | apply below_alloc | exact Below.refl _ _))
 clear hW
 have hzs192:=bysA_size' (zs_length 192)
 have l_x:w.heap.size≤w.heap.size:=by omega
 have l_y:w.heap.size≤w.heap.size+1:=by omega
 have n_x_y:w.heap.size≠w.heap.size+1:=by omega
 have l_b0:w.heap.size≤w.heap.size+1+1:=by omega
 have n_x_b0:w.heap.size≠w.heap.size+1+1:=by omega
 have n_y_b0:w.heap.size+1≠w.heap.size+1+1:=by omega
 have l_r:w.heap.size≤w.heap.size+1+1+1:=by omega
 have n_x_r:w.heap.size≠w.heap.size+1+1+1:=by omega
 have n_y_r:w.heap.size+1≠w.heap.size+1+1+1:=by omega
 have n_b0_r:w.heap.size+1+1≠w.heap.size+1+1+1:=by omega
 have l_v:w.heap.size≤w.heap.size+1+1+1+1:=by omega
 have n_x_v:w.heap.size≠w.heap.size+1+1+1+1:=by omega
 have n_y_v:w.heap.size+1≠w.heap.size+1+1+1+1:=by omega
 have n_b0_v:w.heap.size+1+1≠w.heap.size+1+1+1+1:=by omega
 have n_r_v:w.heap.size+1+1+1≠w.heap.size+1+1+1+1:=by omega
 generalize w.heap.size+1+1+1+1=v at *
 generalize w.heap.size+1+1+1=r at *
 generalize w.heap.size+1+1=b0 at *
 generalize w.heap.size+1=y at *
 obtain⟨x,ex⟩:∃ z,z=w.heap.size:=⟨_,rfl⟩
 rw[←ex] at R0x0 n_x_y n_x_b0 n_x_r n_x_v ⊢
 have l_x:w.heap.size≤x:=by rw[ex];exact Nat.le_refl _
 clear ex
 refine(HE.out _).mono ?_
 rintro e W1 ⟨rfl,hb1⟩
 have R1x0:=Lib.hid (R0x0.out.grow hb1)
 have R1x1:=Lib.hid (R0x1.out.grow hb1)
 have R1x2:=Lib.hid (R0x2.out.grow hb1)
 have R1x3:=Lib.hid (R0x3.out.grow hb1)
 have R1x4:=Lib.hid (R0x4.out.grow hb1)
 have B1:=Lib.hid (B0.out.trans (hb1.mono B0.out.size))
 clear hb1 B0 R0x0 R0x1 R0x2 R0x3 R0x4
 obtain⟨R1x0a,R1x0b,R1x0c⟩:=R1x0.out
 obtain⟨R1x1a,R1x1b,R1x1c⟩:=R1x1.out
 obtain⟨R1x2a,R1x2b,R1x2c⟩:=R1x2.out
 obtain⟨R1x3a,R1x3b,R1x3c⟩:=R1x3.out
 obtain⟨R1x4a,R1x4b,R1x4c⟩:=R1x4.out
 go_wp2_with fail
 have n_x_p:x≠W1.heap.size:=Nat.ne_of_lt R1x0.out.2.2
 have n_y_p:y≠W1.heap.size:=Nat.ne_of_lt R1x1.out.2.2
 have n_b0_p:b0≠W1.heap.size:=Nat.ne_of_lt R1x2.out.2.2
 have n_r_p:r≠W1.heap.size:=Nat.ne_of_lt R1x3.out.2.2
 have n_v_p:v≠W1.heap.size:=Nat.ne_of_lt R1x4.out.2.2
 have l_p:w.heap.size≤W1.heap.size:=B1.out.size
 have hb2:=below_alloc (Below.refl W1.heap.size W1) (.cells (bysA C) 28)
 have N2:=Lib.hid (RowAt.of (block_new W1 (.cells (bysA C) 28)))
 have R2x0:=Lib.hid (R1x0.out.grow hb2)
 have R2x1:=Lib.hid (R1x1.out.grow hb2)
 have R2x2:=Lib.hid (R1x2.out.grow hb2)
 have R2x3:=Lib.hid (R1x3.out.grow hb2)
 have R2x4:=Lib.hid (R1x4.out.grow hb2)
 have B2:=Lib.hid (B1.out.trans (hb2.mono B1.out.size))
 clear hb2 B1 R1x0 R1x1 R1x2 R1x3 R1x4 R1x0a R1x0b R1x0c R1x1a R1x1b R1x1c R1x2a R1x2b R1x2c R1x3a R1x3b R1x3c R1x4a R1x4b R1x4c
 generalize W1.heap.size=p at *
 generalize W1.alloc (.cells (bysA C) 28)=W2 at *
 refine wp_region_pickT W2 [0,1] [true,true] [2] (by kernel_rfl) (by kernel_rfl) (by intro c a d v w h;cases d<;>exact h) (by first | exact(Below.refl _ _).drew | exact Below.refl _ _) ?_
 simp only[pick,List.getElem?_cons_succ,List.getElem?_cons_zero]
 iterate 2 (refine wpHoldF_late (wanted_none rfl) (fun w=>by go_simp;rfl) ?_)
 refine wpHoldF_nil ?_
 intro W3 hb3
 have R3x0:=Lib.hid (R2x0.out.grow hb3)
 have R3x1:=Lib.hid (R2x1.out.grow hb3)
 have R3x2:=Lib.hid (R2x2.out.grow hb3)
 have R3x3:=Lib.hid (R2x3.out.grow hb3)
 have R3x4:=Lib.hid (R2x4.out.grow hb3)
 have R3x5:=Lib.hid (N2.out.grow hb3)
 have B3:=Lib.hid (B2.out.trans (hb3.mono B2.out.size))
 clear hb3 B2 R2x0 R2x1 R2x2 R2x3 R2x4 N2
 have hcp:=copy_at (u:=0) (c2:=192) (cap:=16) (d:=192) (s:=16) (k:=16) R3x4.out (by rw[L1.out.1];decide) (by rw[L1.out.1]) L2.out.1.symm (by rw[L1.out.1,L2.out.1];decide) (Bs0.some (bytes_row R3x5.out))
 rw[H1.out] at hcp
 obtain⟨R3x0a,R3x0b,R3x0c⟩:=R3x0.out
 obtain⟨R3x1a,R3x1b,R3x1c⟩:=R3x1.out
 obtain⟨R3x2a,R3x2b,R3x2c⟩:=R3x2.out
 obtain⟨R3x3a,R3x3b,R3x3c⟩:=R3x3.out
 obtain⟨R3x4a,R3x4b,R3x4c⟩:=R3x4.out
 obtain⟨R3x5a,R3x5b,R3x5c⟩:=R3x5.out
 go_wp2_with fail
 have R4x0:=Lib.hid (R3x0.out.other n_x_v (bysA X1))
 have R4x1:=Lib.hid (R3x1.out.other n_y_v (bysA X1))
 have R4x2:=Lib.hid (R3x2.out.other n_b0_v (bysA X1))
 have R4x3:=Lib.hid (R3x3.out.other n_r_v (bysA X1))
 have R4x4:=Lib.hid (R3x4.out.set (bysA X1))
 have R4x5:=Lib.hid (R3x5.out.other (Ne.symm n_v_p) (bysA X1))
 have B4:=Lib.hid (below_setRow B3.out l_v (bysA X1))
 clear B3 R3x0 R3x1 R3x2 R3x3 R3x4 R3x5 R3x0a R3x0b R3x0c R3x1a R3x1b R3x1c R3x2a R3x2b R3x2c R3x3a R3x3b R3x3c R3x4a R3x4b R3x4c R3x5a R3x5b R3x5c
 generalize W3.setRow v (bysA X1)=W4 at *
 refine wp_region_pickT W4 [0,1] [true,true] [2] (by kernel_rfl) (by kernel_rfl) (by intro c a d v w h;cases d<;>exact h) (by first | exact(Below.refl _ _).drew | exact Below.refl _ _) ?_
 simp only[pick,List.getElem?_cons_succ,List.getElem?_cons_zero]
 iterate 2 (refine wpHoldF_late (wanted_none rfl) (fun w=>by go_simp;rfl) ?_)
 refine wpHoldF_nil ?_
 intro W5 hb5
 have R5x0:=Lib.hid (R4x0.out.grow hb5)
 have R5x1:=Lib.hid (R4x1.out.grow hb5)
 have R5x2:=Lib.hid (R4x2.out.grow hb5)
 have R5x3:=Lib.hid (R4x3.out.grow hb5)
 have R5x4:=Lib.hid (R4x4.out.grow hb5)
 have R5x5:=Lib.hid (R4x5.out.grow hb5)
 have B5:=Lib.hid (B4.out.trans (hb5.mono B4.out.size))
 clear hb5 B4 R4x0 R4x1 R4x2 R4x3 R4x4 R4x5
 have hcp:=copy_at (u:=16) (c2:=176) (cap:=16) (d:=176) (s:=16) (k:=16) R5x4.out (by rw[L1.out.2.1];decide) (by rw[L1.out.2.1]) L2.out.2.1.symm (by rw[L1.out.2.1,L2.out.2.1];decide) (Bs0.some (bytes_row R5x1.out))
 rw[H2.out] at hcp
 obtain⟨R5x0a,R5x0b,R5x0c⟩:=R5x0.out
 obtain⟨R5x1a,R5x1b,R5x1c⟩:=R5x1.out
 obtain⟨R5x2a,R5x2b,R5x2c⟩:=R5x2.out
 obtain⟨R5x3a,R5x3b,R5x3c⟩:=R5x3.out
 obtain⟨R5x4a,R5x4b,R5x4c⟩:=R5x4.out
 obtain⟨R5x5a,R5x5b,R5x5c⟩:=R5x5.out
 go_wp2_with fail
 have R6x0:=Lib.hid (R5x0.out.other n_x_v (bysA X2))
 have R6x1:=Lib.hid (R5x1.out.other n_y_v (bysA X2))
 have R6x2:=Lib.hid (R5x2.out.other n_b0_v (bysA X2))
 have R6x3:=Lib.hid (R5x3.out.other n_r_v (bysA X2))
 have R6x4:=Lib.hid (R5x4.out.set (bysA X2))
 have R6x5:=Lib.hid (R5x5.out.other (Ne.symm n_v_p) (bysA X2))
 have B6:=Lib.hid (below_setRow B5.out l_v (bysA X2))
 clear B5 R5x0 R5x1 R5x2 R5x3 R5x4 R5x5 R5x0a R5x0b R5x0c R5x1a R5x1b R5x1c R5x2a R5x2b R5x2c R5x3a R5x3b R5x3c R5x4a R5x4b R5x4c R5x5a R5x5b R5x5c
 generalize W5.setRow v (bysA X2)=W6 at *
 refine wp_region_pickT W6 [0,1] [true,true] [2] (by kernel_rfl) (by kernel_rfl) (by intro c a d v w h;cases d<;>exact h) (by first | exact(Below.refl _ _).drew | exact Below.refl _ _) ?_
 simp only[pick,List.getElem?_cons_succ,List.getElem?_cons_zero]
 iterate 2 (refine wpHoldF_late (wanted_none rfl) (fun w=>by go_simp;rfl) ?_)
 refine wpHoldF_nil ?_
 intro W7 hb7
 have R7x0:=Lib.hid (R6x0.out.grow hb7)
 have R7x1:=Lib.hid (R6x1.out.grow hb7)
 have R7x2:=Lib.hid (R6x2.out.grow hb7)
 have R7x3:=Lib.hid (R6x3.out.grow hb7)
 have R7x4:=Lib.hid (R6x4.out.grow hb7)
 have R7x5:=Lib.hid (R6x5.out.grow hb7)
 have B7:=Lib.hid (B6.out.trans (hb7.mono B6.out.size))
 clear hb7 B6 R6x0 R6x1 R6x2 R6x3 R6x4 R6x5
 have hcp:=copy_at (u:=32) (c2:=160) (cap:=160) (d:=160) (s:=160) (k:=160) R7x4.out (by rw[L1.out.2.2];decide) (by rw[L1.out.2.2]) L2.out.2.2.symm (by rw[L1.out.2.2,L2.out.2.2];decide) (Bs0.some (bytes_row R7x2.out))
 rw[H3.out] at hcp
 obtain⟨R7x0a,R7x0b,R7x0c⟩:=R7x0.out
 obtain⟨R7x1a,R7x1b,R7x1c⟩:=R7x1.out
 obtain⟨R7x2a,R7x2b,R7x2c⟩:=R7x2.out
 obtain⟨R7x3a,R7x3b,R7x3c⟩:=R7x3.out
 obtain⟨R7x4a,R7x4b,R7x4c⟩:=R7x4.out
 obtain⟨R7x5a,R7x5b,R7x5c⟩:=R7x5.out
 go_wp2_with fail
 have R8x0:=Lib.hid (R7x0.out.other n_x_v (bysA X3))
 have R8x1:=Lib.hid (R7x1.out.other n_y_v (bysA X3))
 have R8x2:=Lib.hid (R7x2.out.other n_b0_v (bysA X3))
 have R8x3:=Lib.hid (R7x3.out.other n_r_v (bysA X3))
 have R8x4:=Lib.hid (R7x4.out.set (bysA X3))
 have R8x5:=Lib.hid (R7x5.out.other (Ne.symm n_v_p) (bysA X3))
 have B8:=Lib.hid (below_setRow B7.out l_v (bysA X3))
 clear B7 R7x0 R7x1 R7x2 R7x3 R7x4 R7x5 R7x0a R7x0b R7x0c R7x1a R7x1b R7x1c R7x2a R7x2b R7x2c R7x3a R7x3b R7x3c R7x4a R7x4b R7x4c R7x5a R7x5b R7x5c
 generalize W7.setRow v (bysA X3)=W8 at *
 obtain⟨R8x0a,R8x0b,R8x0c⟩:=R8x0.out
 obtain⟨R8x1a,R8x1b,R8x1c⟩:=R8x1.out
 obtain⟨R8x2a,R8x2b,R8x2c⟩:=R8x2.out
 obtain⟨R8x3a,R8x3b,R8x3c⟩:=R8x3.out
 obtain⟨R8x4a,R8x4b,R8x4c⟩:=R8x4.out
 obtain⟨R8x5a,R8x5b,R8x5c⟩:=R8x5.out
 go_wp2_with fail
 refine bodyPost_ret (v:=.agg (bysA X3)) (results_wide Tryz.results71 hw _ _ _ rfl (by go_simp) (by go_simp)) rfl ⟨rfl,?_⟩
 exact below_setRow (B8.out) l_r _
end Go.Proofs.YtddmjddlbhdcpaaGreatDoor

namespace Go
theorem run_append_room_zeros {P:Program} (w:World) (t tn ty e:TypeId) (i:TypeInfo) (z:Value) (kq kn:IntKind) (ht:P.underlying t=some (.slice e)) (htn:P.underlying tn=some (.int kn)) (hi:P.info? e=some i) (hz:i.zero=some z)
  (g sLen sCap:Nat) (cur:Array Value) (hg:w.heap[g]?=some (.cells cur e (0,0))) (k:Nat) (h0:0<k) (hs:0<i.size) (h63:(k:Int)≤9223372036854775807) (h48:k*i.bytes≤281474976710656)
  (h1:∀ u∈(Builtin.zeroCells z.cells k).toList,u.oneCell'=true) (hroom:sLen+k≤sCap) (hfit:sLen*i.size+(Builtin.zeroCells z.cells k).toList.length≤cur.size) :
  (Builtin.append_ #[t,tn] ty #[.slice (some ⟨g,0,none⟩) sLen sCap,.int kq k]).run P w =
   .ok (.slice (some ⟨g,0,none⟩) (sLen+k) sCap) (w.setRow g (cur.toList.take (sLen*i.size)++(Builtin.zeroCells z.cells k).toList++cur.toList.drop (sLen*i.size+(Builtin.zeroCells z.cells k).toList.length)).toArray):=by
 have hk:k≠0:=by omega
 have hw:IntKind.i64.wrap (k:Int)=k:=by rw[IntKind.wrap_i64];omega
 have h48i:¬(281474976710656<(k:Int)*(i.bytes:Int)):=by
  rw[←Int.natCast_mul]
  omega
 have hneg:¬((k:Int)<0):=by omega
 have hns:¬(k*i.size=0):=Nat.mul_ne_zero hk (by omega)
 have hst:=run_storeCells_at P g (sLen*i.size) e (Builtin.zeroCells z.cells k).toList 0 cur w hg (by simpa using hfit) h1
 simp only[Nat.add_zero] at hst
 simp[Builtin.append_,run_underlying ht,run_underlying htn,sizeOf,typeInfo,zeroValue,hi,hz,asInt,asIntOf,hw,hroom,hneg,hns,h48i,Addr.add_lit,hst]
end Go
namespace Go.Proofs.YtddmjddlbhdcpaaGreatDoor
open Go.RowKit Go.Hold Go.Sh
theorem zeroCells_u8 (k:Nat):Builtin.zeroCells (Value.int IntKind.u8 0).cells k=bysA (zs k):=by
 apply Array.ext_getElem?
 intro i
 by_cases h:i<k
 ·rw[bysA_get _ _ (by rw[zs_length];exact h)]
  simp[Builtin.zeroCells,Value.cells,h,zs,List.getD,Nat.mod_one]
 ·rw[Array.getElem?_eq_none (by simp[Builtin.zeroCells,Value.cells];omega),Array.getElem?_eq_none (by rw[bysA_size,zs_length];omega)]
theorem app_zeros {w:World} {B k:Nat} {v:Value} {l:List Nat} (h:OwnB w B v l) (h0:0<k) (hBw:B≤w.heap.size) (hlen:l.length+k≤16777216) :
  ∃ v' w',(Builtin.append_ #[38,3] 38 #[v,.int .i64 (k:Int)]).run Tryz.prog w=.ok v' w'∧OwnB w' B v' (l++zs k)∧w.grownBy w' v.ownBlock:=by
 obtain⟨i0,hi,hz0,hz1,hz2⟩:=info_parts info_u8
 have hbz:(bys (zs k)).length=k:=by rw[bys_length,zs_length]
 have hzc:=zeroCells_u8 k
 have hzl:(Builtin.zeroCells (Value.int IntKind.u8 0).cells k).toList=bys (zs k):=by rw[hzc];rfl
 rcases h.2 with ⟨rfl,hn0⟩ | ⟨g,cap,cur,rfl,hb,hg,hcap,hm,hs,htk⟩
 ·obtain rfl:=List.eq_nil_of_length_eq_zero hn0
  have hr:=Lib.run_append_nil_zeros (P:=Tryz.prog) w 38 3 38 5 i0 _ .i64 .i64 Tryz.underlying38 Tryz.underlying3 hi hz0 k h0 (by rw[hz1];decide) (by omega) (by rw[hz2];omega)
  have hge:=grownCap_ge w k 0 5
  have hle:=grownCap_le_maxLen w k 0 5 (maxLen_small (by simpa using hlen))
  generalize grownCap w k 0 5=c at *
  refine⟨_,_,hr,?_,?_⟩
  ·refine⟨by simp[zs_length,bys_length],.inr ⟨w.heap.size,c,_,by rw[List.nil_append,zs_length],hBw,heap_alloc_new w.drew _,by rw[List.nil_append,zs_length];exact hge,hle,?_,?_⟩⟩
   ·rw[hzc,zeroCells_u8];simp[bysA_size,zs_length];omega
   ·rw[hzc,zeroCells_u8,List.nil_append,zs_length,Array.toList_append,Nat.mul_one]
    show ((bys (zs k))++_).take k=_
    rw[List.take_append_of_le_length (by omega),List.take_of_length_le (by omega)]
  ·have hb:=below_alloc ((Below.refl w.heap.size w).drew) (.cells (Builtin.zeroCells (Value.int IntKind.u8 0).cells k++Builtin.zeroCells (Value.int IntKind.u8 0).cells (c-k)) 5)
   exact⟨hb.os,hb.tape,hb.output,hb.size,fun q hq _=>hb.block q hq⟩
 ·have hlt:=(Array.getElem?_eq_some_iff.1 hg).1
  by_cases hroom:l.length+k≤cap
  ·have hr:=run_append_room_zeros (P:=Tryz.prog) w 38 3 38 5 i0 _ .i64 .i64 Tryz.underlying38 Tryz.underlying3 hi hz0 g l.length cap cur hg k h0 (by rw[hz1];decide) (by omega) (by rw[hz2];omega)
    (by rw[hzl];exact bys_one _) hroom (by rw[hzl,hbz,hz1,hs];omega)
   rw[hzl,hbz,hz1,Nat.mul_one] at hr
   have hcl:cur.toList.length=cap*1:=by rw[Array.length_toList,hs]
   have hl1:(cur.toList.take l.length).length=l.length:=by rw[List.length_take,hcl];omega
   refine⟨_,_,hr,?_,?_⟩
   ·refine⟨by simp[bys_length],.inr ⟨g,cap,(cur.toList.take l.length++bys (zs k)++cur.toList.drop (l.length+k)).toArray,by rw[List.length_append,zs_length],hb,?_,by rw[List.length_append,zs_length];exact hroom,hm,?_,?_⟩⟩
    ·simp only[World.setRow,Array.getElem?_modify,if_pos,hg];rfl
    ·rw[List.size_toArray,List.length_append,List.length_append,hl1,hbz,List.length_drop,hcl];omega
    ·rw[Nat.mul_one] at htk
     rw[Nat.mul_one,List.length_append,zs_length,List.take_append_of_le_length (by rw[List.length_append,hl1,hbz];exact Nat.le_refl _),List.take_of_length_le (by rw[List.length_append,hl1,hbz];exact Nat.le_refl _),htk,bys,bys,bys,List.map_append]
   ·exact⟨rfl,rfl,rfl,by rw[size_setRow];exact Nat.le_refl _,fun q _ hne=>setRow_other w g q _ (fun e=>hne (by rw[e];rfl))⟩
  ·have hold:=run_firstCells_some (P:=Tryz.prog) w.drew i0.size l.length ⟨g,0,none⟩ l.length cap (bys l) (by rw[hz1,bys_length,Nat.mul_one]) (by simpa using bys_at (h.bytes hlt))
   have hr:=Lib.run_append_grow_zeros (P:=Tryz.prog) w 38 3 38 5 i0 _ .i64 .i64 Tryz.underlying38 Tryz.underlying3 hi hz0 (some ⟨g,0,none⟩) l.length cap (bys l) hold k h0 (by rw[hz1];decide) (by omega) (by omega) (by rw[hz2];omega) (by rw[hz2];exact growslice_fits (by omega) (by omega))
   have hge:=grownCap_ge w (l.length+k) cap 5
   have hle:=grownCap_le_maxLen w (l.length+k) cap 5 (maxLen_small hlen)
   generalize grownCap w (l.length+k) cap 5=c at *
   refine⟨_,_,hr,?_,?_⟩
   ·refine⟨by simp[bys_length],.inr ⟨w.heap.size,c,_,by rw[List.length_append,zs_length],hBw,heap_alloc_new w.drew _,by rw[List.length_append,zs_length];exact hge,hle,?_,?_⟩⟩
    ·rw[hzc,zeroCells_u8];simp[bysA_size,zs_length,bys_length];omega
    ·rw[hzc,zeroCells_u8,List.length_append,zs_length,Nat.mul_one]
     simp only[Array.toList_append,bysA]
     rw[List.take_append_of_le_length (by rw[List.length_append,bys_length,hbz];exact Nat.le_refl _),List.take_of_length_le (by rw[List.length_append,bys_length,hbz];exact Nat.le_refl _),bys,bys,bys,List.map_append]
   ·have hb:=below_alloc ((Below.refl w.heap.size w).drew) (.cells ((bys l).toArray++Builtin.zeroCells (Value.int IntKind.u8 0).cells k++Builtin.zeroCells (Value.int IntKind.u8 0).cells (c-(l.length+k))) 5)
    exact⟨hb.os,hb.tape,hb.output,hb.size,fun q hq _=>hb.block q hq⟩
end Go.Proofs.YtddmjddlbhdcpaaGreatDoor

namespace Go.Proofs.YtddmjddlbhdcpaaGreatDoor
open Go.RowKit Go.Hold Go.Sh
def RowsAt (C:Nat) (w:World) (p:Option Addr) (ls:List (Array Value)):Prop:=∀ i x,ls[i]?=some x→∃ g o,p=some ⟨g,o,none⟩∧g<w.heap.size∧w.rangeAt g (o+i*C) x.toList
theorem RowsAt.grow {C:Nat} {w w':World} {p:Option Addr} {ls:List (Array Value)} (h:RowsAt C w p ls) (hb:Below w.heap.size w w'):RowsAt C w' p ls:=fun i x hx=>by
 obtain⟨g,o,hp,hg,hr⟩:=h i x hx
 refine⟨g,o,hp,Nat.lt_of_lt_of_le hg hb.size,fun j v hv=>?_⟩
 have:=hr j v hv
 rw[World.cell?_of_block (hb.block g hg)]
 exact this
theorem RowsAt.nil (C:Nat) (w:World) (p:Option Addr):RowsAt C w p []:=fun i x hx=>by simp at hx
theorem RowsAt.take {C:Nat} {w:World} {p:Option Addr} {ls:List (Array Value)} (h:RowsAt C w p ls) (n:Nat):RowsAt C w p (ls.take n):=fun i x hx=>h i x (by
 rw[List.getElem?_take] at hx
 split at hx
 ·exact hx
 ·cases hx)
theorem RowsAt.load {C:Nat} {t:TypeId} {d:TypeDesc} (hu:Tryz.prog.underlying t=some d) (hd:d.isRow=true) (hi:(Tryz.prog.info? t).map (·.size)=some C) {w:World} {p:Option Addr} {ls:List (Array Value)} (h:RowsAt C w p ls) {i:Nat} {x:Array Value} (hx:ls[i]?=some x) (hxs:x.size=C) :
  ∃ g o,p=some ⟨g,o,none⟩∧g<w.heap.size∧(loadRow t (.pointer (some ⟨g,o+i*C,none⟩))).run Tryz.prog w=.ok (.agg x) w:=by
 obtain⟨g,o,hp,hg,hr⟩:=h i x hx
 refine⟨g,o,hp,hg,?_⟩
 have:=run_loadAt_mid (P:=Tryz.prog) w g (o+i*C) t _ _ hr hu hd (by rw[hi];simp[hxs])
 rw[Array.toArray_toList] at this
 exact this
theorem RowsAt.part {C k K:Nat} {t:TypeId} {d:TypeDesc} (hu:Tryz.prog.underlying t=some d) (hd:d.isRow=true) (hi:(Tryz.prog.info? t).map (·.size)=some K) {w:World} {p:Option Addr} {ls:List (Array Value)} (h:RowsAt C w p ls) {i:Nat} {x:Array Value} (hx:ls[i]?=some x) (hxs:k+K≤x.size) :
  ∃ g o,p=some ⟨g,o,none⟩∧g<w.heap.size∧(loadRow t (.pointer (some ⟨g,o+i*C+k,none⟩))).run Tryz.prog w=.ok (.agg (x.extract k (k+K))) w:=by
 obtain⟨g,o,hp,hg,hr⟩:=h i x hx
 refine⟨g,o,hp,hg,?_⟩
 have hr':w.rangeAt g (o+i*C+k) (x.extract k (k+K)).toList:=fun j v hv=>by
  rw[Array.getElem?_toList,Array.getElem?_extract] at hv
  split at hv
  ·have:=hr (k+j) v (by rw[Array.getElem?_toList];exact hv)
   rw[←Nat.add_assoc] at this
   exact this
  ·cases hv
 have:=run_loadAt_mid (P:=Tryz.prog) w g (o+i*C+k) t _ _ hr' hu hd (by rw[hi];simp;omega)
 rw[Array.toArray_toList] at this
 exact this
def flatR (ls:List (Array Value)):List Value:=ls.flatMap Array.toList
theorem flatR_length {C:Nat}:∀ {ls:List (Array Value)},(∀ x∈ls,x.size=C)→(flatR ls).length=ls.length*C
 | [],_=>by simp[flatR]
 | a::ls,h=>by
  show (a.toList++flatR ls).length=_
  rw[List.length_append,flatR_length fun x hx=>h x (List.mem_cons_of_mem _ hx),List.length_cons,Array.length_toList,h a List.mem_cons_self,Nat.add_mul];omega
theorem flatR_get {C:Nat}:∀ {ls:List (Array Value)} (_:∀ x∈ls,x.size=C) (q j:Nat) (a:Array Value),ls[q]?=some a→j<C→(flatR ls)[q*C+j]?=a[j]?
 | [],_,q,j,a,h,_=>by simp at h
 | b::ls,hs,0,j,a,h,hj=>by
  simp at h;subst h
  show (b.toList++flatR ls)[0*C+j]?=_
  rw[Nat.zero_mul,Nat.zero_add,List.getElem?_append_left (by rw[Array.length_toList,hs b List.mem_cons_self];exact hj),Array.getElem?_toList]
 | b::ls,hs,q+1,j,a,h,hj=>by
  have:=flatR_get (ls:=ls) (fun x hx=>hs x (List.mem_cons_of_mem _ hx)) q j a (by simpa using h) hj
  show (b.toList++flatR ls)[(q+1)*C+j]?=_
  have hb:b.toList.length=C:=by rw[Array.length_toList,hs b List.mem_cons_self]
  rw[List.getElem?_append_right (by rw[hb,Nat.add_mul];omega),hb,←this]
  congr 1
  rw[Nat.add_mul];omega
theorem flatR_snoc (ls:List (Array Value)) (a:Array Value):flatR (ls++[a])=flatR ls++a.toList:=by simp[flatR]
structure OwnR (w:World) (B:Nat) (e:TypeId) (C:Nat) (v:Value) (ls:List (Array Value)):Prop where
 own:w.ownsRow B e C v ls.length (flatR ls)
 sizes:∀ x∈ls,x.size=C
theorem OwnR.nil (w:World) (B:Nat) (e:TypeId) (C:Nat):OwnR w B e C (.slice none 0 0) []:=⟨World.ownsRow_nil w B _ _,fun x hx=>by simp at hx⟩
theorem OwnR.moves {w w':World} {B g C:Nat} {e:TypeId} {a:Option Nat} {v:Value} {ls:List (Array Value)} (h:OwnR w B e C v ls) (m:Moves w g a w') (hg:v.ownBlock≠some g) (ha:∀ k,v.ownBlock=some k→a≠some k):OwnR w' B e C v ls:=by
 refine⟨⟨h.own.1,?_⟩,h.sizes⟩
 rcases h.own.2 with hn | ⟨g0,cap,cur,rfl,hb,hx,rest⟩
 ·exact .inl hn
 ·exact .inr ⟨g0,cap,cur,rfl,hb,by
   rw[m.block g0 (Array.getElem?_eq_some_iff.1 hx).1 (fun e=>hg (by rw[e];rfl)) (fun e=>ha g0 rfl e.symm)];exact hx,rest⟩
theorem OwnR.grow {w w':World} {B C:Nat} {e:TypeId} {v:Value} {ls:List (Array Value)} (h:OwnR w B e C v ls) (hb:Below w.heap.size w w'):OwnR w' B e C v ls:=by
 have hl:=World.ownsRow.lt h.own
 exact h.moves (g:=w.heap.size) (a:=none) (Moves.of _ _ hb) (fun e=>by have:=(hl _ e).2;omega) (fun _ _ e=>by cases e)
theorem OwnR.kept {w w':World} {B C:Nat} {e:TypeId} {v:Value} {ls:List (Array Value)} {row:Option Nat} (h:OwnR w B e C v ls) (hg:w.grownBy w' row) (hne:v.ownBlock=none∨v.ownBlock≠row):OwnR w' B e C v ls:=⟨World.ownsRow.kept h.own hg hne,h.sizes⟩
theorem OwnR.ltb {w:World} {B C:Nat} {e:TypeId} {v:Value} {ls:List (Array Value)} (h:OwnR w B e C v ls) (k:Nat) (hk:v.ownBlock=some k):B≤k∧k<w.heap.size:=World.ownsRow.lt h.own k hk
theorem OwnR.form {w:World} {B C:Nat} {e:TypeId} {v:Value} {ls:List (Array Value)} (h:OwnR w B e C v ls):∃ p c,v=.slice p ls.length c∧RowsAt C w p ls∧ls.length≤c∧(p=none→c=0)∧(0<ls.length→∃ g,p=some ⟨g,0,none⟩∧g<w.heap.size):=by
 rcases h.own.2 with ⟨rfl,h0⟩ | ⟨g,cap,cur,rfl,hb,hg,hcap,_⟩
 ·obtain rfl:=List.eq_nil_of_length_eq_zero h0
  exact⟨none,0,rfl,RowsAt.nil _ _ _,Nat.le_refl _,fun _=>rfl,fun h=>by simp at h⟩
 ·have hlt:=(Array.getElem?_eq_some_iff.1 hg).1
  refine⟨some ⟨g,0,none⟩,cap,rfl,fun i x hx=>⟨g,0,rfl,hlt,fun j v hv=>?_⟩,hcap,fun h=>by (cases h),fun _=>⟨g,rfl,hlt⟩⟩
  obtain⟨hi,hix⟩:=List.getElem?_eq_some_iff.1 hx
  have hxs:x.size=C:=h.sizes x (by rw[←hix];exact List.getElem_mem hi)
  have hj:j<C:=by
   have:=(List.getElem?_eq_some_iff.1 hv).1
   simpa [hxs] using this
  have hlen:i*C+j<ls.length*C:=by
   have:(i+1)*C≤ls.length*C:=Nat.mul_le_mul_right _ hi
   rw[Nat.add_mul] at this;omega
  rw[Nat.zero_add,World.ownsRow.cellAt h.own (i*C+j) (by omega),flatR_get h.sizes i j x hx hj,←hv,Array.getElem?_toList]
theorem app_row {C Y:Nat} {t e:TypeId} {z:Value} (ht:Tryz.prog.underlying t=some (.slice e)) (hinfo:(Tryz.prog.info? e).map (fun i=>(i.zero,i.size,i.bytes))=some (some z,C,Y)) (hz:z.cells.size=C) (hC:0<C) (hY:Y≤1000)
  {w:World} {B gn o:Nat} {v:Value} {ls:List (Array Value)} {x:Array Value} (h:OwnR w B e C v ls) (hn:w.rangeAt gn o x.toList) (hx:x.size=C) (h1:oneAll x=true) (hBw:B≤w.heap.size) (hlen:ls.length≤1000) :
  ∃ v' w',(Builtin.append_ #[t,t] t #[v,.slice (some ⟨gn,o,none⟩) 1 1]).run Tryz.prog w=.ok v' w'∧OwnR w' B e C v' (ls++[x])∧w.grownBy w' v.ownBlock∧NewB w v.ownBlock v'.ownBlock:=by
 obtain⟨i0,hi,hz0,hz1,hz2⟩:=info_parts hinfo
 have hnews:∀ j u,x.toList[j]?=some u→w.cell? ((⟨gn,o,none⟩:Addr).add j)=some u:=fun j u hu=>by
  rw[Addr.add_mid]
  exact hn j u hu
 have hone:∀ u∈x.toList,u.oneCell'=true:=fun u hu=>(Array.all_eq_true_iff_forall_mem.1 h1) u (by simpa using hu)
 have hYn:∀ n,n≤1001→n*Y≤1001000:=fun n hn=>Nat.le_trans (Nat.mul_le_mul hn hY) (by decide)
 obtain⟨v',w',g1,g2,g3,g4⟩:=run_append_own (P:=Tryz.prog) w B t t e i0 z C Y ht hi hz0 hz1 hz2 hz hC v ls.length (flatR ls) h.own ⟨gn,o,none⟩ 1 1 x.toList (by rw[Array.length_toList,hx,Nat.one_mul]) hnews hone (maxLen_small (by omega)) (Nat.le_trans (hYn _ (by omega)) (by decide)) hBw
 have g2':OwnR w' B e C v' (ls++[x]):=⟨by rw[List.length_append,flatR_snoc];exact g2,fun y hy=>by
  rcases List.mem_append.1 hy with hy | hy
  ·exact h.sizes y hy
  ·rw[List.mem_singleton.1 hy,hx]⟩
 refine⟨v',w',g1,g2',g3,?_⟩
 rcases h.own.2 with ⟨rfl,h0⟩ | ⟨g0,cap0,cur,rfl,hb,hgg,hc,hm,hs,htk⟩
 ·have hr:=run_append_nil (P:=Tryz.prog) w t t e i0 _ ht hi hz0 ⟨gn,o,none⟩ 1 1 x.toList (by rw[hz1,Array.length_toList,hx,Nat.one_mul]) hnews (by decide) (by decide) (by rw[hz2];exact Nat.le_trans (hYn 1 (by decide)) (by decide))
  rw[g1] at hr
  cases hr
  intro k hk
  simp only[Value.ownBlock,Option.some.injEq] at hk
  exact .inr (by omega)
 ·by_cases hroom:ls.length+1≤cap0
  ·have hfit:ls.length*i0.size+x.toList.length≤cur.size:=by
    have hxl:x.toList.length=C:=by rw[Array.length_toList,hx]
    have:(ls.length+1)*C≤cap0*C:=Nat.mul_le_mul_right _ hroom
    rw[Nat.add_mul] at this
    rw[hz1,hs,hxl];omega
   have hr:=run_append_room (P:=Tryz.prog) w t t e i0 ht hi g0 ls.length cap0 cur hgg ⟨gn,o,none⟩ 1 1 x.toList (by rw[hz1,Array.length_toList,hx,Nat.one_mul]) hnews hone hroom hfit
   rw[g1] at hr
   cases hr
   exact NewB.refl _ _
  ·have hr:=run_append_grow (P:=Tryz.prog) w t t e i0 _ ht hi hz0 ⟨g0,0,none⟩ ls.length cap0 (flatR ls) (by rw[hz1];exact flatR_length h.sizes) (World.ownsRow.cells h.own (g:=g0) rfl) ⟨gn,o,none⟩ 1 1 x.toList (by rw[hz1,Array.length_toList,hx,Nat.one_mul]) hnews (by omega) (by omega) (by rw[hz2];exact growslice_fits (by omega) (Nat.le_trans (hYn _ (by omega)) (by decide)))
   rw[g1] at hr
   cases hr
   intro k hk
   simp only[Value.ownBlock,Option.some.injEq] at hk
   exact .inr (by omega)
theorem range_of_row {w:World} {n:Nat} {c:Array Value} (h:RowAt w n c):w.rangeAt n 0 c.toList:=by
 have:=range_row h 0 c.size
 rwa [Nat.zero_add,Array.extract_size] at this
end Go.Proofs.YtddmjddlbhdcpaaGreatDoor

namespace Go.Proofs.YtddmjddlbhdcpaaGreatDoor
open Go.RowKit Go.Hold Go.Sh Go.Ch Go.Cm Go.Hd
theorem loadKeyAt {w:World} {p:Option Addr} {ss:List (List Nat)} (hR:RowsAt 32 w p (ss.map bysA)) {j:Nat} {s:List Nat} (hj:ss[j]?=some s) (hs:s.length=32) :
  ∃ g o,p=some ⟨g,o,none⟩∧g<w.heap.size∧(loadRow 23 (.pointer (some ⟨g,o+j*32,none⟩))).run Tryz.prog w=.ok (.agg (bysA s)) w :=
 hR.load Tryz.underlying23 rfl (by kernel_rfl) (by rw[List.getElem?_map,hj];rfl) (by rw[bysA_size,hs])
theorem app_zeros32 {w:World} {B:Nat} {v:Value} {l:List Nat} (h:OwnB w B v l) (hBw:B≤w.heap.size) (hlen:l.length+32≤16777216) :
  ∃ v' w',(Builtin.append_ #[38,3] 38 #[v,.int .i64 32]).run Tryz.prog w=.ok v' w'∧OwnB w' B v' (l++zs 32)∧w.grownBy w' v.ownBlock:=app_zeros (k:=32) h (by decide) hBw hlen
theorem BytesAt.from {w:World} {b o:Nat} {l:List Nat} (h:BytesAt w b o l) (n:Nat):BytesAt w b (o+n) (l.drop n) :=
 ⟨h.1,fun i hi=>by
  rw[List.length_drop] at hi
  rw[Nat.add_assoc,h.2 (n+i) (by omega)]
  simp[List.getD,List.getElem?_drop]⟩
theorem sl_wide (b u:Nat) (hu:u<192) (W:World):(Instr.sliceAt 99 (.pointer (some ⟨b,0,none⟩)) (some (.int .i64 (u:Int))) none none).run Tryz.prog W=.ok (.slice (some ⟨b,u,none⟩) (192-u) (192-u)) W:=by
 have hl:Tryz.prog.arrayLen 99=192:=by kernel_rfl
 have hs:(sizeOf (Tryz.prog.elem 99)).run Tryz.prog W=.ok 1 W:=by kernel_rfl
 have h1:=run_sliceAt_array_l (P:=Tryz.prog) W 99 ⟨b,0,none⟩ (by kernel_rfl) .i64 (u:Int) (by omega) (by rw[hl];omega)
 rw[h1,hs,hl]
 simp only[Result.andThen_ok,slicedAt,Int.toNat_natCast,Nat.mul_one,Addr.add_mid,Nat.zero_add]
 rw[if_neg (by omega)]
theorem sl_beta (b u:Nat) (hu:u≤160) (W:World):(Instr.sliceAt 27 (.pointer (some ⟨b,0,none⟩)) (some (.int .i64 (u:Int))) none none).run Tryz.prog W=.ok (.slice (some ⟨b,if u=160 then 0 else u,none⟩) (160-u) (160-u)) W:=by
 have hl:Tryz.prog.arrayLen 27=160:=by kernel_rfl
 have hs:(sizeOf (Tryz.prog.elem 27)).run Tryz.prog W=.ok 1 W:=by kernel_rfl
 have h1:=run_sliceAt_array_l (P:=Tryz.prog) W 27 ⟨b,0,none⟩ (by kernel_rfl) .i64 (u:Int) (by omega) (by rw[hl];omega)
 rw[h1,hs,hl]
 simp only[Result.andThen_ok,slicedAt,Int.toNat_natCast,Nat.mul_one,Addr.add_mid,Nat.zero_add]
 by_cases e:u=160
 ·rw[if_pos e.symm,if_pos e]
 ·rw[if_neg (fun h=>e h.symm),if_neg e]
theorem OwnB.xored {w:World} {B g m c:Nat} {l:List Nat} (h:OwnB w B (.slice (some ⟨g,0,none⟩) m c) l) (x:List Nat) (hx:x.length=l.length) :
  ∃ cur,RowAt w g cur∧FrontB cur l∧∀ w',Sets w g (xorC cur l x l.length) w'→OwnB w' B (.slice (some ⟨g,0,none⟩) m c) (mixd l x):=by
 rcases h.2 with ⟨h0,_⟩ | ⟨g',cap,cur,e,hb,hg,hcap,hm,hs,htk⟩
 ·cases h0
 ·cases e
  rw[Nat.mul_one] at hs htk
  have hf:FrontB cur l:=⟨by rw[hs];exact hcap,fun i hi=>by
   have h1:(bys l)[i]?=some (.int .u8 ((l.getD i 0:Nat):Int)):=by simp[bys,hi]
   rw[←htk,List.getElem?_take,if_pos hi,Array.getElem?_toList] at h1
   exact h1⟩
  refine⟨cur,RowAt.of hg,hf,fun w' hset=>?_⟩
  have hlt:=(Array.getElem?_eq_some_iff.1 hg).1
  have hml:(mixd l x).length=l.length:=by rw[mixd_length,hx]
  have hbk:w'.heap[g]?=some (.cells (xorC cur l x l.length) 5 (0,0)):=by
   obtain⟨os,d,rfl⟩:=hset
   rw[World.plus_block _ _ _ _ (by rw[size_setRow];exact hlt)]
   simp only[World.setRow,Array.getElem?_modify,if_pos,hg];rfl
  refine⟨by rw[hml];simp[bys_length,mixd_length,hx],.inr ⟨g,c,_,by rw[hml],hb,hbk,by rw[hml];exact hcap,hm,?_,?_⟩⟩
  ·unfold xorC;rw[setL_size,Nat.mul_one];exact hs
  ·unfold xorC
   have h1:=setL_front cur 0 (bys ((mixd l x).take l.length)) (by rw[bys_length,List.length_take,hml];omega)
   rw[Nat.zero_add,bys_length,List.length_take,hml,Nat.min_self,List.take_zero,List.nil_append] at h1
   rw[hml,Nat.mul_one,h1,List.take_of_length_le (by omega)]
set_option maxHeartbeats 1000000 in
set_option maxRecDepth 100000 in
theorem hfiller_c (ss:List (List Nat)) (p:Option Addr) (n cap:Nat) (hs:∀ s∈ss,s.length=32) (hsb:∀ s∈ss,∀ i,s.getD i 0<256) (hn:n=ss.length) (h5:n≤5) (w:World) (hT:Tabs w) (hR:RowsAt 32 w p (ss.map bysA)) :
  Calls Tryz.prog 101 #[.slice p n cap] w fun e w'=>∃ v,e=.returned v∧OwnB w' w.heap.size v (fil ss)∧Below w.heap.size w w':=by
 have HT:=Lib.hid hT
 have HR:=Lib.hid hR
 have Hn:=Lib.hid hn
 have H5:=Lib.hid h5
 have i5:¬(5:Int)<(n:Int):=by omega
 have hhs:∀ s:List Nat,(bysA (hst s)).size=192:=fun s=>bysA_size' (hst_length s)
 have hz192:=bysA_size' (zs_length 192)
 have Hs:=Lib.hid hs
 have Hsb:=Lib.hid hsb
 clear hT hR hn h5 hs hsb
 go_enter Tryz.func101,Tryz.ntmps101
 go_wp2_with fail
 go_loopw [3,9] (fun f i wr=>∃ (v:Value) (k:Nat),v=f∧k≤n∧i=.int .i64 k∧OwnB wr w.heap.size v (fil (ss.take k))∧Below w.heap.size w wr) (fun _ i _=>n-(intOf i).toNat)
 case atStart=>exact⟨_,0,rfl,Nat.zero_le _,rfl,own_nil w _,Below.refl _ _⟩
 case round =>
  obtain⟨v,k,rfl,hk,rfl,hown,hbel⟩:=hrel
  by_cases hkn:k<n
  ·have hk1:(k:Int)<(n:Int):=by omega
   obtain⟨s,hj⟩:∃ s,ss[k]?=some s:=⟨_,List.getElem?_eq_getElem (by rw[←Hn.out];exact hkn)⟩
   have hm:=List.mem_of_getElem? hj
   have hs32:=Hs.out s hm
   obtain⟨g,o,ep,hg,hld⟩:=loadKeyAt (HR.out.grow hbel) hj hs32
   subst ep
   have hss:=bysA_size' hs32
   have HS:=Lib.hid (fun (W:World) (h:Tabs W)=>hstream_c s hs32 (Hsb.out s hm) W h)
   have Hf:=Lib.hid (show fil (ss.take (k+1))=mixd ((hst s).drop (192-((fil (ss.take k)).length+32))) (fil (ss.take k)++zs 32) by rw[List.take_add_one,hj];exact fil_snoc _ _)
   have hfl:(fil (ss.take k)).length=32*k:=by rw[fil_length,List.length_take,←Hn.out];omega
   have Hfl:=Lib.hid hfl
   have Hfb:=Lib.hid (fil_bts (ss.take k))
   rw[hfl] at Hf
   obtain⟨m,em⟩:∃ m,m=32*k+32:=⟨_,rfl⟩
   have hm5:m≤160:=by have:=H5.out;omega
   rw[←em] at Hf
   generalize fil (ss.take k)=F at *
   have Em:=Lib.hid em
   have HO:=Lib.hid hown
   have Hbel:=Lib.hid hbel
   have BA:=below_alloc (Below.refl wr.heap.size wr) (.cells (bysA s) 23)
   have R1:=RowAt.of (block_new wr (.cells (bysA s) 23))
   have B1:=hbel.trans (BA.mono hbel.size)
   obtain⟨v2,W2,hr,ho2,hg2⟩:=app_zeros32 (hown.below BA) B1.size (by rw[hfl];omega)
   have B2:=Lib.hid (own_below B1 (hown.below BA) B1.size hg2)
   have S2:=Lib.hid (rowAt_grown R1 hg2 (fun e=>by have:=(hown.ltb _ e).2;omega))
   have O2:=Lib.hid ho2
   have L2:=Lib.hid (show wr.heap.size<W2.heap.size from Nat.lt_of_lt_of_le R1.2.2 hg2.size)
   clear hown hbel hj hm hfl hs32 em BA R1 B1 ho2 hg2
   obtain⟨s1,s2,s3⟩:=S2.out
   go_wp2_with (at_builtin;refine Lib.wpList_append_run _ rfl _ _ _ _ rfl _ _ rfl rfl _ _ hr ?_)
   clear hr hld
   generalize wr.heap.size=b at *
   go_wp2_with fail
   refine(HS.out _ (HT.out.grow B2.out)).mono ?_
   rintro e W3 ⟨rfl,hb3⟩
   have O3:=Lib.hid (O2.out.below hb3)
   have B3:=Lib.hid (B2.out.trans (hb3.mono B2.out.size))
   clear hb3 s1 s2 s3 S2
   have hm0:0<m:=by have:=Em.out;omega
   have hlm:(F++zs 32).length=m:=by rw[List.length_append,zs_length,Hfl.out,Em.out]
   obtain⟨gf,cf,rfl,hgB,hgl,hcf⟩:=O3.out.addr hlm hm0
   obtain⟨u,eu⟩:∃ u,u=192-m:=⟨_,rfl⟩
   have hw1:wrap64 (192-(m:Int))=(u:Int):=by rw[show (192:Int)-(m:Int)=(u:Int) by omega];exact IntWalk.wrap64_in _ (by omega)
   have hsl:=fun (bb:Nat) (W:World)=>sl_wide bb u (by omega) W
   rw[show 192-u=m by omega] at hsl
   rw[←eu] at Hf
   have Hu:=Lib.hid (And.intro hm5 eu)
   clear hm5 eu
   go_wp2_with fail
   have BA:=below_alloc (Below.refl W3.heap.size W3) (.cells (bysA (hst s)) 99)
   have R4:=RowAt.of (block_new W3 (.cells (bysA (hst s)) 99))
   have hxl:((hst s).drop u).length=(F++zs 32).length:=by rw[List.length_drop,hst_length,hlm,Hu.out.2];have:=Hu.out.1;omega
   obtain⟨cur,hcur,hfr,hown⟩:=(O3.out.below BA).xored ((hst s).drop u) hxl
   have hB4:Bs (W3.alloc (.cells (bysA (hst s)) 99)) (some ⟨W3.heap.size,u,none⟩) ((hst s).drop u) gf:=.inr ⟨W3.heap.size,u,rfl,by
    have:=(bytes_row R4).from u
    rwa [Nat.zero_add] at this,by omega⟩
   have B4:=B3.out.trans (BA.mono B3.out.size)
   refine(hxor_c gf m m cf m (some ⟨W3.heap.size,u,none⟩) cur (F++zs 32) ((hst s).drop u) _ hcur hfr hlm.symm hlm.symm hxl (by rw[hlm];have:=Hu.out.1;omega) (bts_app Hfb.out (bts_zs _)) (bts_drop (hst_bts s) _) hB4).mono ?_
   rintro e W5 ⟨rfl,hset⟩
   have O5:=Lib.hid (hown W5 hset)
   rw[Go.Li.mixd_comm _ _ hxl.symm,←Hf.out] at O5
   have B5:=Lib.hid (hset.below B4 hgB B4.size)
   clear hset hown hcur hfr hB4 B4 BA R4 hxl hlm
   go_wp2_with fail
   go_roundw
   case rel=>exact⟨_,k+1,rfl,by omega,by go_num,O5.out,B5.out⟩
   case measure=>simp[intOf];omega
  ·obtain rfl:k=n:=by omega
   rw[List.take_of_length_le (by rw[←Hn.out];exact Nat.le_refl _)] at hown
   have HO:=Lib.hid hown
   have Hbel:=Lib.hid hbel
   clear hbel hown
   go_wp2_with fail
   go_ret
   exact⟨v,rfl,HO.out,Hbel.out⟩
end Go.Proofs.YtddmjddlbhdcpaaGreatDoor
