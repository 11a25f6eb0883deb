/-
  Part 11 of the texts behind the theorem.
-/
import Derived.Test.YtddmjddlbhdcpaaGreatDoorPart10
import Derived.Test.YtddmjddlbhdcpaaGreatDoorPart8
import Derived.Test.YtddmjddlbhdcpaaGreatDoorPart7
import Derived.Lib.AppendZeros
import Derived.Test.YtddmjddlbhdcpaaGreatDoorPart1
import Derived.Great.BuildSlice
import Derived.Laws.Bits64b
set_option maxHeartbeats 8000000
set_option maxRecDepth 100000
namespace Go.Proofs.YtddmjddlbhdcpaaGreatDoor
open Go.RowKit Go.Hold Go.Sh Go.Ch Go.Cm Go.Hd
theorem Zg6 (s b:List Nat) (hs:s.length=32) (hsb:∀i,s.getD i 0<256) (hb:b.length=160) (hbb:∀i,b.getD i 0<256) (w:World) (hT:Tabs w) :
  Calls Tryz.prog 24 #[.agg (bysA s),.agg (bysA b)] w fun e w'=>e=.returned (.agg (bysA (prf s b)))∧Below w.heap.size w w':=by
 have hss:=Zae hs
 have hbs:=Zae hb
 have ht:=Zae (ZaS s b)
 have HD:=Zq (fun (W:World) (h:Tabs W)=>Zuw s hs hsb W h)
 have hds:=Zae (Zar (drv s muL))
 have HM:=Zq (fun (W:World) (h:Tabs W) {p q:Option Addr} (hp:Bs0 W p (keyN (drv s muL))) (hq:Bs0 W q b) (hqc:q=none→160=0)=>ZqA (kc:=32) (bc:=160) (m:=32) (nb:=160) (Zar _).symm hb.symm (rfl:mac (keyN (drv s muL)) b=mac (keyN (drv s muL)) b) h (by rw[Zar];decide) (ZbS _) hp (by rw[Zar];decide) (by omega) hbb hq hqc)
 rw[ZbE] at HM
 have HMl:=Zq (Zar (mac (keyN (drv s muL)) b))
 unfold prf at *
 have HT:=Zq hT
 clear hs hsb hT hb hbb
 generalize keyN (mac (keyN (drv s muL)) b)=M at *
 generalize keyN (drv s muL)=D at *
 go_enter Tryz.func24,Tryz.ntmps24
 go_wp2_with fail
 generalize hW:World.alloc _ _=W0
 have R0x0:=Zq (show RowAt W0 (w.heap.size) (bysA s) by rw[←hW];clear hW;exact⟨by go_simp,by first | (go_simp;done) | (go_simp;rfl),by go_simp⟩)
 have R0x1:=Zq (show RowAt W0 (w.heap.size+1) (bysA b) by rw[←hW];clear hW;exact⟨by go_simp,by first | (go_simp;done) | (go_simp;rfl),by go_simp⟩)
 have R0x2:=Zq (show RowAt W0 (w.heap.size+1+1) (bysA (zs 16)) by rw[←hW];clear hW;exact⟨by go_simp,by first | (go_simp;done) | (go_simp;rfl),by go_simp⟩)
 have B0:=Zq (show Below w.heap.size w W0 by rw[←hW];repeat (first | apply Zab | exact Below.refl _ _))
 clear hW
 have hzs16:=Zae (Zah 16)
 have l_z:w.heap.size≤w.heap.size:=by omega
 have l_y:w.heap.size≤w.heap.size+1:=by omega
 have n_z_y:w.heap.size≠w.heap.size+1:=by omega
 have l_r:w.heap.size≤w.heap.size+1+1:=by omega
 have n_z_r:w.heap.size≠w.heap.size+1+1:=by omega
 have n_y_r:w.heap.size+1≠w.heap.size+1+1:=by omega
 generalize w.heap.size+1+1=r at *
 generalize w.heap.size+1=y at *
 obtain⟨z,ez⟩:∃z,z=w.heap.size:=⟨_,rfl⟩
 rw[←ez] at R0x0 n_z_y n_z_r ⊢
 have l_z:w.heap.size≤z:=by rw[ez];exact Nat.le_refl _
 clear ez
 refine(HD.out _ (HT.out.grow B0.out)).mono ?_
 rintro e W1 ⟨rfl,hb1⟩
 have R1x0:=Zq (R0x0.out.grow hb1)
 have R1x1:=Zq (R0x1.out.grow hb1)
 have R1x2:=Zq (R0x2.out.grow hb1)
 have B1:=Zq (B0.out.trans (hb1.mono B0.out.size))
 clear hb1 B0 R0x0 R0x1 R0x2
 obtain⟨R1x0a,R1x0b,R1x0c⟩:=R1x0.out
 obtain⟨R1x1a,R1x1b,R1x1c⟩:=R1x1.out
 obtain⟨R1x2a,R1x2b,R1x2c⟩:=R1x2.out
 go_wp2_with fail
 have n_z_p:z≠W1.heap.size:=Nat.ne_of_lt R1x0.out.2.2
 have n_y_p:y≠W1.heap.size:=Nat.ne_of_lt R1x1.out.2.2
 have n_r_p:r≠W1.heap.size:=Nat.ne_of_lt R1x2.out.2.2
 have l_p:w.heap.size≤W1.heap.size:=B1.out.size
 have hb2:=Zab (Below.refl W1.heap.size W1) (.cells (bysA D) 23)
 have N2:=Zq (RowAt.of (Zaq W1 (.cells (bysA D) 23)))
 have R2x0:=Zq (R1x0.out.grow hb2)
 have R2x1:=Zq (R1x1.out.grow hb2)
 have R2x2:=Zq (R1x2.out.grow hb2)
 have B2:=Zq (B1.out.trans (hb2.mono B1.out.size))
 clear hb2 B1 R1x0 R1x1 R1x2 R1x0a R1x0b R1x0c R1x1a R1x1b R1x1c R1x2a R1x2b R1x2c
 generalize W1.heap.size=p at *
 generalize W1.alloc (.cells (bysA D) 23)=W2 at *
 refine ZaI W2 [0,1] [true,true] [2,3,4] (by kernel_rfl) (by kernel_rfl) (by intro c a d v w h;cases d<;>exact h) (by first | exact(Below.refl _ _).drew | exact Below.refl _ _) ?_
 simp only[pick,List.getElem?_cons_succ,List.getElem?_cons_zero]
 iterate 2 (refine Zay (Zaa rfl) (fun w=>by go_simp;rfl) ?_)
 refine Zan ?_
 intro W3 hb3
 have R3x0:=Zq (R2x0.out.grow hb3)
 have R3x1:=Zq (R2x1.out.grow hb3)
 have R3x2:=Zq (R2x2.out.grow hb3)
 have R3x3:=Zq (N2.out.grow hb3)
 have B3:=Zq (B2.out.trans (hb3.mono B2.out.size))
 clear hb3 B2 R2x0 R2x1 R2x2 N2
 go_wp2_with fail
 refine(HM.out _ (HT.out.grow B3.out) (Bs0.some (ZaH R3x3.out)) (Bs0.some (ZaH R3x1.out)) (fun h=>by cases h)).mono ?_
 rintro e W4 ⟨rfl,hb4⟩
 have R4x0:=Zq (R3x0.out.grow hb4)
 have R4x1:=Zq (R3x1.out.grow hb4)
 have R4x2:=Zq (R3x2.out.grow hb4)
 have R4x3:=Zq (R3x3.out.grow hb4)
 have B4:=Zq (B3.out.trans (hb4.mono B3.out.size))
 clear hb4 B3 R3x0 R3x1 R3x2 R3x3
 obtain⟨R4x0a,R4x0b,R4x0c⟩:=R4x0.out
 obtain⟨R4x1a,R4x1b,R4x1c⟩:=R4x1.out
 obtain⟨R4x2a,R4x2b,R4x2c⟩:=R4x2.out
 obtain⟨R4x3a,R4x3b,R4x3c⟩:=R4x3.out
 go_wp2_with fail
 refine(Znw M HMl.out _).mono ?_
 rintro e W5 ⟨rfl,hb5⟩
 clear R4x0a R4x0b R4x0c R4x1a R4x1b R4x1c R4x2a R4x2b R4x2c R4x3a R4x3b R4x3c
 have R5x0:=Zq (R4x0.out.grow hb5)
 have R5x1:=Zq (R4x1.out.grow hb5)
 have R5x2:=Zq (R4x2.out.grow hb5)
 have R5x3:=Zq (R4x3.out.grow hb5)
 have B5:=Zq (B4.out.trans (hb5.mono B4.out.size))
 clear hb5 B4 R4x0 R4x1 R4x2 R4x3
 obtain⟨R5x0a,R5x0b,R5x0c⟩:=R5x0.out
 obtain⟨R5x1a,R5x1b,R5x1c⟩:=R5x1.out
 obtain⟨R5x2a,R5x2b,R5x2c⟩:=R5x2.out
 obtain⟨R5x3a,R5x3b,R5x3c⟩:=R5x3.out
 go_wp2_with fail
 refine bodyPost_ret (v:=.agg (bysA (M.take 16))) (Zb1 Tryz.results24 ht _ _ _ rfl (by go_simp) (by go_simp)) rfl ⟨rfl,?_⟩
 exact Zad (B5.out) l_r _
theorem Zng (b:List Nat) (hb:b.length=160) (w:World) :
  Calls Tryz.prog 45 #[.agg (bysA b)] w fun e w'=>e=.returned (.agg (bysA (b++zs 32)))∧Below w.heap.size w w':=by
 have hbs:=Zae hb
 have hw:=Zae (show (b++zs 32).length=192 by rw[List.length_append,hb,Zah])
 have Hcp:=Zq (show b.take 160++(zs 192).drop 160=b++zs 32 by rw[List.take_of_length_le (by omega),ZcI])
 have Hb:=Zq hb
 clear hb
 go_enter Tryz.func45,Tryz.ntmps45
 go_wp2_with fail
 generalize hW:World.alloc _ _=W0
 have R0x0:=Zq (show RowAt W0 (w.heap.size) (bysA b) by rw[←hW];clear hW;exact⟨by go_simp,by first | (go_simp;done) | (go_simp;rfl),by go_simp⟩)
 have R0x1:=Zq (show RowAt W0 (w.heap.size+1) (bysA (zs 192)) by rw[←hW];clear hW;exact⟨by go_simp,by first | (go_simp;done) | (go_simp;rfl),by go_simp⟩)
 have R0x2:=Zq (show RowAt W0 (w.heap.size+1+1) (bysA (zs 192)) by rw[←hW];clear hW;exact⟨by go_simp,by first | (go_simp;done) | (go_simp;rfl),by go_simp⟩)
 have B0:=Zq (show Below w.heap.size w W0 by rw[←hW];repeat (first | apply Zab | exact Below.refl _ _))
 clear hW
 have hzs192:=Zae (Zah 192)
 have l_y:w.heap.size≤w.heap.size:=by omega
 have l_r:w.heap.size≤w.heap.size+1:=by omega
 have n_y_r:w.heap.size≠w.heap.size+1:=by omega
 have l_v:w.heap.size≤w.heap.size+1+1:=by omega
 have n_y_v:w.heap.size≠w.heap.size+1+1:=by omega
 have n_r_v:w.heap.size+1≠w.heap.size+1+1:=by omega
 generalize w.heap.size+1+1=v at *
 generalize w.heap.size+1=r at *
 obtain⟨y,ey⟩:∃z,z=w.heap.size:=⟨_,rfl⟩
 rw[←ey] at R0x0 n_y_r n_y_v ⊢
 have l_y:w.heap.size≤y:=by rw[ey];exact Nat.le_refl _
 clear ey
 refine ZaI W0 [0,1] [true,true] [2] (by kernel_rfl) (by kernel_rfl) (by intro c a d v w h;cases d<;>exact h) (by first | exact(Below.refl _ _).drew | exact Below.refl _ _) ?_
 simp only[pick,List.getElem?_cons_succ,List.getElem?_cons_zero]
 iterate 2 (refine Zay (Zaa rfl) (fun w=>by go_simp;rfl) ?_)
 refine Zan ?_
 intro W1 hb1
 have R1x0:=Zq (R0x0.out.grow hb1)
 have R1x1:=Zq (R0x1.out.grow hb1)
 have R1x2:=Zq (R0x2.out.grow hb1)
 have B1:=Zq (B0.out.trans (hb1.mono B0.out.size))
 clear hb1 B0 R0x0 R0x1 R0x2
 have hcp:=Zb7 (c2:=192) (cap:=160) (d:=192) (s:=160) (k:=160) R1x2.out (by rw[Zah]) Hb.out.symm (by rw[Zah,Hb.out];decide) (Bs0.some (ZaH R1x0.out))
 rw[Hcp.out] at hcp
 obtain⟨R1x0a,R1x0b,R1x0c⟩:=R1x0.out
 obtain⟨R1x1a,R1x1b,R1x1c⟩:=R1x1.out
 obtain⟨R1x2a,R1x2b,R1x2c⟩:=R1x2.out
 go_wp2_with fail
 refine bodyPost_ret (v:=.agg (bysA (b++zs 32))) (ZcR Tryz.results45 hw _ _ _ rfl (by go_simp) (by go_simp)) rfl ⟨rfl,?_⟩
 exact Zad (Zad (B1.out) l_v _) l_r _
theorem ZgX (l s:List Nat) (hl:l.length=192) (hlb:∀i,l.getD i 0<256) (hs:s.length=32) (hsb:∀i,s.getD i 0<256) (w:World) (hT:Tabs w) :
  Calls Tryz.prog 46 #[.agg (bysA l),.agg (bysA s)] w fun e w'=>e=.returned (.agg (bysA (mixd (hst s) l)))∧Below w.heap.size w w':=by
 have hss:=Zae hs
 have hls:=Zae hl
 have hhs:=Zae (ZaT s)
 have HS:=Zq (fun (W:World) (h:Tabs W)=>ZhR s hs hsb W h)
 have Hx:=Zq (show xorC (bysA l) l (hst s) l.length=bysA (mixd (hst s) l) by rw[Zo3 l (hst s) (by rw[ZaT,hl]),Go.Li.mixd_comm _ _ (by rw[ZaT,hl])])
 have hx:=Zae (show (mixd (hst s) l).length=192 by rw[ZaJ,hl])
 have Hl:=Zq hl
 have Hlb:=Zq hlb
 have Hh:=Zq (ZaT s)
 have Hhb:=Zq (Zdi s)
 have HT:=Zq hT
 clear hl hlb hs hsb hT
 generalize mixd (hst s) l=X at *
 generalize hst s=H at *
 go_enter Tryz.func46,Tryz.ntmps46
 go_wp2_with fail
 generalize hW:World.alloc _ _=W0
 have R0x0:=Zq (show RowAt W0 (w.heap.size) (bysA l) by rw[←hW];clear hW;exact⟨by go_simp,by first | (go_simp;done) | (go_simp;rfl),by go_simp⟩)
 have R0x1:=Zq (show RowAt W0 (w.heap.size+1) (bysA s) by rw[←hW];clear hW;exact⟨by go_simp,by first | (go_simp;done) | (go_simp;rfl),by go_simp⟩)
 have R0x2:=Zq (show RowAt W0 (w.heap.size+1+1) (bysA (zs 192)) by rw[←hW];clear hW;exact⟨by go_simp,by first | (go_simp;done) | (go_simp;rfl),by go_simp⟩)
 have B0:=Zq (show Below w.heap.size w W0 by rw[←hW];repeat (first | apply Zab | exact Below.refl _ _))
 clear hW
 have hzs192:=Zae (Zah 192)
 have l_y:w.heap.size≤w.heap.size:=by omega
 have l_z:w.heap.size≤w.heap.size+1:=by omega
 have n_y_z:w.heap.size≠w.heap.size+1:=by omega
 have l_r:w.heap.size≤w.heap.size+1+1:=by omega
 have n_y_r:w.heap.size≠w.heap.size+1+1:=by omega
 have n_z_r:w.heap.size+1≠w.heap.size+1+1:=by omega
 generalize w.heap.size+1+1=r at *
 generalize w.heap.size+1=z at *
 obtain⟨y,ey⟩:∃z,z=w.heap.size:=⟨_,rfl⟩
 rw[←ey] at R0x0 n_y_z n_y_r ⊢
 have l_y:w.heap.size≤y:=by rw[ey];exact Nat.le_refl _
 clear ey
 refine(HS.out _ (HT.out.grow B0.out)).mono ?_
 rintro e W1 ⟨rfl,hb1⟩
 have R1x0:=Zq (R0x0.out.grow hb1)
 have R1x1:=Zq (R0x1.out.grow hb1)
 have R1x2:=Zq (R0x2.out.grow hb1)
 have B1:=Zq (B0.out.trans (hb1.mono B0.out.size))
 clear hb1 B0 R0x0 R0x1 R0x2
 obtain⟨R1x0a,R1x0b,R1x0c⟩:=R1x0.out
 obtain⟨R1x1a,R1x1b,R1x1c⟩:=R1x1.out
 obtain⟨R1x2a,R1x2b,R1x2c⟩:=R1x2.out
 go_wp2_with fail
 have n_y_v:y≠W1.heap.size:=Nat.ne_of_lt R1x0.out.2.2
 have n_z_v:z≠W1.heap.size:=Nat.ne_of_lt R1x1.out.2.2
 have n_r_v:r≠W1.heap.size:=Nat.ne_of_lt R1x2.out.2.2
 have l_v:w.heap.size≤W1.heap.size:=B1.out.size
 have hb2:=Zab (Below.refl W1.heap.size W1) (.cells (bysA H) 99)
 have N2:=Zq (RowAt.of (Zaq W1 (.cells (bysA H) 99)))
 have R2x0:=Zq (R1x0.out.grow hb2)
 have R2x1:=Zq (R1x1.out.grow hb2)
 have R2x2:=Zq (R1x2.out.grow hb2)
 have B2:=Zq (B1.out.trans (hb2.mono B1.out.size))
 clear hb2 B1 R1x0 R1x1 R1x2 R1x0a R1x0b R1x0c R1x1a R1x1b R1x1c R1x2a R1x2b R1x2c
 generalize W1.heap.size=v at *
 generalize W1.alloc (.cells (bysA H) 99)=W2 at *
 refine ZaI W2 [0,1] [true,true] [2] (by kernel_rfl) (by kernel_rfl) (by intro c a d v w h;cases d<;>exact h) (by first | exact(Below.refl _ _).drew | exact Below.refl _ _) ?_
 simp only[pick,List.getElem?_cons_succ,List.getElem?_cons_zero]
 iterate 2 (refine Zay (Zaa rfl) (fun w=>by go_simp;rfl) ?_)
 refine Zan ?_
 intro W3 hb3
 have R3x0:=Zq (R2x0.out.grow hb3)
 have R3x1:=Zq (R2x1.out.grow hb3)
 have R3x2:=Zq (R2x2.out.grow hb3)
 have R3x3:=Zq (N2.out.grow hb3)
 have B3:=Zq (B2.out.trans (hb3.mono B2.out.size))
 clear hb3 B2 R2x0 R2x1 R2x2 N2
 go_wp2_with fail
 refine(ZqO y 192 192 192 192 (some ⟨v,0,none⟩) (bysA l) l H W3 R3x0.out (FrontB.all l) Hl.out.symm Hl.out.symm (by rw[Hh.out,Hl.out]) (by rw[Hl.out];decide) Hlb.out Hhb.out (.inr ⟨v,0,rfl,ZaH R3x3.out,Ne.symm n_y_v⟩)).mono ?_
 rintro e W4 ⟨rfl,hset⟩
 rw[Hx.out] at hset
 have R4x0:=Zq (hset.row R3x0.out)
 have R4x1:=Zq (hset.old R3x1.out (Ne.symm n_y_z))
 have R4x2:=Zq (hset.old R3x2.out (Ne.symm n_y_r))
 have R4x3:=Zq (hset.old R3x3.out (Ne.symm n_y_v))
 have B4:=Zq (hset.below B3.out l_y B3.out.size)
 clear hset B3 R3x0 R3x1 R3x2 R3x3
 obtain⟨R4x0a,R4x0b,R4x0c⟩:=R4x0.out
 obtain⟨R4x1a,R4x1b,R4x1c⟩:=R4x1.out
 obtain⟨R4x2a,R4x2b,R4x2c⟩:=R4x2.out
 obtain⟨R4x3a,R4x3b,R4x3c⟩:=R4x3.out
 go_wp2_with fail
 refine bodyPost_ret (v:=.agg (bysA X)) (ZcR Tryz.results46 hx _ _ _ rfl (by go_simp) (by go_simp)) rfl ⟨rfl,?_⟩
 exact Zad (B4.out) l_r _
theorem ZmI (l:List Nat) (hl:l.length=192) (w:World) :
  Calls Tryz.prog 72 #[.agg (bysA l)] w fun e w'=>e=.returned (.agg (bysA (l.take 160)))∧Below w.heap.size w w':=by
 have hls:=Zae hl
 have hXl:(l.take 160).length=160:=by simp[hl]
 have hX:=Zae hXl
 have hz:=Zae (Zah 160)
 obtain⟨X,eX⟩:∃X,X=l.take 160:=⟨_,rfl⟩
 have hE:l.take 160=X:=by rw[eX]
 rw[←eX] at hXl hX ⊢
 clear eX hl
 go_enter Tryz.func72,Tryz.ntmps72
 go_wp2_with fail
 refine bodyPost_ret (v:=.agg (bysA X)) (ZcO Tryz.results72 hX _ _ _ rfl (by go_simp) (by go_simp)) rfl ⟨rfl,?_⟩
 repeat (first | apply Zab | exact Below.refl _ _)
theorem ZuV (l:List Nat) (hl:l.length=192) (w:World) :
  Calls Tryz.prog 48 #[.agg (bysA l)] w fun e w'=>e=.returned (.agg (bysA (l.take 16)))∧Below w.heap.size w w':=by
 have hls:=Zae hl
 have hXl:(l.take 16).length=16:=by simp[hl]
 have hX:=Zae hXl
 have hz:=Zae (Zah 16)
 obtain⟨X,eX⟩:∃X,X=l.take 16:=⟨_,rfl⟩
 have hE:l.take 16=X:=by rw[eX]
 rw[←eX] at hXl hX ⊢
 clear eX hl
 go_enter Tryz.func48,Tryz.ntmps48
 go_wp2_with fail
 refine bodyPost_ret (v:=.agg (bysA X)) (ZeL Tryz.results48 X hXl _ _ _ rfl (by go_simp) (by go_simp)) rfl ⟨rfl,?_⟩
 repeat (first | apply Zab | exact Below.refl _ _)
theorem Zt4 (l:List Nat) (hl:l.length=192) (w:World) :
  Calls Tryz.prog 50 #[.agg (bysA l)] w fun e w'=>e=.returned (.agg (bysA (l.drop 32)))∧Below w.heap.size w w':=by
 have hls:=Zae hl
 have hXl:(l.drop 32).length=160:=by simp[hl]
 have hX:=Zae hXl
 have hz:=Zae (Zah 160)
 obtain⟨X,eX⟩:∃X,X=l.drop 32:=⟨_,rfl⟩
 have hE:(l.drop 32).take 160=X:=by rw[eX];rw[List.take_of_length_le (by simp[hl])]
 rw[←eX] at hXl hX ⊢
 clear eX hl
 go_enter Tryz.func50,Tryz.ntmps50
 go_wp2_with fail
 refine bodyPost_ret (v:=.agg (bysA X)) (ZcO Tryz.results50 hX _ _ _ rfl (by go_simp) (by go_simp)) rfl ⟨rfl,?_⟩
 repeat (first | apply Zab | exact Below.refl _ _)
theorem Zt9 (l:List Nat) (hl:l.length=192) (w:World) :
  Calls Tryz.prog 51 #[.agg (bysA l)] w fun e w'=>e=.returned (.agg (bysA ((l.drop 16).take 16)))∧Below w.heap.size w w':=by
 have hls:=Zae hl
 have hXl:((l.drop 16).take 16).length=16:=by simp[hl]
 have hX:=Zae hXl
 have hz:=Zae (Zah 16)
 obtain⟨X,eX⟩:∃X,X=(l.drop 16).take 16:=⟨_,rfl⟩
 have hE:(l.drop 16).take 16=X:=by rw[eX]
 rw[←eX] at hXl hX ⊢
 clear eX hl
 go_enter Tryz.func51,Tryz.ntmps51
 go_wp2_with fail
 refine bodyPost_ret (v:=.agg (bysA X)) (Zb1 Tryz.results51 hX _ _ _ rfl (by go_simp) (by go_simp)) rfl ⟨rfl,?_⟩
 repeat (first | apply Zab | exact Below.refl _ _)
theorem Zqu (c:Cmd) (hid:c.id.length=8) (g b:List Nat) (hg:g.length=16) (hb:b.length=160) (w:World) :
  Calls Tryz.prog 71 #[.agg (cmdA c),.agg (bysA g),.agg (bysA b)] w fun e w'=>e=.returned (.agg (bysA (encV c++g++b)))∧Below w.heap.size w w':=by
 have hcs:=Zax hid
 have hgs:=Zae hg
 have hbs:=Zae hb
 have HE:=Zq (fun (W:World)=>ZpO c hid W)
 have hC:=Zbe hid
 have hCs:=Zae hC
 have hz16:=Zae (Zah 16)
 have hws:=Zae (show (encV c++zs 176).length=192 by rw[List.length_append,hC,Zah])
 have hws2:=Zae (show (encV c++g++zs 160).length=192 by rw[List.length_append,List.length_append,hC,hg,Zah])
 have hw:=Zae (show (encV c++g++b).length=192 by rw[List.length_append,List.length_append,hC,hg,hb])
 have H1:=Zq (show (zs 192).take 0++(encV c).take 16++(zs 192).drop (0+16)=encV c++zs 176 by rw[List.take_zero,List.nil_append,List.take_of_length_le (by omega),ZcI])
 have H2:=Zq (show (encV c++zs 176).take 16++g.take 16++(encV c++zs 176).drop (16+16)=encV c++g++zs 160 by rw[List.take_append_of_le_length (by omega),List.take_of_length_le (by omega),List.take_of_length_le (l:=g) (by omega),List.drop_append,List.drop_of_length_le (by omega),List.nil_append,hC,ZcI])
 have H3:=Zq (show (encV c++g++zs 160).take 32++b.take 160++(encV c++g++zs 160).drop (32+160)=encV c++g++b by rw[List.take_append_of_le_length (by rw[List.length_append];omega),List.take_of_length_le (by rw[List.length_append];omega),List.take_of_length_le (l:=b) (by omega),List.drop_of_length_le (by rw[List.length_append,List.length_append,Zah];omega),List.append_nil])
 have H1l:=Zah 192
 have H2l:=show (encV c++zs 176).length=192 by rw[List.length_append,hC,Zah]
 have H3l:=show (encV c++g++zs 160).length=192 by rw[List.length_append,List.length_append,hC,hg,Zah]
 have L1:=Zq (And.intro H1l (And.intro H2l H3l))
 have L2:=Zq (And.intro hC (And.intro hg hb))
 clear hid hC hg hb H1l H2l H3l
 generalize encV c++zs 176=X1 at *
 generalize encV c++g++zs 160=X2 at *
 generalize encV c++g++b=X3 at *
 generalize encV c=C at *
 generalize encE c=er at *
 go_enter Tryz.func71,Tryz.ntmps71
 go_wp2_with fail
 generalize hW:World.alloc _ _=W0
 have R0x0:=Zq (show RowAt W0 (w.heap.size) (cmdA c) by rw[←hW];clear hW;exact⟨by go_simp,by first | (go_simp;done) | (go_simp;rfl),by go_simp⟩)
 have R0x1:=Zq (show RowAt W0 (w.heap.size+1) (bysA g) by rw[←hW];clear hW;exact⟨by go_simp,by first | (go_simp;done) | (go_simp;rfl),by go_simp⟩)
 have R0x2:=Zq (show RowAt W0 (w.heap.size+1+1) (bysA b) by rw[←hW];clear hW;exact⟨by go_simp,by first | (go_simp;done) | (go_simp;rfl),by go_simp⟩)
 have R0x3:=Zq (show RowAt W0 (w.heap.size+1+1+1) (bysA (zs 192)) by rw[←hW];clear hW;exact⟨by go_simp,by first | (go_simp;done) | (go_simp;rfl),by go_simp⟩)
 have R0x4:=Zq (show RowAt W0 (w.heap.size+1+1+1+1) (bysA (zs 192)) by rw[←hW];clear hW;exact⟨by go_simp,by first | (go_simp;done) | (go_simp;rfl),by go_simp⟩)
 have B0:=Zq (show Below w.heap.size w W0 by rw[←hW];repeat (first | apply Zab | exact Below.refl _ _))
 clear hW
 have hzs192:=Zae (Zah 192)
 have l_x:w.heap.size≤w.heap.size:=by omega
 have l_y:w.heap.size≤w.heap.size+1:=by omega
 have n_x_y:w.heap.size≠w.heap.size+1:=by omega
 have l_b0:w.heap.size≤w.heap.size+1+1:=by omega
 have n_x_b0:w.heap.size≠w.heap.size+1+1:=by omega
 have n_y_b0:w.heap.size+1≠w.heap.size+1+1:=by omega
 have l_r:w.heap.size≤w.heap.size+1+1+1:=by omega
 have n_x_r:w.heap.size≠w.heap.size+1+1+1:=by omega
 have n_y_r:w.heap.size+1≠w.heap.size+1+1+1:=by omega
 have n_b0_r:w.heap.size+1+1≠w.heap.size+1+1+1:=by omega
 have l_v:w.heap.size≤w.heap.size+1+1+1+1:=by omega
 have n_x_v:w.heap.size≠w.heap.size+1+1+1+1:=by omega
 have n_y_v:w.heap.size+1≠w.heap.size+1+1+1+1:=by omega
 have n_b0_v:w.heap.size+1+1≠w.heap.size+1+1+1+1:=by omega
 have n_r_v:w.heap.size+1+1+1≠w.heap.size+1+1+1+1:=by omega
 generalize w.heap.size+1+1+1+1=v at *
 generalize w.heap.size+1+1+1=r at *
 generalize w.heap.size+1+1=b0 at *
 generalize w.heap.size+1=y at *
 obtain⟨x,ex⟩:∃z,z=w.heap.size:=⟨_,rfl⟩
 rw[←ex] at R0x0 n_x_y n_x_b0 n_x_r n_x_v ⊢
 have l_x:w.heap.size≤x:=by rw[ex];exact Nat.le_refl _
 clear ex
 refine(HE.out _).mono ?_
 rintro e W1 ⟨rfl,hb1⟩
 have R1x0:=Zq (R0x0.out.grow hb1)
 have R1x1:=Zq (R0x1.out.grow hb1)
 have R1x2:=Zq (R0x2.out.grow hb1)
 have R1x3:=Zq (R0x3.out.grow hb1)
 have R1x4:=Zq (R0x4.out.grow hb1)
 have B1:=Zq (B0.out.trans (hb1.mono B0.out.size))
 clear hb1 B0 R0x0 R0x1 R0x2 R0x3 R0x4
 obtain⟨R1x0a,R1x0b,R1x0c⟩:=R1x0.out
 obtain⟨R1x1a,R1x1b,R1x1c⟩:=R1x1.out
 obtain⟨R1x2a,R1x2b,R1x2c⟩:=R1x2.out
 obtain⟨R1x3a,R1x3b,R1x3c⟩:=R1x3.out
 obtain⟨R1x4a,R1x4b,R1x4c⟩:=R1x4.out
 go_wp2_with fail
 have n_x_p:x≠W1.heap.size:=Nat.ne_of_lt R1x0.out.2.2
 have n_y_p:y≠W1.heap.size:=Nat.ne_of_lt R1x1.out.2.2
 have n_b0_p:b0≠W1.heap.size:=Nat.ne_of_lt R1x2.out.2.2
 have n_r_p:r≠W1.heap.size:=Nat.ne_of_lt R1x3.out.2.2
 have n_v_p:v≠W1.heap.size:=Nat.ne_of_lt R1x4.out.2.2
 have l_p:w.heap.size≤W1.heap.size:=B1.out.size
 have hb2:=Zab (Below.refl W1.heap.size W1) (.cells (bysA C) 28)
 have N2:=Zq (RowAt.of (Zaq W1 (.cells (bysA C) 28)))
 have R2x0:=Zq (R1x0.out.grow hb2)
 have R2x1:=Zq (R1x1.out.grow hb2)
 have R2x2:=Zq (R1x2.out.grow hb2)
 have R2x3:=Zq (R1x3.out.grow hb2)
 have R2x4:=Zq (R1x4.out.grow hb2)
 have B2:=Zq (B1.out.trans (hb2.mono B1.out.size))
 clear hb2 B1 R1x0 R1x1 R1x2 R1x3 R1x4 R1x0a R1x0b R1x0c R1x1a R1x1b R1x1c R1x2a R1x2b R1x2c R1x3a R1x3b R1x3c R1x4a R1x4b R1x4c
 generalize W1.heap.size=p at *
 generalize W1.alloc (.cells (bysA C) 28)=W2 at *
 refine ZaI W2 [0,1] [true,true] [2] (by kernel_rfl) (by kernel_rfl) (by intro c a d v w h;cases d<;>exact h) (by first | exact(Below.refl _ _).drew | exact Below.refl _ _) ?_
 simp only[pick,List.getElem?_cons_succ,List.getElem?_cons_zero]
 iterate 2 (refine Zay (Zaa rfl) (fun w=>by go_simp;rfl) ?_)
 refine Zan ?_
 intro W3 hb3
 have R3x0:=Zq (R2x0.out.grow hb3)
 have R3x1:=Zq (R2x1.out.grow hb3)
 have R3x2:=Zq (R2x2.out.grow hb3)
 have R3x3:=Zq (R2x3.out.grow hb3)
 have R3x4:=Zq (R2x4.out.grow hb3)
 have R3x5:=Zq (N2.out.grow hb3)
 have B3:=Zq (B2.out.trans (hb3.mono B2.out.size))
 clear hb3 B2 R2x0 R2x1 R2x2 R2x3 R2x4 N2
 have hcp:=Zfv (u:=0) (c2:=192) (cap:=16) (d:=192) (s:=16) (k:=16) R3x4.out (by rw[L1.out.1];decide) (by rw[L1.out.1]) L2.out.1.symm (by rw[L1.out.1,L2.out.1];decide) (Bs0.some (ZaH R3x5.out))
 rw[H1.out] at hcp
 obtain⟨R3x0a,R3x0b,R3x0c⟩:=R3x0.out
 obtain⟨R3x1a,R3x1b,R3x1c⟩:=R3x1.out
 obtain⟨R3x2a,R3x2b,R3x2c⟩:=R3x2.out
 obtain⟨R3x3a,R3x3b,R3x3c⟩:=R3x3.out
 obtain⟨R3x4a,R3x4b,R3x4c⟩:=R3x4.out
 obtain⟨R3x5a,R3x5b,R3x5c⟩:=R3x5.out
 go_wp2_with fail
 have R4x0:=Zq (R3x0.out.other n_x_v (bysA X1))
 have R4x1:=Zq (R3x1.out.other n_y_v (bysA X1))
 have R4x2:=Zq (R3x2.out.other n_b0_v (bysA X1))
 have R4x3:=Zq (R3x3.out.other n_r_v (bysA X1))
 have R4x4:=Zq (R3x4.out.set (bysA X1))
 have R4x5:=Zq (R3x5.out.other (Ne.symm n_v_p) (bysA X1))
 have B4:=Zq (Zad B3.out l_v (bysA X1))
 clear B3 R3x0 R3x1 R3x2 R3x3 R3x4 R3x5 R3x0a R3x0b R3x0c R3x1a R3x1b R3x1c R3x2a R3x2b R3x2c R3x3a R3x3b R3x3c R3x4a R3x4b R3x4c R3x5a R3x5b R3x5c
 generalize W3.setRow v (bysA X1)=W4 at *
 refine ZaI W4 [0,1] [true,true] [2] (by kernel_rfl) (by kernel_rfl) (by intro c a d v w h;cases d<;>exact h) (by first | exact(Below.refl _ _).drew | exact Below.refl _ _) ?_
 simp only[pick,List.getElem?_cons_succ,List.getElem?_cons_zero]
 iterate 2 (refine Zay (Zaa rfl) (fun w=>by go_simp;rfl) ?_)
 refine Zan ?_
 intro W5 hb5
 have R5x0:=Zq (R4x0.out.grow hb5)
 have R5x1:=Zq (R4x1.out.grow hb5)
 have R5x2:=Zq (R4x2.out.grow hb5)
 have R5x3:=Zq (R4x3.out.grow hb5)
 have R5x4:=Zq (R4x4.out.grow hb5)
 have R5x5:=Zq (R4x5.out.grow hb5)
 have B5:=Zq (B4.out.trans (hb5.mono B4.out.size))
 clear hb5 B4 R4x0 R4x1 R4x2 R4x3 R4x4 R4x5
 have hcp:=Zfv (u:=16) (c2:=176) (cap:=16) (d:=176) (s:=16) (k:=16) R5x4.out (by rw[L1.out.2.1];decide) (by rw[L1.out.2.1]) L2.out.2.1.symm (by rw[L1.out.2.1,L2.out.2.1];decide) (Bs0.some (ZaH R5x1.out))
 rw[H2.out] at hcp
 obtain⟨R5x0a,R5x0b,R5x0c⟩:=R5x0.out
 obtain⟨R5x1a,R5x1b,R5x1c⟩:=R5x1.out
 obtain⟨R5x2a,R5x2b,R5x2c⟩:=R5x2.out
 obtain⟨R5x3a,R5x3b,R5x3c⟩:=R5x3.out
 obtain⟨R5x4a,R5x4b,R5x4c⟩:=R5x4.out
 obtain⟨R5x5a,R5x5b,R5x5c⟩:=R5x5.out
 go_wp2_with fail
 have R6x0:=Zq (R5x0.out.other n_x_v (bysA X2))
 have R6x1:=Zq (R5x1.out.other n_y_v (bysA X2))
 have R6x2:=Zq (R5x2.out.other n_b0_v (bysA X2))
 have R6x3:=Zq (R5x3.out.other n_r_v (bysA X2))
 have R6x4:=Zq (R5x4.out.set (bysA X2))
 have R6x5:=Zq (R5x5.out.other (Ne.symm n_v_p) (bysA X2))
 have B6:=Zq (Zad B5.out l_v (bysA X2))
 clear B5 R5x0 R5x1 R5x2 R5x3 R5x4 R5x5 R5x0a R5x0b R5x0c R5x1a R5x1b R5x1c R5x2a R5x2b R5x2c R5x3a R5x3b R5x3c R5x4a R5x4b R5x4c R5x5a R5x5b R5x5c
 generalize W5.setRow v (bysA X2)=W6 at *
 refine ZaI W6 [0,1] [true,true] [2] (by kernel_rfl) (by kernel_rfl) (by intro c a d v w h;cases d<;>exact h) (by first | exact(Below.refl _ _).drew | exact Below.refl _ _) ?_
 simp only[pick,List.getElem?_cons_succ,List.getElem?_cons_zero]
 iterate 2 (refine Zay (Zaa rfl) (fun w=>by go_simp;rfl) ?_)
 refine Zan ?_
 intro W7 hb7
 have R7x0:=Zq (R6x0.out.grow hb7)
 have R7x1:=Zq (R6x1.out.grow hb7)
 have R7x2:=Zq (R6x2.out.grow hb7)
 have R7x3:=Zq (R6x3.out.grow hb7)
 have R7x4:=Zq (R6x4.out.grow hb7)
 have R7x5:=Zq (R6x5.out.grow hb7)
 have B7:=Zq (B6.out.trans (hb7.mono B6.out.size))
 clear hb7 B6 R6x0 R6x1 R6x2 R6x3 R6x4 R6x5
 have hcp:=Zfv (u:=32) (c2:=160) (cap:=160) (d:=160) (s:=160) (k:=160) R7x4.out (by rw[L1.out.2.2];decide) (by rw[L1.out.2.2]) L2.out.2.2.symm (by rw[L1.out.2.2,L2.out.2.2];decide) (Bs0.some (ZaH R7x2.out))
 rw[H3.out] at hcp
 obtain⟨R7x0a,R7x0b,R7x0c⟩:=R7x0.out
 obtain⟨R7x1a,R7x1b,R7x1c⟩:=R7x1.out
 obtain⟨R7x2a,R7x2b,R7x2c⟩:=R7x2.out
 obtain⟨R7x3a,R7x3b,R7x3c⟩:=R7x3.out
 obtain⟨R7x4a,R7x4b,R7x4c⟩:=R7x4.out
 obtain⟨R7x5a,R7x5b,R7x5c⟩:=R7x5.out
 go_wp2_with fail
 have R8x0:=Zq (R7x0.out.other n_x_v (bysA X3))
 have R8x1:=Zq (R7x1.out.other n_y_v (bysA X3))
 have R8x2:=Zq (R7x2.out.other n_b0_v (bysA X3))
 have R8x3:=Zq (R7x3.out.other n_r_v (bysA X3))
 have R8x4:=Zq (R7x4.out.set (bysA X3))
 have R8x5:=Zq (R7x5.out.other (Ne.symm n_v_p) (bysA X3))
 have B8:=Zq (Zad B7.out l_v (bysA X3))
 clear B7 R7x0 R7x1 R7x2 R7x3 R7x4 R7x5 R7x0a R7x0b R7x0c R7x1a R7x1b R7x1c R7x2a R7x2b R7x2c R7x3a R7x3b R7x3c R7x4a R7x4b R7x4c R7x5a R7x5b R7x5c
 generalize W7.setRow v (bysA X3)=W8 at *
 obtain⟨R8x0a,R8x0b,R8x0c⟩:=R8x0.out
 obtain⟨R8x1a,R8x1b,R8x1c⟩:=R8x1.out
 obtain⟨R8x2a,R8x2b,R8x2c⟩:=R8x2.out
 obtain⟨R8x3a,R8x3b,R8x3c⟩:=R8x3.out
 obtain⟨R8x4a,R8x4b,R8x4c⟩:=R8x4.out
 obtain⟨R8x5a,R8x5b,R8x5c⟩:=R8x5.out
 go_wp2_with fail
 refine bodyPost_ret (v:=.agg (bysA X3)) (ZcR Tryz.results71 hw _ _ _ rfl (by go_simp) (by go_simp)) rfl ⟨rfl,?_⟩
 exact Zad (B8.out) l_r _
end Go.Proofs.YtddmjddlbhdcpaaGreatDoor
namespace Go
theorem Zdu {P:Program} (w:World) (t tn ty e:TypeId) (i:TypeInfo) (z:Value) (kq kn:IntKind) (ht:P.underlying t=some (.slice e)) (htn:P.underlying tn=some (.int kn)) (hi:P.info? e=some i) (hz:i.zero=some z)
  (g sLen sCap:Nat) (cur:Array Value) (hg:w.heap[g]?=some (.cells cur e (0,0))) (k:Nat) (h0:0<k) (hs:0<i.size) (h63:(k:Int)≤9223372036854775807) (h48:k*i.bytes≤281474976710656)
  (h1:∀u∈(Builtin.zeroCells z.cells k).toList,u.oneCell'=true) (hroom:sLen+k≤sCap) (hfit:sLen*i.size+(Builtin.zeroCells z.cells k).toList.length≤cur.size) :
  (Builtin.append_ #[t,tn] ty #[.slice (some ⟨g,0,none⟩) sLen sCap,.int kq k]).run P w =
   .ok (.slice (some ⟨g,0,none⟩) (sLen+k) sCap) (w.setRow g (cur.toList.take (sLen*i.size)++(Builtin.zeroCells z.cells k).toList++cur.toList.drop (sLen*i.size+(Builtin.zeroCells z.cells k).toList.length)).toArray):=by
 have hk:k≠0:=by omega
 have hw:IntKind.i64.wrap (k:Int)=k:=by rw[IntKind.wrap_i64];omega
 have h48i:¬(281474976710656<(k:Int)*(i.bytes:Int)):=by
  rw[←Int.natCast_mul]
  omega
 have hneg:¬((k:Int)<0):=by omega
 have hns:¬(k*i.size=0):=Nat.mul_ne_zero hk (by omega)
 have hst:=run_storeCells_at P g (sLen*i.size) e (Builtin.zeroCells z.cells k).toList 0 cur w hg (by simpa using hfit) h1
 simp only[Nat.add_zero] at hst
 simp[Builtin.append_,run_underlying ht,run_underlying htn,sizeOf,typeInfo,zeroValue,hi,hz,asInt,asIntOf,hw,hroom,hneg,hns,h48i,Addr.add_lit,hst]
end Go
namespace Go.Proofs.YtddmjddlbhdcpaaGreatDoor
open Go.RowKit Go.Hold Go.Sh
theorem Zcg (k:Nat):Builtin.zeroCells (Value.int IntKind.u8 0).cells k=bysA (zs k):=by
 apply Array.ext_getElem?
 intro i
 by_cases h:i<k
 ·rw[ZaB _ _ (by rw[Zah];exact h)]
  simp[Builtin.zeroCells,Value.cells,h,zs,List.getD,Nat.mod_one]
 ·rw[Array.getElem?_eq_none (by simp[Builtin.zeroCells,Value.cells];omega),Array.getElem?_eq_none (by rw[Zaj,Zah];omega)]
theorem ZhY {w:World} {B k:Nat} {v:Value} {l:List Nat} (h:OwnB w B v l) (h0:0<k) (hBw:B≤w.heap.size) (hlen:l.length+k≤16777216) :
  ∃ v' w',(Builtin.append_ #[38,3] 38 #[v,.int .i64 (k:Int)]).run Tryz.prog w=.ok v' w'∧OwnB w' B v' (l++zs k)∧w.grownBy w' v.ownBlock:=by
 obtain⟨i0,hi,hz0,hz1,hz2⟩:=info_parts ZcY
 have hbz:(bys (zs k)).length=k:=by rw[Zaz,Zah]
 have hzc:=Zcg k
 have hzl:(Builtin.zeroCells (Value.int IntKind.u8 0).cells k).toList=bys (zs k):=by rw[hzc];rfl
 rcases h.2 with ⟨rfl,hn0⟩ | ⟨g,cap,cur,rfl,hb,hg,hcap,hm,hs,htk⟩
 ·obtain rfl:=List.eq_nil_of_length_eq_zero hn0
  have hr:=Lib.run_append_nil_zeros (P:=Tryz.prog) w 38 3 38 5 i0 _ .i64 .i64 Tryz.underlying38 Tryz.underlying3 hi hz0 k h0 (by rw[hz1];decide) (by omega) (by rw[hz2];omega)
  have hge:=grownCap_ge w k 0 5
  have hle:=grownCap_le_maxLen w k 0 5 (ZaL (by simpa using hlen))
  generalize grownCap w k 0 5=c at *
  refine⟨_,_,hr,?_,?_⟩
  ·refine⟨by simp[Zah,Zaz],.inr ⟨w.heap.size,c,_,by rw[List.nil_append,Zah],hBw,heap_alloc_new w.drew _,by rw[List.nil_append,Zah];exact hge,hle,?_,?_⟩⟩
   ·rw[hzc,Zcg];simp[Zaj,Zah];omega
   ·rw[hzc,Zcg,List.nil_append,Zah,Array.toList_append,Nat.mul_one]
    show ((bys (zs k))++_).take k=_
    rw[List.take_append_of_le_length (by omega),List.take_of_length_le (by omega)]
  ·have hb:=Zab ((Below.refl w.heap.size w).drew) (.cells (Builtin.zeroCells (Value.int IntKind.u8 0).cells k++Builtin.zeroCells (Value.int IntKind.u8 0).cells (c-k)) 5)
   exact⟨hb.os,hb.tape,hb.output,hb.size,fun q hq _=>hb.block q hq⟩
 ·have hlt:=(Array.getElem?_eq_some_iff.1 hg).1
  by_cases hroom:l.length+k≤cap
  ·have hr:=Zdu (P:=Tryz.prog) w 38 3 38 5 i0 _ .i64 .i64 Tryz.underlying38 Tryz.underlying3 hi hz0 g l.length cap cur hg k h0 (by rw[hz1];decide) (by omega) (by rw[hz2];omega)
    (by rw[hzl];exact Zdd _) hroom (by rw[hzl,hbz,hz1,hs];omega)
   rw[hzl,hbz,hz1,Nat.mul_one] at hr
   have hcl:cur.toList.length=cap*1:=by rw[Array.length_toList,hs]
   have hl1:(cur.toList.take l.length).length=l.length:=by rw[List.length_take,hcl];omega
   refine⟨_,_,hr,?_,?_⟩
   ·refine⟨by simp[Zaz],.inr ⟨g,cap,(cur.toList.take l.length++bys (zs k)++cur.toList.drop (l.length+k)).toArray,by rw[List.length_append,Zah],hb,?_,by rw[List.length_append,Zah];exact hroom,hm,?_,?_⟩⟩
    ·simp only[World.setRow,Array.getElem?_modify,if_pos,hg];rfl
    ·rw[List.size_toArray,List.length_append,List.length_append,hl1,hbz,List.length_drop,hcl];omega
    ·rw[Nat.mul_one] at htk
     rw[Nat.mul_one,List.length_append,Zah,List.take_append_of_le_length (by rw[List.length_append,hl1,hbz];exact Nat.le_refl _),List.take_of_length_le (by rw[List.length_append,hl1,hbz];exact Nat.le_refl _),htk,bys,bys,bys,List.map_append]
   ·exact⟨rfl,rfl,rfl,by rw[size_setRow];exact Nat.le_refl _,fun q _ hne=>setRow_other w g q _ (fun e=>hne (by rw[e];rfl))⟩
  ·have hold:=run_firstCells_some (P:=Tryz.prog) w.drew i0.size l.length ⟨g,0,none⟩ l.length cap (bys l) (by rw[hz1,Zaz,Nat.mul_one]) (by simpa using Zgo (h.bytes hlt))
   have hr:=Lib.run_append_grow_zeros (P:=Tryz.prog) w 38 3 38 5 i0 _ .i64 .i64 Tryz.underlying38 Tryz.underlying3 hi hz0 (some ⟨g,0,none⟩) l.length cap (bys l) hold k h0 (by rw[hz1];decide) (by omega) (by omega) (by rw[hz2];omega) (by rw[hz2];exact growslice_fits (by omega) (by omega))
   have hge:=grownCap_ge w (l.length+k) cap 5
   have hle:=grownCap_le_maxLen w (l.length+k) cap 5 (ZaL hlen)
   generalize grownCap w (l.length+k) cap 5=c at *
   refine⟨_,_,hr,?_,?_⟩
   ·refine⟨by simp[Zaz],.inr ⟨w.heap.size,c,_,by rw[List.length_append,Zah],hBw,heap_alloc_new w.drew _,by rw[List.length_append,Zah];exact hge,hle,?_,?_⟩⟩
    ·rw[hzc,Zcg];simp[Zaj,Zah,Zaz];omega
    ·rw[hzc,Zcg,List.length_append,Zah,Nat.mul_one]
     simp only[Array.toList_append,bysA]
     rw[List.take_append_of_le_length (by rw[List.length_append,Zaz,hbz];exact Nat.le_refl _),List.take_of_length_le (by rw[List.length_append,Zaz,hbz];exact Nat.le_refl _),bys,bys,bys,List.map_append]
   ·have hb:=Zab ((Below.refl w.heap.size w).drew) (.cells ((bys l).toArray++Builtin.zeroCells (Value.int IntKind.u8 0).cells k++Builtin.zeroCells (Value.int IntKind.u8 0).cells (c-(l.length+k))) 5)
    exact⟨hb.os,hb.tape,hb.output,hb.size,fun q hq _=>hb.block q hq⟩
end Go.Proofs.YtddmjddlbhdcpaaGreatDoor
namespace Go.Proofs.YtddmjddlbhdcpaaGreatDoor
open Go.RowKit Go.Hold Go.Sh
def RowsAt (C:Nat) (w:World) (p:Option Addr) (ls:List (Array Value)):Prop:=∀ i x,ls[i]?=some x→∃ g o,p=some ⟨g,o,none⟩∧g<w.heap.size∧w.rangeAt g (o+i*C) x.toList
theorem RowsAt.grow {C:Nat} {w w':World} {p:Option Addr} {ls:List (Array Value)} (h:RowsAt C w p ls) (hb:Below w.heap.size w w'):RowsAt C w' p ls:=fun i x hx=>by
 obtain⟨g,o,hp,hg,hr⟩:=h i x hx
 refine⟨g,o,hp,Nat.lt_of_lt_of_le hg hb.size,fun j v hv=>?_⟩
 have:=hr j v hv
 rw[World.cell?_of_block (hb.block g hg)]
 exact this
theorem RowsAt.nil (C:Nat) (w:World) (p:Option Addr):RowsAt C w p []:=fun i x hx=>by simp at hx
theorem RowsAt.take {C:Nat} {w:World} {p:Option Addr} {ls:List (Array Value)} (h:RowsAt C w p ls) (n:Nat):RowsAt C w p (ls.take n):=fun i x hx=>h i x (by
 rw[List.getElem?_take] at hx
 split at hx
 ·exact hx
 ·cases hx)
theorem RowsAt.load {C:Nat} {t:TypeId} {d:TypeDesc} (hu:Tryz.prog.underlying t=some d) (hd:d.isRow=true) (hi:(Tryz.prog.info? t).map (·.size)=some C) {w:World} {p:Option Addr} {ls:List (Array Value)} (h:RowsAt C w p ls) {i:Nat} {x:Array Value} (hx:ls[i]?=some x) (hxs:x.size=C) :
  ∃ g o,p=some ⟨g,o,none⟩∧g<w.heap.size∧(Zam t (.pointer (some ⟨g,o+i*C,none⟩))).run Tryz.prog w=.ok (.agg x) w:=by
 obtain⟨g,o,hp,hg,hr⟩:=h i x hx
 refine⟨g,o,hp,hg,?_⟩
 have:=run_loadAt_mid (P:=Tryz.prog) w g (o+i*C) t _ _ hr hu hd (by rw[hi];simp[hxs])
 rw[Array.toArray_toList] at this
 exact this
theorem RowsAt.part {C k K:Nat} {t:TypeId} {d:TypeDesc} (hu:Tryz.prog.underlying t=some d) (hd:d.isRow=true) (hi:(Tryz.prog.info? t).map (·.size)=some K) {w:World} {p:Option Addr} {ls:List (Array Value)} (h:RowsAt C w p ls) {i:Nat} {x:Array Value} (hx:ls[i]?=some x) (hxs:k+K≤x.size) :
  ∃ g o,p=some ⟨g,o,none⟩∧g<w.heap.size∧(Zam t (.pointer (some ⟨g,o+i*C+k,none⟩))).run Tryz.prog w=.ok (.agg (x.extract k (k+K))) w:=by
 obtain⟨g,o,hp,hg,hr⟩:=h i x hx
 refine⟨g,o,hp,hg,?_⟩
 have hr':w.rangeAt g (o+i*C+k) (x.extract k (k+K)).toList:=fun j v hv=>by
  rw[Array.getElem?_toList,Array.getElem?_extract] at hv
  split at hv
  ·have:=hr (k+j) v (by rw[Array.getElem?_toList];exact hv)
   rw[←Nat.add_assoc] at this
   exact this
  ·cases hv
 have:=run_loadAt_mid (P:=Tryz.prog) w g (o+i*C+k) t _ _ hr' hu hd (by rw[hi];simp;omega)
 rw[Array.toArray_toList] at this
 exact this
def ZdQ (ls:List (Array Value)):List Value:=ls.flatMap Array.toList
theorem ZeF {C:Nat}:∀{ls:List (Array Value)},(∀ x∈ls,x.size=C)→(ZdQ ls).length=ls.length*C
 | [],_=>by simp[ZdQ]
 | a::ls,h=>by
  show (a.toList++ZdQ ls).length=_
  rw[List.length_append,ZeF fun x hx=>h x (List.mem_cons_of_mem _ hx),List.length_cons,Array.length_toList,h a List.mem_cons_self,Nat.add_mul];omega
theorem ZfI {C:Nat}:∀{ls:List (Array Value)} (_:∀x∈ls,x.size=C) (q j:Nat) (a:Array Value),ls[q]?=some a→j<C→(ZdQ ls)[q*C+j]?=a[j]?
 | [],_,q,j,a,h,_=>by simp at h
 | b::ls,hs,0,j,a,h,hj=>by
  simp at h;subst h
  show (b.toList++ZdQ ls)[0*C+j]?=_
  rw[Nat.zero_mul,Nat.zero_add,List.getElem?_append_left (by rw[Array.length_toList,hs b List.mem_cons_self];exact hj),Array.getElem?_toList]
 | b::ls,hs,q+1,j,a,h,hj=>by
  have:=ZfI (ls:=ls) (fun x hx=>hs x (List.mem_cons_of_mem _ hx)) q j a (by simpa using h) hj
  show (b.toList++ZdQ ls)[(q+1)*C+j]?=_
  have hb:b.toList.length=C:=by rw[Array.length_toList,hs b List.mem_cons_self]
  rw[List.getElem?_append_right (by rw[hb,Nat.add_mul];omega),hb,←this]
  congr 1
  rw[Nat.add_mul];omega
theorem Zls (ls:List (Array Value)) (a:Array Value):ZdQ (ls++[a])=ZdQ ls++a.toList:=by simp[ZdQ]
structure OwnR (w:World) (B:Nat) (e:TypeId) (C:Nat) (v:Value) (ls:List (Array Value)):Prop where
 own:w.ownsRow B e C v ls.length (ZdQ ls)
 sizes:∀x∈ls,x.size=C
theorem OwnR.nil (w:World) (B:Nat) (e:TypeId) (C:Nat):OwnR w B e C (.slice none 0 0) []:=⟨World.ownsRow_nil w B _ _,fun x hx=>by simp at hx⟩
theorem OwnR.moves {w w':World} {B g C:Nat} {e:TypeId} {a:Option Nat} {v:Value} {ls:List (Array Value)} (h:OwnR w B e C v ls) (m:Moves w g a w') (hg:v.ownBlock≠some g) (ha:∀k,v.ownBlock=some k→a≠some k):OwnR w' B e C v ls:=by
 refine⟨⟨h.own.1,?_⟩,h.sizes⟩
 rcases h.own.2 with hn | ⟨g0,cap,cur,rfl,hb,hx,rest⟩
 ·exact .inl hn
 ·exact .inr ⟨g0,cap,cur,rfl,hb,by
   rw[m.block g0 (Array.getElem?_eq_some_iff.1 hx).1 (fun e=>hg (by rw[e];rfl)) (fun e=>ha g0 rfl e.symm)];exact hx,rest⟩
theorem OwnR.grow {w w':World} {B C:Nat} {e:TypeId} {v:Value} {ls:List (Array Value)} (h:OwnR w B e C v ls) (hb:Below w.heap.size w w'):OwnR w' B e C v ls:=by
 have hl:=World.ownsRow.lt h.own
 exact h.moves (g:=w.heap.size) (a:=none) (Moves.of _ _ hb) (fun e=>by have:=(hl _ e).2;omega) (fun _ _ e=>by cases e)
theorem OwnR.kept {w w':World} {B C:Nat} {e:TypeId} {v:Value} {ls:List (Array Value)} {row:Option Nat} (h:OwnR w B e C v ls) (hg:w.grownBy w' row) (hne:v.ownBlock=none∨v.ownBlock≠row):OwnR w' B e C v ls:=⟨World.ownsRow.kept h.own hg hne,h.sizes⟩
theorem OwnR.ltb {w:World} {B C:Nat} {e:TypeId} {v:Value} {ls:List (Array Value)} (h:OwnR w B e C v ls) (k:Nat) (hk:v.ownBlock=some k):B≤k∧k<w.heap.size:=World.ownsRow.lt h.own k hk
theorem OwnR.form {w:World} {B C:Nat} {e:TypeId} {v:Value} {ls:List (Array Value)} (h:OwnR w B e C v ls):∃p c,v=.slice p ls.length c∧RowsAt C w p ls∧ls.length≤c∧(p=none→c=0)∧(0<ls.length→∃ g,p=some ⟨g,0,none⟩∧g<w.heap.size):=by
 rcases h.own.2 with ⟨rfl,h0⟩ | ⟨g,cap,cur,rfl,hb,hg,hcap,_⟩
 ·obtain rfl:=List.eq_nil_of_length_eq_zero h0
  exact⟨none,0,rfl,RowsAt.nil _ _ _,Nat.le_refl _,fun _=>rfl,fun h=>by simp at h⟩
 ·have hlt:=(Array.getElem?_eq_some_iff.1 hg).1
  refine⟨some ⟨g,0,none⟩,cap,rfl,fun i x hx=>⟨g,0,rfl,hlt,fun j v hv=>?_⟩,hcap,fun h=>by (cases h),fun _=>⟨g,rfl,hlt⟩⟩
  obtain⟨hi,hix⟩:=List.getElem?_eq_some_iff.1 hx
  have hxs:x.size=C:=h.sizes x (by rw[←hix];exact List.getElem_mem hi)
  have hj:j<C:=by
   have:=(List.getElem?_eq_some_iff.1 hv).1
   simpa [hxs] using this
  have hlen:i*C+j<ls.length*C:=by
   have:(i+1)*C≤ls.length*C:=Nat.mul_le_mul_right _ hi
   rw[Nat.add_mul] at this;omega
  rw[Nat.zero_add,World.ownsRow.cellAt h.own (i*C+j) (by omega),ZfI h.sizes i j x hx hj,←hv,Array.getElem?_toList]
theorem Zm8 {C Y:Nat} {t e:TypeId} {z:Value} (ht:Tryz.prog.underlying t=some (.slice e)) (hinfo:(Tryz.prog.info? e).map (fun i=>(i.zero,i.size,i.bytes))=some (some z,C,Y)) (hz:z.cells.size=C) (hC:0<C) (hY:Y≤1000)
  {w:World} {B gn o:Nat} {v:Value} {ls:List (Array Value)} {x:Array Value} (h:OwnR w B e C v ls) (hn:w.rangeAt gn o x.toList) (hx:x.size=C) (h1:Zbg x=true) (hBw:B≤w.heap.size) (hlen:ls.length≤1000) :
  ∃ v' w',(Builtin.append_ #[t,t] t #[v,.slice (some ⟨gn,o,none⟩) 1 1]).run Tryz.prog w=.ok v' w'∧OwnR w' B e C v' (ls++[x])∧w.grownBy w' v.ownBlock∧NewB w v.ownBlock v'.ownBlock:=by
 obtain⟨i0,hi,hz0,hz1,hz2⟩:=info_parts hinfo
 have hnews:∀j u,x.toList[j]?=some u→w.cell? ((⟨gn,o,none⟩:Addr).add j)=some u:=fun j u hu=>by
  rw[Addr.add_mid]
  exact hn j u hu
 have hone:∀u∈x.toList,u.oneCell'=true:=fun u hu=>(Array.all_eq_true_iff_forall_mem.1 h1) u (by simpa using hu)
 have hYn:∀n,n≤1001→n*Y≤1001000:=fun n hn=>Nat.le_trans (Nat.mul_le_mul hn hY) (by decide)
 obtain⟨v',w',g1,g2,g3,g4⟩:=run_append_own (P:=Tryz.prog) w B t t e i0 z C Y ht hi hz0 hz1 hz2 hz hC v ls.length (ZdQ ls) h.own ⟨gn,o,none⟩ 1 1 x.toList (by rw[Array.length_toList,hx,Nat.one_mul]) hnews hone (ZaL (by omega)) (Nat.le_trans (hYn _ (by omega)) (by decide)) hBw
 have g2':OwnR w' B e C v' (ls++[x]):=⟨by rw[List.length_append,Zls];exact g2,fun y hy=>by
  rcases List.mem_append.1 hy with hy | hy
  ·exact h.sizes y hy
  ·rw[List.mem_singleton.1 hy,hx]⟩
 refine⟨v',w',g1,g2',g3,?_⟩
 rcases h.own.2 with ⟨rfl,h0⟩ | ⟨g0,cap0,cur,rfl,hb,hgg,hc,hm,hs,htk⟩
 ·have hr:=run_append_nil (P:=Tryz.prog) w t t e i0 _ ht hi hz0 ⟨gn,o,none⟩ 1 1 x.toList (by rw[hz1,Array.length_toList,hx,Nat.one_mul]) hnews (by decide) (by decide) (by rw[hz2];exact Nat.le_trans (hYn 1 (by decide)) (by decide))
  rw[g1] at hr
  cases hr
  intro k hk
  simp only[Value.ownBlock,Option.some.injEq] at hk
  exact .inr (by omega)
 ·by_cases hroom:ls.length+1≤cap0
  ·have hfit:ls.length*i0.size+x.toList.length≤cur.size:=by
    have hxl:x.toList.length=C:=by rw[Array.length_toList,hx]
    have:(ls.length+1)*C≤cap0*C:=Nat.mul_le_mul_right _ hroom
    rw[Nat.add_mul] at this
    rw[hz1,hs,hxl];omega
   have hr:=run_append_room (P:=Tryz.prog) w t t e i0 ht hi g0 ls.length cap0 cur hgg ⟨gn,o,none⟩ 1 1 x.toList (by rw[hz1,Array.length_toList,hx,Nat.one_mul]) hnews hone hroom hfit
   rw[g1] at hr
   cases hr
   exact NewB.refl _ _
  ·have hr:=run_append_grow (P:=Tryz.prog) w t t e i0 _ ht hi hz0 ⟨g0,0,none⟩ ls.length cap0 (ZdQ ls) (by rw[hz1];exact ZeF h.sizes) (World.ownsRow.cells h.own (g:=g0) rfl) ⟨gn,o,none⟩ 1 1 x.toList (by rw[hz1,Array.length_toList,hx,Nat.one_mul]) hnews (by omega) (by omega) (by rw[hz2];exact growslice_fits (by omega) (Nat.le_trans (hYn _ (by omega)) (by decide)))
   rw[g1] at hr
   cases hr
   intro k hk
   simp only[Value.ownBlock,Option.some.injEq] at hk
   exact .inr (by omega)
theorem Zcb {w:World} {n:Nat} {c:Array Value} (h:RowAt w n c):w.rangeAt n 0 c.toList:=by
 have:=ZlU h 0 c.size
 rwa [Nat.zero_add,Array.extract_size] at this
open Go.RowKit Go.Hold Go.Sh Go.Ch Go.Cm Go.Hd
theorem Zbz {w:World} {p:Option Addr} {ss:List (List Nat)} (hR:RowsAt 32 w p (ss.map bysA)) {j:Nat} {s:List Nat} (hj:ss[j]?=some s) (hs:s.length=32) :
  ∃ g o,p=some ⟨g,o,none⟩∧g<w.heap.size∧(Zam 23 (.pointer (some ⟨g,o+j*32,none⟩))).run Tryz.prog w=.ok (.agg (bysA s)) w :=
 hR.load Tryz.underlying23 rfl (by kernel_rfl) (by rw[List.getElem?_map,hj];rfl) (by rw[Zaj,hs])
theorem ZfL {w:World} {B:Nat} {v:Value} {l:List Nat} (h:OwnB w B v l) (hBw:B≤w.heap.size) (hlen:l.length+32≤16777216) :
  ∃ v' w',(Builtin.append_ #[38,3] 38 #[v,.int .i64 32]).run Tryz.prog w=.ok v' w'∧OwnB w' B v' (l++zs 32)∧w.grownBy w' v.ownBlock:=ZhY (k:=32) h (by decide) hBw hlen
theorem BytesAt.from {w:World} {b o:Nat} {l:List Nat} (h:BytesAt w b o l) (n:Nat):BytesAt w b (o+n) (l.drop n) :=
 ⟨h.1,fun i hi=>by
  rw[List.length_drop] at hi
  rw[Nat.add_assoc,h.2 (n+i) (by omega)]
  simp[List.getD,List.getElem?_drop]⟩
theorem Ztk (b u:Nat) (hu:u<192) (W:World):(Instr.sliceAt 99 (.pointer (some ⟨b,0,none⟩)) (some (.int .i64 (u:Int))) none none).run Tryz.prog W=.ok (.slice (some ⟨b,u,none⟩) (192-u) (192-u)) W:=by
 have hl:Tryz.prog.arrayLen 99=192:=by kernel_rfl
 have hs:(sizeOf (Tryz.prog.elem 99)).run Tryz.prog W=.ok 1 W:=by kernel_rfl
 have h1:=run_sliceAt_array_l (P:=Tryz.prog) W 99 ⟨b,0,none⟩ (by kernel_rfl) .i64 (u:Int) (by omega) (by rw[hl];omega)
 rw[h1,hs,hl]
 simp only[Result.andThen_ok,slicedAt,Int.toNat_natCast,Nat.mul_one,Addr.add_mid,Nat.zero_add]
 rw[if_neg (by omega)]
theorem ZrM (b u:Nat) (hu:u≤160) (W:World):(Instr.sliceAt 27 (.pointer (some ⟨b,0,none⟩)) (some (.int .i64 (u:Int))) none none).run Tryz.prog W=.ok (.slice (some ⟨b,if u=160 then 0 else u,none⟩) (160-u) (160-u)) W:=by
 have hl:Tryz.prog.arrayLen 27=160:=by kernel_rfl
 have hs:(sizeOf (Tryz.prog.elem 27)).run Tryz.prog W=.ok 1 W:=by kernel_rfl
 have h1:=run_sliceAt_array_l (P:=Tryz.prog) W 27 ⟨b,0,none⟩ (by kernel_rfl) .i64 (u:Int) (by omega) (by rw[hl];omega)
 rw[h1,hs,hl]
 simp only[Result.andThen_ok,slicedAt,Int.toNat_natCast,Nat.mul_one,Addr.add_mid,Nat.zero_add]
 by_cases e:u=160
 ·rw[if_pos e.symm,if_pos e]
 ·rw[if_neg (fun h=>e h.symm),if_neg e]
theorem OwnB.xored {w:World} {B g m c:Nat} {l:List Nat} (h:OwnB w B (.slice (some ⟨g,0,none⟩) m c) l) (x:List Nat) (hx:x.length=l.length) :
  ∃ cur,RowAt w g cur∧FrontB cur l∧∀ w',Sets w g (xorC cur l x l.length) w'→OwnB w' B (.slice (some ⟨g,0,none⟩) m c) (mixd l x):=by
 rcases h.2 with ⟨h0,_⟩ | ⟨g',cap,cur,e,hb,hg,hcap,hm,hs,htk⟩
 ·cases h0
 ·cases e
  rw[Nat.mul_one] at hs htk
  have hf:FrontB cur l:=⟨by rw[hs];exact hcap,fun i hi=>by
   have h1:(bys l)[i]?=some (.int .u8 ((l.getD i 0:Nat):Int)):=by simp[bys,hi]
   rw[←htk,List.getElem?_take,if_pos hi,Array.getElem?_toList] at h1
   exact h1⟩
  refine⟨cur,RowAt.of hg,hf,fun w' hset=>?_⟩
  have hlt:=(Array.getElem?_eq_some_iff.1 hg).1
  have hml:(mixd l x).length=l.length:=by rw[ZaJ,hx]
  have hbk:w'.heap[g]?=some (.cells (xorC cur l x l.length) 5 (0,0)):=by
   obtain⟨os,d,rfl⟩:=hset
   rw[World.plus_block _ _ _ _ (by rw[size_setRow];exact hlt)]
   simp only[World.setRow,Array.getElem?_modify,if_pos,hg];rfl
  refine⟨by rw[hml];simp[Zaz,ZaJ,hx],.inr ⟨g,c,_,by rw[hml],hb,hbk,by rw[hml];exact hcap,hm,?_,?_⟩⟩
  ·unfold xorC;rw[Zer,Nat.mul_one];exact hs
  ·unfold xorC
   have h1:=Zgj cur 0 (bys ((mixd l x).take l.length)) (by rw[Zaz,List.length_take,hml];omega)
   rw[Nat.zero_add,Zaz,List.length_take,hml,Nat.min_self,List.take_zero,List.nil_append] at h1
   rw[hml,Nat.mul_one,h1,List.take_of_length_le (by omega)]
theorem ZmQ (ss:List (List Nat)) (p:Option Addr) (n cap:Nat) (hs:∀s∈ss,s.length=32) (hsb:∀s∈ss,∀ i,s.getD i 0<256) (hn:n=ss.length) (h5:n≤5) (w:World) (hT:Tabs w) (hR:RowsAt 32 w p (ss.map bysA)) :
  Calls Tryz.prog 101 #[.slice p n cap] w fun e w'=>∃ v,e=.returned v∧OwnB w' w.heap.size v (fil ss)∧Below w.heap.size w w':=by
 have HT:=Zq hT
 have HR:=Zq hR
 have Hn:=Zq hn
 have H5:=Zq h5
 have i5:¬(5:Int)<(n:Int):=by omega
 have hhs:∀s:List Nat,(bysA (hst s)).size=192:=fun s=>Zae (ZaT s)
 have hz192:=Zae (Zah 192)
 have Hs:=Zq hs
 have Hsb:=Zq hsb
 clear hT hR hn h5 hs hsb
 go_enter Tryz.func101,Tryz.ntmps101
 go_wp2_with fail
 go_loopw [3,9] (fun f i wr=>∃ (v:Value) (k:Nat),v=f∧k≤n∧i=.int .i64 k∧OwnB wr w.heap.size v (fil (ss.take k))∧Below w.heap.size w wr) (fun _ i _=>n-(intOf i).toNat)
 case atStart=>exact⟨_,0,rfl,Nat.zero_le _,rfl,Zbk w _,Below.refl _ _⟩
 case round =>
  obtain⟨v,k,rfl,hk,rfl,hown,hbel⟩:=hrel
  by_cases hkn:k<n
  ·have hk1:(k:Int)<(n:Int):=by omega
   obtain⟨s,hj⟩:∃s,ss[k]?=some s:=⟨_,List.getElem?_eq_getElem (by rw[←Hn.out];exact hkn)⟩
   have hm:=List.mem_of_getElem? hj
   have hs32:=Hs.out s hm
   obtain⟨g,o,ep,hg,hld⟩:=Zbz (HR.out.grow hbel) hj hs32
   subst ep
   have hss:=Zae hs32
   have HS:=Zq (fun (W:World) (h:Tabs W)=>ZhR s hs32 (Hsb.out s hm) W h)
   have Hf:=Zq (show fil (ss.take (k+1))=mixd ((hst s).drop (192-((fil (ss.take k)).length+32))) (fil (ss.take k)++zs 32) by rw[List.take_add_one,hj];exact Zfd _ _)
   have hfl:(fil (ss.take k)).length=32*k:=by rw[ZbM,List.length_take,←Hn.out];omega
   have Hfl:=Zq hfl
   have Hfb:=Zq (ZjG (ss.take k))
   rw[hfl] at Hf
   obtain⟨m,em⟩:∃m,m=32*k+32:=⟨_,rfl⟩
   have hm5:m≤160:=by have:=H5.out;omega
   rw[←em] at Hf
   generalize fil (ss.take k)=F at *
   have Em:=Zq em
   have HO:=Zq hown
   have Hbel:=Zq hbel
   have BA:=Zab (Below.refl wr.heap.size wr) (.cells (bysA s) 23)
   have R1:=RowAt.of (Zaq wr (.cells (bysA s) 23))
   have B1:=hbel.trans (BA.mono hbel.size)
   obtain⟨v2,W2,hr,ho2,hg2⟩:=ZfL (hown.below BA) B1.size (by rw[hfl];omega)
   have B2:=Zq (Za2 B1 (hown.below BA) B1.size hg2)
   have S2:=Zq (ZaM R1 hg2 (fun e=>by have:=(hown.ltb _ e).2;omega))
   have O2:=Zq ho2
   have L2:=Zq (show wr.heap.size<W2.heap.size from Nat.lt_of_lt_of_le R1.2.2 hg2.size)
   clear hown hbel hj hm hfl hs32 em BA R1 B1 ho2 hg2
   obtain⟨s1,s2,s3⟩:=S2.out
   go_wp2_with (at_builtin;refine Lib.wpList_append_run _ rfl _ _ _ _ rfl _ _ rfl rfl _ _ hr ?_)
   clear hr hld
   generalize wr.heap.size=b at *
   go_wp2_with fail
   refine(HS.out _ (HT.out.grow B2.out)).mono ?_
   rintro e W3 ⟨rfl,hb3⟩
   have O3:=Zq (O2.out.below hb3)
   have B3:=Zq (B2.out.trans (hb3.mono B2.out.size))
   clear hb3 s1 s2 s3 S2
   have hm0:0<m:=by have:=Em.out;omega
   have hlm:(F++zs 32).length=m:=by rw[List.length_append,Zah,Hfl.out,Em.out]
   obtain⟨gf,cf,rfl,hgB,hgl,hcf⟩:=O3.out.addr hlm hm0
   obtain⟨u,eu⟩:∃u,u=192-m:=⟨_,rfl⟩
   have hw1:wrap64 (192-(m:Int))=(u:Int):=by rw[show (192:Int)-(m:Int)=(u:Int) by omega];exact IntWalk.wrap64_in _ (by omega)
   have hsl:=fun (bb:Nat) (W:World)=>Ztk bb u (by omega) W
   rw[show 192-u=m by omega] at hsl
   rw[←eu] at Hf
   have Hu:=Zq (And.intro hm5 eu)
   clear hm5 eu
   go_wp2_with fail
   have BA:=Zab (Below.refl W3.heap.size W3) (.cells (bysA (hst s)) 99)
   have R4:=RowAt.of (Zaq W3 (.cells (bysA (hst s)) 99))
   have hxl:((hst s).drop u).length=(F++zs 32).length:=by rw[List.length_drop,ZaT,hlm,Hu.out.2];have:=Hu.out.1;omega
   obtain⟨cur,hcur,hfr,hown⟩:=(O3.out.below BA).xored ((hst s).drop u) hxl
   have hB4:Bs (W3.alloc (.cells (bysA (hst s)) 99)) (some ⟨W3.heap.size,u,none⟩) ((hst s).drop u) gf:=.inr ⟨W3.heap.size,u,rfl,by
    have:=(ZaH R4).from u
    rwa [Nat.zero_add] at this,by omega⟩
   have B4:=B3.out.trans (BA.mono B3.out.size)
   refine(ZqO gf m m cf m (some ⟨W3.heap.size,u,none⟩) cur (F++zs 32) ((hst s).drop u) _ hcur hfr hlm.symm hlm.symm hxl (by rw[hlm];have:=Hu.out.1;omega) (ZaN Hfb.out (Zbs _)) (ZbB (Zdi s) _) hB4).mono ?_
   rintro e W5 ⟨rfl,hset⟩
   have O5:=Zq (hown W5 hset)
   rw[Go.Li.mixd_comm _ _ hxl.symm,←Hf.out] at O5
   have B5:=Zq (hset.below B4 hgB B4.size)
   clear hset hown hcur hfr hB4 B4 BA R4 hxl hlm
   go_wp2_with fail
   go_roundw
   case rel=>exact⟨_,k+1,rfl,by omega,by go_num,O5.out,B5.out⟩
   case measure=>simp[intOf];omega
  ·obtain rfl:k=n:=by omega
   rw[List.take_of_length_le (by rw[←Hn.out];exact Nat.le_refl _)] at hown
   have HO:=Zq hown
   have Hbel:=Zq hbel
   clear hbel hown
   go_wp2_with fail
   go_ret
   exact⟨v,rfl,HO.out,Hbel.out⟩
theorem Zny (o:Oper) (h:o.op=.alloc 27) (hg:o.guard=none):Lays Tryz.prog o 27 (bysA (zs 160)):=by
 refine⟨hg,fun a w=>?_⟩
 obtain⟨dst,op,ty,pos,after,guard⟩:=o
 simp only at h hg
 subst h;subst hg
 go_simp
theorem Ztu (a:Option Addr) (len cap n:Nat) (h:n≤cap) (w:World):(Instr.sliceAt 32 (.slice a len cap) none (some (.int .i64 (n:Int))) none).run Tryz.prog w=.ok (.slice a n cap) w:=by
 have hu:Tryz.prog.underlying 32=some (.slice (Tryz.prog.elem 32)):=by kernel_rfl
 have hs:(sizeOf (Tryz.prog.elem 32)).run Tryz.prog w=.ok 32 w:=by kernel_rfl
 rw[run_sliceAt_slice _ _ _ _ _ _ hu,run_slice_h _ _ _ _ _ hu _ _ (by omega) (by omega),hs]
 cases a<;>simp[sliced,Result.andThen,Addr.add]
theorem Zlw (done:List (List Nat)) (s:List Nat) (c:Cmd) (p:Option Addr) (n cap:Nat) (hs:∀t∈done++[s],t.length=32) (hsb:∀t∈done++[s],∀ i,t.getD i 0<256) (hid:c.id.length=8) (hidb:∀i,c.id.getD i 0<256) (hn:n=done.length+1) (h5:n≤5) (hnc:n≤cap) (w:World) (hT:Tabs w) (hR:RowsAt 32 w p ((done++[s]).map bysA)) :
  Calls Tryz.prog 70 #[.slice p n cap,.agg (cmdA c)] w fun e w'=>e=.returned (.agg (bysA (ZdP done s (encV c))))∧Below w.heap.size w w':=by
 obtain⟨d,ed⟩:∃d,d=done.length:=⟨_,rfl⟩
 have hnd:(n:Int)-1=(d:Int):=by omega
 have hd5:¬(5:Int)<(n:Int):=by omega
 have hdn:(d:Int)<(n:Int):=by omega
 have hcs:=Zax hid
 have hsm:=hs s (by simp)
 have hsbm:=hsb s (by simp)
 have hj:(done++[s])[d]?=some s:=by rw[ed];simp
 have HLd:=Zq (fun (W:World) (hb:Below w.heap.size w W)=>Zbz (hR.grow hb) hj hsm)
 obtain⟨g,o,ep,hx1,hx2⟩:=Zbz hR hj hsm
 clear hx1 hx2
 subst ep
 have HLK:=Zq (fun (W:World) (hb:Below w.heap.size w W)=>show (Zam 23 (.pointer (some ⟨g,o+d*32,none⟩))).run Tryz.prog W=.ok (.agg (bysA s)) W by
  obtain⟨g',o',e,_,h⟩:=HLd.out W hb
  cases e;exact h)
 clear HLd
 have HRd:=Zq (show RowsAt 32 w (some ⟨g,o,none⟩) (done.map bysA) by
  have:=hR.take d
  rwa [←List.map_take,ed,List.take_left] at this)
 have HF:=Zq (fun (W:World) (h:Tabs W) (hb:Below w.heap.size w W)=>ZmQ done (some ⟨g,o,none⟩) d cap (fun t ht=>hs t (by simp[ht])) (fun t ht=>hsb t (by simp[ht])) ed (by omega) W h (HRd.out.grow hb))
 have HLa:=Zq (fun (W:World)=>Zqu c hid (zs 16) (zs 160) (Zah 16) (Zah 160) W)
 have hel:=Zbe hid
 have HTu:=Zq (fun (W:World) (h:Tabs W)=>ZgX (encV c++zs 16++zs 160) s (by rw[List.length_append,List.length_append,hel,Zah,Zah]) (ZaN (ZaN (Zdg hidb) (Zbs _)) (Zbs _)) hsm hsbm W h)
 have hwl:=Zct (s:=s) hel (Zah 16) (Zah 160)
 have HWb:=Zq (fun (W:World)=>ZmI (wid s (encV c) (zs 16) (zs 160)) hwl W)
 have HE:=Zq (show ZdP done s (encV c)=(wid s (encV c) (zs 16) (zs 160)).take (160-32*d)++fil done by rw[ed];rfl)
 have hb0:((wid s (encV c) (zs 16) (zs 160)).take 160).length=160:=by rw[List.length_take,hwl];rfl
 obtain⟨k,ek⟩:∃k,k=32*d:=⟨_,rfl⟩
 have Hfl:=Zq (show (fil done).length=k by rw[ZbM,←ed,ek])
 obtain⟨u,eu⟩:∃u,u=160-k:=⟨_,rfl⟩
 have hu1:u≤160:=by omega
 have hu2:160-u=k:=by omega
 rw[←ek,←eu] at HE
 have hbl:(ZdP done s (encV c)).length=160:=by rw[HE.out,List.length_append,List.length_take,hwl,Hfl.out];omega
 have hbs:=Zae hbl
 change Hid (∀ (W:World),Tabs W→Calls Tryz.prog 46 #[.agg (bysA (encV c++zs 16++zs 160)),.agg (bysA s)] W fun e w'=>e=.returned (.agg (bysA (wid s (encV c) (zs 16) (zs 160))))∧Below W.heap.size W w') at HTu
 have hE2:=Zq (show ((wid s (encV c) (zs 16) (zs 160)).take 160).take u=(wid s (encV c) (zs 16) (zs 160)).take u by rw[List.take_take,Nat.min_eq_left hu1])
 generalize ZdP done s (encV c)=R at *
 generalize fil done=F at *
 generalize wid s (encV c) (zs 16) (zs 160)=V at *
 generalize encV c++zs 16++zs 160=Y at *
 have hb0s:=Zae hb0
 obtain⟨Z,eZ⟩:∃Z,Z=V.take 160:=⟨_,rfl⟩
 rw[←eZ] at hb0 hb0s HWb hE2
 have hsl:=fun (bb:Nat) (W:World)=>ZrM bb u hu1 W
 have hslk:=fun (W:World)=>Ztu (some ⟨g,o,none⟩) n cap d (by omega) W
 rw[hu2] at hsl
 have hw1:wrap64 (160-(k:Int))=(u:Int):=by rw[show (160:Int)-(k:Int)=(u:Int) by omega];exact IntWalk.wrap64_in _ (by omega)
 have HCp:=Zq (fun (W:World) (gb cf:Nat) (pf:Option Addr) (hg:RowAt W gb (bysA Z)) (hB:Bs0 W pf F)=>show (Builtin.copy_ #[38,38] 3 #[.slice (some ⟨gb,if u=160 then 0 else u,none⟩) k k,.slice pf k cf]).run Tryz.prog W=.ok (.int .i64 (k:Int)) (W.setRow gb (bysA R)) by
  by_cases e:u=160
  ·have hd0:k=0:=by omega
   have hF0:F=[]:=List.eq_nil_of_length_eq_zero (by rw[Hfl.out,hd0])
   have hRZ:R=Z:=by rw[HE.out,hF0,List.append_nil,e,←eZ]
   rw[if_pos e,hd0,hRZ,ZbK hg]
   exact Zef W _ _ _ _ _
  ·rw[if_neg e]
   have:=Zfv (u:=u) (c2:=k) (cap:=cf) (d:=k) (s:=k) (k:=k) hg (by rw[hb0];exact hu1) (by rw[hb0,hu2]) Hfl.out.symm (by rw[hb0,Hfl.out];omega) hB
   rwa [hE2.out,List.take_of_length_le (l:=F) (by rw[Hfl.out];exact Nat.le_refl _),List.drop_of_length_le (l:=Z) (by rw[hb0];omega),List.append_nil,←HE.out] at this)
 generalize (if u=160 then 0 else u)=q at *
 have HT:=Zq hT
 have hz160:=Zae (Zah 160)
 clear hT hR hs hsb hid hidb hn hnc hj hsm hsbm hel hwl hE2 eZ hb0 hu1 hu2 eu ek ed hbl h5
 go_enter Tryz.func70,Tryz.ntmps70
 go_wp2_with fail
 generalize hW:World.alloc _ _=W0
 have R0x0:=Zq (show RowAt W0 (w.heap.size) (cmdA c) by rw[←hW];clear hW;exact⟨by go_simp,by first | (go_simp;done) | (go_simp;rfl),by go_simp⟩)
 have R0x1:=Zq (show RowAt W0 (w.heap.size+1) (bysA (zs 160)) by rw[←hW];clear hW;exact⟨by go_simp,by first | (go_simp;done) | (go_simp;rfl),by go_simp⟩)
 have B0:=Zq (show Below w.heap.size w W0 by rw[←hW];repeat (first | apply Zab | exact Below.refl _ _))
 clear hW
 have hzs160:=Zae (Zah 160)
 have l_x:w.heap.size≤w.heap.size:=by omega
 have l_r:w.heap.size≤w.heap.size+1:=by omega
 have n_x_r:w.heap.size≠w.heap.size+1:=by omega
 generalize w.heap.size+1=r at *
 obtain⟨x,ex⟩:∃z,z=w.heap.size:=⟨_,rfl⟩
 rw[←ex] at R0x0 n_x_r ⊢
 have l_x:w.heap.size≤x:=by rw[ex];exact Nat.le_refl _
 clear ex
 obtain⟨R0x0a,R0x0b,R0x0c⟩:=R0x0.out
 obtain⟨R0x1a,R0x1b,R0x1c⟩:=R0x1.out
 have hlk:∀(o':Array Obj) (d':Nat),(Zam 23 (.pointer (some ⟨g,o+d*32,none⟩))).run Tryz.prog (W0.plus o' d')=.ok (.agg (bysA s)) (W0.plus o' d'):=fun o' d'=>HLK.out _ (ZaE _ _ _ B0.out B0.out.size)
 refine Zal W0 [0,1,2,3,4,5,6,7,8,9] [false,false,false,false,false,false,false,false,false,false] [10] [(27,bysA (zs 160))] 11 (by kernel_rfl) rfl (by kernel_rfl) (by intro c a d v w h;cases d<;>exact h) (by first | exact(Below.refl _ _).drew | exact Below.refl _ _) ?_
 simp only[pick,List.getElem?_cons_succ,List.getElem?_cons_zero,List.drop_succ_cons,List.drop_zero]
 refine Zac (Zaa rfl) (by intro K o d hK;go_simp;exact hK _ (Below.refl _ _)) ?_
 refine Zac (Zaa rfl) (by intro K o d hK;go_simp;exact hK _ (Below.refl _ _)) ?_
 refine Zac (Zaa rfl) (by intro K o d hK;go_simp;exact hK _ (Below.refl _ _)) ?_
 refine Zai (v:=.agg (bysA Y)) (Zaa rfl) (by intro K o d hK;go_simp;refine(HLa.out _).mono ?_;rintro e w' ⟨rfl,hbw⟩;exact⟨_,rfl,hK _ hbw⟩) ?_
 refine Zac (Zaa rfl) (by intro K o d hK;go_simp;exact hK _ (Below.refl _ _)) ?_
 refine Zac (Zaa rfl) (by intro K o d hK;go_simp;exact hK _ (Below.refl _ _)) ?_
 refine Zac (Zaa rfl) (by intro K o d hK;go_simp;exact hK _ (Below.refl _ _)) ?_
 refine Zac (Zaa rfl) (by intro K o d hK;go_simp;exact hK _ (Below.refl _ _)) ?_
 refine Zai (v:=.agg (bysA V)) (Zaa rfl) (by intro K o d hK;go_simp;refine(HTu.out _ (HT.out.grow (ZaE _ _ _ B0.out B0.out.size))).mono ?_;rintro e w' ⟨rfl,hbw⟩;exact⟨_,rfl,hK _ hbw⟩) ?_
 refine Zai (v:=.agg (bysA Z)) (Zaa rfl) (by intro K o d hK;go_simp;refine(HWb.out _).mono ?_;rintro e w' ⟨rfl,hbw⟩;exact⟨_,rfl,hK _ hbw⟩) ?_
 refine Zan ?_
 refine⟨Zny _ rfl rfl,fun b hg0 hn0=>?_⟩
 intro W1 hb1 hblk
 have n_x_b:x≠b:=by have:=R0x0.out.2.2;omega
 have n_r_b:r≠b:=by have:=R0x1.out.2.2;omega
 have l_b:w.heap.size≤b:=Nat.le_trans B0.out.size hg0
 have V1x0:=Zq (RowAt.of (hblk 0 b _ _ rfl rfl))
 clear hblk
 clear R0x0a R0x0b R0x0c R0x1a R0x1b R0x1c
 have R1x0:=Zq (R0x0.out.grow hb1)
 have R1x1:=Zq (R0x1.out.grow hb1)
 have B1:=Zq (B0.out.trans (hb1.mono B0.out.size))
 clear hb1 B0 R0x0 R0x1
 obtain⟨R1x0a,R1x0b,R1x0c⟩:=R1x0.out
 obtain⟨R1x1a,R1x1b,R1x1c⟩:=R1x1.out
 obtain⟨V1x0a,V1x0b,V1x0c⟩:=V1x0.out
 go_wp2_with fail
 have R2x0:=Zq (R1x0.out.other n_x_b (bysA Z))
 have R2x1:=Zq (R1x1.out.other n_r_b (bysA Z))
 have R2x2:=Zq (V1x0.out.set (bysA Z))
 have B2:=Zq (Zad B1.out l_b (bysA Z))
 clear B1 R1x0 R1x1 V1x0 R1x0a R1x0b R1x0c R1x1a R1x1b R1x1c V1x0a V1x0b V1x0c
 generalize W1.setRow b (bysA Z)=W2 at *
 refine(HF.out _ (HT.out.grow B2.out) B2.out).mono ?_
 rintro e W3 ⟨v,rfl,hown,hb3⟩
 have R3x0:=Zq (R2x0.out.grow hb3)
 have R3x1:=Zq (R2x1.out.grow hb3)
 have R3x2:=Zq (R2x2.out.grow hb3)
 have B3:=Zq (B2.out.trans (hb3.mono B2.out.size))
 clear hb3 B2 R2x0 R2x1 R2x2
 obtain⟨pf,cf,rfl,hBs,hx1,hx2⟩:=hown.bs
 clear hx1 hx2 hown
 rw[Hfl.out]
 have hcp:=HCp.out _ b cf pf R3x2.out hBs
 clear hBs
 obtain⟨R3x0a,R3x0b,R3x0c⟩:=R3x0.out
 obtain⟨R3x1a,R3x1b,R3x1c⟩:=R3x1.out
 obtain⟨R3x2a,R3x2b,R3x2c⟩:=R3x2.out
 go_wp2_with fail
 refine bodyPost_ret (v:=.agg (bysA R)) (ZcO Tryz.results70 hbs _ _ _ rfl (by go_simp) (by go_simp)) rfl ⟨rfl,?_⟩
 exact Zad (Zad (B3.out) l_b _) l_r _
open Go.RowKit Go.Hold Go.Sh
theorem ZgF {C:Nat}:∀(vs:List Value) (o j:Nat) (x:Nat×Nat),(∀ v∈vs,v.cells.size=C)→(offs o vs)[j]?=some x→x=(o+j*C,C)
 | [],o,j,x,_,h=>by simp[offs] at h
 | v::vs,o,0,x,hv,h=>by
  simp only[offs,List.getElem?_cons_zero,Option.some.injEq] at h
  rw[←h,hv v List.mem_cons_self,Nat.zero_mul,Nat.add_zero]
 | v::vs,o,j+1,x,hv,h=>by
  simp only[offs,List.getElem?_cons_succ] at h
  have:=ZgF vs _ j x (fun u hu=>hv u (List.mem_cons_of_mem _ hu)) h
  rw[this,hv v List.mem_cons_self,Nat.add_mul,Nat.one_mul]
  congr 1;omega
theorem ZdR {C:Nat}:∀(vs:List Value),(∀ v∈vs,v.cells.size=C)→(Za5 vs).length=vs.length*C
 | [],_=>by simp[Za5]
 | v::vs,hv=>by
  show (v.cells.toList++Za5 vs).length=_
  rw[List.length_append,Array.length_toList,hv v List.mem_cons_self,ZdR vs (fun u hu=>hv u (List.mem_cons_of_mem _ hu)),List.length_cons,Nat.add_mul];omega
theorem Zea {P:Program} {t e:TypeId} {C Y len:Nat} {z:Value} (hu:P.underlying t=some (.slice e)) (hinfo:(P.info? e).map (fun i=>(i.zero,i.size,i.bytes))=some (some z,C,Y)) (vs:List Value) (hv:∀v∈vs,v.cells.size=C) (hl:vs.length=len) (h0:¬len*C=0) (hm:¬len*C > 2^24)
  (parts:Array (Nat×Value)) (hp:parts.toList=vs.zipIdx.map fun p=>(p.2,p.1)) (w:World) :
  (Instr.buildSlice t len parts).run P w=.ok (.slice (some ⟨w.heap.size,0,none⟩) len len) (w.alloc (.cells (Za5 vs).toArray e)):=by
 obtain⟨ie,h1,h2,h3,_⟩:=info_parts hinfo
 refine run_buildSlice w _ _ len _ _ ie _ hu h1 h2 (by rw[h3];exact hm) (by rw[h3];exact h0) ?_
 rw[h3,hp]
 have hca:=ZdR vs hv
 rw[hl] at hca
 obtain⟨r,g1,g2,g3⟩:=Zg8 (fun i=>some (i*C,C)) vs 0 0 ((Array.range (len*C)).map (z.cells[· % z.cells.size]!)) (fun j x hx=>by
  rw[ZgF vs 0 j x hv hx,Nat.zero_add,Nat.zero_add]) (by rw[hca];simp)
 rw[g1]
 congr 1
 have h5:r.toList.length=(Za5 vs).length:=by rw[Array.length_toList,g2,hca];simp
 rw[Nat.zero_add,List.take_zero,List.nil_append,←h5,List.take_length] at g3
 rw[←g3,Array.toArray_toList]
end Go.Proofs.YtddmjddlbhdcpaaGreatDoor
namespace Go.Oc
theorem or_add (a x:Nat) (hx:x<256):a*256 ||| x=a*256+x:=by
 have:=Nat.shiftLeft_add_eq_or_of_lt (i:=8) (b:=x) hx a
 rw[Nat.shiftLeft_eq] at this
 exact this.symm
end Go.Oc
namespace Go.Proofs.YtddmjddlbhdcpaaGreatDoor
open Go.RowKit Go.Hold Go.Sh Go.Oc
def RB (w:World) (bb:Option Nat) (p:Option Addr) (l:List Nat):Prop:=(p=none∧l=[])∨∃ b o,bb=some b∧p=some ⟨b,o,none⟩∧BytesAt w b o l
theorem RB.any {w:World} {bb:Option Nat} {p:Option Addr} {l:List Nat} (h:RB w bb p l):Bs0 w p l:=by
 rcases h with ⟨_,h⟩ | ⟨b,o,_,e,h⟩
 ·exact .inl h
 ·exact .inr ⟨b,o,e,h⟩
theorem RB.moves {w w':World} {g:Nat} {a bb:Option Nat} {p:Option Addr} {l:List Nat} (h:RB w bb p l) (m:Moves w g a w') (h1:bb≠some g) (h2:∀k,bb=some k→a≠some k):RB w' bb p l:=by
 rcases h with h | ⟨b,o,e1,e,h⟩
 ·exact .inl h
 ·exact .inr ⟨b,o,e1,e,h.moves m (fun e2=>h1 (by rw[e1,e2])) (h2 b e1)⟩
theorem RB.lt {w:World} {bb:Option Nat} {p:Option Addr} {l:List Nat} (h:RB w bb p l):p≠none→∀ k,bb=some k→k<w.heap.size:=by
 rcases h with ⟨h,_⟩ | ⟨b,o,e1,_,h⟩
 ·intro hp;exact absurd h hp
 ·intro _ k hk;rw[e1] at hk;cases hk;exact h.1
def Rd (w:World) (g:Nat) (bb:Option Nat) (s:Ws):Prop :=
 ∃ p c,RowAt w g (rrow true s.1 (.slice p s.2.length c))∧RB w bb p s.2∧(p=none→c=0)∧s.2.length≤c∧bb≠some g∧s.2.length≤65536∧∀ k,bb=some k→k<w.heap.size
def RStep (w:World) (g:Nat) (bb:Option Nat) (s':Ws) (w':World):Prop:=Rd w' g bb s'∧Moves w g none w'
theorem Rd.lt {w:World} {g:Nat} {bb:Option Nat} {s:Ws} (h:Rd w g bb s):g<w.heap.size∧∀ k,bb=some k→k<w.heap.size:=by
 obtain⟨p,c,h,_,_,_,_,_,h2⟩:=h
 exact⟨h.2.2,h2⟩
theorem Rd.le {w:World} {g:Nat} {bb:Option Nat} {s:Ws} (h:Rd w g bb s):s.2.length≤65536:=by
 obtain⟨p,c,_,_,_,_,_,h,_⟩:=h;exact h
theorem Rd.apart {w:World} {g:Nat} {bb:Option Nat} {s:Ws} (h:Rd w g bb s):bb≠some g:=by
 obtain⟨p,c,_,_,_,_,h,_,_⟩:=h;exact h
theorem Rd.moves {w w':World} {g g2:Nat} {bb ob2:Option Nat} {s:Ws} (h:Rd w g bb s) (m:Moves w g2 ob2 w') (h1:g≠g2) (h2:ob2≠some g) (h3:bb≠some g2) (h4:∀k,bb=some k→ob2≠some k):Rd w' g bb s:=by
 obtain⟨p,c,hr,hb,h5,h6,h7,h8,h9⟩:=h
 exact⟨p,c,RowAt.moves hr m h1 h2,hb.moves m h3 h4,h5,h6,h7,h8,fun k hk=>Nat.lt_of_lt_of_le (h9 k hk) m.size⟩
theorem Rd.grow {w w':World} {g:Nat} {bb:Option Nat} {s:Ws} (h:Rd w g bb s) (hb:Below w.heap.size w w'):Rd w' g bb s:=by
 have hl:=h.lt
 refine h.moves (g2:=w.heap.size) (ob2:=none) (Moves.of _ _ hb) (by omega) (fun e=>by cases e) (fun e=>?_) (fun _ _ e=>by cases e)
 have:=hl.2 _ e;omega
theorem RStep.refl {w:World} {g:Nat} {bb:Option Nat} {s:Ws} (h:Rd w g bb s):RStep w g bb s w:=⟨h,Moves.refl _ _ _⟩
theorem RStep.grow {w w1 w':World} {g:Nat} {bb:Option Nat} {s:Ws} (h:RStep w g bb s w1) (hb:Below w1.heap.size w1 w'):RStep w g bb s w':=⟨h.1.grow hb,h.2.grow hb⟩
theorem Rd.row {w:World} {g:Nat} {bb:Option Nat} {s:Ws} (h:Rd w g bb s):∃v,RowAt w g (rrow true s.1 v):=by
 obtain⟨p,c,h,_⟩:=h;exact⟨_,h⟩
theorem RStep.err {w:World} {g:Nat} {bb:Option Nat} {s:Ws} (h:Rd w g bb s) (er:Int):RStep w g bb (er,s.2) (w.setCell ⟨g,1,none⟩ (.int .i64 er)):=by
 have hl:=h.lt
 obtain⟨p,c,hr,hb,h5,h6,h7,h8,h9⟩:=h
 rw[Zbm hr]
 have m:=Moves.setRow (Moves.refl w g none) ((rrow true s.1 (.slice p s.2.length c)).setIfInBounds 1 (.int .i64 er))
 exact⟨⟨p,c,hr.set _,hb.moves m h7 (fun _ _ e=>by cases e),h5,h6,h7,h8,fun k hk=>Nat.lt_of_lt_of_le (h9 k hk) m.size⟩,m⟩
theorem RStep.put {w:World} {g:Nat} {bb:Option Nat} {s:Ws} {l:List Nat} {p:Option Addr} {c:Nat} (h:Rd w g bb s) (hb:RB w bb p l) (hp:p=none→c=0) (hc:l.length≤c) (hl:l.length≤65536) :
  RStep w g bb (s.1,l) (w.setCell ⟨g,2,none⟩ (.slice p l.length c)):=by
 obtain⟨p0,c0,hr,hb0,h5,h6,h7,h8,h9⟩:=h
 rw[Zbm hr]
 have m:=Moves.setRow (Moves.refl w g none) ((rrow true s.1 (.slice p0 s.2.length c0)).setIfInBounds 2 (.slice p l.length c))
 exact⟨⟨p,c,hr.set _,hb.moves m h7 (fun _ _ e=>by cases e),hp,hc,h7,hl,fun k hk=>Nat.lt_of_lt_of_le (h9 k hk) m.size⟩,m⟩
theorem ZrE (w:World):(slB (.slice none 0 0) (some (.int .i64 ((0:Nat):Int))) none none).run Tryz.prog w=.ok (.slice none 0 0) w:=by
 unfold slB
 rw[run_sliceAt_slice _ _ _ _ _ _ ZeV,run_slice_l _ _ _ _ _ ZeV _ _ (by omega) (by omega),Zlk]
 simp[sliced,Result.andThen]
theorem Zi7 (p:Option Addr) (l:List Nat) (n cap:Nat) (w:World) (hn:n=l.length) (hl:l.length≤65536) (hB:Bs0 w p l) (hp:p=none→cap=0) :
  Calls Tryz.prog 81 #[.slice p n cap] w fun e w'=>∃ g bb,e=.returned (.pointer (some ⟨g,0,none⟩))∧Rd w' g bb (0,l)∧w.heap.size≤g∧(∀ k,bb=some k→w.heap.size≤k)∧Below w.heap.size w w':=by
 have h1:¬(65536:Int)<(n:Int):=by omega
 have KC:=Zq (ZjP p l n cap w hn hB hp (by omega))
 have HL:=Zq hl
 clear hl hB hp hn
 go_enter Tryz.func81,Tryz.ntmps81
 go_wp2_with fail
 refine KC.out.mono ?_
 rintro e w1 ⟨v,rfl,ho,hb1⟩
 have HO:=Zq ho
 have HB:=Zq hb1
 obtain⟨p1,c1,rfl,_,hc1,hp1⟩:=ho.bs
 have HC:=Zq hc1
 have HP:=Zq hp1
 have HE:=Zq (Eq.refl l.length)
 clear ho hb1 hc1 hp1
 generalize hk:l.length=k at *
 have Hk:=Zq hk
 clear hk
 go_wp2_with fail
 go_ret
 refine⟨_,(Value.slice p1 k c1).ownBlock,rfl,?_,HB.out.size,fun k' hk'=>(World.ownsRow.lt HO.out k' hk').1,(HB.out).trans ((Zab (Below.refl w1.heap.size w1) _).mono HB.out.size)⟩
 have hlt:=World.ownsRow.lt HO.out
 refine⟨p1,c1,by simp only[Hk.out];exact RowAt.of (Zaq w1 _),?_,HP.out,by simp only[Hk.out];exact HC.out,fun e=>by have:=(hlt _ e).2;omega,by simp only[Hk.out];exact HL.out,fun k' hk'=>Nat.lt_of_lt_of_le (hlt k' hk').2 (by simp)⟩
 rcases HO.out.2 with ⟨hv,h0⟩ | ⟨gx,cap,cur,hv,_⟩
 ·cases hv
  exact .inl ⟨rfl,List.length_eq_zero_iff.1 h0⟩
 ·cases hv
  exact .inr ⟨gx,0,rfl,rfl,(OwnB.bytes HO.out (hlt gx rfl).2).grow (Zab (Below.refl _ _) _)⟩
end Go.Proofs.YtddmjddlbhdcpaaGreatDoor
namespace Go.Proofs.YtddmjddlbhdcpaaGreatDoor
open Go.RowKit Go.Hold Go.Sh Go.Oc
def tkL (l:List Nat) (n:Nat):List Nat:=if l.length<n then [] else l.take n
theorem Rd.stop {w:World} {g:Nat} {bb:Option Nat} {s:Ws} (h:Rd w g bb s) :
  Calls Tryz.prog 110 #[.pointer (some ⟨g,0,none⟩)] w fun e w'=>e=.returned (.int .i64 s.1)∧w'=w:=by
 obtain⟨v,hr⟩:=h.row
 exact Zk5 g true s.1 w (hr.cellAt 0 rfl) (hr.cellAt 1 rfl)
theorem RB.drop {w:World} {bb:Option Nat} {b o n cap:Nat} {l:List Nat} (h:RB w bb (some ⟨b,o,none⟩) l) (hc:l.length≤cap):RB w bb (some ⟨b,adv o n cap,none⟩) (l.drop n):=by
 rcases h with ⟨h,_⟩ | ⟨b',o',e1,e2,h⟩
 ·cases h
 ·cases e2
  exact .inr ⟨b,_,e1,rfl,h.adv hc⟩
theorem ZlW (g:Nat) (bb:Option Nat) (l:List Nat) (n:Nat) (w:World) (h:Rd w g bb (0,l)) :
  Calls Tryz.prog 112 #[.pointer (some ⟨g,0,none⟩),.int .i64 (n:Int)] w fun e w'=>∃ p c,e=.returned (.tuple #[.slice p (tkL l n).length c,.int .i64 (takS (0,l) n).1])∧Bs0 w' p (tkL l n)∧(p=none→c=0)∧RStep w g bb (takS (0,l) n) w':=by
 have H:=Zq h
 obtain⟨p,c,hr,hb,hpc,hlc,hap,hle,hbl⟩:=h
 simp only at hr hb hlc hle
 have hc1:=hr.cellAt 1 (show (rrow true 0 (.slice p l.length c))[1]?=some (.int .i64 0) from rfl)
 have hc2:=hr.cellAt 2 (show (rrow true 0 (.slice p l.length c))[2]?=some (.slice p l.length c) from rfl)
 have hf1:=hr.frozenAt 1
 have hf2:=hr.frozenAt 2
 have hgl:=hr.2.2
 obtain⟨k,ek⟩:∃k,k=l.length:=⟨_,rfl⟩
 by_cases hs:l.length<n
 ·have e1:tkL l n=[]:=by unfold tkL;rw[if_pos hs]
  have e2:takS (0,l) n=(4,l):=by unfold takS;rw[if_pos hs]
  rw[e1,e2]
  have h1:(k:Int)<(n:Int):=by omega
  have KF:=Zq (Zgh g 4 0 w hc1 hf1)
  have HE:=Zq (RStep.err H.out 4)
  rw[←ek] at hc2
  clear hr hb hpc hlc hap hle hbl hs e1 e2 hc1 hf1 hf2 ek
  go_enter Tryz.func112,Tryz.ntmps112
  go_wp2_with fail
  refine KF.out.mono ?_
  rintro e w' ⟨rfl,rfl⟩
  go_wp2_with fail
  refine bodyPost_ret (v:=.tuple #[.slice none 0 0,.int .i64 4]) (results_tmp2 Tryz.results112 _ _ _) rfl ⟨none,0,rfl,.inl rfl,fun _=>rfl,HE.out⟩
 ·have e1:tkL l n=l.take n:=by unfold tkL;rw[if_neg hs]
  have e2:takS (0,l) n=(0,l.drop n):=by unfold takS;rw[if_neg hs]
  rw[e1,e2]
  have h1:¬(k:Int)<(n:Int):=by omega
  have hlen:(l.take n).length=n:=by rw[List.length_take];omega
  have hh:=ZlF p k c n (by omega)
  have hbt:=hb.any.take n
  have hld:(l.drop n).length=k-n:=by rw[List.length_drop,ek]
  have hc64:c≤c:=Nat.le_refl _
  rcases hb with ⟨rfl,rfl⟩ | ⟨b,o,rfl,rfl,hb⟩
  ·obtain rfl:=hpc rfl
   obtain rfl:n=0:=by simp at hs;exact hs
   obtain rfl:k=0:=by rw[ek];rfl
   have hlo:=ZrE
   have HE:=Zq (RStep.put H.out (.inl ⟨rfl,rfl⟩) (fun _=>rfl) (Nat.le_refl _) (by simp):RStep w g bb (0,[]) _)
   clear hr hpc hlc hap hle hbl hs e1 e2 hc1 hf1 ek hlen hld hbt
   simp only[List.length_nil,List.take_nil,List.drop_nil] at *
   rw[show ((0:Nat):Int)=0 from rfl] at *
   go_enter Tryz.func112,Tryz.ntmps112
   go_wp2_with fail
   refine bodyPost_ret (v:=.tuple #[.slice none 0 0,.int .i64 0]) (results_tmp2 Tryz.results112 _ _ _) rfl ⟨none,0,rfl,.inl rfl,fun _=>rfl,HE.out⟩
  ·have hlo:=ZhJ b o k c n (by omega)
   have hrb:RB w (some b) (some ⟨b,adv o n c,none⟩) (l.drop n):=RB.drop (.inr ⟨b,o,rfl,rfl,hb⟩) hlc
   have HE0:RStep w g (some b) (0,l.drop n) _:=RStep.put (c:=c-n) H.out hrb (fun e=>by cases e) (by omega) (by omega)
   have HBt:=Zq (show Bs0 (w.setCell ⟨g,2,none⟩ (.slice (some ⟨b,adv o n c,none⟩) (l.drop n).length (c-n))) (some ⟨b,o,none⟩) (l.take n) from
    hbt.moves (Moves.setCell (Moves.refl w g none) 2 _) (fun b' o' e=>by cases e;exact⟨fun e=>hap (by rw[e]),fun e=>by cases e⟩))
   rw[hld] at HE0 HBt
   have HE:=Zq HE0
   rw[←ek] at hc2
   clear hr hpc hlc hap hle hbl hs e1 e2 hc1 hf1 ek hrb hld hbt hb HE0
   generalize l.take n=t at *
   subst hlen
   go_enter Tryz.func112,Tryz.ntmps112
   go_wp2_with fail
   refine bodyPost_ret (v:=.tuple #[.slice (some ⟨b,o,none⟩) t.length c,.int .i64 0]) (results_tmp2 Tryz.results112 _ _ _) rfl ⟨_,_,rfl,HBt.out,(fun e=>by cases e),HE.out⟩
theorem Zqc (p:Option Addr) (l:List Nat) (n cap:Nat) (w:World) (hn:n=l.length) (hl:l.length≤8) (hB:Bs0 w p l) (hlb:∀i,l.getD i 0<256) :
  Calls Tryz.prog 113 #[.slice p n cap] w fun e w'=>e=.returned (.int .u64 (ZcF l:Int))∧w'=w:=by
 have HB:=Zq hB
 have Hn:=Zq hn
 have HL:=Zq hl
 have HLb:=Zq hlb
 clear hB hn hl hlb
 go_enter Tryz.func113,Tryz.ntmps113
 go_wp2_with fail
 go_loopw [3,8] (fun z i wr=>∃ j:Nat,j≤n∧i=.int .i64 j∧z=.int .u64 (ZcF (l.take j):Int)∧wr=w) (fun _ i _=>n-(intOf i).toNat)
 case atStart=>exact⟨0,Nat.zero_le _,rfl,rfl,rfl⟩
 case round =>
  obtain⟨j,hj,rfl,rfl,hwr⟩:=hrel
  subst hwr
  by_cases hjn:j<n
  ·have hj0:(0:Int)≤(j:Int):=by omega
   have hj1:(j:Int)<(n:Int):=by omega
   have hjb:(j:Int)<8:=by have:=HL.out;have:=Hn.out;omega
   have hjl:j<l.length:=by rw[←Hn.out];exact hjn
   obtain⟨b,o,hp,hby⟩:∃b o,p=some ⟨b,o,none⟩∧BytesAt wr b o l:=by
    rcases HB.out with rfl | h
    ·simp at hjl
    ·exact h
   subst hp
   have hcj:=hby.2 j hjl
   have hx:=HLb.out j
   have ht:l.take (j+1)=l.take j++[l.getD j 0]:=by rw[List.take_add_one,List.getElem?_eq_getElem hjl];simp[List.getD,hjl]
   obtain⟨x,ex⟩:∃x,x=l.getD j 0:=⟨_,rfl⟩
   rw[←ex] at hcj hx ht
   have hjs:ZcF (l.take (j+1))=ZcF (l.take j)*256+x:=by rw[ht,ZlV]
   have hlt:=Zte (l.take (j+1)) (Zbc HLb.out _)
   have hpow:(2:Nat)^(8*(l.take (j+1)).length)≤18446744073709551616:=by
    rw[show (18446744073709551616:Nat)=2^64 from rfl]
    refine Nat.pow_le_pow_right (by decide) ?_
    rw[List.length_take];have:=HL.out;omega
   obtain⟨a2,ea2⟩:∃a,a=ZcF (l.take (j+1)):=⟨_,rfl⟩
   obtain⟨a,ea⟩:∃a,a=ZcF (l.take j):=⟨_,rfl⟩
   rw[←ea2,←ea] at hjs
   rw[←ea2] at hlt
   rw[←ea]
   obtain⟨y,ey⟩:∃y,y=a*256:=⟨_,rfl⟩
   have hsh:IntKind.u64.wrap ((a:Int)*256)=(y:Int):=by rw[IntWalk.u64_in _ (by omega)];omega
   have hcx:IntKind.u64.wrap (x:Int)=(x:Int):=IntWalk.u64_in _ (by omega)
   have hor:bits .or .u64 (y:Int) (x:Int)=(a2:Int):=by rw[bits_or_u64_nat y x (by omega) (by omega),ey,Go.Oc.or_add a x hx,hjs]
   have Ea2:=Zq ea2
   clear hby hx ht ex hjs hlt hpow ea2 ea ey hjl
   go_wp2_with fail
   go_roundw
   case rel=>exact⟨j+1,by omega,by go_num,by rw[←Ea2.out],by first | trivial | rfl⟩
   case measure=>simp[intOf];omega
  ·obtain rfl:j=n:=by omega
   have hall:l.take j=l:=List.take_of_length_le (by rw[←Hn.out];exact Nat.le_refl _)
   rw[hall]
   clear hall
   go_wp2_with fail
   go_ret
   exact⟨rfl,rfl⟩
def Zlg (w:World) (v:Value) (er:Int):Prop:=Calls Tryz.prog 110 #[v] w fun e w'=>e=.returned (.int .i64 er)∧w'=w
theorem Zlr (po:Option Addr) (er:Int) (her:¬er=0) (a:Value) (w:World) (h:Zlg w (.pointer po) er):Calls Tryz.prog 82 #[.pointer po,a] w fun e w'=>e=.returned (.tuple #[.int .u64 0,.int .i64 er])∧w'=w:=by
 have HS:=Zq h
 unfold Zlg at HS
 clear h
 go_enter Tryz.func82,Tryz.ntmps82
 go_wp2_with fail
 refine HS.out.mono ?_
 rintro e w' ⟨rfl,rfl⟩
 go_wp2_with fail
 refine bodyPost_ret (v:=.tuple #[.int .u64 0,.int .i64 er]) (results_tmp2 Tryz.results82 _ _ _) rfl ⟨rfl,rfl⟩
theorem Zim (po:Option Addr) (er:Int) (her:¬er=0) (a:Value) (w:World) (h:Zlg w (.pointer po) er):Calls Tryz.prog 83 #[.pointer po,a] w fun e w'=>e=.returned (.tuple #[.slice none 0 0,.int .i64 er])∧w'=w:=by
 have HS:=Zq h
 unfold Zlg at HS
 clear h
 go_enter Tryz.func83,Tryz.ntmps83
 go_wp2_with fail
 refine HS.out.mono ?_
 rintro e w' ⟨rfl,rfl⟩
 go_wp2_with fail
 refine bodyPost_ret (v:=.tuple #[.slice none 0 0,.int .i64 er]) (results_tmp2 Tryz.results83 _ _ _) rfl ⟨rfl,rfl⟩
theorem ZjW (po:Option Addr) (er:Int) (her:¬er=0) (w:World) (h:Zlg w (.pointer po) er):Calls Tryz.prog 84 #[.pointer po] w fun e w'=>e=.returned (.bool false)∧w'=w:=by
 have HS:=Zq h
 unfold Zlg at HS
 have h2:(er != 0)=true:=by simpa using her
 clear h
 go_enter Tryz.func84,Tryz.ntmps84
 go_wp2_with fail
 refine HS.out.mono ?_
 rintro e w' ⟨rfl,rfl⟩
 go_wp2_with fail
 go_ret
 exact⟨rfl,rfl⟩
theorem Zrz (g:Nat) (bb:Option Nat) (s:Ws) (sz:Int) (w:World) (h:Rd w g bb s) (hb:∀i,s.2.getD i 0<256) :
  Calls Tryz.prog 82 #[.pointer (some ⟨g,0,none⟩),.int .i64 sz] w fun e w'=>e=.returned (.tuple #[.int .u64 (Zhe s sz:Int),.int .i64 (ZhV s sz).1])∧RStep w g bb (ZhV s sz) w':=by
 have HS:=Zq h.stop
 obtain⟨er,l⟩:=s
 by_cases her:er=0
 ·subst her
  have hs:ZhV (0,l) sz=if ¬(1≤sz∧sz≤8) then (2,l) else takS (0,l) sz.toNat:=by unfold ZhV;rw[if_neg (by simp)]
  rw[hs]
  by_cases h18:1≤sz∧sz≤8
  ·rw[if_neg (by simpa using h18)]
   obtain⟨z,rfl⟩:∃z:Nat,sz=(z:Int):=⟨sz.toNat,by omega⟩
   rw[Int.toNat_natCast]
   have KT:=Zq (ZlW g bb l z w h)
   have hv:Zhe (0,l) (z:Int)=ZcF (tkL l z):=by
    unfold Zhe tkL
    simp only[Int.toNat_natCast]
    by_cases hx:l.length<z
    ·rw[if_neg (by omega),if_pos hx];rfl
    ·rw[if_pos ⟨by simp,h18,by omega⟩,if_neg hx]
   rw[hv]
   have HT:=Zq (show (tkL l z).length≤8∧∀ i,(tkL l z).getD i 0<256 by
    unfold tkL;split
    ·exact⟨by simp,fun i=>by simp⟩
    ·exact⟨by rw[List.length_take];omega,Zbc hb _⟩)
   have h1:¬(z:Int)<1:=by omega
   have h8:¬(8:Int)<(z:Int):=by omega
   obtain⟨x,ex⟩:∃x,x=ZcF (tkL l z):=⟨_,rfl⟩
   rw[←ex]
   have Ex:=Zq ex
   clear hs h hb hv h18 ex
   go_enter Tryz.func82,Tryz.ntmps82
   go_wp2_with fail
   refine HS.out.mono ?_
   rintro e w' ⟨rfl,rfl⟩
   go_wp2_with fail
   refine KT.out.mono ?_
   rintro e w1 ⟨p,c,rfl,hb1,_,hst⟩
   have KJ:=Zq (Zqc p (tkL l z) (tkL l z).length c w1 rfl HT.out.1 hb1 HT.out.2)
   have HR:=Zq hst
   clear hb1 hst KT
   rw[←Ex.out] at KJ
   generalize (tkL l z).length=k at *
   go_wp2_with fail
   refine KJ.out.mono ?_
   rintro e w' ⟨rfl,rfl⟩
   go_wp2_with fail
   refine bodyPost_ret (v:=.tuple #[.int .u64 (x:Int),.int .i64 (takS (0,l) z).1]) (results_tmp2 Tryz.results82 _ _ _) rfl ⟨rfl,HR.out⟩
  ·rw[if_pos h18]
   have hv:Zhe (0,l) sz=0:=by unfold Zhe;rw[if_neg (fun e=>h18 e.2.1)]
   rw[hv]
   obtain⟨v,hr⟩:=h.row
   have KF:=Zq (Zgh g 2 0 w (hr.cellAt 1 rfl) (hr.frozenAt 1))
   have HE:=Zq (RStep.err h 2)
   clear hs h hb hv hr
   by_cases h1:sz<1
   ·clear h18
    go_enter Tryz.func82,Tryz.ntmps82
    go_wp2_with fail
    refine HS.out.mono ?_
    rintro e w' ⟨rfl,rfl⟩
    go_wp2_with fail
    refine KF.out.mono ?_
    rintro e w' ⟨rfl,rfl⟩
    go_wp2_with fail
    refine bodyPost_ret (v:=.tuple #[.int .u64 0,.int .i64 2]) (results_tmp2 Tryz.results82 _ _ _) rfl ⟨rfl,HE.out⟩
   ·have h8:(8:Int)<sz:=by omega
    clear h18
    go_enter Tryz.func82,Tryz.ntmps82
    go_wp2_with fail
    refine HS.out.mono ?_
    rintro e w' ⟨rfl,rfl⟩
    go_wp2_with fail
    refine KF.out.mono ?_
    rintro e w' ⟨rfl,rfl⟩
    go_wp2_with fail
    refine bodyPost_ret (v:=.tuple #[.int .u64 0,.int .i64 2]) (results_tmp2 Tryz.results82 _ _ _) rfl ⟨rfl,HE.out⟩
 ·have hs:ZhV (er,l) sz=(er,l):=by unfold ZhV;rw[if_pos her]
  have hv:Zhe (er,l) sz=0:=by unfold Zhe;rw[if_neg (fun e=>her e.1)]
  rw[hs,hv]
  refine(Zlr _ er her _ w HS.out).mono ?_
  rintro e w' ⟨rfl,rfl⟩
  exact⟨rfl,RStep.refl h⟩
theorem ZmP (g:Nat) (bb:Option Nat) (s:Ws) (n:Int) (w:World) (h:Rd w g bb s) :
  Calls Tryz.prog 83 #[.pointer (some ⟨g,0,none⟩),.int .i64 n] w fun e w'=>∃ v,e=.returned (.tuple #[v,.int .i64 (Zik s n).1])∧OwnB w' w.heap.size v (Zhi s n)∧RStep w g bb (Zik s n) w':=by
 have HS:=Zq h.stop
 obtain⟨er,l⟩:=s
 by_cases her:er=0
 ·subst her
  have hs:Zik (0,l) n=if n<0 then (2,l) else takS (0,l) n.toNat:=by unfold Zik;rw[if_neg (by simp)]
  rw[hs]
  by_cases h0:n<0
  ·rw[if_pos h0]
   have hv:Zhi (0,l) n=[]:=by unfold Zhi;rw[if_neg (fun e=>by have:=e.2.1;omega)]
   rw[hv]
   obtain⟨v,hr⟩:=h.row
   have KF:=Zq (Zgh g 2 0 w (hr.cellAt 1 rfl) (hr.frozenAt 1))
   have HE:=Zq (RStep.err h 2)
   clear hs h hv hr
   go_enter Tryz.func83,Tryz.ntmps83
   go_wp2_with fail
   refine HS.out.mono ?_
   rintro e w' ⟨rfl,rfl⟩
   go_wp2_with fail
   refine KF.out.mono ?_
   rintro e w' ⟨rfl,rfl⟩
   go_wp2_with fail
   refine bodyPost_ret (v:=.tuple #[.slice none 0 0,.int .i64 2]) (results_tmp2 Tryz.results83 _ _ _) rfl ⟨_,rfl,Zbk _ _,HE.out⟩
  ·rw[if_neg h0]
   obtain⟨z,rfl⟩:∃z:Nat,n=(z:Int):=⟨n.toNat,by omega⟩
   rw[Int.toNat_natCast]
   have KT:=Zq (ZlW g bb l z w h)
   have hv:Zhi (0,l) (z:Int)=tkL l z:=by
    unfold Zhi tkL
    simp only[Int.toNat_natCast]
    by_cases hx:l.length<z
    ·rw[if_neg (by omega),if_pos hx]
    ·rw[if_pos ⟨by simp,by omega,by omega⟩,if_neg hx]
   rw[hv]
   have HT:=Zq (show (tkL l z).length≤16000000 by
    have:=h.le
    simp only at this
    unfold tkL;split
    ·simp
    ·rw[List.length_take];omega)
   clear hs h hv
   go_enter Tryz.func83,Tryz.ntmps83
   go_wp2_with fail
   refine HS.out.mono ?_
   rintro e w' ⟨rfl,rfl⟩
   go_wp2_with fail
   refine KT.out.mono ?_
   rintro e w1 ⟨p,c,rfl,hb1,hp1,hst⟩
   have KJ:=Zq (ZjP p (tkL l z) (tkL l z).length c w1 rfl hb1 hp1 HT.out)
   have HR:=Zq hst
   clear hb1 hp1 hst KT
   generalize (tkL l z).length=k at *
   go_wp2_with fail
   refine KJ.out.mono ?_
   rintro e w2 ⟨v2,rfl,ho2,hb2⟩
   have HO:=Zq ho2
   have HB:=Zq hb2
   clear ho2 hb2
   go_wp2_with fail
   refine bodyPost_ret (v:=.tuple #[v2,.int .i64 (takS (0,l) z).1]) (results_tmp2 Tryz.results83 _ _ _) rfl ⟨_,rfl,HO.out.base HR.out.2.size,HR.out.grow HB.out⟩
 ·have hs:Zik (er,l) n=(er,l):=by unfold Zik;rw[if_pos her]
  have hv:Zhi (er,l) n=[]:=by unfold Zhi;rw[if_neg (fun e=>her e.1)]
  rw[hs,hv]
  refine(Zim _ er her _ w HS.out).mono ?_
  rintro e w' ⟨rfl,rfl⟩
  exact⟨_,rfl,Zbk _ _,RStep.refl h⟩
theorem Zmh (l:List Nat) (k:Nat) (h:∀i,i<k→l.getD i 0=0) (hk:l.length≤k):l.all (·==0)=true:=by
 rw[List.all_eq_true]
 intro x hx
 obtain⟨i,hi,rfl⟩:=List.getElem_of_mem hx
 have:=h i (by omega)
 simpa [List.getD,hi] using this
theorem Zpr (l:List Nat) (k:Nat) (hk:k<l.length) (h:l.getD k 0≠0):l.all (·==0)=false:=by
 rw[List.all_eq_false]
 refine⟨l[k],List.getElem_mem hk,?_⟩
 simpa [List.getD,hk] using h
theorem Zp9 (g:Nat) (bb:Option Nat) (s:Ws) (w:World) (h:Rd w g bb s) :
  Calls Tryz.prog 84 #[.pointer (some ⟨g,0,none⟩)] w fun e w'=>e=.returned (.bool (Zlt s))∧w'=w:=by
 have HS:=Zq h.stop
 obtain⟨er,l⟩:=s
 by_cases her:er=0
 ·subst her
  have hs:Zlt (0,l)=l.all (·==0):=by unfold Zlt;simp
  rw[hs]
  have hle:=h.le
  obtain⟨p,c,hr,hb,_⟩:=h
  simp only at hr hb hle
  have hc2:=hr.cellAt 2 (show (rrow true 0 (.slice p l.length c))[2]?=some (.slice p l.length c) from rfl)
  have hgl:=hr.2.2
  have HB:=Zq hb.any
  clear hs hr hb
  obtain⟨n,en⟩:∃n,n=l.length:=⟨_,rfl⟩
  have hnb:(n:Int)≤65536:=by omega
  have Hn:=Zq en
  rw[←en] at hc2
  clear en hle
  go_enter Tryz.func84,Tryz.ntmps84
  go_wp2_with fail
  refine HS.out.mono ?_
  rintro e w' ⟨rfl,rfl⟩
  go_wp2_with fail
  go_loopw [13] (fun i wr=>∃ j:Nat,j≤n∧i=.int .i64 j∧(∀ i,i<j→l.getD i 0=0)∧wr=w') (fun i _=>n-(intOf i).toNat)
  case atStart=>exact⟨0,Nat.zero_le _,rfl,fun i hi=>absurd hi (by omega),rfl⟩
  case round =>
   obtain⟨j,hj,rfl,hz,hwr⟩:=hrel
   subst hwr
   have HZ:=Zq hz
   clear hz
   by_cases hjn:j<n
   ·have hj0:(0:Int)≤(j:Int):=by omega
    have hj1:(j:Int)<(n:Int):=by omega
    have hjb:(j:Int)<65536:=by omega
    have hjl:j<l.length:=by rw[←Hn.out];exact hjn
    obtain⟨b,o,hp,hby⟩:∃b o,p=some ⟨b,o,none⟩∧BytesAt wr b o l:=by
     rcases HB.out with rfl | h
     ·simp at hjl
     ·exact h
    subst hp
    have hcj:=hby.2 j hjl
    have HJ:=Zq hjl
    obtain⟨x,ex⟩:∃x,x=l.getD j 0:=⟨_,rfl⟩
    rw[←ex] at hcj
    have Ex:=Zq ex
    clear hby hjl ex
    by_cases hx:x=0
    ·subst hx
     go_wp2_with fail
     go_roundw
     case rel=>exact⟨j+1,by omega,by go_num,fun i hi=>by
      by_cases e:i=j
      ·subst e;exact Ex.out.symm
      ·exact HZ.out i (by omega),by first | trivial | rfl⟩
     case measure=>simp[intOf];omega
    ·have hx':((x:Int) != 0)=true:=by simpa using hx
     have HF:=Zq (Zpr l j HJ.out (by rw[←Ex.out];exact hx))
     clear hx
     go_wp2_with fail
     go_ret
     exact⟨by rw[HF.out];rfl,rfl⟩
   ·obtain rfl:j=n:=by omega
    have HF:=Zq (Zmh l j HZ.out (by rw[←Hn.out];exact Nat.le_refl _))
    go_wp2_with fail
    go_ret
    exact⟨by rw[HF.out];rfl,rfl⟩
 ·have hs:Zlt (er,l)=false:=by unfold Zlt;simp[her]
  rw[hs]
  exact ZjW _ er her w HS.out
theorem ZjN {W0 w:World} {g:Nat} {bb:Option Nat} {l:List Nat} (h:Rd w g bb (0,l)) (hl:∀i,l.getD i 0<256) (hg:W0.heap.size≤g) (hb:Below W0.heap.size W0 w) (sz:Nat) (h1:1≤sz) (h8:sz≤8) (hr:sz≤l.length) :
  Calls Tryz.prog 82 #[.pointer (some ⟨g,0,none⟩),.int .i64 (sz:Int)] w fun e w'=>e=.returned (.tuple #[.int .u64 (ZcF (l.take sz):Int),.int .i64 0])∧Rd w' g bb (0,l.drop sz)∧Below W0.heap.size W0 w':=by
 refine(Zrz g bb (0,l) (sz:Int) w h hl).mono ?_
 rintro e w' ⟨rfl,h2,hm⟩
 rw[Zp3 h1 h8 hr] at h2 ⊢
 rw[Zol h1 h8 hr]
 exact⟨rfl,h2,hm.below hb hb.size hg (fun _ e=>by cases e)⟩
theorem Zl4 {W0 w:World} {g:Nat} {bb:Option Nat} {l:List Nat} (h:Rd w g bb (0,l)) (hg:W0.heap.size≤g) (hb:Below W0.heap.size W0 w) (n:Nat) (hr:n≤l.length) :
  Calls Tryz.prog 83 #[.pointer (some ⟨g,0,none⟩),.int .i64 (n:Int)] w fun e w'=>∃ v,e=.returned (.tuple #[v,.int .i64 0])∧OwnB w' w.heap.size v (l.take n)∧Rd w' g bb (0,l.drop n)∧Below W0.heap.size W0 w':=by
 refine(ZmP g bb (0,l) (n:Int) w h).mono ?_
 rintro e w' ⟨v,rfl,ho,h2,hm⟩
 rw[ZoD hr] at h2 ⊢
 rw[Zon hr] at ho
 exact⟨v,rfl,ho,h2,hm.below hb hb.size hg (fun _ e=>by cases e)⟩
theorem Zo5 {w:World} {g:Nat} {bb:Option Nat} {l:List Nat} (h:Rd w g bb (0,l)) :
  Calls Tryz.prog 84 #[.pointer (some ⟨g,0,none⟩)] w fun e w'=>e=.returned (.bool (l.all (·==0)))∧w'=w:=by
 refine(Zp9 g bb (0,l) w h).mono ?_
 rintro e w' ⟨rfl,hw⟩
 exact⟨by simp[Zlt],hw⟩
end Go.Proofs.YtddmjddlbhdcpaaGreatDoor
namespace Go.Cm
open Go Go.Sh Go.Oc
theorem ZqI {l:List Nat} (h:1≤l.length):ZcF (l.take 1)=l.getD 0 0:=by
 match l,h with
 | x::_,_=>simp[ZcF]
theorem ZuI {l:List Nat} (h:2≤l.length):ZcF (l.take 2)=l.getD 0 0*256+l.getD 1 0:=by
 match l,h with
 | x::y::_,_=>simp[ZcF]
theorem Zfx (l:List Nat) (i j:Nat):(l.drop i).getD j 0=l.getD (i+j) 0:=by simp[List.getD,List.getElem?_drop]
end Go.Cm
namespace Go.Proofs.YtddmjddlbhdcpaaGreatDoor
open Go.RowKit Go.Hold Go.Sh Go.Oc Go.Cm
theorem Zsn (c:Cmd) (hc:c.id.length=8) (m:List Nat) (hm:m.length=8):setL (cmdA c) 3 (bys m)=cmdA ⟨c.k,c.n,c.d,m⟩:=by
 apply Array.ext_getElem?
 intro i
 rw[ZcQ,Zaz,hm,Zax hc]
 by_cases h:3≤i∧i<3+8∧i<11
 ·rw[if_pos h]
  obtain⟨j,rfl⟩:∃j,i=3+j:=⟨i-3,by omega⟩
  rw[Zfc ⟨c.k,c.n,c.d,m⟩ j (by simp only[hm];omega),Nat.add_sub_cancel_left]
  simp only[bys,List.getElem?_map,List.getD]
  rw[List.getElem?_eq_getElem (by omega)];rfl
 ·rw[if_neg h]
  by_cases h3:i<3
  ·match i,h3 with
   | 0,_=>rw[Zei,Zei]
   | 1,_=>rw[ZfG,ZfG]
   | 2,_=>rw[Zfw,Zfw]
  ·rw[Array.getElem?_eq_none (by rw[Zax hc];omega),Array.getElem?_eq_none (by rw[Zax (c:=⟨c.k,c.n,c.d,m⟩) hm];omega)]
theorem Zsf {W:World} {g cap:Nat} {p:Option Addr} {c:Cmd} {m:List Nat} (h:RowAt W g (cmdA c)) (hc:c.id.length=8) (hm:m.length=8) (hB:Bs0 W p m) :
  (Builtin.copy_ #[38,38] 3 #[.slice (some ⟨g,3,none⟩) 8 8,.slice p 8 cap]).run Tryz.prog W=.ok (.int .i64 8) (W.setRow g (cmdA ⟨c.k,c.n,c.d,m⟩)):=by
 rcases hB with rfl | ⟨b,o,rfl,hB⟩
 ·cases hm
 ·have hl:(bys m).length=8:=by rw[Zaz];exact hm
  have hi:(Tryz.prog.info? 5).map (·.size)=some 1:=by kernel_rfl
  have:=run_copy_cells (P:=Tryz.prog) W 38 38 3 5 g 3 8 8 ⟨b,o,none⟩ 8 cap (bys m) Tryz.underlying38 hi (by rw[hl];decide)
   (fun j v hv=>by
    have hj:j<8:=by have:=(List.getElem?_eq_some_iff.1 hv).1;omega
    rw[Addr.add_mid,hB.2 j (by omega),←hv]
    simp only[bys,List.getElem?_map,List.getD]
    rw[List.getElem?_eq_getElem (by omega)];rfl)
   (fun j hj=>by rw[h.cellAt (3+j) (Array.getElem?_eq_getElem (by rw[Zax hc];omega))];rfl)
   (fun j _=>h.frozenAt _) (Zdd _)
  rw[this,hl,ZbP _ _ h,Zsn c hc m hm]
  rfl
theorem Zoi (b:List Nat) (hb:b.length=16) (hbb:∀i,b.getD i 0<256) (w:World) :
  Calls Tryz.prog 47 #[.agg (bysA b)] w fun e w'=>e=.returned (.tuple #[.agg (cmdA (decV b)),.int .i64 (decE b)])∧Below w.heap.size w w':=by
 have hzs:(cmdA .zero).size=11:=Zax rfl
 obtain⟨x0,e0⟩:∃x,x=b.getD 0 0:=⟨_,rfl⟩
 obtain⟨x1,e1⟩:∃x,x=b.getD 1 0:=⟨_,rfl⟩
 obtain⟨x2,e2⟩:∃x,x=b.getD 2 0*256+b.getD 3 0:=⟨_,rfl⟩
 obtain⟨m,em⟩:∃m,m=(b.drop 4).take 8:=⟨_,rfl⟩
 obtain⟨dn,ed⟩:∃d,d=(b.drop 12).all (·==0):=⟨_,rfl⟩
 have hml:m.length=8:=by rw[em];simp[hb]
 have hC:ofB b=⟨x0,x1,x2,m⟩:=by rw[e0,e1,e2,em];rfl
 have hO:okB b=(dn&&(Cmd.mk x0 x1 x2 m).may):=by unfold okB;rw[hC,ed]
 have l0:x0<256:=by rw[e0];exact hbb 0
 have l1:x1<256:=by rw[e1];exact hbb 1
 have l2:x2<65536:=by rw[e2];have:=hbb 2;have:=hbb 3;omega
 have HJ0:=Zq (show ZcF (b.take 1)=x0 by rw[ZqI (by omega),←e0])
 have HJ1:=Zq (show ZcF ((b.drop 1).take 1)=x1 by rw[ZqI (by simp;omega),Zfx,←e1])
 have HJ2:=Zq (show ZcF (((b.drop 1).drop 1).take 2)=x2 by rw[ZuI (by simp;omega),List.drop_drop,Zfx,Zfx,←e2])
 have HJ3:=Zq (show ((((b.drop 1).drop 1).drop 2).take 8)=m by rw[List.drop_drop,List.drop_drop,em])
 have HJ4:=Zq (show (((((b.drop 1).drop 1).drop 2).drop 8).all (·==0))=dn by rw[List.drop_drop,List.drop_drop,List.drop_drop,ed])
 have u0:IntKind.i64.wrap (x0:Int)=(x0:Int):=IntWalk.i64_in _ (by omega)
 have u1:IntKind.i64.wrap (x1:Int)=(x1:Int):=IntWalk.i64_in _ (by omega)
 have u2:IntKind.i64.wrap (x2:Int)=(x2:Int):=IntWalk.i64_in _ (by omega)
 have Hb:=Zq hb
 have Hbb:=Zq hbb
 have hbs:(bysA b).size=16:=by rw[Zaj];exact hb
 have hcz:(cmdA ⟨x0,x1,x2,zs 8⟩).size=11:=Zax rfl
 have hcm:(cmdA ⟨x0,x1,x2,m⟩).size=11:=Zax hml
 have KM:=Zq (fun (W:World)=>ZpU ⟨x0,x1,x2,m⟩ hml W)
 have Hml:=Zq hml
 have HD:=Zq (show decV b=(if okB b then ⟨x0,x1,x2,m⟩ else .zero) by unfold decV;rw[hC])
 have HE:=Zq (show decE b=(if okB b then 0 else 5) from rfl)
 rw[hO] at HD HE
 obtain⟨mb,emb⟩:∃mb,mb=(Cmd.mk x0 x1 x2 m).may:=⟨_,rfl⟩
 rw[←emb] at HD HE KM
 rw[HD.out,HE.out]
 clear HD HE hO hC emb e0 e1 e2 em ed l0 l1 l2 hml hb hbb
 go_enter Tryz.func47,Tryz.ntmps47
 go_wp2_with fail
 generalize hW:World.alloc _ _=W0
 have R0:=Zq (show RowAt W0 w.heap.size (bysA b) by rw[←hW];clear hW;exact⟨by go_simp,by go_simp,by go_simp⟩)
 have T0:=Zq (show RowAt W0 (w.heap.size+1) (cmdA .zero) by rw[←hW];clear hW;exact⟨by go_simp,by go_simp;rfl,by go_simp⟩)
 have B0:=Zq (show Below w.heap.size w W0 by rw[←hW];repeat (first | apply Zab | exact Below.refl _ _))
 have hz1:w.heap.size≤w.heap.size+1:=by omega
 clear hW
 generalize w.heap.size+1=t at *
 obtain⟨z,ez⟩:∃z,z=w.heap.size:=⟨_,rfl⟩
 rw[←ez] at R0 hz1 ⊢
 have Ez:=Zq ez
 clear ez
 refine(Zi7 (some ⟨z,0,none⟩) b 16 16 W0 Hb.out.symm (by rw[Hb.out];decide) (Bs0.some (ZaH R0.out)) (fun h=>by cases h)).mono ?_
 rintro e w1 ⟨g,bb,rfl,hr1,hg1,_,hb1⟩
 have X1:=Zq hr1
 have Y1:=Zq hb1
 have G1:=Zq hg1
 clear hr1 hb1 hg1 R0
 go_wp2_with fail
 refine(ZjN X1.out Hbb.out G1.out Y1.out 1 (by decide) (by decide) (by rw[Hb.out];decide)).mono ?_
 rintro e w2 ⟨rfl,hr2,hb2⟩
 rw[HJ0.out]
 have X2:=Zq hr2
 have Y2:=Zq hb2
 clear hr2 hb2 X1 Y1
 go_wp2_with fail
 refine(ZjN X2.out (ZbB Hbb.out 1) G1.out Y2.out 1 (by decide) (by decide) (by simp[Hb.out])).mono ?_
 rintro e w3 ⟨rfl,hr3,hb3⟩
 rw[HJ1.out]
 have X3:=Zq hr3
 have Y3:=Zq hb3
 clear hr3 hb3 X2 Y2
 go_wp2_with fail
 refine(ZjN X3.out (ZbB (ZbB Hbb.out 1) 1) G1.out Y3.out 2 (by decide) (by decide) (by simp[Hb.out])).mono ?_
 rintro e w4 ⟨rfl,hr4,hb4⟩
 rw[HJ2.out]
 have X4:=Zq hr4
 have Y4:=Zq hb4
 clear hr4 hb4 X3 Y3
 go_wp2_with fail
 refine(Zl4 X4.out G1.out Y4.out 8 (by simp[Hb.out])).mono ?_
 rintro e w5 ⟨v,rfl,ho,hr5,hb5⟩
 rw[HJ3.out] at ho
 obtain⟨p,q,rfl,hs5,_,_⟩:=ho.bs
 rw[Hml.out]
 have X5:=Zq hr5
 have Y5:=Zq hb5
 have S5:=Zq hs5
 clear ho hs5 hr5 hb5 X4 Y4 HJ0 HJ1 HJ2 HJ3
 go_wp2_with fail
 generalize hW:World.alloc _ _=W6
 have hbA:Below w5.heap.size w5 W6:=by rw[←hW];exact Zab (Below.refl _ _) _
 have C6:=Zq (show RowAt W6 w5.heap.size (cmdA ⟨x0,x1,x2,zs 8⟩) by rw[←hW];clear hW;exact⟨by go_simp,by go_simp,by go_simp⟩)
 have S6:=Zq (S5.out.grow hbA)
 have X6:=Zq (X5.out.grow hbA)
 have T6:=Zq ((T0.out.keep Y5.out T0.out.2.2).grow hbA)
 have B6:=Zq ((B0.out.trans (Y5.out.mono B0.out.size)).trans (hbA.mono (Nat.le_trans B0.out.size Y5.out.size)))
 have hne:t≠w5.heap.size:=by have:=T0.out.2.2;have:=Y5.out.size;omega
 have hle:w.heap.size≤w5.heap.size:=Nat.le_trans B0.out.size Y5.out.size
 have hng:g≠w5.heap.size:=by have:=X5.out.lt.1;omega
 have hnb:bb≠some w5.heap.size:=fun e=>by have:=X5.out.lt.2 _ e;omega
 clear hW hbA S5 X5 T0 B0 Y5 G1
 generalize w5.heap.size=gc at *
 have hcp:=Zsf (cap:=q) C6.out rfl Hml.out S6.out
 have C7:=Zq (C6.out.set (cmdA ⟨x0,x1,x2,m⟩))
 have T7:=Zq (T6.out.other hne (cmdA ⟨x0,x1,x2,m⟩))
 have B7:=Zq (Zad B6.out hle (cmdA ⟨x0,x1,x2,m⟩))
 have X7:=Zq (X6.out.moves (Moves.setRow (Moves.refl W6 gc none) (cmdA ⟨x0,x1,x2,m⟩)) hng (fun e=>by cases e) hnb (fun _ _ e=>by cases e))
 rw[hcp]
 clear hcp
 generalize W6.setRow gc (cmdA ⟨x0,x1,x2,m⟩)=W7 at *
 clear C6 S6 X6 T6 B6 hng hnb
 obtain⟨c1,c2,c3⟩:=C7.out
 obtain⟨t1,t2,t3⟩:=T7.out
 go_simp
 go_wp2_with fail
 refine(Zo5 X7.out).mono ?_
 rintro e w' ⟨rfl,rfl⟩
 rw[HJ4.out]
 cases dn
 ·go_wp2_with fail
  refine bodyPost_ret (v:=.tuple #[.agg (cmdA .zero),.int .i64 5]) (Zd8 Tryz.results47 .zero rfl _ _ _ t rfl (by go_simp) (by go_simp) rfl) rfl ⟨rfl,?_⟩
  exact Zad B7.out (by rw[←Ez.out];exact hz1) _
 go_wp2_with fail
 refine(KM.out w').mono ?_
 rintro e W8 ⟨rfl,hb8⟩
 have C8:=Zq (C7.out.grow hb8)
 have T8:=Zq (T7.out.grow hb8)
 have B8:=Zq (B7.out.trans (hb8.mono B7.out.size))
 clear hb8 C7 T7 B7 X7 c1 c2 c3 t1 t2 t3
 obtain⟨c1,c2,c3⟩:=C8.out
 obtain⟨t1,t2,t3⟩:=T8.out
 cases mb
 ·go_wp2_with fail
  refine bodyPost_ret (v:=.tuple #[.agg (cmdA .zero),.int .i64 5]) (Zd8 Tryz.results47 .zero rfl _ _ _ t rfl (by go_simp) (by go_simp) rfl) rfl ⟨rfl,?_⟩
  exact Zad B8.out (by rw[←Ez.out];exact hz1) _
 go_wp2_with fail
 refine bodyPost_ret (v:=.tuple #[.agg (cmdA ⟨x0,x1,x2,m⟩),.int .i64 0]) (Zd8 Tryz.results47 ⟨x0,x1,x2,m⟩ Hml.out _ _ _ t rfl (by go_simp) (by go_simp) rfl) rfl ⟨rfl,?_⟩
 exact Zad B8.out (by rw[←Ez.out];exact hz1) _
end Go.Proofs.YtddmjddlbhdcpaaGreatDoor
namespace Go.Proofs.YtddmjddlbhdcpaaGreatDoor
open Go.RowKit Go.Hold Go.Sh Go.Cm
theorem Zpl (c:Cmd) (hid:c.id.length=8) (w:World) :
  Calls Tryz.prog 28 #[.agg (cmdA c)] w fun e w'=>e=.returned (.agg (cmdA c))∧Below w.heap.size w w':=by
 have hcs:=Zax hid
 have hzs:(cmdA .zero).size=11:=Zax rfl
 have hbd:=fun W=>Zjx c hid W
 go_enter Tryz.func28,Tryz.ntmps28
 go_wp2_with fail
 refine bodyPost_ret (v:=.agg (cmdA c)) (Ziw Tryz.results28 c hid _ _ (w.heap.size+1) rfl (by go_simp) (by go_simp)) rfl ⟨rfl,?_⟩
 repeat (first | apply Zab | exact Below.refl _ _)
open Go.ChangeShapes Go.WideShapes Go.ChangeAt Go.RowKit Go.Sh Go.Cm
theorem Zi8 {H:Type} {enc:TypeId×Value→H} {w:World} {base:Nat} {spare:Nat→Bool} {held:Bool} {fuel:Nat} {cs:List Value} {x:DataW H×List MemPlace}
  (hf:DataW.trod enc Tryz.prog w base spare held fuel 57 cs=some x):∃c:Cmd,cs=(cmdA c).toList∧c.id.length=8∧∀ i,c.id.getD i 0<256:=by
 have hc3:Tryz.prog.cellsOf 3=1:=by kernel_rfl
 have hc8:Tryz.prog.cellsOf 48=8:=by kernel_rfl
 have hca:Tryz.prog.cellsOf 57=11:=by kernel_rfl
 obtain⟨xs,n,_,_,hl,hxl,hx⟩:=DataW.trod_struct Tryz.underlying57 hf
 rw[hca] at hl
 have hxl4:xs.length=4:=by rw[hxl];rfl
 have h0:DataW.trod enc Tryz.prog w base spare held n 3 ((cs.drop 0).take (Tryz.prog.cellsOf 3))=xs[0]?:=hx 0 _ rfl
 have h1:DataW.trod enc Tryz.prog w base spare held n 3 ((cs.drop 1).take (Tryz.prog.cellsOf 3))=xs[1]?:=hx 1 _ rfl
 have h2:DataW.trod enc Tryz.prog w base spare held n 3 ((cs.drop 2).take (Tryz.prog.cellsOf 3))=xs[2]?:=hx 2 _ rfl
 have h3:DataW.trod enc Tryz.prog w base spare held n 48 ((cs.drop 3).take (Tryz.prog.cellsOf 48))=xs[3]?:=hx 3 _ rfl
 rw[hc3] at h0 h1 h2
 rw[hc8] at h3
 rw[List.getElem?_eq_getElem (by omega)] at h0 h1 h2 h3
 obtain⟨a0,e0,_,_⟩:=DataW.trod_int Tryz.underlying3 h0
 obtain⟨a1,e1,_,_⟩:=DataW.trod_int Tryz.underlying3 h1
 obtain⟨a2,e2,_,_⟩:=DataW.trod_int Tryz.underlying3 h2
 obtain⟨id,e3,hid,hidb⟩:=Zfo Tryz.underlying48 hc8 h3
 refine⟨⟨a0,a1,a2,id⟩,?_,hid,hidb⟩
 show cs=([.int .i64 a0,.int .i64 a1,.int .i64 a2]:List Value)++bys id
 rw[←e3]
 match cs,hl,e0,e1,e2 with
 | c0::c1::c2::r,hl,e0,e1,e2 =>
  simp at e0 e1 e2 hl
  rw[e0,e1,e2]
  simp[List.take_of_length_le (show r.length≤8 by omega)]
end Go.Proofs.YtddmjddlbhdcpaaGreatDoor
