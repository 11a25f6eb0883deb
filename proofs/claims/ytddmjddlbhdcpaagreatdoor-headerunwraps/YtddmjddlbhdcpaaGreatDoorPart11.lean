/-
  Part 11 of the texts behind the theorem.
-/
import Derived.Test.YtddmjddlbhdcpaaGreatDoorPart10
import Derived.Test.YtddmjddlbhdcpaaGreatDoorPart8
import Derived.Test.YtddmjddlbhdcpaaGreatDoorPart7
import Derived.Lib.AppendZeros
import Derived.Test.YtddmjddlbhdcpaaGreatDoorPart1
import Derived.Great.BuildSlice
import Derived.Laws.Bits64b
namespace Go.Cm
open Go Go.Sh Go.Oc
theorem ZmN {k n d:Nat} {id:List Nat} (hk:k<5) (hn:n<16) (hi:id.length=8) :
  (((([]++digN k 1)++digN n 1)++digN d 2)++id)++zs (16-(((([]++digN k 1)++digN n 1)++digN d 2)++id).length)=(Cmd.mk k n d id).enc:=by
 rw[Zve (by omega),Zve (by omega),Zwo]
 simp[Cmd.enc,hi]
 omega
end Go.Cm
namespace Go.Proofs.YtddmjddlbhdcpaaGreatDoor
open Go.RowKit Go.Hold Go.Sh Go.Oc Go.Cm
set_option maxHeartbeats 1000000 in
set_option maxRecDepth 100000 in
theorem Zo4 (c:Cmd) (hid:c.id.length=8) (w:World) :
  Calls Tryz.prog 102 #[.agg (cmdA c)] w fun e w'=>e=.returned (.tuple #[.agg (bysA (encV c)),.int .i64 (encE c)])∧Below w.heap.size w w':=by
 have hcs:=Zax hid
 have hzs:(bysA (zs 16)).size=16:=rfl
 by_cases hm:c.may=false
 ·have hV:encV c=zs 16:=by unfold encV;rw[hm];rfl
  have hE:encE c=2:=by unfold encE;rw[hm];rfl
  rw[hV,hE]
  have KM:=Lib.hid (fun (W:World)=>ZnQ c hid W)
  rw[hm] at KM
  clear hm hV hE
  go_enter Tryz.func102,Tryz.ntmps102
  go_wp2_with fail
  generalize hW:World.alloc _ _=W0
  have R0:=Lib.hid (show RowAt W0 w.heap.size (cmdA c) by rw[←hW];clear hW;exact⟨by go_simp,by go_simp,by go_simp⟩)
  have T0:=Lib.hid (show RowAt W0 (w.heap.size+1) (bysA (zs 16)) by rw[←hW];clear hW;exact⟨by go_simp,by go_simp;rfl,by go_simp⟩)
  have B0:=Lib.hid (show Below w.heap.size w W0 by rw[←hW];repeat (first | apply Zab | exact Below.refl _ _))
  have hz1:w.heap.size≤w.heap.size+1:=by omega
  have hz3:w.heap.size≠w.heap.size+1:=by omega
  generalize w.heap.size+1=t at *
  obtain⟨z,ez⟩:∃z,z=w.heap.size:=⟨_,rfl⟩
  rw[←ez] at R0 hz1 hz3 ⊢
  have Ez:=Lib.hid ez
  clear ez
  refine(KM.out W0).mono ?_
  rintro e W1 ⟨rfl,hb1⟩
  have R1:=Lib.hid (R0.out.grow hb1)
  have T1:=Lib.hid (T0.out.grow hb1)
  have B1:=Lib.hid (B0.out.trans (hb1.mono B0.out.size))
  clear hb1 hW R0 T0 B0
  clear R1 hz3
  obtain⟨t1,t2,t3⟩:=T1.out
  go_wp2_with fail
  refine bodyPost_ret (v:=.tuple #[.agg (bysA (zs 16)),.int .i64 2]) (ZfA Tryz.results102 (zs 16) rfl _ _ _ t rfl (by go_simp) (by go_simp) rfl) rfl ⟨rfl,?_⟩
  exact Zac B1.out (by rw[←Ez.out];exact hz1) _
 have hm:c.may=true:=by simpa using hm
 have hV:encV c=c.enc:=by unfold encV;rw[hm];rfl
 have hE:encE c=0:=by unfold encE;rw[hm];rfl
 rw[hV,hE]
 have KM:=Lib.hid (fun (W:World)=>ZnQ c hid W)
 rw[hm] at KM
 obtain⟨⟨ha1,ha2⟩,⟨hb1,hb2⟩,hc1,hc2⟩:=ZfL hm
 obtain⟨k,ek⟩:=Int.eq_ofNat_of_zero_le (show 0≤c.k by omega)
 obtain⟨n,en⟩:=Int.eq_ofNat_of_zero_le hb1
 obtain⟨d,ed⟩:=Int.eq_ofNat_of_zero_le hc1
 have HX:=Lib.hid (show (((([]++digN k 1)++digN n 1)++digN d 2)++c.id)++zs (16-(((([]++digN k 1)++digN n 1)++digN d 2)++c.id).length)=c.enc by
  rw[ZmN (by omega) (by omega) hid,←ek,←en,←ed])
 have HL:=Lib.hid (Zb8 hid)
 have HI:=Lib.hid hid
 have u1:IntKind.u64.wrap (k:Int)=(k:Int):=IntWalk.u64_in _ (by omega)
 have u2:IntKind.u64.wrap (n:Int)=(n:Int):=IntWalk.u64_in _ (by omega)
 have u3:IntKind.u64.wrap (d:Int)=(d:Int):=IntWalk.u64_in _ (by omega)
 have V1:=Lib.hid (show k<2^(8*1) by omega)
 have V2:=Lib.hid (show n<2^(8*1) by omega)
 have V3:=Lib.hid (show d<2^(8*2) by omega)
 clear hm hV hE ha1 ha2 hb1 hb2 hc1 hc2
 go_enter Tryz.func102,Tryz.ntmps102
 go_wp2_with fail
 generalize hW:World.alloc _ _=W0
 have R0:=Lib.hid (show RowAt W0 w.heap.size (cmdA c) by rw[←hW];clear hW;exact⟨by go_simp,by go_simp,by go_simp⟩)
 have T0:=Lib.hid (show RowAt W0 (w.heap.size+1) (bysA (zs 16)) by rw[←hW];clear hW;exact⟨by go_simp,by go_simp;rfl,by go_simp⟩)
 have B0:=Lib.hid (show Below w.heap.size w W0 by rw[←hW];repeat (first | apply Zab | exact Below.refl _ _))
 have hz1:w.heap.size≤w.heap.size+1:=by omega
 have hz3:w.heap.size≠w.heap.size+1:=by omega
 generalize w.heap.size+1=t at *
 obtain⟨z,ez⟩:∃z,z=w.heap.size:=⟨_,rfl⟩
 rw[←ez] at R0 hz1 hz3 ⊢
 have Ez:=Lib.hid ez
 clear ez
 refine(KM.out W0).mono ?_
 rintro e W1 ⟨rfl,hb1⟩
 have R1:=Lib.hid (R0.out.grow hb1)
 have T1:=Lib.hid (T0.out.grow hb1)
 have B1:=Lib.hid (B0.out.trans (hb1.mono B0.out.size))
 clear hb1 hW R0 T0 B0
 go_wp2_with fail
 refine(Zjd 16 (by decide) W1).mono ?_
 rintro e w2 ⟨g,rfl,hw2,hb2⟩
 have X2:=Lib.hid hw2
 have Y2:=Lib.hid hb2
 have hc0:w2.cell? ⟨z,0,none⟩=some (.int .i64 (k:Int)):=by rw[←ek];exact(R1.out.keep hb2 R1.out.2.2).cellAt 0 (ZeH c)
 clear hw2 hb2
 go_wp2_with fail
 refine(ZiM X2.out Y2.out k 1 (by decide) (by decide) V1.out (by simp)).mono ?_
 rintro e w3 ⟨rfl,ob3,hw3,hb3⟩
 have X3:=Lib.hid hw3
 have Y3:=Lib.hid hb3
 have hc0:w3.cell? ⟨z,1,none⟩=some (.int .i64 (n:Int)):=by rw[←en];exact(R1.out.keep hb3 R1.out.2.2).cellAt 1 (Zfn c)
 clear hw3 hb3 X2 Y2
 go_wp2_with fail
 refine(ZiM X3.out Y3.out n 1 (by decide) (by decide) V2.out (by simp[ZbB])).mono ?_
 rintro e w4 ⟨rfl,ob4,hw4,hb4⟩
 have X4:=Lib.hid hw4
 have Y4:=Lib.hid hb4
 have hc0:w4.cell? ⟨z,2,none⟩=some (.int .i64 (d:Int)):=by rw[←ed];exact(R1.out.keep hb4 R1.out.2.2).cellAt 2 (ZfG c)
 clear hw4 hb4 X3 Y3
 go_wp2_with fail
 refine(ZiM X4.out Y4.out d 2 (by decide) (by decide) V3.out (by simp[ZbB])).mono ?_
 rintro e w5 ⟨rfl,ob5,hw5,hb5⟩
 have X5:=Lib.hid hw5
 have Y5:=Lib.hid hb5
 have HB5:=Lib.hid (Bs0.some (ZmF (R1.out.keep hb5 R1.out.2.2)))
 clear hw5 hb5 X4 Y4
 go_wp2_with fail
 refine(ZmY X5.out Y5.out c.id (some ⟨z,3,none⟩) 8 8 HI.out.symm HB5.out (fun h=>by cases h) (by simp[ZbB,HI.out])).mono ?_
 rintro e w6 ⟨rfl,ob6,hw6,hb6⟩
 have X6:=Lib.hid hw6
 have Y6:=Lib.hid hb6
 clear hw6 hb6 X5 Y5 HB5
 go_wp2_with fail
 refine(Zpw X6.out Y6.out 16 (by simp[ZbB,HI.out]) (by decide)).mono ?_
 rintro e w7 ⟨rfl,ob7,hw7,hb7⟩
 rw[HX.out] at hw7
 have X7:=Lib.hid hw7
 have Y7:=Lib.hid hb7
 clear hw7 hb7 X6 Y6
 go_wp2_with fail
 refine(ZsC X7.out Y7.out).mono ?_
 rintro e w8 ⟨v,rfl,ho,hb8⟩
 obtain⟨p,q,rfl,hs8,_,_⟩:=ho.bs
 rw[HL.out]
 have S8:=Lib.hid hs8
 have T8:=Lib.hid (T1.out.keep hb8 T1.out.2.2)
 have B8:=Lib.hid (B1.out.trans (hb8.mono B1.out.size))
 clear ho hs8 hb8 X7 Y7 R1 T1 B1
 go_wp2_with fail
 generalize hW:World.alloc _ _=W9
 have hbA:Below w8.heap.size w8 W9:=by rw[←hW];exact Zab (Below.refl _ _) _
 have N9:=Lib.hid (show RowAt W9 w8.heap.size (bysA (zs 16)) by rw[←hW];clear hW;exact⟨by go_simp,by go_simp;rfl,by go_simp⟩)
 have S9:=Lib.hid (S8.out.grow hbA)
 have T9:=Lib.hid (T8.out.grow hbA)
 have B9:=Lib.hid (B8.out.trans (hbA.mono B8.out.size))
 have hne:t≠w8.heap.size:=by have:=T8.out.2.2;omega
 have hle:w.heap.size≤w8.heap.size:=B8.out.size
 clear hW hbA S8 T8 B8
 generalize w8.heap.size=g9 at *
 have hcp:=Zb7 (c2:=16) (cap:=q) (d:=16) (s:=16) (k:=16) N9.out (by rw[Zah]) HL.out.symm (by rw[Zah,HL.out];decide) S9.out
 rw[show c.enc.take 16++(zs 16).drop 16=c.enc by rw[List.take_of_length_le (by rw[HL.out];exact Nat.le_refl _)];simp[zs]] at hcp
 have N10:=N9.out.set (bysA c.enc)
 have T10:=T9.out.other hne (bysA c.enc)
 have B10:=Lib.hid (Zac B9.out hle (bysA c.enc))
 have hes:(bysA c.enc).size=16:=by rw[Zal];exact HL.out
 generalize W9.setRow g9 (bysA c.enc)=W10 at *
 obtain⟨n1,n2,n3⟩:=N10
 obtain⟨t1,t2,t3⟩:=T10
 clear N9 S9 T9 B9
 rw[hcp]
 clear hcp
 go_simp
 go_wp2_with fail
 refine bodyPost_ret (v:=.tuple #[.agg (bysA (c.enc)),.int .i64 0]) (ZfA Tryz.results102 (c.enc) HL.out _ _ _ t rfl (by go_simp) (by go_simp) rfl) rfl ⟨rfl,?_⟩
 exact Zac B10.out (by rw[←Ez.out];exact hz1) _
end Go.Proofs.YtddmjddlbhdcpaaGreatDoor
namespace Go.Li
open Go Go.Sh Go.Ch
theorem mixd_comm (a b:List Nat) (h:a.length=b.length):mixd a b=mixd b a:=by
 unfold mixd
 rw[h]
 apply List.map_congr_left
 intro i _
 exact Nat.xor_comm _ _
def lab (i:Nat):List Nat:=[108,105,111,110,32,48+i]
end Go.Li
namespace Go.Proofs.YtddmjddlbhdcpaaGreatDoor
open Go.RowKit Go.Hold Go.Sh Go.Ch Go.Cm Go.Hd
set_option maxHeartbeats 1000000 in
set_option maxRecDepth 100000 in
theorem Zhq (s b:List Nat) (hs:s.length=32) (hsb:∀i,s.getD i 0<256) (hb:b.length=160) (hbb:∀i,b.getD i 0<256) (w:World) (hT:Tabs w) :
  Calls Tryz.prog 24 #[.agg (bysA s),.agg (bysA b)] w fun e w'=>e=.returned (.agg (bysA (prf s b)))∧Below w.heap.size w w':=by
 have hss:=Zae hs
 have hbs:=Zae hb
 have ht:=Zae (Za6 s b)
 have HD:=Lib.hid (fun (W:World) (h:Tabs W)=>ZuF s hs hsb W h)
 have hds:=Zae (Zar (drv s muL))
 have HM:=Lib.hid (fun (W:World) (h:Tabs W) {p q:Option Addr} (hp:Bs0 W p (keyN (drv s muL))) (hq:Bs0 W q b) (hqc:q=none→160=0)=>ZqC (kc:=32) (bc:=160) (m:=32) (nb:=160) (Zar _).symm hb.symm (rfl:mac (keyN (drv s muL)) b=mac (keyN (drv s muL)) b) h (by rw[Zar];decide) (ZbW _) hp (by rw[Zar];decide) (by omega) hbb hq hqc)
 rw[Zbx] at HM
 have HMl:=Lib.hid (Zar (mac (keyN (drv s muL)) b))
 unfold prf at *
 have HT:=Lib.hid hT
 clear hs hsb hT hb hbb
 generalize keyN (mac (keyN (drv s muL)) b)=M at *
 generalize keyN (drv s muL)=D at *
 go_enter Tryz.func24,Tryz.ntmps24
 go_wp2_with fail
 generalize hW:World.alloc _ _=W0
 have R0x0:=Lib.hid (show RowAt W0 (w.heap.size) (bysA s) by rw[←hW];clear hW;exact⟨by go_simp,by first | (go_simp;done) | (go_simp;rfl),by go_simp⟩)
 have R0x1:=Lib.hid (show RowAt W0 (w.heap.size+1) (bysA b) by rw[←hW];clear hW;exact⟨by go_simp,by first | (go_simp;done) | (go_simp;rfl),by go_simp⟩)
 have R0x2:=Lib.hid (show RowAt W0 (w.heap.size+1+1) (bysA (zs 16)) by rw[←hW];clear hW;exact⟨by go_simp,by first | (go_simp;done) | (go_simp;rfl),by go_simp⟩)
 have B0:=Lib.hid (show Below w.heap.size w W0 by rw[←hW];repeat (first | apply Zab | exact Below.refl _ _))
 clear hW
 have hzs16:=Zae (Zah 16)
 have l_z:w.heap.size≤w.heap.size:=by omega
 have l_y:w.heap.size≤w.heap.size+1:=by omega
 have n_z_y:w.heap.size≠w.heap.size+1:=by omega
 have l_r:w.heap.size≤w.heap.size+1+1:=by omega
 have n_z_r:w.heap.size≠w.heap.size+1+1:=by omega
 have n_y_r:w.heap.size+1≠w.heap.size+1+1:=by omega
 generalize w.heap.size+1+1=r at *
 generalize w.heap.size+1=y at *
 obtain⟨z,ez⟩:∃z,z=w.heap.size:=⟨_,rfl⟩
 rw[←ez] at R0x0 n_z_y n_z_r ⊢
 have l_z:w.heap.size≤z:=by rw[ez];exact Nat.le_refl _
 clear ez
 refine(HD.out _ (HT.out.grow B0.out)).mono ?_
 rintro e W1 ⟨rfl,hb1⟩
 have R1x0:=Lib.hid (R0x0.out.grow hb1)
 have R1x1:=Lib.hid (R0x1.out.grow hb1)
 have R1x2:=Lib.hid (R0x2.out.grow hb1)
 have B1:=Lib.hid (B0.out.trans (hb1.mono B0.out.size))
 clear hb1 B0 R0x0 R0x1 R0x2
 obtain⟨R1x0a,R1x0b,R1x0c⟩:=R1x0.out
 obtain⟨R1x1a,R1x1b,R1x1c⟩:=R1x1.out
 obtain⟨R1x2a,R1x2b,R1x2c⟩:=R1x2.out
 go_wp2_with fail
 have n_z_p:z≠W1.heap.size:=Nat.ne_of_lt R1x0.out.2.2
 have n_y_p:y≠W1.heap.size:=Nat.ne_of_lt R1x1.out.2.2
 have n_r_p:r≠W1.heap.size:=Nat.ne_of_lt R1x2.out.2.2
 have l_p:w.heap.size≤W1.heap.size:=B1.out.size
 have hb2:=Zab (Below.refl W1.heap.size W1) (.cells (bysA D) 23)
 have N2:=Lib.hid (RowAt.of (Zas W1 (.cells (bysA D) 23)))
 have R2x0:=Lib.hid (R1x0.out.grow hb2)
 have R2x1:=Lib.hid (R1x1.out.grow hb2)
 have R2x2:=Lib.hid (R1x2.out.grow hb2)
 have B2:=Lib.hid (B1.out.trans (hb2.mono B1.out.size))
 clear hb2 B1 R1x0 R1x1 R1x2 R1x0a R1x0b R1x0c R1x1a R1x1b R1x1c R1x2a R1x2b R1x2c
 generalize W1.heap.size=p at *
 generalize W1.alloc (.cells (bysA D) 23)=W2 at *
 refine ZaH W2 [0,1] [true,true] [2,3,4] (by kernel_rfl) (by kernel_rfl) (by intro c a d v w h;cases d<;>exact h) (by first | exact(Below.refl _ _).drew | exact Below.refl _ _) ?_
 simp only[pick,List.getElem?_cons_succ,List.getElem?_cons_zero]
 iterate 2 (refine Zaz (Zaa rfl) (fun w=>by go_simp;rfl) ?_)
 refine Zap ?_
 intro W3 hb3
 have R3x0:=Lib.hid (R2x0.out.grow hb3)
 have R3x1:=Lib.hid (R2x1.out.grow hb3)
 have R3x2:=Lib.hid (R2x2.out.grow hb3)
 have R3x3:=Lib.hid (N2.out.grow hb3)
 have B3:=Lib.hid (B2.out.trans (hb3.mono B2.out.size))
 clear hb3 B2 R2x0 R2x1 R2x2 N2
 go_wp2_with fail
 refine(HM.out _ (HT.out.grow B3.out) (Bs0.some (ZaG R3x3.out)) (Bs0.some (ZaG R3x1.out)) (fun h=>by cases h)).mono ?_
 rintro e W4 ⟨rfl,hb4⟩
 have R4x0:=Lib.hid (R3x0.out.grow hb4)
 have R4x1:=Lib.hid (R3x1.out.grow hb4)
 have R4x2:=Lib.hid (R3x2.out.grow hb4)
 have R4x3:=Lib.hid (R3x3.out.grow hb4)
 have B4:=Lib.hid (B3.out.trans (hb4.mono B3.out.size))
 clear hb4 B3 R3x0 R3x1 R3x2 R3x3
 obtain⟨R4x0a,R4x0b,R4x0c⟩:=R4x0.out
 obtain⟨R4x1a,R4x1b,R4x1c⟩:=R4x1.out
 obtain⟨R4x2a,R4x2b,R4x2c⟩:=R4x2.out
 obtain⟨R4x3a,R4x3b,R4x3c⟩:=R4x3.out
 go_wp2_with fail
 refine(Znx M HMl.out _).mono ?_
 rintro e W5 ⟨rfl,hb5⟩
 clear R4x0a R4x0b R4x0c R4x1a R4x1b R4x1c R4x2a R4x2b R4x2c R4x3a R4x3b R4x3c
 have R5x0:=Lib.hid (R4x0.out.grow hb5)
 have R5x1:=Lib.hid (R4x1.out.grow hb5)
 have R5x2:=Lib.hid (R4x2.out.grow hb5)
 have R5x3:=Lib.hid (R4x3.out.grow hb5)
 have B5:=Lib.hid (B4.out.trans (hb5.mono B4.out.size))
 clear hb5 B4 R4x0 R4x1 R4x2 R4x3
 obtain⟨R5x0a,R5x0b,R5x0c⟩:=R5x0.out
 obtain⟨R5x1a,R5x1b,R5x1c⟩:=R5x1.out
 obtain⟨R5x2a,R5x2b,R5x2c⟩:=R5x2.out
 obtain⟨R5x3a,R5x3b,R5x3c⟩:=R5x3.out
 go_wp2_with fail
 refine bodyPost_ret (v:=.agg (bysA (M.take 16))) (ZbI Tryz.results24 ht _ _ _ rfl (by go_simp) (by go_simp)) rfl ⟨rfl,?_⟩
 exact Zac (B5.out) l_r _
set_option maxHeartbeats 1000000 in
set_option maxRecDepth 100000 in
theorem Zl4 (b:List Nat) (hb:b.length=160) (w:World) :
  Calls Tryz.prog 45 #[.agg (bysA b)] w fun e w'=>e=.returned (.agg (bysA (b++zs 32)))∧Below w.heap.size w w':=by
 have hbs:=Zae hb
 have hw:=Zae (show (b++zs 32).length=192 by rw[List.length_append,hb,Zah])
 have Hcp:=Lib.hid (show b.take 160++(zs 192).drop 160=b++zs 32 by rw[List.take_of_length_le (by omega),Zcq])
 have Hb:=Lib.hid hb
 clear hb
 go_enter Tryz.func45,Tryz.ntmps45
 go_wp2_with fail
 generalize hW:World.alloc _ _=W0
 have R0x0:=Lib.hid (show RowAt W0 (w.heap.size) (bysA b) by rw[←hW];clear hW;exact⟨by go_simp,by first | (go_simp;done) | (go_simp;rfl),by go_simp⟩)
 have R0x1:=Lib.hid (show RowAt W0 (w.heap.size+1) (bysA (zs 192)) by rw[←hW];clear hW;exact⟨by go_simp,by first | (go_simp;done) | (go_simp;rfl),by go_simp⟩)
 have R0x2:=Lib.hid (show RowAt W0 (w.heap.size+1+1) (bysA (zs 192)) by rw[←hW];clear hW;exact⟨by go_simp,by first | (go_simp;done) | (go_simp;rfl),by go_simp⟩)
 have B0:=Lib.hid (show Below w.heap.size w W0 by rw[←hW];repeat (first | apply Zab | exact Below.refl _ _))
 clear hW
 have hzs192:=Zae (Zah 192)
 have l_y:w.heap.size≤w.heap.size:=by omega
 have l_r:w.heap.size≤w.heap.size+1:=by omega
 have n_y_r:w.heap.size≠w.heap.size+1:=by omega
 have l_v:w.heap.size≤w.heap.size+1+1:=by omega
 have n_y_v:w.heap.size≠w.heap.size+1+1:=by omega
 have n_r_v:w.heap.size+1≠w.heap.size+1+1:=by omega
 generalize w.heap.size+1+1=v at *
 generalize w.heap.size+1=r at *
 obtain⟨y,ey⟩:∃z,z=w.heap.size:=⟨_,rfl⟩
 rw[←ey] at R0x0 n_y_r n_y_v ⊢
 have l_y:w.heap.size≤y:=by rw[ey];exact Nat.le_refl _
 clear ey
 refine ZaH W0 [0,1] [true,true] [2] (by kernel_rfl) (by kernel_rfl) (by intro c a d v w h;cases d<;>exact h) (by first | exact(Below.refl _ _).drew | exact Below.refl _ _) ?_
 simp only[pick,List.getElem?_cons_succ,List.getElem?_cons_zero]
 iterate 2 (refine Zaz (Zaa rfl) (fun w=>by go_simp;rfl) ?_)
 refine Zap ?_
 intro W1 hb1
 have R1x0:=Lib.hid (R0x0.out.grow hb1)
 have R1x1:=Lib.hid (R0x1.out.grow hb1)
 have R1x2:=Lib.hid (R0x2.out.grow hb1)
 have B1:=Lib.hid (B0.out.trans (hb1.mono B0.out.size))
 clear hb1 B0 R0x0 R0x1 R0x2
 have hcp:=Zb7 (c2:=192) (cap:=160) (d:=192) (s:=160) (k:=160) R1x2.out (by rw[Zah]) Hb.out.symm (by rw[Zah,Hb.out];decide) (Bs0.some (ZaG R1x0.out))
 rw[Hcp.out] at hcp
 obtain⟨R1x0a,R1x0b,R1x0c⟩:=R1x0.out
 obtain⟨R1x1a,R1x1b,R1x1c⟩:=R1x1.out
 obtain⟨R1x2a,R1x2b,R1x2c⟩:=R1x2.out
 go_wp2_with fail
 refine bodyPost_ret (v:=.agg (bysA (b++zs 32))) (ZcF Tryz.results45 hw _ _ _ rfl (by go_simp) (by go_simp)) rfl ⟨rfl,?_⟩
 exact Zac (Zac (B1.out) l_v _) l_r _
set_option maxHeartbeats 1000000 in
set_option maxRecDepth 100000 in
theorem Zhn (l s:List Nat) (hl:l.length=192) (hlb:∀i,l.getD i 0<256) (hs:s.length=32) (hsb:∀i,s.getD i 0<256) (w:World) (hT:Tabs w) :
  Calls Tryz.prog 46 #[.agg (bysA l),.agg (bysA s)] w fun e w'=>e=.returned (.agg (bysA (mixd (hst s) l)))∧Below w.heap.size w w':=by
 have hss:=Zae hs
 have hls:=Zae hl
 have hhs:=Zae (ZaU s)
 have HS:=Lib.hid (fun (W:World) (h:Tabs W)=>ZhS s hs hsb W h)
 have Hx:=Lib.hid (show xorC (bysA l) l (hst s) l.length=bysA (mixd (hst s) l) by rw[Zpj l (hst s) (by rw[ZaU,hl]),Go.Li.mixd_comm _ _ (by rw[ZaU,hl])])
 have hx:=Zae (show (mixd (hst s) l).length=192 by rw[ZaL,hl])
 have Hl:=Lib.hid hl
 have Hlb:=Lib.hid hlb
 have Hh:=Lib.hid (ZaU s)
 have Hhb:=Lib.hid (Zd3 s)
 have HT:=Lib.hid hT
 clear hl hlb hs hsb hT
 generalize mixd (hst s) l=X at *
 generalize hst s=H at *
 go_enter Tryz.func46,Tryz.ntmps46
 go_wp2_with fail
 generalize hW:World.alloc _ _=W0
 have R0x0:=Lib.hid (show RowAt W0 (w.heap.size) (bysA l) by rw[←hW];clear hW;exact⟨by go_simp,by first | (go_simp;done) | (go_simp;rfl),by go_simp⟩)
 have R0x1:=Lib.hid (show RowAt W0 (w.heap.size+1) (bysA s) by rw[←hW];clear hW;exact⟨by go_simp,by first | (go_simp;done) | (go_simp;rfl),by go_simp⟩)
 have R0x2:=Lib.hid (show RowAt W0 (w.heap.size+1+1) (bysA (zs 192)) by rw[←hW];clear hW;exact⟨by go_simp,by first | (go_simp;done) | (go_simp;rfl),by go_simp⟩)
 have B0:=Lib.hid (show Below w.heap.size w W0 by rw[←hW];repeat (first | apply Zab | exact Below.refl _ _))
 clear hW
 have hzs192:=Zae (Zah 192)
 have l_y:w.heap.size≤w.heap.size:=by omega
 have l_z:w.heap.size≤w.heap.size+1:=by omega
 have n_y_z:w.heap.size≠w.heap.size+1:=by omega
 have l_r:w.heap.size≤w.heap.size+1+1:=by omega
 have n_y_r:w.heap.size≠w.heap.size+1+1:=by omega
 have n_z_r:w.heap.size+1≠w.heap.size+1+1:=by omega
 generalize w.heap.size+1+1=r at *
 generalize w.heap.size+1=z at *
 obtain⟨y,ey⟩:∃z,z=w.heap.size:=⟨_,rfl⟩
 rw[←ey] at R0x0 n_y_z n_y_r ⊢
 have l_y:w.heap.size≤y:=by rw[ey];exact Nat.le_refl _
 clear ey
 refine(HS.out _ (HT.out.grow B0.out)).mono ?_
 rintro e W1 ⟨rfl,hb1⟩
 have R1x0:=Lib.hid (R0x0.out.grow hb1)
 have R1x1:=Lib.hid (R0x1.out.grow hb1)
 have R1x2:=Lib.hid (R0x2.out.grow hb1)
 have B1:=Lib.hid (B0.out.trans (hb1.mono B0.out.size))
 clear hb1 B0 R0x0 R0x1 R0x2
 obtain⟨R1x0a,R1x0b,R1x0c⟩:=R1x0.out
 obtain⟨R1x1a,R1x1b,R1x1c⟩:=R1x1.out
 obtain⟨R1x2a,R1x2b,R1x2c⟩:=R1x2.out
 go_wp2_with fail
 have n_y_v:y≠W1.heap.size:=Nat.ne_of_lt R1x0.out.2.2
 have n_z_v:z≠W1.heap.size:=Nat.ne_of_lt R1x1.out.2.2
 have n_r_v:r≠W1.heap.size:=Nat.ne_of_lt R1x2.out.2.2
 have l_v:w.heap.size≤W1.heap.size:=B1.out.size
 have hb2:=Zab (Below.refl W1.heap.size W1) (.cells (bysA H) 99)
 have N2:=Lib.hid (RowAt.of (Zas W1 (.cells (bysA H) 99)))
 have R2x0:=Lib.hid (R1x0.out.grow hb2)
 have R2x1:=Lib.hid (R1x1.out.grow hb2)
 have R2x2:=Lib.hid (R1x2.out.grow hb2)
 have B2:=Lib.hid (B1.out.trans (hb2.mono B1.out.size))
 clear hb2 B1 R1x0 R1x1 R1x2 R1x0a R1x0b R1x0c R1x1a R1x1b R1x1c R1x2a R1x2b R1x2c
 generalize W1.heap.size=v at *
 generalize W1.alloc (.cells (bysA H) 99)=W2 at *
 refine ZaH W2 [0,1] [true,true] [2] (by kernel_rfl) (by kernel_rfl) (by intro c a d v w h;cases d<;>exact h) (by first | exact(Below.refl _ _).drew | exact Below.refl _ _) ?_
 simp only[pick,List.getElem?_cons_succ,List.getElem?_cons_zero]
 iterate 2 (refine Zaz (Zaa rfl) (fun w=>by go_simp;rfl) ?_)
 refine Zap ?_
 intro W3 hb3
 have R3x0:=Lib.hid (R2x0.out.grow hb3)
 have R3x1:=Lib.hid (R2x1.out.grow hb3)
 have R3x2:=Lib.hid (R2x2.out.grow hb3)
 have R3x3:=Lib.hid (N2.out.grow hb3)
 have B3:=Lib.hid (B2.out.trans (hb3.mono B2.out.size))
 clear hb3 B2 R2x0 R2x1 R2x2 N2
 go_wp2_with fail
 refine(Zqe y 192 192 192 192 (some ⟨v,0,none⟩) (bysA l) l H W3 R3x0.out (FrontB.all l) Hl.out.symm Hl.out.symm (by rw[Hh.out,Hl.out]) (by rw[Hl.out];decide) Hlb.out Hhb.out (.inr ⟨v,0,rfl,ZaG R3x3.out,Ne.symm n_y_v⟩)).mono ?_
 rintro e W4 ⟨rfl,hset⟩
 rw[Hx.out] at hset
 have R4x0:=Lib.hid (hset.row R3x0.out)
 have R4x1:=Lib.hid (hset.old R3x1.out (Ne.symm n_y_z))
 have R4x2:=Lib.hid (hset.old R3x2.out (Ne.symm n_y_r))
 have R4x3:=Lib.hid (hset.old R3x3.out (Ne.symm n_y_v))
 have B4:=Lib.hid (hset.below B3.out l_y B3.out.size)
 clear hset B3 R3x0 R3x1 R3x2 R3x3
 obtain⟨R4x0a,R4x0b,R4x0c⟩:=R4x0.out
 obtain⟨R4x1a,R4x1b,R4x1c⟩:=R4x1.out
 obtain⟨R4x2a,R4x2b,R4x2c⟩:=R4x2.out
 obtain⟨R4x3a,R4x3b,R4x3c⟩:=R4x3.out
 go_wp2_with fail
 refine bodyPost_ret (v:=.agg (bysA X)) (ZcF Tryz.results46 hx _ _ _ rfl (by go_simp) (by go_simp)) rfl ⟨rfl,?_⟩
 exact Zac (B4.out) l_r _
set_option maxHeartbeats 1000000 in
set_option maxRecDepth 100000 in
theorem Znq (l:List Nat) (hl:l.length=192) (w:World) :
  Calls Tryz.prog 72 #[.agg (bysA l)] w fun e w'=>e=.returned (.agg (bysA (l.take 160)))∧Below w.heap.size w w':=by
 have hls:=Zae hl
 have hXl:(l.take 160).length=160:=by simp[hl]
 have hX:=Zae hXl
 have hz:=Zae (Zah 160)
 obtain⟨X,eX⟩:∃X,X=l.take 160:=⟨_,rfl⟩
 have hE:l.take 160=X:=by rw[eX]
 rw[←eX] at hXl hX ⊢
 clear eX hl
 go_enter Tryz.func72,Tryz.ntmps72
 go_wp2_with fail
 refine bodyPost_ret (v:=.agg (bysA X)) (ZcL Tryz.results72 hX _ _ _ rfl (by go_simp) (by go_simp)) rfl ⟨rfl,?_⟩
 repeat (first | apply Zab | exact Below.refl _ _)
set_option maxHeartbeats 1000000 in
set_option maxRecDepth 100000 in
theorem ZuY (l:List Nat) (hl:l.length=192) (w:World) :
  Calls Tryz.prog 48 #[.agg (bysA l)] w fun e w'=>e=.returned (.agg (bysA (l.take 16)))∧Below w.heap.size w w':=by
 have hls:=Zae hl
 have hXl:(l.take 16).length=16:=by simp[hl]
 have hX:=Zae hXl
 have hz:=Zae (Zah 16)
 obtain⟨X,eX⟩:∃X,X=l.take 16:=⟨_,rfl⟩
 have hE:l.take 16=X:=by rw[eX]
 rw[←eX] at hXl hX ⊢
 clear eX hl
 go_enter Tryz.func48,Tryz.ntmps48
 go_wp2_with fail
 refine bodyPost_ret (v:=.agg (bysA X)) (ZeM Tryz.results48 X hXl _ _ _ rfl (by go_simp) (by go_simp)) rfl ⟨rfl,?_⟩
 repeat (first | apply Zab | exact Below.refl _ _)
set_option maxHeartbeats 1000000 in
set_option maxRecDepth 100000 in
theorem ZtX (l:List Nat) (hl:l.length=192) (w:World) :
  Calls Tryz.prog 50 #[.agg (bysA l)] w fun e w'=>e=.returned (.agg (bysA (l.drop 32)))∧Below w.heap.size w w':=by
 have hls:=Zae hl
 have hXl:(l.drop 32).length=160:=by simp[hl]
 have hX:=Zae hXl
 have hz:=Zae (Zah 160)
 obtain⟨X,eX⟩:∃X,X=l.drop 32:=⟨_,rfl⟩
 have hE:(l.drop 32).take 160=X:=by rw[eX];rw[List.take_of_length_le (by simp[hl])]
 rw[←eX] at hXl hX ⊢
 clear eX hl
 go_enter Tryz.func50,Tryz.ntmps50
 go_wp2_with fail
 refine bodyPost_ret (v:=.agg (bysA X)) (ZcL Tryz.results50 hX _ _ _ rfl (by go_simp) (by go_simp)) rfl ⟨rfl,?_⟩
 repeat (first | apply Zab | exact Below.refl _ _)
set_option maxHeartbeats 1000000 in
set_option maxRecDepth 100000 in
theorem ZuO (l:List Nat) (hl:l.length=192) (w:World) :
  Calls Tryz.prog 51 #[.agg (bysA l)] w fun e w'=>e=.returned (.agg (bysA ((l.drop 16).take 16)))∧Below w.heap.size w w':=by
 have hls:=Zae hl
 have hXl:((l.drop 16).take 16).length=16:=by simp[hl]
 have hX:=Zae hXl
 have hz:=Zae (Zah 16)
 obtain⟨X,eX⟩:∃X,X=(l.drop 16).take 16:=⟨_,rfl⟩
 have hE:(l.drop 16).take 16=X:=by rw[eX]
 rw[←eX] at hXl hX ⊢
 clear eX hl
 go_enter Tryz.func51,Tryz.ntmps51
 go_wp2_with fail
 refine bodyPost_ret (v:=.agg (bysA X)) (ZbI Tryz.results51 hX _ _ _ rfl (by go_simp) (by go_simp)) rfl ⟨rfl,?_⟩
 repeat (first | apply Zab | exact Below.refl _ _)
set_option maxHeartbeats 1000000 in
set_option maxRecDepth 100000 in
theorem ZqA (c:Cmd) (hid:c.id.length=8) (g b:List Nat) (hg:g.length=16) (hb:b.length=160) (w:World) :
  Calls Tryz.prog 71 #[.agg (cmdA c),.agg (bysA g),.agg (bysA b)] w fun e w'=>e=.returned (.agg (bysA (encV c++g++b)))∧Below w.heap.size w w':=by
 have hcs:=Zax hid
 have hgs:=Zae hg
 have hbs:=Zae hb
 have HE:=Lib.hid (fun (W:World)=>Zo4 c hid W)
 have hC:=ZcA hid
 have hCs:=Zae hC
 have hz16:=Zae (Zah 16)
 have hws:=Zae (show (encV c++zs 176).length=192 by rw[List.length_append,hC,Zah])
 have hws2:=Zae (show (encV c++g++zs 160).length=192 by rw[List.length_append,List.length_append,hC,hg,Zah])
 have hw:=Zae (show (encV c++g++b).length=192 by rw[List.length_append,List.length_append,hC,hg,hb])
 have H1:=Lib.hid (show (zs 192).take 0++(encV c).take 16++(zs 192).drop (0+16)=encV c++zs 176 by rw[List.take_zero,List.nil_append,List.take_of_length_le (by omega),Zcq])
 have H2:=Lib.hid (show (encV c++zs 176).take 16++g.take 16++(encV c++zs 176).drop (16+16)=encV c++g++zs 160 by rw[List.take_append_of_le_length (by omega),List.take_of_length_le (by omega),List.take_of_length_le (l:=g) (by omega),List.drop_append,List.drop_of_length_le (by omega),List.nil_append,hC,Zcq])
 have H3:=Lib.hid (show (encV c++g++zs 160).take 32++b.take 160++(encV c++g++zs 160).drop (32+160)=encV c++g++b by rw[List.take_append_of_le_length (by rw[List.length_append];omega),List.take_of_length_le (by rw[List.length_append];omega),List.take_of_length_le (l:=b) (by omega),List.drop_of_length_le (by rw[List.length_append,List.length_append,Zah];omega),List.append_nil])
 have H1l:=Zah 192
 have H2l:=show (encV c++zs 176).length=192 by rw[List.length_append,hC,Zah]
 have H3l:=show (encV c++g++zs 160).length=192 by rw[List.length_append,List.length_append,hC,hg,Zah]
 have L1:=Lib.hid (And.intro H1l (And.intro H2l H3l))
 have L2:=Lib.hid (And.intro hC (And.intro hg hb))
 clear hid hC hg hb H1l H2l H3l
 generalize encV c++zs 176=X1 at *
 generalize encV c++g++zs 160=X2 at *
 generalize encV c++g++b=X3 at *
 generalize encV c=C at *
 generalize encE c=er at *
 go_enter Tryz.func71,Tryz.ntmps71
 go_wp2_with fail
 generalize hW:World.alloc _ _=W0
 have R0x0:=Lib.hid (show RowAt W0 (w.heap.size) (cmdA c) by rw[←hW];clear hW;exact⟨by go_simp,by first | (go_simp;done) | (go_simp;rfl),by go_simp⟩)
 have R0x1:=Lib.hid (show RowAt W0 (w.heap.size+1) (bysA g) by rw[←hW];clear hW;exact⟨by go_simp,by first | (go_simp;done) | (go_simp;rfl),by go_simp⟩)
 have R0x2:=Lib.hid (show RowAt W0 (w.heap.size+1+1) (bysA b) by rw[←hW];clear hW;exact⟨by go_simp,by first | (go_simp;done) | (go_simp;rfl),by go_simp⟩)
 have R0x3:=Lib.hid (show RowAt W0 (w.heap.size+1+1+1) (bysA (zs 192)) by rw[←hW];clear hW;exact⟨by go_simp,by first | (go_simp;done) | (go_simp;rfl),by go_simp⟩)
 have R0x4:=Lib.hid (show RowAt W0 (w.heap.size+1+1+1+1) (bysA (zs 192)) by rw[←hW];clear hW;exact⟨by go_simp,by first | (go_simp;done) | (go_simp;rfl),by go_simp⟩)
 have B0:=Lib.hid (show Below w.heap.size w W0 by rw[←hW];repeat (first | apply Zab | exact Below.refl _ _))
 clear hW
 have hzs192:=Zae (Zah 192)
 have l_x:w.heap.size≤w.heap.size:=by omega
 have l_y:w.heap.size≤w.heap.size+1:=by omega
 have n_x_y:w.heap.size≠w.heap.size+1:=by omega
 have l_b0:w.heap.size≤w.heap.size+1+1:=by omega
 have n_x_b0:w.heap.size≠w.heap.size+1+1:=by omega
 have n_y_b0:w.heap.size+1≠w.heap.size+1+1:=by omega
 have l_r:w.heap.size≤w.heap.size+1+1+1:=by omega
 have n_x_r:w.heap.size≠w.heap.size+1+1+1:=by omega
 have n_y_r:w.heap.size+1≠w.heap.size+1+1+1:=by omega
 have n_b0_r:w.heap.size+1+1≠w.heap.size+1+1+1:=by omega
 have l_v:w.heap.size≤w.heap.size+1+1+1+1:=by omega
 have n_x_v:w.heap.size≠w.heap.size+1+1+1+1:=by omega
 have n_y_v:w.heap.size+1≠w.heap.size+1+1+1+1:=by omega
 have n_b0_v:w.heap.size+1+1≠w.heap.size+1+1+1+1:=by omega
 have n_r_v:w.heap.size+1+1+1≠w.heap.size+1+1+1+1:=by omega
 generalize w.heap.size+1+1+1+1=v at *
 generalize w.heap.size+1+1+1=r at *
 generalize w.heap.size+1+1=b0 at *
 generalize w.heap.size+1=y at *
 obtain⟨x,ex⟩:∃z,z=w.heap.size:=⟨_,rfl⟩
 rw[←ex] at R0x0 n_x_y n_x_b0 n_x_r n_x_v ⊢
 have l_x:w.heap.size≤x:=by rw[ex];exact Nat.le_refl _
 clear ex
 refine(HE.out _).mono ?_
 rintro e W1 ⟨rfl,hb1⟩
 have R1x0:=Lib.hid (R0x0.out.grow hb1)
 have R1x1:=Lib.hid (R0x1.out.grow hb1)
 have R1x2:=Lib.hid (R0x2.out.grow hb1)
 have R1x3:=Lib.hid (R0x3.out.grow hb1)
 have R1x4:=Lib.hid (R0x4.out.grow hb1)
 have B1:=Lib.hid (B0.out.trans (hb1.mono B0.out.size))
 clear hb1 B0 R0x0 R0x1 R0x2 R0x3 R0x4
 obtain⟨R1x0a,R1x0b,R1x0c⟩:=R1x0.out
 obtain⟨R1x1a,R1x1b,R1x1c⟩:=R1x1.out
 obtain⟨R1x2a,R1x2b,R1x2c⟩:=R1x2.out
 obtain⟨R1x3a,R1x3b,R1x3c⟩:=R1x3.out
 obtain⟨R1x4a,R1x4b,R1x4c⟩:=R1x4.out
 go_wp2_with fail
 have n_x_p:x≠W1.heap.size:=Nat.ne_of_lt R1x0.out.2.2
 have n_y_p:y≠W1.heap.size:=Nat.ne_of_lt R1x1.out.2.2
 have n_b0_p:b0≠W1.heap.size:=Nat.ne_of_lt R1x2.out.2.2
 have n_r_p:r≠W1.heap.size:=Nat.ne_of_lt R1x3.out.2.2
 have n_v_p:v≠W1.heap.size:=Nat.ne_of_lt R1x4.out.2.2
 have l_p:w.heap.size≤W1.heap.size:=B1.out.size
 have hb2:=Zab (Below.refl W1.heap.size W1) (.cells (bysA C) 28)
 have N2:=Lib.hid (RowAt.of (Zas W1 (.cells (bysA C) 28)))
 have R2x0:=Lib.hid (R1x0.out.grow hb2)
 have R2x1:=Lib.hid (R1x1.out.grow hb2)
 have R2x2:=Lib.hid (R1x2.out.grow hb2)
 have R2x3:=Lib.hid (R1x3.out.grow hb2)
 have R2x4:=Lib.hid (R1x4.out.grow hb2)
 have B2:=Lib.hid (B1.out.trans (hb2.mono B1.out.size))
 clear hb2 B1 R1x0 R1x1 R1x2 R1x3 R1x4 R1x0a R1x0b R1x0c R1x1a R1x1b R1x1c R1x2a R1x2b R1x2c R1x3a R1x3b R1x3c R1x4a R1x4b R1x4c
 generalize W1.heap.size=p at *
 generalize W1.alloc (.cells (bysA C) 28)=W2 at *
 refine ZaH W2 [0,1] [true,true] [2] (by kernel_rfl) (by kernel_rfl) (by intro c a d v w h;cases d<;>exact h) (by first | exact(Below.refl _ _).drew | exact Below.refl _ _) ?_
 simp only[pick,List.getElem?_cons_succ,List.getElem?_cons_zero]
 iterate 2 (refine Zaz (Zaa rfl) (fun w=>by go_simp;rfl) ?_)
 refine Zap ?_
 intro W3 hb3
 have R3x0:=Lib.hid (R2x0.out.grow hb3)
 have R3x1:=Lib.hid (R2x1.out.grow hb3)
 have R3x2:=Lib.hid (R2x2.out.grow hb3)
 have R3x3:=Lib.hid (R2x3.out.grow hb3)
 have R3x4:=Lib.hid (R2x4.out.grow hb3)
 have R3x5:=Lib.hid (N2.out.grow hb3)
 have B3:=Lib.hid (B2.out.trans (hb3.mono B2.out.size))
 clear hb3 B2 R2x0 R2x1 R2x2 R2x3 R2x4 N2
 have hcp:=ZfZ (u:=0) (c2:=192) (cap:=16) (d:=192) (s:=16) (k:=16) R3x4.out (by rw[L1.out.1];decide) (by rw[L1.out.1]) L2.out.1.symm (by rw[L1.out.1,L2.out.1];decide) (Bs0.some (ZaG R3x5.out))
 rw[H1.out] at hcp
 obtain⟨R3x0a,R3x0b,R3x0c⟩:=R3x0.out
 obtain⟨R3x1a,R3x1b,R3x1c⟩:=R3x1.out
 obtain⟨R3x2a,R3x2b,R3x2c⟩:=R3x2.out
 obtain⟨R3x3a,R3x3b,R3x3c⟩:=R3x3.out
 obtain⟨R3x4a,R3x4b,R3x4c⟩:=R3x4.out
 obtain⟨R3x5a,R3x5b,R3x5c⟩:=R3x5.out
 go_wp2_with fail
 have R4x0:=Lib.hid (R3x0.out.other n_x_v (bysA X1))
 have R4x1:=Lib.hid (R3x1.out.other n_y_v (bysA X1))
 have R4x2:=Lib.hid (R3x2.out.other n_b0_v (bysA X1))
 have R4x3:=Lib.hid (R3x3.out.other n_r_v (bysA X1))
 have R4x4:=Lib.hid (R3x4.out.set (bysA X1))
 have R4x5:=Lib.hid (R3x5.out.other (Ne.symm n_v_p) (bysA X1))
 have B4:=Lib.hid (Zac B3.out l_v (bysA X1))
 clear B3 R3x0 R3x1 R3x2 R3x3 R3x4 R3x5 R3x0a R3x0b R3x0c R3x1a R3x1b R3x1c R3x2a R3x2b R3x2c R3x3a R3x3b R3x3c R3x4a R3x4b R3x4c R3x5a R3x5b R3x5c
 generalize W3.setRow v (bysA X1)=W4 at *
 refine ZaH W4 [0,1] [true,true] [2] (by kernel_rfl) (by kernel_rfl) (by intro c a d v w h;cases d<;>exact h) (by first | exact(Below.refl _ _).drew | exact Below.refl _ _) ?_
 simp only[pick,List.getElem?_cons_succ,List.getElem?_cons_zero]
 iterate 2 (refine Zaz (Zaa rfl) (fun w=>by go_simp;rfl) ?_)
 refine Zap ?_
 intro W5 hb5
 have R5x0:=Lib.hid (R4x0.out.grow hb5)
 have R5x1:=Lib.hid (R4x1.out.grow hb5)
 have R5x2:=Lib.hid (R4x2.out.grow hb5)
 have R5x3:=Lib.hid (R4x3.out.grow hb5)
 have R5x4:=Lib.hid (R4x4.out.grow hb5)
 have R5x5:=Lib.hid (R4x5.out.grow hb5)
 have B5:=Lib.hid (B4.out.trans (hb5.mono B4.out.size))
 clear hb5 B4 R4x0 R4x1 R4x2 R4x3 R4x4 R4x5
 have hcp:=ZfZ (u:=16) (c2:=176) (cap:=16) (d:=176) (s:=16) (k:=16) R5x4.out (by rw[L1.out.2.1];decide) (by rw[L1.out.2.1]) L2.out.2.1.symm (by rw[L1.out.2.1,L2.out.2.1];decide) (Bs0.some (ZaG R5x1.out))
 rw[H2.out] at hcp
 obtain⟨R5x0a,R5x0b,R5x0c⟩:=R5x0.out
 obtain⟨R5x1a,R5x1b,R5x1c⟩:=R5x1.out
 obtain⟨R5x2a,R5x2b,R5x2c⟩:=R5x2.out
 obtain⟨R5x3a,R5x3b,R5x3c⟩:=R5x3.out
 obtain⟨R5x4a,R5x4b,R5x4c⟩:=R5x4.out
 obtain⟨R5x5a,R5x5b,R5x5c⟩:=R5x5.out
 go_wp2_with fail
 have R6x0:=Lib.hid (R5x0.out.other n_x_v (bysA X2))
 have R6x1:=Lib.hid (R5x1.out.other n_y_v (bysA X2))
 have R6x2:=Lib.hid (R5x2.out.other n_b0_v (bysA X2))
 have R6x3:=Lib.hid (R5x3.out.other n_r_v (bysA X2))
 have R6x4:=Lib.hid (R5x4.out.set (bysA X2))
 have R6x5:=Lib.hid (R5x5.out.other (Ne.symm n_v_p) (bysA X2))
 have B6:=Lib.hid (Zac B5.out l_v (bysA X2))
 clear B5 R5x0 R5x1 R5x2 R5x3 R5x4 R5x5 R5x0a R5x0b R5x0c R5x1a R5x1b R5x1c R5x2a R5x2b R5x2c R5x3a R5x3b R5x3c R5x4a R5x4b R5x4c R5x5a R5x5b R5x5c
 generalize W5.setRow v (bysA X2)=W6 at *
 refine ZaH W6 [0,1] [true,true] [2] (by kernel_rfl) (by kernel_rfl) (by intro c a d v w h;cases d<;>exact h) (by first | exact(Below.refl _ _).drew | exact Below.refl _ _) ?_
 simp only[pick,List.getElem?_cons_succ,List.getElem?_cons_zero]
 iterate 2 (refine Zaz (Zaa rfl) (fun w=>by go_simp;rfl) ?_)
 refine Zap ?_
 intro W7 hb7
 have R7x0:=Lib.hid (R6x0.out.grow hb7)
 have R7x1:=Lib.hid (R6x1.out.grow hb7)
 have R7x2:=Lib.hid (R6x2.out.grow hb7)
 have R7x3:=Lib.hid (R6x3.out.grow hb7)
 have R7x4:=Lib.hid (R6x4.out.grow hb7)
 have R7x5:=Lib.hid (R6x5.out.grow hb7)
 have B7:=Lib.hid (B6.out.trans (hb7.mono B6.out.size))
 clear hb7 B6 R6x0 R6x1 R6x2 R6x3 R6x4 R6x5
 have hcp:=ZfZ (u:=32) (c2:=160) (cap:=160) (d:=160) (s:=160) (k:=160) R7x4.out (by rw[L1.out.2.2];decide) (by rw[L1.out.2.2]) L2.out.2.2.symm (by rw[L1.out.2.2,L2.out.2.2];decide) (Bs0.some (ZaG R7x2.out))
 rw[H3.out] at hcp
 obtain⟨R7x0a,R7x0b,R7x0c⟩:=R7x0.out
 obtain⟨R7x1a,R7x1b,R7x1c⟩:=R7x1.out
 obtain⟨R7x2a,R7x2b,R7x2c⟩:=R7x2.out
 obtain⟨R7x3a,R7x3b,R7x3c⟩:=R7x3.out
 obtain⟨R7x4a,R7x4b,R7x4c⟩:=R7x4.out
 obtain⟨R7x5a,R7x5b,R7x5c⟩:=R7x5.out
 go_wp2_with fail
 have R8x0:=Lib.hid (R7x0.out.other n_x_v (bysA X3))
 have R8x1:=Lib.hid (R7x1.out.other n_y_v (bysA X3))
 have R8x2:=Lib.hid (R7x2.out.other n_b0_v (bysA X3))
 have R8x3:=Lib.hid (R7x3.out.other n_r_v (bysA X3))
 have R8x4:=Lib.hid (R7x4.out.set (bysA X3))
 have R8x5:=Lib.hid (R7x5.out.other (Ne.symm n_v_p) (bysA X3))
 have B8:=Lib.hid (Zac B7.out l_v (bysA X3))
 clear B7 R7x0 R7x1 R7x2 R7x3 R7x4 R7x5 R7x0a R7x0b R7x0c R7x1a R7x1b R7x1c R7x2a R7x2b R7x2c R7x3a R7x3b R7x3c R7x4a R7x4b R7x4c R7x5a R7x5b R7x5c
 generalize W7.setRow v (bysA X3)=W8 at *
 obtain⟨R8x0a,R8x0b,R8x0c⟩:=R8x0.out
 obtain⟨R8x1a,R8x1b,R8x1c⟩:=R8x1.out
 obtain⟨R8x2a,R8x2b,R8x2c⟩:=R8x2.out
 obtain⟨R8x3a,R8x3b,R8x3c⟩:=R8x3.out
 obtain⟨R8x4a,R8x4b,R8x4c⟩:=R8x4.out
 obtain⟨R8x5a,R8x5b,R8x5c⟩:=R8x5.out
 go_wp2_with fail
 refine bodyPost_ret (v:=.agg (bysA X3)) (ZcF Tryz.results71 hw _ _ _ rfl (by go_simp) (by go_simp)) rfl ⟨rfl,?_⟩
 exact Zac (B8.out) l_r _
end Go.Proofs.YtddmjddlbhdcpaaGreatDoor
namespace Go
theorem Zdg {P:Program} (w:World) (t tn ty e:TypeId) (i:TypeInfo) (z:Value) (kq kn:IntKind) (ht:P.underlying t=some (.slice e)) (htn:P.underlying tn=some (.int kn)) (hi:P.info? e=some i) (hz:i.zero=some z)
  (g sLen sCap:Nat) (cur:Array Value) (hg:w.heap[g]?=some (.cells cur e (0,0))) (k:Nat) (h0:0<k) (hs:0<i.size) (h63:(k:Int)≤9223372036854775807) (h48:k*i.bytes≤281474976710656)
  (h1:∀u∈(Builtin.zeroCells z.cells k).toList,u.oneCell'=true) (hroom:sLen+k≤sCap) (hfit:sLen*i.size+(Builtin.zeroCells z.cells k).toList.length≤cur.size) :
  (Builtin.append_ #[t,tn] ty #[.slice (some ⟨g,0,none⟩) sLen sCap,.int kq k]).run P w =
   .ok (.slice (some ⟨g,0,none⟩) (sLen+k) sCap) (w.setRow g (cur.toList.take (sLen*i.size)++(Builtin.zeroCells z.cells k).toList++cur.toList.drop (sLen*i.size+(Builtin.zeroCells z.cells k).toList.length)).toArray):=by
 have hk:k≠0:=by omega
 have hw:IntKind.i64.wrap (k:Int)=k:=by rw[IntKind.wrap_i64];omega
 have h48i:¬(281474976710656<(k:Int)*(i.bytes:Int)):=by
  rw[←Int.natCast_mul]
  omega
 have hneg:¬((k:Int)<0):=by omega
 have hns:¬(k*i.size=0):=Nat.mul_ne_zero hk (by omega)
 have hst:=run_storeCells_at P g (sLen*i.size) e (Builtin.zeroCells z.cells k).toList 0 cur w hg (by simpa using hfit) h1
 simp only[Nat.add_zero] at hst
 simp[Builtin.append_,run_underlying ht,run_underlying htn,sizeOf,typeInfo,zeroValue,hi,hz,asInt,asIntOf,hw,hroom,hneg,hns,h48i,Addr.add_lit,hst]
end Go
namespace Go.Proofs.YtddmjddlbhdcpaaGreatDoor
open Go.RowKit Go.Hold Go.Sh
theorem Zcd (k:Nat):Builtin.zeroCells (Value.int IntKind.u8 0).cells k=bysA (zs k):=by
 apply Array.ext_getElem?
 intro i
 by_cases h:i<k
 ·rw[ZaA _ _ (by rw[Zah];exact h)]
  simp[Builtin.zeroCells,Value.cells,h,zs,List.getD,Nat.mod_one]
 ·rw[Array.getElem?_eq_none (by simp[Builtin.zeroCells,Value.cells];omega),Array.getElem?_eq_none (by rw[Zal,Zah];omega)]
theorem ZlP {w:World} {B k:Nat} {v:Value} {l:List Nat} (h:OwnB w B v l) (h0:0<k) (hBw:B≤w.heap.size) (hlen:l.length+k≤16777216) :
  ∃ v' w',(Builtin.append_ #[38,3] 38 #[v,.int .i64 (k:Int)]).run Tryz.prog w=.ok v' w'∧OwnB w' B v' (l++zs k)∧w.grownBy w' v.ownBlock:=by
 obtain⟨i0,hi,hz0,hz1,hz2⟩:=info_parts ZcQ
 have hbz:(bys (zs k)).length=k:=by rw[Zay,Zah]
 have hzc:=Zcd k
 have hzl:(Builtin.zeroCells (Value.int IntKind.u8 0).cells k).toList=bys (zs k):=by rw[hzc];rfl
 rcases h.2 with ⟨rfl,hn0⟩ | ⟨g,cap,cur,rfl,hb,hg,hcap,hm,hs,htk⟩
 ·obtain rfl:=List.eq_nil_of_length_eq_zero hn0
  have hr:=Lib.run_append_nil_zeros (P:=Tryz.prog) w 38 3 38 5 i0 _ .i64 .i64 Tryz.underlying38 Tryz.underlying3 hi hz0 k h0 (by rw[hz1];decide) (by omega) (by rw[hz2];omega)
  have hge:=grownCap_ge w k 0 5
  have hle:=grownCap_le_maxLen w k 0 5 (ZaK (by simpa using hlen))
  generalize grownCap w k 0 5=c at *
  refine⟨_,_,hr,?_,?_⟩
  ·refine⟨by simp[Zah,Zay],.inr ⟨w.heap.size,c,_,by rw[List.nil_append,Zah],hBw,heap_alloc_new w.drew _,by rw[List.nil_append,Zah];exact hge,hle,?_,?_⟩⟩
   ·rw[hzc,Zcd];simp[Zal,Zah];omega
   ·rw[hzc,Zcd,List.nil_append,Zah,Array.toList_append,Nat.mul_one]
    show ((bys (zs k))++_).take k=_
    rw[List.take_append_of_le_length (by omega),List.take_of_length_le (by omega)]
  ·have hb:=Zab ((Below.refl w.heap.size w).drew) (.cells (Builtin.zeroCells (Value.int IntKind.u8 0).cells k++Builtin.zeroCells (Value.int IntKind.u8 0).cells (c-k)) 5)
   exact⟨hb.os,hb.tape,hb.output,hb.size,fun q hq _=>hb.block q hq⟩
 ·have hlt:=(Array.getElem?_eq_some_iff.1 hg).1
  by_cases hroom:l.length+k≤cap
  ·have hr:=Zdg (P:=Tryz.prog) w 38 3 38 5 i0 _ .i64 .i64 Tryz.underlying38 Tryz.underlying3 hi hz0 g l.length cap cur hg k h0 (by rw[hz1];decide) (by omega) (by rw[hz2];omega)
    (by rw[hzl];exact Zc7 _) hroom (by rw[hzl,hbz,hz1,hs];omega)
   rw[hzl,hbz,hz1,Nat.mul_one] at hr
   have hcl:cur.toList.length=cap*1:=by rw[Array.length_toList,hs]
   have hl1:(cur.toList.take l.length).length=l.length:=by rw[List.length_take,hcl];omega
   refine⟨_,_,hr,?_,?_⟩
   ·refine⟨by simp[Zay],.inr ⟨g,cap,(cur.toList.take l.length++bys (zs k)++cur.toList.drop (l.length+k)).toArray,by rw[List.length_append,Zah],hb,?_,by rw[List.length_append,Zah];exact hroom,hm,?_,?_⟩⟩
    ·simp only[World.setRow,Array.getElem?_modify,if_pos,hg];rfl
    ·rw[List.size_toArray,List.length_append,List.length_append,hl1,hbz,List.length_drop,hcl];omega
    ·rw[Nat.mul_one] at htk
     rw[Nat.mul_one,List.length_append,Zah,List.take_append_of_le_length (by rw[List.length_append,hl1,hbz];exact Nat.le_refl _),List.take_of_length_le (by rw[List.length_append,hl1,hbz];exact Nat.le_refl _),htk,bys,bys,bys,List.map_append]
   ·exact⟨rfl,rfl,rfl,by rw[size_setRow];exact Nat.le_refl _,fun q _ hne=>setRow_other w g q _ (fun e=>hne (by rw[e];rfl))⟩
  ·have hold:=run_firstCells_some (P:=Tryz.prog) w.drew i0.size l.length ⟨g,0,none⟩ l.length cap (bys l) (by rw[hz1,Zay,Nat.mul_one]) (by simpa using ZgG (h.bytes hlt))
   have hr:=Lib.run_append_grow_zeros (P:=Tryz.prog) w 38 3 38 5 i0 _ .i64 .i64 Tryz.underlying38 Tryz.underlying3 hi hz0 (some ⟨g,0,none⟩) l.length cap (bys l) hold k h0 (by rw[hz1];decide) (by omega) (by omega) (by rw[hz2];omega) (by rw[hz2];exact growslice_fits (by omega) (by omega))
   have hge:=grownCap_ge w (l.length+k) cap 5
   have hle:=grownCap_le_maxLen w (l.length+k) cap 5 (ZaK hlen)
   generalize grownCap w (l.length+k) cap 5=c at *
   refine⟨_,_,hr,?_,?_⟩
   ·refine⟨by simp[Zay],.inr ⟨w.heap.size,c,_,by rw[List.length_append,Zah],hBw,heap_alloc_new w.drew _,by rw[List.length_append,Zah];exact hge,hle,?_,?_⟩⟩
    ·rw[hzc,Zcd];simp[Zal,Zah,Zay];omega
    ·rw[hzc,Zcd,List.length_append,Zah,Nat.mul_one]
     simp only[Array.toList_append,bysA]
     rw[List.take_append_of_le_length (by rw[List.length_append,Zay,hbz];exact Nat.le_refl _),List.take_of_length_le (by rw[List.length_append,Zay,hbz];exact Nat.le_refl _),bys,bys,bys,List.map_append]
   ·have hb:=Zab ((Below.refl w.heap.size w).drew) (.cells ((bys l).toArray++Builtin.zeroCells (Value.int IntKind.u8 0).cells k++Builtin.zeroCells (Value.int IntKind.u8 0).cells (c-(l.length+k))) 5)
    exact⟨hb.os,hb.tape,hb.output,hb.size,fun q hq _=>hb.block q hq⟩
end Go.Proofs.YtddmjddlbhdcpaaGreatDoor
namespace Go.Proofs.YtddmjddlbhdcpaaGreatDoor
open Go.RowKit Go.Hold Go.Sh Go.Ch Go.Cm Go.Hd
theorem Zdq {w:World} {p:Option Addr} {ss:List (List Nat)} (hR:RowsAt 32 w p (ss.map bysA)) {j:Nat} {s:List Nat} (hj:ss[j]?=some s) (hs:s.length=32) :
  ∃ g o,p=some ⟨g,o,none⟩∧g<w.heap.size∧(Zaq 23 (.pointer (some ⟨g,o+j*32,none⟩))).run Tryz.prog w=.ok (.agg (bysA s)) w :=
 hR.load Tryz.underlying23 rfl (by kernel_rfl) (by rw[List.getElem?_map,hj];rfl) (by rw[Zal,hs])
theorem Zjv {w:World} {B:Nat} {v:Value} {l:List Nat} (h:OwnB w B v l) (hBw:B≤w.heap.size) (hlen:l.length+32≤16777216) :
  ∃ v' w',(Builtin.append_ #[38,3] 38 #[v,.int .i64 32]).run Tryz.prog w=.ok v' w'∧OwnB w' B v' (l++zs 32)∧w.grownBy w' v.ownBlock:=ZlP (k:=32) h (by decide) hBw hlen
theorem BytesAt.from {w:World} {b o:Nat} {l:List Nat} (h:BytesAt w b o l) (n:Nat):BytesAt w b (o+n) (l.drop n) :=
 ⟨h.1,fun i hi=>by
  rw[List.length_drop] at hi
  rw[Nat.add_assoc,h.2 (n+i) (by omega)]
  simp[List.getD,List.getElem?_drop]⟩
theorem Zro (b u:Nat) (hu:u<192) (W:World):(Instr.sliceAt 99 (.pointer (some ⟨b,0,none⟩)) (some (.int .i64 (u:Int))) none none).run Tryz.prog W=.ok (.slice (some ⟨b,u,none⟩) (192-u) (192-u)) W:=by
 have hl:Tryz.prog.arrayLen 99=192:=by kernel_rfl
 have hs:(sizeOf (Tryz.prog.elem 99)).run Tryz.prog W=.ok 1 W:=by kernel_rfl
 have h1:=run_sliceAt_array_l (P:=Tryz.prog) W 99 ⟨b,0,none⟩ (by kernel_rfl) .i64 (u:Int) (by omega) (by rw[hl];omega)
 rw[h1,hs,hl]
 simp only[Result.andThen_ok,slicedAt,Int.toNat_natCast,Nat.mul_one,Addr.add_mid,Nat.zero_add]
 rw[if_neg (by omega)]
theorem ZsE (b u:Nat) (hu:u≤160) (W:World):(Instr.sliceAt 27 (.pointer (some ⟨b,0,none⟩)) (some (.int .i64 (u:Int))) none none).run Tryz.prog W=.ok (.slice (some ⟨b,if u=160 then 0 else u,none⟩) (160-u) (160-u)) W:=by
 have hl:Tryz.prog.arrayLen 27=160:=by kernel_rfl
 have hs:(sizeOf (Tryz.prog.elem 27)).run Tryz.prog W=.ok 1 W:=by kernel_rfl
 have h1:=run_sliceAt_array_l (P:=Tryz.prog) W 27 ⟨b,0,none⟩ (by kernel_rfl) .i64 (u:Int) (by omega) (by rw[hl];omega)
 rw[h1,hs,hl]
 simp only[Result.andThen_ok,slicedAt,Int.toNat_natCast,Nat.mul_one,Addr.add_mid,Nat.zero_add]
 by_cases e:u=160
 ·rw[if_pos e.symm,if_pos e]
 ·rw[if_neg (fun h=>e h.symm),if_neg e]
theorem OwnB.xored {w:World} {B g m c:Nat} {l:List Nat} (h:OwnB w B (.slice (some ⟨g,0,none⟩) m c) l) (x:List Nat) (hx:x.length=l.length) :
  ∃ cur,RowAt w g cur∧FrontB cur l∧∀ w',Sets w g (xorC cur l x l.length) w'→OwnB w' B (.slice (some ⟨g,0,none⟩) m c) (mixd l x):=by
 rcases h.2 with ⟨h0,_⟩ | ⟨g',cap,cur,e,hb,hg,hcap,hm,hs,htk⟩
 ·cases h0
 ·cases e
  rw[Nat.mul_one] at hs htk
  have hf:FrontB cur l:=⟨by rw[hs];exact hcap,fun i hi=>by
   have h1:(bys l)[i]?=some (.int .u8 ((l.getD i 0:Nat):Int)):=by simp[bys,hi]
   rw[←htk,List.getElem?_take,if_pos hi,Array.getElem?_toList] at h1
   exact h1⟩
  refine⟨cur,RowAt.of hg,hf,fun w' hset=>?_⟩
  have hlt:=(Array.getElem?_eq_some_iff.1 hg).1
  have hml:(mixd l x).length=l.length:=by rw[ZaL,hx]
  have hbk:w'.heap[g]?=some (.cells (xorC cur l x l.length) 5 (0,0)):=by
   obtain⟨os,d,rfl⟩:=hset
   rw[World.plus_block _ _ _ _ (by rw[size_setRow];exact hlt)]
   simp only[World.setRow,Array.getElem?_modify,if_pos,hg];rfl
  refine⟨by rw[hml];simp[Zay,ZaL,hx],.inr ⟨g,c,_,by rw[hml],hb,hbk,by rw[hml];exact hcap,hm,?_,?_⟩⟩
  ·unfold xorC;rw[Zd8,Nat.mul_one];exact hs
  ·unfold xorC
   have h1:=Zgm cur 0 (bys ((mixd l x).take l.length)) (by rw[Zay,List.length_take,hml];omega)
   rw[Nat.zero_add,Zay,List.length_take,hml,Nat.min_self,List.take_zero,List.nil_append] at h1
   rw[hml,Nat.mul_one,h1,List.take_of_length_le (by omega)]
set_option maxHeartbeats 1000000 in
set_option maxRecDepth 100000 in
theorem Zl6 (ss:List (List Nat)) (p:Option Addr) (n cap:Nat) (hs:∀s∈ss,s.length=32) (hsb:∀s∈ss,∀ i,s.getD i 0<256) (hn:n=ss.length) (h5:n≤5) (w:World) (hT:Tabs w) (hR:RowsAt 32 w p (ss.map bysA)) :
  Calls Tryz.prog 101 #[.slice p n cap] w fun e w'=>∃ v,e=.returned v∧OwnB w' w.heap.size v (fil ss)∧Below w.heap.size w w':=by
 have HT:=Lib.hid hT
 have HR:=Lib.hid hR
 have Hn:=Lib.hid hn
 have H5:=Lib.hid h5
 have i5:¬(5:Int)<(n:Int):=by omega
 have hhs:∀s:List Nat,(bysA (hst s)).size=192:=fun s=>Zae (ZaU s)
 have hz192:=Zae (Zah 192)
 have Hs:=Lib.hid hs
 have Hsb:=Lib.hid hsb
 clear hT hR hn h5 hs hsb
 go_enter Tryz.func101,Tryz.ntmps101
 go_wp2_with fail
 go_loopw [3,9] (fun f i wr=>∃ (v:Value) (k:Nat),v=f∧k≤n∧i=.int .i64 k∧OwnB wr w.heap.size v (fil (ss.take k))∧Below w.heap.size w wr) (fun _ i _=>n-(intOf i).toNat)
 case atStart=>exact⟨_,0,rfl,Nat.zero_le _,rfl,Zbo w _,Below.refl _ _⟩
 case round =>
  obtain⟨v,k,rfl,hk,rfl,hown,hbel⟩:=hrel
  by_cases hkn:k<n
  ·have hk1:(k:Int)<(n:Int):=by omega
   obtain⟨s,hj⟩:∃s,ss[k]?=some s:=⟨_,List.getElem?_eq_getElem (by rw[←Hn.out];exact hkn)⟩
   have hm:=List.mem_of_getElem? hj
   have hs32:=Hs.out s hm
   obtain⟨g,o,ep,hg,hld⟩:=Zdq (HR.out.grow hbel) hj hs32
   subst ep
   have hss:=Zae hs32
   have HS:=Lib.hid (fun (W:World) (h:Tabs W)=>ZhS s hs32 (Hsb.out s hm) W h)
   have Hf:=Lib.hid (show fil (ss.take (k+1))=mixd ((hst s).drop (192-((fil (ss.take k)).length+32))) (fil (ss.take k)++zs 32) by rw[List.take_add_one,hj];exact Zhi _ _)
   have hfl:(fil (ss.take k)).length=32*k:=by rw[Zcm,List.length_take,←Hn.out];omega
   have Hfl:=Lib.hid hfl
   have Hfb:=Lib.hid (ZmC (ss.take k))
   rw[hfl] at Hf
   obtain⟨m,em⟩:∃m,m=32*k+32:=⟨_,rfl⟩
   have hm5:m≤160:=by have:=H5.out;omega
   rw[←em] at Hf
   generalize fil (ss.take k)=F at *
   have Em:=Lib.hid em
   have HO:=Lib.hid hown
   have Hbel:=Lib.hid hbel
   have BA:=Zab (Below.refl wr.heap.size wr) (.cells (bysA s) 23)
   have R1:=RowAt.of (Zas wr (.cells (bysA s) 23))
   have B1:=hbel.trans (BA.mono hbel.size)
   obtain⟨v2,W2,hr,ho2,hg2⟩:=Zjv (hown.below BA) B1.size (by rw[hfl];omega)
   have B2:=Lib.hid (Zbn B1 (hown.below BA) B1.size hg2)
   have S2:=Lib.hid (Zbe R1 hg2 (fun e=>by have:=(hown.ltb _ e).2;omega))
   have O2:=Lib.hid ho2
   have L2:=Lib.hid (show wr.heap.size<W2.heap.size from Nat.lt_of_lt_of_le R1.2.2 hg2.size)
   clear hown hbel hj hm hfl hs32 em BA R1 B1 ho2 hg2
   obtain⟨s1,s2,s3⟩:=S2.out
   go_wp2_with (at_builtin;refine Lib.wpList_append_run _ rfl _ _ _ _ rfl _ _ rfl rfl _ _ hr ?_)
   clear hr hld
   generalize wr.heap.size=b at *
   go_wp2_with fail
   refine(HS.out _ (HT.out.grow B2.out)).mono ?_
   rintro e W3 ⟨rfl,hb3⟩
   have O3:=Lib.hid (O2.out.below hb3)
   have B3:=Lib.hid (B2.out.trans (hb3.mono B2.out.size))
   clear hb3 s1 s2 s3 S2
   have hm0:0<m:=by have:=Em.out;omega
   have hlm:(F++zs 32).length=m:=by rw[List.length_append,Zah,Hfl.out,Em.out]
   obtain⟨gf,cf,rfl,hgB,hgl,hcf⟩:=O3.out.addr hlm hm0
   obtain⟨u,eu⟩:∃u,u=192-m:=⟨_,rfl⟩
   have hw1:wrap64 (192-(m:Int))=(u:Int):=by rw[show (192:Int)-(m:Int)=(u:Int) by omega];exact IntWalk.wrap64_in _ (by omega)
   have hsl:=fun (bb:Nat) (W:World)=>Zro bb u (by omega) W
   rw[show 192-u=m by omega] at hsl
   rw[←eu] at Hf
   have Hu:=Lib.hid (And.intro hm5 eu)
   clear hm5 eu
   go_wp2_with fail
   have BA:=Zab (Below.refl W3.heap.size W3) (.cells (bysA (hst s)) 99)
   have R4:=RowAt.of (Zas W3 (.cells (bysA (hst s)) 99))
   have hxl:((hst s).drop u).length=(F++zs 32).length:=by rw[List.length_drop,ZaU,hlm,Hu.out.2];have:=Hu.out.1;omega
   obtain⟨cur,hcur,hfr,hown⟩:=(O3.out.below BA).xored ((hst s).drop u) hxl
   have hB4:Bs (W3.alloc (.cells (bysA (hst s)) 99)) (some ⟨W3.heap.size,u,none⟩) ((hst s).drop u) gf:=.inr ⟨W3.heap.size,u,rfl,by
    have:=(ZaG R4).from u
    rwa [Nat.zero_add] at this,by omega⟩
   have B4:=B3.out.trans (BA.mono B3.out.size)
   refine(Zqe gf m m cf m (some ⟨W3.heap.size,u,none⟩) cur (F++zs 32) ((hst s).drop u) _ hcur hfr hlm.symm hlm.symm hxl (by rw[hlm];have:=Hu.out.1;omega) (ZaN Hfb.out (Zbr _)) (ZbE (Zd3 s) _) hB4).mono ?_
   rintro e W5 ⟨rfl,hset⟩
   have O5:=Lib.hid (hown W5 hset)
   rw[Go.Li.mixd_comm _ _ hxl.symm,←Hf.out] at O5
   have B5:=Lib.hid (hset.below B4 hgB B4.size)
   clear hset hown hcur hfr hB4 B4 BA R4 hxl hlm
   go_wp2_with fail
   go_roundw
   case rel=>exact⟨_,k+1,rfl,by omega,by go_num,O5.out,B5.out⟩
   case measure=>simp[intOf];omega
  ·obtain rfl:k=n:=by omega
   rw[List.take_of_length_le (by rw[←Hn.out];exact Nat.le_refl _)] at hown
   have HO:=Lib.hid hown
   have Hbel:=Lib.hid hbel
   clear hbel hown
   go_wp2_with fail
   go_ret
   exact⟨v,rfl,HO.out,Hbel.out⟩
theorem Zny (o:Oper) (h:o.op=.alloc 27) (hg:o.guard=none):Lays Tryz.prog o 27 (bysA (zs 160)):=by
 refine⟨hg,fun a w=>?_⟩
 obtain⟨dst,op,ty,pos,after,guard⟩:=o
 simp only at h hg
 subst h;subst hg
 go_simp
theorem ZrY (a:Option Addr) (len cap n:Nat) (h:n≤cap) (w:World):(Instr.sliceAt 32 (.slice a len cap) none (some (.int .i64 (n:Int))) none).run Tryz.prog w=.ok (.slice a n cap) w:=by
 have hu:Tryz.prog.underlying 32=some (.slice (Tryz.prog.elem 32)):=by kernel_rfl
 have hs:(sizeOf (Tryz.prog.elem 32)).run Tryz.prog w=.ok 32 w:=by kernel_rfl
 rw[run_sliceAt_slice _ _ _ _ _ _ hu,run_slice_h _ _ _ _ _ hu _ _ (by omega) (by omega),hs]
 cases a<;>simp[sliced,Result.andThen,Addr.add]
set_option maxHeartbeats 1000000 in
set_option maxRecDepth 100000 in
theorem Zk9 (done:List (List Nat)) (s:List Nat) (c:Cmd) (p:Option Addr) (n cap:Nat) (hs:∀t∈done++[s],t.length=32) (hsb:∀t∈done++[s],∀ i,t.getD i 0<256) (hid:c.id.length=8) (hidb:∀i,c.id.getD i 0<256) (hn:n=done.length+1) (h5:n≤5) (hnc:n≤cap) (w:World) (hT:Tabs w) (hR:RowsAt 32 w p ((done++[s]).map bysA)) :
  Calls Tryz.prog 70 #[.slice p n cap,.agg (cmdA c)] w fun e w'=>e=.returned (.agg (bysA (Zek done s (encV c))))∧Below w.heap.size w w':=by
 obtain⟨d,ed⟩:∃d,d=done.length:=⟨_,rfl⟩
 have hnd:(n:Int)-1=(d:Int):=by omega
 have hd5:¬(5:Int)<(n:Int):=by omega
 have hdn:(d:Int)<(n:Int):=by omega
 have hcs:=Zax hid
 have hsm:=hs s (by simp)
 have hsbm:=hsb s (by simp)
 have hj:(done++[s])[d]?=some s:=by rw[ed];simp
 have HLd:=Lib.hid (fun (W:World) (hb:Below w.heap.size w W)=>Zdq (hR.grow hb) hj hsm)
 obtain⟨g,o,ep,hx1,hx2⟩:=Zdq hR hj hsm
 clear hx1 hx2
 subst ep
 have HLK:=Lib.hid (fun (W:World) (hb:Below w.heap.size w W)=>show (Zaq 23 (.pointer (some ⟨g,o+d*32,none⟩))).run Tryz.prog W=.ok (.agg (bysA s)) W by
  obtain⟨g',o',e,_,h⟩:=HLd.out W hb
  cases e;exact h)
 clear HLd
 have HRd:=Lib.hid (show RowsAt 32 w (some ⟨g,o,none⟩) (done.map bysA) by
  have:=hR.take d
  rwa [←List.map_take,ed,List.take_left] at this)
 have HF:=Lib.hid (fun (W:World) (h:Tabs W) (hb:Below w.heap.size w W)=>Zl6 done (some ⟨g,o,none⟩) d cap (fun t ht=>hs t (by simp[ht])) (fun t ht=>hsb t (by simp[ht])) ed (by omega) W h (HRd.out.grow hb))
 have HLa:=Lib.hid (fun (W:World)=>ZqA c hid (zs 16) (zs 160) (Zah 16) (Zah 160) W)
 have hel:=ZcA hid
 have HTu:=Lib.hid (fun (W:World) (h:Tabs W)=>Zhn (encV c++zs 16++zs 160) s (by rw[List.length_append,List.length_append,hel,Zah,Zah]) (ZaN (ZaN (ZeZ hidb) (Zbr _)) (Zbr _)) hsm hsbm W h)
 have hwl:=Zcl (s:=s) hel (Zah 16) (Zah 160)
 have HWb:=Lib.hid (fun (W:World)=>Znq (wid s (encV c) (zs 16) (zs 160)) hwl W)
 have HE:=Lib.hid (show Zek done s (encV c)=(wid s (encV c) (zs 16) (zs 160)).take (160-32*d)++fil done by rw[ed];rfl)
 have hb0:((wid s (encV c) (zs 16) (zs 160)).take 160).length=160:=by rw[List.length_take,hwl];rfl
 obtain⟨k,ek⟩:∃k,k=32*d:=⟨_,rfl⟩
 have Hfl:=Lib.hid (show (fil done).length=k by rw[Zcm,←ed,ek])
 obtain⟨u,eu⟩:∃u,u=160-k:=⟨_,rfl⟩
 have hu1:u≤160:=by omega
 have hu2:160-u=k:=by omega
 rw[←ek,←eu] at HE
 have hbl:(Zek done s (encV c)).length=160:=by rw[HE.out,List.length_append,List.length_take,hwl,Hfl.out];omega
 have hbs:=Zae hbl
 change Hid (∀ (W:World),Tabs W→Calls Tryz.prog 46 #[.agg (bysA (encV c++zs 16++zs 160)),.agg (bysA s)] W fun e w'=>e=.returned (.agg (bysA (wid s (encV c) (zs 16) (zs 160))))∧Below W.heap.size W w') at HTu
 have hE2:=Lib.hid (show ((wid s (encV c) (zs 16) (zs 160)).take 160).take u=(wid s (encV c) (zs 16) (zs 160)).take u by rw[List.take_take,Nat.min_eq_left hu1])
 generalize Zek done s (encV c)=R at *
 generalize fil done=F at *
 generalize wid s (encV c) (zs 16) (zs 160)=V at *
 generalize encV c++zs 16++zs 160=Y at *
 have hb0s:=Zae hb0
 obtain⟨Z,eZ⟩:∃Z,Z=V.take 160:=⟨_,rfl⟩
 rw[←eZ] at hb0 hb0s HWb hE2
 have hsl:=fun (bb:Nat) (W:World)=>ZsE bb u hu1 W
 have hslk:=fun (W:World)=>ZrY (some ⟨g,o,none⟩) n cap d (by omega) W
 rw[hu2] at hsl
 have hw1:wrap64 (160-(k:Int))=(u:Int):=by rw[show (160:Int)-(k:Int)=(u:Int) by omega];exact IntWalk.wrap64_in _ (by omega)
 have HCp:=Lib.hid (fun (W:World) (gb cf:Nat) (pf:Option Addr) (hg:RowAt W gb (bysA Z)) (hB:Bs0 W pf F)=>show (Builtin.copy_ #[38,38] 3 #[.slice (some ⟨gb,if u=160 then 0 else u,none⟩) k k,.slice pf k cf]).run Tryz.prog W=.ok (.int .i64 (k:Int)) (W.setRow gb (bysA R)) by
  by_cases e:u=160
  ·have hd0:k=0:=by omega
   have hF0:F=[]:=List.eq_nil_of_length_eq_zero (by rw[Hfl.out,hd0])
   have hRZ:R=Z:=by rw[HE.out,hF0,List.append_nil,e,←eZ]
   rw[if_pos e,hd0,hRZ,ZbK hg]
   exact Zem W _ _ _ _ _
  ·rw[if_neg e]
   have:=ZfZ (u:=u) (c2:=k) (cap:=cf) (d:=k) (s:=k) (k:=k) hg (by rw[hb0];exact hu1) (by rw[hb0,hu2]) Hfl.out.symm (by rw[hb0,Hfl.out];omega) hB
   rwa [hE2.out,List.take_of_length_le (l:=F) (by rw[Hfl.out];exact Nat.le_refl _),List.drop_of_length_le (l:=Z) (by rw[hb0];omega),List.append_nil,←HE.out] at this)
 generalize (if u=160 then 0 else u)=q at *
 have HT:=Lib.hid hT
 have hz160:=Zae (Zah 160)
 clear hT hR hs hsb hid hidb hn hnc hj hsm hsbm hel hwl hE2 eZ hb0 hu1 hu2 eu ek ed hbl h5
 go_enter Tryz.func70,Tryz.ntmps70
 go_wp2_with fail
 generalize hW:World.alloc _ _=W0
 have R0x0:=Lib.hid (show RowAt W0 (w.heap.size) (cmdA c) by rw[←hW];clear hW;exact⟨by go_simp,by first | (go_simp;done) | (go_simp;rfl),by go_simp⟩)
 have R0x1:=Lib.hid (show RowAt W0 (w.heap.size+1) (bysA (zs 160)) by rw[←hW];clear hW;exact⟨by go_simp,by first | (go_simp;done) | (go_simp;rfl),by go_simp⟩)
 have B0:=Lib.hid (show Below w.heap.size w W0 by rw[←hW];repeat (first | apply Zab | exact Below.refl _ _))
 clear hW
 have hzs160:=Zae (Zah 160)
 have l_x:w.heap.size≤w.heap.size:=by omega
 have l_r:w.heap.size≤w.heap.size+1:=by omega
 have n_x_r:w.heap.size≠w.heap.size+1:=by omega
 generalize w.heap.size+1=r at *
 obtain⟨x,ex⟩:∃z,z=w.heap.size:=⟨_,rfl⟩
 rw[←ex] at R0x0 n_x_r ⊢
 have l_x:w.heap.size≤x:=by rw[ex];exact Nat.le_refl _
 clear ex
 obtain⟨R0x0a,R0x0b,R0x0c⟩:=R0x0.out
 obtain⟨R0x1a,R0x1b,R0x1c⟩:=R0x1.out
 have hlk:∀(o':Array Obj) (d':Nat),(Zaq 23 (.pointer (some ⟨g,o+d*32,none⟩))).run Tryz.prog (W0.plus o' d')=.ok (.agg (bysA s)) (W0.plus o' d'):=fun o' d'=>HLK.out _ (ZaM _ _ _ B0.out B0.out.size)
 refine Zao W0 [0,1,2,3,4,5,6,7,8,9] [false,false,false,false,false,false,false,false,false,false] [10] [(27,bysA (zs 160))] 11 (by kernel_rfl) rfl (by kernel_rfl) (by intro c a d v w h;cases d<;>exact h) (by first | exact(Below.refl _ _).drew | exact Below.refl _ _) ?_
 simp only[pick,List.getElem?_cons_succ,List.getElem?_cons_zero,List.drop_succ_cons,List.drop_zero]
 refine Zad (Zaa rfl) (by intro K o d hK;go_simp;exact hK _ (Below.refl _ _)) ?_
 refine Zad (Zaa rfl) (by intro K o d hK;go_simp;exact hK _ (Below.refl _ _)) ?_
 refine Zad (Zaa rfl) (by intro K o d hK;go_simp;exact hK _ (Below.refl _ _)) ?_
 refine Zaj (v:=.agg (bysA Y)) (Zaa rfl) (by intro K o d hK;go_simp;refine(HLa.out _).mono ?_;rintro e w' ⟨rfl,hbw⟩;exact⟨_,rfl,hK _ hbw⟩) ?_
 refine Zad (Zaa rfl) (by intro K o d hK;go_simp;exact hK _ (Below.refl _ _)) ?_
 refine Zad (Zaa rfl) (by intro K o d hK;go_simp;exact hK _ (Below.refl _ _)) ?_
 refine Zad (Zaa rfl) (by intro K o d hK;go_simp;exact hK _ (Below.refl _ _)) ?_
 refine Zad (Zaa rfl) (by intro K o d hK;go_simp;exact hK _ (Below.refl _ _)) ?_
 refine Zaj (v:=.agg (bysA V)) (Zaa rfl) (by intro K o d hK;go_simp;refine(HTu.out _ (HT.out.grow (ZaM _ _ _ B0.out B0.out.size))).mono ?_;rintro e w' ⟨rfl,hbw⟩;exact⟨_,rfl,hK _ hbw⟩) ?_
 refine Zaj (v:=.agg (bysA Z)) (Zaa rfl) (by intro K o d hK;go_simp;refine(HWb.out _).mono ?_;rintro e w' ⟨rfl,hbw⟩;exact⟨_,rfl,hK _ hbw⟩) ?_
 refine Zap ?_
 refine⟨Zny _ rfl rfl,fun b hg0 hn0=>?_⟩
 intro W1 hb1 hblk
 have n_x_b:x≠b:=by have:=R0x0.out.2.2;omega
 have n_r_b:r≠b:=by have:=R0x1.out.2.2;omega
 have l_b:w.heap.size≤b:=Nat.le_trans B0.out.size hg0
 have V1x0:=Lib.hid (RowAt.of (hblk 0 b _ _ rfl rfl))
 clear hblk
 clear R0x0a R0x0b R0x0c R0x1a R0x1b R0x1c
 have R1x0:=Lib.hid (R0x0.out.grow hb1)
 have R1x1:=Lib.hid (R0x1.out.grow hb1)
 have B1:=Lib.hid (B0.out.trans (hb1.mono B0.out.size))
 clear hb1 B0 R0x0 R0x1
 obtain⟨R1x0a,R1x0b,R1x0c⟩:=R1x0.out
 obtain⟨R1x1a,R1x1b,R1x1c⟩:=R1x1.out
 obtain⟨V1x0a,V1x0b,V1x0c⟩:=V1x0.out
 go_wp2_with fail
 have R2x0:=Lib.hid (R1x0.out.other n_x_b (bysA Z))
 have R2x1:=Lib.hid (R1x1.out.other n_r_b (bysA Z))
 have R2x2:=Lib.hid (V1x0.out.set (bysA Z))
 have B2:=Lib.hid (Zac B1.out l_b (bysA Z))
 clear B1 R1x0 R1x1 V1x0 R1x0a R1x0b R1x0c R1x1a R1x1b R1x1c V1x0a V1x0b V1x0c
 generalize W1.setRow b (bysA Z)=W2 at *
 refine(HF.out _ (HT.out.grow B2.out) B2.out).mono ?_
 rintro e W3 ⟨v,rfl,hown,hb3⟩
 have R3x0:=Lib.hid (R2x0.out.grow hb3)
 have R3x1:=Lib.hid (R2x1.out.grow hb3)
 have R3x2:=Lib.hid (R2x2.out.grow hb3)
 have B3:=Lib.hid (B2.out.trans (hb3.mono B2.out.size))
 clear hb3 B2 R2x0 R2x1 R2x2
 obtain⟨pf,cf,rfl,hBs,hx1,hx2⟩:=hown.bs
 clear hx1 hx2 hown
 rw[Hfl.out]
 have hcp:=HCp.out _ b cf pf R3x2.out hBs
 clear hBs
 obtain⟨R3x0a,R3x0b,R3x0c⟩:=R3x0.out
 obtain⟨R3x1a,R3x1b,R3x1c⟩:=R3x1.out
 obtain⟨R3x2a,R3x2b,R3x2c⟩:=R3x2.out
 go_wp2_with fail
 refine bodyPost_ret (v:=.agg (bysA R)) (ZcL Tryz.results70 hbs _ _ _ rfl (by go_simp) (by go_simp)) rfl ⟨rfl,?_⟩
 exact Zac (Zac (B3.out) l_b _) l_r _
open Go.RowKit Go.Hold Go.Sh
theorem Zgx {C:Nat}:∀(vs:List Value) (o j:Nat) (x:Nat×Nat),(∀ v∈vs,v.cells.size=C)→(offs o vs)[j]?=some x→x=(o+j*C,C)
 | [],o,j,x,_,h=>by simp[offs] at h
 | v::vs,o,0,x,hv,h=>by
  simp only[offs,List.getElem?_cons_zero,Option.some.injEq] at h
  rw[←h,hv v List.mem_cons_self,Nat.zero_mul,Nat.add_zero]
 | v::vs,o,j+1,x,hv,h=>by
  simp only[offs,List.getElem?_cons_succ] at h
  have:=Zgx vs _ j x (fun u hu=>hv u (List.mem_cons_of_mem _ hu)) h
  rw[this,hv v List.mem_cons_self,Nat.add_mul,Nat.one_mul]
  congr 1;omega
theorem ZdO {C:Nat}:∀(vs:List Value),(∀ v∈vs,v.cells.size=C)→(ZaZ vs).length=vs.length*C
 | [],_=>by simp[ZaZ]
 | v::vs,hv=>by
  show (v.cells.toList++ZaZ vs).length=_
  rw[List.length_append,Array.length_toList,hv v List.mem_cons_self,ZdO vs (fun u hu=>hv u (List.mem_cons_of_mem _ hu)),List.length_cons,Nat.add_mul];omega
theorem Zf7 {P:Program} {t e:TypeId} {C Y len:Nat} {z:Value} (hu:P.underlying t=some (.slice e)) (hinfo:(P.info? e).map (fun i=>(i.zero,i.size,i.bytes))=some (some z,C,Y)) (vs:List Value) (hv:∀v∈vs,v.cells.size=C) (hl:vs.length=len) (h0:¬len*C=0) (hm:¬len*C > 2^24)
  (parts:Array (Nat×Value)) (hp:parts.toList=vs.zipIdx.map fun p=>(p.2,p.1)) (w:World) :
  (Instr.buildSlice t len parts).run P w=.ok (.slice (some ⟨w.heap.size,0,none⟩) len len) (w.alloc (.cells (ZaZ vs).toArray e)):=by
 obtain⟨ie,h1,h2,h3,_⟩:=info_parts hinfo
 refine run_buildSlice w _ _ len _ _ ie _ hu h1 h2 (by rw[h3];exact hm) (by rw[h3];exact h0) ?_
 rw[h3,hp]
 have hca:=ZdO vs hv
 rw[hl] at hca
 obtain⟨r,g1,g2,g3⟩:=Zho (fun i=>some (i*C,C)) vs 0 0 ((Array.range (len*C)).map (z.cells[· % z.cells.size]!)) (fun j x hx=>by
  rw[Zgx vs 0 j x hv hx,Nat.zero_add,Nat.zero_add]) (by rw[hca];simp)
 rw[g1]
 congr 1
 have h5:r.toList.length=(ZaZ vs).length:=by rw[Array.length_toList,g2,hca];simp
 rw[Nat.zero_add,List.take_zero,List.nil_append,←h5,List.take_length] at g3
 rw[←g3,Array.toArray_toList]
end Go.Proofs.YtddmjddlbhdcpaaGreatDoor
namespace Go.Oc
theorem or_add (a x:Nat) (hx:x<256):a*256 ||| x=a*256+x:=by
 have:=Nat.shiftLeft_add_eq_or_of_lt (i:=8) (b:=x) hx a
 rw[Nat.shiftLeft_eq] at this
 exact this.symm
end Go.Oc
namespace Go.Proofs.YtddmjddlbhdcpaaGreatDoor
open Go.RowKit Go.Hold Go.Sh Go.Oc
def RB (w:World) (bb:Option Nat) (p:Option Addr) (l:List Nat):Prop:=(p=none∧l=[])∨∃ b o,bb=some b∧p=some ⟨b,o,none⟩∧BytesAt w b o l
theorem RB.any {w:World} {bb:Option Nat} {p:Option Addr} {l:List Nat} (h:RB w bb p l):Bs0 w p l:=by
 rcases h with ⟨_,h⟩ | ⟨b,o,_,e,h⟩
 ·exact .inl h
 ·exact .inr ⟨b,o,e,h⟩
theorem RB.moves {w w':World} {g:Nat} {a bb:Option Nat} {p:Option Addr} {l:List Nat} (h:RB w bb p l) (m:Moves w g a w') (h1:bb≠some g) (h2:∀k,bb=some k→a≠some k):RB w' bb p l:=by
 rcases h with h | ⟨b,o,e1,e,h⟩
 ·exact .inl h
 ·exact .inr ⟨b,o,e1,e,h.moves m (fun e2=>h1 (by rw[e1,e2])) (h2 b e1)⟩
theorem RB.lt {w:World} {bb:Option Nat} {p:Option Addr} {l:List Nat} (h:RB w bb p l):p≠none→∀ k,bb=some k→k<w.heap.size:=by
 rcases h with ⟨h,_⟩ | ⟨b,o,e1,_,h⟩
 ·intro hp;exact absurd h hp
 ·intro _ k hk;rw[e1] at hk;cases hk;exact h.1
def Rd (w:World) (g:Nat) (bb:Option Nat) (s:Ws):Prop :=
 ∃ p c,RowAt w g (rrow true s.1 (.slice p s.2.length c))∧RB w bb p s.2∧(p=none→c=0)∧s.2.length≤c∧bb≠some g∧s.2.length≤65536∧∀ k,bb=some k→k<w.heap.size
def RStep (w:World) (g:Nat) (bb:Option Nat) (s':Ws) (w':World):Prop:=Rd w' g bb s'∧Moves w g none w'
theorem Rd.lt {w:World} {g:Nat} {bb:Option Nat} {s:Ws} (h:Rd w g bb s):g<w.heap.size∧∀ k,bb=some k→k<w.heap.size:=by
 obtain⟨p,c,h,_,_,_,_,_,h2⟩:=h
 exact⟨h.2.2,h2⟩
theorem Rd.le {w:World} {g:Nat} {bb:Option Nat} {s:Ws} (h:Rd w g bb s):s.2.length≤65536:=by
 obtain⟨p,c,_,_,_,_,_,h,_⟩:=h;exact h
theorem Rd.apart {w:World} {g:Nat} {bb:Option Nat} {s:Ws} (h:Rd w g bb s):bb≠some g:=by
 obtain⟨p,c,_,_,_,_,h,_,_⟩:=h;exact h
theorem Rd.moves {w w':World} {g g2:Nat} {bb ob2:Option Nat} {s:Ws} (h:Rd w g bb s) (m:Moves w g2 ob2 w') (h1:g≠g2) (h2:ob2≠some g) (h3:bb≠some g2) (h4:∀k,bb=some k→ob2≠some k):Rd w' g bb s:=by
 obtain⟨p,c,hr,hb,h5,h6,h7,h8,h9⟩:=h
 exact⟨p,c,RowAt.moves hr m h1 h2,hb.moves m h3 h4,h5,h6,h7,h8,fun k hk=>Nat.lt_of_lt_of_le (h9 k hk) m.size⟩
theorem Rd.grow {w w':World} {g:Nat} {bb:Option Nat} {s:Ws} (h:Rd w g bb s) (hb:Below w.heap.size w w'):Rd w' g bb s:=by
 have hl:=h.lt
 refine h.moves (g2:=w.heap.size) (ob2:=none) (Moves.of _ _ hb) (by omega) (fun e=>by cases e) (fun e=>?_) (fun _ _ e=>by cases e)
 have:=hl.2 _ e;omega
theorem RStep.refl {w:World} {g:Nat} {bb:Option Nat} {s:Ws} (h:Rd w g bb s):RStep w g bb s w:=⟨h,Moves.refl _ _ _⟩
theorem RStep.grow {w w1 w':World} {g:Nat} {bb:Option Nat} {s:Ws} (h:RStep w g bb s w1) (hb:Below w1.heap.size w1 w'):RStep w g bb s w':=⟨h.1.grow hb,h.2.grow hb⟩
theorem Rd.row {w:World} {g:Nat} {bb:Option Nat} {s:Ws} (h:Rd w g bb s):∃v,RowAt w g (rrow true s.1 v):=by
 obtain⟨p,c,h,_⟩:=h;exact⟨_,h⟩
theorem RStep.err {w:World} {g:Nat} {bb:Option Nat} {s:Ws} (h:Rd w g bb s) (er:Int):RStep w g bb (er,s.2) (w.setCell ⟨g,1,none⟩ (.int .i64 er)):=by
 have hl:=h.lt
 obtain⟨p,c,hr,hb,h5,h6,h7,h8,h9⟩:=h
 rw[Za8 hr]
 have m:=Moves.setRow (Moves.refl w g none) ((rrow true s.1 (.slice p s.2.length c)).setIfInBounds 1 (.int .i64 er))
 exact⟨⟨p,c,hr.set _,hb.moves m h7 (fun _ _ e=>by cases e),h5,h6,h7,h8,fun k hk=>Nat.lt_of_lt_of_le (h9 k hk) m.size⟩,m⟩
theorem RStep.put {w:World} {g:Nat} {bb:Option Nat} {s:Ws} {l:List Nat} {p:Option Addr} {c:Nat} (h:Rd w g bb s) (hb:RB w bb p l) (hp:p=none→c=0) (hc:l.length≤c) (hl:l.length≤65536) :
  RStep w g bb (s.1,l) (w.setCell ⟨g,2,none⟩ (.slice p l.length c)):=by
 obtain⟨p0,c0,hr,hb0,h5,h6,h7,h8,h9⟩:=h
 rw[Za8 hr]
 have m:=Moves.setRow (Moves.refl w g none) ((rrow true s.1 (.slice p0 s.2.length c0)).setIfInBounds 2 (.slice p l.length c))
 exact⟨⟨p,c,hr.set _,hb.moves m h7 (fun _ _ e=>by cases e),hp,hc,h7,hl,fun k hk=>Nat.lt_of_lt_of_le (h9 k hk) m.size⟩,m⟩
theorem Zr3 (w:World):(slB (.slice none 0 0) (some (.int .i64 ((0:Nat):Int))) none none).run Tryz.prog w=.ok (.slice none 0 0) w:=by
 unfold slB
 rw[run_sliceAt_slice _ _ _ _ _ _ ZeY,run_slice_l _ _ _ _ _ ZeY _ _ (by omega) (by omega),Zld]
 simp[sliced,Result.andThen]
set_option maxHeartbeats 600000 in
set_option maxRecDepth 100000 in
theorem Zjb (p:Option Addr) (l:List Nat) (n cap:Nat) (w:World) (hn:n=l.length) (hl:l.length≤65536) (hB:Bs0 w p l) (hp:p=none→cap=0) :
  Calls Tryz.prog 81 #[.slice p n cap] w fun e w'=>∃ g bb,e=.returned (.pointer (some ⟨g,0,none⟩))∧Rd w' g bb (0,l)∧w.heap.size≤g∧(∀ k,bb=some k→w.heap.size≤k)∧Below w.heap.size w w':=by
 have h1:¬(65536:Int)<(n:Int):=by omega
 have KC:=Lib.hid (ZiO p l n cap w hn hB hp (by omega))
 have HL:=Lib.hid hl
 clear hl hB hp hn
 go_enter Tryz.func81,Tryz.ntmps81
 go_wp2_with fail
 refine KC.out.mono ?_
 rintro e w1 ⟨v,rfl,ho,hb1⟩
 have HO:=Lib.hid ho
 have HB:=Lib.hid hb1
 obtain⟨p1,c1,rfl,_,hc1,hp1⟩:=ho.bs
 have HC:=Lib.hid hc1
 have HP:=Lib.hid hp1
 have HE:=Lib.hid (Eq.refl l.length)
 clear ho hb1 hc1 hp1
 generalize hk:l.length=k at *
 have Hk:=Lib.hid hk
 clear hk
 go_wp2_with fail
 go_ret
 refine⟨_,(Value.slice p1 k c1).ownBlock,rfl,?_,HB.out.size,fun k' hk'=>(World.ownsRow.lt HO.out k' hk').1,(HB.out).trans ((Zab (Below.refl w1.heap.size w1) _).mono HB.out.size)⟩
 have hlt:=World.ownsRow.lt HO.out
 refine⟨p1,c1,by simp only[Hk.out];exact RowAt.of (Zas w1 _),?_,HP.out,by simp only[Hk.out];exact HC.out,fun e=>by have:=(hlt _ e).2;omega,by simp only[Hk.out];exact HL.out,fun k' hk'=>Nat.lt_of_lt_of_le (hlt k' hk').2 (by simp)⟩
 rcases HO.out.2 with ⟨hv,h0⟩ | ⟨gx,cap,cur,hv,_⟩
 ·cases hv
  exact .inl ⟨rfl,List.length_eq_zero_iff.1 h0⟩
 ·cases hv
  exact .inr ⟨gx,0,rfl,rfl,(OwnB.bytes HO.out (hlt gx rfl).2).grow (Zab (Below.refl _ _) _)⟩
end Go.Proofs.YtddmjddlbhdcpaaGreatDoor
namespace Go.Proofs.YtddmjddlbhdcpaaGreatDoor
open Go.RowKit Go.Hold Go.Sh Go.Oc
def tkL (l:List Nat) (n:Nat):List Nat:=if l.length<n then [] else l.take n
theorem Rd.stop {w:World} {g:Nat} {bb:Option Nat} {s:Ws} (h:Rd w g bb s) :
  Calls Tryz.prog 110 #[.pointer (some ⟨g,0,none⟩)] w fun e w'=>e=.returned (.int .i64 s.1)∧w'=w:=by
 obtain⟨v,hr⟩:=h.row
 exact Zk3 g true s.1 w (hr.cellAt 0 rfl) (hr.cellAt 1 rfl)
theorem RB.drop {w:World} {bb:Option Nat} {b o n cap:Nat} {l:List Nat} (h:RB w bb (some ⟨b,o,none⟩) l) (hc:l.length≤cap):RB w bb (some ⟨b,adv o n cap,none⟩) (l.drop n):=by
 rcases h with ⟨h,_⟩ | ⟨b',o',e1,e2,h⟩
 ·cases h
 ·cases e2
  exact .inr ⟨b,_,e1,rfl,h.adv hc⟩
set_option maxHeartbeats 600000 in
set_option maxRecDepth 100000 in
theorem ZmJ (g:Nat) (bb:Option Nat) (l:List Nat) (n:Nat) (w:World) (h:Rd w g bb (0,l)) :
  Calls Tryz.prog 112 #[.pointer (some ⟨g,0,none⟩),.int .i64 (n:Int)] w fun e w'=>∃ p c,e=.returned (.tuple #[.slice p (tkL l n).length c,.int .i64 (takS (0,l) n).1])∧Bs0 w' p (tkL l n)∧(p=none→c=0)∧RStep w g bb (takS (0,l) n) w':=by
 have H:=Lib.hid h
 obtain⟨p,c,hr,hb,hpc,hlc,hap,hle,hbl⟩:=h
 simp only at hr hb hlc hle
 have hc1:=hr.cellAt 1 (show (rrow true 0 (.slice p l.length c))[1]?=some (.int .i64 0) from rfl)
 have hc2:=hr.cellAt 2 (show (rrow true 0 (.slice p l.length c))[2]?=some (.slice p l.length c) from rfl)
 have hf1:=hr.frozenAt 1
 have hf2:=hr.frozenAt 2
 have hgl:=hr.2.2
 obtain⟨k,ek⟩:∃k,k=l.length:=⟨_,rfl⟩
 by_cases hs:l.length<n
 ·have e1:tkL l n=[]:=by unfold tkL;rw[if_pos hs]
  have e2:takS (0,l) n=(4,l):=by unfold takS;rw[if_pos hs]
  rw[e1,e2]
  have h1:(k:Int)<(n:Int):=by omega
  have KF:=Lib.hid (ZgF g 4 0 w hc1 hf1)
  have HE:=Lib.hid (RStep.err H.out 4)
  rw[←ek] at hc2
  clear hr hb hpc hlc hap hle hbl hs e1 e2 hc1 hf1 hf2 ek
  go_enter Tryz.func112,Tryz.ntmps112
  go_wp2_with fail
  refine KF.out.mono ?_
  rintro e w' ⟨rfl,rfl⟩
  go_wp2_with fail
  refine bodyPost_ret (v:=.tuple #[.slice none 0 0,.int .i64 4]) (results_tmp2 Tryz.results112 _ _ _) rfl ⟨none,0,rfl,.inl rfl,fun _=>rfl,HE.out⟩
 ·have e1:tkL l n=l.take n:=by unfold tkL;rw[if_neg hs]
  have e2:takS (0,l) n=(0,l.drop n):=by unfold takS;rw[if_neg hs]
  rw[e1,e2]
  have h1:¬(k:Int)<(n:Int):=by omega
  have hlen:(l.take n).length=n:=by rw[List.length_take];omega
  have hh:=Zl1 p k c n (by omega)
  have hbt:=hb.any.take n
  have hld:(l.drop n).length=k-n:=by rw[List.length_drop,ek]
  have hc64:c≤c:=Nat.le_refl _
  rcases hb with ⟨rfl,rfl⟩ | ⟨b,o,rfl,rfl,hb⟩
  ·obtain rfl:=hpc rfl
   obtain rfl:n=0:=by simp at hs;exact hs
   obtain rfl:k=0:=by rw[ek];rfl
   have hlo:=Zr3
   have HE:=Lib.hid (RStep.put H.out (.inl ⟨rfl,rfl⟩) (fun _=>rfl) (Nat.le_refl _) (by simp):RStep w g bb (0,[]) _)
   clear hr hpc hlc hap hle hbl hs e1 e2 hc1 hf1 ek hlen hld hbt
   simp only[List.length_nil,List.take_nil,List.drop_nil] at *
   rw[show ((0:Nat):Int)=0 from rfl] at *
   go_enter Tryz.func112,Tryz.ntmps112
   go_wp2_with fail
   refine bodyPost_ret (v:=.tuple #[.slice none 0 0,.int .i64 0]) (results_tmp2 Tryz.results112 _ _ _) rfl ⟨none,0,rfl,.inl rfl,fun _=>rfl,HE.out⟩
  ·have hlo:=ZhZ b o k c n (by omega)
   have hrb:RB w (some b) (some ⟨b,adv o n c,none⟩) (l.drop n):=RB.drop (.inr ⟨b,o,rfl,rfl,hb⟩) hlc
   have HE0:RStep w g (some b) (0,l.drop n) _:=RStep.put (c:=c-n) H.out hrb (fun e=>by cases e) (by omega) (by omega)
   have HBt:=Lib.hid (show Bs0 (w.setCell ⟨g,2,none⟩ (.slice (some ⟨b,adv o n c,none⟩) (l.drop n).length (c-n))) (some ⟨b,o,none⟩) (l.take n) from
    hbt.moves (Moves.setCell (Moves.refl w g none) 2 _) (fun b' o' e=>by cases e;exact⟨fun e=>hap (by rw[e]),fun e=>by cases e⟩))
   rw[hld] at HE0 HBt
   have HE:=Lib.hid HE0
   rw[←ek] at hc2
   clear hr hpc hlc hap hle hbl hs e1 e2 hc1 hf1 ek hrb hld hbt hb HE0
   generalize l.take n=t at *
   subst hlen
   go_enter Tryz.func112,Tryz.ntmps112
   go_wp2_with fail
   refine bodyPost_ret (v:=.tuple #[.slice (some ⟨b,o,none⟩) t.length c,.int .i64 0]) (results_tmp2 Tryz.results112 _ _ _) rfl ⟨_,_,rfl,HBt.out,(fun e=>by cases e),HE.out⟩
set_option maxHeartbeats 600000 in
set_option maxRecDepth 100000 in
theorem Zow (p:Option Addr) (l:List Nat) (n cap:Nat) (w:World) (hn:n=l.length) (hl:l.length≤8) (hB:Bs0 w p l) (hlb:∀i,l.getD i 0<256) :
  Calls Tryz.prog 113 #[.slice p n cap] w fun e w'=>e=.returned (.int .u64 (Zcy l:Int))∧w'=w:=by
 have HB:=Lib.hid hB
 have Hn:=Lib.hid hn
 have HL:=Lib.hid hl
 have HLb:=Lib.hid hlb
 clear hB hn hl hlb
 go_enter Tryz.func113,Tryz.ntmps113
 go_wp2_with fail
 go_loopw [3,8] (fun z i wr=>∃ j:Nat,j≤n∧i=.int .i64 j∧z=.int .u64 (Zcy (l.take j):Int)∧wr=w) (fun _ i _=>n-(intOf i).toNat)
 case atStart=>exact⟨0,Nat.zero_le _,rfl,rfl,rfl⟩
 case round =>
  obtain⟨j,hj,rfl,rfl,hwr⟩:=hrel
  subst hwr
  by_cases hjn:j<n
  ·have hj0:(0:Int)≤(j:Int):=by omega
   have hj1:(j:Int)<(n:Int):=by omega
   have hjb:(j:Int)<8:=by have:=HL.out;have:=Hn.out;omega
   have hjl:j<l.length:=by rw[←Hn.out];exact hjn
   obtain⟨b,o,hp,hby⟩:∃b o,p=some ⟨b,o,none⟩∧BytesAt wr b o l:=by
    rcases HB.out with rfl | h
    ·simp at hjl
    ·exact h
   subst hp
   have hcj:=hby.2 j hjl
   have hx:=HLb.out j
   have ht:l.take (j+1)=l.take j++[l.getD j 0]:=by rw[List.take_add_one,List.getElem?_eq_getElem hjl];simp[List.getD,hjl]
   obtain⟨x,ex⟩:∃x,x=l.getD j 0:=⟨_,rfl⟩
   rw[←ex] at hcj hx ht
   have hjs:Zcy (l.take (j+1))=Zcy (l.take j)*256+x:=by rw[ht,ZmW]
   have hlt:=Zsm (l.take (j+1)) (Zbh HLb.out _)
   have hpow:(2:Nat)^(8*(l.take (j+1)).length)≤18446744073709551616:=by
    rw[show (18446744073709551616:Nat)=2^64 from rfl]
    refine Nat.pow_le_pow_right (by decide) ?_
    rw[List.length_take];have:=HL.out;omega
   obtain⟨a2,ea2⟩:∃a,a=Zcy (l.take (j+1)):=⟨_,rfl⟩
   obtain⟨a,ea⟩:∃a,a=Zcy (l.take j):=⟨_,rfl⟩
   rw[←ea2,←ea] at hjs
   rw[←ea2] at hlt
   rw[←ea]
   obtain⟨y,ey⟩:∃y,y=a*256:=⟨_,rfl⟩
   have hsh:IntKind.u64.wrap ((a:Int)*256)=(y:Int):=by rw[IntWalk.u64_in _ (by omega)];omega
   have hcx:IntKind.u64.wrap (x:Int)=(x:Int):=IntWalk.u64_in _ (by omega)
   have hor:bits .or .u64 (y:Int) (x:Int)=(a2:Int):=by rw[bits_or_u64_nat y x (by omega) (by omega),ey,Go.Oc.or_add a x hx,hjs]
   have Ea2:=Lib.hid ea2
   clear hby hx ht ex hjs hlt hpow ea2 ea ey hjl
   go_wp2_with fail
   go_roundw
   case rel=>exact⟨j+1,by omega,by go_num,by rw[←Ea2.out],by first | trivial | rfl⟩
   case measure=>simp[intOf];omega
  ·obtain rfl:j=n:=by omega
   have hall:l.take j=l:=List.take_of_length_le (by rw[←Hn.out];exact Nat.le_refl _)
   rw[hall]
   clear hall
   go_wp2_with fail
   go_ret
   exact⟨rfl,rfl⟩
def ZkZ (w:World) (v:Value) (er:Int):Prop:=Calls Tryz.prog 110 #[v] w fun e w'=>e=.returned (.int .i64 er)∧w'=w
theorem Zll (po:Option Addr) (er:Int) (her:¬er=0) (a:Value) (w:World) (h:ZkZ w (.pointer po) er):Calls Tryz.prog 82 #[.pointer po,a] w fun e w'=>e=.returned (.tuple #[.int .u64 0,.int .i64 er])∧w'=w:=by
 have HS:=Lib.hid h
 unfold ZkZ at HS
 clear h
 go_enter Tryz.func82,Tryz.ntmps82
 go_wp2_with fail
 refine HS.out.mono ?_
 rintro e w' ⟨rfl,rfl⟩
 go_wp2_with fail
 refine bodyPost_ret (v:=.tuple #[.int .u64 0,.int .i64 er]) (results_tmp2 Tryz.results82 _ _ _) rfl ⟨rfl,rfl⟩
theorem Zh0 (po:Option Addr) (er:Int) (her:¬er=0) (a:Value) (w:World) (h:ZkZ w (.pointer po) er):Calls Tryz.prog 83 #[.pointer po,a] w fun e w'=>e=.returned (.tuple #[.slice none 0 0,.int .i64 er])∧w'=w:=by
 have HS:=Lib.hid h
 unfold ZkZ at HS
 clear h
 go_enter Tryz.func83,Tryz.ntmps83
 go_wp2_with fail
 refine HS.out.mono ?_
 rintro e w' ⟨rfl,rfl⟩
 go_wp2_with fail
 refine bodyPost_ret (v:=.tuple #[.slice none 0 0,.int .i64 er]) (results_tmp2 Tryz.results83 _ _ _) rfl ⟨rfl,rfl⟩
theorem ZiG (po:Option Addr) (er:Int) (her:¬er=0) (w:World) (h:ZkZ w (.pointer po) er):Calls Tryz.prog 84 #[.pointer po] w fun e w'=>e=.returned (.bool false)∧w'=w:=by
 have HS:=Lib.hid h
 unfold ZkZ at HS
 have h2:(er != 0)=true:=by simpa using her
 clear h
 go_enter Tryz.func84,Tryz.ntmps84
 go_wp2_with fail
 refine HS.out.mono ?_
 rintro e w' ⟨rfl,rfl⟩
 go_wp2_with fail
 go_ret
 exact⟨rfl,rfl⟩
set_option maxHeartbeats 1000000 in
set_option maxRecDepth 100000 in
theorem ZsN (g:Nat) (bb:Option Nat) (s:Ws) (sz:Int) (w:World) (h:Rd w g bb s) (hb:∀i,s.2.getD i 0<256) :
  Calls Tryz.prog 82 #[.pointer (some ⟨g,0,none⟩),.int .i64 sz] w fun e w'=>e=.returned (.tuple #[.int .u64 (Zhp s sz:Int),.int .i64 (ZhB s sz).1])∧RStep w g bb (ZhB s sz) w':=by
 have HS:=Lib.hid h.stop
 obtain⟨er,l⟩:=s
 by_cases her:er=0
 ·subst her
  have hs:ZhB (0,l) sz=if ¬(1≤sz∧sz≤8) then (2,l) else takS (0,l) sz.toNat:=by unfold ZhB;rw[if_neg (by simp)]
  rw[hs]
  by_cases h18:1≤sz∧sz≤8
  ·rw[if_neg (by simpa using h18)]
   obtain⟨z,rfl⟩:∃z:Nat,sz=(z:Int):=⟨sz.toNat,by omega⟩
   rw[Int.toNat_natCast]
   have KT:=Lib.hid (ZmJ g bb l z w h)
   have hv:Zhp (0,l) (z:Int)=Zcy (tkL l z):=by
    unfold Zhp tkL
    simp only[Int.toNat_natCast]
    by_cases hx:l.length<z
    ·rw[if_neg (by omega),if_pos hx];rfl
    ·rw[if_pos ⟨by simp,h18,by omega⟩,if_neg hx]
   rw[hv]
   have HT:=Lib.hid (show (tkL l z).length≤8∧∀ i,(tkL l z).getD i 0<256 by
    unfold tkL;split
    ·exact⟨by simp,fun i=>by simp⟩
    ·exact⟨by rw[List.length_take];omega,Zbh hb _⟩)
   have h1:¬(z:Int)<1:=by omega
   have h8:¬(8:Int)<(z:Int):=by omega
   obtain⟨x,ex⟩:∃x,x=Zcy (tkL l z):=⟨_,rfl⟩
   rw[←ex]
   have Ex:=Lib.hid ex
   clear hs h hb hv h18 ex
   go_enter Tryz.func82,Tryz.ntmps82
   go_wp2_with fail
   refine HS.out.mono ?_
   rintro e w' ⟨rfl,rfl⟩
   go_wp2_with fail
   refine KT.out.mono ?_
   rintro e w1 ⟨p,c,rfl,hb1,_,hst⟩
   have KJ:=Lib.hid (Zow p (tkL l z) (tkL l z).length c w1 rfl HT.out.1 hb1 HT.out.2)
   have HR:=Lib.hid hst
   clear hb1 hst KT
   rw[←Ex.out] at KJ
   generalize (tkL l z).length=k at *
   go_wp2_with fail
   refine KJ.out.mono ?_
   rintro e w' ⟨rfl,rfl⟩
   go_wp2_with fail
   refine bodyPost_ret (v:=.tuple #[.int .u64 (x:Int),.int .i64 (takS (0,l) z).1]) (results_tmp2 Tryz.results82 _ _ _) rfl ⟨rfl,HR.out⟩
  ·rw[if_pos h18]
   have hv:Zhp (0,l) sz=0:=by unfold Zhp;rw[if_neg (fun e=>h18 e.2.1)]
   rw[hv]
   obtain⟨v,hr⟩:=h.row
   have KF:=Lib.hid (ZgF g 2 0 w (hr.cellAt 1 rfl) (hr.frozenAt 1))
   have HE:=Lib.hid (RStep.err h 2)
   clear hs h hb hv hr
   by_cases h1:sz<1
   ·clear h18
    go_enter Tryz.func82,Tryz.ntmps82
    go_wp2_with fail
    refine HS.out.mono ?_
    rintro e w' ⟨rfl,rfl⟩
    go_wp2_with fail
    refine KF.out.mono ?_
    rintro e w' ⟨rfl,rfl⟩
    go_wp2_with fail
    refine bodyPost_ret (v:=.tuple #[.int .u64 0,.int .i64 2]) (results_tmp2 Tryz.results82 _ _ _) rfl ⟨rfl,HE.out⟩
   ·have h8:(8:Int)<sz:=by omega
    clear h18
    go_enter Tryz.func82,Tryz.ntmps82
    go_wp2_with fail
    refine HS.out.mono ?_
    rintro e w' ⟨rfl,rfl⟩
    go_wp2_with fail
    refine KF.out.mono ?_
    rintro e w' ⟨rfl,rfl⟩
    go_wp2_with fail
    refine bodyPost_ret (v:=.tuple #[.int .u64 0,.int .i64 2]) (results_tmp2 Tryz.results82 _ _ _) rfl ⟨rfl,HE.out⟩
 ·have hs:ZhB (er,l) sz=(er,l):=by unfold ZhB;rw[if_pos her]
  have hv:Zhp (er,l) sz=0:=by unfold Zhp;rw[if_neg (fun e=>her e.1)]
  rw[hs,hv]
  refine(Zll _ er her _ w HS.out).mono ?_
  rintro e w' ⟨rfl,rfl⟩
  exact⟨rfl,RStep.refl h⟩
set_option maxHeartbeats 1000000 in
set_option maxRecDepth 100000 in
theorem Znz (g:Nat) (bb:Option Nat) (s:Ws) (n:Int) (w:World) (h:Rd w g bb s) :
  Calls Tryz.prog 83 #[.pointer (some ⟨g,0,none⟩),.int .i64 n] w fun e w'=>∃ v,e=.returned (.tuple #[v,.int .i64 (ZhI s n).1])∧OwnB w' w.heap.size v (Zhr s n)∧RStep w g bb (ZhI s n) w':=by
 have HS:=Lib.hid h.stop
 obtain⟨er,l⟩:=s
 by_cases her:er=0
 ·subst her
  have hs:ZhI (0,l) n=if n<0 then (2,l) else takS (0,l) n.toNat:=by unfold ZhI;rw[if_neg (by simp)]
  rw[hs]
  by_cases h0:n<0
  ·rw[if_pos h0]
   have hv:Zhr (0,l) n=[]:=by unfold Zhr;rw[if_neg (fun e=>by have:=e.2.1;omega)]
   rw[hv]
   obtain⟨v,hr⟩:=h.row
   have KF:=Lib.hid (ZgF g 2 0 w (hr.cellAt 1 rfl) (hr.frozenAt 1))
   have HE:=Lib.hid (RStep.err h 2)
   clear hs h hv hr
   go_enter Tryz.func83,Tryz.ntmps83
   go_wp2_with fail
   refine HS.out.mono ?_
   rintro e w' ⟨rfl,rfl⟩
   go_wp2_with fail
   refine KF.out.mono ?_
   rintro e w' ⟨rfl,rfl⟩
   go_wp2_with fail
   refine bodyPost_ret (v:=.tuple #[.slice none 0 0,.int .i64 2]) (results_tmp2 Tryz.results83 _ _ _) rfl ⟨_,rfl,Zbo _ _,HE.out⟩
  ·rw[if_neg h0]
   obtain⟨z,rfl⟩:∃z:Nat,n=(z:Int):=⟨n.toNat,by omega⟩
   rw[Int.toNat_natCast]
   have KT:=Lib.hid (ZmJ g bb l z w h)
   have hv:Zhr (0,l) (z:Int)=tkL l z:=by
    unfold Zhr tkL
    simp only[Int.toNat_natCast]
    by_cases hx:l.length<z
    ·rw[if_neg (by omega),if_pos hx]
    ·rw[if_pos ⟨by simp,by omega,by omega⟩,if_neg hx]
   rw[hv]
   have HT:=Lib.hid (show (tkL l z).length≤16000000 by
    have:=h.le
    simp only at this
    unfold tkL;split
    ·simp
    ·rw[List.length_take];omega)
   clear hs h hv
   go_enter Tryz.func83,Tryz.ntmps83
   go_wp2_with fail
   refine HS.out.mono ?_
   rintro e w' ⟨rfl,rfl⟩
   go_wp2_with fail
   refine KT.out.mono ?_
   rintro e w1 ⟨p,c,rfl,hb1,hp1,hst⟩
   have KJ:=Lib.hid (ZiO p (tkL l z) (tkL l z).length c w1 rfl hb1 hp1 HT.out)
   have HR:=Lib.hid hst
   clear hb1 hp1 hst KT
   generalize (tkL l z).length=k at *
   go_wp2_with fail
   refine KJ.out.mono ?_
   rintro e w2 ⟨v2,rfl,ho2,hb2⟩
   have HO:=Lib.hid ho2
   have HB:=Lib.hid hb2
   clear ho2 hb2
   go_wp2_with fail
   refine bodyPost_ret (v:=.tuple #[v2,.int .i64 (takS (0,l) z).1]) (results_tmp2 Tryz.results83 _ _ _) rfl ⟨_,rfl,HO.out.base HR.out.2.size,HR.out.grow HB.out⟩
 ·have hs:ZhI (er,l) n=(er,l):=by unfold ZhI;rw[if_pos her]
  have hv:Zhr (er,l) n=[]:=by unfold Zhr;rw[if_neg (fun e=>her e.1)]
  rw[hs,hv]
  refine(Zh0 _ er her _ w HS.out).mono ?_
  rintro e w' ⟨rfl,rfl⟩
  exact⟨_,rfl,Zbo _ _,RStep.refl h⟩
theorem ZlQ (l:List Nat) (k:Nat) (h:∀i,i<k→l.getD i 0=0) (hk:l.length≤k):l.all (·==0)=true:=by
 rw[List.all_eq_true]
 intro x hx
 obtain⟨i,hi,rfl⟩:=List.getElem_of_mem hx
 have:=h i (by omega)
 simpa [List.getD,hi] using this
theorem Zoy (l:List Nat) (k:Nat) (hk:k<l.length) (h:l.getD k 0≠0):l.all (·==0)=false:=by
 rw[List.all_eq_false]
 refine⟨l[k],List.getElem_mem hk,?_⟩
 simpa [List.getD,hk] using h
set_option maxHeartbeats 1000000 in
set_option maxRecDepth 100000 in
theorem ZoI (g:Nat) (bb:Option Nat) (s:Ws) (w:World) (h:Rd w g bb s) :
  Calls Tryz.prog 84 #[.pointer (some ⟨g,0,none⟩)] w fun e w'=>e=.returned (.bool (Zle s))∧w'=w:=by
 have HS:=Lib.hid h.stop
 obtain⟨er,l⟩:=s
 by_cases her:er=0
 ·subst her
  have hs:Zle (0,l)=l.all (·==0):=by unfold Zle;simp
  rw[hs]
  have hle:=h.le
  obtain⟨p,c,hr,hb,_⟩:=h
  simp only at hr hb hle
  have hc2:=hr.cellAt 2 (show (rrow true 0 (.slice p l.length c))[2]?=some (.slice p l.length c) from rfl)
  have hgl:=hr.2.2
  have HB:=Lib.hid hb.any
  clear hs hr hb
  obtain⟨n,en⟩:∃n,n=l.length:=⟨_,rfl⟩
  have hnb:(n:Int)≤65536:=by omega
  have Hn:=Lib.hid en
  rw[←en] at hc2
  clear en hle
  go_enter Tryz.func84,Tryz.ntmps84
  go_wp2_with fail
  refine HS.out.mono ?_
  rintro e w' ⟨rfl,rfl⟩
  go_wp2_with fail
  go_loopw [13] (fun i wr=>∃ j:Nat,j≤n∧i=.int .i64 j∧(∀ i,i<j→l.getD i 0=0)∧wr=w') (fun i _=>n-(intOf i).toNat)
  case atStart=>exact⟨0,Nat.zero_le _,rfl,fun i hi=>absurd hi (by omega),rfl⟩
  case round =>
   obtain⟨j,hj,rfl,hz,hwr⟩:=hrel
   subst hwr
   have HZ:=Lib.hid hz
   clear hz
   by_cases hjn:j<n
   ·have hj0:(0:Int)≤(j:Int):=by omega
    have hj1:(j:Int)<(n:Int):=by omega
    have hjb:(j:Int)<65536:=by omega
    have hjl:j<l.length:=by rw[←Hn.out];exact hjn
    obtain⟨b,o,hp,hby⟩:∃b o,p=some ⟨b,o,none⟩∧BytesAt wr b o l:=by
     rcases HB.out with rfl | h
     ·simp at hjl
     ·exact h
    subst hp
    have hcj:=hby.2 j hjl
    have HJ:=Lib.hid hjl
    obtain⟨x,ex⟩:∃x,x=l.getD j 0:=⟨_,rfl⟩
    rw[←ex] at hcj
    have Ex:=Lib.hid ex
    clear hby hjl ex
    by_cases hx:x=0
    ·subst hx
     go_wp2_with fail
     go_roundw
     case rel=>exact⟨j+1,by omega,by go_num,fun i hi=>by
      by_cases e:i=j
      ·subst e;exact Ex.out.symm
      ·exact HZ.out i (by omega),by first | trivial | rfl⟩
     case measure=>simp[intOf];omega
    ·have hx':((x:Int) != 0)=true:=by simpa using hx
     have HF:=Lib.hid (Zoy l j HJ.out (by rw[←Ex.out];exact hx))
     clear hx
     go_wp2_with fail
     go_ret
     exact⟨by rw[HF.out];rfl,rfl⟩
   ·obtain rfl:j=n:=by omega
    have HF:=Lib.hid (ZlQ l j HZ.out (by rw[←Hn.out];exact Nat.le_refl _))
    go_wp2_with fail
    go_ret
    exact⟨by rw[HF.out];rfl,rfl⟩
 ·have hs:Zle (er,l)=false:=by unfold Zle;simp[her]
  rw[hs]
  exact ZiG _ er her w HS.out
theorem Zi0 {W0 w:World} {g:Nat} {bb:Option Nat} {l:List Nat} (h:Rd w g bb (0,l)) (hl:∀i,l.getD i 0<256) (hg:W0.heap.size≤g) (hb:Below W0.heap.size W0 w) (sz:Nat) (h1:1≤sz) (h8:sz≤8) (hr:sz≤l.length) :
  Calls Tryz.prog 82 #[.pointer (some ⟨g,0,none⟩),.int .i64 (sz:Int)] w fun e w'=>e=.returned (.tuple #[.int .u64 (Zcy (l.take sz):Int),.int .i64 0])∧Rd w' g bb (0,l.drop sz)∧Below W0.heap.size W0 w':=by
 refine(ZsN g bb (0,l) (sz:Int) w h hl).mono ?_
 rintro e w' ⟨rfl,h2,hm⟩
 rw[ZoX h1 h8 hr] at h2 ⊢
 rw[ZoH h1 h8 hr]
 exact⟨rfl,h2,hm.below hb hb.size hg (fun _ e=>by cases e)⟩
theorem Znv {W0 w:World} {g:Nat} {bb:Option Nat} {l:List Nat} (h:Rd w g bb (0,l)) (hg:W0.heap.size≤g) (hb:Below W0.heap.size W0 w) (n:Nat) (hr:n≤l.length) :
  Calls Tryz.prog 83 #[.pointer (some ⟨g,0,none⟩),.int .i64 (n:Int)] w fun e w'=>∃ v,e=.returned (.tuple #[v,.int .i64 0])∧OwnB w' w.heap.size v (l.take n)∧Rd w' g bb (0,l.drop n)∧Below W0.heap.size W0 w':=by
 refine(Znz g bb (0,l) (n:Int) w h).mono ?_
 rintro e w' ⟨v,rfl,ho,h2,hm⟩
 rw[Zpn hr] at h2 ⊢
 rw[ZnM hr] at ho
 exact⟨v,rfl,ho,h2,hm.below hb hb.size hg (fun _ e=>by cases e)⟩
theorem Zob {w:World} {g:Nat} {bb:Option Nat} {l:List Nat} (h:Rd w g bb (0,l)) :
  Calls Tryz.prog 84 #[.pointer (some ⟨g,0,none⟩)] w fun e w'=>e=.returned (.bool (l.all (·==0)))∧w'=w:=by
 refine(ZoI g bb (0,l) w h).mono ?_
 rintro e w' ⟨rfl,hw⟩
 exact⟨by simp[Zle],hw⟩
end Go.Proofs.YtddmjddlbhdcpaaGreatDoor
namespace Go.Cm
open Go Go.Sh Go.Oc
theorem ZqX {l:List Nat} (h:1≤l.length):Zcy (l.take 1)=l.getD 0 0:=by
 match l,h with
 | x::_,_=>simp[Zcy]
theorem Zt6 {l:List Nat} (h:2≤l.length):Zcy (l.take 2)=l.getD 0 0*256+l.getD 1 0:=by
 match l,h with
 | x::y::_,_=>simp[Zcy]
theorem ZfR (l:List Nat) (i j:Nat):(l.drop i).getD j 0=l.getD (i+j) 0:=by simp[List.getD,List.getElem?_drop]
end Go.Cm
namespace Go.Proofs.YtddmjddlbhdcpaaGreatDoor
open Go.RowKit Go.Hold Go.Sh Go.Oc Go.Cm
theorem Zrm (c:Cmd) (hc:c.id.length=8) (m:List Nat) (hm:m.length=8):setL (cmdA c) 3 (bys m)=cmdA ⟨c.k,c.n,c.d,m⟩:=by
 apply Array.ext_getElem?
 intro i
 rw[ZcE,Zay,hm,Zax hc]
 by_cases h:3≤i∧i<3+8∧i<11
 ·rw[if_pos h]
  obtain⟨j,rfl⟩:∃j,i=3+j:=⟨i-3,by omega⟩
  rw[Zen ⟨c.k,c.n,c.d,m⟩ j (by simp only[hm];omega),Nat.add_sub_cancel_left]
  simp only[bys,List.getElem?_map,List.getD]
  rw[List.getElem?_eq_getElem (by omega)];rfl
 ·rw[if_neg h]
  by_cases h3:i<3
  ·match i,h3 with
   | 0,_=>rw[ZeH,ZeH]
   | 1,_=>rw[Zfn,Zfn]
   | 2,_=>rw[ZfG,ZfG]
  ·rw[Array.getElem?_eq_none (by rw[Zax hc];omega),Array.getElem?_eq_none (by rw[Zax (c:=⟨c.k,c.n,c.d,m⟩) hm];omega)]
theorem Zsa {W:World} {g cap:Nat} {p:Option Addr} {c:Cmd} {m:List Nat} (h:RowAt W g (cmdA c)) (hc:c.id.length=8) (hm:m.length=8) (hB:Bs0 W p m) :
  (Builtin.copy_ #[38,38] 3 #[.slice (some ⟨g,3,none⟩) 8 8,.slice p 8 cap]).run Tryz.prog W=.ok (.int .i64 8) (W.setRow g (cmdA ⟨c.k,c.n,c.d,m⟩)):=by
 rcases hB with rfl | ⟨b,o,rfl,hB⟩
 ·cases hm
 ·have hl:(bys m).length=8:=by rw[Zay];exact hm
  have hi:(Tryz.prog.info? 5).map (·.size)=some 1:=by kernel_rfl
  have:=run_copy_cells (P:=Tryz.prog) W 38 38 3 5 g 3 8 8 ⟨b,o,none⟩ 8 cap (bys m) Tryz.underlying38 hi (by rw[hl];decide)
   (fun j v hv=>by
    have hj:j<8:=by have:=(List.getElem?_eq_some_iff.1 hv).1;omega
    rw[Addr.add_mid,hB.2 j (by omega),←hv]
    simp only[bys,List.getElem?_map,List.getD]
    rw[List.getElem?_eq_getElem (by omega)];rfl)
   (fun j hj=>by rw[h.cellAt (3+j) (Array.getElem?_eq_getElem (by rw[Zax hc];omega))];rfl)
   (fun j _=>h.frozenAt _) (Zc7 _)
  rw[this,hl,ZbL _ _ h,Zrm c hc m hm]
  rfl
set_option maxHeartbeats 1000000 in
set_option maxRecDepth 100000 in
theorem ZoP (b:List Nat) (hb:b.length=16) (hbb:∀i,b.getD i 0<256) (w:World) :
  Calls Tryz.prog 47 #[.agg (bysA b)] w fun e w'=>e=.returned (.tuple #[.agg (cmdA (decV b)),.int .i64 (decE b)])∧Below w.heap.size w w':=by
 have hzs:(cmdA .zero).size=11:=Zax rfl
 obtain⟨x0,e0⟩:∃x,x=b.getD 0 0:=⟨_,rfl⟩
 obtain⟨x1,e1⟩:∃x,x=b.getD 1 0:=⟨_,rfl⟩
 obtain⟨x2,e2⟩:∃x,x=b.getD 2 0*256+b.getD 3 0:=⟨_,rfl⟩
 obtain⟨m,em⟩:∃m,m=(b.drop 4).take 8:=⟨_,rfl⟩
 obtain⟨dn,ed⟩:∃d,d=(b.drop 12).all (·==0):=⟨_,rfl⟩
 have hml:m.length=8:=by rw[em];simp[hb]
 have hC:ofB b=⟨x0,x1,x2,m⟩:=by rw[e0,e1,e2,em];rfl
 have hO:okB b=(dn&&(Cmd.mk x0 x1 x2 m).may):=by unfold okB;rw[hC,ed]
 have l0:x0<256:=by rw[e0];exact hbb 0
 have l1:x1<256:=by rw[e1];exact hbb 1
 have l2:x2<65536:=by rw[e2];have:=hbb 2;have:=hbb 3;omega
 have HJ0:=Lib.hid (show Zcy (b.take 1)=x0 by rw[ZqX (by omega),←e0])
 have HJ1:=Lib.hid (show Zcy ((b.drop 1).take 1)=x1 by rw[ZqX (by simp;omega),ZfR,←e1])
 have HJ2:=Lib.hid (show Zcy (((b.drop 1).drop 1).take 2)=x2 by rw[Zt6 (by simp;omega),List.drop_drop,ZfR,ZfR,←e2])
 have HJ3:=Lib.hid (show ((((b.drop 1).drop 1).drop 2).take 8)=m by rw[List.drop_drop,List.drop_drop,em])
 have HJ4:=Lib.hid (show (((((b.drop 1).drop 1).drop 2).drop 8).all (·==0))=dn by rw[List.drop_drop,List.drop_drop,List.drop_drop,ed])
 have u0:IntKind.i64.wrap (x0:Int)=(x0:Int):=IntWalk.i64_in _ (by omega)
 have u1:IntKind.i64.wrap (x1:Int)=(x1:Int):=IntWalk.i64_in _ (by omega)
 have u2:IntKind.i64.wrap (x2:Int)=(x2:Int):=IntWalk.i64_in _ (by omega)
 have Hb:=Lib.hid hb
 have Hbb:=Lib.hid hbb
 have hbs:(bysA b).size=16:=by rw[Zal];exact hb
 have hcz:(cmdA ⟨x0,x1,x2,zs 8⟩).size=11:=Zax rfl
 have hcm:(cmdA ⟨x0,x1,x2,m⟩).size=11:=Zax hml
 have KM:=Lib.hid (fun (W:World)=>ZnQ ⟨x0,x1,x2,m⟩ hml W)
 have Hml:=Lib.hid hml
 have HD:=Lib.hid (show decV b=(if okB b then ⟨x0,x1,x2,m⟩ else .zero) by unfold decV;rw[hC])
 have HE:=Lib.hid (show decE b=(if okB b then 0 else 5) from rfl)
 rw[hO] at HD HE
 obtain⟨mb,emb⟩:∃mb,mb=(Cmd.mk x0 x1 x2 m).may:=⟨_,rfl⟩
 rw[←emb] at HD HE KM
 rw[HD.out,HE.out]
 clear HD HE hO hC emb e0 e1 e2 em ed l0 l1 l2 hml hb hbb
 go_enter Tryz.func47,Tryz.ntmps47
 go_wp2_with fail
 generalize hW:World.alloc _ _=W0
 have R0:=Lib.hid (show RowAt W0 w.heap.size (bysA b) by rw[←hW];clear hW;exact⟨by go_simp,by go_simp,by go_simp⟩)
 have T0:=Lib.hid (show RowAt W0 (w.heap.size+1) (cmdA .zero) by rw[←hW];clear hW;exact⟨by go_simp,by go_simp;rfl,by go_simp⟩)
 have B0:=Lib.hid (show Below w.heap.size w W0 by rw[←hW];repeat (first | apply Zab | exact Below.refl _ _))
 have hz1:w.heap.size≤w.heap.size+1:=by omega
 clear hW
 generalize w.heap.size+1=t at *
 obtain⟨z,ez⟩:∃z,z=w.heap.size:=⟨_,rfl⟩
 rw[←ez] at R0 hz1 ⊢
 have Ez:=Lib.hid ez
 clear ez
 refine(Zjb (some ⟨z,0,none⟩) b 16 16 W0 Hb.out.symm (by rw[Hb.out];decide) (Bs0.some (ZaG R0.out)) (fun h=>by cases h)).mono ?_
 rintro e w1 ⟨g,bb,rfl,hr1,hg1,_,hb1⟩
 have X1:=Lib.hid hr1
 have Y1:=Lib.hid hb1
 have G1:=Lib.hid hg1
 clear hr1 hb1 hg1 R0
 go_wp2_with fail
 refine(Zi0 X1.out Hbb.out G1.out Y1.out 1 (by decide) (by decide) (by rw[Hb.out];decide)).mono ?_
 rintro e w2 ⟨rfl,hr2,hb2⟩
 rw[HJ0.out]
 have X2:=Lib.hid hr2
 have Y2:=Lib.hid hb2
 clear hr2 hb2 X1 Y1
 go_wp2_with fail
 refine(Zi0 X2.out (ZbE Hbb.out 1) G1.out Y2.out 1 (by decide) (by decide) (by simp[Hb.out])).mono ?_
 rintro e w3 ⟨rfl,hr3,hb3⟩
 rw[HJ1.out]
 have X3:=Lib.hid hr3
 have Y3:=Lib.hid hb3
 clear hr3 hb3 X2 Y2
 go_wp2_with fail
 refine(Zi0 X3.out (ZbE (ZbE Hbb.out 1) 1) G1.out Y3.out 2 (by decide) (by decide) (by simp[Hb.out])).mono ?_
 rintro e w4 ⟨rfl,hr4,hb4⟩
 rw[HJ2.out]
 have X4:=Lib.hid hr4
 have Y4:=Lib.hid hb4
 clear hr4 hb4 X3 Y3
 go_wp2_with fail
 refine(Znv X4.out G1.out Y4.out 8 (by simp[Hb.out])).mono ?_
 rintro e w5 ⟨v,rfl,ho,hr5,hb5⟩
 rw[HJ3.out] at ho
 obtain⟨p,q,rfl,hs5,_,_⟩:=ho.bs
 rw[Hml.out]
 have X5:=Lib.hid hr5
 have Y5:=Lib.hid hb5
 have S5:=Lib.hid hs5
 clear ho hs5 hr5 hb5 X4 Y4 HJ0 HJ1 HJ2 HJ3
 go_wp2_with fail
 generalize hW:World.alloc _ _=W6
 have hbA:Below w5.heap.size w5 W6:=by rw[←hW];exact Zab (Below.refl _ _) _
 have C6:=Lib.hid (show RowAt W6 w5.heap.size (cmdA ⟨x0,x1,x2,zs 8⟩) by rw[←hW];clear hW;exact⟨by go_simp,by go_simp,by go_simp⟩)
 have S6:=Lib.hid (S5.out.grow hbA)
 have X6:=Lib.hid (X5.out.grow hbA)
 have T6:=Lib.hid ((T0.out.keep Y5.out T0.out.2.2).grow hbA)
 have B6:=Lib.hid ((B0.out.trans (Y5.out.mono B0.out.size)).trans (hbA.mono (Nat.le_trans B0.out.size Y5.out.size)))
 have hne:t≠w5.heap.size:=by have:=T0.out.2.2;have:=Y5.out.size;omega
 have hle:w.heap.size≤w5.heap.size:=Nat.le_trans B0.out.size Y5.out.size
 have hng:g≠w5.heap.size:=by have:=X5.out.lt.1;omega
 have hnb:bb≠some w5.heap.size:=fun e=>by have:=X5.out.lt.2 _ e;omega
 clear hW hbA S5 X5 T0 B0 Y5 G1
 generalize w5.heap.size=gc at *
 have hcp:=Zsa (cap:=q) C6.out rfl Hml.out S6.out
 have C7:=Lib.hid (C6.out.set (cmdA ⟨x0,x1,x2,m⟩))
 have T7:=Lib.hid (T6.out.other hne (cmdA ⟨x0,x1,x2,m⟩))
 have B7:=Lib.hid (Zac B6.out hle (cmdA ⟨x0,x1,x2,m⟩))
 have X7:=Lib.hid (X6.out.moves (Moves.setRow (Moves.refl W6 gc none) (cmdA ⟨x0,x1,x2,m⟩)) hng (fun e=>by cases e) hnb (fun _ _ e=>by cases e))
 rw[hcp]
 clear hcp
 generalize W6.setRow gc (cmdA ⟨x0,x1,x2,m⟩)=W7 at *
 clear C6 S6 X6 T6 B6 hng hnb
 obtain⟨c1,c2,c3⟩:=C7.out
 obtain⟨t1,t2,t3⟩:=T7.out
 go_simp
 go_wp2_with fail
 refine(Zob X7.out).mono ?_
 rintro e w' ⟨rfl,rfl⟩
 rw[HJ4.out]
 cases dn
 ·go_wp2_with fail
  refine bodyPost_ret (v:=.tuple #[.agg (cmdA .zero),.int .i64 5]) (ZdX Tryz.results47 .zero rfl _ _ _ t rfl (by go_simp) (by go_simp) rfl) rfl ⟨rfl,?_⟩
  exact Zac B7.out (by rw[←Ez.out];exact hz1) _
 go_wp2_with fail
 refine(KM.out w').mono ?_
 rintro e W8 ⟨rfl,hb8⟩
 have C8:=Lib.hid (C7.out.grow hb8)
 have T8:=Lib.hid (T7.out.grow hb8)
 have B8:=Lib.hid (B7.out.trans (hb8.mono B7.out.size))
 clear hb8 C7 T7 B7 X7 c1 c2 c3 t1 t2 t3
 obtain⟨c1,c2,c3⟩:=C8.out
 obtain⟨t1,t2,t3⟩:=T8.out
 cases mb
 ·go_wp2_with fail
  refine bodyPost_ret (v:=.tuple #[.agg (cmdA .zero),.int .i64 5]) (ZdX Tryz.results47 .zero rfl _ _ _ t rfl (by go_simp) (by go_simp) rfl) rfl ⟨rfl,?_⟩
  exact Zac B8.out (by rw[←Ez.out];exact hz1) _
 go_wp2_with fail
 refine bodyPost_ret (v:=.tuple #[.agg (cmdA ⟨x0,x1,x2,m⟩),.int .i64 0]) (ZdX Tryz.results47 ⟨x0,x1,x2,m⟩ Hml.out _ _ _ t rfl (by go_simp) (by go_simp) rfl) rfl ⟨rfl,?_⟩
 exact Zac B8.out (by rw[←Ez.out];exact hz1) _
end Go.Proofs.YtddmjddlbhdcpaaGreatDoor
namespace Go.Proofs.YtddmjddlbhdcpaaGreatDoor
open Go.RowKit Go.Hold Go.Sh Go.Cm
set_option maxHeartbeats 1000000 in
set_option maxRecDepth 100000 in
theorem Zvm (c:Cmd) (hid:c.id.length=8) (w:World) :
  Calls Tryz.prog 20 #[.agg (cmdA c)] w fun e w'=>e=.returned (.agg (cmdA c))∧Below w.heap.size w w':=by
 have hcs:=Zax hid
 have hzs:(cmdA .zero).size=11:=Zax rfl
 have hbd:=fun W=>Zim c hid W
 go_enter Tryz.func20,Tryz.ntmps20
 go_wp2_with fail
 refine bodyPost_ret (v:=.agg (cmdA c)) (Zhb Tryz.results20 c hid _ _ (w.heap.size+1) rfl (by go_simp) (by go_simp)) rfl ⟨rfl,?_⟩
 repeat (first | apply Zab | exact Below.refl _ _)
end Go.Proofs.YtddmjddlbhdcpaaGreatDoor
