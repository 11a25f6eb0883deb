/-
  Part 13 of the texts behind the theorem.
-/
import Derived.Test.YtddmjddlbhdcpaaGreatDoorPart12
import Derived.Test.YtddmjddlbhdcpaaGreatDoorPart11
import Derived.Test.YtddmjddlbhdcpaaGreatDoorPart10
namespace Go.Proofs.YtddmjddlbhdcpaaGreatDoor
open Go.RowKit Go.Hold Go.Sh Go.Ch Go.Cm Go.Hd
set_option maxRecDepth 100000 in
theorem Zni (o:Oper) (h:o.op=.alloc 99) (hg:o.guard=none):Lays Tryz.prog o 99 (bysA (zs 192)):=by
 refine⟨hg,fun a w=>?_⟩
 obtain⟨dst,op,ty,pos,after,guard⟩:=o
 simp only at h hg
 subst h;subst hg
 go_simp
set_option maxRecDepth 100000 in
theorem Zox (o:Oper) (h:o.op=.alloc 31) (hg:o.guard=none):Lays Tryz.prog o 31 (bysA (zs 208)):=by
 refine⟨hg,fun a w=>?_⟩
 obtain⟨dst,op,ty,pos,after,guard⟩:=o
 simp only at h hg
 subst h;subst hg
 go_simp
set_option maxRecDepth 100000 in
theorem Zed (o:Oper) (h:o.op=.alloc 23) (hg:o.guard=none):Lays Tryz.prog o 23 (bysA (zs 32)):=by
 refine⟨hg,fun a w=>?_⟩
 obtain⟨dst,op,ty,pos,after,guard⟩:=o
 simp only at h hg
 subst h;subst hg
 go_simp
 rfl
set_option maxHeartbeats 3000000 in
set_option maxRecDepth 100000 in
theorem Zhm (o a b g:List Nat) (ho:o.length=32) (hob:∀i,o.getD i 0<256) (ha:a.length=32) (hab:∀i,a.getD i 0<256) (hb:b.length=160) (hbb:∀i,b.getD i 0<256) (hg:g.length=16) (hgb:∀i,g.getD i 0<256) (w:World) (hT:Tabs w) :
  Calls Tryz.prog 18 #[.agg (bysA o),.agg (bysA (a++b++g))] w fun e w'=>e=.returned (.tuple #[.agg (Zbi (unwV o a b g)),.int .i64 (unwE o a b g)])∧Below w.heap.size w w':=by
 have hos:=Zae ho
 have has:=Zae ha
 have hbs:=Zae hb
 have hgs:=Zae hg
 obtain⟨H,eH⟩:∃H,H=a++b++g:=⟨_,rfl⟩
 have hHl:H.length=208:=by rw[eH,List.length_append,List.length_append,ha,hb,hg]
 have hHs:=Zae hHl
 have hA:H.take 32=a:=by rw[eH,List.append_assoc,show 32=a.length from ha.symm,List.take_left]
 have hB:(H.drop 32).take 160=b:=by rw[eH,List.append_assoc,show 32=a.length from ha.symm,List.drop_left,show 160=b.length from hb.symm,List.take_left]
 have hG:=Lib.hid (show H.drop 192=g by rw[eH,show 192=(a++b).length by rw[List.length_append,ha,hb],List.drop_left])
 rw[←eH]
 clear eH
 have hzz:=ZbP ZdB
 have HT:=Lib.hid hT
 have hz192:=Zae (Zah 192)
 have hz208:=Zae (Zah 208)
 have hz32:=Zae (Zah 32)
 have hz16:=Zae (Zah 16)
 have hcz:(cmdA .zero).size=11:=Zax rfl
 have KS:=Lib.hid (fun (W:World)=>ZfF o a ho hob ha hab W)
 obtain⟨s,es⟩:∃s,s=keyB (shB o a):=⟨_,rfl⟩
 have hs:s.length=32:=by rw[es];exact ZaI _
 have hsb:∀i,s.getD i 0<256:=by rw[es];exact Zc1 _
 have hss:=Zae hs
 have KP:=Lib.hid (fun (W:World) (h:Tabs W)=>Zhq s b hs hsb hb hbb W h)
 have hPl:=Za6 s b
 have hPb:=Zhg s b
 have hPs:=Zae hPl
 have KE:=Lib.hid (fun (W:World) (q r:Option Addr) (hq:Bs0 W q (prf s b)) (hr:Bs0 W r g)=>show Calls Tryz.prog 44 #[.slice q 16 16,.slice r 16 16] W fun e w'=>e=.returned (.bool (decide (prf s b=g)))∧Below W.heap.size W w' from by
  have:=Zrt 16 16 q r (prf s b) g W (by rw[hPl];decide) hPb hq hgb hr
  rwa [hPl,hg] at this)
 have KWd:=Lib.hid (fun (W:World)=>Zl4 b hb W)
 have hbz:(b++zs 32).length=192:=by rw[List.length_append,hb,Zah]
 have KT:=Lib.hid (fun (W:World) (h:Tabs W)=>show Calls Tryz.prog 46 #[.agg (bysA (b++zs 32)),.agg (bysA s)] W fun e w'=>e=.returned (.agg (bysA (opn s b)))∧Below W.heap.size W w' from Zhn (b++zs 32) s hbz (ZaN hbb (Zbr _)) hs hsb W h)
 have hOl:=ZcX (s:=s) hb
 have hOb:=ZlL (s:=s) hbb
 have hOs:=Zae hOl
 have KC:=Lib.hid (fun (W:World)=>ZuY (opn s b) hOl W)
 have hcl:((opn s b).take 16).length=16:=by rw[List.length_take,hOl];rfl
 have KD:=Lib.hid (fun (W:World)=>ZoP ((opn s b).take 16) hcl (Zbh hOb 16) W)
 have hCs:=Zae hcl
 have hdi:=Znt hcl
 have hds:=Zax hdi
 have KB:=Lib.hid (fun (W:World) (h:Tabs W)=>ZgQ s a hs hsb ha hab W h)
 have hbl:=Zco s a
 have hbls:=Zae hbl
 have KN:=Lib.hid (fun (W:World)=>show Calls Tryz.prog 29 #[.agg (bysA (bli s a)),.agg (bysA a)] W fun e w'=>e=.returned (.tuple #[.agg (bysA (keyB (nxA s a))),.int .i64 (F.errOf (nxA s a))])∧Below W.heap.size W w' from ZfF (bli s a) a hbl (ZiI s a) ha hab W)
 have KNb:=Lib.hid (fun (W:World)=>ZtX (opn s b) hOl W)
 have KNg:=Lib.hid (fun (W:World)=>ZuO (opn s b) hOl W)
 have hnbl:((opn s b).drop 32).length=160:=by rw[List.length_drop,hOl]
 have hngl:(((opn s b).drop 16).take 16).length=16:=by rw[List.length_take,List.length_drop,hOl];rfl
 have hnbs:=Zae hnbl
 have hngs:=Zae hngl
 have hnal:=ZaI (nxA s a)
 have hnas:=Zae hnal
 have hbdH:=fun W=>Zgp hnal hnbl hngl W
 have hHn:(keyB (nxA s a)++(opn s b).drop 32++((opn s b).drop 16).take 16).length=208:=by rw[List.length_append,List.length_append,hnal,hnbl,hngl]
 have hHns:=Zae hHn
 have KTg:=Lib.hid (fun (W:World) (h:Tabs W)=>Zu8 s hs hsb W h)
 have htl:=Zb5 s
 have hts:=Zae htl
 have hE0:unwE o a b g=(if shB o a=0 then 7 else if ¬prf s b=g then 6 else if okB ((opn s b).take 16)=false then 5 else if nxA s a=0 then 7 else 0):=by unfold unwE;rw[es]
 have hV0:unwV o a b g=if unwE o a b g=0 then Zd7 a b s else .zero:=by unfold unwV;rw[es]
 obtain⟨st,est⟩:∃st,st=Zd7 a b s:=⟨_,rfl⟩
 have hd0:okB ((opn s b).take 16)=true→decV ((opn s b).take 16)=st.c∧decE ((opn s b).take 16)=0:=fun h=>by unfold decV decE;rw[if_pos h,if_pos h,est];exact⟨rfl,rfl⟩
 have hst:StpOk st:=by rw[est];exact⟨ZmA _ hcl,hHn,hs,htl⟩
 have hsts:=ZbP hst
 have hbdS:=fun W=>Zjf hst W
 rw[show st.nx=keyB (nxA s a)++(opn s b).drop 32++((opn s b).drop 16).take 16 by rw[est];rfl,show st.s=s by rw[est];rfl,show st.t=tagS s by rw[est];rfl] at hbdS
 rw[hV0]
 rw[←est]
 rw[←es] at KS
 obtain⟨er,eer⟩:∃er,er=unwE o a b g:=⟨_,rfl⟩
 rw[←eer] at hE0 ⊢
 have hd1:okB ((opn s b).take 16)=false→decE ((opn s b).take 16)=5:=fun h=>by unfold decE;rw[h];rfl
 obtain⟨sn,esn⟩:∃n,n=shB o a:=⟨_,rfl⟩
 obtain⟨nn,enn⟩:∃n,n=nxA s a:=⟨_,rfl⟩
 rw[←esn] at KS hE0
 rw[←enn] at hE0
 rw[show F.errOf (nxA s a)=F.errOf nn by rw[enn]] at KN
 have Hd0:=Lib.hid hd0
 have Hd1:=Lib.hid hd1
 have HE0:=Lib.hid hE0
 obtain⟨ans,eans⟩:∃x,x=(if er=0 then st else Stp.zero):=⟨_,rfl⟩
 rw[←eans]
 have HAn:=Lib.hid eans
 clear hd0 hd1 hE0 hV0 est eer esn enn es eans
 generalize keyB (nxA s a)++(opn s b).drop 32++((opn s b).drop 16).take 16=Hn at *
 generalize keyB (nxA s a)=na at *
 generalize (opn s b).drop 32=nb at *
 generalize ((opn s b).drop 16).take 16=ng at *
 generalize okB ((opn s b).take 16)=ok at *
 generalize decE ((opn s b).take 16)=dE at *
 generalize decV ((opn s b).take 16)=dV at *
 generalize (opn s b).take 16=C at *
 generalize opn s b=O at *
 generalize tagS s=tg at *
 generalize bli s a=bl at *
 generalize b++zs 32=bz at *
 generalize prf s b=P at *
 have Hstk:=Lib.hid hst
 clear ho hob ha hab hb hbb hg hgb hs hsb hPl hPb hbz hOl hOb hcl hdi hbl hnbl hngl hnal hHn htl hT hst hHl
 by_cases h1:sn=0
 ·obtain rfl:er=7:=by rw[HE0.out,if_pos h1]
  rw[Zcp h1] at KS
  obtain rfl:ans=.zero:=by rw[HAn.out,if_neg (show ¬(7:Int)=0 by decide)]
  clear h1 HE0 HAn
  go_enter Tryz.func18,Tryz.ntmps18
  go_wp2_with fail
  generalize hW:World.alloc _ _=W0
  have R0x0:=Lib.hid (show RowAt W0 (w.heap.size) (bysA o) by rw[←hW];clear hW;exact⟨by go_simp,by first | (go_simp;done) | (go_simp;rfl),by go_simp⟩)
  have R0x1:=Lib.hid (show RowAt W0 (w.heap.size+1) (bysA H) by rw[←hW];clear hW;exact⟨by go_simp,by first | (go_simp;done) | (go_simp;rfl),by go_simp⟩)
  have R0x2:=Lib.hid (show RowAt W0 (w.heap.size+1+1) (Zbi .zero) by rw[←hW];clear hW;exact⟨by go_simp,by first | (go_simp;done) | (go_simp;rfl),by go_simp⟩)
  have B0:=Lib.hid (show Below w.heap.size w W0 by rw[←hW];repeat (first | apply Zab | exact Below.refl _ _))
  clear hW
  have l_z:w.heap.size≤w.heap.size:=by omega
  have l_y:w.heap.size≤w.heap.size+1:=by omega
  have n_z_y:w.heap.size≠w.heap.size+1:=by omega
  have l_r:w.heap.size≤w.heap.size+1+1:=by omega
  have n_z_r:w.heap.size≠w.heap.size+1+1:=by omega
  have n_y_r:w.heap.size+1≠w.heap.size+1+1:=by omega
  generalize w.heap.size+1+1=r at *
  generalize w.heap.size+1=y at *
  obtain⟨z,ez⟩:∃z,z=w.heap.size:=⟨_,rfl⟩
  rw[←ez] at R0x0 n_z_y n_z_r ⊢
  have l_z:w.heap.size≤z:=by rw[ez];exact Nat.le_refl _
  clear ez
  obtain⟨R0x0a,R0x0b,R0x0c⟩:=R0x0.out
  obtain⟨R0x1a,R0x1b,R0x1c⟩:=R0x1.out
  obtain⟨R0x2a,R0x2b,R0x2c⟩:=R0x2.out
  go_wp2_with fail
  refine(KS.out _).mono ?_
  rintro e W1 ⟨rfl,hb1⟩
  clear R0x0a R0x0b R0x0c R0x1a R0x1b R0x1c R0x2a R0x2b R0x2c
  have R1x0:=Lib.hid (R0x0.out.grow hb1)
  have R1x1:=Lib.hid (R0x1.out.grow hb1)
  have R1x2:=Lib.hid (R0x2.out.grow hb1)
  have B1:=Lib.hid (B0.out.trans (hb1.mono B0.out.size))
  clear hb1 B0 R0x0 R0x1 R0x2
  obtain⟨R1x0a,R1x0b,R1x0c⟩:=R1x0.out
  obtain⟨R1x1a,R1x1b,R1x1c⟩:=R1x1.out
  obtain⟨R1x2a,R1x2b,R1x2c⟩:=R1x2.out
  go_wp2_with fail
  refine bodyPost_ret (v:=.tuple #[.agg (Zbi .zero),.int .i64 7]) (Zbm Tryz.results18 hzz _ _ _ rfl (by go_simp) (by go_simp) rfl) rfl ⟨rfl,?_⟩
  first | exact Zac B1.out l_r _ | exact Zab (Zac B1.out l_r _) _ | exact Zac (Zac B1.out l_av _) l_r _
 rw[if_neg h1] at HE0
 rw[Zc5 h1] at KS
 clear h1
 go_enter Tryz.func18,Tryz.ntmps18
 go_wp2_with fail
 generalize hW:World.alloc _ _=W0
 have R0x0:=Lib.hid (show RowAt W0 (w.heap.size) (bysA o) by rw[←hW];clear hW;exact⟨by go_simp,by first | (go_simp;done) | (go_simp;rfl),by go_simp⟩)
 have R0x1:=Lib.hid (show RowAt W0 (w.heap.size+1) (bysA H) by rw[←hW];clear hW;exact⟨by go_simp,by first | (go_simp;done) | (go_simp;rfl),by go_simp⟩)
 have R0x2:=Lib.hid (show RowAt W0 (w.heap.size+1+1) (Zbi .zero) by rw[←hW];clear hW;exact⟨by go_simp,by first | (go_simp;done) | (go_simp;rfl),by go_simp⟩)
 have B0:=Lib.hid (show Below w.heap.size w W0 by rw[←hW];repeat (first | apply Zab | exact Below.refl _ _))
 clear hW
 have l_z:w.heap.size≤w.heap.size:=by omega
 have l_y:w.heap.size≤w.heap.size+1:=by omega
 have n_z_y:w.heap.size≠w.heap.size+1:=by omega
 have l_r:w.heap.size≤w.heap.size+1+1:=by omega
 have n_z_r:w.heap.size≠w.heap.size+1+1:=by omega
 have n_y_r:w.heap.size+1≠w.heap.size+1+1:=by omega
 generalize w.heap.size+1+1=r at *
 generalize w.heap.size+1=y at *
 obtain⟨z,ez⟩:∃z,z=w.heap.size:=⟨_,rfl⟩
 rw[←ez] at R0x0 n_z_y n_z_r ⊢
 have l_z:w.heap.size≤z:=by rw[ez];exact Nat.le_refl _
 clear ez
 obtain⟨R0x0a,R0x0b,R0x0c⟩:=R0x0.out
 obtain⟨R0x1a,R0x1b,R0x1c⟩:=R0x1.out
 obtain⟨R0x2a,R0x2b,R0x2c⟩:=R0x2.out
 go_wp2_with fail
 refine(KS.out _).mono ?_
 rintro e W1 ⟨rfl,hb1⟩
 clear R0x0a R0x0b R0x0c R0x1a R0x1b R0x1c R0x2a R0x2b R0x2c
 have R1x0:=Lib.hid (R0x0.out.grow hb1)
 have R1x1:=Lib.hid (R0x1.out.grow hb1)
 have R1x2:=Lib.hid (R0x2.out.grow hb1)
 have B1:=Lib.hid (B0.out.trans (hb1.mono B0.out.size))
 clear hb1 B0 R0x0 R0x1 R0x2
 obtain⟨R1x0a,R1x0b,R1x0c⟩:=R1x0.out
 obtain⟨R1x1a,R1x1b,R1x1c⟩:=R1x1.out
 obtain⟨R1x2a,R1x2b,R1x2c⟩:=R1x2.out
 go_wp2_with fail
 have n_z_sv:z≠W1.heap.size:=Nat.ne_of_lt R1x0.out.2.2
 have n_y_sv:y≠W1.heap.size:=Nat.ne_of_lt R1x1.out.2.2
 have n_r_sv:r≠W1.heap.size:=Nat.ne_of_lt R1x2.out.2.2
 have l_sv:w.heap.size≤W1.heap.size:=B1.out.size
 have hb2:=Zab (Below.refl W1.heap.size W1) (.cells (bysA s) 23)
 have N2:=Lib.hid (RowAt.of (Zas W1 (.cells (bysA s) 23)))
 have R2x0:=Lib.hid (R1x0.out.grow hb2)
 have R2x1:=Lib.hid (R1x1.out.grow hb2)
 have R2x2:=Lib.hid (R1x2.out.grow hb2)
 have B2:=Lib.hid (B1.out.trans (hb2.mono B1.out.size))
 clear hb2 B1 R1x0 R1x1 R1x2 R1x0a R1x0b R1x0c R1x1a R1x1b R1x1c R1x2a R1x2b R1x2c
 generalize W1.heap.size=sv at *
 generalize W1.alloc (.cells (bysA s) 23)=W2 at *
 obtain⟨R2x0a,R2x0b,R2x0c⟩:=R2x0.out
 obtain⟨R2x1a,R2x1b,R2x1c⟩:=R2x1.out
 obtain⟨R2x2a,R2x2b,R2x2c⟩:=R2x2.out
 obtain⟨N2a,N2b,N2c⟩:=N2.out
 go_wp2_with fail
 refine(KP.out _ (HT.out.grow B2.out)).mono ?_
 rintro e W3 ⟨rfl,hb3⟩
 clear R2x0a R2x0b R2x0c R2x1a R2x1b R2x1c R2x2a R2x2b R2x2c N2a N2b N2c
 have R3x0:=Lib.hid (R2x0.out.grow hb3)
 have R3x1:=Lib.hid (R2x1.out.grow hb3)
 have R3x2:=Lib.hid (R2x2.out.grow hb3)
 have R3x3:=Lib.hid (N2.out.grow hb3)
 have B3:=Lib.hid (B2.out.trans (hb3.mono B2.out.size))
 clear hb3 B2 R2x0 R2x1 R2x2 N2
 obtain⟨R3x0a,R3x0b,R3x0c⟩:=R3x0.out
 obtain⟨R3x1a,R3x1b,R3x1c⟩:=R3x1.out
 obtain⟨R3x2a,R3x2b,R3x2c⟩:=R3x2.out
 obtain⟨R3x3a,R3x3b,R3x3c⟩:=R3x3.out
 go_wp2_with fail
 have n_z_pv:z≠W3.heap.size:=Nat.ne_of_lt R3x0.out.2.2
 have n_y_pv:y≠W3.heap.size:=Nat.ne_of_lt R3x1.out.2.2
 have n_r_pv:r≠W3.heap.size:=Nat.ne_of_lt R3x2.out.2.2
 have n_sv_pv:sv≠W3.heap.size:=Nat.ne_of_lt R3x3.out.2.2
 have l_pv:w.heap.size≤W3.heap.size:=B3.out.size
 have hb4:=Zab (Below.refl W3.heap.size W3) (.cells (bysA P) 29)
 have N4:=Lib.hid (RowAt.of (Zas W3 (.cells (bysA P) 29)))
 have R4x0:=Lib.hid (R3x0.out.grow hb4)
 have R4x1:=Lib.hid (R3x1.out.grow hb4)
 have R4x2:=Lib.hid (R3x2.out.grow hb4)
 have R4x3:=Lib.hid (R3x3.out.grow hb4)
 have B4:=Lib.hid (B3.out.trans (hb4.mono B3.out.size))
 clear hb4 B3 R3x0 R3x1 R3x2 R3x3 R3x0a R3x0b R3x0c R3x1a R3x1b R3x1c R3x2a R3x2b R3x2c R3x3a R3x3b R3x3c
 generalize W3.heap.size=pv at *
 generalize W3.alloc (.cells (bysA P) 29)=W4 at *
 obtain⟨R4x0a,R4x0b,R4x0c⟩:=R4x0.out
 obtain⟨R4x1a,R4x1b,R4x1c⟩:=R4x1.out
 obtain⟨R4x2a,R4x2b,R4x2c⟩:=R4x2.out
 obtain⟨R4x3a,R4x3b,R4x3c⟩:=R4x3.out
 obtain⟨N4a,N4b,N4c⟩:=N4.out
 clear R4x0a R4x0b R4x0c R4x1a R4x1b R4x1c R4x2a R4x2b R4x2c R4x3a R4x3b R4x3c N4a N4b N4c
 refine ZaH W4 [0,1,2] [true,true,true] [3,4] (by kernel_rfl) (by kernel_rfl) (by intro c a d v w h;cases d<;>exact h) (by first | exact(Below.refl _ _).drew | exact Below.refl _ _) ?_
 simp only[pick,List.getElem?_cons_succ,List.getElem?_cons_zero]
 iterate 3 (refine Zaz (Zaa rfl) (fun w=>by go_simp;rfl) ?_)
 refine Zap ?_
 intro W5 hb5
 have R5x0:=Lib.hid (R4x0.out.grow hb5)
 have R5x1:=Lib.hid (R4x1.out.grow hb5)
 have R5x2:=Lib.hid (R4x2.out.grow hb5)
 have R5x3:=Lib.hid (R4x3.out.grow hb5)
 have R5x4:=Lib.hid (N4.out.grow hb5)
 have B5:=Lib.hid (B4.out.trans (hb5.mono B4.out.size))
 clear hb5 B4 R4x0 R4x1 R4x2 R4x3 N4
 go_wp2_with fail
 have hBy:BytesAt W5 y 192 g:=by
  have:=(ZaG R5x1.out).from 192
  rwa [hG.out,Nat.zero_add] at this
 by_cases h2:P=g
 ·rw[if_neg (fun h=>h h2)] at HE0
  rw[decide_eq_true h2] at KE
  clear h2
  refine(KE.out _ _ _ (Bs0.some (ZaG R5x4.out)) (Bs0.some hBy)).mono ?_
  rintro e W6 ⟨rfl,hb6⟩
  have R6x0:=Lib.hid (R5x0.out.grow hb6)
  have R6x1:=Lib.hid (R5x1.out.grow hb6)
  have R6x2:=Lib.hid (R5x2.out.grow hb6)
  have R6x3:=Lib.hid (R5x3.out.grow hb6)
  have R6x4:=Lib.hid (R5x4.out.grow hb6)
  have B6:=Lib.hid (B5.out.trans (hb6.mono B5.out.size))
  clear hb6 B5 R5x0 R5x1 R5x2 R5x3 R5x4
  clear hBy
  obtain⟨R6x0a,R6x0b,R6x0c⟩:=R6x0.out
  obtain⟨R6x1a,R6x1b,R6x1c⟩:=R6x1.out
  obtain⟨R6x2a,R6x2b,R6x2c⟩:=R6x2.out
  obtain⟨R6x3a,R6x3b,R6x3c⟩:=R6x3.out
  obtain⟨R6x4a,R6x4b,R6x4c⟩:=R6x4.out
  go_wp2_with fail
  refine Zao W6 [0,1,2,3,4] [false,false,false,false,false] [5] [(99,bysA (zs 192))] 6 (by kernel_rfl) rfl (by kernel_rfl) (by intro c a d v w h;cases d<;>exact h) (by first | exact(Below.refl _ _).drew | exact Below.refl _ _) ?_
  simp only[pick,List.getElem?_cons_succ,List.getElem?_cons_zero,List.drop_succ_cons,List.drop_zero]
  refine Zad (Zaa rfl) (by intro K o d hK;go_simp;exact hK _ (Below.refl _ _)) ?_
  refine Zad (Zaa rfl) (by intro K o d hK;go_simp;exact hK _ (Below.refl _ _)) ?_
  refine Zaj (v:=.agg (bysA bz)) (Zaa rfl) (by intro K o d hK;go_simp;refine(KWd.out _).mono ?_;rintro e w' ⟨rfl,hbw⟩;exact⟨_,rfl,hK _ hbw⟩) ?_
  refine Zad (Zaa rfl) (by intro K o d hK;go_simp;exact hK _ (Below.refl _ _)) ?_
  refine Zaj (v:=.agg (bysA O)) (Zaa rfl) (by intro K o d hK;go_simp;refine(KT.out _ (HT.out.grow (ZaM _ _ _ B6.out B6.out.size))).mono ?_;rintro e w' ⟨rfl,hbw⟩;exact⟨_,rfl,hK _ hbw⟩) ?_
  refine Zap ?_
  refine⟨Zni _ rfl rfl,fun wv hg0 hn0=>?_⟩
  intro W7 hb7 hblk
  have n_z_wv:z≠wv:=by have:=R6x0.out.2.2;omega
  have n_y_wv:y≠wv:=by have:=R6x1.out.2.2;omega
  have n_r_wv:r≠wv:=by have:=R6x2.out.2.2;omega
  have n_sv_wv:sv≠wv:=by have:=R6x3.out.2.2;omega
  have n_pv_wv:pv≠wv:=by have:=R6x4.out.2.2;omega
  have l_wv:w.heap.size≤wv:=Nat.le_trans B6.out.size hg0
  have V7x0:=Lib.hid (RowAt.of (hblk 0 wv _ _ rfl rfl))
  clear hblk
  clear R6x0a R6x0b R6x0c R6x1a R6x1b R6x1c R6x2a R6x2b R6x2c R6x3a R6x3b R6x3c R6x4a R6x4b R6x4c
  have R7x0:=Lib.hid (R6x0.out.grow hb7)
  have R7x1:=Lib.hid (R6x1.out.grow hb7)
  have R7x2:=Lib.hid (R6x2.out.grow hb7)
  have R7x3:=Lib.hid (R6x3.out.grow hb7)
  have R7x4:=Lib.hid (R6x4.out.grow hb7)
  have B7:=Lib.hid (B6.out.trans (hb7.mono B6.out.size))
  clear hb7 B6 R6x0 R6x1 R6x2 R6x3 R6x4
  obtain⟨R7x0a,R7x0b,R7x0c⟩:=R7x0.out
  obtain⟨R7x1a,R7x1b,R7x1c⟩:=R7x1.out
  obtain⟨R7x2a,R7x2b,R7x2c⟩:=R7x2.out
  obtain⟨R7x3a,R7x3b,R7x3c⟩:=R7x3.out
  obtain⟨R7x4a,R7x4b,R7x4c⟩:=R7x4.out
  obtain⟨V7x0a,V7x0b,V7x0c⟩:=V7x0.out
  go_wp2_with fail
  have R8x0:=Lib.hid (R7x0.out.other n_z_wv (bysA O))
  have R8x1:=Lib.hid (R7x1.out.other n_y_wv (bysA O))
  have R8x2:=Lib.hid (R7x2.out.other n_r_wv (bysA O))
  have R8x3:=Lib.hid (R7x3.out.other n_sv_wv (bysA O))
  have R8x4:=Lib.hid (R7x4.out.other n_pv_wv (bysA O))
  have R8x5:=Lib.hid (V7x0.out.set (bysA O))
  have B8:=Lib.hid (Zac B7.out l_wv (bysA O))
  clear B7 R7x0 R7x1 R7x2 R7x3 R7x4 V7x0 R7x0a R7x0b R7x0c R7x1a R7x1b R7x1c R7x2a R7x2b R7x2c R7x3a R7x3b R7x3c R7x4a R7x4b R7x4c V7x0a V7x0b V7x0c
  generalize W7.setRow wv (bysA O)=W8 at *
  refine(KC.out _).mono ?_
  rintro e W9 ⟨rfl,hb9⟩
  have R9x0:=Lib.hid (R8x0.out.grow hb9)
  have R9x1:=Lib.hid (R8x1.out.grow hb9)
  have R9x2:=Lib.hid (R8x2.out.grow hb9)
  have R9x3:=Lib.hid (R8x3.out.grow hb9)
  have R9x4:=Lib.hid (R8x4.out.grow hb9)
  have R9x5:=Lib.hid (R8x5.out.grow hb9)
  have B9:=Lib.hid (B8.out.trans (hb9.mono B8.out.size))
  clear hb9 B8 R8x0 R8x1 R8x2 R8x3 R8x4 R8x5
  obtain⟨R9x0a,R9x0b,R9x0c⟩:=R9x0.out
  obtain⟨R9x1a,R9x1b,R9x1c⟩:=R9x1.out
  obtain⟨R9x2a,R9x2b,R9x2c⟩:=R9x2.out
  obtain⟨R9x3a,R9x3b,R9x3c⟩:=R9x3.out
  obtain⟨R9x4a,R9x4b,R9x4c⟩:=R9x4.out
  obtain⟨R9x5a,R9x5b,R9x5c⟩:=R9x5.out
  go_wp2_with fail
  rcases ok with _ | _
  ·rw[if_pos rfl] at HE0
   obtain rfl:er=5:=HE0.out
   obtain rfl:ans=.zero:=by rw[HAn.out,if_neg (show ¬(5:Int)=0 by decide)]
   have e5:=Hd1.out rfl
   subst e5
   clear HE0 HAn Hd0 Hd1
   refine(KD.out _).mono ?_
   rintro e W10 ⟨rfl,hb10⟩
   clear R9x0a R9x0b R9x0c R9x1a R9x1b R9x1c R9x2a R9x2b R9x2c R9x3a R9x3b R9x3c R9x4a R9x4b R9x4c R9x5a R9x5b R9x5c
   have R10x0:=Lib.hid (R9x0.out.grow hb10)
   have R10x1:=Lib.hid (R9x1.out.grow hb10)
   have R10x2:=Lib.hid (R9x2.out.grow hb10)
   have R10x3:=Lib.hid (R9x3.out.grow hb10)
   have R10x4:=Lib.hid (R9x4.out.grow hb10)
   have R10x5:=Lib.hid (R9x5.out.grow hb10)
   have B10:=Lib.hid (B9.out.trans (hb10.mono B9.out.size))
   clear hb10 B9 R9x0 R9x1 R9x2 R9x3 R9x4 R9x5
   obtain⟨R10x0a,R10x0b,R10x0c⟩:=R10x0.out
   obtain⟨R10x1a,R10x1b,R10x1c⟩:=R10x1.out
   obtain⟨R10x2a,R10x2b,R10x2c⟩:=R10x2.out
   obtain⟨R10x3a,R10x3b,R10x3c⟩:=R10x3.out
   obtain⟨R10x4a,R10x4b,R10x4c⟩:=R10x4.out
   obtain⟨R10x5a,R10x5b,R10x5c⟩:=R10x5.out
   go_wp2_with fail
   refine bodyPost_ret (v:=.tuple #[.agg (Zbi .zero),.int .i64 5]) (Zbm Tryz.results18 hzz _ _ _ rfl (by go_simp) (by go_simp) rfl) rfl ⟨rfl,?_⟩
   first | exact Zac B10.out l_r _ | exact Zab (Zac B10.out l_r _) _ | exact Zac (Zac B10.out l_av _) l_r _
  ·rw[if_neg (by decide)] at HE0
   obtain⟨e1,e2⟩:=Hd0.out rfl
   subst e1 e2
   clear Hd0 Hd1
   by_cases h3:nn=0
   ·rw[if_pos h3] at HE0
    obtain rfl:er=7:=HE0.out
    obtain rfl:ans=.zero:=by rw[HAn.out,if_neg (show ¬(7:Int)=0 by decide)]
    rw[Zcp h3] at KN
    clear h3 HE0 HAn
    refine(KD.out _).mono ?_
    rintro e W10 ⟨rfl,hb10⟩
    clear R9x0a R9x0b R9x0c R9x1a R9x1b R9x1c R9x2a R9x2b R9x2c R9x3a R9x3b R9x3c R9x4a R9x4b R9x4c R9x5a R9x5b R9x5c
    have R10x0:=Lib.hid (R9x0.out.grow hb10)
    have R10x1:=Lib.hid (R9x1.out.grow hb10)
    have R10x2:=Lib.hid (R9x2.out.grow hb10)
    have R10x3:=Lib.hid (R9x3.out.grow hb10)
    have R10x4:=Lib.hid (R9x4.out.grow hb10)
    have R10x5:=Lib.hid (R9x5.out.grow hb10)
    have B10:=Lib.hid (B9.out.trans (hb10.mono B9.out.size))
    clear hb10 B9 R9x0 R9x1 R9x2 R9x3 R9x4 R9x5
    obtain⟨R10x0a,R10x0b,R10x0c⟩:=R10x0.out
    obtain⟨R10x1a,R10x1b,R10x1c⟩:=R10x1.out
    obtain⟨R10x2a,R10x2b,R10x2c⟩:=R10x2.out
    obtain⟨R10x3a,R10x3b,R10x3c⟩:=R10x3.out
    obtain⟨R10x4a,R10x4b,R10x4c⟩:=R10x4.out
    obtain⟨R10x5a,R10x5b,R10x5c⟩:=R10x5.out
    go_wp2_with fail
    have n_z_cv:z≠W10.heap.size:=Nat.ne_of_lt R10x0.out.2.2
    have n_y_cv:y≠W10.heap.size:=Nat.ne_of_lt R10x1.out.2.2
    have n_r_cv:r≠W10.heap.size:=Nat.ne_of_lt R10x2.out.2.2
    have n_sv_cv:sv≠W10.heap.size:=Nat.ne_of_lt R10x3.out.2.2
    have n_pv_cv:pv≠W10.heap.size:=Nat.ne_of_lt R10x4.out.2.2
    have n_wv_cv:wv≠W10.heap.size:=Nat.ne_of_lt R10x5.out.2.2
    have l_cv:w.heap.size≤W10.heap.size:=B10.out.size
    have hb11:=Zab (Below.refl W10.heap.size W10) (.cells (cmdA st.c) 51)
    have N11:=Lib.hid (RowAt.of (Zas W10 (.cells (cmdA st.c) 51)))
    have R11x0:=Lib.hid (R10x0.out.grow hb11)
    have R11x1:=Lib.hid (R10x1.out.grow hb11)
    have R11x2:=Lib.hid (R10x2.out.grow hb11)
    have R11x3:=Lib.hid (R10x3.out.grow hb11)
    have R11x4:=Lib.hid (R10x4.out.grow hb11)
    have R11x5:=Lib.hid (R10x5.out.grow hb11)
    have B11:=Lib.hid (B10.out.trans (hb11.mono B10.out.size))
    clear hb11 B10 R10x0 R10x1 R10x2 R10x3 R10x4 R10x5 R10x0a R10x0b R10x0c R10x1a R10x1b R10x1c R10x2a R10x2b R10x2c R10x3a R10x3b R10x3c R10x4a R10x4b R10x4c R10x5a R10x5b R10x5c
    generalize W10.heap.size=cv at *
    generalize W10.alloc (.cells (cmdA st.c) 51)=W11 at *
    obtain⟨R11x0a,R11x0b,R11x0c⟩:=R11x0.out
    obtain⟨R11x1a,R11x1b,R11x1c⟩:=R11x1.out
    obtain⟨R11x2a,R11x2b,R11x2c⟩:=R11x2.out
    obtain⟨R11x3a,R11x3b,R11x3c⟩:=R11x3.out
    obtain⟨R11x4a,R11x4b,R11x4c⟩:=R11x4.out
    obtain⟨R11x5a,R11x5b,R11x5c⟩:=R11x5.out
    obtain⟨N11a,N11b,N11c⟩:=N11.out
    refine Zao W11 [0,1,2,3,4,5,6,7,8,9] [false,false,false,false,false,false,false,false,false,true] [10] [(23,bysA (zs 32))] 11 (by kernel_rfl) rfl (by kernel_rfl) (by intro c a d v w h;cases d<;>exact h) (by first | exact(Below.refl _ _).drew | exact Below.refl _ _) ?_
    simp only[pick,List.getElem?_cons_succ,List.getElem?_cons_zero,List.drop_succ_cons,List.drop_zero]
    refine Zad (Zaa rfl) (by intro K o d hK;go_simp;exact hK _ (Below.refl _ _)) ?_
    refine Zad (Zaa rfl) (by intro K o d hK;go_simp;exact hK _ (Below.refl _ _)) ?_
    refine Zad (Zaa rfl) (by intro K o d hK;go_simp;exact hK _ (Below.refl _ _)) ?_
    refine Zaj (v:=.agg (bysA bl)) (Zaa rfl) (by intro K o d hK;go_simp;refine(KB.out _ (HT.out.grow (ZaM _ _ _ B11.out B11.out.size))).mono ?_;rintro e w' ⟨rfl,hbw⟩;exact⟨_,rfl,hK _ hbw⟩) ?_
    refine Zad (Zaa rfl) (by intro K o d hK;go_simp;exact hK _ (Below.refl _ _)) ?_
    refine Zad (Zaa rfl) (by intro K o d hK;go_simp;exact hK _ (Below.refl _ _)) ?_
    refine Zaj (v:=.tuple #[.agg (bysA na),.int .i64 7]) (Zaa rfl) (by intro K o d hK;go_simp;refine(KN.out _).mono ?_;rintro e w' ⟨rfl,hbw⟩;exact⟨_,rfl,hK _ hbw⟩) ?_
    refine Zad (Zaa rfl) (by intro K o d hK;go_simp;exact hK _ (Below.refl _ _)) ?_
    refine Zad (Zaa rfl) (by intro K o d hK;go_simp;exact hK _ (Below.refl _ _)) ?_
    refine Zaz (Zaa rfl) (fun w=>by go_simp;rfl) ?_
    refine Zap ?_
    refine⟨Zed _ rfl rfl,fun av hg0 hn0=>?_⟩
    intro W12 hb12 hblk
    have n_z_av:z≠av:=by have:=R11x0.out.2.2;omega
    have n_y_av:y≠av:=by have:=R11x1.out.2.2;omega
    have n_r_av:r≠av:=by have:=R11x2.out.2.2;omega
    have n_sv_av:sv≠av:=by have:=R11x3.out.2.2;omega
    have n_pv_av:pv≠av:=by have:=R11x4.out.2.2;omega
    have n_wv_av:wv≠av:=by have:=R11x5.out.2.2;omega
    have n_cv_av:cv≠av:=by have:=N11.out.2.2;omega
    have l_av:w.heap.size≤av:=Nat.le_trans B11.out.size hg0
    have V12x0:=Lib.hid (RowAt.of (hblk 0 av _ _ rfl rfl))
    clear hblk
    clear R11x0a R11x0b R11x0c R11x1a R11x1b R11x1c R11x2a R11x2b R11x2c R11x3a R11x3b R11x3c R11x4a R11x4b R11x4c R11x5a R11x5b R11x5c N11a N11b N11c
    have R12x0:=Lib.hid (R11x0.out.grow hb12)
    have R12x1:=Lib.hid (R11x1.out.grow hb12)
    have R12x2:=Lib.hid (R11x2.out.grow hb12)
    have R12x3:=Lib.hid (R11x3.out.grow hb12)
    have R12x4:=Lib.hid (R11x4.out.grow hb12)
    have R12x5:=Lib.hid (R11x5.out.grow hb12)
    have R12x6:=Lib.hid (N11.out.grow hb12)
    have B12:=Lib.hid (B11.out.trans (hb12.mono B11.out.size))
    clear hb12 B11 R11x0 R11x1 R11x2 R11x3 R11x4 R11x5 N11
    obtain⟨R12x0a,R12x0b,R12x0c⟩:=R12x0.out
    obtain⟨R12x1a,R12x1b,R12x1c⟩:=R12x1.out
    obtain⟨R12x2a,R12x2b,R12x2c⟩:=R12x2.out
    obtain⟨R12x3a,R12x3b,R12x3c⟩:=R12x3.out
    obtain⟨R12x4a,R12x4b,R12x4c⟩:=R12x4.out
    obtain⟨R12x5a,R12x5b,R12x5c⟩:=R12x5.out
    obtain⟨R12x6a,R12x6b,R12x6c⟩:=R12x6.out
    obtain⟨V12x0a,V12x0b,V12x0c⟩:=V12x0.out
    go_wp2_with fail
    refine bodyPost_ret (v:=.tuple #[.agg (Zbi .zero),.int .i64 7]) (Zbm Tryz.results18 hzz _ _ _ rfl (by go_simp) (by go_simp) rfl) rfl ⟨rfl,?_⟩
    first | exact Zac B12.out l_r _ | exact Zab (Zac B12.out l_r _) _ | exact Zac (Zac B12.out l_av _) l_r _
   ·rw[if_neg h3] at HE0
    obtain rfl:er=0:=HE0.out
    obtain rfl:st=ans:=by rw[HAn.out,if_pos rfl]
    rw[Zc5 h3] at KN
    clear h3 HE0 HAn
    refine(KD.out _).mono ?_
    rintro e W10 ⟨rfl,hb10⟩
    clear R9x0a R9x0b R9x0c R9x1a R9x1b R9x1c R9x2a R9x2b R9x2c R9x3a R9x3b R9x3c R9x4a R9x4b R9x4c R9x5a R9x5b R9x5c
    have R10x0:=Lib.hid (R9x0.out.grow hb10)
    have R10x1:=Lib.hid (R9x1.out.grow hb10)
    have R10x2:=Lib.hid (R9x2.out.grow hb10)
    have R10x3:=Lib.hid (R9x3.out.grow hb10)
    have R10x4:=Lib.hid (R9x4.out.grow hb10)
    have R10x5:=Lib.hid (R9x5.out.grow hb10)
    have B10:=Lib.hid (B9.out.trans (hb10.mono B9.out.size))
    clear hb10 B9 R9x0 R9x1 R9x2 R9x3 R9x4 R9x5
    obtain⟨R10x0a,R10x0b,R10x0c⟩:=R10x0.out
    obtain⟨R10x1a,R10x1b,R10x1c⟩:=R10x1.out
    obtain⟨R10x2a,R10x2b,R10x2c⟩:=R10x2.out
    obtain⟨R10x3a,R10x3b,R10x3c⟩:=R10x3.out
    obtain⟨R10x4a,R10x4b,R10x4c⟩:=R10x4.out
    obtain⟨R10x5a,R10x5b,R10x5c⟩:=R10x5.out
    go_wp2_with fail
    have n_z_cv:z≠W10.heap.size:=Nat.ne_of_lt R10x0.out.2.2
    have n_y_cv:y≠W10.heap.size:=Nat.ne_of_lt R10x1.out.2.2
    have n_r_cv:r≠W10.heap.size:=Nat.ne_of_lt R10x2.out.2.2
    have n_sv_cv:sv≠W10.heap.size:=Nat.ne_of_lt R10x3.out.2.2
    have n_pv_cv:pv≠W10.heap.size:=Nat.ne_of_lt R10x4.out.2.2
    have n_wv_cv:wv≠W10.heap.size:=Nat.ne_of_lt R10x5.out.2.2
    have l_cv:w.heap.size≤W10.heap.size:=B10.out.size
    have hb11:=Zab (Below.refl W10.heap.size W10) (.cells (cmdA st.c) 51)
    have N11:=Lib.hid (RowAt.of (Zas W10 (.cells (cmdA st.c) 51)))
    have R11x0:=Lib.hid (R10x0.out.grow hb11)
    have R11x1:=Lib.hid (R10x1.out.grow hb11)
    have R11x2:=Lib.hid (R10x2.out.grow hb11)
    have R11x3:=Lib.hid (R10x3.out.grow hb11)
    have R11x4:=Lib.hid (R10x4.out.grow hb11)
    have R11x5:=Lib.hid (R10x5.out.grow hb11)
    have B11:=Lib.hid (B10.out.trans (hb11.mono B10.out.size))
    clear hb11 B10 R10x0 R10x1 R10x2 R10x3 R10x4 R10x5 R10x0a R10x0b R10x0c R10x1a R10x1b R10x1c R10x2a R10x2b R10x2c R10x3a R10x3b R10x3c R10x4a R10x4b R10x4c R10x5a R10x5b R10x5c
    generalize W10.heap.size=cv at *
    generalize W10.alloc (.cells (cmdA st.c) 51)=W11 at *
    obtain⟨R11x0a,R11x0b,R11x0c⟩:=R11x0.out
    obtain⟨R11x1a,R11x1b,R11x1c⟩:=R11x1.out
    obtain⟨R11x2a,R11x2b,R11x2c⟩:=R11x2.out
    obtain⟨R11x3a,R11x3b,R11x3c⟩:=R11x3.out
    obtain⟨R11x4a,R11x4b,R11x4c⟩:=R11x4.out
    obtain⟨R11x5a,R11x5b,R11x5c⟩:=R11x5.out
    obtain⟨N11a,N11b,N11c⟩:=N11.out
    refine Zao W11 [0,1,2,3,4,5,6,7,8,9] [false,false,false,false,false,false,false,false,false,true] [10] [(23,bysA (zs 32))] 11 (by kernel_rfl) rfl (by kernel_rfl) (by intro c a d v w h;cases d<;>exact h) (by first | exact(Below.refl _ _).drew | exact Below.refl _ _) ?_
    simp only[pick,List.getElem?_cons_succ,List.getElem?_cons_zero,List.drop_succ_cons,List.drop_zero]
    refine Zad (Zaa rfl) (by intro K o d hK;go_simp;exact hK _ (Below.refl _ _)) ?_
    refine Zad (Zaa rfl) (by intro K o d hK;go_simp;exact hK _ (Below.refl _ _)) ?_
    refine Zad (Zaa rfl) (by intro K o d hK;go_simp;exact hK _ (Below.refl _ _)) ?_
    refine Zaj (v:=.agg (bysA bl)) (Zaa rfl) (by intro K o d hK;go_simp;refine(KB.out _ (HT.out.grow (ZaM _ _ _ B11.out B11.out.size))).mono ?_;rintro e w' ⟨rfl,hbw⟩;exact⟨_,rfl,hK _ hbw⟩) ?_
    refine Zad (Zaa rfl) (by intro K o d hK;go_simp;exact hK _ (Below.refl _ _)) ?_
    refine Zad (Zaa rfl) (by intro K o d hK;go_simp;exact hK _ (Below.refl _ _)) ?_
    refine Zaj (v:=.tuple #[.agg (bysA na),.int .i64 0]) (Zaa rfl) (by intro K o d hK;go_simp;refine(KN.out _).mono ?_;rintro e w' ⟨rfl,hbw⟩;exact⟨_,rfl,hK _ hbw⟩) ?_
    refine Zad (Zaa rfl) (by intro K o d hK;go_simp;exact hK _ (Below.refl _ _)) ?_
    refine Zad (Zaa rfl) (by intro K o d hK;go_simp;exact hK _ (Below.refl _ _)) ?_
    refine Zaz (Zaa rfl) (fun w=>by go_simp;rfl) ?_
    refine Zap ?_
    refine⟨Zed _ rfl rfl,fun av hg0 hn0=>?_⟩
    intro W12 hb12 hblk
    have n_z_av:z≠av:=by have:=R11x0.out.2.2;omega
    have n_y_av:y≠av:=by have:=R11x1.out.2.2;omega
    have n_r_av:r≠av:=by have:=R11x2.out.2.2;omega
    have n_sv_av:sv≠av:=by have:=R11x3.out.2.2;omega
    have n_pv_av:pv≠av:=by have:=R11x4.out.2.2;omega
    have n_wv_av:wv≠av:=by have:=R11x5.out.2.2;omega
    have n_cv_av:cv≠av:=by have:=N11.out.2.2;omega
    have l_av:w.heap.size≤av:=Nat.le_trans B11.out.size hg0
    have V12x0:=Lib.hid (RowAt.of (hblk 0 av _ _ rfl rfl))
    clear hblk
    clear R11x0a R11x0b R11x0c R11x1a R11x1b R11x1c R11x2a R11x2b R11x2c R11x3a R11x3b R11x3c R11x4a R11x4b R11x4c R11x5a R11x5b R11x5c N11a N11b N11c
    have R12x0:=Lib.hid (R11x0.out.grow hb12)
    have R12x1:=Lib.hid (R11x1.out.grow hb12)
    have R12x2:=Lib.hid (R11x2.out.grow hb12)
    have R12x3:=Lib.hid (R11x3.out.grow hb12)
    have R12x4:=Lib.hid (R11x4.out.grow hb12)
    have R12x5:=Lib.hid (R11x5.out.grow hb12)
    have R12x6:=Lib.hid (N11.out.grow hb12)
    have B12:=Lib.hid (B11.out.trans (hb12.mono B11.out.size))
    clear hb12 B11 R11x0 R11x1 R11x2 R11x3 R11x4 R11x5 N11
    obtain⟨R12x0a,R12x0b,R12x0c⟩:=R12x0.out
    obtain⟨R12x1a,R12x1b,R12x1c⟩:=R12x1.out
    obtain⟨R12x2a,R12x2b,R12x2c⟩:=R12x2.out
    obtain⟨R12x3a,R12x3b,R12x3c⟩:=R12x3.out
    obtain⟨R12x4a,R12x4b,R12x4c⟩:=R12x4.out
    obtain⟨R12x5a,R12x5b,R12x5c⟩:=R12x5.out
    obtain⟨R12x6a,R12x6b,R12x6c⟩:=R12x6.out
    obtain⟨V12x0a,V12x0b,V12x0c⟩:=V12x0.out
    go_wp2_with fail
    have R13x0:=Lib.hid (R12x0.out.other n_z_av (bysA na))
    have R13x1:=Lib.hid (R12x1.out.other n_y_av (bysA na))
    have R13x2:=Lib.hid (R12x2.out.other n_r_av (bysA na))
    have R13x3:=Lib.hid (R12x3.out.other n_sv_av (bysA na))
    have R13x4:=Lib.hid (R12x4.out.other n_pv_av (bysA na))
    have R13x5:=Lib.hid (R12x5.out.other n_wv_av (bysA na))
    have R13x6:=Lib.hid (R12x6.out.other n_cv_av (bysA na))
    have R13x7:=Lib.hid (V12x0.out.set (bysA na))
    have B13:=Lib.hid (Zac B12.out l_av (bysA na))
    clear B12 R12x0 R12x1 R12x2 R12x3 R12x4 R12x5 R12x6 V12x0 R12x0a R12x0b R12x0c R12x1a R12x1b R12x1c R12x2a R12x2b R12x2c R12x3a R12x3b R12x3c R12x4a R12x4b R12x4c R12x5a R12x5b R12x5c R12x6a R12x6b R12x6c V12x0a V12x0b V12x0c
    generalize W12.setRow av (bysA na)=W13 at *
    obtain⟨R13x0a,R13x0b,R13x0c⟩:=R13x0.out
    obtain⟨R13x1a,R13x1b,R13x1c⟩:=R13x1.out
    obtain⟨R13x2a,R13x2b,R13x2c⟩:=R13x2.out
    obtain⟨R13x3a,R13x3b,R13x3c⟩:=R13x3.out
    obtain⟨R13x4a,R13x4b,R13x4c⟩:=R13x4.out
    obtain⟨R13x5a,R13x5b,R13x5c⟩:=R13x5.out
    obtain⟨R13x6a,R13x6b,R13x6c⟩:=R13x6.out
    obtain⟨R13x7a,R13x7b,R13x7c⟩:=R13x7.out
    refine Zao W13 [0,1,2,3,4,5] [false,false,false,false,false,false] [6] [(31,bysA (zs 208))] 7 (by kernel_rfl) rfl (by kernel_rfl) (by intro c a d v w h;cases d<;>exact h) (by first | exact(Below.refl _ _).drew | exact Below.refl _ _) ?_
    simp only[pick,List.getElem?_cons_succ,List.getElem?_cons_zero,List.drop_succ_cons,List.drop_zero]
    refine Zad (Zaa rfl) (by intro K o d hK;go_simp;exact hK _ (Below.refl _ _)) ?_
    refine Zad (Zaa rfl) (by intro K o d hK;go_simp;exact hK _ (Below.refl _ _)) ?_
    refine Zaj (v:=.agg (bysA nb)) (Zaa rfl) (by intro K o d hK;go_simp;refine(KNb.out _).mono ?_;rintro e w' ⟨rfl,hbw⟩;exact⟨_,rfl,hK _ hbw⟩) ?_
    refine Zad (Zaa rfl) (by intro K o d hK;go_simp;exact hK _ (Below.refl _ _)) ?_
    refine Zaj (v:=.agg (bysA ng)) (Zaa rfl) (by intro K o d hK;go_simp;refine(KNg.out _).mono ?_;rintro e w' ⟨rfl,hbw⟩;exact⟨_,rfl,hK _ hbw⟩) ?_
    refine Zad (Zaa rfl) (by intro K o d hK;go_simp;exact hK _ (Below.refl _ _)) ?_
    refine Zap ?_
    refine⟨Zox _ rfl rfl,fun nv hg0 hn0=>?_⟩
    intro W14 hb14 hblk
    have n_z_nv:z≠nv:=by have:=R13x0.out.2.2;omega
    have n_y_nv:y≠nv:=by have:=R13x1.out.2.2;omega
    have n_r_nv:r≠nv:=by have:=R13x2.out.2.2;omega
    have n_sv_nv:sv≠nv:=by have:=R13x3.out.2.2;omega
    have n_pv_nv:pv≠nv:=by have:=R13x4.out.2.2;omega
    have n_wv_nv:wv≠nv:=by have:=R13x5.out.2.2;omega
    have n_cv_nv:cv≠nv:=by have:=R13x6.out.2.2;omega
    have n_av_nv:av≠nv:=by have:=R13x7.out.2.2;omega
    have l_nv:w.heap.size≤nv:=Nat.le_trans B13.out.size hg0
    have V14x0:=Lib.hid (RowAt.of (hblk 0 nv _ _ rfl rfl))
    clear hblk
    clear R13x0a R13x0b R13x0c R13x1a R13x1b R13x1c R13x2a R13x2b R13x2c R13x3a R13x3b R13x3c R13x4a R13x4b R13x4c R13x5a R13x5b R13x5c R13x6a R13x6b R13x6c R13x7a R13x7b R13x7c
    have R14x0:=Lib.hid (R13x0.out.grow hb14)
    have R14x1:=Lib.hid (R13x1.out.grow hb14)
    have R14x2:=Lib.hid (R13x2.out.grow hb14)
    have R14x3:=Lib.hid (R13x3.out.grow hb14)
    have R14x4:=Lib.hid (R13x4.out.grow hb14)
    have R14x5:=Lib.hid (R13x5.out.grow hb14)
    have R14x6:=Lib.hid (R13x6.out.grow hb14)
    have R14x7:=Lib.hid (R13x7.out.grow hb14)
    have B14:=Lib.hid (B13.out.trans (hb14.mono B13.out.size))
    clear hb14 B13 R13x0 R13x1 R13x2 R13x3 R13x4 R13x5 R13x6 R13x7
    obtain⟨R14x0a,R14x0b,R14x0c⟩:=R14x0.out
    obtain⟨R14x1a,R14x1b,R14x1c⟩:=R14x1.out
    obtain⟨R14x2a,R14x2b,R14x2c⟩:=R14x2.out
    obtain⟨R14x3a,R14x3b,R14x3c⟩:=R14x3.out
    obtain⟨R14x4a,R14x4b,R14x4c⟩:=R14x4.out
    obtain⟨R14x5a,R14x5b,R14x5c⟩:=R14x5.out
    obtain⟨R14x6a,R14x6b,R14x6c⟩:=R14x6.out
    obtain⟨R14x7a,R14x7b,R14x7c⟩:=R14x7.out
    obtain⟨V14x0a,V14x0b,V14x0c⟩:=V14x0.out
    go_wp2_with fail
    have R15x0:=Lib.hid (R14x0.out.other n_z_nv (bysA Hn))
    have R15x1:=Lib.hid (R14x1.out.other n_y_nv (bysA Hn))
    have R15x2:=Lib.hid (R14x2.out.other n_r_nv (bysA Hn))
    have R15x3:=Lib.hid (R14x3.out.other n_sv_nv (bysA Hn))
    have R15x4:=Lib.hid (R14x4.out.other n_pv_nv (bysA Hn))
    have R15x5:=Lib.hid (R14x5.out.other n_wv_nv (bysA Hn))
    have R15x6:=Lib.hid (R14x6.out.other n_cv_nv (bysA Hn))
    have R15x7:=Lib.hid (R14x7.out.other n_av_nv (bysA Hn))
    have R15x8:=Lib.hid (V14x0.out.set (bysA Hn))
    have B15:=Lib.hid (Zac B14.out l_nv (bysA Hn))
    clear B14 R14x0 R14x1 R14x2 R14x3 R14x4 R14x5 R14x6 R14x7 V14x0 R14x0a R14x0b R14x0c R14x1a R14x1b R14x1c R14x2a R14x2b R14x2c R14x3a R14x3b R14x3c R14x4a R14x4b R14x4c R14x5a R14x5b R14x5c R14x6a R14x6b R14x6c R14x7a R14x7b R14x7c V14x0a V14x0b V14x0c
    generalize W14.setRow nv (bysA Hn)=W15 at *
    obtain⟨R15x0a,R15x0b,R15x0c⟩:=R15x0.out
    obtain⟨R15x1a,R15x1b,R15x1c⟩:=R15x1.out
    obtain⟨R15x2a,R15x2b,R15x2c⟩:=R15x2.out
    obtain⟨R15x3a,R15x3b,R15x3c⟩:=R15x3.out
    obtain⟨R15x4a,R15x4b,R15x4c⟩:=R15x4.out
    obtain⟨R15x5a,R15x5b,R15x5c⟩:=R15x5.out
    obtain⟨R15x6a,R15x6b,R15x6c⟩:=R15x6.out
    obtain⟨R15x7a,R15x7b,R15x7c⟩:=R15x7.out
    obtain⟨R15x8a,R15x8b,R15x8c⟩:=R15x8.out
    refine Zao W15 [0,1,2,3,4,5] [false,false,false,false,false,false] [] [] 6 (by kernel_rfl) rfl (by kernel_rfl) (by intro c a d v w h;cases d<;>exact h) (by first | exact(Below.refl _ _).drew | exact Below.refl _ _) ?_
    simp only[pick,List.getElem?_cons_succ,List.getElem?_cons_zero,List.drop_succ_cons,List.drop_zero]
    refine Zad (Zaa rfl) (by intro K o d hK;go_simp;exact hK _ (Below.refl _ _)) ?_
    refine Zad (Zaa rfl) (by intro K o d hK;go_simp;exact hK _ (Below.refl _ _)) ?_
    refine Zad (Zaa rfl) (by intro K o d hK;go_simp;exact hK _ (Below.refl _ _)) ?_
    refine Zad (Zaa rfl) (by intro K o d hK;go_simp;exact hK _ (Below.refl _ _)) ?_
    refine Zaj (v:=.agg (bysA tg)) (Zaa rfl) (by intro K o d hK;go_simp;refine(KTg.out _ (HT.out.grow (ZaM _ _ _ B15.out B15.out.size))).mono ?_;rintro e w' ⟨rfl,hbw⟩;exact⟨_,rfl,hK _ hbw⟩) ?_
    refine Zad (Zaa rfl) (by intro K o d hK;go_simp;exact hK _ (Below.refl _ _)) ?_
    refine Zap ?_
    intro W16 hb16 hblk
    clear hblk
    clear R15x0a R15x0b R15x0c R15x1a R15x1b R15x1c R15x2a R15x2b R15x2c R15x3a R15x3b R15x3c R15x4a R15x4b R15x4c R15x5a R15x5b R15x5c R15x6a R15x6b R15x6c R15x7a R15x7b R15x7c R15x8a R15x8b R15x8c
    have R16x0:=Lib.hid (R15x0.out.grow hb16)
    have R16x1:=Lib.hid (R15x1.out.grow hb16)
    have R16x2:=Lib.hid (R15x2.out.grow hb16)
    have R16x3:=Lib.hid (R15x3.out.grow hb16)
    have R16x4:=Lib.hid (R15x4.out.grow hb16)
    have R16x5:=Lib.hid (R15x5.out.grow hb16)
    have R16x6:=Lib.hid (R15x6.out.grow hb16)
    have R16x7:=Lib.hid (R15x7.out.grow hb16)
    have R16x8:=Lib.hid (R15x8.out.grow hb16)
    have B16:=Lib.hid (B15.out.trans (hb16.mono B15.out.size))
    clear hb16 B15 R15x0 R15x1 R15x2 R15x3 R15x4 R15x5 R15x6 R15x7 R15x8
    obtain⟨R16x0a,R16x0b,R16x0c⟩:=R16x0.out
    obtain⟨R16x1a,R16x1b,R16x1c⟩:=R16x1.out
    obtain⟨R16x2a,R16x2b,R16x2c⟩:=R16x2.out
    obtain⟨R16x3a,R16x3b,R16x3c⟩:=R16x3.out
    obtain⟨R16x4a,R16x4b,R16x4c⟩:=R16x4.out
    obtain⟨R16x5a,R16x5b,R16x5c⟩:=R16x5.out
    obtain⟨R16x6a,R16x6b,R16x6c⟩:=R16x6.out
    obtain⟨R16x7a,R16x7b,R16x7c⟩:=R16x7.out
    obtain⟨R16x8a,R16x8b,R16x8c⟩:=R16x8.out
    go_wp2_with fail
    refine bodyPost_ret (v:=.tuple #[.agg (Zbi st),.int .i64 0]) (Zbm Tryz.results18 hsts _ _ _ rfl (by go_simp) (by go_simp) rfl) rfl ⟨rfl,?_⟩
    exact Zac B16.out l_r _
 ·rw[if_pos h2] at HE0
  obtain rfl:er=6:=HE0.out
  rw[decide_eq_false h2] at KE
  obtain rfl:ans=.zero:=by rw[HAn.out,if_neg (show ¬(6:Int)=0 by decide)]
  clear h2 HE0 HAn
  refine(KE.out _ _ _ (Bs0.some (ZaG R5x4.out)) (Bs0.some hBy)).mono ?_
  rintro e W6 ⟨rfl,hb6⟩
  have R6x0:=Lib.hid (R5x0.out.grow hb6)
  have R6x1:=Lib.hid (R5x1.out.grow hb6)
  have R6x2:=Lib.hid (R5x2.out.grow hb6)
  have R6x3:=Lib.hid (R5x3.out.grow hb6)
  have R6x4:=Lib.hid (R5x4.out.grow hb6)
  have B6:=Lib.hid (B5.out.trans (hb6.mono B5.out.size))
  clear hb6 B5 R5x0 R5x1 R5x2 R5x3 R5x4
  clear hBy
  obtain⟨R6x0a,R6x0b,R6x0c⟩:=R6x0.out
  obtain⟨R6x1a,R6x1b,R6x1c⟩:=R6x1.out
  obtain⟨R6x2a,R6x2b,R6x2c⟩:=R6x2.out
  obtain⟨R6x3a,R6x3b,R6x3c⟩:=R6x3.out
  obtain⟨R6x4a,R6x4b,R6x4c⟩:=R6x4.out
  go_wp2_with fail
  refine bodyPost_ret (v:=.tuple #[.agg (Zbi .zero),.int .i64 6]) (Zbm Tryz.results18 hzz _ _ _ rfl (by go_simp) (by go_simp) rfl) rfl ⟨rfl,?_⟩
  first | exact Zac B6.out l_r _ | exact Zab (Zac B6.out l_r _) _ | exact Zac (Zac B6.out l_av _) l_r _
@[go_sem] theorem Zun (w:World):(mkS (.int .i64 32) (.int .i64 32)).run Tryz.prog w=.ok (.slice (some ⟨w.heap.size,0,none⟩) 32 32) (w.alloc (.cells (bysA (zs 32)) 5)):=Zey w 32 (by decide)
def IsRS (w:World) (v:Value) (x:Stp):Prop:=∃ h,v=.agg (rstA x.c h x.s x.t)∧h.size=49∧((x.nx=zs 208∧h=rhA (zs 32) (.slice none 0 0) (zs 16))∨∃ p c,h=rhA (x.nx.take 32) (.slice p 160 c) (x.nx.drop 192)∧Bs0 w p ((x.nx.drop 32).take 160)∧(p=none→c=0))
theorem BytesAt.setRow {w:World} {g o n:Nat} {l:List Nat} (h:BytesAt w g o l) (hne:g≠n) (c:Array Value):BytesAt (w.setRow n c) g o l :=
 ⟨by rw[size_setRow];exact h.1,fun i hi=>by rw[World.cell?_of_block (setRow_other w n g c hne)];exact h.2 i hi⟩
set_option maxHeartbeats 4000000 in
set_option maxRecDepth 100000 in
theorem Zml (o a b g:List Nat) (p:Option Addr) (cap:Nat) (ho:o.length=32) (hob:∀i,o.getD i 0<256) (ha:a.length=32) (hab:∀i,a.getD i 0<256) (hb:b.length=160) (hbb:∀i,b.getD i 0<256) (hg:g.length=16) (hpc:p=none→cap=0) (w:World) (hB:Bs0 w p b) :
  Calls Tryz.prog 19 #[.agg (bysA o),.agg (rhA a (.slice p 160 cap) g)] w fun e w'=>∃ v,e=.returned (.tuple #[v,.int .i64 (unwE o a b g)])∧IsRS w' v (unwV o a b g)∧Below w.heap.size w w':=by
 have hos:=Zae ho
 have has:=Zae ha
 have hgs:=Zae hg
 have has32:=Lib.hid ha
 have hrz:=Zcw
 have hz32:=Zae (Zah 32)
 have hrz1:Za2 rstZ=true:=Zg9 (Zhs _ _ _ _ _)
 have hhs:=Zck (.slice p 160 cap) ha hg
 have HBb:=Lib.hid (fun (W:World) (h:Below w.heap.size w W)=>hB.grow h)
 have HZ:=Lib.hid (fun (W:World)=>show IsRS W (.agg rstZ) .zero from ⟨_,rfl,Zdh,.inl ⟨rfl,rfl⟩⟩)
 have KS:=Lib.hid (fun (W:World)=>Zgl o a ho hob ha hab W)
 obtain⟨s,es⟩:∃s,s=keyB (shB o a):=⟨_,rfl⟩
 have hs:s.length=32:=by rw[es];exact ZaI _
 have hsb:∀i,s.getD i 0<256:=by rw[es];exact Zc1 _
 have hss:=Zae hs
 have KP:=Lib.hid (fun (W:World) (h:Bs0 W p b)=>Zlf s b p 160 cap hs hsb hb.symm (by rw[hb];decide) hbb hpc W h)
 have hPs:=Zae (Za6 s b)
 have KSt:=Lib.hid (fun (W:World)=>Zjw s 192 hs hsb (Nat.le_refl _) W)
 rw[List.take_of_length_le (by rw[ZaU];exact Nat.le_refl _)] at KSt
 have KJ:=Lib.hid (fun (W:World) (q:Option Addr) (c:Nat) (h1:Bs0 W p b) (h2:Bs0 W q (zs 32)) (h3:q=none→c=0)=>Zex cap c 160 32 p q b (zs 32) W hb.symm (Zah 32).symm h1 hpc h2 h3 (by rw[hb,Zah];decide))
 have hbz:(b++zs 32).length=192:=by rw[List.length_append,hb,Zah]
 have KM:=Lib.hid (fun (W:World) (q1 q2:Option Addr) (c1 c2:Nat) (h1:Bs0 W q1 (hst s)) (h2:Bs0 W q2 (b++zs 32))=>show Calls Tryz.prog 39 #[.slice q1 192 c1,.slice q2 192 c2] W fun e w'=>∃ v,e=.returned v∧OwnB w' W.heap.size v (opn s b)∧Below W.heap.size W w' from Zpl c1 c2 192 q1 q2 (hst s) (b++zs 32) W (ZaU s).symm hbz.symm (Zd3 s) (ZaN hbb (Zbr _)) h1 h2 (by decide))
 have Hbz:=Lib.hid hbz
 have hOl:=ZcX (s:=s) hb
 have hOb:=ZlL (s:=s) hbb
 have HOl:=Lib.hid hOl
 have HE:=Lib.hid (show unwE o a b g=(if shB o a=0 then 7 else if ¬prf s b=g then 6 else if okB ((opn s b).take 16)=false then 5 else if nxA s a=0 then 7 else 0) by unfold unwE;rw[es])
 have HV:=Lib.hid (show unwV o a b g=if unwE o a b g=0 then Zd7 a b s else .zero by unfold unwV;rw[es])
 have hO16:((opn s b).take 16).length=16:=by rw[List.length_take,hOl];rfl
 have hG16:(((opn s b).drop 16).take 16).length=16:=by rw[List.length_take,List.length_drop,hOl];rfl
 have hO16s:=Zae hO16
 have hG16s:=Zae hG16
 have KD:=Lib.hid (fun (W:World)=>Zms ((opn s b).take 16) hO16 (Zbh hOb 16) W)
 have Hd0:=Lib.hid (fun (h:okB ((opn s b).take 16)=true)=>show decV ((opn s b).take 16)=ofB ((opn s b).take 16)∧decE ((opn s b).take 16)=0 by unfold decV decE;rw[if_pos h,if_pos h];exact⟨rfl,rfl⟩)
 have Hd1:=Lib.hid (fun (h:okB ((opn s b).take 16)=false)=>show decE ((opn s b).take 16)=5 by unfold decE;rw[h];rfl)
 have hdi:=Znt hO16
 have hds:=Zax hdi
 have KB:=Lib.hid (fun (W:World)=>Zn2 s a hs hsb ha hab W)
 have hbls:=Zae (Zco s a)
 have KN:=Lib.hid (fun (W:World)=>show Calls Tryz.prog 53 #[.agg (bysA (bli s a)),.agg (bysA a)] W fun e w'=>e=.returned (.tuple #[.agg (bysA (keyB (nxA s a))),.int .i64 (F.errOf (nxA s a))])∧Below W.heap.size W w' from Zgl (bli s a) a (Zco s a) (ZiI s a) ha hab W)
 have hna:=ZaI (nxA s a)
 have hnas:=Zae hna
 have KT:=Lib.hid (fun (W:World)=>ZoC s hs hsb W)
 have htl:=Zb5 s
 have hts:=Zae htl
 have HS:=Lib.hid (show (Zd7 a b s).c=ofB ((opn s b).take 16)∧(Zd7 a b s).nx.take 32=keyB (nxA s a)∧((Zd7 a b s).nx.drop 32).take 160=(opn s b).drop 32∧(Zd7 a b s).nx.drop 192=((opn s b).drop 16).take 16∧(Zd7 a b s).s=s∧(Zd7 a b s).t=tagS s from by
  have hnx:(Zd7 a b s).nx=keyB (nxA s a)++(opn s b).drop 32++((opn s b).drop 16).take 16:=rfl
  have hdl:((opn s b).drop 32).length=160:=by rw[List.length_drop,hOl]
  refine⟨rfl,?_,?_,?_,rfl,rfl⟩
  ·rw[hnx,List.append_assoc,List.take_append_of_le_length (by rw[ZaI];exact Nat.le_refl _),List.take_of_length_le (by rw[ZaI];exact Nat.le_refl _)]
  ·rw[hnx,List.append_assoc,show 32=(keyB (nxA s a)).length from (ZaI _).symm,List.drop_left,ZaI,List.take_append_of_le_length (by rw[hdl];exact Nat.le_refl _),List.take_of_length_le (by rw[hdl];exact Nat.le_refl _)]
  ·rw[hnx,show 192=(keyB (nxA s a)++(opn s b).drop 32).length by rw[List.length_append,ZaI,hdl],List.drop_left])
 rw[←es] at KS
 clear es
 generalize opn s b=O at *
 obtain⟨d,ed⟩:∃z,z=decV (O.take 16):=⟨_,rfl⟩
 obtain⟨dE,edE⟩:∃z,z=decE (O.take 16):=⟨_,rfl⟩
 rw[←ed] at KD Hd0 hdi hds
 rw[←edE] at KD Hd0 Hd1
 clear ed edE
 generalize bli s a=bl at *
 generalize tagS s=tg at *
 by_cases h1:shB o a=0
 ·rw[if_pos h1] at HE
  rw[HE.out,if_neg (by decide)] at HV
  rw[Zcp h1] at KS
  clear h1
  go_enter Tryz.func19,Tryz.ntmps19
  go_wp2_with fail
  generalize hW:World.alloc _ _=W0
  have R0x0:=Lib.hid (show RowAt W0 (w.heap.size) (bysA o) by rw[←hW];clear hW;exact⟨by go_simp,by first | (go_simp;done) | (go_simp;rfl),by go_simp⟩)
  have R0x1:=Lib.hid (show RowAt W0 (w.heap.size+1) (rhA a (.slice p 160 cap) g) by rw[←hW];clear hW;exact⟨by go_simp,by first | (go_simp;done) | (go_simp;rfl),by go_simp⟩)
  have R0x2:=Lib.hid (show RowAt W0 (w.heap.size+1+1) (rstZ) by rw[←hW];clear hW;exact⟨by go_simp,by first | (go_simp;done) | (go_simp;rfl),by go_simp⟩)
  have B0:=Lib.hid (show Below w.heap.size w W0 by rw[←hW];repeat (first | apply Zab | exact Below.refl _ _))
  clear hW
  have l_ow:w.heap.size≤w.heap.size:=by omega
  have l_hh:w.heap.size≤w.heap.size+1:=by omega
  have n_ow_hh:w.heap.size≠w.heap.size+1:=by omega
  have l_r:w.heap.size≤w.heap.size+1+1:=by omega
  have n_ow_r:w.heap.size≠w.heap.size+1+1:=by omega
  have n_hh_r:w.heap.size+1≠w.heap.size+1+1:=by omega
  generalize w.heap.size+1+1=r at *
  generalize w.heap.size+1=hh at *
  obtain⟨ow,eow⟩:∃z,z=w.heap.size:=⟨_,rfl⟩
  rw[←eow] at R0x0 n_ow_hh n_ow_r ⊢
  have l_ow:w.heap.size≤ow:=by rw[eow];exact Nat.le_refl _
  clear eow
  refine(KS.out _).mono ?_
  rintro e W1 ⟨rfl,hb1⟩
  have R1x0:=Lib.hid (R0x0.out.grow hb1)
  have R1x1:=Lib.hid (R0x1.out.grow hb1)
  have R1x2:=Lib.hid (R0x2.out.grow hb1)
  have B1:=Lib.hid (B0.out.trans (hb1.mono B0.out.size))
  clear hb1 B0 R0x0 R0x1 R0x2
  obtain⟨R1x0a,R1x0b,R1x0c⟩:=R1x0.out
  obtain⟨R1x1a,R1x1b,R1x1c⟩:=R1x1.out
  obtain⟨R1x2a,R1x2b,R1x2c⟩:=R1x2.out
  go_wp2_with fail
  refine bodyPost_ret (v:=.tuple #[.agg rstZ,.int .i64 7]) (Zbk Tryz.results19 Zcw _ _ r rfl ?_ ?_ rfl) rfl ?_
  ·go_simp
  ·go_simp
  ·exact⟨.agg rstZ,by rw[HE.out],by rw[HV.out];exact HZ.out _,by first | exact Zac B1.out l_r _ | exact Zab (Zac B1.out l_r _) _⟩
 rw[if_neg h1] at HE
 rw[Zc5 h1] at KS
 clear h1
 by_cases h2:prf s b=g
 ·rw[if_neg (fun h=>h h2)] at HE
  rw[h2] at KP hPs
  clear h2
  obtain⟨P,eP⟩:∃P,P=g:=⟨_,rfl⟩
  have hPg:(P=g)=True:=eq_true eP
  rw[←eP] at KP
  go_enter Tryz.func19,Tryz.ntmps19
  go_wp2_with fail
  generalize hW:World.alloc _ _=W0
  have R0x0:=Lib.hid (show RowAt W0 (w.heap.size) (bysA o) by rw[←hW];clear hW;exact⟨by go_simp,by first | (go_simp;done) | (go_simp;rfl),by go_simp⟩)
  have R0x1:=Lib.hid (show RowAt W0 (w.heap.size+1) (rhA a (.slice p 160 cap) g) by rw[←hW];clear hW;exact⟨by go_simp,by first | (go_simp;done) | (go_simp;rfl),by go_simp⟩)
  have R0x2:=Lib.hid (show RowAt W0 (w.heap.size+1+1) (rstZ) by rw[←hW];clear hW;exact⟨by go_simp,by first | (go_simp;done) | (go_simp;rfl),by go_simp⟩)
  have B0:=Lib.hid (show Below w.heap.size w W0 by rw[←hW];repeat (first | apply Zab | exact Below.refl _ _))
  clear hW
  have l_ow:w.heap.size≤w.heap.size:=by omega
  have l_hh:w.heap.size≤w.heap.size+1:=by omega
  have n_ow_hh:w.heap.size≠w.heap.size+1:=by omega
  have l_r:w.heap.size≤w.heap.size+1+1:=by omega
  have n_ow_r:w.heap.size≠w.heap.size+1+1:=by omega
  have n_hh_r:w.heap.size+1≠w.heap.size+1+1:=by omega
  generalize w.heap.size+1+1=r at *
  generalize w.heap.size+1=hh at *
  obtain⟨ow,eow⟩:∃z,z=w.heap.size:=⟨_,rfl⟩
  rw[←eow] at R0x0 n_ow_hh n_ow_r ⊢
  have l_ow:w.heap.size≤ow:=by rw[eow];exact Nat.le_refl _
  clear eow
  refine(KS.out _).mono ?_
  rintro e W1 ⟨rfl,hb1⟩
  have R1x0:=Lib.hid (R0x0.out.grow hb1)
  have R1x1:=Lib.hid (R0x1.out.grow hb1)
  have R1x2:=Lib.hid (R0x2.out.grow hb1)
  have B1:=Lib.hid (B0.out.trans (hb1.mono B0.out.size))
  clear hb1 B0 R0x0 R0x1 R0x2
  obtain⟨R1x0a,R1x0b,R1x0c⟩:=R1x0.out
  obtain⟨R1x1a,R1x1b,R1x1c⟩:=R1x1.out
  obtain⟨R1x2a,R1x2b,R1x2c⟩:=R1x2.out
  go_wp2_with fail
  have n_ow_sv:ow≠W1.heap.size:=Nat.ne_of_lt R1x0.out.2.2
  have n_hh_sv:hh≠W1.heap.size:=Nat.ne_of_lt R1x1.out.2.2
  have n_r_sv:r≠W1.heap.size:=Nat.ne_of_lt R1x2.out.2.2
  have l_sv:w.heap.size≤W1.heap.size:=B1.out.size
  have hb2:=Zab (Below.refl W1.heap.size W1) (.cells (bysA s) 23)
  have N2:=Lib.hid (RowAt.of (Zas W1 (.cells (bysA s) 23)))
  have R2x0:=Lib.hid (R1x0.out.grow hb2)
  have R2x1:=Lib.hid (R1x1.out.grow hb2)
  have R2x2:=Lib.hid (R1x2.out.grow hb2)
  have B2:=Lib.hid (B1.out.trans (hb2.mono B1.out.size))
  clear hb2 B1 R1x0 R1x1 R1x2 R1x0a R1x0b R1x0c R1x1a R1x1b R1x1c R1x2a R1x2b R1x2c
  generalize W1.heap.size=sv at *
  generalize W1.alloc (.cells (bysA s) 23)=W2 at *
  obtain⟨R2x0a,R2x0b,R2x0c⟩:=R2x0.out
  obtain⟨R2x1a,R2x1b,R2x1c⟩:=R2x1.out
  obtain⟨R2x2a,R2x2b,R2x2c⟩:=R2x2.out
  obtain⟨N2a,N2b,N2c⟩:=N2.out
  go_wp2_with fail
  clear R2x0a R2x0b R2x0c R2x1a R2x1b R2x1c R2x2a R2x2b R2x2c N2a N2b N2c
  refine Za3 W2 7 (fun w w'=>Below w.heap.size w w') (ZfY [fixV (.agg (bysA s)),fixV (.pointer (some ⟨hh,32,none⟩)),fixV (.slice p 160 cap),fixV (.agg (bysA P)),fixV (.pointer (some ⟨hh,33,none⟩)),fixV (.agg (bysA g)),fixV (.bool false)]) [] [0,1,2,3,4,5,6] [some 26,some 27,some 28,some 29,some 30,some 31,some 32] (by kernel_rfl) (by kernel_rfl) (by kernel_rfl) (by kernel_rfl) (by first | exact(Below.refl _ _).drew | exact Below.refl _ _) (fun w w' h h'=>h.trans (h'.mono h.size)) (ZbS ⟨Zai _,Zai _,Zai _,Zai _,Zai _,Zai _,Zai _,trivial⟩) ?_
  intro vals
  simp only[List.take_succ_cons,List.take_zero]
  refine⟨(Zak [] [] (by kernel_rfl) rfl (fun K w hb hdq hK=>?_)),?_⟩
  ·obtain⟨x1,x2,x3⟩:=N2.out.grow hb
   simp only[putZ]
   refine⟨Zaa rfl,?_⟩
   go_simp
   exact hK _ _ _ (Below.refl _ _) rfl
  refine⟨(Zak [] [] (by kernel_rfl) rfl (fun K w hb hdq hK=>?_)),?_⟩
  ·simp only[putZ]
   refine⟨Zaa rfl,?_⟩
   go_simp
   exact hK _ _ _ (Below.refl _ _) rfl
  refine⟨(Zak [1] [some 27] (by kernel_rfl) (by kernel_rfl) (fun K w hb hdq hK=>?_)),?_⟩
  ·have d1:vals 1=.pointer (some ⟨hh,32,none⟩):=hdq 1 (by simp)
   obtain⟨x1,x2,x3⟩:=R2x1.out.grow hb
   have hcx:=(R2x1.out.grow hb).cellAt 32 (Zir _ has32.out)
   simp only[List.map_cons,List.map_nil,putZ,d1]
   refine⟨Zaa rfl,?_⟩
   go_simp
   exact hK _ _ _ (Below.refl _ _) rfl
  refine⟨(ZaW [0,2] [some 26,some 28] (by kernel_rfl) (by kernel_rfl) (fun K w hb hdq hK=>?_)),?_⟩
  ·have d0:vals 0=.agg (bysA s):=hdq 0 (by simp)
   have d2:vals 2=.slice p 160 cap:=hdq 2 (by simp)
   simp only[List.map_cons,List.map_nil,putZ,d0,d2]
   refine⟨Zaa rfl,?_⟩
   go_simp
   refine(KP.out w (HBb.out w (B2.out.trans (hb.mono B2.out.size)))).mono ?_
   rintro e w' ⟨rfl,hb'⟩
   exact⟨_,rfl,hK _ _ hb' rfl⟩
  refine⟨(Zak [] [] (by kernel_rfl) rfl (fun K w hb hdq hK=>?_)),?_⟩
  ·simp only[putZ]
   refine⟨Zaa rfl,?_⟩
   go_simp
   exact hK _ _ _ (Below.refl _ _) rfl
  refine⟨(Zak [4] [some 30] (by kernel_rfl) (by kernel_rfl) (fun K w hb hdq hK=>?_)),?_⟩
  ·have d4:vals 4=.pointer (some ⟨hh,33,none⟩):=hdq 4 (by simp)
   obtain⟨x1,x2,x3⟩:=R2x1.out.grow hb
   simp only[List.map_cons,List.map_nil,putZ,d4]
   refine⟨Zaa rfl,?_⟩
   go_simp
   exact hK _ _ _ (Below.refl _ _) rfl
  refine⟨(Zak [3,5] [some 29,some 31] (by kernel_rfl) (by kernel_rfl) (fun K w hb hdq hK=>?_)),?_⟩
  ·have d3:vals 3=.agg (bysA P):=hdq 3 (by simp)
   have d5:vals 5=.agg (bysA g):=hdq 5 (by simp)
   simp only[List.map_cons,List.map_nil,putZ,d3,d5]
   refine⟨Zaa rfl,?_⟩
   go_simp
   exact hK _ _ _ (Below.refl _ _) rfl
  intro W3 hb3 hR3
  obtain e6:vals 6=.bool false:=hR3 6 (by simp)
  clear hR3
  simp only[List.map_cons,List.map_nil,putZ,e6,pick]
  generalize vals 0=q3_0
  generalize vals 1=q3_1
  generalize vals 2=q3_2
  generalize vals 3=q3_3
  generalize vals 4=q3_4
  generalize vals 5=q3_5
  have R3x0:=Lib.hid (R2x0.out.grow hb3)
  have R3x1:=Lib.hid (R2x1.out.grow hb3)
  have R3x2:=Lib.hid (R2x2.out.grow hb3)
  have R3x3:=Lib.hid (N2.out.grow hb3)
  have B3:=Lib.hid (B2.out.trans (hb3.mono B2.out.size))
  clear hb3 B2 R2x0 R2x1 R2x2 N2
  clear e6
  clear vals
  obtain⟨R3x0a,R3x0b,R3x0c⟩:=R3x0.out
  obtain⟨R3x1a,R3x1b,R3x1c⟩:=R3x1.out
  obtain⟨R3x2a,R3x2b,R3x2c⟩:=R3x2.out
  obtain⟨R3x3a,R3x3b,R3x3c⟩:=R3x3.out
  go_step
  go_simp
  go_wp2_with fail
  clear R3x0a R3x0b R3x0c R3x1a R3x1b R3x1c R3x2a R3x2b R3x2c R3x3a R3x3b R3x3c
  have Hrl:=Lib.hid R3x2.out.2.2
  refine Za3 W3 7 (fun w w'=>Below w.heap.size w w') (ZfY [fixV (.agg (bysA s)),slV (hst s),fixV (.pointer (some ⟨hh,32,none⟩)),fixV (.slice p 160 cap),slV (zs 32),ownV W3.heap.size (b++zs 32),ownV W3.heap.size (O)]) [7] [0,1,2,3,4,5,6] [some 34,some 35,some 36,some 37,some 38,some 39,some 40] (by kernel_rfl) (by kernel_rfl) (by kernel_rfl) (by kernel_rfl) (by first | exact(Below.refl _ _).drew | exact Below.refl _ _) (fun w w' h h'=>h.trans (h'.mono h.size)) (ZbS ⟨Zai _,ZgT _,Zai _,Zai _,ZgT _,Zde _ _,Zde _ _,trivial⟩) ?_
  intro vals
  simp only[List.take_succ_cons,List.take_zero]
  refine⟨(Zak [] [] (by kernel_rfl) rfl (fun K w hb hdq hK=>?_)),?_⟩
  ·obtain⟨x1,x2,x3⟩:=R3x3.out.grow hb
   simp only[putZ]
   refine⟨Zaa rfl,?_⟩
   go_simp
   exact hK _ _ _ (Below.refl _ _) rfl
  refine⟨(ZaW [0] [some 34] (by kernel_rfl) (by kernel_rfl) (fun K w hb hdq hK=>?_)),?_⟩
  ·have d0:vals 0=.agg (bysA s):=hdq 0 (by simp)
   simp only[List.map_cons,List.map_nil,putZ,d0]
   refine⟨Zaa rfl,?_⟩
   go_simp
   refine(KSt.out w).mono ?_
   rintro e w' ⟨q,c,rfl,k1,k2,k3,hb'⟩
   exact⟨_,rfl,hK _ _ hb' ⟨q,c,by rw[ZaU],k1,by rw[ZaU];exact k2,k3⟩⟩
  refine⟨(Zak [] [] (by kernel_rfl) rfl (fun K w hb hdq hK=>?_)),?_⟩
  ·simp only[putZ]
   refine⟨Zaa rfl,?_⟩
   go_simp
   exact hK _ _ _ (Below.refl _ _) rfl
  refine⟨(Zak [2] [some 36] (by kernel_rfl) (by kernel_rfl) (fun K w hb hdq hK=>?_)),?_⟩
  ·have d2:vals 2=.pointer (some ⟨hh,32,none⟩):=hdq 2 (by simp)
   obtain⟨x1,x2,x3⟩:=R3x1.out.grow hb
   have hcx:=(R3x1.out.grow hb).cellAt 32 (Zir _ has32.out)
   simp only[List.map_cons,List.map_nil,putZ,d2]
   refine⟨Zaa rfl,?_⟩
   go_simp
   exact hK _ _ _ (Below.refl _ _) rfl
  refine⟨(Zak [] [] (by kernel_rfl) rfl (fun K w hb hdq hK=>?_)),?_⟩
  ·simp only[putZ]
   refine⟨Zaa rfl,?_⟩
   go_simp
   exact hK _ _ _ (Zab (Below.refl _ _) _) ⟨some ⟨w.heap.size,0,none⟩,32,by rw[Zah],Bs0.some (ZaG (RowAt.of (Zas w _))),by rw[Zah];exact Nat.le_refl _,fun h=>by cases h⟩
  refine⟨(ZaW [3,4] [some 37,some 38] (by kernel_rfl) (by kernel_rfl) (fun K w hb hdq hK=>?_)),?_⟩
  ·have d3:vals 3=.slice p 160 cap:=hdq 3 (by simp)
   obtain⟨p4,c4,d4,y4,l4,z4⟩:SlV w (vals 4) (zs 32):=hdq 4 (by simp)
   rw[Zah] at d4
   simp only[List.map_cons,List.map_nil,putZ,d3,d4]
   refine⟨Zaa rfl,?_⟩
   go_simp
   refine(KJ.out w _ _ (HBb.out w (B3.out.trans (hb.mono B3.out.size))) y4 z4).mono ?_
   rintro e w' ⟨u,rfl,ho,hb'⟩
   exact⟨_,rfl,hK _ _ hb' (ho.base hb.size)⟩
  refine⟨(ZaW [1,5] [some 35,some 39] (by kernel_rfl) (by kernel_rfl) (fun K w hb hdq hK=>?_)),?_⟩
  ·obtain⟨p1,c1,d1,y1,l1,z1⟩:SlV w (vals 1) (hst s):=hdq 1 (by simp)
   rw[ZaU] at d1
   obtain⟨p5,c5,d5,y5,q5,z5⟩:=OwnB.bs (show OwnB w W3.heap.size (vals 5) (b++zs 32) from hdq 5 (by simp))
   rw[Hbz.out] at d5
   simp only[List.map_cons,List.map_nil,putZ,d1,d5]
   refine⟨Zaa rfl,?_⟩
   go_simp
   refine(KM.out w _ _ _ _ y1 y5).mono ?_
   rintro e w' ⟨u,rfl,ho,hb'⟩
   exact⟨_,rfl,hK _ _ hb' (ho.base hb.size)⟩
  intro W4 hb4 hR4
  obtain ho6:OwnB W4 W3.heap.size (vals 6) O:=hR4 6 (by simp)
  clear hR4
  simp only[List.map_cons,List.map_nil,putZ,pick,List.getElem?_cons_succ,List.getElem?_cons_zero]
  generalize vals 0=q4_0
  generalize vals 1=q4_1
  generalize vals 2=q4_2
  generalize vals 3=q4_3
  generalize vals 4=q4_4
  generalize vals 5=q4_5
  have R4x0:=Lib.hid (R3x0.out.grow hb4)
  have R4x1:=Lib.hid (R3x1.out.grow hb4)
  have R4x2:=Lib.hid (R3x2.out.grow hb4)
  have R4x3:=Lib.hid (R3x3.out.grow hb4)
  have B4:=Lib.hid (B3.out.trans (hb4.mono B3.out.size))
  clear hb4 B3 R3x0 R3x1 R3x2 R3x3
  generalize vals 6=v6 at *
  clear vals
  have hv:=ho6
  obtain⟨gO,cO,rfl,hgl,hgO,hcO⟩:=ho6.addr HOl.out (by decide)
  have n_gO_r:gO≠r:=by have:=Hrl.out;omega
  clear hgl Hrl
  have HO:=Lib.hid (hv.bytes hgO)
  have HO1:=Lib.hid (fun (W:World) (h:Below W4.heap.size W4 W)=>HO.out.grow h)
  have HgO:=Lib.hid hgO
  clear ho6 hv HO hgO
  obtain⟨R4x0a,R4x0b,R4x0c⟩:=R4x0.out
  obtain⟨R4x1a,R4x1b,R4x1c⟩:=R4x1.out
  obtain⟨R4x2a,R4x2b,R4x2c⟩:=R4x2.out
  obtain⟨R4x3a,R4x3b,R4x3c⟩:=R4x3.out
  go_step
  go_simp
  go_wp2_with fail
  generalize hW:World.alloc _ _=W5
  have F0:=Lib.hid (show RowAt W5 W4.heap.size (bysA (zs 16)) by rw[←hW];clear hW;exact⟨by go_simp,by first | (go_simp;done) | (go_simp;rfl),by go_simp⟩)
  have G0:=Lib.hid (show RowAt W5 (W4.heap.size+1) (bysA (zs 16)) by rw[←hW];clear hW;exact⟨by go_simp,by first | (go_simp;done) | (go_simp;rfl),by go_simp⟩)
  have B5:=Lib.hid (show Below W4.heap.size W4 W5 by rw[←hW];repeat (first | apply Zab | exact Below.refl _ _))
  clear hW
  have hl_ga:W4.heap.size≤W4.heap.size+1:=by omega
  have hl_fi:W4.heap.size≤W4.heap.size:=Nat.le_refl _
  have n_fi_ga:W4.heap.size≠W4.heap.size+1:=by omega
  have n_gO_fi:gO≠W4.heap.size:=by have:=HgO.out;omega
  have n_gO_ga:gO≠W4.heap.size+1:=by have:=HgO.out;omega
  have n_ow_fi:ow≠W4.heap.size:=Nat.ne_of_lt R4x0.out.2.2
  have n_ow_ga:ow≠W4.heap.size+1:=by have:=R4x0.out.2.2;omega
  have n_hh_fi:hh≠W4.heap.size:=Nat.ne_of_lt R4x1.out.2.2
  have n_hh_ga:hh≠W4.heap.size+1:=by have:=R4x1.out.2.2;omega
  have n_r_fi:r≠W4.heap.size:=Nat.ne_of_lt R4x2.out.2.2
  have n_r_ga:r≠W4.heap.size+1:=by have:=R4x2.out.2.2;omega
  have n_sv_fi:sv≠W4.heap.size:=Nat.ne_of_lt R4x3.out.2.2
  have n_sv_ga:sv≠W4.heap.size+1:=by have:=R4x3.out.2.2;omega
  have l_fi:w.heap.size≤W4.heap.size:=B4.out.size
  have l_ga:w.heap.size≤W4.heap.size+1:=Nat.le_trans l_fi hl_ga
  obtain⟨ga,ega⟩:∃z,z=W4.heap.size+1:=⟨_,rfl⟩
  rw[←ega] at G0 hl_ga n_fi_ga n_gO_ga n_ow_ga n_hh_ga n_r_ga n_sv_ga l_ga ⊢
  clear ega
  obtain⟨fi,efi⟩:∃z,z=W4.heap.size:=⟨_,rfl⟩
  rw[←efi] at F0 n_fi_ga n_gO_fi n_ow_fi n_hh_fi n_r_fi n_sv_fi l_fi ⊢
  have hl_fi:W4.heap.size≤fi:=by rw[efi];exact Nat.le_refl _
  clear efi
  clear R4x0a R4x0b R4x0c R4x1a R4x1b R4x1c R4x2a R4x2b R4x2c R4x3a R4x3b R4x3c
  go_loopw [11] (fun i wr=>∃ k:Nat,k≤16∧i=.int .i64 k∧RowAt wr fi (bysA (O.take k++zs (16-k)))∧RowAt wr ga (bysA ((O.drop 16).take k++zs (16-k)))∧Below W4.heap.size W4 wr) (fun i _=>16-(intOf i).toNat)
  case atStart=>exact⟨0,Nat.zero_le _,rfl,by rw[List.take_zero,List.nil_append];exact F0.out,by rw[List.take_zero,List.nil_append];exact G0.out,B5.out⟩
  case round =>
   obtain⟨k,hk,rfl,hf,hg',hbel⟩:=hrel
   by_cases hkn:k<16
   ·have hk0:(0:Int)≤(k:Int):=by omega
    have hk1:(k:Int)<16:=by omega
    have hk2:(k:Int)<192:=by omega
    have hc1:wr.cell? ⟨gO,k,none⟩=some (.int .u8 (O.getD k 0:Nat)):=by have:=(HO1.out _ hbel).2 k (by rw[HOl.out];omega);rwa [Nat.zero_add] at this
    have hT1:=ZmQ O 16 k hkn (by rw[HOl.out];decide)
    have hT2:=ZmQ (O.drop 16) 16 k hkn (by rw[List.length_drop,HOl.out];decide)
    have hlf:k<(bysA (O.take k++zs (16-k))).size:=by rw[Zal,List.length_append,List.length_take,Zah,HOl.out];omega
    have hlg:k<(bysA ((O.drop 16).take k++zs (16-k))).size:=by rw[Zal,List.length_append,List.length_take,List.length_drop,Zah,HOl.out];omega
    obtain⟨u1,hu1⟩:∃u,(bysA (O.take k++zs (16-k)))[k]?=some u:=⟨_,Array.getElem?_eq_getElem hlf⟩
    obtain⟨u2,hu2⟩:∃u,(bysA ((O.drop 16).take k++zs (16-k)))[k]?=some u:=⟨_,Array.getElem?_eq_getElem hlg⟩
    have hcf:=hf.cellAt k hu1
    have hff:=hf.frozenAt k
    have hs1:=Za8 hf k (.int .u8 (O.getD k 0:Nat))
    rw[ZbD,hT1] at hs1
    have hbel1:=Zac hbel hl_fi (bysA (O.take (k+1)++zs (16-(k+1))))
    have hg1:=hg'.other (Ne.symm n_fi_ga) (bysA (O.take (k+1)++zs (16-(k+1))))
    have hf1:=hf.set (bysA (O.take (k+1)++zs (16-(k+1))))
    have hc2:(wr.setRow fi (bysA (O.take (k+1)++zs (16-(k+1))))).cell? ⟨gO,16+k,none⟩=some (.int .u8 ((O.drop 16).getD k 0:Nat)):=by
     have:=(HO1.out _ hbel1).2 (16+k) (by rw[HOl.out];omega)
     rw[Nat.zero_add] at this
     rw[this];simp[List.getD,List.getElem?_drop]
    have hcg:=hg1.cellAt k hu2
    have hfg:=hg1.frozenAt k
    have hs2:=Za8 hg1 k (.int .u8 ((O.drop 16).getD k 0:Nat))
    rw[ZbD,hT2] at hs2
    have Hf:=Lib.hid (hf1.other n_fi_ga (bysA ((O.drop 16).take (k+1)++zs (16-(k+1)))))
    have Hg:=Lib.hid (hg1.set (bysA ((O.drop 16).take (k+1)++zs (16-(k+1)))))
    have Hb:=Lib.hid (Zac hbel1 hl_ga (bysA ((O.drop 16).take (k+1)++zs (16-(k+1)))))
    generalize wr.setRow fi (bysA (O.take (k+1)++zs (16-(k+1))))=w1 at *
    generalize w1.setRow ga (bysA ((O.drop 16).take (k+1)++zs (16-(k+1))))=w2 at *
    generalize O.getD k 0=y1 at *
    generalize (O.drop 16).getD k 0=y2 at *
    clear hf hg' hbel hT1 hT2 hlf hlg hu1 hu2 hbel1 hg1 hf1
    go_wp2_with fail
    go_roundw
    case rel=>exact⟨k+1,by omega,by go_num,Hf.out,Hg.out,Hb.out⟩
    case measure=>simp[intOf];omega
   ·obtain rfl:k=16:=by omega
    have hf2:RowAt wr fi (bysA (O.take 16)):=by rw[show O.take 16++zs (16-16)=O.take 16 from List.append_nil _] at hf;exact hf
    have hg2:RowAt wr ga (bysA ((O.drop 16).take 16)):=by rw[show (O.drop 16).take 16++zs (16-16)=(O.drop 16).take 16 from List.append_nil _] at hg';exact hg'
    have Hf:=Lib.hid hf2
    have Hg:=Lib.hid hg2
    clear hf hg' hf2 hg2 hk hkn F0 G0 B5
    have HO2x:=Lib.hid (HO1.out _ (Below.refl _ _))
    have Y40:=Lib.hid (HO2x.out.grow hbel)
    clear HO2x
    have R40x0:=Lib.hid (R4x0.out.grow hbel)
    have R40x1:=Lib.hid (R4x1.out.grow hbel)
    have R40x2:=Lib.hid (R4x2.out.grow hbel)
    have R40x3:=Lib.hid (R4x3.out.grow hbel)
    have B40:=Lib.hid (B4.out.trans (hbel.mono B4.out.size))
    clear hbel B4 R4x0 R4x1 R4x2 R4x3
    obtain⟨R40x0a,R40x0b,R40x0c⟩:=R40x0.out
    obtain⟨R40x1a,R40x1b,R40x1c⟩:=R40x1.out
    obtain⟨R40x2a,R40x2b,R40x2c⟩:=R40x2.out
    obtain⟨R40x3a,R40x3b,R40x3c⟩:=R40x3.out
    obtain⟨Hfa,Hfb,Hfc⟩:=Hf.out
    obtain⟨Hga,Hgb,Hgc⟩:=Hg.out
    go_wp2_with fail
    by_cases h3:okB (O.take 16)=false
    ·rw[if_pos h3] at HE
     rw[HE.out,if_neg (by decide)] at HV
     rw[Hd1.out h3] at KD
     clear h3 Hd0 Hd1 HS
     refine(KD.out _).mono ?_
     rintro e W41 ⟨rfl,hb41⟩
     clear R40x0a R40x0b R40x0c R40x1a R40x1b R40x1c R40x2a R40x2b R40x2c R40x3a R40x3b R40x3c Hfa Hfb Hfc Hga Hgb Hgc
     have Y41:=Lib.hid (Y40.out.grow hb41)
     clear Y40
     have R41x0:=Lib.hid (R40x0.out.grow hb41)
     have R41x1:=Lib.hid (R40x1.out.grow hb41)
     have R41x2:=Lib.hid (R40x2.out.grow hb41)
     have R41x3:=Lib.hid (R40x3.out.grow hb41)
     have R41x4:=Lib.hid (Hf.out.grow hb41)
     have R41x5:=Lib.hid (Hg.out.grow hb41)
     have B41:=Lib.hid (B40.out.trans (hb41.mono B40.out.size))
     clear hb41 B40 R40x0 R40x1 R40x2 R40x3 Hf Hg
     obtain⟨R41x0a,R41x0b,R41x0c⟩:=R41x0.out
     obtain⟨R41x1a,R41x1b,R41x1c⟩:=R41x1.out
     obtain⟨R41x2a,R41x2b,R41x2c⟩:=R41x2.out
     obtain⟨R41x3a,R41x3b,R41x3c⟩:=R41x3.out
     obtain⟨R41x4a,R41x4b,R41x4c⟩:=R41x4.out
     obtain⟨R41x5a,R41x5b,R41x5c⟩:=R41x5.out
     go_wp2_with fail
     refine bodyPost_ret (v:=.tuple #[.agg rstZ,.int .i64 5]) (Zbk Tryz.results19 Zcw _ _ r rfl ?_ ?_ rfl) rfl ?_
     ·go_simp
     ·go_simp
     ·exact⟨.agg rstZ,by rw[HE.out],by rw[HV.out];exact HZ.out _,by first | exact Zac B41.out l_r _ | exact Zab (Zac B41.out l_r _) _⟩
    rw[if_neg h3] at HE
    have h3':okB (O.take 16)=true:=by simpa using h3
    obtain⟨e1,e2⟩:=Hd0.out h3'
    rw[e2] at KD
    have E1:=Lib.hid e1
    clear h3 h3' Hd0 Hd1 e2 e1
    refine(KD.out _).mono ?_
    rintro e W41 ⟨rfl,hb41⟩
    clear R40x0a R40x0b R40x0c R40x1a R40x1b R40x1c R40x2a R40x2b R40x2c R40x3a R40x3b R40x3c Hfa Hfb Hfc Hga Hgb Hgc
    have Y41:=Lib.hid (Y40.out.grow hb41)
    clear Y40
    have R41x0:=Lib.hid (R40x0.out.grow hb41)
    have R41x1:=Lib.hid (R40x1.out.grow hb41)
    have R41x2:=Lib.hid (R40x2.out.grow hb41)
    have R41x3:=Lib.hid (R40x3.out.grow hb41)
    have R41x4:=Lib.hid (Hf.out.grow hb41)
    have R41x5:=Lib.hid (Hg.out.grow hb41)
    have B41:=Lib.hid (B40.out.trans (hb41.mono B40.out.size))
    clear hb41 B40 R40x0 R40x1 R40x2 R40x3 Hf Hg
    obtain⟨R41x0a,R41x0b,R41x0c⟩:=R41x0.out
    obtain⟨R41x1a,R41x1b,R41x1c⟩:=R41x1.out
    obtain⟨R41x2a,R41x2b,R41x2c⟩:=R41x2.out
    obtain⟨R41x3a,R41x3b,R41x3c⟩:=R41x3.out
    obtain⟨R41x4a,R41x4b,R41x4c⟩:=R41x4.out
    obtain⟨R41x5a,R41x5b,R41x5c⟩:=R41x5.out
    go_wp2_with fail
    have n_ow_cv:ow≠W41.heap.size:=Nat.ne_of_lt R41x0.out.2.2
    have n_hh_cv:hh≠W41.heap.size:=Nat.ne_of_lt R41x1.out.2.2
    have n_r_cv:r≠W41.heap.size:=Nat.ne_of_lt R41x2.out.2.2
    have n_sv_cv:sv≠W41.heap.size:=Nat.ne_of_lt R41x3.out.2.2
    have n_fi_cv:fi≠W41.heap.size:=Nat.ne_of_lt R41x4.out.2.2
    have n_ga_cv:ga≠W41.heap.size:=Nat.ne_of_lt R41x5.out.2.2
    have l_cv:w.heap.size≤W41.heap.size:=B41.out.size
    have hb42:=Zab (Below.refl W41.heap.size W41) (.cells (cmdA d) 57)
    have N42:=Lib.hid (RowAt.of (Zas W41 (.cells (cmdA d) 57)))
    have Y42:=Lib.hid (Y41.out.grow hb42)
    clear Y41
    have R42x0:=Lib.hid (R41x0.out.grow hb42)
    have R42x1:=Lib.hid (R41x1.out.grow hb42)
    have R42x2:=Lib.hid (R41x2.out.grow hb42)
    have R42x3:=Lib.hid (R41x3.out.grow hb42)
    have R42x4:=Lib.hid (R41x4.out.grow hb42)
    have R42x5:=Lib.hid (R41x5.out.grow hb42)
    have B42:=Lib.hid (B41.out.trans (hb42.mono B41.out.size))
    clear hb42 B41 R41x0 R41x1 R41x2 R41x3 R41x4 R41x5 R41x0a R41x0b R41x0c R41x1a R41x1b R41x1c R41x2a R41x2b R41x2c R41x3a R41x3b R41x3c R41x4a R41x4b R41x4c R41x5a R41x5b R41x5c
    generalize W41.heap.size=cv at *
    generalize W41.alloc (.cells (cmdA d) 57)=W42 at *
    obtain⟨R42x0a,R42x0b,R42x0c⟩:=R42x0.out
    obtain⟨R42x1a,R42x1b,R42x1c⟩:=R42x1.out
    obtain⟨R42x2a,R42x2b,R42x2c⟩:=R42x2.out
    obtain⟨R42x3a,R42x3b,R42x3c⟩:=R42x3.out
    obtain⟨R42x4a,R42x4b,R42x4c⟩:=R42x4.out
    obtain⟨R42x5a,R42x5b,R42x5c⟩:=R42x5.out
    obtain⟨N42a,N42b,N42c⟩:=N42.out
    go_wp2_with fail
    by_cases h4:nxA s a=0
    ·rw[if_pos h4] at HE
     rw[HE.out,if_neg (by decide)] at HV
     rw[Zcp h4] at KN
     clear h4 HS E1
     generalize keyB (nxA s a)=na at *
     have HgY:=Lib.hid Y42.out.1
     refine Zao W42 [0,1,2,3,4,5,6,7,8,9] [false,false,false,false,false,false,false,false,false,true] [10] [(23,bysA (zs 32))] 11 (by kernel_rfl) rfl (by kernel_rfl) (by intro c a d v w h;cases d<;>exact h) (by first | exact(Below.refl _ _).drew | exact Below.refl _ _) ?_
     simp only[pick,List.getElem?_cons_succ,List.getElem?_cons_zero,List.drop_succ_cons,List.drop_zero]
     refine Zad (Zaa rfl) (by intro K o d hK;go_simp;exact hK _ (Below.refl _ _)) ?_
     refine Zad (Zaa rfl) (by intro K o d hK;go_simp;exact hK _ (Below.refl _ _)) ?_
     refine Zad (Zaa rfl) (by intro K o d hK;go_simp;exact hK _ (Below.refl _ _)) ?_
     refine Zaj (v:=.agg (bysA bl)) (Zaa rfl) (by intro K o d hK;go_simp;refine(KB.out _).mono ?_;rintro e w' ⟨rfl,hbw⟩;exact⟨_,rfl,hK _ hbw⟩) ?_
     refine Zad (Zaa rfl) (by intro K o d hK;go_simp;exact hK _ (Below.refl _ _)) ?_
     refine Zad (Zaa rfl) (by intro K o d hK;go_simp;exact hK _ (Below.refl _ _)) ?_
     refine Zaj (v:=.tuple #[.agg (bysA na),.int .i64 7]) (Zaa rfl) (by intro K o d hK;go_simp;refine(KN.out _).mono ?_;rintro e w' ⟨rfl,hbw⟩;exact⟨_,rfl,hK _ hbw⟩) ?_
     refine Zad (Zaa rfl) (by intro K o d hK;go_simp;exact hK _ (Below.refl _ _)) ?_
     refine Zad (Zaa rfl) (by intro K o d hK;go_simp;exact hK _ (Below.refl _ _)) ?_
     refine Zaz (Zaa rfl) (fun w=>by go_simp;rfl) ?_
     refine Zap ?_
     refine⟨Zed _ rfl rfl,fun al hg0 hn0=>?_⟩
     intro W43 hb43 hblk
     have n_ow_al:ow≠al:=by have:=R42x0.out.2.2;omega
     have n_hh_al:hh≠al:=by have:=R42x1.out.2.2;omega
     have n_r_al:r≠al:=by have:=R42x2.out.2.2;omega
     have n_sv_al:sv≠al:=by have:=R42x3.out.2.2;omega
     have n_fi_al:fi≠al:=by have:=R42x4.out.2.2;omega
     have n_ga_al:ga≠al:=by have:=R42x5.out.2.2;omega
     have n_cv_al:cv≠al:=by have:=N42.out.2.2;omega
     have l_al:w.heap.size≤al:=Nat.le_trans B42.out.size hg0
     have V43x0:=Lib.hid (RowAt.of (hblk 0 al _ _ rfl rfl))
     clear hblk
     clear R42x0a R42x0b R42x0c R42x1a R42x1b R42x1c R42x2a R42x2b R42x2c R42x3a R42x3b R42x3c R42x4a R42x4b R42x4c R42x5a R42x5b R42x5c N42a N42b N42c
     have Y43:=Lib.hid (Y42.out.grow hb43)
     clear Y42
     have R43x0:=Lib.hid (R42x0.out.grow hb43)
     have R43x1:=Lib.hid (R42x1.out.grow hb43)
     have R43x2:=Lib.hid (R42x2.out.grow hb43)
     have R43x3:=Lib.hid (R42x3.out.grow hb43)
     have R43x4:=Lib.hid (R42x4.out.grow hb43)
     have R43x5:=Lib.hid (R42x5.out.grow hb43)
     have R43x6:=Lib.hid (N42.out.grow hb43)
     have B43:=Lib.hid (B42.out.trans (hb43.mono B42.out.size))
     clear hb43 B42 R42x0 R42x1 R42x2 R42x3 R42x4 R42x5 N42
     have n_gO_al:gO≠al:=by have:=HgY.out;omega
     obtain⟨R43x0a,R43x0b,R43x0c⟩:=R43x0.out
     obtain⟨R43x1a,R43x1b,R43x1c⟩:=R43x1.out
     obtain⟨R43x2a,R43x2b,R43x2c⟩:=R43x2.out
     obtain⟨R43x3a,R43x3b,R43x3c⟩:=R43x3.out
     obtain⟨R43x4a,R43x4b,R43x4c⟩:=R43x4.out
     obtain⟨R43x5a,R43x5b,R43x5c⟩:=R43x5.out
     obtain⟨R43x6a,R43x6b,R43x6c⟩:=R43x6.out
     obtain⟨V43x0a,V43x0b,V43x0c⟩:=V43x0.out
     go_wp2_with fail
     have Y44:=Lib.hid (BytesAt.setRow Y43.out n_gO_al (bysA na))
     clear Y43
     have R44x0:=Lib.hid (R43x0.out.other n_ow_al (bysA na))
     have R44x1:=Lib.hid (R43x1.out.other n_hh_al (bysA na))
     have R44x2:=Lib.hid (R43x2.out.other n_r_al (bysA na))
     have R44x3:=Lib.hid (R43x3.out.other n_sv_al (bysA na))
     have R44x4:=Lib.hid (R43x4.out.other n_fi_al (bysA na))
     have R44x5:=Lib.hid (R43x5.out.other n_ga_al (bysA na))
     have R44x6:=Lib.hid (R43x6.out.other n_cv_al (bysA na))
     have R44x7:=Lib.hid (V43x0.out.set (bysA na))
     have B44:=Lib.hid (Zac B43.out l_al (bysA na))
     clear B43 R43x0 R43x1 R43x2 R43x3 R43x4 R43x5 R43x6 V43x0 R43x0a R43x0b R43x0c R43x1a R43x1b R43x1c R43x2a R43x2b R43x2c R43x3a R43x3b R43x3c R43x4a R43x4b R43x4c R43x5a R43x5b R43x5c R43x6a R43x6b R43x6c V43x0a V43x0b V43x0c
     generalize W43.setRow al (bysA na)=W44 at *
     obtain⟨R44x0a,R44x0b,R44x0c⟩:=R44x0.out
     obtain⟨R44x1a,R44x1b,R44x1c⟩:=R44x1.out
     obtain⟨R44x2a,R44x2b,R44x2c⟩:=R44x2.out
     obtain⟨R44x3a,R44x3b,R44x3c⟩:=R44x3.out
     obtain⟨R44x4a,R44x4b,R44x4c⟩:=R44x4.out
     obtain⟨R44x5a,R44x5b,R44x5c⟩:=R44x5.out
     obtain⟨R44x6a,R44x6b,R44x6c⟩:=R44x6.out
     obtain⟨R44x7a,R44x7b,R44x7c⟩:=R44x7.out
     go_wp2_with fail
     refine bodyPost_ret (v:=.tuple #[.agg rstZ,.int .i64 7]) (Zbk Tryz.results19 Zcw _ _ r rfl ?_ ?_ rfl) rfl ?_
     ·go_simp
     ·go_simp
     ·exact⟨.agg rstZ,by rw[HE.out],by rw[HV.out];exact HZ.out _,by first | exact Zac B44.out l_r _ | exact Zab (Zac B44.out l_r _) _⟩
    ·rw[if_neg h4] at HE
     rw[HE.out,if_pos rfl] at HV
     rw[Zc5 h4] at KN
     rw[←E1.out] at HS
     clear h4 E1
     generalize keyB (nxA s a)=na at *
     generalize Zd7 a b s=st at *
     have HgY:=Lib.hid Y42.out.1
     refine Zao W42 [0,1,2,3,4,5,6,7,8,9] [false,false,false,false,false,false,false,false,false,true] [10] [(23,bysA (zs 32))] 11 (by kernel_rfl) rfl (by kernel_rfl) (by intro c a d v w h;cases d<;>exact h) (by first | exact(Below.refl _ _).drew | exact Below.refl _ _) ?_
     simp only[pick,List.getElem?_cons_succ,List.getElem?_cons_zero,List.drop_succ_cons,List.drop_zero]
     refine Zad (Zaa rfl) (by intro K o d hK;go_simp;exact hK _ (Below.refl _ _)) ?_
     refine Zad (Zaa rfl) (by intro K o d hK;go_simp;exact hK _ (Below.refl _ _)) ?_
     refine Zad (Zaa rfl) (by intro K o d hK;go_simp;exact hK _ (Below.refl _ _)) ?_
     refine Zaj (v:=.agg (bysA bl)) (Zaa rfl) (by intro K o d hK;go_simp;refine(KB.out _).mono ?_;rintro e w' ⟨rfl,hbw⟩;exact⟨_,rfl,hK _ hbw⟩) ?_
     refine Zad (Zaa rfl) (by intro K o d hK;go_simp;exact hK _ (Below.refl _ _)) ?_
     refine Zad (Zaa rfl) (by intro K o d hK;go_simp;exact hK _ (Below.refl _ _)) ?_
     refine Zaj (v:=.tuple #[.agg (bysA na),.int .i64 0]) (Zaa rfl) (by intro K o d hK;go_simp;refine(KN.out _).mono ?_;rintro e w' ⟨rfl,hbw⟩;exact⟨_,rfl,hK _ hbw⟩) ?_
     refine Zad (Zaa rfl) (by intro K o d hK;go_simp;exact hK _ (Below.refl _ _)) ?_
     refine Zad (Zaa rfl) (by intro K o d hK;go_simp;exact hK _ (Below.refl _ _)) ?_
     refine Zaz (Zaa rfl) (fun w=>by go_simp;rfl) ?_
     refine Zap ?_
     refine⟨Zed _ rfl rfl,fun al hg0 hn0=>?_⟩
     intro W43 hb43 hblk
     have n_ow_al:ow≠al:=by have:=R42x0.out.2.2;omega
     have n_hh_al:hh≠al:=by have:=R42x1.out.2.2;omega
     have n_r_al:r≠al:=by have:=R42x2.out.2.2;omega
     have n_sv_al:sv≠al:=by have:=R42x3.out.2.2;omega
     have n_fi_al:fi≠al:=by have:=R42x4.out.2.2;omega
     have n_ga_al:ga≠al:=by have:=R42x5.out.2.2;omega
     have n_cv_al:cv≠al:=by have:=N42.out.2.2;omega
     have l_al:w.heap.size≤al:=Nat.le_trans B42.out.size hg0
     have V43x0:=Lib.hid (RowAt.of (hblk 0 al _ _ rfl rfl))
     clear hblk
     clear R42x0a R42x0b R42x0c R42x1a R42x1b R42x1c R42x2a R42x2b R42x2c R42x3a R42x3b R42x3c R42x4a R42x4b R42x4c R42x5a R42x5b R42x5c N42a N42b N42c
     have Y43:=Lib.hid (Y42.out.grow hb43)
     clear Y42
     have R43x0:=Lib.hid (R42x0.out.grow hb43)
     have R43x1:=Lib.hid (R42x1.out.grow hb43)
     have R43x2:=Lib.hid (R42x2.out.grow hb43)
     have R43x3:=Lib.hid (R42x3.out.grow hb43)
     have R43x4:=Lib.hid (R42x4.out.grow hb43)
     have R43x5:=Lib.hid (R42x5.out.grow hb43)
     have R43x6:=Lib.hid (N42.out.grow hb43)
     have B43:=Lib.hid (B42.out.trans (hb43.mono B42.out.size))
     clear hb43 B42 R42x0 R42x1 R42x2 R42x3 R42x4 R42x5 N42
     have n_gO_al:gO≠al:=by have:=HgY.out;omega
     obtain⟨R43x0a,R43x0b,R43x0c⟩:=R43x0.out
     obtain⟨R43x1a,R43x1b,R43x1c⟩:=R43x1.out
     obtain⟨R43x2a,R43x2b,R43x2c⟩:=R43x2.out
     obtain⟨R43x3a,R43x3b,R43x3c⟩:=R43x3.out
     obtain⟨R43x4a,R43x4b,R43x4c⟩:=R43x4.out
     obtain⟨R43x5a,R43x5b,R43x5c⟩:=R43x5.out
     obtain⟨R43x6a,R43x6b,R43x6c⟩:=R43x6.out
     obtain⟨V43x0a,V43x0b,V43x0c⟩:=V43x0.out
     go_wp2_with fail
     have Y44:=Lib.hid (BytesAt.setRow Y43.out n_gO_al (bysA na))
     clear Y43
     have R44x0:=Lib.hid (R43x0.out.other n_ow_al (bysA na))
     have R44x1:=Lib.hid (R43x1.out.other n_hh_al (bysA na))
     have R44x2:=Lib.hid (R43x2.out.other n_r_al (bysA na))
     have R44x3:=Lib.hid (R43x3.out.other n_sv_al (bysA na))
     have R44x4:=Lib.hid (R43x4.out.other n_fi_al (bysA na))
     have R44x5:=Lib.hid (R43x5.out.other n_ga_al (bysA na))
     have R44x6:=Lib.hid (R43x6.out.other n_cv_al (bysA na))
     have R44x7:=Lib.hid (V43x0.out.set (bysA na))
     have B44:=Lib.hid (Zac B43.out l_al (bysA na))
     clear B43 R43x0 R43x1 R43x2 R43x3 R43x4 R43x5 R43x6 V43x0 R43x0a R43x0b R43x0c R43x1a R43x1b R43x1c R43x2a R43x2b R43x2c R43x3a R43x3b R43x3c R43x4a R43x4b R43x4c R43x5a R43x5b R43x5c R43x6a R43x6b R43x6c V43x0a V43x0b V43x0c
     generalize W43.setRow al (bysA na)=W44 at *
     obtain⟨R44x0a,R44x0b,R44x0c⟩:=R44x0.out
     obtain⟨R44x1a,R44x1b,R44x1c⟩:=R44x1.out
     obtain⟨R44x2a,R44x2b,R44x2c⟩:=R44x2.out
     obtain⟨R44x3a,R44x3b,R44x3c⟩:=R44x3.out
     obtain⟨R44x4a,R44x4b,R44x4c⟩:=R44x4.out
     obtain⟨R44x5a,R44x5b,R44x5c⟩:=R44x5.out
     obtain⟨R44x6a,R44x6b,R44x6c⟩:=R44x6.out
     obtain⟨R44x7a,R44x7b,R44x7c⟩:=R44x7.out
     go_wp2_with fail
     have hsl:∀W,(slB (.slice (some ⟨gO,0,none⟩) 192 cO) (some (.int .i64 32)) none none).run Tryz.prog W=.ok (.slice (some ⟨gO,32,none⟩) 160 (cO-32)) W:=fun W=>by
      have:=ZhZ gO 0 192 cO 32 (by decide) W
      rw[show adv 0 32 cO=32 by unfold adv;rw[if_neg (by omega)]] at this
      exact this
     have hbdh:=fun W=>Zfx (some ⟨gO,32,none⟩) 160 (cO-32) hna hG16 W
     have hhz:=Zck (.slice (some ⟨gO,32,none⟩) 160 (cO-32)) hna hG16
     have hh1:=Zhs na ((O.drop 16).take 16) (some ⟨gO,32,none⟩) 160 (cO-32)
     have hbds:=fun W=>Zlc hdi hhz hs htl W
     have hfs:=Zep hdi hhz hs htl
     have hfo:Za2 (rstA d (rhA na (.slice (some ⟨gO,32,none⟩) 160 (cO-32)) ((O.drop 16).take 16)) s tg)=true:=Zg9 hh1
     refine Zao W44 [0,1,2,3,4,5,6,7,8,9] [false,false,false,false,false,false,false,false,false,false] [] [] 10 (by kernel_rfl) rfl (by kernel_rfl) (by intro c a d v w h;cases d<;>exact h) (by first | exact(Below.refl _ _).drew | exact Below.refl _ _) ?_
     simp only[pick,List.getElem?_cons_succ,List.getElem?_cons_zero,List.drop_succ_cons,List.drop_zero]
     refine Zad (Zaa rfl) (by intro K o d hK;go_simp;exact hK _ (Below.refl _ _)) ?_
     refine Zad (Zaa rfl) (by intro K o d hK;go_simp;exact hK _ (Below.refl _ _)) ?_
     refine Zad (Zaa rfl) (by intro K o d hK;go_simp;exact hK _ (Below.refl _ _)) ?_
     refine Zad (Zaa rfl) (by intro K o d hK;go_simp;exact hK _ (Below.refl _ _)) ?_
     refine Zad (Zaa rfl) (by intro K o d hK;go_simp;exact hK _ (Below.refl _ _)) ?_
     refine Zad (Zaa rfl) (by intro K o d hK;go_simp;exact hK _ (Below.refl _ _)) ?_
     refine Zad (Zaa rfl) (by intro K o d hK;go_simp;exact hK _ (Below.refl _ _)) ?_
     refine Zad (Zaa rfl) (by intro K o d hK;go_simp;exact hK _ (Below.refl _ _)) ?_
     refine Zaj (v:=.agg (bysA tg)) (Zaa rfl) (by intro K o d hK;go_simp;refine(KT.out _).mono ?_;rintro e w' ⟨rfl,hbw⟩;exact⟨_,rfl,hK _ hbw⟩) ?_
     refine Zad (Zaa rfl) (by intro K o d hK;go_simp;exact hK _ (Below.refl _ _)) ?_
     refine Zap ?_
     intro W45 hb45 hblk
     clear hblk
     clear R44x0a R44x0b R44x0c R44x1a R44x1b R44x1c R44x2a R44x2b R44x2c R44x3a R44x3b R44x3c R44x4a R44x4b R44x4c R44x5a R44x5b R44x5c R44x6a R44x6b R44x6c R44x7a R44x7b R44x7c
     have Y45:=Lib.hid (Y44.out.grow hb45)
     clear Y44
     have R45x0:=Lib.hid (R44x0.out.grow hb45)
     have R45x1:=Lib.hid (R44x1.out.grow hb45)
     have R45x2:=Lib.hid (R44x2.out.grow hb45)
     have R45x3:=Lib.hid (R44x3.out.grow hb45)
     have R45x4:=Lib.hid (R44x4.out.grow hb45)
     have R45x5:=Lib.hid (R44x5.out.grow hb45)
     have R45x6:=Lib.hid (R44x6.out.grow hb45)
     have R45x7:=Lib.hid (R44x7.out.grow hb45)
     have B45:=Lib.hid (B44.out.trans (hb45.mono B44.out.size))
     clear hb45 B44 R44x0 R44x1 R44x2 R44x3 R44x4 R44x5 R44x6 R44x7
     obtain⟨R45x0a,R45x0b,R45x0c⟩:=R45x0.out
     obtain⟨R45x1a,R45x1b,R45x1c⟩:=R45x1.out
     obtain⟨R45x2a,R45x2b,R45x2c⟩:=R45x2.out
     obtain⟨R45x3a,R45x3b,R45x3c⟩:=R45x3.out
     obtain⟨R45x4a,R45x4b,R45x4c⟩:=R45x4.out
     obtain⟨R45x5a,R45x5b,R45x5c⟩:=R45x5.out
     obtain⟨R45x6a,R45x6b,R45x6c⟩:=R45x6.out
     obtain⟨R45x7a,R45x7b,R45x7c⟩:=R45x7.out
     go_wp2_with fail
     refine bodyPost_ret (v:=.tuple #[.agg (rstA d (rhA na (.slice (some ⟨gO,32,none⟩) 160 (cO-32)) ((O.drop 16).take 16)) s tg),.int .i64 0]) (Zbk Tryz.results19 hfs _ _ r rfl ?_ ?_ rfl) rfl ?_
     ·go_simp
     ·go_simp
     ·refine⟨.agg (rstA d (rhA na (.slice (some ⟨gO,32,none⟩) 160 (cO-32)) ((O.drop 16).take 16)) s tg),by rw[HE.out],?_,Zac B45.out l_r _⟩
      have hO:=BytesAt.drop (Y45.out.setRow n_gO_r (rstA d (rhA na (.slice (some ⟨gO,32,none⟩) 160 (cO-32)) ((O.drop 16).take 16)) s tg)) 32
      rw[Nat.zero_add,←HS.out.2.2.1] at hO
      rw[HV.out]
      exact⟨rhA na (.slice (some ⟨gO,32,none⟩) 160 (cO-32)) ((O.drop 16).take 16),by rw[HS.out.1,HS.out.2.2.2.2.1,HS.out.2.2.2.2.2],hhz,.inr ⟨some ⟨gO,32,none⟩,cO-32,by rw[HS.out.2.1,HS.out.2.2.2.1],Bs0.some hO,fun h=>by cases h⟩⟩
 ·rw[if_pos h2] at HE
  rw[HE.out,if_neg (by decide)] at HV
  generalize prf s b=P at *
  go_enter Tryz.func19,Tryz.ntmps19
  go_wp2_with fail
  generalize hW:World.alloc _ _=W0
  have R0x0:=Lib.hid (show RowAt W0 (w.heap.size) (bysA o) by rw[←hW];clear hW;exact⟨by go_simp,by first | (go_simp;done) | (go_simp;rfl),by go_simp⟩)
  have R0x1:=Lib.hid (show RowAt W0 (w.heap.size+1) (rhA a (.slice p 160 cap) g) by rw[←hW];clear hW;exact⟨by go_simp,by first | (go_simp;done) | (go_simp;rfl),by go_simp⟩)
  have R0x2:=Lib.hid (show RowAt W0 (w.heap.size+1+1) (rstZ) by rw[←hW];clear hW;exact⟨by go_simp,by first | (go_simp;done) | (go_simp;rfl),by go_simp⟩)
  have B0:=Lib.hid (show Below w.heap.size w W0 by rw[←hW];repeat (first | apply Zab | exact Below.refl _ _))
  clear hW
  have l_ow:w.heap.size≤w.heap.size:=by omega
  have l_hh:w.heap.size≤w.heap.size+1:=by omega
  have n_ow_hh:w.heap.size≠w.heap.size+1:=by omega
  have l_r:w.heap.size≤w.heap.size+1+1:=by omega
  have n_ow_r:w.heap.size≠w.heap.size+1+1:=by omega
  have n_hh_r:w.heap.size+1≠w.heap.size+1+1:=by omega
  generalize w.heap.size+1+1=r at *
  generalize w.heap.size+1=hh at *
  obtain⟨ow,eow⟩:∃z,z=w.heap.size:=⟨_,rfl⟩
  rw[←eow] at R0x0 n_ow_hh n_ow_r ⊢
  have l_ow:w.heap.size≤ow:=by rw[eow];exact Nat.le_refl _
  clear eow
  refine(KS.out _).mono ?_
  rintro e W1 ⟨rfl,hb1⟩
  have R1x0:=Lib.hid (R0x0.out.grow hb1)
  have R1x1:=Lib.hid (R0x1.out.grow hb1)
  have R1x2:=Lib.hid (R0x2.out.grow hb1)
  have B1:=Lib.hid (B0.out.trans (hb1.mono B0.out.size))
  clear hb1 B0 R0x0 R0x1 R0x2
  obtain⟨R1x0a,R1x0b,R1x0c⟩:=R1x0.out
  obtain⟨R1x1a,R1x1b,R1x1c⟩:=R1x1.out
  obtain⟨R1x2a,R1x2b,R1x2c⟩:=R1x2.out
  go_wp2_with fail
  have n_ow_sv:ow≠W1.heap.size:=Nat.ne_of_lt R1x0.out.2.2
  have n_hh_sv:hh≠W1.heap.size:=Nat.ne_of_lt R1x1.out.2.2
  have n_r_sv:r≠W1.heap.size:=Nat.ne_of_lt R1x2.out.2.2
  have l_sv:w.heap.size≤W1.heap.size:=B1.out.size
  have hb2:=Zab (Below.refl W1.heap.size W1) (.cells (bysA s) 23)
  have N2:=Lib.hid (RowAt.of (Zas W1 (.cells (bysA s) 23)))
  have R2x0:=Lib.hid (R1x0.out.grow hb2)
  have R2x1:=Lib.hid (R1x1.out.grow hb2)
  have R2x2:=Lib.hid (R1x2.out.grow hb2)
  have B2:=Lib.hid (B1.out.trans (hb2.mono B1.out.size))
  clear hb2 B1 R1x0 R1x1 R1x2 R1x0a R1x0b R1x0c R1x1a R1x1b R1x1c R1x2a R1x2b R1x2c
  generalize W1.heap.size=sv at *
  generalize W1.alloc (.cells (bysA s) 23)=W2 at *
  obtain⟨R2x0a,R2x0b,R2x0c⟩:=R2x0.out
  obtain⟨R2x1a,R2x1b,R2x1c⟩:=R2x1.out
  obtain⟨R2x2a,R2x2b,R2x2c⟩:=R2x2.out
  obtain⟨N2a,N2b,N2c⟩:=N2.out
  go_wp2_with fail
  clear R2x0a R2x0b R2x0c R2x1a R2x1b R2x1c R2x2a R2x2b R2x2c N2a N2b N2c
  refine Za3 W2 7 (fun w w'=>Below w.heap.size w w') (ZfY [fixV (.agg (bysA s)),fixV (.pointer (some ⟨hh,32,none⟩)),fixV (.slice p 160 cap),fixV (.agg (bysA P)),fixV (.pointer (some ⟨hh,33,none⟩)),fixV (.agg (bysA g)),fixV (.bool true)]) [] [0,1,2,3,4,5,6] [some 26,some 27,some 28,some 29,some 30,some 31,some 32] (by kernel_rfl) (by kernel_rfl) (by kernel_rfl) (by kernel_rfl) (by first | exact(Below.refl _ _).drew | exact Below.refl _ _) (fun w w' h h'=>h.trans (h'.mono h.size)) (ZbS ⟨Zai _,Zai _,Zai _,Zai _,Zai _,Zai _,Zai _,trivial⟩) ?_
  intro vals
  simp only[List.take_succ_cons,List.take_zero]
  refine⟨(Zak [] [] (by kernel_rfl) rfl (fun K w hb hdq hK=>?_)),?_⟩
  ·obtain⟨x1,x2,x3⟩:=N2.out.grow hb
   simp only[putZ]
   refine⟨Zaa rfl,?_⟩
   go_simp
   exact hK _ _ _ (Below.refl _ _) rfl
  refine⟨(Zak [] [] (by kernel_rfl) rfl (fun K w hb hdq hK=>?_)),?_⟩
  ·simp only[putZ]
   refine⟨Zaa rfl,?_⟩
   go_simp
   exact hK _ _ _ (Below.refl _ _) rfl
  refine⟨(Zak [1] [some 27] (by kernel_rfl) (by kernel_rfl) (fun K w hb hdq hK=>?_)),?_⟩
  ·have d1:vals 1=.pointer (some ⟨hh,32,none⟩):=hdq 1 (by simp)
   obtain⟨x1,x2,x3⟩:=R2x1.out.grow hb
   have hcx:=(R2x1.out.grow hb).cellAt 32 (Zir _ has32.out)
   simp only[List.map_cons,List.map_nil,putZ,d1]
   refine⟨Zaa rfl,?_⟩
   go_simp
   exact hK _ _ _ (Below.refl _ _) rfl
  refine⟨(ZaW [0,2] [some 26,some 28] (by kernel_rfl) (by kernel_rfl) (fun K w hb hdq hK=>?_)),?_⟩
  ·have d0:vals 0=.agg (bysA s):=hdq 0 (by simp)
   have d2:vals 2=.slice p 160 cap:=hdq 2 (by simp)
   simp only[List.map_cons,List.map_nil,putZ,d0,d2]
   refine⟨Zaa rfl,?_⟩
   go_simp
   refine(KP.out w (HBb.out w (B2.out.trans (hb.mono B2.out.size)))).mono ?_
   rintro e w' ⟨rfl,hb'⟩
   exact⟨_,rfl,hK _ _ hb' rfl⟩
  refine⟨(Zak [] [] (by kernel_rfl) rfl (fun K w hb hdq hK=>?_)),?_⟩
  ·simp only[putZ]
   refine⟨Zaa rfl,?_⟩
   go_simp
   exact hK _ _ _ (Below.refl _ _) rfl
  refine⟨(Zak [4] [some 30] (by kernel_rfl) (by kernel_rfl) (fun K w hb hdq hK=>?_)),?_⟩
  ·have d4:vals 4=.pointer (some ⟨hh,33,none⟩):=hdq 4 (by simp)
   obtain⟨x1,x2,x3⟩:=R2x1.out.grow hb
   simp only[List.map_cons,List.map_nil,putZ,d4]
   refine⟨Zaa rfl,?_⟩
   go_simp
   exact hK _ _ _ (Below.refl _ _) rfl
  refine⟨(Zak [3,5] [some 29,some 31] (by kernel_rfl) (by kernel_rfl) (fun K w hb hdq hK=>?_)),?_⟩
  ·have d3:vals 3=.agg (bysA P):=hdq 3 (by simp)
   have d5:vals 5=.agg (bysA g):=hdq 5 (by simp)
   simp only[List.map_cons,List.map_nil,putZ,d3,d5]
   refine⟨Zaa rfl,?_⟩
   go_simp
   exact hK _ _ _ (Below.refl _ _) rfl
  intro W3 hb3 hR3
  obtain e6:vals 6=.bool true:=hR3 6 (by simp)
  clear hR3
  simp only[List.map_cons,List.map_nil,putZ,e6,pick]
  generalize vals 0=q3_0
  generalize vals 1=q3_1
  generalize vals 2=q3_2
  generalize vals 3=q3_3
  generalize vals 4=q3_4
  generalize vals 5=q3_5
  have R3x0:=Lib.hid (R2x0.out.grow hb3)
  have R3x1:=Lib.hid (R2x1.out.grow hb3)
  have R3x2:=Lib.hid (R2x2.out.grow hb3)
  have R3x3:=Lib.hid (N2.out.grow hb3)
  have B3:=Lib.hid (B2.out.trans (hb3.mono B2.out.size))
  clear hb3 B2 R2x0 R2x1 R2x2 N2
  clear e6
  clear vals
  obtain⟨R3x0a,R3x0b,R3x0c⟩:=R3x0.out
  obtain⟨R3x1a,R3x1b,R3x1c⟩:=R3x1.out
  obtain⟨R3x2a,R3x2b,R3x2c⟩:=R3x2.out
  obtain⟨R3x3a,R3x3b,R3x3c⟩:=R3x3.out
  go_step
  go_simp
  go_wp2_with fail
  refine bodyPost_ret (v:=.tuple #[.agg rstZ,.int .i64 6]) (Zbk Tryz.results19 Zcw _ _ r rfl ?_ ?_ rfl) rfl ?_
  ·go_simp
  ·go_simp
  ·exact⟨.agg rstZ,by rw[HE.out],by rw[HV.out];exact HZ.out _,by first | exact Zac B3.out l_r _ | exact Zab (Zac B3.out l_r _) _⟩
def Za7 (os:List (List Nat)) (cs:List Cmd):List Hop:=(os.zip cs).map fun p=>⟨puB p.1,p.2⟩
def encs (ss:List (List Nat)) (cs:List Cmd):List (List Nat×List Nat):=(ss.zip cs).map fun p=>(p.1,p.2.enc)
theorem ZfK:∀(os:List (List Nat)) (cs:List Cmd),cs.length=os.length→(Za7 os cs).map (fun h=>h.c.enc)=cs.map Cmd.enc
 | [],[],_=>rfl
 | [],_::_,h=>by simp at h
 | _::_,[],h=>by simp at h
 | o::os,c::cs,h=>by
  show c.enc::(Za7 os cs).map (fun h=>h.c.enc)=_
  rw[ZfK os cs (by simpa using h)];rfl
theorem ZjU:∀(ss:List (List Nat)) (cs:List Cmd),ss.zip (cs.map Cmd.enc)=encs ss cs
 | [],_=>by simp[encs]
 | _::_,[]=>by simp[encs]
 | s::ss,c::cs=>by
  show (s,c.enc)::ss.zip (cs.map Cmd.enc)=(s,c.enc)::encs ss cs
  rw[ZjU ss cs]
theorem ZpJ {x:List Nat} {os ss:List (List Nat)} {cs:List Cmd} (hl:cs.length=os.length) (hr:isRt (Za7 os cs)=true) (h1:secF [x] (puB x) (Za7 os cs)=some ss) :
  hbK x (Za7 os cs)=ss∧hbE x (Za7 os cs)=0∧hbH x (Za7 os cs)=puB x++ZaX [] (encs ss cs)++prf (ss.headD []) (ZaX [] (encs ss cs)):=by
 have hS:hbS x (Za7 os cs)=some ss:=h1
 have hb:ZcN ss (Za7 os cs)=ZaX [] (encs ss cs):=by
  unfold ZcN
  rw[ZfK os cs hl,ZjU]
 refine⟨?_,?_,?_⟩
 ·unfold hbK;rw[if_pos hr,hS];rfl
 ·unfold hbE;rw[if_pos hr,hS];rfl
 ·unfold hbH
  rw[if_pos hr,hS]
  simp only
  rw[hb]
structure HdParts (H a b g:List Nat):Prop where
 eq:H=a++b++g
 al:a.length=32
 ab:∀i,a.getD i 0<256
 bl:b.length=160
 bb:∀i,b.getD i 0<256
 gl:g.length=16
 gb:∀i,g.getD i 0<256
theorem HdParts.len {H a b g:List Nat} (h:HdParts H a b g):H.length=208:=by rw[h.eq,List.length_append,List.length_append,h.al,h.bl,h.gl]
theorem HdParts.of {H:List Nat} (hH:H.length=208) (hHb:∀i,H.getD i 0<256):HdParts H (H.take 32) ((H.drop 32).take 160) (H.drop 192) :=
 ⟨by rw[List.append_assoc,show H.drop 192=(H.drop 32).drop 160 by rw[List.drop_drop],List.take_append_drop,List.take_append_drop],by simp[hH],Zbh hHb _,by simp[hH],Zbh (ZbE hHb _) _,by simp[hH],ZbE hHb _⟩
structure On (done os ss:List (List Nat)) (cs:List Cmd) (a:List Nat) (H:List Nat):Prop where
 way:Way a os ss
 len:cs.length=ss.length
 olen:os.length=ss.length
 few:done.length+ss.length≤5
 al:a.length=32
 ab:∀i,a.getD i 0<256
 ids:∀d∈cs,d.id.length=8
 idb:∀d∈cs,∀ i,d.id.getD i 0<256
 may:∀d∈cs,d.may=true
 hdr:∀s r,ss=s::r→H=a++ZaX done (encs ss cs)++prf s (ZaX done (encs ss cs))
theorem On.parts {done os ss:List (List Nat)} {cs:List Cmd} {a H s:List Nat} {r:List (List Nat)} (h:On done os ss cs a H) (hs:ss=s::r):HdParts H a (ZaX done (encs ss cs)) (prf s (ZaX done (encs ss cs))):=by
 have hm:∀x∈encs ss cs,∃ d∈cs,x.2=d.enc:=fun x hx=>by
  obtain⟨p,hp,rfl⟩:=List.mem_map.1 hx
  exact⟨p.2,(List.of_mem_zip hp).2,rfl⟩
 have hl:(encs ss cs).length=ss.length:=by unfold encs;rw[List.length_map,List.length_zip,h.len,Nat.min_self]
 refine⟨h.hdr s r hs,h.al,h.ab,ZbN _ _ (fun e=>?_) (fun x hx=>?_) (by rw[hl];have:=h.few;omega),Zfu _ _ fun x hx=>?_,Za6 _ _,Zhg _ _⟩
 ·rw[e,hs] at hl;simp at hl
 ·obtain⟨d,hd,e⟩:=hm x hx;rw[e];exact Zb8 (h.ids d hd)
 ·obtain⟨d,hd,e⟩:=hm x hx;rw[e];exact Zlu (h.idb d hd)
theorem On.step {done os ss:List (List Nat)} {cs:List Cmd} {a H o s:List Nat} {c:Cmd} (h:On done (o::os) (s::ss) (c::cs) a H) :
  ∃ x:Stp,unwE o a (ZaX done (encs (s::ss) (c::cs))) (prf s (ZaX done (encs (s::ss) (c::cs))))=0∧unwV o a (ZaX done (encs (s::ss) (c::cs))) (prf s (ZaX done (encs (s::ss) (c::cs))))=x∧StpOk x∧x.c=c∧x.s=s∧On (done++[s]) os ss cs (keyB (nxA s a)) x.nx:=by
 have hp:=h.parts rfl
 obtain⟨nx,h1,h2,h3,h4⟩:=ZnN (done:=done) h.ids (h.may c (by simp)) h.way (by have:=h.len;simpa using this) (by have:=h.few;rw[List.length_cons] at this;omega)
 refine⟨⟨c,nx,s,tagS s⟩,h1,h2,?_,rfl,rfl,h3,by have:=h.len;simpa using this,by have:=h.olen;simpa using this,by have:=h.few;rw[List.length_cons] at this;rw[List.length_append,List.length_singleton];omega,ZaI _,Zc1 _,fun d hd=>h.ids d (by simp[hd]),fun d hd=>h.idb d (by simp[hd]),fun d hd=>h.may d (by simp[hd]),?_⟩
 ·have he:Zd7 a (ZaX done (encs (s::ss) (c::cs))) (keyB (shB o a))=⟨c,nx,s,tagS s⟩:=by
   rw[←h2];unfold unwV;rw[if_pos h1];rfl
  have hn:nx=keyB (nxA (keyB (shB o a)) a)++(opn (keyB (shB o a)) (ZaX done (encs (s::ss) (c::cs)))).drop 32++((opn (keyB (shB o a)) (ZaX done (encs (s::ss) (c::cs)))).drop 16).take 16:=(congrArg Stp.nx he).symm
  have hol:=ZcX (s:=keyB (shB o a)) hp.bl
  refine⟨h.ids c (by simp),?_,?_,Zb5 _⟩
  ·show nx.length=208
   rw[hn,List.length_append,List.length_append,ZaI,List.length_drop,List.length_take,List.length_drop,hol];rfl
  ·show s.length=32
   have:=congrArg Stp.s he
   rw[←show keyB (shB o a)=s from this];exact ZaI _
 ·intro t ts hts
  exact h4 t ts hts
theorem On.start {x:List Nat} {os ss:List (List Nat)} {cs:List Cmd} (hl:cs.length=os.length) (hr:isRt (Za7 os cs)=true) (hi:∀d∈cs,d.id.length=8) (hib:∀d∈cs,∀ i,d.id.getD i 0<256) (h2:Way (puB x) os ss) (h3:ss.length=os.length) (hH:hbH x (Za7 os cs)=puB x++ZaX [] (encs ss cs)++prf (ss.headD []) (ZaX [] (encs ss cs))) :
  On [] os ss cs (puB x) (hbH x (Za7 os cs)):=by
 have hlen:(Za7 os cs).length=os.length:=by unfold Za7;rw[List.length_map,List.length_zip,hl,Nat.min_self]
 have hr':=hr
 unfold isRt at hr'
 simp only[Bool.and_eq_true,decide_eq_true_eq] at hr'
 refine⟨h2,by rw[hl,h3],by rw[h3],by simp;omega,Zbz _,ZfB _,hi,hib,fun d hd=>?_,fun s r e=>by rw[hH,e];rfl⟩
 obtain⟨i,hi,rfl⟩:=List.getElem_of_mem hd
 have:(⟨puB (os[i]'(by omega)),cs[i]⟩:Hop)∈Za7 os cs:=by
  unfold Za7
  refine List.mem_map.2 ⟨(os[i]'(by omega),cs[i]),?_,rfl⟩
  rw[←List.getElem_zip (h:=by rw[List.length_zip];omega)]
  exact List.getElem_mem _
 exact Zji hr'.2 _ this
end Go.Proofs.YtddmjddlbhdcpaaGreatDoor
namespace Go.Proofs.YtddmjddlbhdcpaaGreatDoor.F.Cv
open Go Fp
def pw (b:Nat):Nat→Nat→Nat
 | 0,_=>1%P
 | n+1,e=>if e%2=1 then pw b n (e/2)*pw b n (e/2)%P*b%P else pw b n (e/2)*pw b n (e/2)%P
theorem ZuW (b:Nat):∀n e,e<2^n→pw b n e=b^e%P
 | 0,e,h=>by
  have:e=0:=by simpa using h
  subst this;rfl
 | n+1,e,h=>by
  have h2:e/2<2^n:=by rw[Nat.pow_succ] at h;omega
  have hs:pw b n (e/2)*pw b n (e/2)%P=b^(e/2+e/2)%P:=by rw[ZuW b n _ h2,←Nat.mul_mod,←Nat.pow_add]
  unfold pw
  by_cases h1:e%2=1
  ·rw[if_pos h1,hs,Nat.mod_mul_mod,←Nat.pow_succ,Nat.succ_eq_add_one,show e/2+e/2+1=e by omega]
  ·rw[if_neg h1,hs,show e/2+e/2=e by omega]
def nTv (m x1:Nat):Nat:=nmul (nlad x1 m 255).1.1 (pw (nlad x1 m 255).1.2 255 E)
theorem nT_v (m x1:Nat):nT m x1=nTv m x1:=by
 unfold nT nTv
 rw[ZuW _ 255 E (by decide +kernel)]
end Go.Proofs.YtddmjddlbhdcpaaGreatDoor.F.Cv
namespace Go.Proofs.YtddmjddlbhdcpaaGreatDoor
open Go.RowKit Go.Hold Go.Sh Go.Ch Go.Cm Go.Hd
def shV (k u:List Nat):Nat:=F.Cv.nTv (F.Cv.clampN (numB k)) (F.ptN (numB u)%Fp.P)
def puV (k:List Nat):List Nat:=keyB (F.Cv.nTv (F.Cv.clampN (numB k)) 9)
def chV (k:List Nat) (fs:List (List Nat)):Nat:=(fs.map numB).foldl (fun q k=>F.Cv.nTv (F.Cv.clampN k) (F.ptN q%Fp.P)) (F.ptN (numB k)%Fp.P)
theorem sh_V (k u:List Nat):shB k u=shV k u:=by unfold shB shV F.shN;rw[F.Cv.nT_v]
theorem pu_V (k:List Nat):puB k=puV k:=by unfold puB puV;rw[F.Cv.nT_v]
theorem ch_V (k:List Nat) (fs:List (List Nat)):chB k fs=chV k fs:=by
 unfold chB chV F.chN
 congr 1
 funext q k
 unfold F.shN
 rw[F.Cv.nT_v]
end Go.Proofs.YtddmjddlbhdcpaaGreatDoor
namespace Go.Proofs.YtddmjddlbhdcpaaGreatDoor
open Go.RowKit Go.Hold Go.Sh Go.Ch Go.Cm Go.Hd
def keyU (n:Nat):List Nat:=n::zs 31
def tA0:List Nat:=puV (keyU 9)
def tS0:List Nat:=keyB (shV (keyU 1) tA0)
def tB0:List Nat:=bli tS0 tA0
def tA1:List Nat:=keyB (shV tB0 tA0)
def tS1:List Nat:=keyB (shV (keyU 2) tA1)
set_option maxRecDepth 1000000 in
theorem v1:Nat.beq (chV (puV (keyU 1)) [keyU 9]) (shV (keyU 1) tA0)=true:=by kernel_rfl
set_option maxRecDepth 1000000 in
theorem v2:Nat.beq (shV (keyU 1) tA0) 0=false:=by kernel_rfl
set_option maxRecDepth 1000000 in
theorem v3:Nat.beq (shV tB0 tA0) 0=false:=by kernel_rfl
set_option maxRecDepth 1000000 in
theorem v4:Nat.beq (chV (puV (keyU 2)) [keyU 9,tB0]) (shV (keyU 2) tA1)=true:=by kernel_rfl
set_option maxRecDepth 1000000 in
theorem v5:Nat.beq (shV (keyU 2) tA1) 0=false:=by kernel_rfl
set_option maxRecDepth 1000000 in
theorem v6:Nat.beq (shV (bli tS1 tA1) tA1) 0=false:=by kernel_rfl
theorem Zca {n:Nat} (h:Nat.beq n 0=false):n≠0:=fun e=>by rw[e] at h;cases h
theorem Zrq (c1 c2:Cmd):secF [keyU 9] (puB (keyU 9)) [⟨puB (keyU 1),c1⟩,⟨puB (keyU 2),c2⟩]=some [tS0,tS1]∧Way (puB (keyU 9)) [keyU 1,keyU 2] [tS0,tS1]:=by
 have e1:chB (puB (keyU 1)) [keyU 9]=shV (keyU 1) tA0:=by rw[ch_V,pu_V];exact Nat.eq_of_beq_eq_true v1
 have e2:chB (puB (keyU 2)) [keyU 9,tB0]=shV (keyU 2) tA1:=by rw[ch_V,pu_V];exact Nat.eq_of_beq_eq_true v4
 have x1:nxA tS0 tA0=shV tB0 tA0:=sh_V _ _
 have x2:nxA tS1 tA1=shV (bli tS1 tA1) tA1:=sh_V _ _
 have k1:keyB (shV (keyU 1) tA0)=tS0:=rfl
 have k2:keyB (shV tB0 tA0)=tA1:=rfl
 have k3:keyB (shV (keyU 2) tA1)=tS1:=rfl
 have b1:[keyU 9]++[bli tS0 tA0]=[keyU 9,tB0]:=rfl
 have a0:puB (keyU 9)=tA0:=pu_V _
 have s1:shB (keyU 1) tA0=shV (keyU 1) tA0:=sh_V _ _
 have s2:shB (keyU 2) tA1=shV (keyU 2) tA1:=sh_V _ _
 rw[a0]
 refine⟨?_,?_⟩
 ·unfold secF
  rw[e1,if_neg (Zca v2),k1,x1,if_neg (Zca v3),k2,b1]
  unfold secF
  rw[e2,if_neg (Zca v5),k3,x2,if_neg (Zca v6)]
  rfl
 ·unfold Way
  rw[s1]
  refine⟨Zca v2,k1,by rw[x1];exact Zca v3,?_⟩
  rw[x1,k2]
  unfold Way
  rw[s2]
  exact⟨Zca v5,k3,by rw[x2];exact Zca v6,trivial⟩
theorem Zlk {ss cs:List (List Nat)} {i:Nat} {s t c:List Nat} (hl:cs.length=ss.length) (hs:ss[i]?=some s) (ht:ss[i+1]?=some t) (hc:cs[i]?=some c) :
  ZaX (ss.take i) ((ss.zip cs).drop i)=(wid s c (prf t (ZaX (ss.take (i+1)) ((ss.zip cs).drop (i+1)))) (ZaX (ss.take (i+1)) ((ss.zip cs).drop (i+1)))).take 160:=by
 obtain⟨h1,rfl⟩:=List.getElem?_eq_some_iff.1 hs
 obtain⟨h2,rfl⟩:=List.getElem?_eq_some_iff.1 ht
 obtain⟨h3,rfl⟩:=List.getElem?_eq_some_iff.1 hc
 have hz:(ss.zip cs).length=ss.length:=by rw[List.length_zip,hl,Nat.min_self]
 have hz2:(ss.zip cs).drop (i+1)=(ss[i+1],cs[i+1]'(by omega))::(ss.zip cs).drop (i+1+1):=by
  rw[List.drop_eq_getElem_cons (by omega)];simp
 rw[List.drop_eq_getElem_cons (show i<(ss.zip cs).length by omega),List.getElem_zip]
 have e:ss.take (i+1)=ss.take i++[ss[i]]:=by rw[List.take_add_one,hs];rfl
 rw[e,hz2,ZcS]
theorem Zmj {ss cs:List (List Nat)} {i:Nat} {s c:List Nat} (hl:cs.length=ss.length) (hi:ss.length=i+1) (hs:ss[i]?=some s) (hc:cs[i]?=some c):ZaX (ss.take i) ((ss.zip cs).drop i)=Zek (ss.take i) s c:=by
 obtain⟨h1,rfl⟩:=List.getElem?_eq_some_iff.1 hs
 obtain⟨h3,rfl⟩:=List.getElem?_eq_some_iff.1 hc
 rw[List.drop_eq_getElem_cons (by rw[List.length_zip];omega),List.getElem_zip,List.drop_of_length_le (by rw[List.length_zip];omega)]
 rfl
theorem Zdy {w:World} {p:Option Addr} {L:List Hop} (hR:RowsAt 43 w p (hopR L)) {j:Nat} {h:Hop} (hj:L[j]?=some h) (ho:HopOk h) :
  ∃ g o,p=some ⟨g,o,none⟩∧g<w.heap.size∧(Zaq 51 (.pointer (some ⟨g,o+j*43+32,none⟩))).run Tryz.prog w=.ok (.agg (cmdA h.c)) w:=by
 have hsz:=Zbs ho.k ho.i
 have:=hR.part (k:=32) (K:=11) Tryz.underlying51 rfl (by kernel_rfl) (Zkr hj) (by omega)
 rwa [Zoj h.k h.c ho.k ho.i] at this
def ZdM (L:List Hop):List (List Nat):=L.map fun h=>encV h.c
theorem Zhe {ss cs:List (List Nat)} (hl:cs.length=ss.length) (hc:∀c∈cs,c.length=16) (hcb:∀c∈cs,∀ i,c.getD i 0<256) (j:Nat) (hj:j<ss.length) (h5:ss.length≤5) :
  (ZaX (ss.take j) ((ss.zip cs).drop j)).length=160∧∀ i,(ZaX (ss.take j) ((ss.zip cs).drop j)).getD i 0<256:=by
 have hm:∀x∈(ss.zip cs).drop j,x.2∈cs:=fun x hx=>(List.of_mem_zip (List.mem_of_mem_drop hx)).2
 have hz:((ss.zip cs).drop j).length=ss.length-j:=by rw[List.length_drop,List.length_zip,hl,Nat.min_self]
 refine⟨ZbN _ _ (fun e=>?_) (fun x hx=>hc _ (hm x hx)) ?_,Zfu _ _ fun x hx=>hcb _ (hm x hx)⟩
 ·rw[e] at hz;simp at hz;omega
 ·rw[hz,List.length_take];omega
set_option maxHeartbeats 1500000 in
set_option maxRecDepth 100000 in
theorem ZiQ (ss:List (List Nat)) (L:List Hop) (p q:Option Addr) (n cap capL:Nat) (hs:∀t∈ss,t.length=32) (hsb:∀t∈ss,∀ i,t.getD i 0<256) (hok:∀h∈L,HopOk h) (hn:n=ss.length) (hL:L.length=ss.length) (h1:1≤n) (h5:n≤5) (hnc:n≤cap) (w:World) (hT:Tabs w) (hR:RowsAt 32 w p (ss.map bysA)) (hQ:RowsAt 43 w q (hopR L)) :
  Calls Tryz.prog 34 #[.slice p n cap,.slice q n capL] w fun e w'=>e=.returned (.agg (bysA (ZaX [] (ss.zip (ZdM L)))))∧Below w.heap.size w w':=by
 obtain⟨d,ed⟩:∃d,d+1=n:=⟨n-1,by omega⟩
 have hnd:(n:Int)-1=(d:Int):=by omega
 have hd5:¬(5:Int)<(n:Int):=by omega
 have hdn:(d:Int)<(n:Int):=by omega
 have hcl:(ZdM L).length=ss.length:=by unfold ZdM;rw[List.length_map,hL]
 have hce:∀c∈ZdM L,c.length=16:=fun c hc=>by
  obtain⟨h,hh,rfl⟩:=List.mem_map.1 hc
  exact ZcA (hok h hh).i
 have hcb:∀c∈ZdM L,∀ i,c.getD i 0<256:=fun c hc=>by
  obtain⟨h,hh,rfl⟩:=List.mem_map.1 hc
  exact ZeZ (hok h hh).ib
 have hcg:∀{j:Nat} {h:Hop},L[j]?=some h→(ZdM L)[j]?=some (encV h.c):=fun {j h} hj=>by unfold ZdM;rw[List.getElem?_map,hj];rfl
 obtain⟨B,eB⟩:∃B:Nat→List Nat,B=fun j=>ZaX (ss.take j) ((ss.zip (ZdM L)).drop j):=⟨_,rfl⟩
 have HBl:=Lib.hid (fun j (hj:j<n)=>show (B j).length=160 from by rw[eB];exact(Zhe hcl hce hcb j (by omega) (by omega)).1)
 have HBb:=Lib.hid (fun j (hj:j<n)=>show ∀i,(B j).getD i 0<256 from by rw[eB];exact(Zhe hcl hce hcb j (by omega) (by omega)).2)
 have HB0:=Lib.hid (show ZaX [] (ss.zip (ZdM L))=B 0 by rw[eB];rfl)
 rw[HB0.out]
 obtain⟨sd,hsd⟩:∃s,ss[d]?=some s:=⟨_,List.getElem?_eq_getElem (by omega)⟩
 obtain⟨hd,hhd⟩:∃h,L[d]?=some h:=⟨_,List.getElem?_eq_getElem (by omega)⟩
 have hod:=hok hd (List.mem_of_getElem? hhd)
 have hss:ss=ss.take d++[sd]:=by
  have:ss.take (d+1)=ss.take d++[sd]:=by rw[List.take_add_one,hsd];rfl
  rw[←this,List.take_of_length_le (by omega)]
 have hBd:B d=Zek (ss.take d) sd (encV hd.c):=by rw[eB];exact Zmj hcl (by omega) hsd (hcg hhd)
 have HLa:=Lib.hid (fun (W:World) (h:Tabs W) (hb:Below w.heap.size w W)=>Zk9 (ss.take d) sd hd.c p n cap (by rw[←hss];exact hs) (by rw[←hss];exact hsb) hod.i hod.ib (by rw[List.length_take];omega) h5 hnc W h (by rw[←hss];exact hR.grow hb))
 rw[←hBd] at HLa
 obtain⟨g,o,ep,hx1,hx2⟩:=Zdq hR hsd (hs sd (List.mem_of_getElem? hsd))
 clear hx1 hx2
 obtain⟨gq,oq,eq,hx1,hx2⟩:=Zdy hQ hhd hod
 clear hx1 hx2
 subst ep eq
 have HK:=Lib.hid (fun (j:Nat) (s:List Nat) (hj:ss[j]?=some s) (W:World) (hb:Below w.heap.size w W)=>show (Zaq 23 (.pointer (some ⟨g,o+j*32,none⟩))).run Tryz.prog W=.ok (.agg (bysA s)) W by
  obtain⟨g',o',e,_,h⟩:=Zdq (hR.grow hb) hj (hs s (List.mem_of_getElem? hj))
  cases e;exact h)
 have HC:=Lib.hid (fun (j:Nat) (h:Hop) (hj:L[j]?=some h) (W:World) (hb:Below w.heap.size w W)=>show (Zaq 51 (.pointer (some ⟨gq,oq+j*43+32,none⟩))).run Tryz.prog W=.ok (.agg (cmdA h.c)) W by
  obtain⟨g',o',e,_,h⟩:=Zdy (hQ.grow hb) hj (hok h (List.mem_of_getElem? hj))
  cases e;exact h)
 have HSt:=Lib.hid (fun (i:Nat) (s t:List Nat) (h:Hop) (hs:ss[i]?=some s) (ht:ss[i+1]?=some t) (hh:L[i]?=some h)=>show B i=(wid s (encV h.c) (prf t (B (i+1))) (B (i+1))).take 160 from by rw[eB];exact Zlk hcl hs ht (hcg hh))
 have Hsl:=Lib.hid (And.intro hs hsb)
 have Hok:=Lib.hid hok
 have Hn:=Lib.hid (And.intro hn (And.intro hL (And.intro h5 ed)))
 have hld0:=HC.out d hd hhd (w.alloc (.cells (bysA (zs 160)) 27)) (Zab (Below.refl _ _) _)
 have hBds:=Zae (HBl.out d (by omega))
 have hcs:=Zax hod.i
 have HT:=Lib.hid hT
 have hz160:=Zae (Zah 160)
 clear hT hR hQ hs hsb hok hn hL h1 h5 hnc hcl hce hcb hcg hss hBd hod hhd hsd eB ed
 go_enter Tryz.func34,Tryz.ntmps34
 go_wp2_with fail
 generalize hW:World.alloc _ _=W0
 have R0x0:=Lib.hid (show RowAt W0 (w.heap.size) (bysA (zs 160)) by rw[←hW];clear hW;exact⟨by go_simp,by first | (go_simp;done) | (go_simp;rfl),by go_simp⟩)
 have B0:=Lib.hid (show Below w.heap.size w W0 by rw[←hW];repeat (first | apply Zab | exact Below.refl _ _))
 clear hW
 have hzs160:=Zae (Zah 160)
 have l_r:w.heap.size≤w.heap.size:=by omega
 obtain⟨r,er⟩:∃z,z=w.heap.size:=⟨_,rfl⟩
 rw[←er] at R0x0  ⊢
 have l_r:w.heap.size≤r:=by rw[er];exact Nat.le_refl _
 clear er
 obtain⟨R0x0a,R0x0b,R0x0c⟩:=R0x0.out
 clear hld0
 refine(HLa.out _ (HT.out.grow B0.out) B0.out).mono ?_
 rintro e W1 ⟨rfl,hb1⟩
 clear R0x0a R0x0b R0x0c
 have R1x0:=Lib.hid (R0x0.out.grow hb1)
 have B1:=Lib.hid (B0.out.trans (hb1.mono B0.out.size))
 clear hb1 B0 R0x0
 obtain⟨R1x0a,R1x0b,R1x0c⟩:=R1x0.out
 go_wp2_with fail
 have n_r_b:r≠W1.heap.size:=Nat.ne_of_lt R1x0.out.2.2
 have l_b:w.heap.size≤W1.heap.size:=B1.out.size
 have hb2:=Zab (Below.refl W1.heap.size W1) (.cells (bysA (B d)) 27)
 have N2:=Lib.hid (RowAt.of (Zas W1 (.cells (bysA (B d)) 27)))
 have R2x0:=Lib.hid (R1x0.out.grow hb2)
 have B2:=Lib.hid (B1.out.trans (hb2.mono B1.out.size))
 clear hb2 B1 R1x0 R1x0a R1x0b R1x0c
 generalize W1.heap.size=b at *
 generalize W1.alloc (.cells (bysA (B d)) 27)=W2 at *
 obtain⟨R2x0a,R2x0b,R2x0c⟩:=R2x0.out
 obtain⟨N2a,N2b,N2c⟩:=N2.out
 go_wp2_with fail
 go_loopw [7] (fun i wr=>∃ j:Nat,j≤d∧i=.int .i64 ((j:Int)-1)∧RowAt wr b (bysA (B j))∧RowAt wr r (bysA (zs 160))∧Below w.heap.size w wr) (fun i _=>(intOf i+1).toNat)
 case atStart=>exact⟨d,Nat.le_refl _,rfl,N2.out,R2x0.out,B2.out⟩
 case round =>
  obtain⟨j,hj,rfl,hb,hr,hbel⟩:=hrel
  rcases j with _ | i
  ·rw[show ((0:Nat):Int)-1=-1 from rfl]
   obtain⟨b1,b2,b3⟩:=hb
   obtain⟨r1,r2,r3⟩:=hr
   have hB0s:=Zae (HBl.out 0 (by have:=Hn.out.2.2.2;omega))
   have Hbel:=Lib.hid hbel
   clear hbel
   go_wp2_with fail
   refine bodyPost_ret (v:=.agg (bysA (B 0))) (ZcL Tryz.results34 hB0s _ _ _ rfl (by go_simp) (by go_simp)) rfl ⟨rfl,?_⟩
   exact Zac Hbel.out l_r _
  ·obtain⟨s,hs⟩:∃s,ss[i]?=some s:=⟨_,List.getElem?_eq_getElem (by have:=Hn.out.1;have:=Hn.out.2.2.2;omega)⟩
   obtain⟨t,ht⟩:∃s,ss[i+1]?=some s:=⟨_,List.getElem?_eq_getElem (by have:=Hn.out.1;have:=Hn.out.2.2.2;omega)⟩
   obtain⟨h,hh⟩:∃h,L[i]?=some h:=⟨_,List.getElem?_eq_getElem (by have:=Hn.out.1;have:=Hn.out.2.1;have:=Hn.out.2.2.2;omega)⟩
   have ho:=Hok.out h (List.mem_of_getElem? hh)
   have hsl:=Hsl.out.1 s (List.mem_of_getElem? hs)
   have hsb:=Hsl.out.2 s (List.mem_of_getElem? hs)
   have htl:=Hsl.out.1 t (List.mem_of_getElem? ht)
   have htb:=Hsl.out.2 t (List.mem_of_getElem? ht)
   have HBi:=Lib.hid (HSt.out i s t h hs ht hh)
   obtain⟨i1,ei1⟩:∃x,x=i+1:=⟨_,rfl⟩
   rw[←ei1] at ht HBi hb
   have hBl:=HBl.out i1 (by have:=Hn.out.2.2.2;omega)
   have hBb:=HBb.out i1 (by have:=Hn.out.2.2.2;omega)
   have hBl0:=HBl.out i (by have:=Hn.out.2.2.2;omega)
   have hBs:=Zae hBl0
   have hBs1:=Zae hBl
   have KP:=Lib.hid (fun (W:World) (hT:Tabs W)=>Zhq t (B i1) htl htb hBl hBb W hT)
   have KL:=Lib.hid (fun (W:World)=>ZqA h.c ho.i (prf t (B i1)) (B i1) (Za6 _ _) hBl W)
   have hel:=ZcA ho.i
   have KT:=Lib.hid (fun (W:World) (hT:Tabs W)=>show Calls Tryz.prog 46 #[.agg (bysA (encV h.c++prf t (B i1)++B i1)),.agg (bysA s)] W fun e w'=>e=.returned (.agg (bysA (wid s (encV h.c) (prf t (B i1)) (B i1))))∧Below W.heap.size W w' from Zhn (encV h.c++prf t (B i1)++B i1) s (by rw[List.length_append,List.length_append,hel,Za6,hBl]) (ZaN (ZaN (ZeZ ho.ib) (Zhg _ _)) hBb) hsl hsb W hT)
   have KW:=Lib.hid (fun (W:World)=>Znq (wid s (encV h.c) (prf t (B i1)) (B i1)) (Zcl hel (Za6 _ _) hBl) W)
   rw[←HBi.out] at KW
   have hpl:=Zae (Za6 t (B i1))
   generalize encV h.c++prf t (B i1)++B i1=Y at *
   generalize wid s (encV h.c) (prf t (B i1)) (B i1)=V at *
   generalize prf t (B i1)=P at *
   have hks:∀(o':Array Obj) (d':Nat),(Zaq 23 (.pointer (some ⟨g,o+i*32,none⟩))).run Tryz.prog (wr.plus o' d')=.ok (.agg (bysA s)) (wr.plus o' d'):=fun o' d'=>HK.out i s hs _ (ZaM _ _ _ hbel hbel.size)
   have hkt:∀(o':Array Obj) (d':Nat),(Zaq 23 (.pointer (some ⟨g,o+i1*32,none⟩))).run Tryz.prog (wr.plus o' d')=.ok (.agg (bysA t)) (wr.plus o' d'):=fun o' d'=>HK.out i1 t ht _ (ZaM _ _ _ hbel hbel.size)
   have hkc:∀(o':Array Obj) (d':Nat),(Zaq 51 (.pointer (some ⟨gq,oq+i*43+32,none⟩))).run Tryz.prog (wr.plus o' d')=.ok (.agg (cmdA h.c)) (wr.plus o' d'):=fun o' d'=>HC.out i h hh _ (ZaM _ _ _ hbel hbel.size)
   have hi0:(0:Int)≤(i:Int):=by omega
   have hin:(i:Int)<(n:Int):=by have:=Hn.out.2.2.2;omega
   have hi1n:(i1:Int)<(n:Int):=by have:=Hn.out.2.2.2;omega
   have hii:(i:Int)+1=(i1:Int):=by omega
   have hwi:IntKind.i64.wrap (i1:Int)=(i1:Int):=IntWalk.i64_in _ (by omega)
   have hcs':=Zax ho.i
   have Hi1:=Lib.hid (And.intro ei1 hj)
   have Hb:=Lib.hid hb
   have Hr:=Lib.hid hr
   have Hbel:=Lib.hid hbel
   rw[show (((i+1:Nat):Int)-1)=(i:Int) by omega]
   obtain⟨b1,b2,b3⟩:=hb
   clear hs ht hh ho hsl hsb htl htb hBl hBb hBl0 hel hr hbel ei1 hj
   go_wp2_with fail
   refine Zao wr [0,1,2,3,4,5,6,7,8,9,10,11,12,13,14,15,16,17,18,19] [false,false,false,false,false,false,false,false,false,false,false,false,false,false,false,false,false,false,false,false] [] [] 20 (by kernel_rfl) rfl (by kernel_rfl) (by intro c a d v w h;cases d<;>exact h) (by first | exact(Below.refl _ _).drew | exact Below.refl _ _) ?_
   simp only[pick,List.getElem?_cons_succ,List.getElem?_cons_zero,List.drop_succ_cons,List.drop_zero]
   refine Zad (Zaa rfl) (by intro K o d hK;go_simp;exact hK _ (Below.refl _ _)) ?_
   refine Zad (Zaa rfl) (by intro K o d hK;go_simp;exact hK _ (Below.refl _ _)) ?_
   refine Zad (Zaa rfl) (by intro K o d hK;go_simp;exact hK _ (Below.refl _ _)) ?_
   refine Zad (Zaa rfl) (by intro K o d hK;go_simp;exact hK _ (Below.refl _ _)) ?_
   refine Zad (Zaa rfl) (by intro K o d hK;go_simp;exact hK _ (Below.refl _ _)) ?_
   refine Zad (Zaa rfl) (by intro K o d hK;go_simp;exact hK _ (Below.refl _ _)) ?_
   refine Zad (Zaa rfl) (by intro K o d hK;go_simp;exact hK _ (Below.refl _ _)) ?_
   refine Zad (Zaa rfl) (by intro K o d hK;go_simp;exact hK _ (Below.refl _ _)) ?_
   refine Zad (Zaa rfl) (by intro K o d hK;go_simp;exact hK _ (Below.refl _ _)) ?_
   refine Zad (Zaa rfl) (by intro K o d hK;go_simp;exact hK _ (Below.refl _ _)) ?_
   refine Zad (Zaa rfl) (by intro K o d hK;go_simp;exact hK _ (Below.refl _ _)) ?_
   refine Zaj (v:=.agg (bysA P)) (Zaa rfl) (by intro K o d hK;go_simp;refine(KP.out _ (HT.out.grow (ZaM _ _ _ Hbel.out Hbel.out.size))).mono ?_;rintro e w' ⟨rfl,hbw⟩;exact⟨_,rfl,hK _ hbw⟩) ?_
   refine Zad (Zaa rfl) (by intro K o d hK;go_simp;exact hK _ (Below.refl _ _)) ?_
   refine Zaj (v:=.agg (bysA Y)) (Zaa rfl) (by intro K o d hK;go_simp;refine(KL.out _).mono ?_;rintro e w' ⟨rfl,hbw⟩;exact⟨_,rfl,hK _ hbw⟩) ?_
   refine Zad (Zaa rfl) (by intro K o d hK;go_simp;exact hK _ (Below.refl _ _)) ?_
   refine Zad (Zaa rfl) (by intro K o d hK;go_simp;exact hK _ (Below.refl _ _)) ?_
   refine Zad (Zaa rfl) (by intro K o d hK;go_simp;exact hK _ (Below.refl _ _)) ?_
   refine Zad (Zaa rfl) (by intro K o d hK;go_simp;exact hK _ (Below.refl _ _)) ?_
   refine Zaj (v:=.agg (bysA V)) (Zaa rfl) (by intro K o d hK;go_simp;refine(KT.out _ (HT.out.grow (ZaM _ _ _ Hbel.out Hbel.out.size))).mono ?_;rintro e w' ⟨rfl,hbw⟩;exact⟨_,rfl,hK _ hbw⟩) ?_
   refine Zaj (v:=.agg (bysA (B i))) (Zaa rfl) (by intro K o d hK;go_simp;refine(KW.out _).mono ?_;rintro e w' ⟨rfl,hbw⟩;exact⟨_,rfl,hK _ hbw⟩) ?_
   refine Zap ?_
   intro W11 hb11 hblk
   clear hblk
   clear b1 b2 b3
   have R11x0:=Lib.hid (Hb.out.grow hb11)
   have R11x1:=Lib.hid (Hr.out.grow hb11)
   have B11:=Lib.hid (Hbel.out.trans (hb11.mono Hbel.out.size))
   clear hb11 Hbel Hb Hr
   obtain⟨R11x0a,R11x0b,R11x0c⟩:=R11x0.out
   obtain⟨R11x1a,R11x1b,R11x1c⟩:=R11x1.out
   go_wp2_with fail
   go_roundw
   case rel=>exact⟨i,by have:=Hi1.out.2;omega,rfl,R11x0.out.set _,R11x1.out.other n_r_b _,Zac B11.out l_b _⟩
   case measure=>simp[intOf]
end Go.Proofs.YtddmjddlbhdcpaaGreatDoor
