/-
  Part 13 of the texts behind the theorem.
-/
import Derived.Test.YtddmjddlbhdcpaaGreatDoorPart12
import Derived.Test.YtddmjddlbhdcpaaGreatDoorPart11
set_option maxHeartbeats 8000000
set_option maxRecDepth 100000
namespace Go.Proofs.YtddmjddlbhdcpaaGreatDoor
open Go.RowKit Go.Hold Go.Sh Go.Ch Go.Cm Go.Hd
theorem ZjB {w:World} {p:Option Addr} {L:List Hop} (hR:RowsAt 43 w p (hopR L)) {j:Nat} {h:Hop} (hj:L[j]?=some h) (ho:HopOk h) :
  ∃ g o,p=some ⟨g,o,none⟩∧g<w.heap.size∧(Zam 23 (.pointer (some ⟨g,o+j*43,none⟩))).run Tryz.prog w=.ok (.agg (bysA h.k)) w:=by
 have hsz:=Za0 ho.k ho.i
 have:=hR.part (k:=0) (K:=32) Tryz.underlying23 rfl (by kernel_rfl) (Zen hj) (by omega)
 rwa [ZpE h.k h.c ho.k] at this
theorem ZgI (x:List Nat) (L:List Hop) (p:Option Addr) (n cap:Nat) (hx:x.length=32) (hxb:∀i,x.getD i 0<256) (hok:∀h∈L,HopOk h) (hn:n=L.length) (h5:n≤5) (w:World) (hR:RowsAt 43 w p (hopR L)) :
  Calls Tryz.prog 36 #[.agg (bysA x),.slice p n cap] w fun e w'=>∃ v,e=.returned (.tuple #[v,.bool (secF [x] (puB x) L).isSome])∧secT (secF [x] (puB x) L) w' w.heap.size v∧(∀ k,v.ownBlock=some k→w.heap.size≤k)∧Below w.heap.size w w':=by
 have hxs:=Zae hx
 have hd5:¬(5:Int)<(n:Int):=by omega
 have hbx:=fun W=>Zcx hx W
 have HP:=Zq (fun (W:World)=>ZgD x hx hxb W)
 have HR:=Zq hR
 have Hx:=Zq (And.intro hx hxb)
 have ha:=ZaX x
 have Ha:=Zq (And.intro ha (Zey x))
 have has:=Zae ha
 have Hn:=Zq (And.intro hn h5)
 have Hok:=Zq hok
 generalize puB x=a0 at *
 obtain⟨T,eT⟩:∃T,T=secF [x] a0 L:=⟨_,rfl⟩
 have HE:=Zq eT
 rw[←eT]
 clear hR hx hxb ha hn h5 hok eT
 go_enter Tryz.func36,Tryz.ntmps36
 go_wp2_with fail
 have LX:=Zab (Below.refl w.heap.size w) (.cells (bysA x) 23)
 have F0:=ZmX Hx.out.1 (w:=w.alloc (.cells (bysA x) 23)) w.heap.size LX.size
 have B0:=Zab LX (.cells (bysA x) 23)
 have e0:(w.alloc (.cells (bysA x) 23)).heap.size=w.heap.size+1:=by go_simp
 have e1:((w.alloc (.cells (bysA x) 23)).alloc (.cells (bysA x) 23)).heap.size=w.heap.size+1+1:=by go_simp
 rw[e0] at F0
 generalize hW:(w.alloc (.cells (bysA x) 23)).alloc (.cells (bysA x) 23)=W0 at *
 clear LX e0 hW hbx
 refine(HP.out _).mono ?_
 rintro e W1 ⟨rfl,hb1⟩
 have F1:=F0.grow hb1
 have B1:=B0.trans (hb1.mono B0.size)
 have n1:w.heap.size+1<W1.heap.size:=by have:=hb1.size;omega
 have hb2:=Zab (Below.refl W1.heap.size W1) (.cells (bysA a0) 23)
 have Y2:=RowAt.of (Zaq W1 (.cells (bysA a0) 23))
 have HI0:=Zq (show SInv w W1.heap.size T L 0 (.slice (some ⟨w.heap.size+1,0,none⟩) 1 1) (.slice none 0 0) [x] [] a0 (W1.alloc (.cells (bysA a0) 23)) from
  ⟨Y2,F1.grow hb2,OwnR.nil _ _ _ _,by simp[Value.ownBlock];omega,by simp[Value.ownBlock],by simp[Value.ownBlock],B1.trans (hb2.mono B1.size),rfl,rfl,fun f hf=>by rw[List.mem_singleton.1 hf];exact Hx.out.1,fun f hf=>by rw[List.mem_singleton.1 hf];exact Hx.out.2,Ha.out.1,Ha.out.2,by rw[HE.out];simp⟩)
 have l_y:w.heap.size≤W1.heap.size:=B1.size
 clear F0 B0 e1 hb1 F1 B1 n1 hb2 Y2
 generalize w.heap.size+1=f0 at *
 go_wp2_with fail
 generalize W1.alloc (.cells (bysA a0) 23)=W2 at *
 generalize W1.heap.size=y at *
 go_loopw [6,8,9] (fun fv av i wr=>∃ (vf va:Value) (k:Nat) (fs acc:List (List Nat)) (a:List Nat),vf=fv∧va=av∧k≤n∧i=.int .i64 k∧SInv w y T L k vf va fs acc a wr) (fun _ _ i _=>n-(intOf i).toNat)
 case atStart=>exact⟨_,_,0,[x],[],a0,rfl,rfl,Nat.zero_le _,rfl,HI0.out⟩
 case round =>
  obtain⟨vf,va,k,fs,acc,a,rfl,rfl,hk,rfl,I⟩:=hrel
  clear HI0
  by_cases hkn:k<n
  ·have hk1:(k:Int)<(n:Int):=by omega
   obtain⟨h,hj⟩:∃h,L[k]?=some h:=⟨_,List.getElem?_eq_getElem (by rw[←Hn.out.1];exact hkn)⟩
   have ho:=Hok.out h (List.mem_of_getElem? hj)
   obtain⟨g,o,ep,hg,hld⟩:=ZjB (HR.out.grow I.bel) hj ho
   subst ep
   have hks:=ho.k
   have hkey:=Zae hks
   have has':=Zae I.a32
   obtain⟨pf,cf,rfl,_,_,_,_⟩:=I.of.form
   rw[List.length_map,I.fl] at I ⊢
   have HEq:=Zq I.eq
   rw[ZhL hj] at HEq
   obtain⟨m,em⟩:∃m,m=k+1:=⟨_,rfl⟩
   rw[←em] at I ⊢
   have KC:=Zq (fun (W:World) (hW:RowsAt 32 W pf (fs.map bysA))=>Zmr h.k fs m cf pf hks ho.kb I.f32 I.fb (by rw[I.fl,em]) (by have:=Hn.out.2;omega) W hW)
   obtain⟨s,es⟩:∃s,s=keyB (chB h.k fs):=⟨_,rfl⟩
   have hs32:s.length=32:=by rw[es];exact Za1 _
   have hsb:∀i,s.getD i 0<256:=by rw[es];exact ZcN _
   have hss:=Zae hs32
   rw[←es] at KC HEq
   obtain⟨cn,ecn⟩:∃c,c=chB h.k fs:=⟨_,rfl⟩
   rw[←ecn] at KC HEq
   have Hof:=Zq I.of
   have Hoa:=Zq I.oa
   have Hy:=Zq I.hy
   have Hbel:=Zq I.bel
   have HI:=Zq I
   have Em:=Zq em
   have hbk:=fun W=>Zcx hs32 W
   obtain⟨y1,y2,y3⟩:=I.hy
   clear hj ho es ecn I em
   by_cases hz:cn=0
   ·rw[if_pos hz] at HEq
    obtain rfl:T=none:=HEq.out
    rw[Zcu hz] at KC
    clear hz HEq
    go_wp2_with fail
    refine(KC.out _ (OwnR.rows Hof.out)).mono ?_
    rintro e W11 ⟨rfl,hb11⟩
    clear y1 y2 y3 hld hg
    have O11x0:=Zq (Hof.out.grow hb11)
    clear Hof
    have O11x1:=Zq (Hoa.out.grow hb11)
    clear Hoa
    have R11x0:=Zq (Hy.out.grow hb11)
    have B11:=Zq (Hbel.out.trans (hb11.mono Hbel.out.size))
    clear hb11 Hbel Hy
    obtain⟨R11x0a,R11x0b,R11x0c⟩:=R11x0.out
    go_wp2_with fail
    refine bodyPost_ret (v:=.tuple #[.slice none 0 0,.bool false]) (results_tmp2 Tryz.results36 _ _ _) rfl ⟨_,rfl,OwnR.nil _ _ _ _,fun k hk=>by simp[Value.ownBlock] at hk,?_⟩
    exact B11.out.alloc B11.out.size _
   ·rw[if_neg hz] at HEq
    rw[Zcr hz] at KC
    clear hz
    have hKB:=Zq (fun (W:World)=>Zp0 s a hs32 hsb HI.out.a32 HI.out.ab W)
    obtain⟨b,eb⟩:∃b,b=bli s a:=⟨_,rfl⟩
    have hb32:b.length=32:=by rw[eb];exact Zc0 _ _
    have hbb:∀i,b.getD i 0<256:=by rw[eb];exact Zjl _ _
    have hbs:=Zae hb32
    have KS:=Zq (fun (W:World)=>show Calls Tryz.prog 53 #[.agg (bysA b),.agg (bysA a)] W fun e w'=>e=.returned (.tuple #[.agg (bysA (keyB (nxA s a))),.int .i64 (F.errOf (nxA s a))])∧Below W.heap.size W w' from by
     have:=ZkX b a hb32 hbb HI.out.a32 HI.out.ab W
     unfold nxA;rwa [←eb])
    obtain⟨a',ea'⟩:∃a',a'=keyB (nxA s a):=⟨_,rfl⟩
    have ha32:a'.length=32:=by rw[ea'];exact Za1 _
    have hab:∀i,a'.getD i 0<256:=by rw[ea'];exact ZcN _
    have has2:=Zae ha32
    rw[←eb] at hKB HEq
    rw[←ea'] at KS HEq
    obtain⟨dn,edn⟩:∃d,d=nxA s a:=⟨_,rfl⟩
    rw[←edn] at KS HEq
    have hbk2:=fun W=>Zcx hb32 W
    clear eb ea' edn
    go_wp2_with fail
    refine(KC.out _ (OwnR.rows Hof.out)).mono ?_
    rintro e W11 ⟨rfl,hb11⟩
    clear y1 y2 y3 hld hg
    have O11x0:=Zq (Hof.out.grow hb11)
    clear Hof
    have O11x1:=Zq (Hoa.out.grow hb11)
    clear Hoa
    have R11x0:=Zq (Hy.out.grow hb11)
    have B11:=Zq (Hbel.out.trans (hb11.mono Hbel.out.size))
    clear hb11 Hbel Hy
    obtain⟨R11x0a,R11x0b,R11x0c⟩:=R11x0.out
    go_wp2_with (at_builtin;refine Hid.out ?_)
    refine Zq ?_
    have hb12:=Zab (Zab (Below.refl W11.heap.size W11) (.cells (bysA s) 23)) (.cells (bysA s) 23)
    have O12x0:=Zq (O11x0.out.grow hb12)
    have O12x1:=Zq (O11x1.out.grow hb12)
    have R12x0:=Zq (R11x0.out.grow hb12)
    have R12n0:=Zq (show RowAt ((W11.alloc (.cells (bysA s) 23)).alloc (.cells (bysA s) 23)) (W11.heap.size) (bysA s) from ⟨by go_simp,by first | (go_simp;done) | (go_simp;rfl),by go_simp⟩)
    have l_sb:w.heap.size≤W11.heap.size:=Nat.le_trans B11.out.size (by omega)
    have n_y_sb:y≠W11.heap.size:=by have:=R11x0.out.2.2;omega
    have m0_sb:(Value.slice pf m cf).ownBlock≠some (W11.heap.size):=fun e=>by have:=(O11x0.out.ltb _ e).2;omega
    have m1_sb:va.ownBlock≠some (W11.heap.size):=fun e=>by have:=(O11x1.out.ltb _ e).2;omega
    have R12n1:=Zq (show RowAt ((W11.alloc (.cells (bysA s) 23)).alloc (.cells (bysA s) 23)) (W11.heap.size+1) (bysA s) from ⟨by go_simp,by first | (go_simp;done) | (go_simp;rfl),by go_simp⟩)
    have l_tb:w.heap.size≤W11.heap.size+1:=Nat.le_trans B11.out.size (by omega)
    have n_y_tb:y≠W11.heap.size+1:=by have:=R11x0.out.2.2;omega
    have m0_tb:(Value.slice pf m cf).ownBlock≠some (W11.heap.size+1):=fun e=>by have:=(O11x0.out.ltb _ e).2;omega
    have m1_tb:va.ownBlock≠some (W11.heap.size+1):=fun e=>by have:=(O11x1.out.ltb _ e).2;omega
    have n_sb_tb:W11.heap.size≠W11.heap.size+1:=by omega
    have B12:=Zq (B11.out.trans (hb12.mono B11.out.size))
    clear B11 R11x0 O11x0 O11x1 hb12 R11x0a R11x0b R11x0c
    generalize (W11.alloc (.cells (bysA s) 23)).alloc (.cells (bysA s) 23)=W12 at *
    generalize W11.heap.size+1=tb at *
    generalize W11.heap.size=sb at *
    have hyl:=R12x0.out.2.2
    obtain⟨va2,W13,hr13,ho13,hg13,hn13⟩:=Zhb O12x1.out (Zcb R12n1.out) hs32 B12.out.size (by rw[HI.out.al];have:=Hn.out.2;omega)
    have P13:=Zq ho13
    have A13:=Zq (Zc2 B12.out O12x1.out B12.out.size hg13)
    have N13:=Zq hn13
    have Q13x0:=Zq (ZaM R12x0.out hg13 HI.out.na)
    have Q13x1:=Zq (ZaM R12n0.out hg13 m1_sb)
    have Q13x2:=Zq (ZaM R12n1.out hg13 m1_tb)
    have U13x0:=Zq (O12x0.out.kept hg13 (.inr HI.out.nn))
    have G13:=Zq hg13.size
    clear ho13 hg13 hn13
    have Hnn:=Zq (NewB.neB N13.out HI.out.nn (fun k e=>(O12x0.out.ltb k e).2) (P13.out.some_block (by simp)))
    have HnaY:=Zq (show va2.ownBlock≠some y from N13.out.ne HI.out.na hyl)
    clear hyl
    obtain⟨Q13x0a,Q13x0b,Q13x0c⟩:=Q13x0.out
    obtain⟨Q13x1a,Q13x1b,Q13x1c⟩:=Q13x1.out
    go_wp2_with (at_builtin;refine Lib.wpList_append_run _ rfl _ _ _ _ rfl _ _ rfl rfl _ _ hr13 ?_)
    clear hr13
    refine(hKB.out _).mono ?_
    rintro e W14 ⟨rfl,hb14⟩
    clear Q13x0a Q13x0b Q13x0c Q13x1a Q13x1b Q13x1c
    have O14x0:=Zq (U13x0.out.grow hb14)
    clear U13x0
    have O14x1:=Zq (P13.out.grow hb14)
    clear P13
    have R14x0:=Zq (Q13x0.out.grow hb14)
    have R14x1:=Zq (Q13x1.out.grow hb14)
    have B14:=Zq (A13.out.trans (hb14.mono A13.out.size))
    clear hb14 A13 Q13x0 Q13x1
    obtain⟨R14x0a,R14x0b,R14x0c⟩:=R14x0.out
    obtain⟨R14x1a,R14x1b,R14x1c⟩:=R14x1.out
    go_wp2_with (at_builtin;refine Hid.out ?_)
    refine Zq ?_
    have hb15:=Zab (Zab (Below.refl W14.heap.size W14) (.cells (bysA b) 23)) (.cells (bysA b) 23)
    have O15x0:=Zq (O14x0.out.grow hb15)
    have O15x1:=Zq (O14x1.out.grow hb15)
    have R15x0:=Zq (R14x0.out.grow hb15)
    have R15x1:=Zq (R14x1.out.grow hb15)
    have R15n0:=Zq (show RowAt ((W14.alloc (.cells (bysA b) 23)).alloc (.cells (bysA b) 23)) (W14.heap.size) (bysA b) from ⟨by go_simp,by first | (go_simp;done) | (go_simp;rfl),by go_simp⟩)
    have l_bb:w.heap.size≤W14.heap.size:=Nat.le_trans B14.out.size (by omega)
    have n_y_bb:y≠W14.heap.size:=by have:=R14x0.out.2.2;omega
    have n_sb_bb:sb≠W14.heap.size:=by have:=R14x1.out.2.2;omega
    have m0_bb:(Value.slice pf m cf).ownBlock≠some (W14.heap.size):=fun e=>by have:=(O14x0.out.ltb _ e).2;omega
    have m1_bb:va2.ownBlock≠some (W14.heap.size):=fun e=>by have:=(O14x1.out.ltb _ e).2;omega
    have R15n1:=Zq (show RowAt ((W14.alloc (.cells (bysA b) 23)).alloc (.cells (bysA b) 23)) (W14.heap.size+1) (bysA b) from ⟨by go_simp,by first | (go_simp;done) | (go_simp;rfl),by go_simp⟩)
    have l_ub:w.heap.size≤W14.heap.size+1:=Nat.le_trans B14.out.size (by omega)
    have n_y_ub:y≠W14.heap.size+1:=by have:=R14x0.out.2.2;omega
    have n_sb_ub:sb≠W14.heap.size+1:=by have:=R14x1.out.2.2;omega
    have m0_ub:(Value.slice pf m cf).ownBlock≠some (W14.heap.size+1):=fun e=>by have:=(O14x0.out.ltb _ e).2;omega
    have m1_ub:va2.ownBlock≠some (W14.heap.size+1):=fun e=>by have:=(O14x1.out.ltb _ e).2;omega
    have n_bb_ub:W14.heap.size≠W14.heap.size+1:=by omega
    have B15:=Zq (B14.out.trans (hb15.mono B14.out.size))
    clear B14 R14x0 R14x1 O14x0 O14x1 hb15 R14x0a R14x0b R14x0c R14x1a R14x1b R14x1c
    generalize (W14.alloc (.cells (bysA b) 23)).alloc (.cells (bysA b) 23)=W15 at *
    generalize W14.heap.size+1=ub at *
    generalize W14.heap.size=bb at *
    have hyl:=R15x0.out.2.2
    obtain⟨vf2,W16,hr16,ho16,hg16,hn16⟩:=Zhb O15x0.out (Zcb R15n1.out) hb32 B15.out.size (by rw[HI.out.fl];have:=Hn.out.2;omega)
    have P16:=Zq ho16
    have A16:=Zq (Zc2 B15.out O15x0.out B15.out.size hg16)
    have N16:=Zq hn16
    have Q16x0:=Zq (ZaM R15x0.out hg16 HI.out.nf)
    have Q16x1:=Zq (ZaM R15x1.out hg16 m0_sb)
    have Q16x2:=Zq (ZaM R15n0.out hg16 m0_bb)
    have Q16x3:=Zq (ZaM R15n1.out hg16 m0_ub)
    have U16x1:=Zq (O15x1.out.kept hg16 (.inr (fun e=>Hnn.out e.symm)))
    have G16:=Zq hg16.size
    clear ho16 hg16 hn16
    have Hnn2:=Zq (show vf2.ownBlock≠va2.ownBlock from fun e=>NewB.neB N16.out (fun e=>Hnn.out e.symm) (fun k e=>(O15x1.out.ltb k e).2) (P16.out.some_block (by simp)) e.symm)
    have HnfY:=Zq (show vf2.ownBlock≠some y from N16.out.ne HI.out.nf hyl)
    clear hyl
    obtain⟨Q16x0a,Q16x0b,Q16x0c⟩:=Q16x0.out
    obtain⟨Q16x1a,Q16x1b,Q16x1c⟩:=Q16x1.out
    obtain⟨Q16x2a,Q16x2b,Q16x2c⟩:=Q16x2.out
    go_wp2_with (at_builtin;refine Lib.wpList_append_run _ rfl _ _ _ _ rfl _ _ rfl rfl _ _ hr16 ?_)
    clear hr16
    by_cases hz:dn=0
    ·rw[if_pos hz] at HEq
     obtain rfl:T=none:=HEq.out
     rw[Zcu hz] at KS
     clear hz HEq
     refine(KS.out _).mono ?_
     rintro e W17 ⟨rfl,hb17⟩
     clear Q16x0a Q16x0b Q16x0c Q16x1a Q16x1b Q16x1c Q16x2a Q16x2b Q16x2c
     have O17x0:=Zq (P16.out.grow hb17)
     clear P16
     have O17x1:=Zq (U16x1.out.grow hb17)
     clear U16x1
     have R17x0:=Zq (Q16x0.out.grow hb17)
     have R17x1:=Zq (Q16x1.out.grow hb17)
     have R17x2:=Zq (Q16x2.out.grow hb17)
     have B17:=Zq (A16.out.trans (hb17.mono A16.out.size))
     clear hb17 A16 Q16x0 Q16x1 Q16x2
     obtain⟨R17x0a,R17x0b,R17x0c⟩:=R17x0.out
     obtain⟨R17x1a,R17x1b,R17x1c⟩:=R17x1.out
     obtain⟨R17x2a,R17x2b,R17x2c⟩:=R17x2.out
     go_wp2_with fail
     refine bodyPost_ret (v:=.tuple #[.slice none 0 0,.bool false]) (results_tmp2 Tryz.results36 _ _ _) rfl ⟨_,rfl,OwnR.nil _ _ _ _,fun k hk=>by simp[Value.ownBlock] at hk,?_⟩
     exact B17.out.alloc B17.out.size _
    ·rw[if_neg hz] at HEq
     rw[Zcr hz] at KS
     clear hz
     refine(KS.out _).mono ?_
     rintro e W17 ⟨rfl,hb17⟩
     clear Q16x0a Q16x0b Q16x0c Q16x1a Q16x1b Q16x1c Q16x2a Q16x2b Q16x2c
     have O17x0:=Zq (P16.out.grow hb17)
     clear P16
     have O17x1:=Zq (U16x1.out.grow hb17)
     clear U16x1
     have R17x0:=Zq (Q16x0.out.grow hb17)
     have R17x1:=Zq (Q16x1.out.grow hb17)
     have R17x2:=Zq (Q16x2.out.grow hb17)
     have B17:=Zq (A16.out.trans (hb17.mono A16.out.size))
     clear hb17 A16 Q16x0 Q16x1 Q16x2
     obtain⟨R17x0a,R17x0b,R17x0c⟩:=R17x0.out
     obtain⟨R17x1a,R17x1b,R17x1c⟩:=R17x1.out
     obtain⟨R17x2a,R17x2b,R17x2c⟩:=R17x2.out
     go_wp2_with fail
     have hb9:=Zab (Below.refl (W17.setRow y (bysA a')).heap.size (W17.setRow y (bysA a'))) (.cells (bysA a') 23)
     have hI2:SInv w y T L m vf2 va2 (fs++[b]) (acc++[s]) a' ((W17.setRow y (bysA a')).alloc (.cells (bysA a') 23)):=by
      obtain rfl:=Em.out
      have hs9:=Zad B17.out l_y (bysA a')
      exact⟨(R17x0.out.set _).grow hb9,(OwnR.setRow O17x0.out HnfY.out _).grow hb9,(OwnR.setRow O17x1.out HnaY.out _).grow hb9,HnfY.out,HnaY.out,Hnn2.out,hs9.trans (hb9.mono hs9.size),by rw[List.length_append,HI.out.fl];rfl,by rw[List.length_append,HI.out.al];rfl,fun f hf=>by
       rcases List.mem_append.1 hf with hf | hf
       ·exact HI.out.f32 f hf
       ·rw[List.mem_singleton.1 hf];exact hb32,fun f hf=>by
       rcases List.mem_append.1 hf with hf | hf
       ·exact HI.out.fb f hf
       ·rw[List.mem_singleton.1 hf];exact hbb,ha32,hab,by
       rw[HEq.out,Option.map_map]
       congr 1
       funext l
       simp⟩
     have HI2:=Zq hI2
     clear hI2 hb9
     go_roundw
     case rel=>exact⟨vf2,va2,m,_,_,a',rfl,rfl,by have:=Em.out;omega,by rw[Em.out];go_num,HI2.out⟩
     case measure=>simp[intOf];have:=Em.out;omega
  ·obtain rfl:k=n:=by omega
   have hT:T=some acc:=by
    rw[I.eq,List.drop_of_length_le (by rw[←Hn.out.1];exact Nat.le_refl _)];simp[secF]
   subst hT
   have HI:=Zq I
   clear I
   go_wp2_with fail
   refine bodyPost_ret (v:=.tuple #[va,.bool true]) (results_tmp2 Tryz.results36 _ _ _) rfl ⟨va,rfl,HI.out.oa,fun k hk=>(HI.out.oa.ltb k hk).1,HI.out.bel⟩
theorem Zg5 {L:List Hop} (h:isRt L=true):ZcA L=L.map fun h=>h.c.enc:=by
 unfold isRt at h
 simp only[Bool.and_eq_true] at h
 unfold ZcA
 apply List.map_congr_left
 intro x hx
 unfold encV
 rw[if_pos (ZjE h.2 x hx)]
theorem Zec {L:List Hop} (h:isRt L=true):1≤L.length∧L.length≤5:=by
 unfold isRt at h
 simp only[Bool.and_eq_true,decide_eq_true_eq] at h
 exact h.1
theorem Zhp {ss:List (List Nat)} {L:List Hop} (h:isRt L=true) (hok:∀h∈L,HopOk h) (hl:ss.length=L.length):(Zbq ss L).length=160∧∀ i,(Zbq ss L).getD i 0<256:=by
 have h15:=Zec h
 have hce:∀c∈ZcA L,c.length=16:=fun c hc=>by
  obtain⟨h,hh,rfl⟩:=List.mem_map.1 hc
  exact Zbe (hok h hh).i
 have hcb:∀c∈ZcA L,∀ i,c.getD i 0<256:=fun c hc=>by
  obtain⟨h,hh,rfl⟩:=List.mem_map.1 hc
  exact Zdg (hok h hh).ib
 have:=Zeo (ss:=ss) (cs:=ZcA L) (by unfold ZcA;rw[List.length_map,hl]) hce hcb 0 (by omega) (by omega)
 unfold Zbq
 rw[←Zg5 h]
 exact this
theorem Ze0 {L:List Hop} {fs:List (List Nat)} {a:List Nat} {ss:List (List Nat)} (h:secF fs a L=some ss):(∀ s∈ss,s.length=32)∧∀ s∈ss,∀ i,s.getD i 0<256 :=
 ⟨fun s hs=>by obtain⟨n,rfl,_⟩:=ZgV h s hs;exact Za1 _,fun s hs=>by obtain⟨n,rfl,_⟩:=ZgV h s hs;exact ZcN _⟩
theorem OwnR.base {w:World} {B B' C:Nat} {e:TypeId} {v:Value} {ls:List (Array Value)} (h:OwnR w B e C v ls) (hB:B'≤B):OwnR w B' e C v ls:=by
 refine⟨⟨h.own.1,?_⟩,h.sizes⟩
 rcases h.own.2 with hn | ⟨g,cap,cur,e,hb,rest⟩
 ·exact .inl hn
 ·exact .inr ⟨g,cap,cur,e,Nat.le_trans hB hb,rest⟩
theorem Ziy {w:World} {B gs n cs:Nat} {s:List Nat} {sr:List (List Nat)} (h:OwnR w B 23 32 (.slice (some ⟨gs,0,none⟩) n cs) ((s::sr).map bysA)) (hs:s.length=32) :
  (Zam 23 (.pointer (some ⟨gs,0,none⟩))).run Tryz.prog w=.ok (.agg (bysA s)) w:=by
 obtain⟨g',o',e,_,hl⟩:=h.rows.load Tryz.underlying23 rfl (by kernel_rfl) (i:=0) (x:=bysA s) rfl (by rw[Zaj,hs])
 obtain⟨p',c',e2,_,_,_,hp⟩:=h.form
 obtain⟨g2,rfl,_⟩:=hp (by simp)
 cases e2;cases e
 simpa using hl
def hdrT (x:List Nat) (L:List Hop):Option (List (List Nat))→List Nat
 | none=>zs 208
 | some ss=>puB x++Zbq ss L++prf (ss.headD []) (Zbq ss L)
theorem Zhz (x:List Nat) (L:List Hop) (p:Option Addr) (n cap:Nat) (hx:x.length=32) (hok:∀h∈L,HopOk h) (hn:n=L.length) (hr:isRt L=false) (w:World) (hR:RowsAt 43 w p (hopR L)) :
  Calls Tryz.prog 11 #[.agg (bysA x),.slice p n cap] w fun e w'=>e=.returned (.tuple #[.agg (bysA (zs 208)),.slice none 0 0,.int .i64 14])∧Below w.heap.size w w':=by
 have hxs:=Zae hx
 have HI:=Zq (fun (W:World) (hb:Below w.heap.size w W)=>ZiJ L p cap hok W (hR.grow hb))
 rw[hr,←hn] at HI
 clear hx hok hn hR hr
 go_enter Tryz.func11,Tryz.ntmps11
 go_wp2_with fail
 generalize hW:World.alloc _ _=W0
 have R0x0:=Zq (show RowAt W0 (w.heap.size) (bysA x) by rw[←hW];clear hW;exact⟨by go_simp,by first | (go_simp;done) | (go_simp;rfl),by go_simp⟩)
 have R0x1:=Zq (show RowAt W0 (w.heap.size+1) (bysA (zs 208)) by rw[←hW];clear hW;exact⟨by go_simp,by first | (go_simp;done) | (go_simp;rfl),by go_simp⟩)
 have B0:=Zq (show Below w.heap.size w W0 by rw[←hW];repeat (first | apply Zab | exact Below.refl _ _))
 clear hW
 have hzs208:=Zae (Zah 208)
 have l_z:w.heap.size≤w.heap.size:=by omega
 have l_r:w.heap.size≤w.heap.size+1:=by omega
 have n_z_r:w.heap.size≠w.heap.size+1:=by omega
 generalize w.heap.size+1=r at *
 obtain⟨z,ez⟩:∃z,z=w.heap.size:=⟨_,rfl⟩
 rw[←ez] at R0x0 n_z_r ⊢
 have l_z:w.heap.size≤z:=by rw[ez];exact Nat.le_refl _
 clear ez
 refine(HI.out _ B0.out).mono ?_
 rintro e W1 ⟨rfl,hb1⟩
 have R1x0:=Zq (R0x0.out.grow hb1)
 have R1x1:=Zq (R0x1.out.grow hb1)
 have B1:=Zq (B0.out.trans (hb1.mono B0.out.size))
 clear hb1 B0 R0x0 R0x1
 obtain⟨R1x0a,R1x0b,R1x0c⟩:=R1x0.out
 obtain⟨R1x1a,R1x1b,R1x1c⟩:=R1x1.out
 go_wp2_with fail
 refine bodyPost_ret (v:=.tuple #[.agg (bysA (zs 208)),.slice none 0 0,.int .i64 14]) (Zdr Tryz.results11 hzs208 _ _ _ rfl (by go_simp) (by go_simp) rfl rfl) rfl ⟨rfl,?_⟩
 exact Zad B1.out l_r _
theorem Zl3 (x:List Nat) (L:List Hop) (p:Option Addr) (n cap:Nat) (hx:x.length=32) (hxb:∀i,x.getD i 0<256) (hok:∀h∈L,HopOk h) (hn:n=L.length) (hr:isRt L=true) (w:World) (hT:Tabs w) (hR:RowsAt 43 w p (hopR L)) :
  Calls Tryz.prog 11 #[.agg (bysA x),.slice p n cap] w fun e w'=>∃ v,e=.returned (.tuple #[.agg (bysA (hbH x L)),v,.int .i64 (hbE x L)])∧OwnR w' w.heap.size 23 32 v ((hbK x L).map bysA)∧Below w.heap.size w w':=by
 have hxs:=Zae hx
 have h15:=Zec hr
 rw[←hn] at h15
 have HI:=Zq (fun (W:World) (hb:Below w.heap.size w W)=>ZiJ L p cap hok W (hR.grow hb))
 rw[hr,←hn] at HI
 have HP:=Zq (fun (W:World)=>ZfK x hx hxb W)
 have hal:=ZaX x
 have halb:=Zey x
 have hals:=Zae hal
 have HS:=Zq (fun (W:World) (h:Tabs W) (hb:Below w.heap.size w W)=>show Calls Tryz.prog 33 #[.agg (bysA x),.agg (bysA (puB x)),.slice p n cap] W fun e w'=>∃ v,e=.returned (.tuple #[v,.int .i64 (secE (secF [x] (puB x) L))])∧OwnR w' w.heap.size 23 32 v (((secF [x] (puB x) L).getD []).map bysA)∧(∀ k,v.ownBlock=some k→W.heap.size≤k)∧Below W.heap.size W w' from (Zna x (puB x) L p n cap hx hxb hal halb hok hn h15.2 W h (hR.grow hb)).mono (by rintro e w' ⟨v,rfl,hv,hb'⟩;exact⟨v,rfl,OwnR.base hv hb.size,fun k hk=>(OwnR.ltb hv k hk).1,hb'⟩))
 obtain⟨T,eT⟩:∃T,T=secF [x] (puB x) L:=⟨_,rfl⟩
 have HH:=Zq (show hbH x L=hdrT x L T by unfold hbH hbS;rw[if_pos hr,eT];unfold hdrT;cases secF [x] (puB x) L<;>rfl)
 have HK:=Zq (show hbK x L=T.getD [] by unfold hbK hbS;rw[if_pos hr,eT])
 have HE:=Zq (show hbE x L=if T.isSome then 0 else 7 by unfold hbE hbS;rw[if_pos hr,eT])
 rw[HH.out,HK.out,HE.out]
 rw[←eT] at HS
 have HTn:=Zq eT
 have HT:=Zq hT
 clear hT eT HH HK HE
 cases T with
 | none =>
  rw[show secE none=7 from rfl] at HS
  rw[show (if (none:Option (List (List Nat))).isSome=true then (0:Int) else 7)=7 from rfl,show (none:Option (List (List Nat))).getD []=[] from rfl,show hdrT x L none=zs 208 from rfl]
  clear hx hxb hok hn hR hr h15 hal halb HTn
  generalize puB x=A at *
  go_enter Tryz.func11,Tryz.ntmps11
  go_wp2_with fail
  generalize hW:World.alloc _ _=W0
  have R0x0:=Zq (show RowAt W0 (w.heap.size) (bysA x) by rw[←hW];clear hW;exact⟨by go_simp,by first | (go_simp;done) | (go_simp;rfl),by go_simp⟩)
  have R0x1:=Zq (show RowAt W0 (w.heap.size+1) (bysA (zs 208)) by rw[←hW];clear hW;exact⟨by go_simp,by first | (go_simp;done) | (go_simp;rfl),by go_simp⟩)
  have B0:=Zq (show Below w.heap.size w W0 by rw[←hW];repeat (first | apply Zab | exact Below.refl _ _))
  clear hW
  have hzs208:=Zae (Zah 208)
  have l_z:w.heap.size≤w.heap.size:=by omega
  have l_r:w.heap.size≤w.heap.size+1:=by omega
  have n_z_r:w.heap.size≠w.heap.size+1:=by omega
  generalize w.heap.size+1=r at *
  obtain⟨z,ez⟩:∃z,z=w.heap.size:=⟨_,rfl⟩
  rw[←ez] at R0x0 n_z_r ⊢
  have l_z:w.heap.size≤z:=by rw[ez];exact Nat.le_refl _
  clear ez
  refine(HI.out _ B0.out).mono ?_
  rintro e W1 ⟨rfl,hb1⟩
  have R1x0:=Zq (R0x0.out.grow hb1)
  have R1x1:=Zq (R0x1.out.grow hb1)
  have B1:=Zq (B0.out.trans (hb1.mono B0.out.size))
  clear hb1 B0 R0x0 R0x1
  obtain⟨R1x0a,R1x0b,R1x0c⟩:=R1x0.out
  obtain⟨R1x1a,R1x1b,R1x1c⟩:=R1x1.out
  go_wp2_with fail
  refine(HP.out _).mono ?_
  rintro e W2 ⟨rfl,hb2⟩
  clear R1x0a R1x0b R1x0c R1x1a R1x1b R1x1c
  have R2x0:=Zq (R1x0.out.grow hb2)
  have R2x1:=Zq (R1x1.out.grow hb2)
  have B2:=Zq (B1.out.trans (hb2.mono B1.out.size))
  clear hb2 B1 R1x0 R1x1
  obtain⟨R2x0a,R2x0b,R2x0c⟩:=R2x0.out
  obtain⟨R2x1a,R2x1b,R2x1c⟩:=R2x1.out
  go_wp2_with fail
  have n_z_al:z≠W2.heap.size:=Nat.ne_of_lt R2x0.out.2.2
  have n_r_al:r≠W2.heap.size:=Nat.ne_of_lt R2x1.out.2.2
  have l_al:w.heap.size≤W2.heap.size:=B2.out.size
  have hb3:=Zab (Below.refl W2.heap.size W2) (.cells (bysA A) 23)
  have N3:=Zq (RowAt.of (Zaq W2 (.cells (bysA A) 23)))
  have R3x0:=Zq (R2x0.out.grow hb3)
  have R3x1:=Zq (R2x1.out.grow hb3)
  have B3:=Zq (B2.out.trans (hb3.mono B2.out.size))
  clear hb3 B2 R2x0 R2x1 R2x0a R2x0b R2x0c R2x1a R2x1b R2x1c
  generalize W2.heap.size=al at *
  generalize W2.alloc (.cells (bysA A) 23)=W3 at *
  refine(HS.out _ (HT.out.grow B3.out) B3.out).mono ?_
  rintro e W4 ⟨v,rfl,hv,hgk,hb4⟩
  have R4x0:=Zq (R3x0.out.grow hb4)
  have R4x1:=Zq (R3x1.out.grow hb4)
  have R4x2:=Zq (N3.out.grow hb4)
  have B4:=Zq (B3.out.trans (hb4.mono B3.out.size))
  clear hb4 B3 R3x0 R3x1 N3
  clear hv hgk
  obtain⟨R4x0a,R4x0b,R4x0c⟩:=R4x0.out
  obtain⟨R4x1a,R4x1b,R4x1c⟩:=R4x1.out
  obtain⟨R4x2a,R4x2b,R4x2c⟩:=R4x2.out
  go_wp2_with fail
  refine bodyPost_ret (v:=.tuple #[.agg (bysA (zs 208)),.slice none 0 0,.int .i64 7]) (Zdr Tryz.results11 hzs208 _ _ _ rfl (by go_simp) (by go_simp) rfl rfl) rfl ⟨_,rfl,OwnR.nil _ _ _ _,?_⟩
  exact Zad B4.out l_r _
 | some ss =>
  rw[show secE (some ss)=0 from rfl] at HS
  rw[show (if (some ss).isSome=true then (0:Int) else 7)=0 from rfl,show (some ss).getD []=ss from rfl,show hdrT x L (some ss)=puB x++Zbq ss L++prf (ss.headD []) (Zbq ss L) from rfl]
  have hsl:=Zb5 HTn.out.symm
  have hsb:=Ze0 HTn.out.symm
  have hb0:=Zhp hr hok hsl
  have HF:=Zq (fun (W:World) (h:Tabs W) (q:Option Addr) (c:Nat) (hb:Below w.heap.size w W) (hc:n≤c) (hq:RowsAt 32 W q (ss.map bysA))=>ZjL ss L q p n c cap hsb.1 hsb.2 hok (by rw[hn,hsl]) hsl.symm h15.1 h15.2 hc W h hq (hR.grow hb))
  rw[show ZaZ [] (ss.zip (ZcA L))=Zbq ss L by unfold Zbq;rw[Zg5 hr]] at HF
  obtain⟨s0,sr,rfl⟩:∃s0 sr,ss=s0::sr:=by
   cases ss with
   | nil=>rw[List.length_nil] at hsl;omega
   | cons a b=>exact⟨a,b,rfl⟩
  have hs0:=hsb.1 s0 (by simp)
  have hs0s:=Zae hs0
  have HPr:=Zq (fun (W:World) (h:Tabs W)=>Zg6 s0 (Zbq (s0::sr) L) hs0 (hsb.2 s0 (by simp)) hb0.1 hb0.2 W h)
  have hbs:=Zae hb0.1
  have hpl:=ZaS s0 (Zbq (s0::sr) L)
  have hps:=Zae hpl
  have hbd:=fun W=>ZgK hal hb0.1 hpl W
  rw[show (s0::sr).headD []=s0 from rfl]
  have hHs:=Zae (show (puB x++Zbq (s0::sr) L++prf s0 (Zbq (s0::sr) L)).length=208 by rw[List.length_append,List.length_append,hal,hb0.1,hpl])
  have Hs0:=Zq hs0
  have Hsl:=Zq (show (s0::sr).length=n by rw[hsl,hn])
  have H15:=Zq h15
  generalize puB x++Zbq (s0::sr) L++prf s0 (Zbq (s0::sr) L)=H at *
  generalize prf s0 (Zbq (s0::sr) L)=P at *
  generalize Zbq (s0::sr) L=B at *
  generalize puB x=A at *
  have hn0:0<n:=by omega
  have hz160:=Zae (Zah 160)
  clear hx hxb hok hn hR hr h15 hal halb HTn hsl hsb hb0 hs0 hpl
  go_enter Tryz.func11,Tryz.ntmps11
  go_wp2_with fail
  generalize hW:World.alloc _ _=W0
  have R0x0:=Zq (show RowAt W0 (w.heap.size) (bysA x) by rw[←hW];clear hW;exact⟨by go_simp,by first | (go_simp;done) | (go_simp;rfl),by go_simp⟩)
  have R0x1:=Zq (show RowAt W0 (w.heap.size+1) (bysA (zs 208)) by rw[←hW];clear hW;exact⟨by go_simp,by first | (go_simp;done) | (go_simp;rfl),by go_simp⟩)
  have B0:=Zq (show Below w.heap.size w W0 by rw[←hW];repeat (first | apply Zab | exact Below.refl _ _))
  clear hW
  have hzs208:=Zae (Zah 208)
  have l_z:w.heap.size≤w.heap.size:=by omega
  have l_r:w.heap.size≤w.heap.size+1:=by omega
  have n_z_r:w.heap.size≠w.heap.size+1:=by omega
  generalize w.heap.size+1=r at *
  obtain⟨z,ez⟩:∃z,z=w.heap.size:=⟨_,rfl⟩
  rw[←ez] at R0x0 n_z_r ⊢
  have l_z:w.heap.size≤z:=by rw[ez];exact Nat.le_refl _
  clear ez
  refine(HI.out _ B0.out).mono ?_
  rintro e W1 ⟨rfl,hb1⟩
  have R1x0:=Zq (R0x0.out.grow hb1)
  have R1x1:=Zq (R0x1.out.grow hb1)
  have B1:=Zq (B0.out.trans (hb1.mono B0.out.size))
  clear hb1 B0 R0x0 R0x1
  obtain⟨R1x0a,R1x0b,R1x0c⟩:=R1x0.out
  obtain⟨R1x1a,R1x1b,R1x1c⟩:=R1x1.out
  go_wp2_with fail
  refine(HP.out _).mono ?_
  rintro e W2 ⟨rfl,hb2⟩
  clear R1x0a R1x0b R1x0c R1x1a R1x1b R1x1c
  have R2x0:=Zq (R1x0.out.grow hb2)
  have R2x1:=Zq (R1x1.out.grow hb2)
  have B2:=Zq (B1.out.trans (hb2.mono B1.out.size))
  clear hb2 B1 R1x0 R1x1
  obtain⟨R2x0a,R2x0b,R2x0c⟩:=R2x0.out
  obtain⟨R2x1a,R2x1b,R2x1c⟩:=R2x1.out
  go_wp2_with fail
  have n_z_al:z≠W2.heap.size:=Nat.ne_of_lt R2x0.out.2.2
  have n_r_al:r≠W2.heap.size:=Nat.ne_of_lt R2x1.out.2.2
  have l_al:w.heap.size≤W2.heap.size:=B2.out.size
  have hb3:=Zab (Below.refl W2.heap.size W2) (.cells (bysA A) 23)
  have N3:=Zq (RowAt.of (Zaq W2 (.cells (bysA A) 23)))
  have R3x0:=Zq (R2x0.out.grow hb3)
  have R3x1:=Zq (R2x1.out.grow hb3)
  have B3:=Zq (B2.out.trans (hb3.mono B2.out.size))
  clear hb3 B2 R2x0 R2x1 R2x0a R2x0b R2x0c R2x1a R2x1b R2x1c
  generalize W2.heap.size=al at *
  generalize W2.alloc (.cells (bysA A) 23)=W3 at *
  have hrW:r<W3.heap.size:=R3x1.out.2.2
  refine(HS.out _ (HT.out.grow B3.out) B3.out).mono ?_
  rintro e W4 ⟨v,rfl,hv,hgk,hb4⟩
  have R4x0:=Zq (R3x0.out.grow hb4)
  have R4x1:=Zq (R3x1.out.grow hb4)
  have R4x2:=Zq (N3.out.grow hb4)
  have B4:=Zq (B3.out.trans (hb4.mono B3.out.size))
  clear hb4 B3 R3x0 R3x1 N3
  have hv':OwnR W4 _ 23 32 v ((s0::sr).map bysA):=hv
  clear hv
  obtain⟨ps,cs,rfl,hro,hcl,hx1,hpa⟩:=OwnR.form hv'
  clear hx1
  rw[List.length_map,Hsl.out] at hcl hv' ⊢
  obtain⟨gs,rfl,hgs⟩:=hpa (by simp)
  have HV4:=Zq hv'
  have hRo:=Zq hro
  have Hcl:=Zq hcl
  have Hgr:=Zq (show gs≠r by have:=hgk gs rfl;omega)
  clear hv' hro hcl hpa hgs hgk hrW
  obtain⟨R4x0a,R4x0b,R4x0c⟩:=R4x0.out
  obtain⟨R4x1a,R4x1b,R4x1c⟩:=R4x1.out
  obtain⟨R4x2a,R4x2b,R4x2c⟩:=R4x2.out
  go_wp2_with fail
  refine(HF.out _ (HT.out.grow B4.out) _ _ B4.out Hcl.out hRo.out).mono ?_
  rintro e W5 ⟨rfl,hb5⟩
  clear R4x0a R4x0b R4x0c R4x1a R4x1b R4x1c R4x2a R4x2b R4x2c
  have O5x0:=Zq (HV4.out.grow hb5)
  clear HV4
  have R5x0:=Zq (R4x0.out.grow hb5)
  have R5x1:=Zq (R4x1.out.grow hb5)
  have R5x2:=Zq (R4x2.out.grow hb5)
  have B5:=Zq (B4.out.trans (hb5.mono B4.out.size))
  clear hb5 B4 R4x0 R4x1 R4x2
  clear hRo
  obtain⟨R5x0a,R5x0b,R5x0c⟩:=R5x0.out
  obtain⟨R5x1a,R5x1b,R5x1c⟩:=R5x1.out
  obtain⟨R5x2a,R5x2b,R5x2c⟩:=R5x2.out
  go_wp2_with fail
  have m0_bb:(Value.slice (some ⟨gs,0,none⟩) n cs).ownBlock≠some W5.heap.size:=fun e=>by have:=(O5x0.out.ltb _ e).2;omega
  have n_z_bb:z≠W5.heap.size:=Nat.ne_of_lt R5x0.out.2.2
  have n_r_bb:r≠W5.heap.size:=Nat.ne_of_lt R5x1.out.2.2
  have n_al_bb:al≠W5.heap.size:=Nat.ne_of_lt R5x2.out.2.2
  have l_bb:w.heap.size≤W5.heap.size:=B5.out.size
  have hb6:=Zab (Below.refl W5.heap.size W5) (.cells (bysA B) 27)
  have N6:=Zq (RowAt.of (Zaq W5 (.cells (bysA B) 27)))
  have O6x0:=Zq (O5x0.out.grow hb6)
  clear O5x0
  have R6x0:=Zq (R5x0.out.grow hb6)
  have R6x1:=Zq (R5x1.out.grow hb6)
  have R6x2:=Zq (R5x2.out.grow hb6)
  have B6:=Zq (B5.out.trans (hb6.mono B5.out.size))
  clear hb6 B5 R5x0 R5x1 R5x2 R5x0a R5x0b R5x0c R5x1a R5x1b R5x1c R5x2a R5x2b R5x2c
  generalize W5.heap.size=bb at *
  generalize W5.alloc (.cells (bysA B) 27)=W6 at *
  have hk0:∀(o':Array Obj) (d':Nat),(Zam 23 (.pointer (some ⟨gs,0,none⟩))).run Tryz.prog (W6.plus o' d')=.ok (.agg (bysA s0)) (W6.plus o' d'):=fun o' d'=>Ziy (O6x0.out.grow (ZaE _ _ _ (Below.refl _ _) (Nat.le_refl _))) Hs0.out
  obtain⟨R6x0a,R6x0b,R6x0c⟩:=R6x0.out
  obtain⟨R6x1a,R6x1b,R6x1c⟩:=R6x1.out
  obtain⟨R6x2a,R6x2b,R6x2c⟩:=R6x2.out
  obtain⟨N6a,N6b,N6c⟩:=N6.out
  refine Zal W6 [0,1,2,3,4,5,6,7,8] [false,false,false,false,false,false,false,false,true] [] [] 9 (by kernel_rfl) rfl (by kernel_rfl) (by intro c a d v w h;cases d<;>exact h) (by first | exact(Below.refl _ _).drew | exact Below.refl _ _) ?_
  simp only[pick,List.getElem?_cons_succ,List.getElem?_cons_zero,List.drop_succ_cons,List.drop_zero]
  refine Zac (Zaa rfl) (by intro K o d hK;go_simp;exact hK _ (Below.refl _ _)) ?_
  refine Zac (Zaa rfl) (by intro K o d hK;go_simp;exact hK _ (Below.refl _ _)) ?_
  refine Zac (Zaa rfl) (by intro K o d hK;go_simp;exact hK _ (Below.refl _ _)) ?_
  refine Zac (Zaa rfl) (by intro K o d hK;go_simp;exact hK _ (Below.refl _ _)) ?_
  refine Zac (Zaa rfl) (by intro K o d hK;go_simp;exact hK _ (Below.refl _ _)) ?_
  refine Zac (Zaa rfl) (by intro K o d hK;go_simp;exact hK _ (Below.refl _ _)) ?_
  refine Zai (v:=.agg (bysA P)) (Zaa rfl) (by intro K o d hK;go_simp;refine(HPr.out _ (HT.out.grow (ZaE _ _ _ B6.out B6.out.size))).mono ?_;rintro e w' ⟨rfl,hbw⟩;exact⟨_,rfl,hK _ hbw⟩) ?_
  refine Zac (Zaa rfl) (by intro K o d hK;go_simp;exact hK _ (Below.refl _ _)) ?_
  refine Zay (Zaa rfl) (fun w=>by go_simp;rfl) ?_
  refine Zan ?_
  intro W7 hb7 hblk
  clear hblk
  clear R6x0a R6x0b R6x0c R6x1a R6x1b R6x1c R6x2a R6x2b R6x2c N6a N6b N6c
  have O7x0:=Zq (O6x0.out.grow hb7)
  clear O6x0
  have R7x0:=Zq (R6x0.out.grow hb7)
  have R7x1:=Zq (R6x1.out.grow hb7)
  have R7x2:=Zq (R6x2.out.grow hb7)
  have R7x3:=Zq (N6.out.grow hb7)
  have B7:=Zq (B6.out.trans (hb7.mono B6.out.size))
  clear hb7 B6 R6x0 R6x1 R6x2 N6
  obtain⟨R7x0a,R7x0b,R7x0c⟩:=R7x0.out
  obtain⟨R7x1a,R7x1b,R7x1c⟩:=R7x1.out
  obtain⟨R7x2a,R7x2b,R7x2c⟩:=R7x2.out
  obtain⟨R7x3a,R7x3b,R7x3c⟩:=R7x3.out
  go_wp2_with fail
  refine bodyPost_ret (v:=.tuple #[.agg (bysA H),.slice (some ⟨gs,0,none⟩) n cs,.int .i64 0]) (Zdr Tryz.results11 hHs _ _ _ rfl (by go_simp) (by go_simp) rfl rfl) rfl ⟨_,rfl,O7x0.out.setRow (fun e=>Hgr.out (by simpa [Value.ownBlock] using e)) _,?_⟩
  exact Zad B7.out l_r _
theorem Zm3 (x:List Nat) (L:List Hop) (p:Option Addr) (n cap:Nat) (hx:x.length=32) (hxb:∀i,x.getD i 0<256) (hok:∀h∈L,HopOk h) (hn:n=L.length) (w:World) (hT:Tabs w) (hR:RowsAt 43 w p (hopR L)) :
  Calls Tryz.prog 11 #[.agg (bysA x),.slice p n cap] w fun e w'=>∃ v,e=.returned (.tuple #[.agg (bysA (hbH x L)),v,.int .i64 (hbE x L)])∧OwnR w' w.heap.size 23 32 v ((hbK x L).map bysA)∧Below w.heap.size w w':=by
 cases hr:isRt L with
 | true=>exact Zl3 x L p n cap hx hxb hok hn hr w hT hR
 | false =>
  have h1:hbH x L=zs 208:=by unfold hbH;rw[hr];rfl
  have h2:hbK x L=[]:=by unfold hbK;rw[hr];rfl
  have h3:hbE x L=14:=by unfold hbE;rw[hr];rfl
  rw[h1,h2,h3]
  refine(Zhz x L p n cap hx hok hn hr w hR).mono ?_
  rintro e w' ⟨rfl,hb⟩
  exact⟨_,rfl,OwnR.nil _ _ _ _,hb⟩
theorem Zje {done:List (List Nat)} {s c:List Nat} {lo lz:Nat} (hc:c.length=16) (hlo:lo+32*done.length=160) (hlz:lz+16=lo):ZdP done s c=mixd ((hst s).take lo) (c++zs lz)++fil done:=by
 unfold ZdP wid
 rw[show 160-32*done.length=lo by omega,Zcz,ZkV _ _ _ (by rw[List.length_append,hc,Zah];omega)]
 congr 2
 rw[List.append_assoc,ZqL,List.take_append,hc,List.take_of_length_le (by omega)]
 congr 1
 unfold zs
 rw[List.take_replicate]
 congr 1
 omega
theorem Znx {s c g b:List Nat} (hc:c.length=16) (hg:g.length=16):(wid s c g b).take 160=mixd ((hst s).take 160) (c++g++b.take 128):=by
 unfold wid
 rw[Zcz,ZkV _ _ _ (by rw[List.length_append,List.length_append,hc,hg,List.length_take];omega)]
 congr 1
 rw[List.take_append,List.take_of_length_le (by rw[List.length_append,hc,hg];decide),List.length_append,hc,hg]
theorem Zda {fn:Func} {p p' p'':Tmp} {cs:Array Value} {v u:Value} (h:fn.results=#[.cell p 40,.tmp p',.tmp p'']) (hc:cs.size=49) (w:World) (tmps:Array Value) (n:Nat) (hp:tmps.getD p undef=.pointer (some ⟨n,0,none⟩)) (h1:w.isRow n=true) (h2:w.rowOf n=cs) (hp':tmps.getD p' undef=v) (hp'':tmps.getD p'' undef=u) :
  (results fn tmps).run Tryz.prog w=.ok (.tuple #[.agg cs,v,u]) w:=by
 obtain⟨s,hs⟩:=World.isRow_spec h1
 rw[h2] at hs
 have e:tmps[p]?.getD undef=.pointer (some ⟨n,0,none⟩):=by simpa using hp
 have e':tmps[p']?.getD undef=v:=by simpa using hp'
 have e'':tmps[p'']?.getD undef=u:=by simpa using hp''
 simp[results,h,e,e',e'',asAddr,run_loadVar_row w n s 40 cs (0,0) _ hs Tryz.underlying40 rfl (by rw[hc];kernel_rfl)]
theorem Zlc (x:List Nat) (L:List Hop) (p:Option Addr) (n cap:Nat) (hx:x.length=32) (hok:∀h∈L,HopOk h) (hn:n=L.length) (h20:n≤20) (hr:isRt L=false) (w:World) (hR:RowsAt 43 w p (hopR L)) :
  Calls Tryz.prog 13 #[.agg (bysA x),.slice p n cap] w fun e w'=>e=.returned (.tuple #[.agg (rhA (zs 32) (.slice none 0 0) (zs 16)),.slice none 0 0,.int .i64 14])∧Below w.heap.size w w':=by
 have hxs:=Zae hx
 have hrz:=Zcc
 have HI:=Zq (fun (W:World) (hb:Below w.heap.size w W)=>Zho L p n cap hok hn h20 W (hR.grow hb))
 rw[hr] at HI
 clear hx hok hn hR hr h20
 go_enter Tryz.func13,Tryz.ntmps13
 go_wp2_with fail
 generalize hW:World.alloc _ _=W0
 have R0x0:=Zq (show RowAt W0 (w.heap.size) (bysA x) by rw[←hW];clear hW;exact⟨by go_simp,by first | (go_simp;done) | (go_simp;rfl),by go_simp⟩)
 have R0x1:=Zq (show RowAt W0 (w.heap.size+1) (rhA (zs 32) (.slice none 0 0) (zs 16)) by rw[←hW];clear hW;exact⟨by go_simp,by first | (go_simp;done) | (go_simp;rfl),by go_simp⟩)
 have B0:=Zq (show Below w.heap.size w W0 by rw[←hW];repeat (first | apply Zab | exact Below.refl _ _))
 clear hW
 have l_z:w.heap.size≤w.heap.size:=by omega
 have l_r:w.heap.size≤w.heap.size+1:=by omega
 have n_z_r:w.heap.size≠w.heap.size+1:=by omega
 generalize w.heap.size+1=r at *
 obtain⟨z,ez⟩:∃z,z=w.heap.size:=⟨_,rfl⟩
 rw[←ez] at R0x0 n_z_r ⊢
 have l_z:w.heap.size≤z:=by rw[ez];exact Nat.le_refl _
 clear ez
 refine(HI.out _ B0.out).mono ?_
 rintro e W1 ⟨rfl,hb1⟩
 have R1x0:=Zq (R0x0.out.grow hb1)
 have R1x1:=Zq (R0x1.out.grow hb1)
 have B1:=Zq (B0.out.trans (hb1.mono B0.out.size))
 clear hb1 B0 R0x0 R0x1
 obtain⟨R1x0a,R1x0b,R1x0c⟩:=R1x0.out
 obtain⟨R1x1a,R1x1b,R1x1c⟩:=R1x1.out
 go_wp2_with fail
 refine bodyPost_ret (v:=.tuple #[.agg (rhA (zs 32) (.slice none 0 0) (zs 16)),.slice none 0 0,.int .i64 14]) (Zda Tryz.results13 hrz _ _ _ rfl (by go_simp) (by go_simp) rfl rfl) rfl ⟨rfl,?_⟩
 exact Zad B1.out l_r _
theorem ZjA (x:List Nat) (L:List Hop) (p:Option Addr) (n cap:Nat) (hx:x.length=32) (hxb:∀i,x.getD i 0<256) (hok:∀h∈L,HopOk h) (hn:n=L.length) (h20:n≤20) (hr:isRt L=true) (hs:secF [x] (puB x) L=none) (w:World) (hR:RowsAt 43 w p (hopR L)) :
  Calls Tryz.prog 13 #[.agg (bysA x),.slice p n cap] w fun e w'=>e=.returned (.tuple #[.agg (rhA (zs 32) (.slice none 0 0) (zs 16)),.slice none 0 0,.int .i64 7])∧Below w.heap.size w w':=by
 have hxs:=Zae hx
 have hrz:=Zcc
 have h5:=(Zec hr).2
 have HI:=Zq (fun (W:World) (hb:Below w.heap.size w W)=>Zho L p n cap hok hn h20 W (hR.grow hb))
 rw[hr] at HI
 have HS:=Zq (fun (W:World) (hb:Below w.heap.size w W)=>ZgI x L p n cap hx hxb hok hn (by omega) W (hR.grow hb))
 rw[hs,show (none:Option (List (List Nat))).isSome=false from rfl] at HS
 clear hx hok hn hR hr h20 hxb hs h5
 go_enter Tryz.func13,Tryz.ntmps13
 go_wp2_with fail
 generalize hW:World.alloc _ _=W0
 have R0x0:=Zq (show RowAt W0 (w.heap.size) (bysA x) by rw[←hW];clear hW;exact⟨by go_simp,by first | (go_simp;done) | (go_simp;rfl),by go_simp⟩)
 have R0x1:=Zq (show RowAt W0 (w.heap.size+1) (rhA (zs 32) (.slice none 0 0) (zs 16)) by rw[←hW];clear hW;exact⟨by go_simp,by first | (go_simp;done) | (go_simp;rfl),by go_simp⟩)
 have B0:=Zq (show Below w.heap.size w W0 by rw[←hW];repeat (first | apply Zab | exact Below.refl _ _))
 clear hW
 have l_z:w.heap.size≤w.heap.size:=by omega
 have l_r:w.heap.size≤w.heap.size+1:=by omega
 have n_z_r:w.heap.size≠w.heap.size+1:=by omega
 generalize w.heap.size+1=r at *
 obtain⟨z,ez⟩:∃z,z=w.heap.size:=⟨_,rfl⟩
 rw[←ez] at R0x0 n_z_r ⊢
 have l_z:w.heap.size≤z:=by rw[ez];exact Nat.le_refl _
 clear ez
 refine(HI.out _ B0.out).mono ?_
 rintro e W1 ⟨rfl,hb1⟩
 have R1x0:=Zq (R0x0.out.grow hb1)
 have R1x1:=Zq (R0x1.out.grow hb1)
 have B1:=Zq (B0.out.trans (hb1.mono B0.out.size))
 clear hb1 B0 R0x0 R0x1
 obtain⟨R1x0a,R1x0b,R1x0c⟩:=R1x0.out
 obtain⟨R1x1a,R1x1b,R1x1c⟩:=R1x1.out
 go_wp2_with fail
 refine(HS.out _ B1.out).mono ?_
 rintro e W2 ⟨v,rfl,hv,hgk,hb2⟩
 clear R1x0a R1x0b R1x0c R1x1a R1x1b R1x1c
 have R2x0:=Zq (R1x0.out.grow hb2)
 have R2x1:=Zq (R1x1.out.grow hb2)
 have B2:=Zq (B1.out.trans (hb2.mono B1.out.size))
 clear hb2 B1 R1x0 R1x1
 clear hv hgk
 obtain⟨R2x0a,R2x0b,R2x0c⟩:=R2x0.out
 obtain⟨R2x1a,R2x1b,R2x1c⟩:=R2x1.out
 go_wp2_with fail
 refine bodyPost_ret (v:=.tuple #[.agg (rhA (zs 32) (.slice none 0 0) (zs 16)),.slice none 0 0,.int .i64 7]) (Zda Tryz.results13 hrz _ _ _ rfl (by go_simp) (by go_simp) rfl rfl) rfl ⟨rfl,?_⟩
 exact Zad B2.out l_r _
theorem ZiZ (x:List Nat) (L:List Hop) (p:Option Addr) (n cap:Nat) (hx:x.length=32) (hxb:∀i,x.getD i 0<256) (hok:∀h∈L,HopOk h) (hn:n=L.length) (h20:n≤20) (hr:isRt L=true) (ss:List (List Nat)) (hs:secF [x] (puB x) L=some ss) (w:World) (hR:RowsAt 43 w p (hopR L)) :
  Calls Tryz.prog 13 #[.agg (bysA x),.slice p n cap] w fun e w'=>∃ h v,e=.returned (.tuple #[h,v,.int .i64 0])∧IsRH w' h (puB x) (Zbq ss L) (prf (ss.headD []) (Zbq ss L))∧OwnR w' w.heap.size 23 32 v (ss.map bysA)∧Below w.heap.size w w':=by
 have hxs:=Zae hx
 have hrz:=Zcc
 have h15:=Zec hr
 rw[←hn] at h15
 have HI:=Zq (fun (W:World) (hb:Below w.heap.size w W)=>Zho L p n cap hok hn h20 W (hR.grow hb))
 rw[hr] at HI
 have HS:=Zq (fun (W:World) (hb:Below w.heap.size w W)=>ZgI x L p n cap hx hxb hok hn h15.2 W (hR.grow hb))
 have hsl:=Zb5 hs
 have hsb:=(Ze0 hs).2
 have hs32:=(Ze0 hs).1
 rw[hs,show (some ss).isSome=true from rfl] at HS
 unfold secT at HS
 rw[show (some ss).getD []=ss from rfl] at HS
 have HPu:=Zq (fun (W:World)=>ZgD x hx hxb W)
 have hal:=ZaX x
 have hals:=Zae hal
 obtain⟨d,ed⟩:∃d,d+1=n:=⟨n-1,by omega⟩
 have hnd:(n:Int)-1=(d:Int):=by omega
 have hdn:(d:Int)<(n:Int):=by omega
 have hn2:(n:Int)-2=(d:Int)-1:=by omega
 obtain⟨u6,eu6⟩:∃u,u=6-n:=⟨_,rfl⟩
 obtain⟨lo,elo⟩:∃u,u=32*u6:=⟨_,rfl⟩
 obtain⟨lz,elz⟩:∃u,u+16=lo:=⟨lo-16,by omega⟩
 have hw1:(6:Int)-(n:Int)=(u6:Int):=by omega
 have hw2:(32:Int)*(u6:Int)=(lo:Int):=by omega
 have hw3:(lo:Int)-16=(lz:Int):=by omega
 have hlo6:lo≤160:=by omega
 have hlz6:0<lz:=by omega
 have hcl:(ZcA L).length=ss.length:=by unfold ZcA;rw[List.length_map,hsl]
 have hce:∀c∈ZcA L,c.length=16:=fun c hc=>by
  obtain⟨h,hh,rfl⟩:=List.mem_map.1 hc
  exact Zbe (hok h hh).i
 have hcb:∀c∈ZcA L,∀ i,c.getD i 0<256:=fun c hc=>by
  obtain⟨h,hh,rfl⟩:=List.mem_map.1 hc
  exact Zdg (hok h hh).ib
 have hcg:∀{j:Nat} {h:Hop},L[j]?=some h→(ZcA L)[j]?=some (encV h.c):=fun {j h} hj=>by unfold ZcA;rw[List.getElem?_map,hj];rfl
 obtain⟨B,eB⟩:∃B:Nat→List Nat,B=fun j=>ZaZ (ss.take j) ((ss.zip (ZcA L)).drop j):=⟨_,rfl⟩
 have HBl:=Zq (fun j (hj:j<n)=>show (B j).length=160 from by rw[eB];exact(Zeo hcl hce hcb j (by omega) (by omega)).1)
 have HBb:=Zq (fun j (hj:j<n)=>show ∀i,(B j).getD i 0<256 from by rw[eB];exact(Zeo hcl hce hcb j (by omega) (by omega)).2)
 rw[show Zbq ss L=B 0 by rw[eB];unfold Zbq;rw[Zg5 hr];rfl]
 obtain⟨s0,h0⟩:∃s,ss[0]?=some s:=⟨_,List.getElem?_eq_getElem (by omega)⟩
 rw[show ss.headD []=s0 by
  cases ss with
  | nil=>cases h0
  | cons a b=>simpa using h0]
 have H0:=Zq h0
 clear h0
 obtain⟨sd,hsd⟩:∃s,ss[d]?=some s:=⟨_,List.getElem?_eq_getElem (by omega)⟩
 obtain⟨hd,hhd⟩:∃h,L[d]?=some h:=⟨_,List.getElem?_eq_getElem (by omega)⟩
 have hod:=hok hd (List.mem_of_getElem? hhd)
 have hss:ss=ss.take d++[sd]:=by
  have:ss.take (d+1)=ss.take d++[sd]:=by rw[List.take_add_one,hsd];rfl
  rw[←this,List.take_of_length_le (by omega)]
 have hBd:=Zq (show B d=mixd ((hst sd).take lo) (encV hd.c++zs lz)++fil (ss.take d) by
  rw[eB]
  exact(Zix hcl (by omega) hsd (hcg hhd)).trans (Zje (Zbe hod.i) (by rw[List.length_take];omega) elz))
 obtain⟨g,o,ep,hx1,hx2⟩:=Zd4 hR hhd hod
 clear hx1 hx2
 subst ep
 have HC:=Zq (fun (j:Nat) (h:Hop) (hj:L[j]?=some h) (W:World) (hb:Below w.heap.size w W)=>show (Zam 57 (.pointer (some ⟨g,o+j*43+32,none⟩))).run Tryz.prog W=.ok (.agg (cmdA h.c)) W by
  obtain⟨g',o',e,_,h⟩:=Zd4 (hR.grow hb) hj (hok h (List.mem_of_getElem? hj))
  cases e;exact h)
 have HSt:=Zq (fun (i:Nat) (s t:List Nat) (h:Hop) (hs:ss[i]?=some s) (ht:ss[i+1]?=some t) (hh:L[i]?=some h)=>show B i=mixd ((hst s).take 160) (encV h.c++prf t (B (i+1))++(B (i+1)).take 128) from by
  rw[←Znx (Zbe (hok h (List.mem_of_getElem? hh)).i) (ZaS _ _),eB];exact ZgG hcl hs ht (hcg hh))
 have KB:=Zq (fun (W:World)=>Zit hd.c hod.i W)
 have hel:=Zbe hod.i
 have heb:=Zdg hod.ib
 have hcs:=Zax hod.i
 have Hsd:=Zq (And.intro (hs32 sd (List.mem_of_getElem? hsd)) (hsb sd (List.mem_of_getElem? hsd)))
 have hsds:=Zae Hsd.out.1
 have Hok:=Zq hok
 have Hss:=Zq (And.intro hs32 hsb)
 have Hn:=Zq (And.intro hn (And.intro hsl (And.intro h15 ed)))
 have Hlo:=Zq (And.intro hlo6 (And.intro hlz6 elz))
 have Hod:=Zq (And.intro hhd (And.intro hsd (And.intro hel heb)))
 have hM:=Zq (fun (W:World) (c1 c2:Nat) (q1 q2:Option Addr) (h1:Bs0 W q1 ((hst sd).take lo)) (h2:Bs0 W q2 (encV hd.c++zs lz))=>Zhg c1 c2 lo q1 q2 ((hst sd).take lo) (encV hd.c++zs lz) W (by rw[List.length_take,ZaT];omega) (by rw[List.length_append,hel,Zah];omega) (Zbc (Zdi sd) _) (ZaN heb (Zbs _)) h1 h2 (by omega))
 have hFl:(fil (ss.take d)).length=32*d:=by rw[ZbM,List.length_take];omega
 have hMl:(mixd ((hst sd).take lo) (encV hd.c++zs lz)).length=lo:=by rw[ZaJ,List.length_append,hel,Zah];omega
 obtain⟨fl,efl⟩:∃z,z=32*d:=⟨_,rfl⟩
 rw[←efl] at hFl
 have hJ:=Zq (fun (W:World) (c1 c2:Nat) (q1 q2:Option Addr) (h1:Bs0 W q1 (mixd ((hst sd).take lo) (encV hd.c++zs lz))) (p1:q1=none→c1=0) (h2:Bs0 W q2 (fil (ss.take d))) (p2:q2=none→c2=0)=>Zez c1 c2 lo fl q1 q2 (mixd ((hst sd).take lo) (encV hd.c++zs lz)) (fil (ss.take d)) W hMl.symm hFl.symm h1 p1 h2 p2 (by rw[hMl,hFl];omega))
 rw[←hBd.out] at hJ
 have HFi:=Zq (fun (W:World) (q:Option Addr) (c:Nat) (h:RowsAt 32 W q (ss.map bysA))=>ZmV ss q n c hs32 hsb (by omega) h15.1 h15.2 W h)
 rw[show n-1=d by omega] at HFi
 have HSm:=Zq (fun (W:World)=>Zd5 sd lo Hsd.out.1 Hsd.out.2 (by omega) W)
 have HMl:=Zq (And.intro hMl (And.intro hFl (show (encV hd.c++zs lz).length=lo by rw[List.length_append,hel,Zah];omega)))
 generalize mixd ((hst sd).take lo) (encV hd.c++zs lz)=M1 at *
 generalize fil (ss.take d)=F1 at *
 clear hx hxb hok hn hR hr h15 hs hsl hsb hs32 h20 ed hcl hce hcb hcg eB hsd hhd hod hss hel heb eu6 elo elz hlo6 hlz6 hFl hMl efl hBd
 generalize puB x=A at *
 go_enter Tryz.func13,Tryz.ntmps13
 go_wp2_with fail
 generalize hW:World.alloc _ _=W0
 have R0x0:=Zq (show RowAt W0 (w.heap.size) (bysA x) by rw[←hW];clear hW;exact⟨by go_simp,by first | (go_simp;done) | (go_simp;rfl),by go_simp⟩)
 have R0x1:=Zq (show RowAt W0 (w.heap.size+1) (rhA (zs 32) (.slice none 0 0) (zs 16)) by rw[←hW];clear hW;exact⟨by go_simp,by first | (go_simp;done) | (go_simp;rfl),by go_simp⟩)
 have B0:=Zq (show Below w.heap.size w W0 by rw[←hW];repeat (first | apply Zab | exact Below.refl _ _))
 clear hW
 have l_z:w.heap.size≤w.heap.size:=by omega
 have l_r:w.heap.size≤w.heap.size+1:=by omega
 have n_z_r:w.heap.size≠w.heap.size+1:=by omega
 generalize w.heap.size+1=r at *
 obtain⟨z,ez⟩:∃z,z=w.heap.size:=⟨_,rfl⟩
 rw[←ez] at R0x0 n_z_r ⊢
 have l_z:w.heap.size≤z:=by rw[ez];exact Nat.le_refl _
 clear ez
 refine(HI.out _ B0.out).mono ?_
 rintro e W1 ⟨rfl,hb1⟩
 have R1x0:=Zq (R0x0.out.grow hb1)
 have R1x1:=Zq (R0x1.out.grow hb1)
 have B1:=Zq (B0.out.trans (hb1.mono B0.out.size))
 clear hb1 B0 R0x0 R0x1
 obtain⟨R1x0a,R1x0b,R1x0c⟩:=R1x0.out
 obtain⟨R1x1a,R1x1b,R1x1c⟩:=R1x1.out
 go_wp2_with fail
 have hrW:r<W1.heap.size:=R1x1.out.2.2
 have hBW1:=B1.out.size
 refine(HS.out _ B1.out).mono ?_
 rintro e W2 ⟨v,rfl,hv,hgk,hb2⟩
 clear R1x0a R1x0b R1x0c R1x1a R1x1b R1x1c
 have R2x0:=Zq (R1x0.out.grow hb2)
 have R2x1:=Zq (R1x1.out.grow hb2)
 have B2:=Zq (B1.out.trans (hb2.mono B1.out.size))
 clear hb2 B1 R1x0 R1x1
 obtain⟨ps,cs,rfl,hro,hcl,hx1,hpa⟩:=OwnR.form hv
 clear hx1
 rw[List.length_map,Hn.out.2.1,←Hn.out.1] at hcl hv hpa ⊢
 obtain⟨gs,rfl,hgs⟩:=hpa (by have:=Hn.out.2.2.1.1;omega)
 have HV2:=Zq (OwnR.base hv hBW1)
 have hRo:=Zq hro
 have Hgr:=Zq (show gs≠r by have:=hgk gs rfl;omega)
 have HKs:=Zq (fun (j:Nat) (s:List Nat) (hj:ss[j]?=some s) (W:World) (hb:Below W2.heap.size W2 W)=>show (Zam 23 (.pointer (some ⟨gs,j*32,none⟩))).run Tryz.prog W=.ok (.agg (bysA s)) W by
  obtain⟨g',o',e,_,h⟩:=Zbz (hRo.out.grow hb) hj (Hss.out.1 s (List.mem_of_getElem? hj))
  cases e;rwa [Nat.zero_add] at h)
 clear hv hro hcl hpa hgs hgk hrW hBW1
 have Bz:=Zq (Below.refl W2.heap.size W2)
 have hld0:=HC.out d hd Hod.out.1 W2 B2.out
 go_wp2_with fail
 clear hld0
 refine(KB.out _).mono ?_
 rintro e W21 ⟨v8,rfl,ho8,hb21⟩
 have B21:=Zq (Bz.out.trans (hb21.mono Bz.out.size))
 clear hb21 Bz
 obtain⟨v9,W9,hr9,ho9,hg9⟩:=ZhY (k:=lz) ho8 Hlo.out.2.1 B21.out.size (by rw[Hod.out.2.2.1];have:=Hlo.out.2.2;have:=Hlo.out.1;omega)
 have B9:=Zq (Za2 B21.out ho8 B21.out.size hg9)
 obtain⟨q9,c9,rfl,y9,l9,z9⟩:=ho9.bs
 rw[HMl.out.2.2] at hr9 l9
 have Y9:=Zq y9
 have hks9:=HKs.out d sd Hod.out.2.1 W9 B9.out
 clear ho8 hg9 ho9 y9 B21
 go_wp2_with (at_builtin;refine Lib.wpList_append_run _ rfl _ _ _ _ rfl _ _ rfl rfl _ _ hr9 ?_)
 clear hr9 hks9
 refine(HSm.out _).mono ?_
 rintro e W22 ⟨p10,c10,rfl,y10,l10,z10,hb22⟩
 have Y22x0:=Zq (Y9.out.grow hb22)
 clear Y9
 have B22:=Zq (B9.out.trans (hb22.mono B9.out.size))
 clear hb22 B9
 have Y10:=Zq y10
 clear y10
 go_wp2_with fail
 refine(hM.out _ _ _ _ _ Y10.out Y22x0.out).mono ?_
 rintro e W23 ⟨v11,rfl,ho11,hb23⟩
 have Y23x0:=Zq (Y22x0.out.grow hb23)
 clear Y22x0
 have Y23x1:=Zq (Y10.out.grow hb23)
 clear Y10
 have B23:=Zq (B22.out.trans (hb23.mono B22.out.size))
 clear hb23 B22
 obtain⟨q11,c11,rfl,y11,l11,z11⟩:=ho11.bs
 rw[HMl.out.1] at l11 ⊢
 have Y11:=Zq y11
 clear y11 ho11
 go_wp2_with fail
 refine(HFi.out _ _ _ (hRo.out.grow B23.out)).mono ?_
 rintro e W24 ⟨v12,rfl,ho12,hb24⟩
 have Y24x0:=Zq (Y23x0.out.grow hb24)
 clear Y23x0
 have Y24x1:=Zq (Y23x1.out.grow hb24)
 clear Y23x1
 have Y24x2:=Zq (Y11.out.grow hb24)
 clear Y11
 have B24:=Zq (B23.out.trans (hb24.mono B23.out.size))
 clear hb24 B23
 obtain⟨q12,c12,rfl,y12,l12,z12⟩:=ho12.bs
 rw[HMl.out.2.1] at l12 ⊢
 have Y12:=Zq y12
 clear y12 ho12
 go_wp2_with fail
 have hBW:=B24.out.size
 refine(hJ.out _ _ _ _ _ Y24x2.out z11 Y12.out z12).mono ?_
 rintro e W25 ⟨v13,rfl,ho13,hb25⟩
 have Y25x0:=Zq (Y24x0.out.grow hb25)
 clear Y24x0
 have Y25x1:=Zq (Y24x1.out.grow hb25)
 clear Y24x1
 have Y25x2:=Zq (Y24x2.out.grow hb25)
 clear Y24x2
 have Y25x3:=Zq (Y12.out.grow hb25)
 clear Y12
 have B25:=Zq (B24.out.trans (hb25.mono B24.out.size))
 clear hb25 B24
 have O13:=Zq (ho13.base hBW)
 clear ho13 hBW
 go_wp2_with fail
 go_loopw [12,13] (fun f i wr=>∃ (v:Value) (j:Nat),v=f∧j≤d∧i=.int .i64 ((j:Int)-1)∧OwnB wr W2.heap.size v (B j)∧Below W2.heap.size W2 wr) (fun _ i _=>(intOf i+1).toNat)
 case atStart=>exact⟨_,d,rfl,Nat.le_refl _,rfl,O13.out,B25.out⟩
 case round =>
  obtain⟨v,j,rfl,hj,rfl,hown,hbel⟩:=hrel
  rcases j with _ | i
  ·clear Y25x0 Y25x1 Y25x2 Y25x3 O13 B25 HSm hM HFi hJ KB hcs hsds l9 z9 l10 z10 l11 z11 l12 z12
   rw[show ((0:Nat):Int)-1=-1 from rfl]
   have h0:=H0.out
   have hs0:=Hss.out.1 s0 (List.mem_of_getElem? h0)
   have hs0b:=Hss.out.2 s0 (List.mem_of_getElem? h0)
   have hs0s:=Zae hs0
   have hB0:=HBl.out 0 (by have:=Hn.out.2.2.1.1;omega)
   have hB0b:=HBb.out 0 (by have:=Hn.out.2.2.1.1;omega)
   obtain⟨gq,cq,rfl,hq1,hq2,hq3⟩:=hown.addr hB0 (by decide)
   have Hgq:=Zq (show gq≠r from fun e=>by have:=R2x1.out.2.2;omega)
   have HY:=Zq (hown.bytes hq2)
   have HP:=Zq (fun (W:World) (h:Bs0 W (some ⟨gq,0,none⟩) (B 0))=>ZgP s0 (B 0) (some ⟨gq,0,none⟩) 160 cq hs0 hs0b hB0.symm (by rw[hB0];decide) hB0b (fun h=>by cases h) W h)
   have hpl:=ZaS s0 (B 0)
   have hps:=Zae hpl
   have HB0:=Zq hB0
   have hbd:=fun W=>Zf0 (some ⟨gq,0,none⟩) 160 cq hal hpl W
   have hHs:=Zcp (.slice (some ⟨gq,0,none⟩) 160 cq) hal hpl
   have hk0:∀(o':Array Obj) (d':Nat),(Zam 23 (.pointer (some ⟨gs,0,none⟩))).run Tryz.prog (wr.plus o' d')=.ok (.agg (bysA s0)) (wr.plus o' d'):=fun o' d'=>by
    have:=HKs.out 0 s0 h0 (wr.plus o' d') (ZaE _ _ _ hbel hbel.size)
    rwa [Nat.zero_mul] at this
   have hn0:0<n:=by have:=Hn.out.2.2.1.1;omega
   have Rz:=Zq (R2x0.out.grow hbel)
   have Rr:=Zq (R2x1.out.grow hbel)
   have HV9:=Zq (HV2.out.grow hbel)
   have Hbel:=Zq (B2.out.trans (hbel.mono B2.out.size))
   clear hown hq1 hq2 hq3 hs0 hs0b hB0 hB0b h0 hbel
   generalize hP:prf s0 (B 0)=P at HP hps hpl hbd hHs
   have HPe:=Zq hP
   clear hP
   obtain⟨Rza,Rzb,Rzc⟩:=Rz.out
   obtain⟨Rra,Rrb,Rrc⟩:=Rr.out
   go_wp2_with fail
   refine Zal wr [0,1,2,3,4,5,6,7,8,9] [false,false,false,false,false,false,false,false,false,true] [] [] 10 (by kernel_rfl) rfl (by kernel_rfl) (by intro c a d v w h;cases d<;>exact h) (by first | exact(Below.refl _ _).drew | exact Below.refl _ _) ?_
   simp only[pick,List.getElem?_cons_succ,List.getElem?_cons_zero,List.drop_succ_cons,List.drop_zero]
   refine Zac (Zaa rfl) (by intro K o d hK;go_simp;exact hK _ (Below.refl _ _)) ?_
   refine Zai (v:=.agg (bysA A)) (Zaa rfl) (by intro K o d hK;go_simp;refine(HPu.out _).mono ?_;rintro e w' ⟨rfl,hbw⟩;exact⟨_,rfl,hK _ hbw⟩) ?_
   refine Zac (Zaa rfl) (by intro K o d hK;go_simp;exact hK _ (Below.refl _ _)) ?_
   refine Zac (Zaa rfl) (by intro K o d hK;go_simp;exact hK _ (Below.refl _ _)) ?_
   refine Zac (Zaa rfl) (by intro K o d hK;go_simp;exact hK _ (Below.refl _ _)) ?_
   refine Zac (Zaa rfl) (by intro K o d hK;go_simp;exact hK _ (Below.refl _ _)) ?_
   refine Zac (Zaa rfl) (by intro K o d hK;go_simp;exact hK _ (Below.refl _ _)) ?_
   refine Zai (v:=.agg (bysA P)) (Zaa rfl) (by intro K o d hK;go_simp;refine(HP.out _ (Bs0.some (HY.out.grow (ZaE _ _ _ (Below.refl _ _) (Nat.le_refl _))))).mono ?_;rintro e w' ⟨rfl,hbw⟩;exact⟨_,rfl,hK _ hbw⟩) ?_
   refine Zac (Zaa rfl) (by intro K o d hK;go_simp;exact hK _ (Below.refl _ _)) ?_
   refine Zay (Zaa rfl) (fun w=>by go_simp;rfl) ?_
   refine Zan ?_
   intro W41 hb41 hblk
   clear hblk
   clear Rza Rzb Rzc Rra Rrb Rrc
   have Y41x0:=Zq (HY.out.grow hb41)
   clear HY
   have O41x0:=Zq (HV9.out.grow hb41)
   clear HV9
   have R41x0:=Zq (Rz.out.grow hb41)
   have R41x1:=Zq (Rr.out.grow hb41)
   have B41:=Zq (Hbel.out.trans (hb41.mono Hbel.out.size))
   clear hb41 Hbel Rz Rr
   obtain⟨R41x0a,R41x0b,R41x0c⟩:=R41x0.out
   obtain⟨R41x1a,R41x1b,R41x1c⟩:=R41x1.out
   go_wp2_with fail
   refine bodyPost_ret (v:=.tuple #[.agg (rhA A (.slice (some ⟨gq,0,none⟩) 160 cq) P),.slice (some ⟨gs,0,none⟩) n cs,.int .i64 0]) (Zda Tryz.results13 hHs _ _ _ rfl (by go_simp) (by go_simp) rfl rfl) rfl ⟨_,_,rfl,⟨some ⟨gq,0,none⟩,cq,by rw[HB0.out,HPe.out],Bs0.some (Y41x0.out.other Hgq.out _),fun h=>by cases h⟩,O41x0.out.setRow (fun e=>Hgr.out (by simpa [Value.ownBlock] using e)) _,?_⟩
   exact Zad B41.out l_r _
  ·clear Y25x0 Y25x1 Y25x2 Y25x3 O13 B25 HSm hM HFi hJ KB hcs hsds l9 z9 l10 z10 l11 z11 l12 z12
   obtain⟨s,hs⟩:∃s,ss[i]?=some s:=⟨_,List.getElem?_eq_getElem (by have:=Hn.out;omega)⟩
   obtain⟨t,ht⟩:∃s,ss[i+1]?=some s:=⟨_,List.getElem?_eq_getElem (by have:=Hn.out;omega)⟩
   obtain⟨h,hh⟩:∃h,L[i]?=some h:=⟨_,List.getElem?_eq_getElem (by have:=Hn.out;omega)⟩
   have ho:=Hok.out h (List.mem_of_getElem? hh)
   have hsl:=Hss.out.1 s (List.mem_of_getElem? hs)
   have hsb:=Hss.out.2 s (List.mem_of_getElem? hs)
   have htl:=Hss.out.1 t (List.mem_of_getElem? ht)
   have htb:=Hss.out.2 t (List.mem_of_getElem? ht)
   have HBi:=Zq (HSt.out i s t h hs ht hh)
   obtain⟨i1,ei1⟩:∃x,x=i+1:=⟨_,rfl⟩
   rw[←ei1] at ht HBi hown
   rw[show (((i+1:Nat):Int)-1)=(i:Int) by omega]
   have hBl:=HBl.out i1 (by have:=Hn.out.2.2.2;omega)
   have hBb:=HBb.out i1 (by have:=Hn.out.2.2.2;omega)
   obtain⟨q,cq,rfl,hq1,hq2,hq3⟩:=hown.bs
   rw[hBl] at hq2 ⊢
   have KP:=Zq (fun (W:World) (h:Bs0 W q (B i1))=>ZgP t (B i1) q 160 cq htl htb hBl.symm (by rw[hBl];decide) hBb hq3 W h)
   have KB:=Zq (fun (W:World)=>Zit h.c ho.i W)
   have hpl:=ZaS t (B i1)
   have hps:=Zae hpl
   have hel:=Zbe ho.i
   have KT:=Zq (fun (W:World)=>Zi2 (prf t (B i1)) hpl W)
   have KS:=Zq (fun (W:World)=>Zd5 s 160 hsl hsb (by decide) W)
   have hYl:(encV h.c++prf t (B i1)++(B i1).take 128).length=160:=by rw[List.length_append,List.length_append,hel,hpl,List.length_take,hBl];rfl
   have KM:=Zq (fun (W:World) (c1 c2:Nat) (q1 q2:Option Addr) (h1:Bs0 W q1 ((hst s).take 160)) (h2:Bs0 W q2 (encV h.c++prf t (B i1)++(B i1).take 128))=>Zhg c1 c2 160 q1 q2 ((hst s).take 160) (encV h.c++prf t (B i1)++(B i1).take 128) W (by rw[List.length_take,ZaT];rfl) hYl.symm (Zbc (Zdi s) _) (ZaN (ZaN (Zdg ho.ib) (ZfU _ _)) (Zbc hBb _)) h1 h2 (by decide))
   rw[←HBi.out] at KM
   have hb128:((B i1).take 128).length=128:=by rw[List.length_take,hBl];rfl
   have hsl128:∀W,(slB (.slice q 160 cq) none (some (.int .i64 128)) none).run Tryz.prog W=.ok (.slice q 128 cq) W:=fun W=>ZlF q 160 cq 128 (by omega) W
   have hi0:(0:Int)≤(i:Int):=by omega
   have hin:(i:Int)<(n:Int):=by have:=Hn.out.2.2.2;omega
   have hi1n:(i1:Int)<(n:Int):=by have:=Hn.out.2.2.2;omega
   have hii:(i:Int)+1=(i1:Int):=by omega
   have hwi:IntKind.i64.wrap (i1:Int)=(i1:Int):=IntWalk.i64_in _ (by have:=Hn.out;omega)
   have hcs:=Zax ho.i
   have hts:=Zae htl
   have hss:=Zae hsl
   have Hi1:=Zq (And.intro ei1 hj)
   have Hl:=Zq (And.intro hel (And.intro hpl (And.intro hb128 hYl)))
   have Hh:=Zq (And.intro hs (And.intro ht hh))
   have Yb:=Zq hq1
   have Hq3:=Zq hq3
   have Hbel:=Zq hbel
   clear hown hq1 hq3 hs ht hh ho hsl hsb htl htb hBl hBb hel hpl hYl hb128 ei1 hj hbel HBi
   generalize prf t (B i1)=P at *
   generalize hEe:encV h.c=E at *
   clear hEe
   go_wp2_with fail
   refine Zci wr 14 (fun w w'=>Below w.heap.size w w') (Zhk [fixV (.slice (some ⟨g,o,none⟩) n cap),fixV (.int .i64 (i:Int)),fixV (.pointer (some ⟨g,o+i*43,none⟩)),fixV (.pointer (some ⟨g,o+i*43+32,none⟩)),fixV (.agg (cmdA h.c)),ownV wr.heap.size (E),fixV (.slice (some ⟨gs,0,none⟩) n cs),fixV (.int .i64 (i:Int)),fixV (.int .i64 (i1:Int)),fixV (.pointer (some ⟨gs,i1*32,none⟩)),fixV (.agg (bysA t)),fixV (.slice q 160 cq),fixV (.agg (bysA P)),ownV wr.heap.size (P)]) [] [14,15] [0,1,2,3,4,5,6,7,8,9,10,11,12,13] [some 61,some 62,some 63,some 64,some 65,some 66,some 67,some 68,some 69,some 70,some 71,some 72,some 73,some 74] (by kernel_rfl) (by kernel_rfl) (by kernel_rfl) (by kernel_rfl) (by intro c a d v w h;cases d<;>exact h) (fun _=>Below.refl _ _) (by first | exact(Below.refl _ _).drew | exact Below.refl _ _) (fun w w' h h'=>h.trans (h'.mono h.size)) (Zcw ⟨Zak _,Zak _,Zak _,Zak _,Zak _,Zdw _ _,Zak _,Zak _,Zak _,Zak _,Zak _,Zak _,Zak _,Zdw _ _,trivial⟩) ?_
   intro vals
   simp only[List.take_succ_cons,List.take_zero]
   refine⟨Zb8 rfl (Zao [] [] (by kernel_rfl) rfl (fun K w hb hdq hK=>?_)),?_⟩
   ·simp only[putZ]
    refine⟨Zaa rfl,?_⟩
    go_simp
    exact hK _ _ _ (Below.refl _ _) rfl
   refine⟨Zb8 rfl (Zao [] [] (by kernel_rfl) rfl (fun K w hb hdq hK=>?_)),?_⟩
   ·simp only[putZ]
    refine⟨Zaa rfl,?_⟩
    go_simp
    exact hK _ _ _ (Below.refl _ _) rfl
   refine⟨Zb8 rfl (Zao [0,1] [some 61,some 62] (by kernel_rfl) (by kernel_rfl) (fun K w hb hdq hK=>?_)),?_⟩
   ·have d0:vals 0=.slice (some ⟨g,o,none⟩) n cap:=hdq 0 (by simp)
    have d1:vals 1=.int .i64 (i:Int):=hdq 1 (by simp)
    simp only[List.map_cons,List.map_nil,putZ,d0,d1]
    refine⟨Zaa rfl,?_⟩
    go_simp
    exact hK _ _ _ (Below.refl _ _) rfl
   refine⟨Zb8 rfl (Zao [2] [some 63] (by kernel_rfl) (by kernel_rfl) (fun K w hb hdq hK=>?_)),?_⟩
   ·have d2:vals 2=.pointer (some ⟨g,o+i*43,none⟩):=hdq 2 (by simp)
    simp only[List.map_cons,List.map_nil,putZ,d2]
    refine⟨Zaa rfl,?_⟩
    go_simp
    exact hK _ _ _ (Below.refl _ _) rfl
   refine⟨Zb8 rfl (Zao [3] [some 64] (by kernel_rfl) (by kernel_rfl) (fun K w hb hdq hK=>?_)),?_⟩
   ·have d3:vals 3=.pointer (some ⟨g,o+i*43+32,none⟩):=hdq 3 (by simp)
    have hx:=HC.out i h Hh.out.2.2 w (B2.out.trans ((Hbel.out.trans (hb.mono Hbel.out.size)).mono B2.out.size))
    simp only[List.map_cons,List.map_nil,putZ,d3]
    refine⟨Zaa rfl,?_⟩
    go_simp
    exact hK _ _ _ (Below.refl _ _) rfl
   refine⟨Zb8 rfl (Za7 [4] [some 65] (by kernel_rfl) (by kernel_rfl) (fun K w hb hdq hK=>?_)),?_⟩
   ·have d4:vals 4=.agg (cmdA h.c):=hdq 4 (by simp)
    simp only[List.map_cons,List.map_nil,putZ,d4]
    refine⟨Zaa rfl,?_⟩
    go_simp
    refine(KB.out w).mono ?_
    rintro e w' ⟨u,rfl,ho,hb'⟩
    exact⟨_,rfl,hK _ _ hb' (ho.base hb.size)⟩
   refine⟨Zb8 rfl (Zao [] [] (by kernel_rfl) rfl (fun K w hb hdq hK=>?_)),?_⟩
   ·simp only[putZ]
    refine⟨Zaa rfl,?_⟩
    go_simp
    exact hK _ _ _ (Below.refl _ _) rfl
   refine⟨Zb8 rfl (Zao [] [] (by kernel_rfl) rfl (fun K w hb hdq hK=>?_)),?_⟩
   ·simp only[putZ]
    refine⟨Zaa rfl,?_⟩
    go_simp
    exact hK _ _ _ (Below.refl _ _) rfl
   refine⟨Zb8 rfl (Zao [7] [some 68] (by kernel_rfl) (by kernel_rfl) (fun K w hb hdq hK=>?_)),?_⟩
   ·have d7:vals 7=.int .i64 (i:Int):=hdq 7 (by simp)
    simp only[List.map_cons,List.map_nil,putZ,d7]
    refine⟨Zaa rfl,?_⟩
    go_simp
    exact hK _ _ _ (Below.refl _ _) rfl
   refine⟨Zb8 rfl (Zao [6,8] [some 67,some 69] (by kernel_rfl) (by kernel_rfl) (fun K w hb hdq hK=>?_)),?_⟩
   ·have d6:vals 6=.slice (some ⟨gs,0,none⟩) n cs:=hdq 6 (by simp)
    have d8:vals 8=.int .i64 (i1:Int):=hdq 8 (by simp)
    simp only[List.map_cons,List.map_nil,putZ,d6,d8]
    refine⟨Zaa rfl,?_⟩
    go_simp
    exact hK _ _ _ (Below.refl _ _) rfl
   refine⟨Zb8 rfl (Zao [9] [some 70] (by kernel_rfl) (by kernel_rfl) (fun K w hb hdq hK=>?_)),?_⟩
   ·have d9:vals 9=.pointer (some ⟨gs,i1*32,none⟩):=hdq 9 (by simp)
    have hx:=HKs.out i1 t Hh.out.2.1 w (Hbel.out.trans (hb.mono Hbel.out.size))
    simp only[List.map_cons,List.map_nil,putZ,d9]
    refine⟨Zaa rfl,?_⟩
    go_simp
    exact hK _ _ _ (Below.refl _ _) rfl
   refine⟨Zb8 rfl (Zao [] [] (by kernel_rfl) rfl (fun K w hb hdq hK=>?_)),?_⟩
   ·simp only[putZ]
    refine⟨Zaa rfl,?_⟩
    go_simp
    exact hK _ _ _ (Below.refl _ _) rfl
   refine⟨Zb8 rfl (Za7 [10,11] [some 71,some 72] (by kernel_rfl) (by kernel_rfl) (fun K w hb hdq hK=>?_)),?_⟩
   ·have d10:vals 10=.agg (bysA t):=hdq 10 (by simp)
    have d11:vals 11=.slice q 160 cq:=hdq 11 (by simp)
    simp only[List.map_cons,List.map_nil,putZ,d10,d11]
    refine⟨Zaa rfl,?_⟩
    go_simp
    refine(KP.out w (Yb.out.grow hb)).mono ?_
    rintro e w' ⟨rfl,hb'⟩
    exact⟨_,rfl,hK _ _ hb' rfl⟩
   refine⟨Zb8 rfl (Za7 [12] [some 73] (by kernel_rfl) (by kernel_rfl) (fun K w hb hdq hK=>?_)),?_⟩
   ·have d12:vals 12=.agg (bysA P):=hdq 12 (by simp)
    simp only[List.map_cons,List.map_nil,putZ,d12]
    refine⟨Zaa rfl,?_⟩
    go_simp
    refine(KT.out w).mono ?_
    rintro e w' ⟨u,rfl,ho,hb'⟩
    exact⟨_,rfl,hK _ _ hb' (ho.base hb.size)⟩
   have HbelK:=Zq Hbel.out
   intro W61 hb61 hR61
   have Hb61:=Zq hb61
   obtain ho5:OwnB W61 wr.heap.size (vals 5) E:=hR61 5 (by simp)
   obtain ho13:OwnB W61 wr.heap.size (vals 13) P:=hR61 13 (by simp)
   clear hR61
   simp only[List.map_cons,List.map_nil,putZ,pick,List.getElem?_cons_succ,List.getElem?_cons_zero]
   generalize vals 0=q61_0
   generalize vals 1=q61_1
   generalize vals 2=q61_2
   generalize vals 3=q61_3
   generalize vals 4=q61_4
   generalize vals 6=q61_6
   generalize vals 7=q61_7
   generalize vals 8=q61_8
   generalize vals 9=q61_9
   generalize vals 10=q61_10
   generalize vals 11=q61_11
   generalize vals 12=q61_12
   have B61:=Zq (Hbel.out.trans (hb61.mono Hbel.out.size))
   clear hb61 Hbel
   generalize vals 5=v5 at *
   generalize vals 13=v13 at *
   clear vals
   obtain⟨q13,c13,rfl,y13,l13,z13⟩:=ho13.bs
   rw[Hl.out.2.1] at l13 ⊢
   obtain⟨v14,W14,hr14,ho14,hg14⟩:=ZbY (cap:=c13) ho5 y13 Hl.out.2.1.symm z13 Hb61.out.size (by rw[Hl.out.1,Hl.out.2.1];decide)
   have b14:=Za2 Hb61.out ho5 Hb61.out.size hg14
   obtain⟨v15,W15,hr15,ho15,hg15⟩:=ZbY (cap:=cq) ho14 ((Yb.out.grow b14).take 128) Hl.out.2.2.1.symm Hq3.out b14.size (by rw[List.length_append,Hl.out.1,Hl.out.2.1,Hl.out.2.2.1];decide)
   have b15:=Za2 b14 ho14 b14.size hg15
   obtain⟨q15,c15,rfl,y15,l15,z15⟩:=ho15.bs
   rw[Hl.out.2.2.2] at hr15 l15
   have Y15:=Zq y15
   have B15:=Zq (HbelK.out.trans (b15.mono HbelK.out.size))
   have hks15:=HKs.out i s Hh.out.1 W15 B15.out
   clear ho5 ho13 y13 ho14 hg14 b14 ho15 hg15 b15 y15 B61 Hb61 KP KB KT
   go_simp
   refine Lib.wpList_append_run _ rfl _ _ _ _ rfl _ _ rfl rfl _ _ hr14 ?_
   go_wp2_with (at_builtin;first | refine Lib.wpList_append_run _ rfl _ _ _ _ rfl _ _ rfl rfl _ _ hr14 ?_ | refine Lib.wpList_append_run _ rfl _ _ _ _ rfl _ _ rfl rfl _ _ hr15 ?_)
   clear hr14 hr15 hks15
   refine(KS.out _).mono ?_
   rintro e W62 ⟨p16,c16,rfl,y16,l16,z16,hb62⟩
   have Y62x0:=Zq (Y15.out.grow hb62)
   clear Y15
   have B62:=Zq (B15.out.trans (hb62.mono B15.out.size))
   clear hb62 B15
   have Y16:=Zq y16
   clear y16
   go_wp2_with fail
   have hBW:=B62.out.size
   refine(KM.out _ _ _ _ _ Y16.out Y62x0.out).mono ?_
   rintro e W63 ⟨v17,rfl,ho17,hb63⟩
   have Y63x0:=Zq (Y62x0.out.grow hb63)
   clear Y62x0
   have Y63x1:=Zq (Y16.out.grow hb63)
   clear Y16
   have B63:=Zq (B62.out.trans (hb63.mono B62.out.size))
   clear hb63 B62
   have O17:=Zq (ho17.base hBW)
   clear ho17 hBW
   go_wp2_with fail
   go_roundw
   case rel=>exact⟨v17,i,rfl,by have:=Hi1.out.2;omega,rfl,O17.out,B63.out⟩
   case measure=>simp[intOf]
def IsRB (w:World) (h:Array Value) (H:List Nat):Prop:=h.size=49∧Zbg h=true∧((H=zs 208∧h=rhA (zs 32) (.slice none 0 0) (zs 16))∨IsRH w (.agg h) (H.take 32) ((H.drop 32).take 160) (H.drop 192))
theorem IsRB.grow {w w':World} {h:Array Value} {H:List Nat} (hh:IsRB w h H) (hb:Below w.heap.size w w'):IsRB w' h H:=⟨hh.1,hh.2.1,hh.2.2.imp id fun k=>k.grow hb⟩
theorem Zoj (x:List Nat) (L:List Hop) (p:Option Addr) (n cap:Nat) (hx:x.length=32) (hxb:∀i,x.getD i 0<256) (hok:∀h∈L,HopOk h) (hn:n=L.length) (h20:n≤20) (w:World) (hR:RowsAt 43 w p (hopR L)) :
  Calls Tryz.prog 13 #[.agg (bysA x),.slice p n cap] w fun e w'=>∃ h v,e=.returned (.tuple #[.agg h,v,.int .i64 (hbE x L)])∧IsRB w' h (hbH x L)∧OwnR w' w.heap.size 23 32 v ((hbK x L).map bysA)∧Below w.heap.size w w':=by
 have hz:∀w',IsRB w' (rhA (zs 32) (.slice none 0 0) (zs 16)) (zs 208):=fun w'=>⟨Zcc,ZnL _ _ _ _ _,.inl ⟨rfl,rfl⟩⟩
 cases hr:isRt L with
 | false =>
  have h1:hbH x L=zs 208:=by unfold hbH;rw[hr];rfl
  have h2:hbK x L=[]:=by unfold hbK;rw[hr];rfl
  have h3:hbE x L=14:=by unfold hbE;rw[hr];rfl
  rw[h1,h2,h3]
  refine(Zlc x L p n cap hx hok hn h20 hr w hR).mono ?_
  rintro e w' ⟨rfl,hb⟩
  exact⟨_,_,rfl,hz _,OwnR.nil _ _ _ _,hb⟩
 | true =>
  cases hs:secF [x] (puB x) L with
  | none =>
   have h1:hbH x L=zs 208:=by unfold hbH hbS;rw[hr,hs];rfl
   have h2:hbK x L=[]:=by unfold hbK hbS;rw[hr,hs];rfl
   have h3:hbE x L=7:=by unfold hbE hbS;rw[hr,hs];rfl
   rw[h1,h2,h3]
   refine(ZjA x L p n cap hx hxb hok hn h20 hr hs w hR).mono ?_
   rintro e w' ⟨rfl,hb⟩
   exact⟨_,_,rfl,hz _,OwnR.nil _ _ _ _,hb⟩
  | some ss =>
   have h1:hbH x L=puB x++Zbq ss L++prf (ss.headD []) (Zbq ss L):=by unfold hbH hbS;rw[hr,hs];rfl
   have h2:hbK x L=ss:=by unfold hbK hbS;rw[hr,hs];rfl
   have h3:hbE x L=0:=by unfold hbE hbS;rw[hr,hs];rfl
   have hl:=(Zhp (ss:=ss) hr hok (Zb5 hs)).1
   rw[h1,h2,h3]
   refine(ZiZ x L p n cap hx hxb hok hn h20 hr ss hs w hR).mono ?_
   rintro e w' ⟨h,v,rfl,hh,hv,hb⟩
   have e1:(puB x++Zbq ss L++prf (ss.headD []) (Zbq ss L)).take 32=puB x:=by rw[List.append_assoc,List.take_append_of_le_length (by rw[ZaX];exact Nat.le_refl _),List.take_of_length_le (by rw[ZaX];exact Nat.le_refl _)]
   have e2:((puB x++Zbq ss L++prf (ss.headD []) (Zbq ss L)).drop 32).take 160=Zbq ss L:=by rw[List.append_assoc,show 32=(puB x).length from (ZaX x).symm,List.drop_left,List.take_append_of_le_length (by rw[hl];exact Nat.le_refl _),List.take_of_length_le (by rw[hl];exact Nat.le_refl _)]
   have e3:(puB x++Zbq ss L++prf (ss.headD []) (Zbq ss L)).drop 192=prf (ss.headD []) (Zbq ss L):=by rw[show 192=(puB x++Zbq ss L).length by rw[List.length_append,ZaX,hl],List.drop_left]
   obtain⟨q,c,rfl,hB,hp⟩:=hh
   exact⟨_,_,rfl,⟨Zcp _ (ZaX _) (ZaS _ _),ZnL _ _ _ _ _,.inr (by rw[e1,e2,e3];exact⟨q,c,rfl,hB,hp⟩)⟩,hv,hb⟩
theorem Zr7 (ss:List (List Nat)) (p q:Option Addr) (n c d:Nat) (hs:∀s∈ss,s.length=32) (hn:n=ss.length) (h5:n≤5) (w:World) (hP:RowsAt 32 w p (ss.map bysA)) (hQ:RowsAt 32 w q (ss.map bysA)) :
  Calls Tryz.prog 17 #[.slice p n c,.slice q n d] w fun e w'=>e=.returned (.bool true)∧Below w.heap.size w w':=by
 have HP:=Zq hP
 have HQ:=Zq hQ
 have Hn:=Zq hn
 have i5:¬(5:Int)<(n:Int):=by omega
 have Hs:=Zq hs
 clear hP hQ hn h5 hs
 go_enter Tryz.func17,Tryz.ntmps17
 go_wp2_with fail
 go_loopw [13] (fun i wr=>∃ k:Nat,k≤n∧i=.int .i64 k∧Below w.heap.size w wr) (fun i _=>n-(intOf i).toNat)
 case atStart=>exact⟨0,Nat.zero_le _,rfl,Below.refl _ _⟩
 case round =>
  obtain⟨k,hk,rfl,hbel⟩:=hrel
  by_cases hkn:k<n
  ·have hk1:(k:Int)<(n:Int):=by omega
   obtain⟨s,hj⟩:∃s,ss[k]?=some s:=⟨_,List.getElem?_eq_getElem (by rw[←Hn.out];exact hkn)⟩
   have hs32:=Hs.out s (List.mem_of_getElem? hj)
   obtain⟨g1,o1,e1,_,_⟩:=Zbz (HP.out.grow hbel) hj hs32
   obtain⟨g2,o2,e2,_,_⟩:=Zbz (HQ.out.grow hbel) hj hs32
   subst e1 e2
   have hk1':∀(o':Array Obj) (d':Nat),(Zam 23 (.pointer (some ⟨g1,o1+k*32,none⟩))).run Tryz.prog (wr.plus o' d')=.ok (.agg (bysA s)) (wr.plus o' d'):=fun o' d'=>by
    obtain⟨g',o'',e,_,h⟩:=Zbz (HP.out.grow (ZaE _ _ _ hbel hbel.size)) hj hs32
    cases e;exact h
   have hk2':∀(o':Array Obj) (d':Nat),(Zam 23 (.pointer (some ⟨g2,o2+k*32,none⟩))).run Tryz.prog (wr.plus o' d')=.ok (.agg (bysA s)) (wr.plus o' d'):=fun o' d'=>by
    obtain⟨g',o'',e,_,h⟩:=Zbz (HQ.out.grow (ZaE _ _ _ hbel hbel.size)) hj hs32
    cases e;exact h
   have hss:=Zae hs32
   have Hbel:=Zq hbel
   clear hbel hj hs32
   go_wp2_with fail
   refine ZaC (fun w'=>∃ o d,w'=wr.plus o d) (by kernel_rfl) (by kernel_rfl) ⟨#[],_,rfl⟩ ?_
   refine Zat ⟨_,#[],0,rfl⟩ (Zaa rfl) (by rintro K _ ⟨o,d,rfl⟩ hK;go_simp;exact hK _ ⟨o,d,rfl⟩) ?_
   refine Zat ⟨_,#[],0,rfl⟩ (Zaa rfl) (by rintro K _ ⟨o,d,rfl⟩ hK;go_simp;exact hK _ ⟨o,d,rfl⟩) ?_
   refine Zat ⟨_,#[],0,rfl⟩ (Zaa rfl) (by rintro K _ ⟨o,d,rfl⟩ hK;go_simp;exact hK _ ⟨o,d,rfl⟩) ?_
   refine Zat ⟨_,#[],0,rfl⟩ (Zaa rfl) (by rintro K _ ⟨o,d,rfl⟩ hK;go_simp;exact hK _ ⟨o,d,rfl⟩) ?_
   refine Zat ⟨_,#[],0,rfl⟩ (Zaa rfl) (by rintro K _ ⟨o,d,rfl⟩ hK;go_simp;exact hK _ ⟨o,d,rfl⟩) ?_
   refine Zat ⟨_,#[],0,rfl⟩ (Zaa rfl) (by rintro K _ ⟨o,d,rfl⟩ hK;go_simp;exact hK _ ⟨o,d,rfl⟩) ?_
   refine Zat ⟨_,#[],0,rfl⟩ (Zaa rfl) (by rintro K _ ⟨o,d,rfl⟩ hK;go_simp;exact hK _ ⟨o,d,rfl⟩) ?_
   refine Zat ⟨_,#[],0,rfl⟩ (Zaa rfl) (by rintro K _ ⟨o,d,rfl⟩ hK;go_simp;exact hK _ ⟨o,d,rfl⟩) ?_
   refine Zat ⟨_,#[],0,rfl⟩ (Zaa rfl) (by rintro K _ ⟨o,d,rfl⟩ hK;go_simp;exact hK _ ⟨o,d,rfl⟩) ?_
   refine Zaw ?_
   rintro _ ⟨o11,d11,rfl⟩
   have hb11:=Zag (Below.refl wr.heap.size wr) o11 d11
   have B11:=Zq (Hbel.out.trans (hb11.mono Hbel.out.size))
   clear hb11 Hbel
   generalize wr.plus o11 d11=W11 at *
   go_wp2_with fail
   go_roundw
   case rel=>exact⟨k+1,by omega,by go_num,B11.out⟩
   case measure=>simp[intOf];omega
  ·obtain rfl:k=n:=by omega
   have Hbel:=Zq hbel
   clear hbel
   go_wp2_with fail
   go_ret
   exact⟨rfl,Hbel.out⟩
def Zbb (os:List (List Nat)) (cs:List Cmd):List Hop:=(os.zip cs).map fun p=>⟨puB p.1,p.2⟩
def encs (ss:List (List Nat)) (cs:List Cmd):List (List Nat×List Nat):=(ss.zip cs).map fun p=>(p.1,p.2.enc)
theorem Zf2:∀(os:List (List Nat)) (cs:List Cmd),cs.length=os.length→(Zbb os cs).map (fun h=>h.c.enc)=cs.map Cmd.enc
 | [],[],_=>rfl
 | [],_::_,h=>by simp at h
 | _::_,[],h=>by simp at h
 | o::os,c::cs,h=>by
  show c.enc::(Zbb os cs).map (fun h=>h.c.enc)=_
  rw[Zf2 os cs (by simpa using h)];rfl
theorem ZjZ:∀(ss:List (List Nat)) (cs:List Cmd),ss.zip (cs.map Cmd.enc)=encs ss cs
 | [],_=>by simp[encs]
 | _::_,[]=>by simp[encs]
 | s::ss,c::cs=>by
  show (s,c.enc)::ss.zip (cs.map Cmd.enc)=(s,c.enc)::encs ss cs
  rw[ZjZ ss cs]
theorem Zpb {x:List Nat} {os ss:List (List Nat)} {cs:List Cmd} (hl:cs.length=os.length) (hr:isRt (Zbb os cs)=true) (h1:secF [x] (puB x) (Zbb os cs)=some ss) :
  hbK x (Zbb os cs)=ss∧hbE x (Zbb os cs)=0∧hbH x (Zbb os cs)=puB x++ZaZ [] (encs ss cs)++prf (ss.headD []) (ZaZ [] (encs ss cs)):=by
 have hS:hbS x (Zbb os cs)=some ss:=h1
 have hb:Zbq ss (Zbb os cs)=ZaZ [] (encs ss cs):=by
  unfold Zbq
  rw[Zf2 os cs hl,ZjZ]
 refine⟨?_,?_,?_⟩
 ·unfold hbK;rw[if_pos hr,hS];rfl
 ·unfold hbE;rw[if_pos hr,hS];rfl
 ·unfold hbH
  rw[if_pos hr,hS]
  simp only
  rw[hb]
structure HdParts (H a b g:List Nat):Prop where
 eq:H=a++b++g
 al:a.length=32
 ab:∀i,a.getD i 0<256
 bl:b.length=160
 bb:∀i,b.getD i 0<256
 gl:g.length=16
 gb:∀i,g.getD i 0<256
theorem HdParts.len {H a b g:List Nat} (h:HdParts H a b g):H.length=208:=by rw[h.eq,List.length_append,List.length_append,h.al,h.bl,h.gl]
theorem HdParts.of {H:List Nat} (hH:H.length=208) (hHb:∀i,H.getD i 0<256):HdParts H (H.take 32) ((H.drop 32).take 160) (H.drop 192) :=
 ⟨by rw[List.append_assoc,show H.drop 192=(H.drop 32).drop 160 by rw[List.drop_drop],List.take_append_drop,List.take_append_drop],by simp[hH],Zbc hHb _,by simp[hH],Zbc (ZbB hHb _) _,by simp[hH],ZbB hHb _⟩
structure On (done os ss:List (List Nat)) (cs:List Cmd) (a:List Nat) (H:List Nat):Prop where
 way:Way a os ss
 len:cs.length=ss.length
 olen:os.length=ss.length
 few:done.length+ss.length≤5
 al:a.length=32
 ab:∀i,a.getD i 0<256
 ids:∀d∈cs,d.id.length=8
 idb:∀d∈cs,∀ i,d.id.getD i 0<256
 may:∀d∈cs,d.may=true
 hdr:∀s r,ss=s::r→H=a++ZaZ done (encs ss cs)++prf s (ZaZ done (encs ss cs))
theorem On.parts {done os ss:List (List Nat)} {cs:List Cmd} {a H s:List Nat} {r:List (List Nat)} (h:On done os ss cs a H) (hs:ss=s::r):HdParts H a (ZaZ done (encs ss cs)) (prf s (ZaZ done (encs ss cs))):=by
 have hm:∀x∈encs ss cs,∃ d∈cs,x.2=d.enc:=fun x hx=>by
  obtain⟨p,hp,rfl⟩:=List.mem_map.1 hx
  exact⟨p.2,(List.of_mem_zip hp).2,rfl⟩
 have hl:(encs ss cs).length=ss.length:=by unfold encs;rw[List.length_map,List.length_zip,h.len,Nat.min_self]
 refine⟨h.hdr s r hs,h.al,h.ab,ZbL _ _ (fun e=>?_) (fun x hx=>?_) (by rw[hl];have:=h.few;omega),ZfN _ _ fun x hx=>?_,ZaS _ _,ZfU _ _⟩
 ·rw[e,hs] at hl;simp at hl
 ·obtain⟨d,hd,e⟩:=hm x hx;rw[e];exact Zb0 (h.ids d hd)
 ·obtain⟨d,hd,e⟩:=hm x hx;rw[e];exact Znq (h.idb d hd)
theorem On.step {done os ss:List (List Nat)} {cs:List Cmd} {a H o s:List Nat} {c:Cmd} (h:On done (o::os) (s::ss) (c::cs) a H) :
  ∃ x:Stp,unwE o a (ZaZ done (encs (s::ss) (c::cs))) (prf s (ZaZ done (encs (s::ss) (c::cs))))=0∧unwV o a (ZaZ done (encs (s::ss) (c::cs))) (prf s (ZaZ done (encs (s::ss) (c::cs))))=x∧StpOk x∧x.c=c∧x.s=s∧On (done++[s]) os ss cs (keyB (nxA s a)) x.nx:=by
 have hp:=h.parts rfl
 obtain⟨nx,h1,h2,h3,h4⟩:=ZpQ (done:=done) h.ids (h.may c (by simp)) h.way (by have:=h.len;simpa using this) (by have:=h.few;rw[List.length_cons] at this;omega)
 refine⟨⟨c,nx,s,tagS s⟩,h1,h2,?_,rfl,rfl,h3,by have:=h.len;simpa using this,by have:=h.olen;simpa using this,by have:=h.few;rw[List.length_cons] at this;rw[List.length_append,List.length_singleton];omega,Za1 _,ZcN _,fun d hd=>h.ids d (by simp[hd]),fun d hd=>h.idb d (by simp[hd]),fun d hd=>h.may d (by simp[hd]),?_⟩
 ·have he:Znz a (ZaZ done (encs (s::ss) (c::cs))) (keyB (shB o a))=⟨c,nx,s,tagS s⟩:=by
   rw[←h2];unfold unwV;rw[if_pos h1];rfl
  have hn:nx=keyB (nxA (keyB (shB o a)) a)++(opn (keyB (shB o a)) (ZaZ done (encs (s::ss) (c::cs)))).drop 32++((opn (keyB (shB o a)) (ZaZ done (encs (s::ss) (c::cs)))).drop 16).take 16:=(congrArg Stp.nx he).symm
  have hol:=ZgO (s:=keyB (shB o a)) hp.bl
  refine⟨h.ids c (by simp),?_,?_,Zd2 _⟩
  ·show nx.length=208
   rw[hn,List.length_append,List.length_append,Za1,List.length_drop,List.length_take,List.length_drop,hol];rfl
  ·show s.length=32
   have:=congrArg Stp.s he
   rw[←show keyB (shB o a)=s from this];exact Za1 _
 ·intro t ts hts
  exact h4 t ts hts
theorem On.start {x:List Nat} {os ss:List (List Nat)} {cs:List Cmd} (hl:cs.length=os.length) (hr:isRt (Zbb os cs)=true) (hi:∀d∈cs,d.id.length=8) (hib:∀d∈cs,∀ i,d.id.getD i 0<256) (h2:Way (puB x) os ss) (h3:ss.length=os.length) (hH:hbH x (Zbb os cs)=puB x++ZaZ [] (encs ss cs)++prf (ss.headD []) (ZaZ [] (encs ss cs))) :
  On [] os ss cs (puB x) (hbH x (Zbb os cs)):=by
 have hlen:(Zbb os cs).length=os.length:=by unfold Zbb;rw[List.length_map,List.length_zip,hl,Nat.min_self]
 have hr':=hr
 unfold isRt at hr'
 simp only[Bool.and_eq_true,decide_eq_true_eq] at hr'
 refine⟨h2,by rw[hl,h3],by rw[h3],by simp;omega,ZaX _,Zey _,hi,hib,fun d hd=>?_,fun s r e=>by rw[hH,e];rfl⟩
 obtain⟨i,hi,rfl⟩:=List.getElem_of_mem hd
 have:(⟨puB (os[i]'(by omega)),cs[i]⟩:Hop)∈Zbb os cs:=by
  unfold Zbb
  refine List.mem_map.2 ⟨(os[i]'(by omega),cs[i]),?_,rfl⟩
  rw[←List.getElem_zip (h:=by rw[List.length_zip];omega)]
  exact List.getElem_mem _
 exact ZjE hr'.2 _ this
end Go.Proofs.YtddmjddlbhdcpaaGreatDoor
namespace Go.Proofs.YtddmjddlbhdcpaaGreatDoor.F.Cv
open Go Fp
def pw (b:Nat):Nat→Nat→Nat
 | 0,_=>1%P
 | n+1,e=>if e%2=1 then pw b n (e/2)*pw b n (e/2)%P*b%P else pw b n (e/2)*pw b n (e/2)%P
theorem ZuS (b:Nat):∀n e,e<2^n→pw b n e=b^e%P
 | 0,e,h=>by
  have:e=0:=by simpa using h
  subst this;rfl
 | n+1,e,h=>by
  have h2:e/2<2^n:=by rw[Nat.pow_succ] at h;omega
  have hs:pw b n (e/2)*pw b n (e/2)%P=b^(e/2+e/2)%P:=by rw[ZuS b n _ h2,←Nat.mul_mod,←Nat.pow_add]
  unfold pw
  by_cases h1:e%2=1
  ·rw[if_pos h1,hs,Nat.mod_mul_mod,←Nat.pow_succ,Nat.succ_eq_add_one,show e/2+e/2+1=e by omega]
  ·rw[if_neg h1,hs,show e/2+e/2=e by omega]
def nTv (m x1:Nat):Nat:=nmul (nlad x1 m 255).1.1 (pw (nlad x1 m 255).1.2 255 E)
theorem nT_v (m x1:Nat):nT m x1=nTv m x1:=by
 unfold nT nTv
 rw[ZuS _ 255 E (by decide +kernel)]
end Go.Proofs.YtddmjddlbhdcpaaGreatDoor.F.Cv
namespace Go.Proofs.YtddmjddlbhdcpaaGreatDoor
open Go.RowKit Go.Hold Go.Sh Go.Ch Go.Cm Go.Hd
def shV (k u:List Nat):Nat:=F.Cv.nTv (F.Cv.clampN (numB k)) (F.ptN (numB u)%Fp.P)
def puV (k:List Nat):List Nat:=keyB (F.Cv.nTv (F.Cv.clampN (numB k)) 9)
def chV (k:List Nat) (fs:List (List Nat)):Nat:=(fs.map numB).foldl (fun q k=>F.Cv.nTv (F.Cv.clampN k) (F.ptN q%Fp.P)) (F.ptN (numB k)%Fp.P)
theorem sh_V (k u:List Nat):shB k u=shV k u:=by unfold shB shV F.shN;rw[F.Cv.nT_v]
theorem pu_V (k:List Nat):puB k=puV k:=by unfold puB puV;rw[F.Cv.nT_v]
theorem ch_V (k:List Nat) (fs:List (List Nat)):chB k fs=chV k fs:=by
 unfold chB chV F.chN
 congr 1
 funext q k
 unfold F.shN
 rw[F.Cv.nT_v]
end Go.Proofs.YtddmjddlbhdcpaaGreatDoor
namespace Go.Proofs.YtddmjddlbhdcpaaGreatDoor
open Go.RowKit Go.Hold Go.Sh Go.Ch Go.Cm Go.Hd
def keyU (n:Nat):List Nat:=n::zs 31
def tA0:List Nat:=puV (keyU 9)
def tS0:List Nat:=keyB (shV (keyU 1) tA0)
def tB0:List Nat:=bli tS0 tA0
def tA1:List Nat:=keyB (shV tB0 tA0)
def tS1:List Nat:=keyB (shV (keyU 2) tA1)
theorem v1:Nat.beq (chV (puV (keyU 1)) [keyU 9]) (shV (keyU 1) tA0)=true:=by kernel_rfl
theorem v2:Nat.beq (shV (keyU 1) tA0) 0=false:=by kernel_rfl
theorem v3:Nat.beq (shV tB0 tA0) 0=false:=by kernel_rfl
theorem v4:Nat.beq (chV (puV (keyU 2)) [keyU 9,tB0]) (shV (keyU 2) tA1)=true:=by kernel_rfl
theorem v5:Nat.beq (shV (keyU 2) tA1) 0=false:=by kernel_rfl
theorem v6:Nat.beq (shV (bli tS1 tA1) tA1) 0=false:=by kernel_rfl
theorem Zch {n:Nat} (h:Nat.beq n 0=false):n≠0:=fun e=>by rw[e] at h;cases h
theorem Zs1 (c1 c2:Cmd):secF [keyU 9] (puB (keyU 9)) [⟨puB (keyU 1),c1⟩,⟨puB (keyU 2),c2⟩]=some [tS0,tS1]∧Way (puB (keyU 9)) [keyU 1,keyU 2] [tS0,tS1]:=by
 have e1:chB (puB (keyU 1)) [keyU 9]=shV (keyU 1) tA0:=by rw[ch_V,pu_V];exact Nat.eq_of_beq_eq_true v1
 have e2:chB (puB (keyU 2)) [keyU 9,tB0]=shV (keyU 2) tA1:=by rw[ch_V,pu_V];exact Nat.eq_of_beq_eq_true v4
 have x1:nxA tS0 tA0=shV tB0 tA0:=sh_V _ _
 have x2:nxA tS1 tA1=shV (bli tS1 tA1) tA1:=sh_V _ _
 have k1:keyB (shV (keyU 1) tA0)=tS0:=rfl
 have k2:keyB (shV tB0 tA0)=tA1:=rfl
 have k3:keyB (shV (keyU 2) tA1)=tS1:=rfl
 have b1:[keyU 9]++[bli tS0 tA0]=[keyU 9,tB0]:=rfl
 have a0:puB (keyU 9)=tA0:=pu_V _
 have s1:shB (keyU 1) tA0=shV (keyU 1) tA0:=sh_V _ _
 have s2:shB (keyU 2) tA1=shV (keyU 2) tA1:=sh_V _ _
 rw[a0]
 refine⟨?_,?_⟩
 ·unfold secF
  rw[e1,if_neg (Zch v2),k1,x1,if_neg (Zch v3),k2,b1]
  unfold secF
  rw[e2,if_neg (Zch v5),k3,x2,if_neg (Zch v6)]
  rfl
 ·unfold Way
  rw[s1]
  refine⟨Zch v2,k1,by rw[x1];exact Zch v3,?_⟩
  rw[x1,k2]
  unfold Way
  rw[s2]
  exact⟨Zch v5,k3,by rw[x2];exact Zch v6,trivial⟩
theorem ZnC (o:Oper) (h:o.op=.alloc 99) (hg:o.guard=none):Lays Tryz.prog o 99 (bysA (zs 192)):=by
 refine⟨hg,fun a w=>?_⟩
 obtain⟨dst,op,ty,pos,after,guard⟩:=o
 simp only at h hg
 subst h;subst hg
 go_simp
theorem ZoU (o:Oper) (h:o.op=.alloc 31) (hg:o.guard=none):Lays Tryz.prog o 31 (bysA (zs 208)):=by
 refine⟨hg,fun a w=>?_⟩
 obtain⟨dst,op,ty,pos,after,guard⟩:=o
 simp only at h hg
 subst h;subst hg
 go_simp
theorem ZhS (o:Oper) (h:o.op=.alloc 23) (hg:o.guard=none):Lays Tryz.prog o 23 (bysA (zs 32)):=by
 refine⟨hg,fun a w=>?_⟩
 obtain⟨dst,op,ty,pos,after,guard⟩:=o
 simp only at h hg
 subst h;subst hg
 go_simp
 rfl
theorem Zkt (o a b g:List Nat) (ho:o.length=32) (hob:∀i,o.getD i 0<256) (ha:a.length=32) (hab:∀i,a.getD i 0<256) (hb:b.length=160) (hbb:∀i,b.getD i 0<256) (hg:g.length=16) (hgb:∀i,g.getD i 0<256) (w:World) (hT:Tabs w) :
  Calls Tryz.prog 18 #[.agg (bysA o),.agg (bysA (a++b++g))] w fun e w'=>e=.returned (.tuple #[.agg (Zbn (unwV o a b g)),.int .i64 (unwE o a b g)])∧Below w.heap.size w w':=by
 have hos:=Zae ho
 have has:=Zae ha
 have hbs:=Zae hb
 have hgs:=Zae hg
 obtain⟨H,eH⟩:∃H,H=a++b++g:=⟨_,rfl⟩
 have hHl:H.length=208:=by rw[eH,List.length_append,List.length_append,ha,hb,hg]
 have hHs:=Zae hHl
 have hA:H.take 32=a:=by rw[eH,List.append_assoc,show 32=a.length from ha.symm,List.take_left]
 have hB:(H.drop 32).take 160=b:=by rw[eH,List.append_assoc,show 32=a.length from ha.symm,List.drop_left,show 160=b.length from hb.symm,List.take_left]
 have hG:=Zq (show H.drop 192=g by rw[eH,show 192=(a++b).length by rw[List.length_append,ha,hb],List.drop_left])
 rw[←eH]
 clear eH
 have hzz:=Zcs ZgC
 have HT:=Zq hT
 have hz192:=Zae (Zah 192)
 have hz208:=Zae (Zah 208)
 have hz32:=Zae (Zah 32)
 have hz16:=Zae (Zah 16)
 have hcz:(cmdA .zero).size=11:=Zax rfl
 have KS:=Zq (fun (W:World)=>ZfC o a ho hob ha hab W)
 obtain⟨s,es⟩:∃s,s=keyB (shB o a):=⟨_,rfl⟩
 have hs:s.length=32:=by rw[es];exact Za1 _
 have hsb:∀i,s.getD i 0<256:=by rw[es];exact ZcN _
 have hss:=Zae hs
 have KP:=Zq (fun (W:World) (h:Tabs W)=>Zg6 s b hs hsb hb hbb W h)
 have hPl:=ZaS s b
 have hPb:=ZfU s b
 have hPs:=Zae hPl
 have KE:=Zq (fun (W:World) (q r:Option Addr) (hq:Bs0 W q (prf s b)) (hr:Bs0 W r g)=>show Calls Tryz.prog 44 #[.slice q 16 16,.slice r 16 16] W fun e w'=>e=.returned (.bool (decide (prf s b=g)))∧Below W.heap.size W w' from by
  have:=ZsL 16 16 q r (prf s b) g W (by rw[hPl];decide) hPb hq hgb hr
  rwa [hPl,hg] at this)
 have KWd:=Zq (fun (W:World)=>Zng b hb W)
 have hbz:(b++zs 32).length=192:=by rw[List.length_append,hb,Zah]
 have KT:=Zq (fun (W:World) (h:Tabs W)=>show Calls Tryz.prog 46 #[.agg (bysA (b++zs 32)),.agg (bysA s)] W fun e w'=>e=.returned (.agg (bysA (opn s b)))∧Below W.heap.size W w' from ZgX (b++zs 32) s hbz (ZaN hbb (Zbs _)) hs hsb W h)
 have hOl:=ZgO (s:=s) hb
 have hOb:=Zs2 (s:=s) hbb
 have hOs:=Zae hOl
 have KC:=Zq (fun (W:World)=>ZuV (opn s b) hOl W)
 have hcl:((opn s b).take 16).length=16:=by rw[List.length_take,hOl];rfl
 have KD:=Zq (fun (W:World)=>Zoi ((opn s b).take 16) hcl (Zbc hOb 16) W)
 have hCs:=Zae hcl
 have hdi:=Zs9 hcl
 have hds:=Zax hdi
 have KB:=Zq (fun (W:World) (h:Tabs W)=>Zgl s a hs hsb ha hab W h)
 have hbl:=Zc0 s a
 have hbls:=Zae hbl
 have KN:=Zq (fun (W:World)=>show Calls Tryz.prog 29 #[.agg (bysA (bli s a)),.agg (bysA a)] W fun e w'=>e=.returned (.tuple #[.agg (bysA (keyB (nxA s a))),.int .i64 (F.errOf (nxA s a))])∧Below W.heap.size W w' from ZfC (bli s a) a hbl (Zjl s a) ha hab W)
 have KNb:=Zq (fun (W:World)=>Zt4 (opn s b) hOl W)
 have KNg:=Zq (fun (W:World)=>Zt9 (opn s b) hOl W)
 have hnbl:((opn s b).drop 32).length=160:=by rw[List.length_drop,hOl]
 have hngl:(((opn s b).drop 16).take 16).length=16:=by rw[List.length_take,List.length_drop,hOl];rfl
 have hnbs:=Zae hnbl
 have hngs:=Zae hngl
 have hnal:=Za1 (nxA s a)
 have hnas:=Zae hnal
 have hbdH:=fun W=>ZgK hnal hnbl hngl W
 have hHn:(keyB (nxA s a)++(opn s b).drop 32++((opn s b).drop 16).take 16).length=208:=by rw[List.length_append,List.length_append,hnal,hnbl,hngl]
 have hHns:=Zae hHn
 have KTg:=Zq (fun (W:World) (h:Tabs W)=>ZuP s hs hsb W h)
 have htl:=Zd2 s
 have hts:=Zae htl
 have hE0:unwE o a b g=(if shB o a=0 then 7 else if ¬prf s b=g then 6 else if okB ((opn s b).take 16)=false then 5 else if nxA s a=0 then 7 else 0):=by unfold unwE;rw[es]
 have hV0:unwV o a b g=if unwE o a b g=0 then Znz a b s else .zero:=by unfold unwV;rw[es]
 obtain⟨st,est⟩:∃st,st=Znz a b s:=⟨_,rfl⟩
 have hd0:okB ((opn s b).take 16)=true→decV ((opn s b).take 16)=st.c∧decE ((opn s b).take 16)=0:=fun h=>by unfold decV decE;rw[if_pos h,if_pos h,est];exact⟨rfl,rfl⟩
 have hst:StpOk st:=by rw[est];exact⟨Zqy _ hcl,hHn,hs,htl⟩
 have hsts:=Zcs hst
 have hbdS:=fun W=>ZjC hst W
 rw[show st.nx=keyB (nxA s a)++(opn s b).drop 32++((opn s b).drop 16).take 16 by rw[est];rfl,show st.s=s by rw[est];rfl,show st.t=tagS s by rw[est];rfl] at hbdS
 rw[hV0]
 rw[←est]
 rw[←es] at KS
 obtain⟨er,eer⟩:∃er,er=unwE o a b g:=⟨_,rfl⟩
 rw[←eer] at hE0 ⊢
 have hd1:okB ((opn s b).take 16)=false→decE ((opn s b).take 16)=5:=fun h=>by unfold decE;rw[h];rfl
 obtain⟨sn,esn⟩:∃n,n=shB o a:=⟨_,rfl⟩
 obtain⟨nn,enn⟩:∃n,n=nxA s a:=⟨_,rfl⟩
 rw[←esn] at KS hE0
 rw[←enn] at hE0
 rw[show F.errOf (nxA s a)=F.errOf nn by rw[enn]] at KN
 have Hd0:=Zq hd0
 have Hd1:=Zq hd1
 have HE0:=Zq hE0
 obtain⟨ans,eans⟩:∃x,x=(if er=0 then st else Stp.zero):=⟨_,rfl⟩
 rw[←eans]
 have HAn:=Zq eans
 clear hd0 hd1 hE0 hV0 est eer esn enn es eans
 generalize keyB (nxA s a)++(opn s b).drop 32++((opn s b).drop 16).take 16=Hn at *
 generalize keyB (nxA s a)=na at *
 generalize (opn s b).drop 32=nb at *
 generalize ((opn s b).drop 16).take 16=ng at *
 generalize okB ((opn s b).take 16)=ok at *
 generalize decE ((opn s b).take 16)=dE at *
 generalize decV ((opn s b).take 16)=dV at *
 generalize (opn s b).take 16=C at *
 generalize opn s b=O at *
 generalize tagS s=tg at *
 generalize bli s a=bl at *
 generalize b++zs 32=bz at *
 generalize prf s b=P at *
 have Hstk:=Zq hst
 clear ho hob ha hab hb hbb hg hgb hs hsb hPl hPb hbz hOl hOb hcl hdi hbl hnbl hngl hnal hHn htl hT hst hHl
 by_cases h1:sn=0
 ·obtain rfl:er=7:=by rw[HE0.out,if_pos h1]
  rw[Zcu h1] at KS
  obtain rfl:ans=.zero:=by rw[HAn.out,if_neg (show ¬(7:Int)=0 by decide)]
  clear h1 HE0 HAn
  go_enter Tryz.func18,Tryz.ntmps18
  go_wp2_with fail
  generalize hW:World.alloc _ _=W0
  have R0x0:=Zq (show RowAt W0 (w.heap.size) (bysA o) by rw[←hW];clear hW;exact⟨by go_simp,by first | (go_simp;done) | (go_simp;rfl),by go_simp⟩)
  have R0x1:=Zq (show RowAt W0 (w.heap.size+1) (bysA H) by rw[←hW];clear hW;exact⟨by go_simp,by first | (go_simp;done) | (go_simp;rfl),by go_simp⟩)
  have R0x2:=Zq (show RowAt W0 (w.heap.size+1+1) (Zbn .zero) by rw[←hW];clear hW;exact⟨by go_simp,by first | (go_simp;done) | (go_simp;rfl),by go_simp⟩)
  have B0:=Zq (show Below w.heap.size w W0 by rw[←hW];repeat (first | apply Zab | exact Below.refl _ _))
  clear hW
  have l_z:w.heap.size≤w.heap.size:=by omega
  have l_y:w.heap.size≤w.heap.size+1:=by omega
  have n_z_y:w.heap.size≠w.heap.size+1:=by omega
  have l_r:w.heap.size≤w.heap.size+1+1:=by omega
  have n_z_r:w.heap.size≠w.heap.size+1+1:=by omega
  have n_y_r:w.heap.size+1≠w.heap.size+1+1:=by omega
  generalize w.heap.size+1+1=r at *
  generalize w.heap.size+1=y at *
  obtain⟨z,ez⟩:∃z,z=w.heap.size:=⟨_,rfl⟩
  rw[←ez] at R0x0 n_z_y n_z_r ⊢
  have l_z:w.heap.size≤z:=by rw[ez];exact Nat.le_refl _
  clear ez
  obtain⟨R0x0a,R0x0b,R0x0c⟩:=R0x0.out
  obtain⟨R0x1a,R0x1b,R0x1c⟩:=R0x1.out
  obtain⟨R0x2a,R0x2b,R0x2c⟩:=R0x2.out
  go_wp2_with fail
  refine(KS.out _).mono ?_
  rintro e W1 ⟨rfl,hb1⟩
  clear R0x0a R0x0b R0x0c R0x1a R0x1b R0x1c R0x2a R0x2b R0x2c
  have R1x0:=Zq (R0x0.out.grow hb1)
  have R1x1:=Zq (R0x1.out.grow hb1)
  have R1x2:=Zq (R0x2.out.grow hb1)
  have B1:=Zq (B0.out.trans (hb1.mono B0.out.size))
  clear hb1 B0 R0x0 R0x1 R0x2
  obtain⟨R1x0a,R1x0b,R1x0c⟩:=R1x0.out
  obtain⟨R1x1a,R1x1b,R1x1c⟩:=R1x1.out
  obtain⟨R1x2a,R1x2b,R1x2c⟩:=R1x2.out
  go_wp2_with fail
  refine bodyPost_ret (v:=.tuple #[.agg (Zbn .zero),.int .i64 7]) (Zbo Tryz.results18 hzz _ _ _ rfl (by go_simp) (by go_simp) rfl) rfl ⟨rfl,?_⟩
  first | exact Zad B1.out l_r _ | exact Zab (Zad B1.out l_r _) _ | exact Zad (Zad B1.out l_av _) l_r _
 rw[if_neg h1] at HE0
 rw[Zcr h1] at KS
 clear h1
 go_enter Tryz.func18,Tryz.ntmps18
 go_wp2_with fail
 generalize hW:World.alloc _ _=W0
 have R0x0:=Zq (show RowAt W0 (w.heap.size) (bysA o) by rw[←hW];clear hW;exact⟨by go_simp,by first | (go_simp;done) | (go_simp;rfl),by go_simp⟩)
 have R0x1:=Zq (show RowAt W0 (w.heap.size+1) (bysA H) by rw[←hW];clear hW;exact⟨by go_simp,by first | (go_simp;done) | (go_simp;rfl),by go_simp⟩)
 have R0x2:=Zq (show RowAt W0 (w.heap.size+1+1) (Zbn .zero) by rw[←hW];clear hW;exact⟨by go_simp,by first | (go_simp;done) | (go_simp;rfl),by go_simp⟩)
 have B0:=Zq (show Below w.heap.size w W0 by rw[←hW];repeat (first | apply Zab | exact Below.refl _ _))
 clear hW
 have l_z:w.heap.size≤w.heap.size:=by omega
 have l_y:w.heap.size≤w.heap.size+1:=by omega
 have n_z_y:w.heap.size≠w.heap.size+1:=by omega
 have l_r:w.heap.size≤w.heap.size+1+1:=by omega
 have n_z_r:w.heap.size≠w.heap.size+1+1:=by omega
 have n_y_r:w.heap.size+1≠w.heap.size+1+1:=by omega
 generalize w.heap.size+1+1=r at *
 generalize w.heap.size+1=y at *
 obtain⟨z,ez⟩:∃z,z=w.heap.size:=⟨_,rfl⟩
 rw[←ez] at R0x0 n_z_y n_z_r ⊢
 have l_z:w.heap.size≤z:=by rw[ez];exact Nat.le_refl _
 clear ez
 obtain⟨R0x0a,R0x0b,R0x0c⟩:=R0x0.out
 obtain⟨R0x1a,R0x1b,R0x1c⟩:=R0x1.out
 obtain⟨R0x2a,R0x2b,R0x2c⟩:=R0x2.out
 go_wp2_with fail
 refine(KS.out _).mono ?_
 rintro e W1 ⟨rfl,hb1⟩
 clear R0x0a R0x0b R0x0c R0x1a R0x1b R0x1c R0x2a R0x2b R0x2c
 have R1x0:=Zq (R0x0.out.grow hb1)
 have R1x1:=Zq (R0x1.out.grow hb1)
 have R1x2:=Zq (R0x2.out.grow hb1)
 have B1:=Zq (B0.out.trans (hb1.mono B0.out.size))
 clear hb1 B0 R0x0 R0x1 R0x2
 obtain⟨R1x0a,R1x0b,R1x0c⟩:=R1x0.out
 obtain⟨R1x1a,R1x1b,R1x1c⟩:=R1x1.out
 obtain⟨R1x2a,R1x2b,R1x2c⟩:=R1x2.out
 go_wp2_with fail
 have n_z_sv:z≠W1.heap.size:=Nat.ne_of_lt R1x0.out.2.2
 have n_y_sv:y≠W1.heap.size:=Nat.ne_of_lt R1x1.out.2.2
 have n_r_sv:r≠W1.heap.size:=Nat.ne_of_lt R1x2.out.2.2
 have l_sv:w.heap.size≤W1.heap.size:=B1.out.size
 have hb2:=Zab (Below.refl W1.heap.size W1) (.cells (bysA s) 23)
 have N2:=Zq (RowAt.of (Zaq W1 (.cells (bysA s) 23)))
 have R2x0:=Zq (R1x0.out.grow hb2)
 have R2x1:=Zq (R1x1.out.grow hb2)
 have R2x2:=Zq (R1x2.out.grow hb2)
 have B2:=Zq (B1.out.trans (hb2.mono B1.out.size))
 clear hb2 B1 R1x0 R1x1 R1x2 R1x0a R1x0b R1x0c R1x1a R1x1b R1x1c R1x2a R1x2b R1x2c
 generalize W1.heap.size=sv at *
 generalize W1.alloc (.cells (bysA s) 23)=W2 at *
 obtain⟨R2x0a,R2x0b,R2x0c⟩:=R2x0.out
 obtain⟨R2x1a,R2x1b,R2x1c⟩:=R2x1.out
 obtain⟨R2x2a,R2x2b,R2x2c⟩:=R2x2.out
 obtain⟨N2a,N2b,N2c⟩:=N2.out
 go_wp2_with fail
 refine(KP.out _ (HT.out.grow B2.out)).mono ?_
 rintro e W3 ⟨rfl,hb3⟩
 clear R2x0a R2x0b R2x0c R2x1a R2x1b R2x1c R2x2a R2x2b R2x2c N2a N2b N2c
 have R3x0:=Zq (R2x0.out.grow hb3)
 have R3x1:=Zq (R2x1.out.grow hb3)
 have R3x2:=Zq (R2x2.out.grow hb3)
 have R3x3:=Zq (N2.out.grow hb3)
 have B3:=Zq (B2.out.trans (hb3.mono B2.out.size))
 clear hb3 B2 R2x0 R2x1 R2x2 N2
 obtain⟨R3x0a,R3x0b,R3x0c⟩:=R3x0.out
 obtain⟨R3x1a,R3x1b,R3x1c⟩:=R3x1.out
 obtain⟨R3x2a,R3x2b,R3x2c⟩:=R3x2.out
 obtain⟨R3x3a,R3x3b,R3x3c⟩:=R3x3.out
 go_wp2_with fail
 have n_z_pv:z≠W3.heap.size:=Nat.ne_of_lt R3x0.out.2.2
 have n_y_pv:y≠W3.heap.size:=Nat.ne_of_lt R3x1.out.2.2
 have n_r_pv:r≠W3.heap.size:=Nat.ne_of_lt R3x2.out.2.2
 have n_sv_pv:sv≠W3.heap.size:=Nat.ne_of_lt R3x3.out.2.2
 have l_pv:w.heap.size≤W3.heap.size:=B3.out.size
 have hb4:=Zab (Below.refl W3.heap.size W3) (.cells (bysA P) 29)
 have N4:=Zq (RowAt.of (Zaq W3 (.cells (bysA P) 29)))
 have R4x0:=Zq (R3x0.out.grow hb4)
 have R4x1:=Zq (R3x1.out.grow hb4)
 have R4x2:=Zq (R3x2.out.grow hb4)
 have R4x3:=Zq (R3x3.out.grow hb4)
 have B4:=Zq (B3.out.trans (hb4.mono B3.out.size))
 clear hb4 B3 R3x0 R3x1 R3x2 R3x3 R3x0a R3x0b R3x0c R3x1a R3x1b R3x1c R3x2a R3x2b R3x2c R3x3a R3x3b R3x3c
 generalize W3.heap.size=pv at *
 generalize W3.alloc (.cells (bysA P) 29)=W4 at *
 obtain⟨R4x0a,R4x0b,R4x0c⟩:=R4x0.out
 obtain⟨R4x1a,R4x1b,R4x1c⟩:=R4x1.out
 obtain⟨R4x2a,R4x2b,R4x2c⟩:=R4x2.out
 obtain⟨R4x3a,R4x3b,R4x3c⟩:=R4x3.out
 obtain⟨N4a,N4b,N4c⟩:=N4.out
 clear R4x0a R4x0b R4x0c R4x1a R4x1b R4x1c R4x2a R4x2b R4x2c R4x3a R4x3b R4x3c N4a N4b N4c
 refine ZaI W4 [0,1,2] [true,true,true] [3,4] (by kernel_rfl) (by kernel_rfl) (by intro c a d v w h;cases d<;>exact h) (by first | exact(Below.refl _ _).drew | exact Below.refl _ _) ?_
 simp only[pick,List.getElem?_cons_succ,List.getElem?_cons_zero]
 iterate 3 (refine Zay (Zaa rfl) (fun w=>by go_simp;rfl) ?_)
 refine Zan ?_
 intro W5 hb5
 have R5x0:=Zq (R4x0.out.grow hb5)
 have R5x1:=Zq (R4x1.out.grow hb5)
 have R5x2:=Zq (R4x2.out.grow hb5)
 have R5x3:=Zq (R4x3.out.grow hb5)
 have R5x4:=Zq (N4.out.grow hb5)
 have B5:=Zq (B4.out.trans (hb5.mono B4.out.size))
 clear hb5 B4 R4x0 R4x1 R4x2 R4x3 N4
 go_wp2_with fail
 have hBy:BytesAt W5 y 192 g:=by
  have:=(ZaH R5x1.out).from 192
  rwa [hG.out,Nat.zero_add] at this
 by_cases h2:P=g
 ·rw[if_neg (fun h=>h h2)] at HE0
  rw[decide_eq_true h2] at KE
  clear h2
  refine(KE.out _ _ _ (Bs0.some (ZaH R5x4.out)) (Bs0.some hBy)).mono ?_
  rintro e W6 ⟨rfl,hb6⟩
  have R6x0:=Zq (R5x0.out.grow hb6)
  have R6x1:=Zq (R5x1.out.grow hb6)
  have R6x2:=Zq (R5x2.out.grow hb6)
  have R6x3:=Zq (R5x3.out.grow hb6)
  have R6x4:=Zq (R5x4.out.grow hb6)
  have B6:=Zq (B5.out.trans (hb6.mono B5.out.size))
  clear hb6 B5 R5x0 R5x1 R5x2 R5x3 R5x4
  clear hBy
  obtain⟨R6x0a,R6x0b,R6x0c⟩:=R6x0.out
  obtain⟨R6x1a,R6x1b,R6x1c⟩:=R6x1.out
  obtain⟨R6x2a,R6x2b,R6x2c⟩:=R6x2.out
  obtain⟨R6x3a,R6x3b,R6x3c⟩:=R6x3.out
  obtain⟨R6x4a,R6x4b,R6x4c⟩:=R6x4.out
  go_wp2_with fail
  refine Zal W6 [0,1,2,3,4] [false,false,false,false,false] [5] [(99,bysA (zs 192))] 6 (by kernel_rfl) rfl (by kernel_rfl) (by intro c a d v w h;cases d<;>exact h) (by first | exact(Below.refl _ _).drew | exact Below.refl _ _) ?_
  simp only[pick,List.getElem?_cons_succ,List.getElem?_cons_zero,List.drop_succ_cons,List.drop_zero]
  refine Zac (Zaa rfl) (by intro K o d hK;go_simp;exact hK _ (Below.refl _ _)) ?_
  refine Zac (Zaa rfl) (by intro K o d hK;go_simp;exact hK _ (Below.refl _ _)) ?_
  refine Zai (v:=.agg (bysA bz)) (Zaa rfl) (by intro K o d hK;go_simp;refine(KWd.out _).mono ?_;rintro e w' ⟨rfl,hbw⟩;exact⟨_,rfl,hK _ hbw⟩) ?_
  refine Zac (Zaa rfl) (by intro K o d hK;go_simp;exact hK _ (Below.refl _ _)) ?_
  refine Zai (v:=.agg (bysA O)) (Zaa rfl) (by intro K o d hK;go_simp;refine(KT.out _ (HT.out.grow (ZaE _ _ _ B6.out B6.out.size))).mono ?_;rintro e w' ⟨rfl,hbw⟩;exact⟨_,rfl,hK _ hbw⟩) ?_
  refine Zan ?_
  refine⟨ZnC _ rfl rfl,fun wv hg0 hn0=>?_⟩
  intro W7 hb7 hblk
  have n_z_wv:z≠wv:=by have:=R6x0.out.2.2;omega
  have n_y_wv:y≠wv:=by have:=R6x1.out.2.2;omega
  have n_r_wv:r≠wv:=by have:=R6x2.out.2.2;omega
  have n_sv_wv:sv≠wv:=by have:=R6x3.out.2.2;omega
  have n_pv_wv:pv≠wv:=by have:=R6x4.out.2.2;omega
  have l_wv:w.heap.size≤wv:=Nat.le_trans B6.out.size hg0
  have V7x0:=Zq (RowAt.of (hblk 0 wv _ _ rfl rfl))
  clear hblk
  clear R6x0a R6x0b R6x0c R6x1a R6x1b R6x1c R6x2a R6x2b R6x2c R6x3a R6x3b R6x3c R6x4a R6x4b R6x4c
  have R7x0:=Zq (R6x0.out.grow hb7)
  have R7x1:=Zq (R6x1.out.grow hb7)
  have R7x2:=Zq (R6x2.out.grow hb7)
  have R7x3:=Zq (R6x3.out.grow hb7)
  have R7x4:=Zq (R6x4.out.grow hb7)
  have B7:=Zq (B6.out.trans (hb7.mono B6.out.size))
  clear hb7 B6 R6x0 R6x1 R6x2 R6x3 R6x4
  obtain⟨R7x0a,R7x0b,R7x0c⟩:=R7x0.out
  obtain⟨R7x1a,R7x1b,R7x1c⟩:=R7x1.out
  obtain⟨R7x2a,R7x2b,R7x2c⟩:=R7x2.out
  obtain⟨R7x3a,R7x3b,R7x3c⟩:=R7x3.out
  obtain⟨R7x4a,R7x4b,R7x4c⟩:=R7x4.out
  obtain⟨V7x0a,V7x0b,V7x0c⟩:=V7x0.out
  go_wp2_with fail
  have R8x0:=Zq (R7x0.out.other n_z_wv (bysA O))
  have R8x1:=Zq (R7x1.out.other n_y_wv (bysA O))
  have R8x2:=Zq (R7x2.out.other n_r_wv (bysA O))
  have R8x3:=Zq (R7x3.out.other n_sv_wv (bysA O))
  have R8x4:=Zq (R7x4.out.other n_pv_wv (bysA O))
  have R8x5:=Zq (V7x0.out.set (bysA O))
  have B8:=Zq (Zad B7.out l_wv (bysA O))
  clear B7 R7x0 R7x1 R7x2 R7x3 R7x4 V7x0 R7x0a R7x0b R7x0c R7x1a R7x1b R7x1c R7x2a R7x2b R7x2c R7x3a R7x3b R7x3c R7x4a R7x4b R7x4c V7x0a V7x0b V7x0c
  generalize W7.setRow wv (bysA O)=W8 at *
  refine(KC.out _).mono ?_
  rintro e W9 ⟨rfl,hb9⟩
  have R9x0:=Zq (R8x0.out.grow hb9)
  have R9x1:=Zq (R8x1.out.grow hb9)
  have R9x2:=Zq (R8x2.out.grow hb9)
  have R9x3:=Zq (R8x3.out.grow hb9)
  have R9x4:=Zq (R8x4.out.grow hb9)
  have R9x5:=Zq (R8x5.out.grow hb9)
  have B9:=Zq (B8.out.trans (hb9.mono B8.out.size))
  clear hb9 B8 R8x0 R8x1 R8x2 R8x3 R8x4 R8x5
  obtain⟨R9x0a,R9x0b,R9x0c⟩:=R9x0.out
  obtain⟨R9x1a,R9x1b,R9x1c⟩:=R9x1.out
  obtain⟨R9x2a,R9x2b,R9x2c⟩:=R9x2.out
  obtain⟨R9x3a,R9x3b,R9x3c⟩:=R9x3.out
  obtain⟨R9x4a,R9x4b,R9x4c⟩:=R9x4.out
  obtain⟨R9x5a,R9x5b,R9x5c⟩:=R9x5.out
  go_wp2_with fail
  rcases ok with _ | _
  ·rw[if_pos rfl] at HE0
   obtain rfl:er=5:=HE0.out
   obtain rfl:ans=.zero:=by rw[HAn.out,if_neg (show ¬(5:Int)=0 by decide)]
   have e5:=Hd1.out rfl
   subst e5
   clear HE0 HAn Hd0 Hd1
   refine(KD.out _).mono ?_
   rintro e W10 ⟨rfl,hb10⟩
   clear R9x0a R9x0b R9x0c R9x1a R9x1b R9x1c R9x2a R9x2b R9x2c R9x3a R9x3b R9x3c R9x4a R9x4b R9x4c R9x5a R9x5b R9x5c
   have R10x0:=Zq (R9x0.out.grow hb10)
   have R10x1:=Zq (R9x1.out.grow hb10)
   have R10x2:=Zq (R9x2.out.grow hb10)
   have R10x3:=Zq (R9x3.out.grow hb10)
   have R10x4:=Zq (R9x4.out.grow hb10)
   have R10x5:=Zq (R9x5.out.grow hb10)
   have B10:=Zq (B9.out.trans (hb10.mono B9.out.size))
   clear hb10 B9 R9x0 R9x1 R9x2 R9x3 R9x4 R9x5
   obtain⟨R10x0a,R10x0b,R10x0c⟩:=R10x0.out
   obtain⟨R10x1a,R10x1b,R10x1c⟩:=R10x1.out
   obtain⟨R10x2a,R10x2b,R10x2c⟩:=R10x2.out
   obtain⟨R10x3a,R10x3b,R10x3c⟩:=R10x3.out
   obtain⟨R10x4a,R10x4b,R10x4c⟩:=R10x4.out
   obtain⟨R10x5a,R10x5b,R10x5c⟩:=R10x5.out
   go_wp2_with fail
   refine bodyPost_ret (v:=.tuple #[.agg (Zbn .zero),.int .i64 5]) (Zbo Tryz.results18 hzz _ _ _ rfl (by go_simp) (by go_simp) rfl) rfl ⟨rfl,?_⟩
   first | exact Zad B10.out l_r _ | exact Zab (Zad B10.out l_r _) _ | exact Zad (Zad B10.out l_av _) l_r _
  ·rw[if_neg (by decide)] at HE0
   obtain⟨e1,e2⟩:=Hd0.out rfl
   subst e1 e2
   clear Hd0 Hd1
   by_cases h3:nn=0
   ·rw[if_pos h3] at HE0
    obtain rfl:er=7:=HE0.out
    obtain rfl:ans=.zero:=by rw[HAn.out,if_neg (show ¬(7:Int)=0 by decide)]
    rw[Zcu h3] at KN
    clear h3 HE0 HAn
    refine(KD.out _).mono ?_
    rintro e W10 ⟨rfl,hb10⟩
    clear R9x0a R9x0b R9x0c R9x1a R9x1b R9x1c R9x2a R9x2b R9x2c R9x3a R9x3b R9x3c R9x4a R9x4b R9x4c R9x5a R9x5b R9x5c
    have R10x0:=Zq (R9x0.out.grow hb10)
    have R10x1:=Zq (R9x1.out.grow hb10)
    have R10x2:=Zq (R9x2.out.grow hb10)
    have R10x3:=Zq (R9x3.out.grow hb10)
    have R10x4:=Zq (R9x4.out.grow hb10)
    have R10x5:=Zq (R9x5.out.grow hb10)
    have B10:=Zq (B9.out.trans (hb10.mono B9.out.size))
    clear hb10 B9 R9x0 R9x1 R9x2 R9x3 R9x4 R9x5
    obtain⟨R10x0a,R10x0b,R10x0c⟩:=R10x0.out
    obtain⟨R10x1a,R10x1b,R10x1c⟩:=R10x1.out
    obtain⟨R10x2a,R10x2b,R10x2c⟩:=R10x2.out
    obtain⟨R10x3a,R10x3b,R10x3c⟩:=R10x3.out
    obtain⟨R10x4a,R10x4b,R10x4c⟩:=R10x4.out
    obtain⟨R10x5a,R10x5b,R10x5c⟩:=R10x5.out
    go_wp2_with fail
    have n_z_cv:z≠W10.heap.size:=Nat.ne_of_lt R10x0.out.2.2
    have n_y_cv:y≠W10.heap.size:=Nat.ne_of_lt R10x1.out.2.2
    have n_r_cv:r≠W10.heap.size:=Nat.ne_of_lt R10x2.out.2.2
    have n_sv_cv:sv≠W10.heap.size:=Nat.ne_of_lt R10x3.out.2.2
    have n_pv_cv:pv≠W10.heap.size:=Nat.ne_of_lt R10x4.out.2.2
    have n_wv_cv:wv≠W10.heap.size:=Nat.ne_of_lt R10x5.out.2.2
    have l_cv:w.heap.size≤W10.heap.size:=B10.out.size
    have hb11:=Zab (Below.refl W10.heap.size W10) (.cells (cmdA st.c) 51)
    have N11:=Zq (RowAt.of (Zaq W10 (.cells (cmdA st.c) 51)))
    have R11x0:=Zq (R10x0.out.grow hb11)
    have R11x1:=Zq (R10x1.out.grow hb11)
    have R11x2:=Zq (R10x2.out.grow hb11)
    have R11x3:=Zq (R10x3.out.grow hb11)
    have R11x4:=Zq (R10x4.out.grow hb11)
    have R11x5:=Zq (R10x5.out.grow hb11)
    have B11:=Zq (B10.out.trans (hb11.mono B10.out.size))
    clear hb11 B10 R10x0 R10x1 R10x2 R10x3 R10x4 R10x5 R10x0a R10x0b R10x0c R10x1a R10x1b R10x1c R10x2a R10x2b R10x2c R10x3a R10x3b R10x3c R10x4a R10x4b R10x4c R10x5a R10x5b R10x5c
    generalize W10.heap.size=cv at *
    generalize W10.alloc (.cells (cmdA st.c) 51)=W11 at *
    obtain⟨R11x0a,R11x0b,R11x0c⟩:=R11x0.out
    obtain⟨R11x1a,R11x1b,R11x1c⟩:=R11x1.out
    obtain⟨R11x2a,R11x2b,R11x2c⟩:=R11x2.out
    obtain⟨R11x3a,R11x3b,R11x3c⟩:=R11x3.out
    obtain⟨R11x4a,R11x4b,R11x4c⟩:=R11x4.out
    obtain⟨R11x5a,R11x5b,R11x5c⟩:=R11x5.out
    obtain⟨N11a,N11b,N11c⟩:=N11.out
    refine Zal W11 [0,1,2,3,4,5,6,7,8,9] [false,false,false,false,false,false,false,false,false,true] [10] [(23,bysA (zs 32))] 11 (by kernel_rfl) rfl (by kernel_rfl) (by intro c a d v w h;cases d<;>exact h) (by first | exact(Below.refl _ _).drew | exact Below.refl _ _) ?_
    simp only[pick,List.getElem?_cons_succ,List.getElem?_cons_zero,List.drop_succ_cons,List.drop_zero]
    refine Zac (Zaa rfl) (by intro K o d hK;go_simp;exact hK _ (Below.refl _ _)) ?_
    refine Zac (Zaa rfl) (by intro K o d hK;go_simp;exact hK _ (Below.refl _ _)) ?_
    refine Zac (Zaa rfl) (by intro K o d hK;go_simp;exact hK _ (Below.refl _ _)) ?_
    refine Zai (v:=.agg (bysA bl)) (Zaa rfl) (by intro K o d hK;go_simp;refine(KB.out _ (HT.out.grow (ZaE _ _ _ B11.out B11.out.size))).mono ?_;rintro e w' ⟨rfl,hbw⟩;exact⟨_,rfl,hK _ hbw⟩) ?_
    refine Zac (Zaa rfl) (by intro K o d hK;go_simp;exact hK _ (Below.refl _ _)) ?_
    refine Zac (Zaa rfl) (by intro K o d hK;go_simp;exact hK _ (Below.refl _ _)) ?_
    refine Zai (v:=.tuple #[.agg (bysA na),.int .i64 7]) (Zaa rfl) (by intro K o d hK;go_simp;refine(KN.out _).mono ?_;rintro e w' ⟨rfl,hbw⟩;exact⟨_,rfl,hK _ hbw⟩) ?_
    refine Zac (Zaa rfl) (by intro K o d hK;go_simp;exact hK _ (Below.refl _ _)) ?_
    refine Zac (Zaa rfl) (by intro K o d hK;go_simp;exact hK _ (Below.refl _ _)) ?_
    refine Zay (Zaa rfl) (fun w=>by go_simp;rfl) ?_
    refine Zan ?_
    refine⟨ZhS _ rfl rfl,fun av hg0 hn0=>?_⟩
    intro W12 hb12 hblk
    have n_z_av:z≠av:=by have:=R11x0.out.2.2;omega
    have n_y_av:y≠av:=by have:=R11x1.out.2.2;omega
    have n_r_av:r≠av:=by have:=R11x2.out.2.2;omega
    have n_sv_av:sv≠av:=by have:=R11x3.out.2.2;omega
    have n_pv_av:pv≠av:=by have:=R11x4.out.2.2;omega
    have n_wv_av:wv≠av:=by have:=R11x5.out.2.2;omega
    have n_cv_av:cv≠av:=by have:=N11.out.2.2;omega
    have l_av:w.heap.size≤av:=Nat.le_trans B11.out.size hg0
    have V12x0:=Zq (RowAt.of (hblk 0 av _ _ rfl rfl))
    clear hblk
    clear R11x0a R11x0b R11x0c R11x1a R11x1b R11x1c R11x2a R11x2b R11x2c R11x3a R11x3b R11x3c R11x4a R11x4b R11x4c R11x5a R11x5b R11x5c N11a N11b N11c
    have R12x0:=Zq (R11x0.out.grow hb12)
    have R12x1:=Zq (R11x1.out.grow hb12)
    have R12x2:=Zq (R11x2.out.grow hb12)
    have R12x3:=Zq (R11x3.out.grow hb12)
    have R12x4:=Zq (R11x4.out.grow hb12)
    have R12x5:=Zq (R11x5.out.grow hb12)
    have R12x6:=Zq (N11.out.grow hb12)
    have B12:=Zq (B11.out.trans (hb12.mono B11.out.size))
    clear hb12 B11 R11x0 R11x1 R11x2 R11x3 R11x4 R11x5 N11
    obtain⟨R12x0a,R12x0b,R12x0c⟩:=R12x0.out
    obtain⟨R12x1a,R12x1b,R12x1c⟩:=R12x1.out
    obtain⟨R12x2a,R12x2b,R12x2c⟩:=R12x2.out
    obtain⟨R12x3a,R12x3b,R12x3c⟩:=R12x3.out
    obtain⟨R12x4a,R12x4b,R12x4c⟩:=R12x4.out
    obtain⟨R12x5a,R12x5b,R12x5c⟩:=R12x5.out
    obtain⟨R12x6a,R12x6b,R12x6c⟩:=R12x6.out
    obtain⟨V12x0a,V12x0b,V12x0c⟩:=V12x0.out
    go_wp2_with fail
    refine bodyPost_ret (v:=.tuple #[.agg (Zbn .zero),.int .i64 7]) (Zbo Tryz.results18 hzz _ _ _ rfl (by go_simp) (by go_simp) rfl) rfl ⟨rfl,?_⟩
    first | exact Zad B12.out l_r _ | exact Zab (Zad B12.out l_r _) _ | exact Zad (Zad B12.out l_av _) l_r _
   ·rw[if_neg h3] at HE0
    obtain rfl:er=0:=HE0.out
    obtain rfl:st=ans:=by rw[HAn.out,if_pos rfl]
    rw[Zcr h3] at KN
    clear h3 HE0 HAn
    refine(KD.out _).mono ?_
    rintro e W10 ⟨rfl,hb10⟩
    clear R9x0a R9x0b R9x0c R9x1a R9x1b R9x1c R9x2a R9x2b R9x2c R9x3a R9x3b R9x3c R9x4a R9x4b R9x4c R9x5a R9x5b R9x5c
    have R10x0:=Zq (R9x0.out.grow hb10)
    have R10x1:=Zq (R9x1.out.grow hb10)
    have R10x2:=Zq (R9x2.out.grow hb10)
    have R10x3:=Zq (R9x3.out.grow hb10)
    have R10x4:=Zq (R9x4.out.grow hb10)
    have R10x5:=Zq (R9x5.out.grow hb10)
    have B10:=Zq (B9.out.trans (hb10.mono B9.out.size))
    clear hb10 B9 R9x0 R9x1 R9x2 R9x3 R9x4 R9x5
    obtain⟨R10x0a,R10x0b,R10x0c⟩:=R10x0.out
    obtain⟨R10x1a,R10x1b,R10x1c⟩:=R10x1.out
    obtain⟨R10x2a,R10x2b,R10x2c⟩:=R10x2.out
    obtain⟨R10x3a,R10x3b,R10x3c⟩:=R10x3.out
    obtain⟨R10x4a,R10x4b,R10x4c⟩:=R10x4.out
    obtain⟨R10x5a,R10x5b,R10x5c⟩:=R10x5.out
    go_wp2_with fail
    have n_z_cv:z≠W10.heap.size:=Nat.ne_of_lt R10x0.out.2.2
    have n_y_cv:y≠W10.heap.size:=Nat.ne_of_lt R10x1.out.2.2
    have n_r_cv:r≠W10.heap.size:=Nat.ne_of_lt R10x2.out.2.2
    have n_sv_cv:sv≠W10.heap.size:=Nat.ne_of_lt R10x3.out.2.2
    have n_pv_cv:pv≠W10.heap.size:=Nat.ne_of_lt R10x4.out.2.2
    have n_wv_cv:wv≠W10.heap.size:=Nat.ne_of_lt R10x5.out.2.2
    have l_cv:w.heap.size≤W10.heap.size:=B10.out.size
    have hb11:=Zab (Below.refl W10.heap.size W10) (.cells (cmdA st.c) 51)
    have N11:=Zq (RowAt.of (Zaq W10 (.cells (cmdA st.c) 51)))
    have R11x0:=Zq (R10x0.out.grow hb11)
    have R11x1:=Zq (R10x1.out.grow hb11)
    have R11x2:=Zq (R10x2.out.grow hb11)
    have R11x3:=Zq (R10x3.out.grow hb11)
    have R11x4:=Zq (R10x4.out.grow hb11)
    have R11x5:=Zq (R10x5.out.grow hb11)
    have B11:=Zq (B10.out.trans (hb11.mono B10.out.size))
    clear hb11 B10 R10x0 R10x1 R10x2 R10x3 R10x4 R10x5 R10x0a R10x0b R10x0c R10x1a R10x1b R10x1c R10x2a R10x2b R10x2c R10x3a R10x3b R10x3c R10x4a R10x4b R10x4c R10x5a R10x5b R10x5c
    generalize W10.heap.size=cv at *
    generalize W10.alloc (.cells (cmdA st.c) 51)=W11 at *
    obtain⟨R11x0a,R11x0b,R11x0c⟩:=R11x0.out
    obtain⟨R11x1a,R11x1b,R11x1c⟩:=R11x1.out
    obtain⟨R11x2a,R11x2b,R11x2c⟩:=R11x2.out
    obtain⟨R11x3a,R11x3b,R11x3c⟩:=R11x3.out
    obtain⟨R11x4a,R11x4b,R11x4c⟩:=R11x4.out
    obtain⟨R11x5a,R11x5b,R11x5c⟩:=R11x5.out
    obtain⟨N11a,N11b,N11c⟩:=N11.out
    refine Zal W11 [0,1,2,3,4,5,6,7,8,9] [false,false,false,false,false,false,false,false,false,true] [10] [(23,bysA (zs 32))] 11 (by kernel_rfl) rfl (by kernel_rfl) (by intro c a d v w h;cases d<;>exact h) (by first | exact(Below.refl _ _).drew | exact Below.refl _ _) ?_
    simp only[pick,List.getElem?_cons_succ,List.getElem?_cons_zero,List.drop_succ_cons,List.drop_zero]
    refine Zac (Zaa rfl) (by intro K o d hK;go_simp;exact hK _ (Below.refl _ _)) ?_
    refine Zac (Zaa rfl) (by intro K o d hK;go_simp;exact hK _ (Below.refl _ _)) ?_
    refine Zac (Zaa rfl) (by intro K o d hK;go_simp;exact hK _ (Below.refl _ _)) ?_
    refine Zai (v:=.agg (bysA bl)) (Zaa rfl) (by intro K o d hK;go_simp;refine(KB.out _ (HT.out.grow (ZaE _ _ _ B11.out B11.out.size))).mono ?_;rintro e w' ⟨rfl,hbw⟩;exact⟨_,rfl,hK _ hbw⟩) ?_
    refine Zac (Zaa rfl) (by intro K o d hK;go_simp;exact hK _ (Below.refl _ _)) ?_
    refine Zac (Zaa rfl) (by intro K o d hK;go_simp;exact hK _ (Below.refl _ _)) ?_
    refine Zai (v:=.tuple #[.agg (bysA na),.int .i64 0]) (Zaa rfl) (by intro K o d hK;go_simp;refine(KN.out _).mono ?_;rintro e w' ⟨rfl,hbw⟩;exact⟨_,rfl,hK _ hbw⟩) ?_
    refine Zac (Zaa rfl) (by intro K o d hK;go_simp;exact hK _ (Below.refl _ _)) ?_
    refine Zac (Zaa rfl) (by intro K o d hK;go_simp;exact hK _ (Below.refl _ _)) ?_
    refine Zay (Zaa rfl) (fun w=>by go_simp;rfl) ?_
    refine Zan ?_
    refine⟨ZhS _ rfl rfl,fun av hg0 hn0=>?_⟩
    intro W12 hb12 hblk
    have n_z_av:z≠av:=by have:=R11x0.out.2.2;omega
    have n_y_av:y≠av:=by have:=R11x1.out.2.2;omega
    have n_r_av:r≠av:=by have:=R11x2.out.2.2;omega
    have n_sv_av:sv≠av:=by have:=R11x3.out.2.2;omega
    have n_pv_av:pv≠av:=by have:=R11x4.out.2.2;omega
    have n_wv_av:wv≠av:=by have:=R11x5.out.2.2;omega
    have n_cv_av:cv≠av:=by have:=N11.out.2.2;omega
    have l_av:w.heap.size≤av:=Nat.le_trans B11.out.size hg0
    have V12x0:=Zq (RowAt.of (hblk 0 av _ _ rfl rfl))
    clear hblk
    clear R11x0a R11x0b R11x0c R11x1a R11x1b R11x1c R11x2a R11x2b R11x2c R11x3a R11x3b R11x3c R11x4a R11x4b R11x4c R11x5a R11x5b R11x5c N11a N11b N11c
    have R12x0:=Zq (R11x0.out.grow hb12)
    have R12x1:=Zq (R11x1.out.grow hb12)
    have R12x2:=Zq (R11x2.out.grow hb12)
    have R12x3:=Zq (R11x3.out.grow hb12)
    have R12x4:=Zq (R11x4.out.grow hb12)
    have R12x5:=Zq (R11x5.out.grow hb12)
    have R12x6:=Zq (N11.out.grow hb12)
    have B12:=Zq (B11.out.trans (hb12.mono B11.out.size))
    clear hb12 B11 R11x0 R11x1 R11x2 R11x3 R11x4 R11x5 N11
    obtain⟨R12x0a,R12x0b,R12x0c⟩:=R12x0.out
    obtain⟨R12x1a,R12x1b,R12x1c⟩:=R12x1.out
    obtain⟨R12x2a,R12x2b,R12x2c⟩:=R12x2.out
    obtain⟨R12x3a,R12x3b,R12x3c⟩:=R12x3.out
    obtain⟨R12x4a,R12x4b,R12x4c⟩:=R12x4.out
    obtain⟨R12x5a,R12x5b,R12x5c⟩:=R12x5.out
    obtain⟨R12x6a,R12x6b,R12x6c⟩:=R12x6.out
    obtain⟨V12x0a,V12x0b,V12x0c⟩:=V12x0.out
    go_wp2_with fail
    have R13x0:=Zq (R12x0.out.other n_z_av (bysA na))
    have R13x1:=Zq (R12x1.out.other n_y_av (bysA na))
    have R13x2:=Zq (R12x2.out.other n_r_av (bysA na))
    have R13x3:=Zq (R12x3.out.other n_sv_av (bysA na))
    have R13x4:=Zq (R12x4.out.other n_pv_av (bysA na))
    have R13x5:=Zq (R12x5.out.other n_wv_av (bysA na))
    have R13x6:=Zq (R12x6.out.other n_cv_av (bysA na))
    have R13x7:=Zq (V12x0.out.set (bysA na))
    have B13:=Zq (Zad B12.out l_av (bysA na))
    clear B12 R12x0 R12x1 R12x2 R12x3 R12x4 R12x5 R12x6 V12x0 R12x0a R12x0b R12x0c R12x1a R12x1b R12x1c R12x2a R12x2b R12x2c R12x3a R12x3b R12x3c R12x4a R12x4b R12x4c R12x5a R12x5b R12x5c R12x6a R12x6b R12x6c V12x0a V12x0b V12x0c
    generalize W12.setRow av (bysA na)=W13 at *
    obtain⟨R13x0a,R13x0b,R13x0c⟩:=R13x0.out
    obtain⟨R13x1a,R13x1b,R13x1c⟩:=R13x1.out
    obtain⟨R13x2a,R13x2b,R13x2c⟩:=R13x2.out
    obtain⟨R13x3a,R13x3b,R13x3c⟩:=R13x3.out
    obtain⟨R13x4a,R13x4b,R13x4c⟩:=R13x4.out
    obtain⟨R13x5a,R13x5b,R13x5c⟩:=R13x5.out
    obtain⟨R13x6a,R13x6b,R13x6c⟩:=R13x6.out
    obtain⟨R13x7a,R13x7b,R13x7c⟩:=R13x7.out
    refine Zal W13 [0,1,2,3,4,5] [false,false,false,false,false,false] [6] [(31,bysA (zs 208))] 7 (by kernel_rfl) rfl (by kernel_rfl) (by intro c a d v w h;cases d<;>exact h) (by first | exact(Below.refl _ _).drew | exact Below.refl _ _) ?_
    simp only[pick,List.getElem?_cons_succ,List.getElem?_cons_zero,List.drop_succ_cons,List.drop_zero]
    refine Zac (Zaa rfl) (by intro K o d hK;go_simp;exact hK _ (Below.refl _ _)) ?_
    refine Zac (Zaa rfl) (by intro K o d hK;go_simp;exact hK _ (Below.refl _ _)) ?_
    refine Zai (v:=.agg (bysA nb)) (Zaa rfl) (by intro K o d hK;go_simp;refine(KNb.out _).mono ?_;rintro e w' ⟨rfl,hbw⟩;exact⟨_,rfl,hK _ hbw⟩) ?_
    refine Zac (Zaa rfl) (by intro K o d hK;go_simp;exact hK _ (Below.refl _ _)) ?_
    refine Zai (v:=.agg (bysA ng)) (Zaa rfl) (by intro K o d hK;go_simp;refine(KNg.out _).mono ?_;rintro e w' ⟨rfl,hbw⟩;exact⟨_,rfl,hK _ hbw⟩) ?_
    refine Zac (Zaa rfl) (by intro K o d hK;go_simp;exact hK _ (Below.refl _ _)) ?_
    refine Zan ?_
    refine⟨ZoU _ rfl rfl,fun nv hg0 hn0=>?_⟩
    intro W14 hb14 hblk
    have n_z_nv:z≠nv:=by have:=R13x0.out.2.2;omega
    have n_y_nv:y≠nv:=by have:=R13x1.out.2.2;omega
    have n_r_nv:r≠nv:=by have:=R13x2.out.2.2;omega
    have n_sv_nv:sv≠nv:=by have:=R13x3.out.2.2;omega
    have n_pv_nv:pv≠nv:=by have:=R13x4.out.2.2;omega
    have n_wv_nv:wv≠nv:=by have:=R13x5.out.2.2;omega
    have n_cv_nv:cv≠nv:=by have:=R13x6.out.2.2;omega
    have n_av_nv:av≠nv:=by have:=R13x7.out.2.2;omega
    have l_nv:w.heap.size≤nv:=Nat.le_trans B13.out.size hg0
    have V14x0:=Zq (RowAt.of (hblk 0 nv _ _ rfl rfl))
    clear hblk
    clear R13x0a R13x0b R13x0c R13x1a R13x1b R13x1c R13x2a R13x2b R13x2c R13x3a R13x3b R13x3c R13x4a R13x4b R13x4c R13x5a R13x5b R13x5c R13x6a R13x6b R13x6c R13x7a R13x7b R13x7c
    have R14x0:=Zq (R13x0.out.grow hb14)
    have R14x1:=Zq (R13x1.out.grow hb14)
    have R14x2:=Zq (R13x2.out.grow hb14)
    have R14x3:=Zq (R13x3.out.grow hb14)
    have R14x4:=Zq (R13x4.out.grow hb14)
    have R14x5:=Zq (R13x5.out.grow hb14)
    have R14x6:=Zq (R13x6.out.grow hb14)
    have R14x7:=Zq (R13x7.out.grow hb14)
    have B14:=Zq (B13.out.trans (hb14.mono B13.out.size))
    clear hb14 B13 R13x0 R13x1 R13x2 R13x3 R13x4 R13x5 R13x6 R13x7
    obtain⟨R14x0a,R14x0b,R14x0c⟩:=R14x0.out
    obtain⟨R14x1a,R14x1b,R14x1c⟩:=R14x1.out
    obtain⟨R14x2a,R14x2b,R14x2c⟩:=R14x2.out
    obtain⟨R14x3a,R14x3b,R14x3c⟩:=R14x3.out
    obtain⟨R14x4a,R14x4b,R14x4c⟩:=R14x4.out
    obtain⟨R14x5a,R14x5b,R14x5c⟩:=R14x5.out
    obtain⟨R14x6a,R14x6b,R14x6c⟩:=R14x6.out
    obtain⟨R14x7a,R14x7b,R14x7c⟩:=R14x7.out
    obtain⟨V14x0a,V14x0b,V14x0c⟩:=V14x0.out
    go_wp2_with fail
    have R15x0:=Zq (R14x0.out.other n_z_nv (bysA Hn))
    have R15x1:=Zq (R14x1.out.other n_y_nv (bysA Hn))
    have R15x2:=Zq (R14x2.out.other n_r_nv (bysA Hn))
    have R15x3:=Zq (R14x3.out.other n_sv_nv (bysA Hn))
    have R15x4:=Zq (R14x4.out.other n_pv_nv (bysA Hn))
    have R15x5:=Zq (R14x5.out.other n_wv_nv (bysA Hn))
    have R15x6:=Zq (R14x6.out.other n_cv_nv (bysA Hn))
    have R15x7:=Zq (R14x7.out.other n_av_nv (bysA Hn))
    have R15x8:=Zq (V14x0.out.set (bysA Hn))
    have B15:=Zq (Zad B14.out l_nv (bysA Hn))
    clear B14 R14x0 R14x1 R14x2 R14x3 R14x4 R14x5 R14x6 R14x7 V14x0 R14x0a R14x0b R14x0c R14x1a R14x1b R14x1c R14x2a R14x2b R14x2c R14x3a R14x3b R14x3c R14x4a R14x4b R14x4c R14x5a R14x5b R14x5c R14x6a R14x6b R14x6c R14x7a R14x7b R14x7c V14x0a V14x0b V14x0c
    generalize W14.setRow nv (bysA Hn)=W15 at *
    obtain⟨R15x0a,R15x0b,R15x0c⟩:=R15x0.out
    obtain⟨R15x1a,R15x1b,R15x1c⟩:=R15x1.out
    obtain⟨R15x2a,R15x2b,R15x2c⟩:=R15x2.out
    obtain⟨R15x3a,R15x3b,R15x3c⟩:=R15x3.out
    obtain⟨R15x4a,R15x4b,R15x4c⟩:=R15x4.out
    obtain⟨R15x5a,R15x5b,R15x5c⟩:=R15x5.out
    obtain⟨R15x6a,R15x6b,R15x6c⟩:=R15x6.out
    obtain⟨R15x7a,R15x7b,R15x7c⟩:=R15x7.out
    obtain⟨R15x8a,R15x8b,R15x8c⟩:=R15x8.out
    refine Zal W15 [0,1,2,3,4,5] [false,false,false,false,false,false] [] [] 6 (by kernel_rfl) rfl (by kernel_rfl) (by intro c a d v w h;cases d<;>exact h) (by first | exact(Below.refl _ _).drew | exact Below.refl _ _) ?_
    simp only[pick,List.getElem?_cons_succ,List.getElem?_cons_zero,List.drop_succ_cons,List.drop_zero]
    refine Zac (Zaa rfl) (by intro K o d hK;go_simp;exact hK _ (Below.refl _ _)) ?_
    refine Zac (Zaa rfl) (by intro K o d hK;go_simp;exact hK _ (Below.refl _ _)) ?_
    refine Zac (Zaa rfl) (by intro K o d hK;go_simp;exact hK _ (Below.refl _ _)) ?_
    refine Zac (Zaa rfl) (by intro K o d hK;go_simp;exact hK _ (Below.refl _ _)) ?_
    refine Zai (v:=.agg (bysA tg)) (Zaa rfl) (by intro K o d hK;go_simp;refine(KTg.out _ (HT.out.grow (ZaE _ _ _ B15.out B15.out.size))).mono ?_;rintro e w' ⟨rfl,hbw⟩;exact⟨_,rfl,hK _ hbw⟩) ?_
    refine Zac (Zaa rfl) (by intro K o d hK;go_simp;exact hK _ (Below.refl _ _)) ?_
    refine Zan ?_
    intro W16 hb16 hblk
    clear hblk
    clear R15x0a R15x0b R15x0c R15x1a R15x1b R15x1c R15x2a R15x2b R15x2c R15x3a R15x3b R15x3c R15x4a R15x4b R15x4c R15x5a R15x5b R15x5c R15x6a R15x6b R15x6c R15x7a R15x7b R15x7c R15x8a R15x8b R15x8c
    have R16x0:=Zq (R15x0.out.grow hb16)
    have R16x1:=Zq (R15x1.out.grow hb16)
    have R16x2:=Zq (R15x2.out.grow hb16)
    have R16x3:=Zq (R15x3.out.grow hb16)
    have R16x4:=Zq (R15x4.out.grow hb16)
    have R16x5:=Zq (R15x5.out.grow hb16)
    have R16x6:=Zq (R15x6.out.grow hb16)
    have R16x7:=Zq (R15x7.out.grow hb16)
    have R16x8:=Zq (R15x8.out.grow hb16)
    have B16:=Zq (B15.out.trans (hb16.mono B15.out.size))
    clear hb16 B15 R15x0 R15x1 R15x2 R15x3 R15x4 R15x5 R15x6 R15x7 R15x8
    obtain⟨R16x0a,R16x0b,R16x0c⟩:=R16x0.out
    obtain⟨R16x1a,R16x1b,R16x1c⟩:=R16x1.out
    obtain⟨R16x2a,R16x2b,R16x2c⟩:=R16x2.out
    obtain⟨R16x3a,R16x3b,R16x3c⟩:=R16x3.out
    obtain⟨R16x4a,R16x4b,R16x4c⟩:=R16x4.out
    obtain⟨R16x5a,R16x5b,R16x5c⟩:=R16x5.out
    obtain⟨R16x6a,R16x6b,R16x6c⟩:=R16x6.out
    obtain⟨R16x7a,R16x7b,R16x7c⟩:=R16x7.out
    obtain⟨R16x8a,R16x8b,R16x8c⟩:=R16x8.out
    go_wp2_with fail
    refine bodyPost_ret (v:=.tuple #[.agg (Zbn st),.int .i64 0]) (Zbo Tryz.results18 hsts _ _ _ rfl (by go_simp) (by go_simp) rfl) rfl ⟨rfl,?_⟩
    exact Zad B16.out l_r _
 ·rw[if_pos h2] at HE0
  obtain rfl:er=6:=HE0.out
  rw[decide_eq_false h2] at KE
  obtain rfl:ans=.zero:=by rw[HAn.out,if_neg (show ¬(6:Int)=0 by decide)]
  clear h2 HE0 HAn
  refine(KE.out _ _ _ (Bs0.some (ZaH R5x4.out)) (Bs0.some hBy)).mono ?_
  rintro e W6 ⟨rfl,hb6⟩
  have R6x0:=Zq (R5x0.out.grow hb6)
  have R6x1:=Zq (R5x1.out.grow hb6)
  have R6x2:=Zq (R5x2.out.grow hb6)
  have R6x3:=Zq (R5x3.out.grow hb6)
  have R6x4:=Zq (R5x4.out.grow hb6)
  have B6:=Zq (B5.out.trans (hb6.mono B5.out.size))
  clear hb6 B5 R5x0 R5x1 R5x2 R5x3 R5x4
  clear hBy
  obtain⟨R6x0a,R6x0b,R6x0c⟩:=R6x0.out
  obtain⟨R6x1a,R6x1b,R6x1c⟩:=R6x1.out
  obtain⟨R6x2a,R6x2b,R6x2c⟩:=R6x2.out
  obtain⟨R6x3a,R6x3b,R6x3c⟩:=R6x3.out
  obtain⟨R6x4a,R6x4b,R6x4c⟩:=R6x4.out
  go_wp2_with fail
  refine bodyPost_ret (v:=.tuple #[.agg (Zbn .zero),.int .i64 6]) (Zbo Tryz.results18 hzz _ _ _ rfl (by go_simp) (by go_simp) rfl) rfl ⟨rfl,?_⟩
  first | exact Zad B6.out l_r _ | exact Zab (Zad B6.out l_r _) _ | exact Zad (Zad B6.out l_av _) l_r _
end Go.Proofs.YtddmjddlbhdcpaaGreatDoor
