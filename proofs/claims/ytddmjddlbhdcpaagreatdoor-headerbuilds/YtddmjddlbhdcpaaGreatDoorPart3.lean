/-
  Part 3 of the texts behind the theorem.
-/
import Derived.Test.YtddmjddlbhdcpaaGreatDoorPart2
import Derived.Test.YtddmjddlbhdcpaaGreatDoorPart1
import Derived.ProofKit
import Derived.OpenShut
import Derived.ShutString
import Derived.ChangeOld
import Derived.Below
import Derived.LoopTactic
import Derived.OwnWalk
set_option maxHeartbeats 8000000
set_option maxRecDepth 100000
namespace Go.Proofs.YtddmjddlbhdcpaaGreatDoor.F
open Go.RowKit Go.Shelf Go.Hold
theorem Zfj (a c:Nat) (ha:a<115792089237316195423570985008687907853269984665640564039457584007913129639936) (hc:Cv.nmul a a=c) (w:World) :
  Calls Tryz.prog 121 #[kv a] w fun e w'=>e=.returned (kv c)∧Below w.heap.size w w':=by
 go_enter Tryz.func121,Tryz.ntmps121
 go_wp2_with fail
 refine(Zhv a a c ha ha hc _).mono ?_
 rintro e w' ⟨rfl,hbw⟩
 obtain⟨oc1,nc1,rfl⟩:=Zaf hbw
 clear hbw
 go_wp2_with fail
 refine bodyPost_ret (v:=kv c) (Zav Tryz.results121 _ _ _ rfl (by go_simp) (by go_simp)) rfl ⟨rfl,?_⟩
 repeat (first | apply Zag | apply Zab | exact Below.refl _ _)
theorem Zst (x z:Nat) (hx:x<115792089237316195423570985008687907853269984665640564039457584007913129639936) (hz:z<115792089237316195423570985008687907853269984665640564039457584007913129639936) (w:World) :
  Calls Tryz.prog 96 #[fv x z] w fun e w'=>e=.returned (fv (Cv.ntw (x,z)).1 (Cv.ntw (x,z)).2)∧Below w.heap.size w w':=by
 show Calls Tryz.prog 96 #[fv x z] w fun e w'=>e=.returned (fv (Cv.nmul (Cv.nmul (Cv.nadd x z) (Cv.nadd x z)) (Cv.nmul (Cv.nsub x z) (Cv.nsub x z)))
  (Cv.nmul (Cv.nsub (Cv.nmul (Cv.nadd x z) (Cv.nadd x z)) (Cv.nmul (Cv.nsub x z) (Cv.nsub x z))) (Cv.nadd (Cv.nmul (Cv.nadd x z) (Cv.nadd x z)) (Cv.nmul 121665 (Cv.nsub (Cv.nmul (Cv.nadd x z) (Cv.nadd x z)) (Cv.nmul (Cv.nsub x z) (Cv.nsub x z)))))))∧Below w.heap.size w w'
 obtain⟨s,es⟩:∃y,y=Cv.nadd x z:=⟨_,rfl⟩
 have ls:s<115792089237316195423570985008687907853269984665640564039457584007913129639936:=by rw[es];exact(Nat.lt_trans (Cv.nadd_lt _ _) P_lt)
 have Hs:=Zq es.symm
 obtain⟨df,edf⟩:∃y,y=Cv.nsub x z:=⟨_,rfl⟩
 have ldf:df<115792089237316195423570985008687907853269984665640564039457584007913129639936:=by rw[edf];exact(Nat.lt_trans (Cv.nsub_lt _ _) P_lt)
 have Hdf:=Zq edf.symm
 obtain⟨aa,eaa⟩:∃y,y=Cv.nmul s s:=⟨_,rfl⟩
 have laa:aa<115792089237316195423570985008687907853269984665640564039457584007913129639936:=by rw[eaa];exact(Nat.lt_trans (Cv.nmul_lt _ _) P_lt)
 have Haa:=Zq eaa.symm
 obtain⟨bb,ebb⟩:∃y,y=Cv.nmul df df:=⟨_,rfl⟩
 have lbb:bb<115792089237316195423570985008687907853269984665640564039457584007913129639936:=by rw[ebb];exact(Nat.lt_trans (Cv.nmul_lt _ _) P_lt)
 have Hbb:=Zq ebb.symm
 obtain⟨ee,eee⟩:∃y,y=Cv.nsub aa bb:=⟨_,rfl⟩
 have lee:ee<115792089237316195423570985008687907853269984665640564039457584007913129639936:=by rw[eee];exact(Nat.lt_trans (Cv.nsub_lt _ _) P_lt)
 have Hee:=Zq eee.symm
 obtain⟨k,ek⟩:∃y,y=Cv.nmul 121665 ee:=⟨_,rfl⟩
 have lk:k<115792089237316195423570985008687907853269984665640564039457584007913129639936:=by rw[ek];exact(Nat.lt_trans (Cv.nmul_lt _ _) P_lt)
 have Hk:=Zq ek.symm
 obtain⟨t,et⟩:∃y,y=Cv.nadd aa k:=⟨_,rfl⟩
 have lt:t<115792089237316195423570985008687907853269984665640564039457584007913129639936:=by rw[et];exact(Nat.lt_trans (Cv.nadd_lt _ _) P_lt)
 have Ht:=Zq et.symm
 obtain⟨X,eX⟩:∃y,y=Cv.nmul aa bb:=⟨_,rfl⟩
 have lX:X<115792089237316195423570985008687907853269984665640564039457584007913129639936:=by rw[eX];exact(Nat.lt_trans (Cv.nmul_lt _ _) P_lt)
 have HX:=Zq eX.symm
 obtain⟨Z,eZ⟩:∃y,y=Cv.nmul ee t:=⟨_,rfl⟩
 have lZ:Z<115792089237316195423570985008687907853269984665640564039457584007913129639936:=by rw[eZ];exact(Nat.lt_trans (Cv.nmul_lt _ _) P_lt)
 have HZ:=Zq eZ.symm
 rw[←es,←edf,←eaa,←ebb,←eee,←ek,←et,←eX,←eZ]
 clear es edf eaa ebb eee ek et eX eZ
 go_enter Tryz.func96,Tryz.ntmps96
 go_wp2_with fail
 generalize hW:World.alloc _ _=W1
 have R1x0:=Zq (show RowAt W1 (w.heap.size) (ZaD x z) by rw[←hW];clear hW;exact⟨by go_simp,by go_simp,by go_simp⟩)
 have R1x1:=Zq (show RowAt W1 (w.heap.size+1) (#[.int .u8 0,.int .u8 0,.int .u8 0,.int .u8 0,.int .u8 0,.int .u8 0,.int .u8 0,.int .u8 0,.int .u8 0,.int .u8 0,.int .u8 0,.int .u8 0,.int .u8 0,.int .u8 0,.int .u8 0,.int .u8 0,.int .u8 0,.int .u8 0,.int .u8 0,.int .u8 0,.int .u8 0,.int .u8 0,.int .u8 0,.int .u8 0,.int .u8 0,.int .u8 0,.int .u8 0,.int .u8 0,.int .u8 0,.int .u8 0,.int .u8 0,.int .u8 0,.int .u8 0,.int .u8 0,.int .u8 0,.int .u8 0,.int .u8 0,.int .u8 0,.int .u8 0,.int .u8 0,.int .u8 0,.int .u8 0,.int .u8 0,.int .u8 0,.int .u8 0,.int .u8 0,.int .u8 0,.int .u8 0,.int .u8 0,.int .u8 0,.int .u8 0,.int .u8 0,.int .u8 0,.int .u8 0,.int .u8 0,.int .u8 0,.int .u8 0,.int .u8 0,.int .u8 0,.int .u8 0,.int .u8 0,.int .u8 0,.int .u8 0,.int .u8 0]) by rw[←hW];clear hW;exact⟨by go_simp,by go_simp,by go_simp⟩)
 have HB1:=Zq (show Below w.heap.size w W1 by rw[←hW];repeat (first | apply Zag | apply Zab | exact Below.refl _ _))
 clear hW
 obtain⟨R1x0a,R1x0b,R1x0c⟩:=R1x0.out
 obtain⟨R1x1a,R1x1b,R1x1c⟩:=R1x1.out
 refine Zbh W1 12 [(23,#[.int .u8 0,.int .u8 0,.int .u8 0,.int .u8 0,.int .u8 0,.int .u8 0,.int .u8 0,.int .u8 0,.int .u8 0,.int .u8 0,.int .u8 0,.int .u8 0,.int .u8 0,.int .u8 0,.int .u8 0,.int .u8 0,.int .u8 0,.int .u8 0,.int .u8 0,.int .u8 0,.int .u8 0,.int .u8 0,.int .u8 0,.int .u8 0,.int .u8 0,.int .u8 0,.int .u8 0,.int .u8 0,.int .u8 0,.int .u8 0,.int .u8 0,.int .u8 0]),(23,#[.int .u8 0,.int .u8 0,.int .u8 0,.int .u8 0,.int .u8 0,.int .u8 0,.int .u8 0,.int .u8 0,.int .u8 0,.int .u8 0,.int .u8 0,.int .u8 0,.int .u8 0,.int .u8 0,.int .u8 0,.int .u8 0,.int .u8 0,.int .u8 0,.int .u8 0,.int .u8 0,.int .u8 0,.int .u8 0,.int .u8 0,.int .u8 0,.int .u8 0,.int .u8 0,.int .u8 0,.int .u8 0,.int .u8 0,.int .u8 0,.int .u8 0,.int .u8 0])] (by kernel_rfl) (by kernel_rfl) ((Below.refl _ _).drew) ?_
 simp only[List.take_succ_cons,List.take_zero,List.drop_succ_cons,List.drop_zero,List.length_cons,List.length_nil,Nat.reduceAdd]
 iterate 4 (refine Za6 (Zaa rfl) (by intro K o d hK;go_simp;exact hK _ (Below.refl _ _)) ?_)
 refine Za4 (v:=kv s) (Zaa rfl) (by intro K o d hK;go_simp;refine(ZmR x z s hx hz Hs.out _).mono ?_;rintro e w' ⟨rfl,hbw⟩;exact⟨_,rfl,hK _ hbw⟩) ?_
 refine Za4 (v:=kv aa) (Zaa rfl) (by intro K o d hK;go_simp;refine(Zfj s aa ls Haa.out _).mono ?_;rintro e w' ⟨rfl,hbw⟩;exact⟨_,rfl,hK _ hbw⟩) ?_
 iterate 4 (refine Za6 (Zaa rfl) (by intro K o d hK;go_simp;exact hK _ (Below.refl _ _)) ?_)
 refine Za4 (v:=kv df) (Zaa rfl) (by intro K o d hK;go_simp;refine(ZmU x z df hx hz Hdf.out _).mono ?_;rintro e w' ⟨rfl,hbw⟩;exact⟨_,rfl,hK _ hbw⟩) ?_
 refine Za4 (v:=kv bb) (Zaa rfl) (by intro K o d hK;go_simp;refine(Zfj df bb ldf Hbb.out _).mono ?_;rintro e w' ⟨rfl,hbw⟩;exact⟨_,rfl,hK _ hbw⟩) ?_
 refine Zbx ?_
 refine⟨Zba _ rfl rfl,fun g2x0 hg2x0 hn2x0=>?_⟩
 refine⟨Zba _ rfl rfl,fun g2x1 hg2x1 hn2x1=>?_⟩
 simp at hn2x1
 intro w2 hb2 hblk2
 have A2x0:=R1x0.out.grow hb2
 have c2x0:=R1x0.out.2.2
 have A2x1:=R1x1.out.grow hb2
 have c2x1:=R1x1.out.2.2
 have N2x0:=RowAt.of (hblk2 0 g2x0 _ _ rfl rfl)
 have N2x1:=RowAt.of (hblk2 1 g2x1 _ _ rfl rfl)
 have B2x0:=HB1.out.trans (hb2.mono HB1.out.size)
 have s2:=HB1.out.size
 have O2x0:=N2x0
 have P2x0x0:=A2x0.other (show w.heap.size≠g2x0 by omega) (keyA aa)
 have P2x0x1:=A2x1.other (show w.heap.size+1≠g2x0 by omega) (keyA aa)
 have Q2x0x0:=N2x0.set (keyA aa)
 have Q2x0x1:=N2x1.other (show g2x1≠g2x0 by omega) (keyA aa)
 have B2x1:=Zad B2x0 (show w.heap.size≤g2x0 by omega) (keyA aa)
 have O2x1:=Q2x0x1
 have P2x1x0:=P2x0x0.other (show w.heap.size≠g2x1 by omega) (keyA bb)
 have P2x1x1:=P2x0x1.other (show w.heap.size+1≠g2x1 by omega) (keyA bb)
 have Q2x1x0:=Q2x0x0.other (show g2x0≠g2x1 by omega) (keyA bb)
 have Q2x1x1:=Q2x0x1.set (keyA bb)
 have B2x2:=Zad B2x1 (show w.heap.size≤g2x1 by omega) (keyA bb)
 have Z2x0:=Zq P2x1x0
 have Z2x1:=Zq P2x1x1
 have Z2x2:=Zq Q2x1x0
 have Z2x3:=Zq Q2x1x1
 have HB2:=Zq B2x2
 have ne2x0x0:¬w.heap.size=g2x0:=by omega
 have nf2x0x0:¬g2x0=w.heap.size:=by omega
 have ne2x0x1:¬w.heap.size=g2x1:=by omega
 have nf2x0x1:¬g2x1=w.heap.size:=by omega
 have ne2x1x0:¬w.heap.size+1=g2x0:=by omega
 have nf2x1x0:¬g2x0=w.heap.size+1:=by omega
 have ne2x1x1:¬w.heap.size+1=g2x1:=by omega
 have nf2x1x1:¬g2x1=w.heap.size+1:=by omega
 have ne2x2x1:¬g2x0=g2x1:=by omega
 have ne2x3x0:¬g2x1=g2x0:=by omega
 clear hb2 hblk2 HB1 s2 R1x0a R1x0b R1x0c R1x1a R1x1b R1x1c R1x0 R1x1 c2x0 c2x1 B2x0 B2x1 B2x2 O2x0 O2x1 P2x0x0 P2x0x1 Q2x0x0 Q2x0x1 P2x1x0 P2x1x1 Q2x1x0 Q2x1x1 hg2x0 hg2x1 hn2x0 hn2x1
 obtain⟨A2x0a,A2x0b,A2x0c⟩:=A2x0
 obtain⟨A2x1a,A2x1b,A2x1c⟩:=A2x1
 obtain⟨N2x0a,N2x0b,N2x0c⟩:=N2x0
 obtain⟨N2x1a,N2x1b,N2x1c⟩:=N2x1
 go_wp2_with fail
 clear A2x0a A2x0b A2x0c A2x1a A2x1b A2x1c N2x0a N2x0b N2x0c N2x1a N2x1b N2x1c ne2x0x0 nf2x0x0 ne2x0x1 nf2x0x1 ne2x1x0 nf2x1x0 ne2x1x1 nf2x1x1 ne2x2x1 ne2x3x0
 generalize World.setRow _ _ _=W3 at *
 obtain⟨Z2x0a,Z2x0b,Z2x0c⟩:=Z2x0.out
 obtain⟨Z2x1a,Z2x1b,Z2x1c⟩:=Z2x1.out
 obtain⟨Z2x2a,Z2x2b,Z2x2c⟩:=Z2x2.out
 obtain⟨Z2x3a,Z2x3b,Z2x3c⟩:=Z2x3.out
 refine(ZmU aa bb ee laa lbb Hee.out _).mono ?_
 rintro e w' ⟨rfl,hbw⟩
 obtain⟨oc2,nc2,rfl⟩:=Zaf hbw
 clear hbw
 go_wp2_with fail
 refine(Zhv 121665 ee k (by decide) lee Hk.out _).mono ?_
 rintro e w' ⟨rfl,hbw⟩
 obtain⟨oc3,nc3,rfl⟩:=Zaf hbw
 clear hbw
 go_wp2_with fail
 generalize hW:World.alloc _ _=W4
 have R4x0:=Zq (show RowAt W4 (w.heap.size) (ZaD x z) by rw[←hW];clear hW;exact⟨by go_simp,by go_simp,by go_simp⟩)
 have R4x1:=Zq (show RowAt W4 (w.heap.size+1) (#[.int .u8 0,.int .u8 0,.int .u8 0,.int .u8 0,.int .u8 0,.int .u8 0,.int .u8 0,.int .u8 0,.int .u8 0,.int .u8 0,.int .u8 0,.int .u8 0,.int .u8 0,.int .u8 0,.int .u8 0,.int .u8 0,.int .u8 0,.int .u8 0,.int .u8 0,.int .u8 0,.int .u8 0,.int .u8 0,.int .u8 0,.int .u8 0,.int .u8 0,.int .u8 0,.int .u8 0,.int .u8 0,.int .u8 0,.int .u8 0,.int .u8 0,.int .u8 0,.int .u8 0,.int .u8 0,.int .u8 0,.int .u8 0,.int .u8 0,.int .u8 0,.int .u8 0,.int .u8 0,.int .u8 0,.int .u8 0,.int .u8 0,.int .u8 0,.int .u8 0,.int .u8 0,.int .u8 0,.int .u8 0,.int .u8 0,.int .u8 0,.int .u8 0,.int .u8 0,.int .u8 0,.int .u8 0,.int .u8 0,.int .u8 0,.int .u8 0,.int .u8 0,.int .u8 0,.int .u8 0,.int .u8 0,.int .u8 0,.int .u8 0,.int .u8 0]) by rw[←hW];clear hW;exact⟨by go_simp,by go_simp,by go_simp⟩)
 have R4x2:=Zq (show RowAt W4 (g2x0) (keyA aa) by rw[←hW];clear hW;exact⟨by go_simp,by go_simp,by go_simp⟩)
 have R4x3:=Zq (show RowAt W4 (g2x1) (keyA bb) by rw[←hW];clear hW;exact⟨by go_simp,by go_simp,by go_simp⟩)
 have R4x4:=Zq (show RowAt W4 (W3.heap.size+oc2.size) (keyA ee) by rw[←hW];clear hW;exact⟨by go_simp,by go_simp,by go_simp⟩)
 have R4x5:=Zq (show RowAt W4 (W3.heap.size+oc2.size+1+oc3.size) (keyA k) by rw[←hW];clear hW;exact⟨by go_simp,by go_simp,by go_simp⟩)
 have HB4:=Zq (show Below w.heap.size w W4 by rw[←hW];repeat (first | apply Zag | apply Zab | exact HB2.out))
 clear hW
 clear Z2x0a Z2x0b Z2x0c Z2x1a Z2x1b Z2x1c Z2x2a Z2x2b Z2x2c Z2x3a Z2x3b Z2x3c Z2x0 Z2x1 Z2x2 Z2x3 HB2
 obtain⟨R4x0a,R4x0b,R4x0c⟩:=R4x0.out
 obtain⟨R4x1a,R4x1b,R4x1c⟩:=R4x1.out
 obtain⟨R4x2a,R4x2b,R4x2c⟩:=R4x2.out
 obtain⟨R4x3a,R4x3b,R4x3c⟩:=R4x3.out
 obtain⟨R4x4a,R4x4b,R4x4c⟩:=R4x4.out
 obtain⟨R4x5a,R4x5b,R4x5c⟩:=R4x5.out
 refine ZaY (fun w'=>∃ o d,w'=W4.plus o d) 9 (by kernel_rfl) (by kernel_rfl) ⟨#[],_,rfl⟩ ?_
 simp only[List.take_succ_cons,List.take_zero,List.drop_succ_cons,List.drop_zero]
 iterate 2 (refine Zat ⟨_,#[],0,rfl⟩ (Zaa rfl) (by rintro K _ ⟨o,d,rfl⟩ hK;go_simp;exact hK _ ⟨o,d,rfl⟩) ?_)
 refine Zap (v:=kv X) (Zaa rfl) (by rintro K _ ⟨o,d,rfl⟩ hK;go_simp;refine(Zhv aa bb X laa lbb HX.out _).mono ?_;rintro e w' ⟨rfl,hbw⟩;obtain⟨o',n',rfl⟩:=Zaf hbw;exact⟨_,rfl,hK _ ⟨_,_,World.plus_plus _ _ _ _ _⟩⟩) ?_
 iterate 3 (refine Zat ⟨_,#[],0,rfl⟩ (Zaa rfl) (by rintro K _ ⟨o,d,rfl⟩ hK;go_simp;exact hK _ ⟨o,d,rfl⟩) ?_)
 refine Zap (v:=kv t) (Zaa rfl) (by rintro K _ ⟨o,d,rfl⟩ hK;go_simp;refine(ZmR aa k t laa lk Ht.out _).mono ?_;rintro e w' ⟨rfl,hbw⟩;obtain⟨o',n',rfl⟩:=Zaf hbw;exact⟨_,rfl,hK _ ⟨_,_,World.plus_plus _ _ _ _ _⟩⟩) ?_
 refine Zap (v:=kv Z) (Zaa rfl) (by rintro K _ ⟨o,d,rfl⟩ hK;go_simp;refine(Zhv ee t Z lee lt HZ.out _).mono ?_;rintro e w' ⟨rfl,hbw⟩;obtain⟨o',n',rfl⟩:=Zaf hbw;exact⟨_,rfl,hK _ ⟨_,_,World.plus_plus _ _ _ _ _⟩⟩) ?_
 refine Zat ⟨_,#[],0,rfl⟩ (Zaa rfl) (by rintro K _ ⟨o,d,rfl⟩ hK;go_simp;exact hK _ ⟨o,d,rfl⟩) ?_
 refine Zaw ?_
 rintro _ ⟨oh5,nh5,rfl⟩
 go_wp2_with fail
 refine bodyPost_ret (v:=fv X Z) (ZeN Tryz.results96 _ _ _ rfl (by go_simp) (by go_simp)) rfl ⟨rfl,?_⟩
 exact Zag (Zad HB4.out (by omega) _) _ _
theorem Zxd (x z x3 z3 x1:Nat) (hx:x<115792089237316195423570985008687907853269984665640564039457584007913129639936) (hz:z<115792089237316195423570985008687907853269984665640564039457584007913129639936) (hx3:x3<115792089237316195423570985008687907853269984665640564039457584007913129639936) (hz3:z3<115792089237316195423570985008687907853269984665640564039457584007913129639936) (hx1:x1<115792089237316195423570985008687907853269984665640564039457584007913129639936) (w:World) :
  Calls Tryz.prog 97 #[fv x z,fv x3 z3,kv x1] w fun e w'=>e=.returned (fv (Cv.nsm x1 (x,z) (x3,z3)).1 (Cv.nsm x1 (x,z) (x3,z3)).2)∧Below w.heap.size w w':=by
 show Calls Tryz.prog 97 #[fv x z,fv x3 z3,kv x1] w fun e w'=>e=.returned (fv (Cv.nmul (Cv.nadd (Cv.nmul (Cv.nsub x3 z3) (Cv.nadd x z)) (Cv.nmul (Cv.nadd x3 z3) (Cv.nsub x z))) (Cv.nadd (Cv.nmul (Cv.nsub x3 z3) (Cv.nadd x z)) (Cv.nmul (Cv.nadd x3 z3) (Cv.nsub x z))))
  (Cv.nmul x1 (Cv.nmul (Cv.nsub (Cv.nmul (Cv.nsub x3 z3) (Cv.nadd x z)) (Cv.nmul (Cv.nadd x3 z3) (Cv.nsub x z))) (Cv.nsub (Cv.nmul (Cv.nsub x3 z3) (Cv.nadd x z)) (Cv.nmul (Cv.nadd x3 z3) (Cv.nsub x z))))))∧Below w.heap.size w w'
 obtain⟨bm,ebm⟩:∃y,y=Cv.nsub x3 z3:=⟨_,rfl⟩
 have lbm:bm<115792089237316195423570985008687907853269984665640564039457584007913129639936:=by rw[ebm];exact(Nat.lt_trans (Cv.nsub_lt _ _) P_lt)
 have Hbm:=Zq ebm.symm
 obtain⟨ap,eap⟩:∃y,y=Cv.nadd x z:=⟨_,rfl⟩
 have lap:ap<115792089237316195423570985008687907853269984665640564039457584007913129639936:=by rw[eap];exact(Nat.lt_trans (Cv.nadd_lt _ _) P_lt)
 have Hap:=Zq eap.symm
 obtain⟨dd,edd⟩:∃y,y=Cv.nmul bm ap:=⟨_,rfl⟩
 have ldd:dd<115792089237316195423570985008687907853269984665640564039457584007913129639936:=by rw[edd];exact(Nat.lt_trans (Cv.nmul_lt _ _) P_lt)
 have Hdd:=Zq edd.symm
 obtain⟨bp,ebp⟩:∃y,y=Cv.nadd x3 z3:=⟨_,rfl⟩
 have lbp:bp<115792089237316195423570985008687907853269984665640564039457584007913129639936:=by rw[ebp];exact(Nat.lt_trans (Cv.nadd_lt _ _) P_lt)
 have Hbp:=Zq ebp.symm
 obtain⟨am,eam⟩:∃y,y=Cv.nsub x z:=⟨_,rfl⟩
 have lam:am<115792089237316195423570985008687907853269984665640564039457584007913129639936:=by rw[eam];exact(Nat.lt_trans (Cv.nsub_lt _ _) P_lt)
 have Ham:=Zq eam.symm
 obtain⟨cc,ecc⟩:∃y,y=Cv.nmul bp am:=⟨_,rfl⟩
 have lcc:cc<115792089237316195423570985008687907853269984665640564039457584007913129639936:=by rw[ecc];exact(Nat.lt_trans (Cv.nmul_lt _ _) P_lt)
 have Hcc:=Zq ecc.symm
 obtain⟨s,es⟩:∃y,y=Cv.nadd dd cc:=⟨_,rfl⟩
 have ls:s<115792089237316195423570985008687907853269984665640564039457584007913129639936:=by rw[es];exact(Nat.lt_trans (Cv.nadd_lt _ _) P_lt)
 have Hs:=Zq es.symm
 obtain⟨t,et⟩:∃y,y=Cv.nsub dd cc:=⟨_,rfl⟩
 have lt:t<115792089237316195423570985008687907853269984665640564039457584007913129639936:=by rw[et];exact(Nat.lt_trans (Cv.nsub_lt _ _) P_lt)
 have Ht:=Zq et.symm
 obtain⟨X,eX⟩:∃y,y=Cv.nmul s s:=⟨_,rfl⟩
 have lX:X<115792089237316195423570985008687907853269984665640564039457584007913129639936:=by rw[eX];exact(Nat.lt_trans (Cv.nmul_lt _ _) P_lt)
 have HX:=Zq eX.symm
 obtain⟨tt,ett⟩:∃y,y=Cv.nmul t t:=⟨_,rfl⟩
 have ltt:tt<115792089237316195423570985008687907853269984665640564039457584007913129639936:=by rw[ett];exact(Nat.lt_trans (Cv.nmul_lt _ _) P_lt)
 have Htt:=Zq ett.symm
 obtain⟨Z,eZ⟩:∃y,y=Cv.nmul x1 tt:=⟨_,rfl⟩
 have lZ:Z<115792089237316195423570985008687907853269984665640564039457584007913129639936:=by rw[eZ];exact(Nat.lt_trans (Cv.nmul_lt _ _) P_lt)
 have HZ:=Zq eZ.symm
 rw[←ebm,←eap,←edd,←ebp,←eam,←ecc,←es,←et,←eX,←ett,←eZ]
 clear ebm eap edd ebp eam ecc es et eX ett eZ
 go_enter Tryz.func97,Tryz.ntmps97
 go_wp2_with fail
 generalize hW:World.alloc _ _=W1
 have R1x0:=Zq (show RowAt W1 (w.heap.size) (ZaD x z) by rw[←hW];clear hW;exact⟨by go_simp,by go_simp,by go_simp⟩)
 have R1x1:=Zq (show RowAt W1 (w.heap.size+1) (ZaD x3 z3) by rw[←hW];clear hW;exact⟨by go_simp,by go_simp,by go_simp⟩)
 have R1x2:=Zq (show RowAt W1 (w.heap.size+1+1) (keyA x1) by rw[←hW];clear hW;exact⟨by go_simp,by go_simp,by go_simp⟩)
 have R1x3:=Zq (show RowAt W1 (w.heap.size+1+1+1) (#[.int .u8 0,.int .u8 0,.int .u8 0,.int .u8 0,.int .u8 0,.int .u8 0,.int .u8 0,.int .u8 0,.int .u8 0,.int .u8 0,.int .u8 0,.int .u8 0,.int .u8 0,.int .u8 0,.int .u8 0,.int .u8 0,.int .u8 0,.int .u8 0,.int .u8 0,.int .u8 0,.int .u8 0,.int .u8 0,.int .u8 0,.int .u8 0,.int .u8 0,.int .u8 0,.int .u8 0,.int .u8 0,.int .u8 0,.int .u8 0,.int .u8 0,.int .u8 0,.int .u8 0,.int .u8 0,.int .u8 0,.int .u8 0,.int .u8 0,.int .u8 0,.int .u8 0,.int .u8 0,.int .u8 0,.int .u8 0,.int .u8 0,.int .u8 0,.int .u8 0,.int .u8 0,.int .u8 0,.int .u8 0,.int .u8 0,.int .u8 0,.int .u8 0,.int .u8 0,.int .u8 0,.int .u8 0,.int .u8 0,.int .u8 0,.int .u8 0,.int .u8 0,.int .u8 0,.int .u8 0,.int .u8 0,.int .u8 0,.int .u8 0,.int .u8 0]) by rw[←hW];clear hW;exact⟨by go_simp,by go_simp,by go_simp⟩)
 have HB1:=Zq (show Below w.heap.size w W1 by rw[←hW];repeat (first | apply Zag | apply Zab | exact Below.refl _ _))
 clear hW
 obtain⟨R1x0a,R1x0b,R1x0c⟩:=R1x0.out
 obtain⟨R1x1a,R1x1b,R1x1c⟩:=R1x1.out
 obtain⟨R1x2a,R1x2b,R1x2c⟩:=R1x2.out
 obtain⟨R1x3a,R1x3b,R1x3c⟩:=R1x3.out
 refine Zbh W1 11 [(23,#[.int .u8 0,.int .u8 0,.int .u8 0,.int .u8 0,.int .u8 0,.int .u8 0,.int .u8 0,.int .u8 0,.int .u8 0,.int .u8 0,.int .u8 0,.int .u8 0,.int .u8 0,.int .u8 0,.int .u8 0,.int .u8 0,.int .u8 0,.int .u8 0,.int .u8 0,.int .u8 0,.int .u8 0,.int .u8 0,.int .u8 0,.int .u8 0,.int .u8 0,.int .u8 0,.int .u8 0,.int .u8 0,.int .u8 0,.int .u8 0,.int .u8 0,.int .u8 0])] (by kernel_rfl) (by kernel_rfl) ((Below.refl _ _).drew) ?_
 simp only[List.take_succ_cons,List.take_zero,List.drop_succ_cons,List.drop_zero,List.length_cons,List.length_nil,Nat.reduceAdd]
 iterate 4 (refine Za6 (Zaa rfl) (by intro K o d hK;go_simp;exact hK _ (Below.refl _ _)) ?_)
 refine Za4 (v:=kv bm) (Zaa rfl) (by intro K o d hK;go_simp;refine(ZmU x3 z3 bm hx3 hz3 Hbm.out _).mono ?_;rintro e w' ⟨rfl,hbw⟩;exact⟨_,rfl,hK _ hbw⟩) ?_
 iterate 4 (refine Za6 (Zaa rfl) (by intro K o d hK;go_simp;exact hK _ (Below.refl _ _)) ?_)
 refine Za4 (v:=kv ap) (Zaa rfl) (by intro K o d hK;go_simp;refine(ZmR x z ap hx hz Hap.out _).mono ?_;rintro e w' ⟨rfl,hbw⟩;exact⟨_,rfl,hK _ hbw⟩) ?_
 refine Za4 (v:=kv dd) (Zaa rfl) (by intro K o d hK;go_simp;refine(Zhv bm ap dd lbm lap Hdd.out _).mono ?_;rintro e w' ⟨rfl,hbw⟩;exact⟨_,rfl,hK _ hbw⟩) ?_
 refine Zbx ?_
 refine⟨Zba _ rfl rfl,fun g2x0 hg2x0 hn2x0=>?_⟩
 intro w2 hb2 hblk2
 have A2x0:=R1x0.out.grow hb2
 have c2x0:=R1x0.out.2.2
 have A2x1:=R1x1.out.grow hb2
 have c2x1:=R1x1.out.2.2
 have A2x2:=R1x2.out.grow hb2
 have c2x2:=R1x2.out.2.2
 have A2x3:=R1x3.out.grow hb2
 have c2x3:=R1x3.out.2.2
 have N2x0:=RowAt.of (hblk2 0 g2x0 _ _ rfl rfl)
 have B2x0:=HB1.out.trans (hb2.mono HB1.out.size)
 have s2:=HB1.out.size
 have O2x0:=N2x0
 have P2x0x0:=A2x0.other (show w.heap.size≠g2x0 by omega) (keyA dd)
 have P2x0x1:=A2x1.other (show w.heap.size+1≠g2x0 by omega) (keyA dd)
 have P2x0x2:=A2x2.other (show w.heap.size+1+1≠g2x0 by omega) (keyA dd)
 have P2x0x3:=A2x3.other (show w.heap.size+1+1+1≠g2x0 by omega) (keyA dd)
 have Q2x0x0:=N2x0.set (keyA dd)
 have B2x1:=Zad B2x0 (show w.heap.size≤g2x0 by omega) (keyA dd)
 have Z2x0:=Zq P2x0x0
 have Z2x1:=Zq P2x0x1
 have Z2x2:=Zq P2x0x2
 have Z2x3:=Zq P2x0x3
 have Z2x4:=Zq Q2x0x0
 have HB2:=Zq B2x1
 have ne2x0x0:¬w.heap.size=g2x0:=by omega
 have nf2x0x0:¬g2x0=w.heap.size:=by omega
 have ne2x1x0:¬w.heap.size+1=g2x0:=by omega
 have nf2x1x0:¬g2x0=w.heap.size+1:=by omega
 have ne2x2x0:¬w.heap.size+1+1=g2x0:=by omega
 have nf2x2x0:¬g2x0=w.heap.size+1+1:=by omega
 have ne2x3x0:¬w.heap.size+1+1+1=g2x0:=by omega
 have nf2x3x0:¬g2x0=w.heap.size+1+1+1:=by omega
 clear hb2 hblk2 HB1 s2 R1x0a R1x0b R1x0c R1x1a R1x1b R1x1c R1x2a R1x2b R1x2c R1x3a R1x3b R1x3c R1x0 R1x1 R1x2 R1x3 c2x0 c2x1 c2x2 c2x3 B2x0 B2x1 O2x0 P2x0x0 P2x0x1 P2x0x2 P2x0x3 Q2x0x0 hg2x0 hn2x0
 obtain⟨A2x0a,A2x0b,A2x0c⟩:=A2x0
 obtain⟨A2x1a,A2x1b,A2x1c⟩:=A2x1
 obtain⟨A2x2a,A2x2b,A2x2c⟩:=A2x2
 obtain⟨A2x3a,A2x3b,A2x3c⟩:=A2x3
 obtain⟨N2x0a,N2x0b,N2x0c⟩:=N2x0
 go_wp2_with fail
 clear A2x0a A2x0b A2x0c A2x1a A2x1b A2x1c A2x2a A2x2b A2x2c A2x3a A2x3b A2x3c N2x0a N2x0b N2x0c ne2x0x0 nf2x0x0 ne2x1x0 nf2x1x0 ne2x2x0 nf2x2x0 ne2x3x0 nf2x3x0
 generalize World.setRow _ _ _=W3 at *
 obtain⟨Z2x0a,Z2x0b,Z2x0c⟩:=Z2x0.out
 obtain⟨Z2x1a,Z2x1b,Z2x1c⟩:=Z2x1.out
 obtain⟨Z2x2a,Z2x2b,Z2x2c⟩:=Z2x2.out
 obtain⟨Z2x3a,Z2x3b,Z2x3c⟩:=Z2x3.out
 obtain⟨Z2x4a,Z2x4b,Z2x4c⟩:=Z2x4.out
 refine Zbh W3 11 [(23,#[.int .u8 0,.int .u8 0,.int .u8 0,.int .u8 0,.int .u8 0,.int .u8 0,.int .u8 0,.int .u8 0,.int .u8 0,.int .u8 0,.int .u8 0,.int .u8 0,.int .u8 0,.int .u8 0,.int .u8 0,.int .u8 0,.int .u8 0,.int .u8 0,.int .u8 0,.int .u8 0,.int .u8 0,.int .u8 0,.int .u8 0,.int .u8 0,.int .u8 0,.int .u8 0,.int .u8 0,.int .u8 0,.int .u8 0,.int .u8 0,.int .u8 0,.int .u8 0])] (by kernel_rfl) (by kernel_rfl) ((Below.refl _ _).drew) ?_
 simp only[List.take_succ_cons,List.take_zero,List.drop_succ_cons,List.drop_zero,List.length_cons,List.length_nil,Nat.reduceAdd]
 iterate 4 (refine Za6 (Zaa rfl) (by intro K o d hK;go_simp;exact hK _ (Below.refl _ _)) ?_)
 refine Za4 (v:=kv bp) (Zaa rfl) (by intro K o d hK;go_simp;refine(ZmR x3 z3 bp hx3 hz3 Hbp.out _).mono ?_;rintro e w' ⟨rfl,hbw⟩;exact⟨_,rfl,hK _ hbw⟩) ?_
 iterate 4 (refine Za6 (Zaa rfl) (by intro K o d hK;go_simp;exact hK _ (Below.refl _ _)) ?_)
 refine Za4 (v:=kv am) (Zaa rfl) (by intro K o d hK;go_simp;refine(ZmU x z am hx hz Ham.out _).mono ?_;rintro e w' ⟨rfl,hbw⟩;exact⟨_,rfl,hK _ hbw⟩) ?_
 refine Za4 (v:=kv cc) (Zaa rfl) (by intro K o d hK;go_simp;refine(Zhv bp am cc lbp lam Hcc.out _).mono ?_;rintro e w' ⟨rfl,hbw⟩;exact⟨_,rfl,hK _ hbw⟩) ?_
 refine Zbx ?_
 refine⟨Zba _ rfl rfl,fun g4x0 hg4x0 hn4x0=>?_⟩
 intro w4 hb4 hblk4
 have A4x0:=Z2x0.out.grow hb4
 have c4x0:=Z2x0.out.2.2
 have A4x1:=Z2x1.out.grow hb4
 have c4x1:=Z2x1.out.2.2
 have A4x2:=Z2x2.out.grow hb4
 have c4x2:=Z2x2.out.2.2
 have A4x3:=Z2x3.out.grow hb4
 have c4x3:=Z2x3.out.2.2
 have A4x4:=Z2x4.out.grow hb4
 have c4x4:=Z2x4.out.2.2
 have N4x0:=RowAt.of (hblk4 0 g4x0 _ _ rfl rfl)
 have B4x0:=HB2.out.trans (hb4.mono HB2.out.size)
 have s4:=HB2.out.size
 have O4x0:=N4x0
 have P4x0x0:=A4x0.other (show w.heap.size≠g4x0 by omega) (keyA cc)
 have P4x0x1:=A4x1.other (show w.heap.size+1≠g4x0 by omega) (keyA cc)
 have P4x0x2:=A4x2.other (show w.heap.size+1+1≠g4x0 by omega) (keyA cc)
 have P4x0x3:=A4x3.other (show w.heap.size+1+1+1≠g4x0 by omega) (keyA cc)
 have P4x0x4:=A4x4.other (show g2x0≠g4x0 by omega) (keyA cc)
 have Q4x0x0:=N4x0.set (keyA cc)
 have B4x1:=Zad B4x0 (show w.heap.size≤g4x0 by omega) (keyA cc)
 have Z4x0:=Zq P4x0x0
 have Z4x1:=Zq P4x0x1
 have Z4x2:=Zq P4x0x2
 have Z4x3:=Zq P4x0x3
 have Z4x4:=Zq P4x0x4
 have Z4x5:=Zq Q4x0x0
 have HB4:=Zq B4x1
 have ne4x0x0:¬w.heap.size=g4x0:=by omega
 have nf4x0x0:¬g4x0=w.heap.size:=by omega
 have ne4x1x0:¬w.heap.size+1=g4x0:=by omega
 have nf4x1x0:¬g4x0=w.heap.size+1:=by omega
 have ne4x2x0:¬w.heap.size+1+1=g4x0:=by omega
 have nf4x2x0:¬g4x0=w.heap.size+1+1:=by omega
 have ne4x3x0:¬w.heap.size+1+1+1=g4x0:=by omega
 have nf4x3x0:¬g4x0=w.heap.size+1+1+1:=by omega
 have ne4x4x0:¬g2x0=g4x0:=by omega
 have nf4x4x0:¬g4x0=g2x0:=by omega
 clear hb4 hblk4 HB2 s4 Z2x0a Z2x0b Z2x0c Z2x1a Z2x1b Z2x1c Z2x2a Z2x2b Z2x2c Z2x3a Z2x3b Z2x3c Z2x4a Z2x4b Z2x4c Z2x0 Z2x1 Z2x2 Z2x3 Z2x4 c4x0 c4x1 c4x2 c4x3 c4x4 B4x0 B4x1 O4x0 P4x0x0 P4x0x1 P4x0x2 P4x0x3 P4x0x4 Q4x0x0 hg4x0 hn4x0
 obtain⟨A4x0a,A4x0b,A4x0c⟩:=A4x0
 obtain⟨A4x1a,A4x1b,A4x1c⟩:=A4x1
 obtain⟨A4x2a,A4x2b,A4x2c⟩:=A4x2
 obtain⟨A4x3a,A4x3b,A4x3c⟩:=A4x3
 obtain⟨A4x4a,A4x4b,A4x4c⟩:=A4x4
 obtain⟨N4x0a,N4x0b,N4x0c⟩:=N4x0
 go_wp2_with fail
 clear A4x0a A4x0b A4x0c A4x1a A4x1b A4x1c A4x2a A4x2b A4x2c A4x3a A4x3b A4x3c A4x4a A4x4b A4x4c N4x0a N4x0b N4x0c ne4x0x0 nf4x0x0 ne4x1x0 nf4x1x0 ne4x2x0 nf4x2x0 ne4x3x0 nf4x3x0 ne4x4x0 nf4x4x0
 generalize World.setRow _ _ _=W5 at *
 obtain⟨Z4x0a,Z4x0b,Z4x0c⟩:=Z4x0.out
 obtain⟨Z4x1a,Z4x1b,Z4x1c⟩:=Z4x1.out
 obtain⟨Z4x2a,Z4x2b,Z4x2c⟩:=Z4x2.out
 obtain⟨Z4x3a,Z4x3b,Z4x3c⟩:=Z4x3.out
 obtain⟨Z4x4a,Z4x4b,Z4x4c⟩:=Z4x4.out
 obtain⟨Z4x5a,Z4x5b,Z4x5c⟩:=Z4x5.out
 refine ZaY (fun w'=>∃ o d,w'=W5.plus o d) 11 (by kernel_rfl) (by kernel_rfl) ⟨#[],_,rfl⟩ ?_
 simp only[List.take_succ_cons,List.take_zero,List.drop_succ_cons,List.drop_zero]
 iterate 2 (refine Zat ⟨_,#[],0,rfl⟩ (Zaa rfl) (by rintro K _ ⟨o,d,rfl⟩ hK;go_simp;exact hK _ ⟨o,d,rfl⟩) ?_)
 refine Zap (v:=kv s) (Zaa rfl) (by rintro K _ ⟨o,d,rfl⟩ hK;go_simp;refine(ZmR dd cc s ldd lcc Hs.out _).mono ?_;rintro e w' ⟨rfl,hbw⟩;obtain⟨o',n',rfl⟩:=Zaf hbw;exact⟨_,rfl,hK _ ⟨_,_,World.plus_plus _ _ _ _ _⟩⟩) ?_
 refine Zap (v:=kv X) (Zaa rfl) (by rintro K _ ⟨o,d,rfl⟩ hK;go_simp;refine(Zfj s X ls HX.out _).mono ?_;rintro e w' ⟨rfl,hbw⟩;obtain⟨o',n',rfl⟩:=Zaf hbw;exact⟨_,rfl,hK _ ⟨_,_,World.plus_plus _ _ _ _ _⟩⟩) ?_
 iterate 3 (refine Zat ⟨_,#[],0,rfl⟩ (Zaa rfl) (by rintro K _ ⟨o,d,rfl⟩ hK;go_simp;exact hK _ ⟨o,d,rfl⟩) ?_)
 refine Zap (v:=kv t) (Zaa rfl) (by rintro K _ ⟨o,d,rfl⟩ hK;go_simp;refine(ZmU dd cc t ldd lcc Ht.out _).mono ?_;rintro e w' ⟨rfl,hbw⟩;obtain⟨o',n',rfl⟩:=Zaf hbw;exact⟨_,rfl,hK _ ⟨_,_,World.plus_plus _ _ _ _ _⟩⟩) ?_
 refine Zap (v:=kv tt) (Zaa rfl) (by rintro K _ ⟨o,d,rfl⟩ hK;go_simp;refine(Zfj t tt lt Htt.out _).mono ?_;rintro e w' ⟨rfl,hbw⟩;obtain⟨o',n',rfl⟩:=Zaf hbw;exact⟨_,rfl,hK _ ⟨_,_,World.plus_plus _ _ _ _ _⟩⟩) ?_
 refine Zap (v:=kv Z) (Zaa rfl) (by rintro K _ ⟨o,d,rfl⟩ hK;go_simp;refine(Zhv x1 tt Z hx1 ltt HZ.out _).mono ?_;rintro e w' ⟨rfl,hbw⟩;obtain⟨o',n',rfl⟩:=Zaf hbw;exact⟨_,rfl,hK _ ⟨_,_,World.plus_plus _ _ _ _ _⟩⟩) ?_
 refine Zat ⟨_,#[],0,rfl⟩ (Zaa rfl) (by rintro K _ ⟨o,d,rfl⟩ hK;go_simp;exact hK _ ⟨o,d,rfl⟩) ?_
 refine Zaw ?_
 rintro _ ⟨oh6,nh6,rfl⟩
 go_wp2_with fail
 refine bodyPost_ret (v:=fv X Z) (ZeN Tryz.results97 _ _ _ rfl (by go_simp) (by go_simp)) rfl ⟨rfl,?_⟩
 exact Zag (Zad HB4.out (by omega) _) _ _
def ZrY (sv:Int) (x z x' z' X Z X' Z':Nat):Prop:=(sv=0∧X=x∧Z=z∧X'=x'∧Z'=z')∨(sv=1∧X=x'∧Z=z'∧X'=x∧Z'=z)
theorem Ze9 (sv:Int) (x z x' z' X Z X' Z':Nat) (h:ZrY sv x z x' z' X Z X' Z') (w:World) :
  Calls Tryz.prog 95 #[.int .u8 sv,fv x z,fv x' z'] w fun e w'=>e=.returned (.tuple #[fv X Z,fv X' Z'])∧Below w.heap.size w w':=by
 rcases h with ⟨rfl,rfl,rfl,rfl,rfl⟩ | ⟨rfl,rfl,rfl,rfl,rfl⟩
 ·exact Zgd false _ _ _ _ w
 ·exact Zgd true _ _ _ _ w
theorem ZlP (x z X Z:Nat) (hx:x<115792089237316195423570985008687907853269984665640564039457584007913129639936) (hz:z<115792089237316195423570985008687907853269984665640564039457584007913129639936) (h:Cv.ntw (x,z)=(X,Z)) (w:World) :
  Calls Tryz.prog 96 #[fv x z] w fun e w'=>e=.returned (fv X Z)∧Below w.heap.size w w':=by
 have:=Zst x z hx hz w;rw[h] at this;exact this
theorem Zt6 (x z x3 z3 x1 X Z:Nat) (hx:x<115792089237316195423570985008687907853269984665640564039457584007913129639936) (hz:z<115792089237316195423570985008687907853269984665640564039457584007913129639936) (hx3:x3<115792089237316195423570985008687907853269984665640564039457584007913129639936) (hz3:z3<115792089237316195423570985008687907853269984665640564039457584007913129639936) (hx1:x1<115792089237316195423570985008687907853269984665640564039457584007913129639936) (h:Cv.nsm x1 (x,z) (x3,z3)=(X,Z)) (w:World) :
  Calls Tryz.prog 97 #[fv x z,fv x3 z3,kv x1] w fun e w'=>e=.returned (fv X Z)∧Below w.heap.size w w':=by
 have:=Zxd x z x3 z3 x1 hx hz hx3 hz3 hx1 w;rw[h] at this;exact this
namespace Cv
theorem ZkT (p:Nat×Nat):(ntw p).1<Fp.P∧(ntw p).2<Fp.P:=⟨nmul_lt _ _,nmul_lt _ _⟩
theorem ZkD (x1:Nat) (p r:Nat×Nat):(nsm x1 p r).1<Fp.P∧(nsm x1 p r).2<Fp.P:=⟨nmul_lt _ _,nmul_lt _ _⟩
def ZuY (s:(Nat×Nat)×(Nat×Nat)):Prop:=s.1.1<115792089237316195423570985008687907853269984665640564039457584007913129639936∧s.1.2<115792089237316195423570985008687907853269984665640564039457584007913129639936∧s.2.1<115792089237316195423570985008687907853269984665640564039457584007913129639936∧s.2.2<115792089237316195423570985008687907853269984665640564039457584007913129639936
theorem small_lad (x1 m:Nat) (hx1:x1<115792089237316195423570985008687907853269984665640564039457584007913129639936):∀j,ZuY (nlad x1 m j)
 | 0=>⟨show 1<115792089237316195423570985008687907853269984665640564039457584007913129639936 by decide,show 0<115792089237316195423570985008687907853269984665640564039457584007913129639936 by decide,hx1,show 1<115792089237316195423570985008687907853269984665640564039457584007913129639936 by decide⟩
 | j+1=>by
  show ZuY (nstp x1 (m/2^(254-j)%2==1) (nlad x1 m j))
  cases (m/2^(254-j)%2==1)
  ·exact⟨Nat.lt_trans (ZkT _).1 P_lt,Nat.lt_trans (ZkT _).2 P_lt,Nat.lt_trans (ZkD _ _ _).1 P_lt,Nat.lt_trans (ZkD _ _ _).2 P_lt⟩
  ·exact⟨Nat.lt_trans (ZkD _ _ _).1 P_lt,Nat.lt_trans (ZkD _ _ _).2 P_lt,Nat.lt_trans (ZkT _).1 P_lt,Nat.lt_trans (ZkT _).2 P_lt⟩
theorem bit_of (m j:Nat):m/256^(j/8)%256/2^(j%8)%2=m/2^j%2:=by
 have e:(256:Nat)^(j/8)=2^(8*(j/8)):=by rw[Nat.pow_mul]
 have e2:j=8*(j/8)+j%8:=(Nat.div_add_mod j 8).symm
 have hr:j%8<8:=Nat.mod_lt _ (by decide)
 rw[e]
 conv=>rhs;rw[e2,Nat.pow_add,←Nat.div_div_eq_div_mul]
 generalize m/2^(8*(j/8))=x
 generalize j%8=r at *
 have h8:r=0∨r=1∨r=2∨r=3∨r=4∨r=5∨r=6∨r=7:=by omega
 rcases h8 with rfl | rfl | rfl | rfl | rfl | rfl | rfl | rfl<;>simp only[Nat.reducePow]<;>omega
theorem and1 (a:Nat) (ha:a<256):bits .and .u8 (a:Int) 1=((a%2:Nat):Int):=by
 rw[show (1:Int)=((1:Nat):Int) from rfl,and8 a 1 ha (by decide),show (1:Nat)=2^1-1 from rfl,Nat.and_two_pow_sub_one_eq_mod]
theorem bit_and (m j:Nat):bits .and .u8 (bt m (j/8)/2^(j%8)) 1=((m/2^j%2:Nat):Int):=by
 have h1:bt m (j/8)/2^(j%8)=((m/256^(j/8)%256/2^(j%8):Nat):Int):=by
  unfold bt
  rw[Int.natCast_ediv]
  congr 1
 have hlt:m/256^(j/8)%256/2^(j%8)<256:=Nat.lt_of_le_of_lt (Nat.div_le_self _ _) (Nat.mod_lt _ (by decide))
 rw[h1,and1 _ hlt,bit_of]
theorem round_num (x1 m j:Nat) (hx1:x1<115792089237316195423570985008687907853269984665640564039457584007913129639936) (hj:j<255):∃(sv:Int) (x2 z2 x3 z3 a az b bz t tz u uz X Z X' Z':Nat),nlad x1 m (255-(j+1))=((x2,z2),(x3,z3))∧bits .and .u8 (bt m (j/8)/2^(j%8)) 1=sv ∧
  ZrY sv x2 z2 x3 z3 a az b bz∧ntw (a,az)=(t,tz)∧nsm x1 (a,az) (b,bz)=(u,uz)∧ZrY sv t tz u uz X Z X' Z'∧nlad x1 m (255-j)=((X,Z),(X',Z'))∧a<115792089237316195423570985008687907853269984665640564039457584007913129639936∧az<115792089237316195423570985008687907853269984665640564039457584007913129639936∧b<115792089237316195423570985008687907853269984665640564039457584007913129639936∧bz<115792089237316195423570985008687907853269984665640564039457584007913129639936:=by
 have hn:nlad x1 m (255-j)=nstp x1 (m/2^j%2==1) (nlad x1 m (255-(j+1))):=by
  have e:255-j=(255-(j+1))+1:=by omega
  rw[e]
  show nstp x1 (m/2^(254-(255-(j+1)))%2==1) _=_
  rw[show 254-(255-(j+1))=j by omega]
 obtain⟨s1,s2,s3,s4⟩:=small_lad x1 m hx1 (255-(j+1))
 generalize nlad x1 m (255-(j+1))=s at *
 obtain⟨⟨x2,z2⟩,⟨x3,z3⟩⟩:=s
 have hb:=bit_and m j
 have hlt:=Nat.mod_lt (m/2^j) (show 0<2 by decide)
 rw[hn]
 generalize m/2^j%2=bit at *
 rcases (show bit=0∨bit=1 by omega) with rfl | rfl
 ·exact⟨0,x2,z2,x3,z3,x2,z2,x3,z3,_,_,_,_,_,_,_,_,rfl,hb,.inl ⟨rfl,rfl,rfl,rfl,rfl⟩,rfl,rfl,.inl ⟨rfl,rfl,rfl,rfl,rfl⟩,rfl,s1,s2,s3,s4⟩
 ·exact⟨1,x2,z2,x3,z3,x3,z3,x2,z2,_,_,_,_,_,_,_,_,rfl,hb,.inr ⟨rfl,rfl,rfl,rfl,rfl⟩,rfl,rfl,.inr ⟨rfl,rfl,rfl,rfl,rfl⟩,rfl,s3,s4,s1,s2⟩
end Cv
theorem Ztm (x1 m:Nat) (hx1:x1<115792089237316195423570985008687907853269984665640564039457584007913129639936) (w:World) :
  Calls Tryz.prog 65 #[kv x1,kv m] w fun e w'=>e=.returned (kv (Cv.nT m x1))∧Below w.heap.size w w':=by
 go_enter Tryz.func65,Tryz.ntmps65
 go_wp2_with fail
 go_region
 ·go_wp2_with fail
  generalize hW:World.drew _=W1
  have R1x0:=Zq (show RowAt W1 (w.heap.size) (keyA x1) by rw[←hW];clear hW;exact⟨by go_simp,by go_simp,by go_simp⟩)
  have R1x1:=Zq (show RowAt W1 (w.heap.size+1) (keyA m) by rw[←hW];clear hW;exact⟨by go_simp,by go_simp,by go_simp⟩)
  have R1x2:=Zq (show RowAt W1 (w.heap.size+1+1) (#[.int .u8 0,.int .u8 0,.int .u8 0,.int .u8 0,.int .u8 0,.int .u8 0,.int .u8 0,.int .u8 0,.int .u8 0,.int .u8 0,.int .u8 0,.int .u8 0,.int .u8 0,.int .u8 0,.int .u8 0,.int .u8 0,.int .u8 0,.int .u8 0,.int .u8 0,.int .u8 0,.int .u8 0,.int .u8 0,.int .u8 0,.int .u8 0,.int .u8 0,.int .u8 0,.int .u8 0,.int .u8 0,.int .u8 0,.int .u8 0,.int .u8 0,.int .u8 0]) by rw[←hW];clear hW;exact⟨by go_simp,by go_simp,by go_simp⟩)
  have R1x3:=Zq (show RowAt W1 (w.heap.size+1+1+1) (ZaD 1 0) by rw[←hW];clear hW;exact⟨by go_simp,by go_simp,by go_simp⟩)
  have R1x4:=Zq (show RowAt W1 (w.heap.size+1+1+1+1) (ZaD x1 1) by rw[←hW];clear hW;exact⟨by go_simp,by go_simp,by go_simp⟩)
  have HB1:=Zq (show Below w.heap.size w W1 by rw[←hW];repeat (first | apply Zag | apply Zab | apply Below.drew | refine Zad ?_ (by omega) _ | exact Below.refl _ _))
  clear hW
  obtain⟨R1x0a,R1x0b,R1x0c⟩:=R1x0.out
  obtain⟨R1x1a,R1x1b,R1x1c⟩:=R1x1.out
  obtain⟨R1x2a,R1x2b,R1x2c⟩:=R1x2.out
  obtain⟨R1x3a,R1x3b,R1x3c⟩:=R1x3.out
  obtain⟨R1x4a,R1x4b,R1x4c⟩:=R1x4.out
  go_loopw [7] (fun i w'=>∃ (k:Nat),k≤255∧i=.int .i64 ((k:Int)-1)∧RowAt w' w.heap.size (keyA x1)∧RowAt w' (w.heap.size+1) (keyA m)∧RowAt w' (w.heap.size+1+1) #[.int .u8 0,.int .u8 0,.int .u8 0,.int .u8 0,.int .u8 0,.int .u8 0,.int .u8 0,.int .u8 0,.int .u8 0,.int .u8 0,.int .u8 0,.int .u8 0,.int .u8 0,.int .u8 0,.int .u8 0,.int .u8 0,.int .u8 0,.int .u8 0,.int .u8 0,.int .u8 0,.int .u8 0,.int .u8 0,.int .u8 0,.int .u8 0,.int .u8 0,.int .u8 0,.int .u8 0,.int .u8 0,.int .u8 0,.int .u8 0,.int .u8 0,.int .u8 0] ∧
   RowAt w' (w.heap.size+1+1+1) (ZaD (Cv.nlad x1 m (255-k)).1.1 (Cv.nlad x1 m (255-k)).1.2)∧RowAt w' (w.heap.size+1+1+1+1) (ZaD (Cv.nlad x1 m (255-k)).2.1 (Cv.nlad x1 m (255-k)).2.2)∧Below w.heap.size w w') (fun i _=>(intOf i+1).toNat)
  case atStart=>exact⟨255,Nat.le_refl _,rfl,R1x0.out,R1x1.out,R1x2.out,R1x3.out,R1x4.out,HB1.out⟩
  case round =>
   clear R1x0a R1x0b R1x0c R1x0 R1x1a R1x1b R1x1c R1x1 R1x2a R1x2b R1x2c R1x2 R1x3a R1x3b R1x3c R1x3 R1x4a R1x4b R1x4c R1x4 HB1
   obtain⟨k,hk,rfl,Q1,Q2,Q3,Q4,Q5,HB⟩:=hrel
   have T1:=Zq Q1
   have T2:=Zq Q2
   have T3:=Zq Q3
   have HB2:=Zq HB
   clear HB
   rcases Nat.eq_zero_or_pos k with rfl | hpos
   ·have hs:=Cv.small_lad x1 m hx1 255
    rw[Nat.sub_zero] at Q4 Q5
    obtain⟨s,hq⟩:∃s,Cv.nlad x1 m 255=s:=⟨_,rfl⟩
    rw[hq] at Q4 Q5 hs
    obtain⟨⟨x2,z2⟩,q⟩:=s
    have hx2:x2<115792089237316195423570985008687907853269984665640564039457584007913129639936:=hs.1
    have hz2:z2<115792089237316195423570985008687907853269984665640564039457584007913129639936:=hs.2.1
    obtain⟨i,ei⟩:∃y,y=z2^Fp.E%Fp.P:=⟨_,rfl⟩
    have li:i<115792089237316195423570985008687907853269984665640564039457584007913129639936:=by rw[ei];exact mod_lt _
    obtain⟨r,er⟩:∃y,y=Cv.nmul x2 i:=⟨_,rfl⟩
    have Hi:=Zq ei.symm
    have Hr:=Zq er.symm
    have Hres:Hid (Cv.nT m x1=r):=by
     show _=_
     rw[er,ei];unfold Cv.nT;rw[hq]
    clear ei er hq hs T1 T2 T3
    obtain⟨Q1a,Q1b,Q1c⟩:=Q1
    obtain⟨Q2a,Q2b,Q2c⟩:=Q2
    obtain⟨Q3a,Q3b,Q3c⟩:=Q3
    obtain⟨Q4a,Q4b,Q4c⟩:=Q4
    obtain⟨Q5a,Q5b,Q5c⟩:=Q5
    go_wp2_with fail
    refine ZaY (fun w'=>∃ o d,w'=wr.plus o d) 6 (by kernel_rfl) (by kernel_rfl) ⟨#[],_,rfl⟩ ?_
    simp only[List.take_succ_cons,List.take_zero,List.drop_succ_cons,List.drop_zero]
    iterate 4 (refine Zat ⟨_,#[],0,rfl⟩ (Zaa rfl) (by rintro K _ ⟨o,d,rfl⟩ hK;go_simp;exact hK _ ⟨o,d,rfl⟩) ?_)
    refine Zap (v:=kv i) (Zaa rfl) (by rintro K _ ⟨o,d,rfl⟩ hK;go_simp;refine(Zvz z2 i hz2 Hi.out _).mono ?_;rintro e w' ⟨rfl,hbw⟩;obtain⟨o',n',rfl⟩:=Zaf hbw;exact⟨_,rfl,hK _ ⟨_,_,World.plus_plus _ _ _ _ _⟩⟩) ?_
    refine Zap (v:=kv r) (Zaa rfl) (by rintro K _ ⟨o,d,rfl⟩ hK;go_simp;refine(Zhv x2 i r hx2 li Hr.out _).mono ?_;rintro e w' ⟨rfl,hbw⟩;obtain⟨o',n',rfl⟩:=Zaf hbw;exact⟨_,rfl,hK _ ⟨_,_,World.plus_plus _ _ _ _ _⟩⟩) ?_
    refine Zaw ?_
    rintro _ ⟨oh31,nh31,rfl⟩
    go_wp2_with fail
    refine bodyPost_ret (v:=kv r) (Zav Tryz.results65 _ _ _ rfl (by go_simp) (by go_simp)) rfl ⟨by rw[Hres.out],?_⟩
    exact Zag (Zad HB2.out (by omega) _) _ _
   ·obtain⟨j,rfl⟩:∃j,k=j+1:=⟨k-1,by omega⟩
    rw[show (((j+1:Nat):Int)-1)=(j:Int) by omega]
    have hj0:(0:Int)≤j:=by omega
    have hj1:(j:Int)≤254:=by omega
    have hc:=T2.out.cellAt (j/8) (keyA_get m (j/8) (by omega))
    obtain⟨sv,x2,z2,x3,z3,a,az,b,bz,t,tz,u,uz,X,Z,X',Z',e1,hbit,S1,e2,e3,S2,e4,la,laz,lb,lbz⟩:=Cv.round_num x1 m j hx1 (by omega)
    rw[e1] at Q4 Q5
    have E2:=Zq e2
    have E3:=Zq e3
    have E4:=Zq e4
    have HS1:=Zq S1
    have HS2:=Zq S2
    clear e1 e2 e3 e4 S1 S2
    obtain⟨T1a,T1b,T1c⟩:=Q1
    obtain⟨T2a,T2b,T2c⟩:=Q2
    obtain⟨T3a,T3b,T3c⟩:=Q3
    have T4:=Zq Q4
    have T5:=Zq Q5
    obtain⟨T4a,T4b,T4c⟩:=Q4
    obtain⟨T5a,T5b,T5c⟩:=Q5
    go_wp2_with fail
    refine(Ze9 sv x2 z2 x3 z3 a az b bz HS1.out _).mono ?_
    rintro e w' ⟨rfl,hbw⟩
    obtain⟨oc1,nc1,rfl⟩:=Zaf hbw
    clear hbw
    go_wp2_with fail
    generalize hW:World.plus _ _ _=W41
    have R41x0:=Zq (show RowAt W41 (w.heap.size) (keyA x1) by rw[←hW];clear hW;exact⟨by go_simp,by go_simp,by go_simp⟩)
    have R41x1:=Zq (show RowAt W41 (w.heap.size+1) (keyA m) by rw[←hW];clear hW;exact⟨by go_simp,by go_simp,by go_simp⟩)
    have R41x2:=Zq (show RowAt W41 (w.heap.size+1+1) (#[.int .u8 0,.int .u8 0,.int .u8 0,.int .u8 0,.int .u8 0,.int .u8 0,.int .u8 0,.int .u8 0,.int .u8 0,.int .u8 0,.int .u8 0,.int .u8 0,.int .u8 0,.int .u8 0,.int .u8 0,.int .u8 0,.int .u8 0,.int .u8 0,.int .u8 0,.int .u8 0,.int .u8 0,.int .u8 0,.int .u8 0,.int .u8 0,.int .u8 0,.int .u8 0,.int .u8 0,.int .u8 0,.int .u8 0,.int .u8 0,.int .u8 0,.int .u8 0]) by rw[←hW];clear hW;exact⟨by go_simp,by go_simp,by go_simp⟩)
    have R41x3:=Zq (show RowAt W41 (w.heap.size+1+1+1) (ZaD a az) by rw[←hW];clear hW;exact⟨by go_simp,by go_simp,by go_simp⟩)
    have R41x4:=Zq (show RowAt W41 (w.heap.size+1+1+1+1) (ZaD b bz) by rw[←hW];clear hW;exact⟨by go_simp,by go_simp,by go_simp⟩)
    have HB41:=Zq (show Below w.heap.size w W41 by rw[←hW];repeat (first | apply Zag | apply Zab | apply Below.drew | refine Zad ?_ (by omega) _ | exact HB2.out))
    clear hW
    clear T1a T1b T1c T2a T2b T2c T3a T3b T3c T4a T4b T4c T5a T5b T5c T1 T2 T3 T4 T5 HB2
    obtain⟨R41x0a,R41x0b,R41x0c⟩:=R41x0.out
    obtain⟨R41x1a,R41x1b,R41x1c⟩:=R41x1.out
    obtain⟨R41x2a,R41x2b,R41x2c⟩:=R41x2.out
    obtain⟨R41x3a,R41x3b,R41x3c⟩:=R41x3.out
    obtain⟨R41x4a,R41x4b,R41x4c⟩:=R41x4.out
    clear hc hbit HS1
    refine ZaY (fun w'=>∃ o d,w'=W41.plus o d) 6 (by kernel_rfl) (by kernel_rfl) ⟨#[],_,rfl⟩ ?_
    simp only[List.take_succ_cons,List.take_zero,List.drop_succ_cons,List.drop_zero]
    refine Zat ⟨_,#[],0,rfl⟩ (Zaa rfl) (by rintro K _ ⟨o,d,rfl⟩ hK;go_simp;exact hK _ ⟨o,d,rfl⟩) ?_
    refine Zap (v:=fv t tz) (Zaa rfl) (by rintro K _ ⟨o,d,rfl⟩ hK;go_simp;refine(ZlP a az t tz la laz E2.out _).mono ?_;rintro e w' ⟨rfl,hbw⟩;obtain⟨o',n',rfl⟩:=Zaf hbw;exact⟨_,rfl,hK _ ⟨_,_,World.plus_plus _ _ _ _ _⟩⟩) ?_
    iterate 3 (refine Zat ⟨_,#[],0,rfl⟩ (Zaa rfl) (by rintro K _ ⟨o,d,rfl⟩ hK;go_simp;exact hK _ ⟨o,d,rfl⟩) ?_)
    refine Zap (v:=fv u uz) (Zaa rfl) (by rintro K _ ⟨o,d,rfl⟩ hK;go_simp;refine(Zt6 a az b bz x1 u uz la laz lb lbz hx1 E3.out _).mono ?_;rintro e w' ⟨rfl,hbw⟩;obtain⟨o',n',rfl⟩:=Zaf hbw;exact⟨_,rfl,hK _ ⟨_,_,World.plus_plus _ _ _ _ _⟩⟩) ?_
    refine Zaw ?_
    rintro _ ⟨oh42,nh42,rfl⟩
    go_wp2_with fail
    refine(Ze9 sv t tz u uz X Z X' Z' HS2.out _).mono ?_
    rintro e w' ⟨rfl,hbw⟩
    obtain⟨oc2,nc2,rfl⟩:=Zaf hbw
    clear hbw
    go_wp2_with fail
    generalize hW:World.plus _ _ _=W43
    have R43x0:=Zq (show RowAt W43 (w.heap.size) (keyA x1) by rw[←hW];clear hW;exact⟨by go_simp,by go_simp,by go_simp⟩)
    have R43x1:=Zq (show RowAt W43 (w.heap.size+1) (keyA m) by rw[←hW];clear hW;exact⟨by go_simp,by go_simp,by go_simp⟩)
    have R43x2:=Zq (show RowAt W43 (w.heap.size+1+1) (#[.int .u8 0,.int .u8 0,.int .u8 0,.int .u8 0,.int .u8 0,.int .u8 0,.int .u8 0,.int .u8 0,.int .u8 0,.int .u8 0,.int .u8 0,.int .u8 0,.int .u8 0,.int .u8 0,.int .u8 0,.int .u8 0,.int .u8 0,.int .u8 0,.int .u8 0,.int .u8 0,.int .u8 0,.int .u8 0,.int .u8 0,.int .u8 0,.int .u8 0,.int .u8 0,.int .u8 0,.int .u8 0,.int .u8 0,.int .u8 0,.int .u8 0,.int .u8 0]) by rw[←hW];clear hW;exact⟨by go_simp,by go_simp,by go_simp⟩)
    have R43x3:=Zq (show RowAt W43 (w.heap.size+1+1+1) (ZaD X Z) by rw[←hW];clear hW;exact⟨by go_simp,by go_simp,by go_simp⟩)
    have R43x4:=Zq (show RowAt W43 (w.heap.size+1+1+1+1) (ZaD X' Z') by rw[←hW];clear hW;exact⟨by go_simp,by go_simp,by go_simp⟩)
    have HB43:=Zq (show Below w.heap.size w W43 by rw[←hW];repeat (first | apply Zag | apply Zab | apply Below.drew | refine Zad ?_ (by omega) _ | exact HB41.out))
    clear hW
    clear R41x0a R41x0b R41x0c R41x1a R41x1b R41x1c R41x2a R41x2b R41x2c R41x3a R41x3b R41x3c R41x4a R41x4b R41x4c R41x0 R41x1 R41x2 R41x3 R41x4 HB41
    obtain⟨R43x0a,R43x0b,R43x0c⟩:=R43x0.out
    obtain⟨R43x1a,R43x1b,R43x1c⟩:=R43x1.out
    obtain⟨R43x2a,R43x2b,R43x2c⟩:=R43x2.out
    obtain⟨R43x3a,R43x3b,R43x3c⟩:=R43x3.out
    obtain⟨R43x4a,R43x4b,R43x4c⟩:=R43x4.out
    go_roundw
    case rel=>exact⟨j,by omega,by go_num,R43x0.out,R43x1.out,R43x2.out,by rw[E4.out];exact R43x3.out,by rw[E4.out];exact R43x4.out,HB43.out⟩
    case measure=>simp[intOf]
 ·go_wp2_with fail
  generalize hW:World.drew _=W1
  have R1x0:=Zq (show RowAt W1 (w.heap.size) (keyA x1) by rw[←hW];clear hW;exact⟨by go_simp,by go_simp,by go_simp⟩)
  have R1x1:=Zq (show RowAt W1 (w.heap.size+1) (keyA m) by rw[←hW];clear hW;exact⟨by go_simp,by go_simp,by go_simp⟩)
  have R1x2:=Zq (show RowAt W1 (w.heap.size+1+1) (#[.int .u8 0,.int .u8 0,.int .u8 0,.int .u8 0,.int .u8 0,.int .u8 0,.int .u8 0,.int .u8 0,.int .u8 0,.int .u8 0,.int .u8 0,.int .u8 0,.int .u8 0,.int .u8 0,.int .u8 0,.int .u8 0,.int .u8 0,.int .u8 0,.int .u8 0,.int .u8 0,.int .u8 0,.int .u8 0,.int .u8 0,.int .u8 0,.int .u8 0,.int .u8 0,.int .u8 0,.int .u8 0,.int .u8 0,.int .u8 0,.int .u8 0,.int .u8 0]) by rw[←hW];clear hW;exact⟨by go_simp,by go_simp,by go_simp⟩)
  have R1x3:=Zq (show RowAt W1 (w.heap.size+1+1+1+1) (ZaD 1 0) by rw[←hW];clear hW;exact⟨by go_simp,by go_simp,by go_simp⟩)
  have R1x4:=Zq (show RowAt W1 (w.heap.size+1+1+1) (ZaD x1 1) by rw[←hW];clear hW;exact⟨by go_simp,by go_simp,by go_simp⟩)
  have HB1:=Zq (show Below w.heap.size w W1 by rw[←hW];repeat (first | apply Zag | apply Zab | apply Below.drew | refine Zad ?_ (by omega) _ | exact Below.refl _ _))
  clear hW
  obtain⟨R1x0a,R1x0b,R1x0c⟩:=R1x0.out
  obtain⟨R1x1a,R1x1b,R1x1c⟩:=R1x1.out
  obtain⟨R1x2a,R1x2b,R1x2c⟩:=R1x2.out
  obtain⟨R1x3a,R1x3b,R1x3c⟩:=R1x3.out
  obtain⟨R1x4a,R1x4b,R1x4c⟩:=R1x4.out
  go_loopw [7] (fun i w'=>∃ (k:Nat),k≤255∧i=.int .i64 ((k:Int)-1)∧RowAt w' w.heap.size (keyA x1)∧RowAt w' (w.heap.size+1) (keyA m)∧RowAt w' (w.heap.size+1+1) #[.int .u8 0,.int .u8 0,.int .u8 0,.int .u8 0,.int .u8 0,.int .u8 0,.int .u8 0,.int .u8 0,.int .u8 0,.int .u8 0,.int .u8 0,.int .u8 0,.int .u8 0,.int .u8 0,.int .u8 0,.int .u8 0,.int .u8 0,.int .u8 0,.int .u8 0,.int .u8 0,.int .u8 0,.int .u8 0,.int .u8 0,.int .u8 0,.int .u8 0,.int .u8 0,.int .u8 0,.int .u8 0,.int .u8 0,.int .u8 0,.int .u8 0,.int .u8 0] ∧
   RowAt w' (w.heap.size+1+1+1+1) (ZaD (Cv.nlad x1 m (255-k)).1.1 (Cv.nlad x1 m (255-k)).1.2)∧RowAt w' (w.heap.size+1+1+1) (ZaD (Cv.nlad x1 m (255-k)).2.1 (Cv.nlad x1 m (255-k)).2.2)∧Below w.heap.size w w') (fun i _=>(intOf i+1).toNat)
  case atStart=>exact⟨255,Nat.le_refl _,rfl,R1x0.out,R1x1.out,R1x2.out,R1x3.out,R1x4.out,HB1.out⟩
  case round =>
   clear R1x0a R1x0b R1x0c R1x0 R1x1a R1x1b R1x1c R1x1 R1x2a R1x2b R1x2c R1x2 R1x3a R1x3b R1x3c R1x3 R1x4a R1x4b R1x4c R1x4 HB1
   obtain⟨k,hk,rfl,Q1,Q2,Q3,Q4,Q5,HB⟩:=hrel
   have T1:=Zq Q1
   have T2:=Zq Q2
   have T3:=Zq Q3
   have HB2:=Zq HB
   clear HB
   rcases Nat.eq_zero_or_pos k with rfl | hpos
   ·have hs:=Cv.small_lad x1 m hx1 255
    rw[Nat.sub_zero] at Q4 Q5
    obtain⟨s,hq⟩:∃s,Cv.nlad x1 m 255=s:=⟨_,rfl⟩
    rw[hq] at Q4 Q5 hs
    obtain⟨⟨x2,z2⟩,q⟩:=s
    have hx2:x2<115792089237316195423570985008687907853269984665640564039457584007913129639936:=hs.1
    have hz2:z2<115792089237316195423570985008687907853269984665640564039457584007913129639936:=hs.2.1
    obtain⟨i,ei⟩:∃y,y=z2^Fp.E%Fp.P:=⟨_,rfl⟩
    have li:i<115792089237316195423570985008687907853269984665640564039457584007913129639936:=by rw[ei];exact mod_lt _
    obtain⟨r,er⟩:∃y,y=Cv.nmul x2 i:=⟨_,rfl⟩
    have Hi:=Zq ei.symm
    have Hr:=Zq er.symm
    have Hres:Hid (Cv.nT m x1=r):=by
     show _=_
     rw[er,ei];unfold Cv.nT;rw[hq]
    clear ei er hq hs T1 T2 T3
    obtain⟨Q1a,Q1b,Q1c⟩:=Q1
    obtain⟨Q2a,Q2b,Q2c⟩:=Q2
    obtain⟨Q3a,Q3b,Q3c⟩:=Q3
    obtain⟨Q4a,Q4b,Q4c⟩:=Q4
    obtain⟨Q5a,Q5b,Q5c⟩:=Q5
    go_wp2_with fail
    refine ZaY (fun w'=>∃ o d,w'=wr.plus o d) 6 (by kernel_rfl) (by kernel_rfl) ⟨#[],_,rfl⟩ ?_
    simp only[List.take_succ_cons,List.take_zero,List.drop_succ_cons,List.drop_zero]
    iterate 4 (refine Zat ⟨_,#[],0,rfl⟩ (Zaa rfl) (by rintro K _ ⟨o,d,rfl⟩ hK;go_simp;exact hK _ ⟨o,d,rfl⟩) ?_)
    refine Zap (v:=kv i) (Zaa rfl) (by rintro K _ ⟨o,d,rfl⟩ hK;go_simp;refine(Zvz z2 i hz2 Hi.out _).mono ?_;rintro e w' ⟨rfl,hbw⟩;obtain⟨o',n',rfl⟩:=Zaf hbw;exact⟨_,rfl,hK _ ⟨_,_,World.plus_plus _ _ _ _ _⟩⟩) ?_
    refine Zap (v:=kv r) (Zaa rfl) (by rintro K _ ⟨o,d,rfl⟩ hK;go_simp;refine(Zhv x2 i r hx2 li Hr.out _).mono ?_;rintro e w' ⟨rfl,hbw⟩;obtain⟨o',n',rfl⟩:=Zaf hbw;exact⟨_,rfl,hK _ ⟨_,_,World.plus_plus _ _ _ _ _⟩⟩) ?_
    refine Zaw ?_
    rintro _ ⟨oh31,nh31,rfl⟩
    go_wp2_with fail
    refine bodyPost_ret (v:=kv r) (Zav Tryz.results65 _ _ _ rfl (by go_simp) (by go_simp)) rfl ⟨by rw[Hres.out],?_⟩
    exact Zag (Zad HB2.out (by omega) _) _ _
   ·obtain⟨j,rfl⟩:∃j,k=j+1:=⟨k-1,by omega⟩
    rw[show (((j+1:Nat):Int)-1)=(j:Int) by omega]
    have hj0:(0:Int)≤j:=by omega
    have hj1:(j:Int)≤254:=by omega
    have hc:=T2.out.cellAt (j/8) (keyA_get m (j/8) (by omega))
    obtain⟨sv,x2,z2,x3,z3,a,az,b,bz,t,tz,u,uz,X,Z,X',Z',e1,hbit,S1,e2,e3,S2,e4,la,laz,lb,lbz⟩:=Cv.round_num x1 m j hx1 (by omega)
    rw[e1] at Q4 Q5
    have E2:=Zq e2
    have E3:=Zq e3
    have E4:=Zq e4
    have HS1:=Zq S1
    have HS2:=Zq S2
    clear e1 e2 e3 e4 S1 S2
    obtain⟨T1a,T1b,T1c⟩:=Q1
    obtain⟨T2a,T2b,T2c⟩:=Q2
    obtain⟨T3a,T3b,T3c⟩:=Q3
    have T4:=Zq Q4
    have T5:=Zq Q5
    obtain⟨T4a,T4b,T4c⟩:=Q4
    obtain⟨T5a,T5b,T5c⟩:=Q5
    go_wp2_with fail
    refine(Ze9 sv x2 z2 x3 z3 a az b bz HS1.out _).mono ?_
    rintro e w' ⟨rfl,hbw⟩
    obtain⟨oc3,nc3,rfl⟩:=Zaf hbw
    clear hbw
    go_wp2_with fail
    generalize hW:World.plus _ _ _=W41
    have R41x0:=Zq (show RowAt W41 (w.heap.size) (keyA x1) by rw[←hW];clear hW;exact⟨by go_simp,by go_simp,by go_simp⟩)
    have R41x1:=Zq (show RowAt W41 (w.heap.size+1) (keyA m) by rw[←hW];clear hW;exact⟨by go_simp,by go_simp,by go_simp⟩)
    have R41x2:=Zq (show RowAt W41 (w.heap.size+1+1) (#[.int .u8 0,.int .u8 0,.int .u8 0,.int .u8 0,.int .u8 0,.int .u8 0,.int .u8 0,.int .u8 0,.int .u8 0,.int .u8 0,.int .u8 0,.int .u8 0,.int .u8 0,.int .u8 0,.int .u8 0,.int .u8 0,.int .u8 0,.int .u8 0,.int .u8 0,.int .u8 0,.int .u8 0,.int .u8 0,.int .u8 0,.int .u8 0,.int .u8 0,.int .u8 0,.int .u8 0,.int .u8 0,.int .u8 0,.int .u8 0,.int .u8 0,.int .u8 0]) by rw[←hW];clear hW;exact⟨by go_simp,by go_simp,by go_simp⟩)
    have R41x3:=Zq (show RowAt W41 (w.heap.size+1+1+1+1) (ZaD a az) by rw[←hW];clear hW;exact⟨by go_simp,by go_simp,by go_simp⟩)
    have R41x4:=Zq (show RowAt W41 (w.heap.size+1+1+1) (ZaD b bz) by rw[←hW];clear hW;exact⟨by go_simp,by go_simp,by go_simp⟩)
    have HB41:=Zq (show Below w.heap.size w W41 by rw[←hW];repeat (first | apply Zag | apply Zab | apply Below.drew | refine Zad ?_ (by omega) _ | exact HB2.out))
    clear hW
    clear T1a T1b T1c T2a T2b T2c T3a T3b T3c T4a T4b T4c T5a T5b T5c T1 T2 T3 T4 T5 HB2
    obtain⟨R41x0a,R41x0b,R41x0c⟩:=R41x0.out
    obtain⟨R41x1a,R41x1b,R41x1c⟩:=R41x1.out
    obtain⟨R41x2a,R41x2b,R41x2c⟩:=R41x2.out
    obtain⟨R41x3a,R41x3b,R41x3c⟩:=R41x3.out
    obtain⟨R41x4a,R41x4b,R41x4c⟩:=R41x4.out
    clear hc hbit HS1
    refine ZaY (fun w'=>∃ o d,w'=W41.plus o d) 6 (by kernel_rfl) (by kernel_rfl) ⟨#[],_,rfl⟩ ?_
    simp only[List.take_succ_cons,List.take_zero,List.drop_succ_cons,List.drop_zero]
    refine Zat ⟨_,#[],0,rfl⟩ (Zaa rfl) (by rintro K _ ⟨o,d,rfl⟩ hK;go_simp;exact hK _ ⟨o,d,rfl⟩) ?_
    refine Zap (v:=fv t tz) (Zaa rfl) (by rintro K _ ⟨o,d,rfl⟩ hK;go_simp;refine(ZlP a az t tz la laz E2.out _).mono ?_;rintro e w' ⟨rfl,hbw⟩;obtain⟨o',n',rfl⟩:=Zaf hbw;exact⟨_,rfl,hK _ ⟨_,_,World.plus_plus _ _ _ _ _⟩⟩) ?_
    iterate 3 (refine Zat ⟨_,#[],0,rfl⟩ (Zaa rfl) (by rintro K _ ⟨o,d,rfl⟩ hK;go_simp;exact hK _ ⟨o,d,rfl⟩) ?_)
    refine Zap (v:=fv u uz) (Zaa rfl) (by rintro K _ ⟨o,d,rfl⟩ hK;go_simp;refine(Zt6 a az b bz x1 u uz la laz lb lbz hx1 E3.out _).mono ?_;rintro e w' ⟨rfl,hbw⟩;obtain⟨o',n',rfl⟩:=Zaf hbw;exact⟨_,rfl,hK _ ⟨_,_,World.plus_plus _ _ _ _ _⟩⟩) ?_
    refine Zaw ?_
    rintro _ ⟨oh42,nh42,rfl⟩
    go_wp2_with fail
    refine(Ze9 sv t tz u uz X Z X' Z' HS2.out _).mono ?_
    rintro e w' ⟨rfl,hbw⟩
    obtain⟨oc4,nc4,rfl⟩:=Zaf hbw
    clear hbw
    go_wp2_with fail
    generalize hW:World.plus _ _ _=W43
    have R43x0:=Zq (show RowAt W43 (w.heap.size) (keyA x1) by rw[←hW];clear hW;exact⟨by go_simp,by go_simp,by go_simp⟩)
    have R43x1:=Zq (show RowAt W43 (w.heap.size+1) (keyA m) by rw[←hW];clear hW;exact⟨by go_simp,by go_simp,by go_simp⟩)
    have R43x2:=Zq (show RowAt W43 (w.heap.size+1+1) (#[.int .u8 0,.int .u8 0,.int .u8 0,.int .u8 0,.int .u8 0,.int .u8 0,.int .u8 0,.int .u8 0,.int .u8 0,.int .u8 0,.int .u8 0,.int .u8 0,.int .u8 0,.int .u8 0,.int .u8 0,.int .u8 0,.int .u8 0,.int .u8 0,.int .u8 0,.int .u8 0,.int .u8 0,.int .u8 0,.int .u8 0,.int .u8 0,.int .u8 0,.int .u8 0,.int .u8 0,.int .u8 0,.int .u8 0,.int .u8 0,.int .u8 0,.int .u8 0]) by rw[←hW];clear hW;exact⟨by go_simp,by go_simp,by go_simp⟩)
    have R43x3:=Zq (show RowAt W43 (w.heap.size+1+1+1+1) (ZaD X Z) by rw[←hW];clear hW;exact⟨by go_simp,by go_simp,by go_simp⟩)
    have R43x4:=Zq (show RowAt W43 (w.heap.size+1+1+1) (ZaD X' Z') by rw[←hW];clear hW;exact⟨by go_simp,by go_simp,by go_simp⟩)
    have HB43:=Zq (show Below w.heap.size w W43 by rw[←hW];repeat (first | apply Zag | apply Zab | apply Below.drew | refine Zad ?_ (by omega) _ | exact HB41.out))
    clear hW
    clear R41x0a R41x0b R41x0c R41x1a R41x1b R41x1c R41x2a R41x2b R41x2c R41x3a R41x3b R41x3c R41x4a R41x4b R41x4c R41x0 R41x1 R41x2 R41x3 R41x4 HB41
    obtain⟨R43x0a,R43x0b,R43x0c⟩:=R43x0.out
    obtain⟨R43x1a,R43x1b,R43x1c⟩:=R43x1.out
    obtain⟨R43x2a,R43x2b,R43x2c⟩:=R43x2.out
    obtain⟨R43x3a,R43x3b,R43x3c⟩:=R43x3.out
    obtain⟨R43x4a,R43x4b,R43x4c⟩:=R43x4.out
    go_roundw
    case rel=>exact⟨j,by omega,by go_num,R43x0.out,R43x1.out,R43x2.out,by rw[E4.out];exact R43x3.out,by rw[E4.out];exact R43x4.out,HB43.out⟩
    case measure=>simp[intOf]
open Go.ChangeShapes Go.WideShapes Go.ChangeAt Go.RowKit
theorem own:ownKnob Tryz.prog.godebug=none:=by kernel_rfl
theorem Zjb:laidOutB Tryz.prog=true:=by kernel_rfl
def Zas:List Nat→Nat
 | []=>0
 | b::l=>b+256*Zas l
theorem Zgk:∀l:List Nat,(∀ b∈l,b<256)→Zas l<256^l.length
 | [],_=>by simp[Zas]
 | b::l,h=>by
  have h1:=h b (by simp)
  have h2:=Zgk l fun x hx=>h x (by simp[hx])
  simp only[Zas,List.length_cons,Nat.pow_succ]
  omega
theorem Zf7:∀(l:List Nat) (i:Nat),(∀ b∈l,b<256)→i<l.length→Zas l/256^i%256=l.getD i 0
 | [],i,_,h=>by simp at h
 | b::l,0,h,_=>by
  have:=h b (by simp)
  simp only[Zas,Nat.pow_zero,Nat.div_one,List.getD_cons_zero]
  omega
 | b::l,i+1,h,hi=>by
  have h1:=h b (by simp)
  have ih:=Zf7 l i (fun x hx=>h x (by simp[hx])) (by simpa using hi)
  simp only[Zas,List.getD_cons_succ]
  rw[←ih,Nat.pow_succ,Nat.mul_comm (256^i) 256,←Nat.div_div_eq_div_mul,show (b+256*Zas l)/256=Zas l by omega]
theorem Zkn {H:Type} {enc:TypeId×Value→H} {w:World} {r:Reach} {b0 base:Nat} {spare:Nat→Bool} {held:Bool} {v:Value} {d:DataW H} {p:List MemPlace}
  (hv:Value.okWide Tryz.prog w r b0 23 v) (h:DataW.Trod enc Tryz.prog w base spare held 23 v d p) :
  ∃ n,n<115792089237316195423570985008687907853269984665640564039457584007913129639936∧v=kv n:=by
 have hv':∃cs,v=.agg cs∧cs.size=Tryz.prog.cellsOf 23:=by
  unfold Value.okWide at hv
  rw[Tryz.underlying23] at hv
  obtain⟨cs,h1,h2,_⟩:=hv
  exact⟨cs,h1,h2⟩
 obtain⟨cs,rfl,hsz⟩:=hv'
 obtain⟨fuel,hf⟩:=h
 have hc1:Tryz.prog.cellsOf 5=1:=by kernel_rfl
 have hc32:Tryz.prog.cellsOf 23=32:=by kernel_rfl
 obtain⟨xs,m,_,_,hl,hxl,hx⟩:=DataW.trod_array Tryz.underlying23 hf
 have hget:∀i,i<32→∃ z:Nat,z<256∧cs[i]?=some (.int .u8 z):=fun i hi=>by
  have h1:=hx i hi
  rw[hc1,Nat.mul_one] at h1
  have hlt:i<xs.length:=by omega
  rw[List.getElem?_eq_getElem hlt] at h1
  obtain⟨a,e0,_,wa⟩:=DataW.trod_int Tryz.underlying5 h1
  have hcs:cs[i]?=some (.int .u8 a):=by
   have:((Value.agg cs).cells.toList.drop i)[0]?=some (Value.int .u8 a):=by
    have h2:=congrArg (fun l=>l[0]?) e0
    simpa [List.getElem?_take] using h2
   simpa [Value.cells] using this
  have hb:=bounds_u8 wa
  obtain⟨z,rfl⟩:=Int.eq_ofNat_of_zero_le hb.1
  exact⟨z,by omega,hcs⟩
 have hch:∃f:Nat→Nat,∀ i,i<32→f i<256∧cs[i]?=some (.int .u8 (f i)) :=
  ⟨fun i=>if h:i<32 then Classical.choose (hget i h) else 0,fun i hi=>by simp only[hi,dif_pos];exact Classical.choose_spec (hget i hi)⟩
 obtain⟨f,hf'⟩:=hch
 have hall:∀b∈(List.range 32).map f,b<256:=fun b hb=>by
  obtain⟨i,hi,rfl⟩:=List.mem_map.1 hb
  exact(hf' i (List.mem_range.1 hi)).1
 refine⟨Zas ((List.range 32).map f),by simpa using Zgk _ hall,?_⟩
 congr 1
 apply Array.ext_getElem?
 intro i
 by_cases hi:i<32
 ·rw[keyA_get _ i hi,(hf' i hi).2]
  unfold bt
  rw[Zf7 _ i hall (by simpa using hi)]
  simp[hi,List.getD]
 ·rw[Array.getElem?_eq_none (by omega),Array.getElem?_eq_none (by rw[keyA_size];omega)]
open Go.RowKit Go.Shelf Go.Hold
def pd (i:Nat):Nat:=Fp.P/256^i%256
theorem pd_0:pd 0=237:=by decide +kernel
theorem Zwt:pd 31=127:=by decide +kernel
theorem Zuf:∀i,i<31→i≠0→pd i=255:=by decide +kernel
theorem ZsC (i:Nat):pd i<256:=Nat.mod_lt _ (by decide)
theorem ZlM (i:Nat) (hi:i<32) (w:World):Calls Tryz.prog 162 #[.int .i64 i] w fun e w'=>e=.returned (.int .i64 (pd i))∧w=w':=by
 by_cases h0:i=0
 ·subst h0
  have hp:=Zq pd_0
  go_enter Tryz.func162,Tryz.ntmps162
  go_wp2
  go_ret
  exact⟨by rw[hp.out];rfl,rfl⟩
 ·by_cases h1:i=31
  ·subst h1
   have hp:=Zq Zwt
   go_enter Tryz.func162,Tryz.ntmps162
   go_wp2
   go_ret
   exact⟨by rw[hp.out];rfl,rfl⟩
  ·have hp:=Zq (Zuf i (by omega) h0)
   have e0:((i:Int)==0)=false:=beq_eq_false_iff_ne.2 (by omega)
   have e1:((i:Int)==31)=false:=beq_eq_false_iff_ne.2 (by omega)
   clear h0 h1 hi
   go_enter Tryz.func162,Tryz.ntmps162
   go_wp2
   go_ret
   exact⟨by rw[hp.out];rfl,rfl⟩
theorem ZdC (i:Nat) (hi:i<32) (w:World):Calls Tryz.prog 162 #[.int .i64 i] w fun e w'=>e=.returned (.int .i64 (pd i))∧Below w.heap.size w w' :=
 (ZlM i hi w).mono fun _ _ ⟨he,hw⟩=>⟨he,hw▸Below.refl _ _⟩
theorem Zkg (n i:Nat):n/256^i=256*(n/256^(i+1))+n/256^i%256:=by
 have h:n/256^(i+1)=n/256^i/256:=by rw[Nat.pow_succ,Nat.div_div_eq_div_mul]
 omega
theorem Zh2 {m n k:Nat} (h:m/k<n/k):m<n:=by
 rcases Nat.lt_or_ge m n with g | g
 ·exact g
 ·have:=Nat.div_le_div_right (c:=k) g;omega
theorem Zd7 (n i:Nat):IntKind.i64.wrap (bt n i)=bt n i:=IntWalk.i64_in _ (by have:=ZaO n i;unfold Byte at this;omega)
@[go_sem] theorem ZwZ (n i:Nat) (h:i<(keyA n).size):(keyA n)[i]=.int .u8 (bt n i):=by
 have:=keyA_get n i (by rw[keyA_size] at h;exact h)
 rw[Array.getElem?_eq_getElem h] at this
 exact Option.some.inj this
theorem ZnI (n:Nat) (hn:n<115792089237316195423570985008687907853269984665640564039457584007913129639936) (w:World) :
  Calls Tryz.prog 141 #[kv n] w fun e w'=>e=.returned (.bool (decide (Fp.P≤n)))∧Below w.heap.size w w':=by
 go_enter Tryz.func141,Tryz.ntmps141
 go_wp2_with fail
 go_loopw [3] (fun i w'=>∃ (k:Nat) (o:Array Obj) (d:Nat),k≤32∧i=.int .i64 ((k:Int)-1)∧n/256^k=Fp.P/256^k∧w'=(w.alloc (.cells (keyA n) 23)).plus o d) (fun i _=>(intOf i+1).toNat)
 case atStart =>
  refine⟨32,#[],_,Nat.le_refl _,rfl,?_,rfl⟩
  rw[Nat.div_eq_of_lt (by simpa using hn),Nat.div_eq_of_lt (by decide +kernel)]
 case round =>
  obtain⟨k,o,d,hk,rfl,hI,rfl⟩:=hrel
  rcases Nat.eq_zero_or_pos k with rfl | hpos
  ·have Hd:Hid (decide (Fp.P≤n)=true):=by
    show _=_
    rw[Nat.pow_zero,Nat.div_one,Nat.div_one] at hI
    exact decide_eq_true (by omega)
   clear hI hn
   go_wp2_with fail
   go_ret
   exact⟨by rw[Hd.out];rfl,Zag (Zab (Below.refl _ _) _) _ _⟩
  ·obtain⟨j,rfl⟩:∃j,k=j+1:=⟨k-1,by omega⟩
   rw[show (((j+1:Nat):Int)-1)=(j:Int) by omega]
   have hj0:(0:Int)≤(j:Int):=by omega
   have hj1:(j:Int)<32:=by omega
   have hw:=Zd7 n j
   have hpd:=ZsC j
   have hj:j<32:=by omega
   have e1:=Zkg n j
   have e2:=Zkg Fp.P j
   have eb:bt n j=((n/256^j%256:Nat):Int):=rfl
   have ep:pd j=Fp.P/256^j%256:=rfl
   by_cases hne:bt n j=pd j
   ·have hI':n/256^j=Fp.P/256^j:=by omega
    have HI:=Zq hI'
    have hb:(bt n j != ((pd j:Nat):Int))=false:=by rw[bne_eq_false_iff_eq];exact hne
    clear hI hI' e1 e2 eb ep hne hn
    go_wp2_with fail
    generalize hW:World.alloc _ _=W1
    refine ZaC (fun w'=>∃ o d,w'=W1.plus o d) (by kernel_rfl) (by kernel_rfl) ⟨_,_,rfl⟩ ?_
    subst hW
    iterate 5 (refine Zat ⟨_,#[],0,rfl⟩ (Zaa rfl) (by rintro K _ ⟨o,d,rfl⟩ hK;go_simp;exact hK _ ⟨o,d,rfl⟩) ?_)
    refine Zap (v:=(.int .i64 (pd j))) (Zaa rfl) (by rintro K _ ⟨o,d,rfl⟩ hK;go_simp;refine(ZdC j hj _).mono ?_;rintro e w' ⟨rfl,hbw⟩;obtain⟨o',n',rfl⟩:=Zaf hbw;exact⟨_,rfl,hK _ ⟨_,_,World.plus_plus _ _ _ _ _⟩⟩) ?_
    refine Zat ⟨_,#[],0,rfl⟩ (Zaa rfl) (by rintro K _ ⟨o,d,rfl⟩ hK;go_simp;exact hK _ ⟨o,d,rfl⟩) ?_
    refine Zaw ?_
    rintro _ ⟨o2,n2,rfl⟩
    go_wp2_with fail
    go_roundw
    case rel=>exact⟨j,_,_,by omega,by go_num,HI.out,rfl⟩
    case measure=>simp[intOf]
   ·have hcmp:decide (((pd j:Nat):Int)<bt n j)=decide (Fp.P≤n):=by
     by_cases hlt:((pd j:Nat):Int)<bt n j
     ·rw[decide_eq_true hlt,decide_eq_true (Nat.le_of_lt (Zh2 (k:=256^j) (by omega)))]
     ·rw[decide_eq_false hlt,decide_eq_false (Nat.not_le.2 (Zh2 (k:=256^j) (by omega)))]
    have Hc:=Zq hcmp
    have hb:(bt n j != ((pd j:Nat):Int))=true:=by rw[bne_iff_ne];exact hne
    clear hI e1 e2 eb ep hne hn hcmp
    go_wp2_with fail
    generalize hW:World.alloc _ _=W1
    refine ZaC (fun w'=>∃ o d,w'=W1.plus o d) (by kernel_rfl) (by kernel_rfl) ⟨_,_,rfl⟩ ?_
    subst hW
    iterate 5 (refine Zat ⟨_,#[],0,rfl⟩ (Zaa rfl) (by rintro K _ ⟨o,d,rfl⟩ hK;go_simp;exact hK _ ⟨o,d,rfl⟩) ?_)
    refine Zap (v:=(.int .i64 (pd j))) (Zaa rfl) (by rintro K _ ⟨o,d,rfl⟩ hK;go_simp;refine(ZdC j hj _).mono ?_;rintro e w' ⟨rfl,hbw⟩;obtain⟨o',n',rfl⟩:=Zaf hbw;exact⟨_,rfl,hK _ ⟨_,_,World.plus_plus _ _ _ _ _⟩⟩) ?_
    refine Zat ⟨_,#[],0,rfl⟩ (Zaa rfl) (by rintro K _ ⟨o,d,rfl⟩ hK;go_simp;exact hK _ ⟨o,d,rfl⟩) ?_
    refine Zaw ?_
    rintro _ ⟨o2,n2,rfl⟩
    go_wp2_with fail
    generalize hW:World.alloc _ _=W1
    refine ZaC (fun w'=>∃ o d,w'=W1.plus o d) (by kernel_rfl) (by kernel_rfl) ⟨_,_,rfl⟩ ?_
    subst hW
    iterate 5 (refine Zat ⟨_,#[],0,rfl⟩ (Zaa rfl) (by rintro K _ ⟨o,d,rfl⟩ hK;go_simp;exact hK _ ⟨o,d,rfl⟩) ?_)
    refine Zap (v:=(.int .i64 (pd j))) (Zaa rfl) (by rintro K _ ⟨o,d,rfl⟩ hK;go_simp;refine(ZdC j hj _).mono ?_;rintro e w' ⟨rfl,hbw⟩;obtain⟨o',n',rfl⟩:=Zaf hbw;exact⟨_,rfl,hK _ ⟨_,_,World.plus_plus _ _ _ _ _⟩⟩) ?_
    iterate 2 (refine Zat ⟨_,#[],0,rfl⟩ (Zaa rfl) (by rintro K _ ⟨o,d,rfl⟩ hK;go_simp;exact hK _ ⟨o,d,rfl⟩) ?_)
    refine Zaw ?_
    rintro _ ⟨o3,n3,rfl⟩
    go_wp2_with fail
    go_ret
    exact⟨congrArg (fun b=>Ending.returned (.bool b)) Hc.out,Zag (Zab (Below.refl _ _) _) _ _⟩
def bw (n k:Nat):Nat:=if n%256^k<Fp.P%256^k then 1 else 0
theorem ZdG (n k:Nat):n%256^(k+1)=n%256^k+(n/256^k%256)*256^k:=by
 rw[Nat.pow_succ,Nat.mod_mul,Nat.mul_comm (256^k)]
theorem ZnD (r p q:Nat) (hq:0<q):(r+p)/q=r/q+p/q+(if (r+p)%q<p%q then 1 else 0):=by
 have e:r+p=(r%q+p%q)+q*(r/q+p/q):=by
  have:=Nat.div_add_mod r q;have:=Nat.div_add_mod p q
  rw[Nat.mul_add];omega
 have lr:=Nat.mod_lt r hq;have lp:=Nat.mod_lt p hq
 have h1:(r+p)/q=(r%q+p%q)/q+(r/q+p/q):=by
  conv=>lhs;rw[e]
  exact Nat.add_mul_div_left _ _ hq
 have h2:(r+p)%q=(r%q+p%q)%q:=by
  conv=>lhs;rw[e]
  exact Nat.add_mul_mod_self_left _ _ _
 rw[h1,h2]
 rcases Nat.lt_or_ge (r%q+p%q) q with g | g
 ·rw[Nat.div_eq_of_lt g,Nat.mod_eq_of_lt g,if_neg (by omega)];omega
 ·have e1:(r%q+p%q)/q=1:=Nat.div_eq_of_lt_le (by omega) (by omega)
  have e2:(r%q+p%q)%q=r%q+p%q-q:=by rw[Nat.mod_eq_sub_mod g,Nat.mod_eq_of_lt (by omega)]
  rw[e1,e2,if_pos (by omega)];omega
theorem ZnV {a b q:Nat} (h:a<b):a*q+q≤b*q:=by
 have:=Nat.mul_le_mul_right q (show a+1≤b from h)
 rw[Nat.add_mul,Nat.one_mul] at this;exact this
theorem Zmt (n k:Nat) (h:Fp.P≤n) :
  ((n/256^k%256:Nat):Int)-pd k-bw n k<0∧bw n (k+1)=1∧(((n-Fp.P)/256^k%256:Nat):Int)=((n/256^k%256:Nat):Int)-pd k-bw n k+256 ∨
  0≤((n/256^k%256:Nat):Int)-pd k-bw n k∧bw n (k+1)=0∧(((n-Fp.P)/256^k%256:Nat):Int)=((n/256^k%256:Nat):Int)-pd k-bw n k:=by
 have hq:0<256^k:=Nat.pow_pos (by decide)
 have hc:=ZnD (n-Fp.P) Fp.P (256^k) hq
 rw[Nat.sub_add_cancel h] at hc
 have en:=ZdG n k;have ep:=ZdG Fp.P k
 have ln:=Nat.mod_lt n hq;have lp:=Nat.mod_lt Fp.P hq
 unfold bw pd
 rw[en,ep]
 generalize hN:n/256^k=N at *
 generalize hP:Fp.P/256^k=Q at *
 generalize hR:(n-Fp.P)/256^k=R at *
 generalize 256^k=q at *
 generalize n%q=n0 at *
 generalize Fp.P%q=p0 at *
 have dn:=Nat.mod_lt N (show 0<256 by decide);have dp:=Nat.mod_lt Q (show 0<256 by decide)
 have g1:N%256<Q%256→N%256*q+q≤Q%256*q:=ZnV
 have g2:Q%256<N%256→Q%256*q+q≤N%256*q:=ZnV
 have g3:N%256=Q%256→N%256*q=Q%256*q:=fun e=>by rw[e]
 generalize N%256*q=X at *
 generalize Q%256*q=Y at *
 clear hN hP hR en ep h hq
 by_cases c1:n0<p0
 ·rw[if_pos c1] at hc ⊢
  by_cases c2:n0+X<p0+Y
  ·rw[if_pos c2];omega
  ·rw[if_neg c2];omega
 ·rw[if_neg c1] at hc ⊢
  by_cases c2:n0+X<p0+Y
  ·rw[if_pos c2];omega
  ·rw[if_neg c2];omega
def mixA (r n k:Nat):Array Value:=((List.range 32).map fun i=>Value.int .u8 (if i<k then bt r i else bt n i)).toArray
@[go_sem] theorem Zdt (r n k:Nat):(mixA r n k).size=32:=by simp[mixA]
@[go_sem] theorem Zwa (r n k:Nat):Zbg (mixA r n k)=true:=by simp[Zbg,mixA,Value.oneCell']
theorem Zem (r n k i:Nat) (h:i<32):(mixA r n k)[i]?=some (.int .u8 (if i<k then bt r i else bt n i)):=by simp[mixA,h]
theorem Zqd (r n:Nat):mixA r n 0=keyA n:=by
 apply Array.ext_getElem?
 intro i
 by_cases h:i<32
 ·rw[Zem _ _ _ _ h,keyA_get n i h];simp
 ·rw[Array.getElem?_eq_none (by rw[Zdt];omega),Array.getElem?_eq_none (by rw[keyA_size];omega)]
theorem Zm6 (r n:Nat):mixA r n 32=keyA r:=by
 apply Array.ext_getElem?
 intro i
 by_cases h:i<32
 ·rw[Zem _ _ _ _ h,keyA_get r i h];simp[h]
 ·rw[Array.getElem?_eq_none (by rw[Zdt];omega),Array.getElem?_eq_none (by rw[keyA_size];omega)]
theorem Zkw (r n k:Nat) (hk:k<32):(mixA r n k).setIfInBounds k (.int .u8 (bt r k))=mixA r n (k+1):=by
 apply Array.ext_getElem?
 intro i
 rw[Array.getElem?_setIfInBounds]
 by_cases h:i<32
 ·rw[Zem _ _ _ _ h,Zem _ _ _ _ h]
  by_cases e:k=i
  ·subst e;simp[Zdt,h]
  ·rw[if_neg e]
   by_cases h1:i<k
   ·simp[h1,show i<k+1 by omega]
   ·simp[h1,show ¬i<k+1 by omega]
 ·rw[Array.getElem?_eq_none (by rw[Zdt];omega),Array.getElem?_eq_none (by rw[Zdt];omega),if_neg (by omega)]
theorem Zsq (r n k:Nat) (hk:k<32) (h:k<(mixA r n k).size):(mixA r n k)[k]=.int .u8 (bt n k):=by
 have:=Zem r n k k hk
 rw[Array.getElem?_eq_getElem h,if_neg (by omega)] at this
 exact Option.some.inj this
theorem ZvD (n:Nat) (hn:Fp.P≤n) (w:World) :
  Calls Tryz.prog 142 #[kv n] w fun e w'=>e=.returned (kv (n-Fp.P))∧Below w.heap.size w w':=by
 obtain⟨r,hr⟩:∃r,r=n-Fp.P:=⟨_,rfl⟩
 rw[←hr]
 go_enter Tryz.func142,Tryz.ntmps142
 go_wp2_with fail
 go_loopw [3,4] (fun b i w'=>∃ (k:Nat) (o:Array Obj) (d:Nat),k≤32∧i=.int .i64 k∧b=.int .i64 (bw n k) ∧
  w'=((w.alloc (.cells (mixA r n k) 23)).alloc (.cells #[.int .u8 0,.int .u8 0,.int .u8 0,.int .u8 0,.int .u8 0,.int .u8 0,.int .u8 0,.int .u8 0,.int .u8 0,.int .u8 0,.int .u8 0,.int .u8 0,.int .u8 0,.int .u8 0,.int .u8 0,.int .u8 0,.int .u8 0,.int .u8 0,.int .u8 0,.int .u8 0,.int .u8 0,.int .u8 0,.int .u8 0,.int .u8 0,.int .u8 0,.int .u8 0,.int .u8 0,.int .u8 0,.int .u8 0,.int .u8 0,.int .u8 0,.int .u8 0] 23)).plus o d) (fun _ i _=>32-(intOf i).toNat)
 case atStart =>
  refine⟨0,#[],w.drawn,by decide,rfl,by simp[bw,Nat.mod_one],?_⟩
  rw[Zqd];rfl
 case round =>
  obtain⟨k,o,d,hk,rfl,rfl,rfl⟩:=hrel
  by_cases hk32:k<32
  ·have hst:=Zmt n k hn
   have hset:=Zkw r n k hk32
   have hat:=Zsq r n k hk32
   have hw:=Zd7 n k
   have hk0:(0:Int)≤(k:Int):=by omega
   have hk1:(k:Int)<32:=by omega
   have hpd:=ZsC k
   obtain⟨hb0,hb1⟩:=ZaO n k
   have hbw:bw n k≤1:=by unfold bw;split<;>decide
   have ebt:bt n k=((n/256^k%256:Nat):Int):=rfl
   have ert:bt r k=(((n-Fp.P)/256^k%256:Nat):Int):=by rw[←hr];rfl
   rw[←ebt,←ert] at hst
   obtain⟨hrb0,hrb1⟩:=ZaO r k
   obtain⟨t1,ht1⟩:∃t:Int,t=bt n k-pd k:=⟨_,rfl⟩
   obtain⟨t,ht⟩:∃t:Int,t=t1-bw n k:=⟨_,rfl⟩
   have s1:IntKind.i64.wrap (bt n k-((pd k:Nat):Int))=t1:=by rw[←ht1];exact IntWalk.i64_in _ (by omega)
   have s2:IntKind.i64.wrap (t1-((bw n k:Nat):Int))=t:=by rw[←ht];exact IntWalk.i64_in _ (by omega)
   have tlo:-257≤t:=by omega
   have thi:t≤255:=by omega
   rcases hst with ⟨hlt,hnb,hd⟩ | ⟨hge,hnb,hd⟩
   ·have hneg:t<0:=by omega
    have hu:IntKind.u8.wrap (t+256)=bt r k:=by rw[IntWalk.u8_in _ (by omega)];omega
    have Hnb:=Zq hnb
    clear hlt hnb hd hb0 hb1 hbw ebt ert hrb0 hrb1 ht1 ht hpd hn hr
    go_wp2_with fail
    generalize hW:World.alloc _ _=W1
    refine ZaC (fun w'=>∃ o d,w'=W1.plus o d) (by kernel_rfl) (by kernel_rfl) ⟨_,_,rfl⟩ ?_
    subst hW
    iterate 5 (refine Zat ⟨_,#[],0,rfl⟩ (Zaa rfl) (by rintro K _ ⟨o,d,rfl⟩ hK;go_simp;exact hK _ ⟨o,d,rfl⟩) ?_)
    refine Zap (v:=(.int .i64 (pd k))) (Zaa rfl) (by rintro K _ ⟨o,d,rfl⟩ hK;go_simp;refine(ZdC k hk32 _).mono ?_;rintro e w' ⟨rfl,hbw⟩;obtain⟨o',n',rfl⟩:=Zaf hbw;exact⟨_,rfl,hK _ ⟨_,_,World.plus_plus _ _ _ _ _⟩⟩) ?_
    iterate 4 (refine Zat ⟨_,#[],0,rfl⟩ (Zaa rfl) (by rintro K _ ⟨o,d,rfl⟩ hK;go_simp;exact hK _ ⟨o,d,rfl⟩) ?_)
    refine Zaw ?_
    rintro _ ⟨o2,n2,rfl⟩
    go_wp2_with fail
    go_roundw
    case rel=>exact⟨k+1,_,_,by omega,by go_num,by rw[Hnb.out];rfl,rfl⟩
    case measure=>simp[intOf];omega
   ·have hpos:0≤t:=by omega
    have hu:IntKind.u8.wrap t=bt r k:=by rw[IntWalk.u8_in _ (by omega)];omega
    have Hnb:=Zq hnb
    clear hge hnb hd hb0 hb1 hbw ebt ert hrb0 hrb1 ht1 ht hpd hn hr
    go_wp2_with fail
    generalize hW:World.alloc _ _=W1
    refine ZaC (fun w'=>∃ o d,w'=W1.plus o d) (by kernel_rfl) (by kernel_rfl) ⟨_,_,rfl⟩ ?_
    subst hW
    iterate 5 (refine Zat ⟨_,#[],0,rfl⟩ (Zaa rfl) (by rintro K _ ⟨o,d,rfl⟩ hK;go_simp;exact hK _ ⟨o,d,rfl⟩) ?_)
    refine Zap (v:=(.int .i64 (pd k))) (Zaa rfl) (by rintro K _ ⟨o,d,rfl⟩ hK;go_simp;refine(ZdC k hk32 _).mono ?_;rintro e w' ⟨rfl,hbw⟩;obtain⟨o',n',rfl⟩:=Zaf hbw;exact⟨_,rfl,hK _ ⟨_,_,World.plus_plus _ _ _ _ _⟩⟩) ?_
    iterate 4 (refine Zat ⟨_,#[],0,rfl⟩ (Zaa rfl) (by rintro K _ ⟨o,d,rfl⟩ hK;go_simp;exact hK _ ⟨o,d,rfl⟩) ?_)
    refine Zaw ?_
    rintro _ ⟨o2,n2,rfl⟩
    go_wp2_with fail
    go_roundw
    case rel=>exact⟨k+1,_,_,by omega,by go_num,by rw[Hnb.out];rfl,rfl⟩
    case measure=>simp[intOf];omega
  ·obtain rfl:k=32:=by omega
   rw[Zm6]
   clear hn hr
   go_wp2_with fail
   refine bodyPost_ret (v:=kv r) (Zav Tryz.results142 _ _ _ rfl (by go_simp) (by go_simp)) rfl ⟨rfl,?_⟩
   repeat (first | apply Zag | apply Zab | exact Below.refl _ _)
theorem Zds:∀(l:List Nat) (b:Nat),Zas (l++[b])=Zas l+256^l.length*b
 | [],b=>by simp[Zas]
 | x::l,b=>by
  simp only[List.cons_append,Zas,Zds l b,List.length_cons,Nat.pow_succ]
  rw[Nat.mul_add,Nat.mul_comm (256^l.length) 256,Nat.mul_assoc];omega
theorem ZcW (m:Nat):∀k,Zas ((List.range k).map fun i=>m/256^i%256)=m%256^k
 | 0=>by simp[Zas,Nat.mod_one]
 | k+1=>by
  rw[List.range_succ,List.map_append,List.map_singleton,Zds,ZcW m k,ZdG,List.length_map,List.length_range,Nat.mul_comm]
def Zfn (cs:Array Value):Nat:=Zas (cs.toList.map fun v=>(intOf v).toNat)
theorem ZfZ (m:Nat) (h:m<115792089237316195423570985008687907853269984665640564039457584007913129639936):Zfn (keyA m)=m:=by
 have e:(keyA m).toList.map (fun v=>(intOf v).toNat)=(List.range 32).map fun i=>m/256^i%256:=by
  apply List.ext_getElem?
  intro i
  by_cases hi:i<32
  ·rw[List.getElem?_map,Array.getElem?_toList,keyA_get m i hi]
   rw[List.getElem?_map,List.getElem?_range hi]
   show some ((bt m i).toNat)=some (m/256^i%256)
   unfold bt
   rw[Int.toNat_natCast]
  ·rw[List.getElem?_eq_none (by simp[keyA_size];omega),List.getElem?_eq_none (by simp;omega)]
 unfold Zfn
 rw[e,ZcW,Nat.mod_eq_of_lt (by simpa using h)]
theorem Zpi (n:Nat) (hn:n<115792089237316195423570985008687907853269984665640564039457584007913129639936) (w:World) :
  Calls Tryz.prog 114 #[kv n] w fun e w'=>e=.returned (kv (n%Fp.P))∧Below w.heap.size w w':=by
 go_enter Tryz.func114,Tryz.ntmps114
 go_wp2_with fail
 go_loopw [3] (fun _ w'=>∃ (m:Nat) (o:Array Obj) (d:Nat),m<115792089237316195423570985008687907853269984665640564039457584007913129639936∧m%Fp.P=n%Fp.P ∧
  w'=((w.alloc (.cells (keyA m) 23)).alloc (.cells #[.int .u8 0,.int .u8 0,.int .u8 0,.int .u8 0,.int .u8 0,.int .u8 0,.int .u8 0,.int .u8 0,.int .u8 0,.int .u8 0,.int .u8 0,.int .u8 0,.int .u8 0,.int .u8 0,.int .u8 0,.int .u8 0,.int .u8 0,.int .u8 0,.int .u8 0,.int .u8 0,.int .u8 0,.int .u8 0,.int .u8 0,.int .u8 0,.int .u8 0,.int .u8 0,.int .u8 0,.int .u8 0,.int .u8 0,.int .u8 0,.int .u8 0,.int .u8 0] 23)).plus o d) (fun _ w'=>Zfn (w'.rowOf w.heap.size))
 case atStart=>exact⟨n,#[],w.drawn,hn,rfl,rfl⟩
 case round =>
  obtain⟨m,o,d,hm,hI,rfl⟩:=hrel
  have Ha:=Zq (fun w=>ZnI m hm w)
  by_cases hP:Fp.P≤m
  ·have Hl:=Zq (fun w=>ZvD m hP w)
   obtain⟨r,hr⟩:∃r,r=m-Fp.P:=⟨_,rfl⟩
   have hrm:r<115792089237316195423570985008687907853269984665640564039457584007913129639936:=by omega
   have hpos:=Fp.P_pos
   have HI:Hid (r%Fp.P=n%Fp.P):=by
    show _=_
    rw[←hI,hr,←Nat.mod_eq_sub_mod hP]
   have Hd:=Zq (decide_eq_true hP)
   have HM:Hid (Zfn (keyA r)<Zfn (keyA m)):=by
    show _<_
    rw[ZfZ r hrm,ZfZ m hm];omega
   have Hr:=Zq hr
   clear hI hP hr hpos hn
   go_wp2_with fail
   refine(Ha.out _).mono ?_
   rintro e w' ⟨rfl,hbw⟩
   obtain⟨o1,n1,rfl⟩:=Zaf hbw
   clear hbw
   rw[Hd.out]
   go_wp2_with fail
   refine(Hl.out _).mono ?_
   rintro e w' ⟨rfl,hbw⟩
   obtain⟨o2,n2,rfl⟩:=Zaf hbw
   clear hbw
   rw[←Hr.out]
   go_wp2_with fail
   go_roundw
   case rel=>exact⟨r,_,_,hrm,HI.out,rfl⟩
   case measure =>
    have h1:=HM.out
    go_simp
  ·have hlt:m<Fp.P:=Nat.lt_of_not_le hP
   have Hv:Hid (n%Fp.P=m):=by show _=_;rw[←hI,Nat.mod_eq_of_lt hlt]
   have Hd:=Zq (decide_eq_false hP)
   clear hI hP hlt hn
   go_wp2_with fail
   refine(Ha.out _).mono ?_
   rintro e w' ⟨rfl,hbw⟩
   obtain⟨o1,n1,rfl⟩:=Zaf hbw
   clear hbw
   rw[Hd.out]
   go_wp2_with fail
   refine bodyPost_ret (v:=kv m) (Zav Tryz.results114 _ _ _ rfl (by go_simp) (by go_simp)) rfl ⟨by rw[Hv.out],?_⟩
   repeat (first | apply Zag | apply Zab | exact Below.refl _ _)
def dg (n k:Nat):List Nat:=(List.range k).map fun i=>n/256^i%256
theorem Znu (n k:Nat):dg n (k+1)=dg n k++[n/256^k%256]:=by simp[dg,List.range_succ]
theorem ZaV (n k:Nat):(dg n k).length=k:=by simp[dg]
theorem Zmu (n k i:Nat) (h:i<k):(dg n k)[i]?=some (n/256^i%256):=by simp[dg,h]
theorem Zqs (n k:Nat):Zas (dg n k)=n%256^k:=ZcW n k
theorem ZdV:∀(l m:List Nat),Zas (l++m)=Zas l+256^l.length*Zas m
 | [],m=>by simp[Zas]
 | x::l,m=>by
  simp only[List.cons_append,Zas,ZdV l m,List.length_cons,Nat.pow_succ]
  rw[Nat.mul_add,Nat.mul_comm (256^l.length) 256,Nat.mul_assoc];omega
theorem ZcP (l:List Nat) (k:Nat) (h:k<l.length):Zas (l.take (k+1))=Zas (l.take k)+256^k*l.getD k 0:=by
 rw[List.take_succ_eq_append_getElem h,Zds,List.length_take,Nat.min_eq_left (Nat.le_of_lt h)]
 simp[h]
theorem ZcB:∀(l:List Nat) (j x:Nat),j<l.length→Zas (l.set j (l.getD j 0+x))=Zas l+256^j*x
 | [],j,x,h=>by simp at h
 | y::l,0,x,_=>by simp[Zas];omega
 | y::l,j+1,x,h=>by
  have ih:=ZcB l j x (by simpa using h)
  simp only[List.set_cons_succ,List.getD_cons_succ,Zas,ih,Nat.pow_succ]
  rw[Nat.mul_add,Nat.mul_comm (256^j) 256,Nat.mul_assoc];omega
def cry (l:List Nat) (k:Nat):Nat:=Zas (l.take k)/256^k
theorem Zkd (l:List Nat):cry l 0=0:=by simp[cry,Zas]
theorem Zkp (l:List Nat) (k:Nat) (h:k<l.length):(l.getD k 0+cry l k)/256=cry l (k+1):=by
 unfold cry
 rw[ZcP l k h,Nat.pow_succ,←Nat.div_div_eq_div_mul,Nat.add_mul_div_left _ _ (Nat.pow_pos (by decide)),Nat.add_comm]
theorem Zep (l:List Nat) (k:Nat) (h:k≤l.length):Zas l=Zas (l.take k)+256^k*Zas (l.drop k):=by
 have:=ZdV (l.take k) (l.drop k)
 rw[List.take_append_drop,List.length_take,Nat.min_eq_left h] at this
 exact this
theorem Zni (l:List Nat) (k:Nat) (h:k<l.length):(l.getD k 0+cry l k)%256=Zas l/256^k%256:=by
 have e:=Zep l (k+1) h
 have hp:0<256^k:=Nat.pow_pos (by decide)
 rw[e,ZcP l k h]
 unfold cry
 rw[show Zas (l.take k)+256^k*l.getD k 0+256^(k+1)*Zas (l.drop (k+1))=Zas (l.take k)+256^k*(l.getD k 0+256*Zas (l.drop (k+1))) by
  rw[Nat.pow_succ,Nat.mul_add,Nat.mul_assoc];omega]
 rw[Nat.add_mul_div_left _ _ hp];omega
theorem ZnP (l:List Nat):cry l l.length=Zas l/256^l.length:=by unfold cry;rw[List.take_length]
def Most (m:Nat) (l:List Nat):Prop:=∀ i,l.getD i 0≤m
theorem ZkE (l:List Nat) (m:Nat) (h:Most m l):∀k,k≤l.length→cry l k≤m
 | 0,_=>by rw[Zkd];exact Nat.zero_le _
 | k+1,hk=>by
  have:=ZkE l m h k (by omega)
  have h2:=h k
  rw[←Zkp l k (by omega)];omega
theorem ZnG (x v m y:Nat) (h:x≤m) (ih:v*255+m≤y):(x+256*v)*255+m≤y*256:=by omega
theorem Zg7:∀(l:List Nat) (m:Nat),Most m l→Zas l*255+m≤m*256^l.length
 | [],m,_=>by simp[Zas]
 | x::l,m,h=>by
  have h1:x≤m:=h 0
  have ih:=Zg7 l m fun i=>h (i+1)
  simp only[Zas,List.length_cons,Nat.pow_succ]
  rw[←Nat.mul_assoc]
  exact ZnG _ _ _ _ h1 ih
def fold (l:List Nat):Nat:=Zas (l.take 32)+38*Zas (l.drop 32)
def nx (l:List Nat):List Nat:=dg (fold l) 32++[fold l/256^32]
def it (l:List Nat):Nat→List Nat
 | 0=>l
 | r+1=>nx (it l r)
theorem ZlN (l:List Nat):(nx l).length=33:=by simp[nx,ZaV]
theorem Zmc {m:Nat} {l:List Nat} (h:Most m l) (k:Nat):Most m (l.take k):=fun i=>by
 have:=h i
 rw[List.getD_eq_getElem?_getD] at this ⊢
 rw[List.getElem?_take]
 split
 ·exact this
 ·simp
theorem ZnR {m:Nat} {l:List Nat} (h:Most m l) (k:Nat):Most m (l.drop k):=fun i=>by
 have:=h (k+i)
 rw[List.getD_eq_getElem?_getD] at this ⊢
 rw[List.getElem?_drop];exact this
theorem Ziz {l:List Nat} {m:Nat} (h:Most m l) (h1:32≤l.length) (h2:l.length≤64):fold l/256^32≤m:=by
 have a:=Zg7 _ m (Zmc h 32)
 have b:=Zg7 _ m (ZnR h 32)
 rw[List.length_take,Nat.min_eq_left h1] at a
 have c:256^(l.drop 32).length≤256^32:=Nat.pow_le_pow_right (by decide) (by rw[List.length_drop];omega)
 have d:=Nat.mul_le_mul_left m c
 unfold fold
 rw[Nat.div_le_iff_le_mul_add_pred (by decide)]
 have e:m*256^32=256^32*m:=Nat.mul_comm _ _
 generalize 256^(l.drop 32).length=q at *
 generalize m*q=y at *
 generalize Zas (l.take 32)=s at *
 generalize Zas (l.drop 32)=t at *
 have p:0<256^32:=by decide
 rw[e] at a d
 generalize 256^32*m=z at *
 omega
theorem Ztb {l:List Nat} {m:Nat} (hm:255≤m) (h:Most m l) (h1:32≤l.length) (h2:l.length≤64):Most m (nx l):=fun i=>by
 unfold nx
 rw[List.getD_eq_getElem?_getD]
 by_cases hi:i<32
 ·rw[List.getElem?_append_left (by rw[ZaV];exact hi),Zmu _ _ _ hi]
  show _%256≤m
  have:=Nat.mod_lt (fold l/256^i) (show 0<256 by decide)
  omega
 ·rw[List.getElem?_append_right (by rw[ZaV];omega),ZaV]
  by_cases h32:i=32
  ·subst h32;exact Ziz h h1 h2
  ·rw[List.getElem?_eq_none (by simp;omega)];simp
theorem ZfX (l:List Nat) (h1:32≤l.length) (h2:l.length≤64):∀r,32≤(it l r).length∧(it l r).length≤64
 | 0=>⟨h1,h2⟩
 | r+1=>by rw[it,ZlN];decide
theorem Zmq (l:List Nat) (m:Nat) (hm:255≤m) (h:Most m l) (h1:32≤l.length) (h2:l.length≤64):∀r,Most m (it l r)
 | 0=>h
 | r+1=>Ztb hm (Zmq l m hm h h1 h2 r) (ZfX l h1 h2 r).1 (ZfX l h1 h2 r).2
theorem Zjm (l:List Nat):fold (nx l)=fold l%256^32+38*(fold l/256^32):=by
 unfold nx
 generalize fold l=v
 unfold fold
 rw[List.take_left' (ZaV v 32),List.drop_left' (ZaV v 32),Zqs]
 simp[Zas]
theorem Zuk:256^32=2*Fp.P+38:=by decide +kernel
theorem ZoO (l:List Nat) (h:32≤l.length):fold l%Fp.P=Zas l%Fp.P:=by
 rw[Zep l 32 h,Zuk]
 unfold fold
 rw[show Zas (l.take 32)+(2*Fp.P+38)*Zas (l.drop 32)=Zas (l.take 32)+38*Zas (l.drop 32)+Fp.P*(2*Zas (l.drop 32)) by
  rw[Nat.add_mul,Nat.mul_comm 2 Fp.P,Nat.mul_assoc];omega]
 rw[Nat.add_mul_mod_self_left]
theorem ZfE (v:Nat):(v%256^32+38*(v/256^32))%Fp.P=v%Fp.P:=by
 have e:=Nat.mod_add_div v (256^32)
 rw[show v%Fp.P=(v%256^32+256^32*(v/256^32))%Fp.P by rw[e]]
 generalize v%256^32=a
 generalize v/256^32=b
 rw[Zuk,show a+(2*Fp.P+38)*b=a+38*b+Fp.P*(2*b) by rw[Nat.add_mul,Nat.mul_comm 2 Fp.P,Nat.mul_assoc];omega,Nat.add_mul_mod_self_left]
theorem four (l:List Nat) (h:Most 4194304 l) (h1:32≤l.length) (h2:l.length≤64) :
  ∃ n,n<256^32∧n%Fp.P=Zas l%Fp.P∧it l 4=dg n 32++[0]:=by
 have e1:=Ziz h h1 h2
 have m1:=ZoO l h1
 have f2:=Zjm l
 have f3:=Zjm (nx l)
 have f4:=Zjm (nx (nx l))
 have a2:=ZfE (fold l)
 have a3:=ZfE (fold (nx l))
 have a4:=ZfE (fold (nx (nx l)))
 rw[←f2] at a2;rw[←f3] at a3;rw[←f4] at a4
 have hlt:fold (nx (nx (nx l)))<256^32:=by
  rw[show (256:Nat)^32=115792089237316195423570985008687907853269984665640564039457584007913129639936 by decide] at *
  omega
 refine⟨fold (nx (nx (nx l))),hlt,by rw[a4,a3,a2,m1],?_⟩
 show nx (nx (nx (nx l)))=_
 rw[nx,Nat.div_eq_of_lt hlt]
open Go.RowKit Go.Shelf Go.Hold
theorem ZeZ:(Tryz.prog.info? 3).map (fun i=>(i.zero,i.size,i.bytes))=some (some (.int .i64 0),1,8):=by kernel_rfl
def ints (l:List Nat):List Value:=l.map fun n:Nat=>Value.int .i64 (n:Int)
theorem Zjv (l:List Nat):(ints l).length=l.length:=by simp[ints]
theorem ZoZ (l:List Nat) (i:Nat) (h:i<l.length):(ints l)[i]?=some (.int .i64 (l.getD i 0:Nat)):=by simp[ints,h]
theorem Zl5 (l:List Nat) (n:Nat):ints (l++[n])=ints l++[.int .i64 (n:Int)]:=by simp[ints]
def Own (w:World) (B:Nat) (v:Value) (l:List Nat):Prop:=w.ownsRow B 3 1 v l.length (ints l)
theorem Zbk (w:World) (B:Nat):Own w B (.slice none 0 0) []:=World.ownsRow_nil _ _ _ _
theorem Own.snoc {w:World} {B:Nat} {v:Value} {l:List Nat} {n:Nat} (h:w.ownsRow B 3 1 v (l.length+1) (ints l++[.int .i64 (n:Int)])):Own w B v (l++[n]):=by
 unfold Own;rw[Zl5,List.length_append];exact h
theorem Own.below {w w':World} {B:Nat} {v:Value} {l:List Nat} (h:Own w B v l) (hb:Below w.heap.size w w'):Own w' B v l :=
 h.kept (row:=none) ⟨hb.os,hb.tape,hb.output,hb.size,fun k hk _=>hb.block k hk⟩ (by cases hv:v.ownBlock<;>simp)
theorem Own.mono {w:World} {B B':Nat} {v:Value} {l:List Nat} (h:Own w B v l) (hB:B'≤B):Own w B' v l:=by
 refine⟨h.1,?_⟩
 rcases h.2 with hn | ⟨g,cap,cur,rfl,hb,rest⟩
 ·exact .inl hn
 ·exact .inr ⟨g,cap,cur,rfl,Nat.le_trans hB hb,rest⟩
theorem Own.addr {w:World} {B:Nat} {v:Value} {l:List Nat} (h:Own w B v l) (hl:0<l.length):∃g cap,v=.slice (some ⟨g,0,none⟩) l.length cap∧B≤g∧g<w.heap.size∧l.length≤cap:=by
 rcases h.2 with ⟨_,h0⟩ | ⟨g,cap,cur,rfl,hb,hg,hc,_⟩
 ·omega
 ·exact⟨g,cap,rfl,hb,(Array.getElem?_eq_some_iff.1 hg).1,hc⟩
theorem Own.cell {w:World} {B g cap:Nat} {l:List Nat} (h:Own w B (.slice (some ⟨g,0,none⟩) l.length cap) l) (i:Nat) (hi:i<l.length):w.cell? ⟨g,i,none⟩=some (.int .i64 (l.getD i 0:Nat)):=by
 have:=World.ownsRow.cellAt h i (by omega)
 rw[this,ZoZ l i hi]
theorem Zkv (n:Nat) (w:World) :
  Calls Tryz.prog 161 #[kv n] w fun e w'=>∃ v,e=.returned v∧Own w' w.heap.size v (dg n 32)∧Below w.heap.size w w':=by
 obtain⟨i0,hi,hz0,hz1,hz2⟩:=info_parts ZeZ
 go_enter Tryz.func161,Tryz.ntmps161
 go_wp2_with fail
 go_loopw [3,4] (fun v i wr=>∃ k:Nat,k≤32∧i=.int .i64 k∧Own wr (w.heap.size+1) v (dg n k)∧Below (w.heap.size+1) (w.alloc (.cells (keyA n) 23)) wr) (fun _ i _=>32-(intOf i).toNat)
 case atStart=>exact⟨0,by decide,rfl,Zbk _ _,Below.refl _ _⟩
 case round =>
  obtain⟨k,hk,rfl,hown,hbel⟩:=hrel
  by_cases hk32:k<32
  ·have hcx:wr.cell? ⟨w.heap.size,k,none⟩=some (.int .u8 (bt n k)):=by
    rw[hbel.cell (by simp)];simp[keyA_get n k hk32]
   have hw:=Zd7 n k
   have hk0:(0:Int)≤(k:Int):=by omega
   have hk1:(k:Int)<32:=by omega
   have hsz:=hbel.size
   have hsz:w.heap.size+1≤wr.heap.size:=by simpa using hsz
   have Hown:=Zq hown
   have Hbel:=Zq hbel
   clear hown hbel
   go_wp2_with (at_builtin;refine wpList_append_own _ rfl _ _ 196 rfl (w.heap.size+1) 3 i0 (.int .i64 0) 1 8 Tryz.underlying196 hi hz0 hz1 hz2 rfl (by decide) _ _ _ rfl (Hown.out.alloc _) ⟨wr.heap.size,0,none⟩ 1 1 [.int .i64 (bt n k)] rfl rfl ?c1 ?c2 ?c3 ?c4 ?c5 ?_)
   case c1 =>
    intro j u hj
    match j,hj with
    | 0,hj=>simp at hj;subst hj;simp[Addr.add]
   case c2=>intro u hu;simp at hu;subst hu;rfl
   case c3=>rw[ZaV];unfold maxLen;omega
   case c4=>rw[ZaV];omega
   case c5=>simp;omega
   intro v' w1 hown' hgrow _
   have Hn:Hid (Own w1 (w.heap.size+1) v' (dg n (k+1))):=by
    show Own _ _ _ _
    rw[Znu];exact Own.snoc hown'
   have Hb:Hid (Below (w.heap.size+1) (w.alloc (.cells (keyA n) 23)) w1):=by
    refine(Hbel.out.alloc hsz _).grown hgrow (by simp;omega) ?_
    intro g hg
    exact(World.ownsRow.lt Hown.out g hg).1
   clear hown' hgrow Hown Hbel
   go_wp2_with fail
   go_roundw
   case rel=>exact⟨k+1,by omega,by go_num,Hn.out,Hb.out⟩
   case measure=>simp[intOf];omega
  ·obtain rfl:k=32:=by omega
   have Hown:=Zq hown
   have Hbel:=Zq hbel
   clear hown hbel
   go_wp2_with fail
   go_ret
   exact⟨_,rfl,Hown.out.mono (by omega),(Zab (Below.refl _ _) _).trans (Hbel.out.mono (by omega))⟩
theorem Zo1 (l:List Nat) (g cap:Nat) (w:World) (hl:l.length≤64) (hm:Most 1073741824 l) (hg:g<w.heap.size) (h:Own w 0 (.slice (some ⟨g,0,none⟩) l.length cap) l) :
  Calls Tryz.prog 163 #[.slice (some ⟨g,0,none⟩) l.length cap] w fun e w' =>
   ∃ v,e=.returned v∧Own w' w.heap.size v (dg (Zas l) l.length++[Zas l/256^l.length])∧Below w.heap.size w w':=by
 obtain⟨i0,hi,hz0,hz1,hz2⟩:=info_parts ZeZ
 have H:=Zq h
 have Hm:=Zq hm
 obtain⟨len,elen⟩:∃x,x=l.length:=⟨_,rfl⟩
 rw[←elen] at hl ⊢
 have Helen:=Zq elen
 clear h hm elen
 go_enter Tryz.func163,Tryz.ntmps163
 go_wp2_with fail
 go_loopw [3,4,5] (fun v c i wr=>∃ k:Nat,k≤len∧i=.int .i64 k∧c=.int .i64 (cry l k)∧Own wr w.heap.size v (dg (Zas l) k)∧Below w.heap.size w wr) (fun _ _ i _=>len-(intOf i).toNat)
 case atStart=>exact⟨0,Nat.zero_le _,rfl,by rw[Zkd];rfl,Zbk _ _,Below.refl _ _⟩
 case round =>
  obtain⟨k,hk,rfl,rfl,hown,hbel⟩:=hrel
  have hsz:=hbel.size
  have Hown:=Zq hown
  have Hbel:=Zq hbel
  clear hown hbel
  by_cases hkl:k<len
  ·have hkl':k<l.length:=by rw[←Helen.out];exact hkl
   obtain⟨x,ex⟩:∃x,x=l.getD k 0:=⟨_,rfl⟩
   have hcx:wr.cell? ⟨g,k,none⟩=some (.int .i64 (x:Int)):=by
    rw[Hbel.out.cell hg,H.out.cell k hkl',ex]
   have hx:x≤1073741824:=by rw[ex];exact Hm.out k
   have hc:=ZkE l _ Hm.out k (by omega)
   obtain⟨c,ec⟩:∃x,x=cry l k:=⟨_,rfl⟩
   rw[←ec] at hc ⊢
   obtain⟨t,et⟩:∃t,t=x+c:=⟨_,rfl⟩
   have hw:IntKind.i64.wrap ((x:Int)+(c:Int))=(t:Int):=by rw[IntWalk.i64_in _ (by omega)];omega
   obtain⟨dd,ed⟩:∃y,y=t%256:=⟨_,rfl⟩
   obtain⟨q,eq⟩:∃y,y=t/256:=⟨_,rfl⟩
   have h1:(t:Int).tmod 256=(dd:Int):=by rw[ed];rfl
   have h2:(t:Int).tdiv 256=(q:Int):=by rw[eq];rfl
   have HD:Hid (dd=Zas l/256^k%256):=by
    show _=_
    rw[ed,et,ex,ec,Zni l k hkl']
   have HQ:Hid (q=cry l (k+1)):=by
    show _=_
    rw[eq,et,ex,ec,Zkp l k hkl']
   have hdd:dd<256:=by omega
   have hq:q≤1073741824:=by omega
   have ht:t≤2147483648:=by omega
   clear ex ec et ed eq hkl'
   go_wp2_with (at_builtin;refine wpList_append_own _ rfl _ _ 196 rfl w.heap.size 3 i0 (.int .i64 0) 1 8 Tryz.underlying196 hi hz0 hz1 hz2 rfl (by decide) _ _ _ rfl (Hown.out.alloc _) ⟨wr.heap.size,0,none⟩ 1 1 [.int .i64 (dd:Int)] rfl rfl ?c1 ?c2 ?c3 ?c4 ?c5 ?_)
   case c1 =>
    intro j u hj
    match j,hj with
    | 0,hj=>simp at hj;subst hj;simp[Addr.add]
   case c2=>intro u hu;simp at hu;subst hu;rfl
   case c3=>rw[ZaV];unfold maxLen;omega
   case c4=>rw[ZaV];omega
   case c5=>simp;omega
   intro v' w1 hown' hgrow _
   have Hn:Hid (Own w1 w.heap.size v' (dg (Zas l) (k+1))):=by
    show Own _ _ _ _
    rw[Znu,←HD.out];exact Own.snoc hown'
   have Hb:Hid (Below w.heap.size w w1):=by
    refine(Hbel.out.alloc hsz _).grown hgrow (by simp;omega) ?_
    intro g hg
    exact(World.ownsRow.lt Hown.out g hg).1
   clear hown' hgrow Hown Hbel
   go_wp2_with fail
   go_roundw
   case rel=>exact⟨k+1,by omega,by go_num,by rw[←HQ.out],Hn.out,Hb.out⟩
   case measure=>simp[intOf];omega
  ·obtain rfl:k=len:=by omega
   obtain⟨c,ec⟩:∃x,x=cry l k:=⟨_,rfl⟩
   have HC:Hid (c=Zas l/256^k):=by
    show _=_
    rw[ec,Helen.out,ZnP]
   rw[←ec]
   clear ec
   go_wp2_with (at_builtin;refine wpList_append_own _ rfl _ _ 196 rfl w.heap.size 3 i0 (.int .i64 0) 1 8 Tryz.underlying196 hi hz0 hz1 hz2 rfl (by decide) _ _ _ rfl (Hown.out.alloc _) ⟨wr.heap.size,0,none⟩ 1 1 [.int .i64 (c:Int)] rfl rfl ?c1 ?c2 ?c3 ?c4 ?c5 ?_)
   case c1 =>
    intro j u hj
    match j,hj with
    | 0,hj=>simp at hj;subst hj;simp[Addr.add]
   case c2=>intro u hu;simp at hu;subst hu;rfl
   case c3=>rw[ZaV];unfold maxLen;omega
   case c4=>rw[ZaV];omega
   case c5=>simp;omega
   intro v' w1 hown' hgrow _
   have Hn:Hid (Own w1 w.heap.size v' (dg (Zas l) k++[Zas l/256^k])):=by
    show Own _ _ _ _
    rw[←HC.out];exact Own.snoc hown'
   have Hb:Hid (Below w.heap.size w w1):=by
    refine(Hbel.out.alloc hsz _).grown hgrow (by simp;omega) ?_
    intro g hg
    exact(World.ownsRow.lt Hown.out g hg).1
   clear hown' hgrow Hown Hbel
   go_wp2_with fail
   go_ret
   exact⟨_,rfl,Hn.out,Hb.out⟩
theorem ZhU (l:List Nat) (k:Nat) (hk:k<l.length) (h:k<32):fold (l.take (k+1))=fold (l.take k)+256^k*l.getD k 0:=by
 unfold fold
 rw[List.take_take,List.take_take,List.drop_take,List.drop_take,Nat.min_eq_right (by omega),Nat.min_eq_right (by omega),show k+1-32=0 by omega,show k-32=0 by omega,ZcP l k hk]
 simp[Zas]
theorem ZiD (l:List Nat) (k:Nat) (hk:k<l.length) (h:32≤k):fold (l.take (k+1))=fold (l.take k)+256^(k-32)*(38*l.getD k 0):=by
 unfold fold
 rw[List.take_take,List.take_take,List.drop_take,List.drop_take,Nat.min_eq_left (by omega),Nat.min_eq_left (by omega),show k+1-32=(k-32)+1 by omega,ZcP (l.drop 32) (k-32) (by rw[List.length_drop];omega)]
 have:(l.drop 32).getD (k-32) 0=l.getD k 0:=by
  rw[List.getD_eq_getElem?_getD,List.getD_eq_getElem?_getD,List.getElem?_drop,show 32+(k-32)=k by omega]
 rw[this,Nat.mul_add,Nat.mul_left_comm];omega
theorem ZpB:fold []=0:=rfl
theorem Zo2 (l:List Nat) (j y:Nat):ints (l.set j y)=(ints l).set j (.int .i64 (y:Int)):=by simp[ints,List.map_set]
theorem ZoP (l:List Nat):∀u∈ints l,u.oneCell'=true:=by
 intro u hu
 obtain⟨n,_,rfl⟩:=List.mem_map.1 hu
 rfl
theorem Zgw (n:Nat):ints (List.replicate n 0)=List.replicate n (.int .i64 0):=by simp[ints]
theorem Own.cellOf {w:World} {B g n cap:Nat} {l:List Nat} (h:Own w B (.slice (some ⟨g,0,none⟩) n cap) l) (hn:l.length=n) (i:Nat) (hi:i<n):w.cell? ⟨g,i,none⟩=some (.int .i64 (l.getD i 0:Nat)):=by
 subst hn;exact h.cell i hi
theorem Own.free {w:World} {B g n cap:Nat} {l:List Nat} (h:Own w B (.slice (some ⟨g,0,none⟩) n cap) l) (hn:l.length=n) (i:Nat):w.frozen? ⟨g,i,none⟩=false:=by
 subst hn;exact World.ownsRow.frozenAt h i
theorem Own.store {w:World} {B g n cap:Nat} {l:List Nat} (h:Own w B (.slice (some ⟨g,0,none⟩) n cap) l) (hn:l.length=n) (i y:Nat):Own (w.setCell ⟨g,i,none⟩ (.int .i64 (y:Int))) B (.slice (some ⟨g,0,none⟩) n cap) (l.set i y):=by
 subst hn
 have:=(World.ownsRow.stored h i (.int .i64 (y:Int))).1
 unfold Own
 rw[Zo2,List.length_set];exact this
theorem Own.lt {w:World} {B g n cap:Nat} {l:List Nat} (h:Own w B (.slice (some ⟨g,0,none⟩) n cap) l):B≤g∧g<w.heap.size:=World.ownsRow.lt h g rfl
theorem ZcH {B:Nat} {a w:World} (h:Below B a w) (hB:B≤w.heap.size) (g i:Nat) (u:Value) (hg:B≤g) (o:Array Obj) (d:Nat):Below B a ((w.setCell ⟨g,i,none⟩ u).plus o d) :=
 (h.setCell (p:=⟨g,i,none⟩) hg u).trans ((Zag (Below.refl _ _) o d).mono (by simpa using hB))
theorem Own.stores {w:World} {B g n cap:Nat} {l:List Nat} (h:Own w B (.slice (some ⟨g,0,none⟩) n cap) l) (hn:l.length=n) (i y:Nat) (o:Array Obj) (d:Nat) :
  Own ((w.setCell ⟨g,i,none⟩ (.int .i64 (y:Int))).plus o d) B (.slice (some ⟨g,0,none⟩) n cap) (l.set i y):=(h.store hn i y).below (Zag (Below.refl _ _) o d)
theorem Zpn (l:List Nat) (g cap:Nat) (w:World) (hl:l.length=32) (hm:Most 1073741824 l) (hg:g<w.heap.size) (h:Own w 0 (.slice (some ⟨g,0,none⟩) 32 cap) l) :
  Calls Tryz.prog 163 #[.slice (some ⟨g,0,none⟩) 32 cap] w fun e w' =>
   ∃ v,e=.returned v∧Own w' w.heap.size v (dg (Zas l) 32++[Zas l/256^32])∧Below w.heap.size w w':=by
 have:=Zo1 l g cap w (by omega) hm hg (by rw[hl];exact h)
 rw[hl] at this;exact this
def lim (k j:Nat):Nat:=(if j<k then 4194304 else 0)+(if 32+j<k then 159383552 else 0)
theorem Zkz (k j:Nat):lim k j≤lim (k+1) j:=by
 unfold lim
 by_cases h1:j<k<;>by_cases h2:32+j<k<;>simp[h1,h2,show (j<k→j<k+1) by omega,show (32+j<k→32+j<k+1) by omega]<;>omega
theorem Zt8 (k:Nat):lim k k=0:=by unfold lim;simp
theorem ZrB (k:Nat):lim (k+1) k=4194304:=by unfold lim;simp;omega
theorem Zui (k:Nat) (h:32≤k):lim k (k-32)=4194304:=by unfold lim;simp[show k-32<k by omega,show ¬32+(k-32)<k by omega]
theorem ZrW (k:Nat) (h:32≤k):lim (k+1) (k-32)=163577856:=by unfold lim;simp[show k-32<k+1 by omega,show 32+(k-32)<k+1 by omega]
theorem ZgY (k j:Nat):lim k j≤163577856:=by unfold lim;split<;>split<;>omega
theorem Zfh (l:List Nat) (i y j:Nat) (hi:i<l.length):(l.set i y).getD j 0=if j=i then y else l.getD j 0:=by
 rw[List.getD_eq_getElem?_getD,List.getD_eq_getElem?_getD,List.getElem?_set]
 by_cases h:i=j
 ·subst h;simp[hi]
 ·simp[h,show ¬j=i by omega]
theorem ZoL {l m:List Nat} {k:Nat} (hl:k<l.length) (hk:k<32) (hx:l.getD k 0≤4194304) (hm:m.length=32) (hf:Zas m=fold (l.take k)) (hb:∀j,m.getD j 0≤lim k j) :
  (m.set k (m.getD k 0+l.getD k 0)).length=32∧Zas (m.set k (m.getD k 0+l.getD k 0))=fold (l.take (k+1))∧∀ j,(m.set k (m.getD k 0+l.getD k 0)).getD j 0≤lim (k+1) j:=by
 refine⟨by rw[List.length_set,hm],by rw[ZcB m k _ (by omega),hf,ZhU l k hl hk],fun j=>?_⟩
 rw[Zfh m k _ j (by omega)]
 split
 ·rename_i h;subst h
  have:=hb j;rw[Zt8] at this;rw[ZrB];omega
 ·exact Nat.le_trans (hb j) (Zkz k j)
theorem Znd {l m:List Nat} {k:Nat} (hl:k<l.length) (hk:32≤k) (hk2:k<64) (hx:l.getD k 0≤4194304) (hm:m.length=32) (hf:Zas m=fold (l.take k)) (hb:∀j,m.getD j 0≤lim k j) :
  (m.set (k-32) (m.getD (k-32) 0+38*l.getD k 0)).length=32∧Zas (m.set (k-32) (m.getD (k-32) 0+38*l.getD k 0))=fold (l.take (k+1))∧∀ j,(m.set (k-32) (m.getD (k-32) 0+38*l.getD k 0)).getD j 0≤lim (k+1) j:=by
 refine⟨by rw[List.length_set,hm],by rw[ZcB m (k-32) _ (by omega),hf,ZiD l k hl hk],fun j=>?_⟩
 rw[Zfh m (k-32) _ j (by omega)]
 split
 ·rename_i h;subst h
  have:=hb (k-32);rw[Zui k hk] at this;rw[ZrW k hk];omega
 ·exact Nat.le_trans (hb j) (Zkz k j)
theorem ZmZ (j:Nat):(List.replicate 32 0).getD j 0≤lim 0 j:=by
 rw[List.getD_eq_getElem?_getD,List.getElem?_replicate];split<;>simp
theorem ZlY:Zas (List.replicate 32 0)=0:=by decide
theorem Zmf (l:List Nat) (g cap:Nat) (w:World) (h32:32≤l.length) (h64:l.length≤64) (hm:Most 4194304 l) (h:Own w 0 (.slice (some ⟨g,0,none⟩) l.length cap) l) :
  Calls Tryz.prog 137 #[.slice (some ⟨g,0,none⟩) l.length cap] w fun e w' =>
   ∃ n,e=.returned (kv n)∧n<256^32∧n%Fp.P=Zas l%Fp.P∧Below w.heap.size w w':=by
 obtain⟨i0,hi,hz0,hz1,hz2⟩:=info_parts ZeZ
 have H:=Zq h
 have Hm:=Zq hm
 have H32:=Zq h32
 have H64:=Zq h64
 obtain⟨len,elen⟩:∃x,x=l.length:=⟨_,rfl⟩
 rw[←elen] at h64 ⊢
 have Helen:=Zq elen
 clear h hm elen h32
 have hz:#[.int .u8 0,.int .u8 0,.int .u8 0,.int .u8 0,.int .u8 0,.int .u8 0,.int .u8 0,.int .u8 0,.int .u8 0,.int .u8 0,.int .u8 0,.int .u8 0,.int .u8 0,.int .u8 0,.int .u8 0,.int .u8 0,.int .u8 0,.int .u8 0,.int .u8 0,.int .u8 0,.int .u8 0,.int .u8 0,.int .u8 0,.int .u8 0,.int .u8 0,.int .u8 0,.int .u8 0,.int .u8 0,.int .u8 0,.int .u8 0,.int .u8 0,.int .u8 0]=keyA 0:=Za3 0 (by decide)
 go_enter Tryz.func137,Tryz.ntmps137
 go_wp2_with (at_builtin;refine wpList_append_own _ rfl _ _ 196 rfl (w.heap.size+1) 3 i0 (.int .i64 0) 1 8 Tryz.underlying196 hi hz0 hz1 hz2 rfl (by decide) _ 0 [] rfl ?c0 ⟨g,0,none⟩ len cap (ints l) rfl (by rw[Zjv,Helen.out,Nat.mul_one]) ?c1 (ZoP l) ?c3 ?c4 ?c5 ?_)
 case c0 =>
  have h:=World.ownsRow_lit (base:=w.heap.size+1) (e:=3) (size:=1) (w.alloc (.cells (keyA 0) 23)) #[] 0 (by simp) (by decide) rfl
  rw[show (w.alloc (.cells (keyA 0) 23)).heap.size=w.heap.size+1 by simp] at h
  exact h
 case c1 =>
  intro j u hj
  exact World.ownsRow.cells ((World.ownsRow.alloc H.out _).alloc _) rfl j u hj
 case c3=>unfold maxLen;omega
 case c4=>omega
 case c5=>simp
 intro v' w1 hown' hgrow _
 have Ho:Hid (Own w1 (w.heap.size+1) v' (it l 0)):=by
  show Own _ _ _ l
  unfold Own
  rw[←Helen.out]
  simpa using hown'
 have Hb:Hid (Below (w.heap.size+1) (w.alloc (.cells (keyA 0) 23)) w1):=by
  refine((Below.refl _ _).alloc (by simp) _).grown hgrow (by simp) ?_
  intro k hk
  have e:w.heap.size+1=k:=by simpa [Value.ownBlock,Act.eval] using hk
  omega
 clear hown' hgrow
 go_wp2_with fail
 go_loopw [3,4] (fun d r wr=>∃ k:Nat,k≤4∧r=.int .i64 k∧Own wr (w.heap.size+1) d (it l k)∧Below (w.heap.size+1) (w.alloc (.cells (keyA 0) 23)) wr) (fun _ r _=>4-(intOf r).toNat)
 case atStart=>exact⟨0,by decide,rfl,Ho.out,Hb.out⟩
 case round =>
  clear Ho Hb
  obtain⟨k,hk,rfl,hown,hbel⟩:=hrel
  obtain⟨W0,rfl⟩:∃x,x=wr:=⟨_,rfl⟩
  have hsz:=hbel.size
  have hsz:w.heap.size+1≤W0.heap.size:=by simpa using hsz
  obtain⟨hL1,hL2⟩:=ZfX l H32.out H64.out k
  have HM:=Zq (Zmq l _ (by decide) Hm.out H32.out H64.out k)
  obtain⟨gd,capd,rfl,hgd1,hgd2,_⟩:=hown.addr (by omega)
  obtain⟨D,eD⟩:∃D,D=it l k:=⟨_,rfl⟩
  rw[←eD] at hL1 hL2 HM hown ⊢
  obtain⟨dl,edl⟩:∃x,x=D.length:=⟨_,rfl⟩
  rw[←edl] at hL1 hL2 hown ⊢
  have HeD:=Zq eD
  have Hedl:=Zq edl
  have Hown:=Zq hown
  have Hbel:=Zq hbel
  clear hown hbel eD edl
  by_cases hk4:k<4
  ·go_wp2_with (at_make;refine wpList_make_full _ rfl _ _ 196 rfl W0.heap.size 3 i0 (.int .i64 0) 1 Tryz.underlying196 hi hz0 hz1 .i64 .i64 32 32 32 rfl rfl rfl rfl (by rw[hz2];decide) (by decide) (Nat.le_refl _) ?_)
   intro w2 hown2 hgrow2
   have Hlow:Hid (Own w2 W0.heap.size (.slice (some ⟨W0.heap.size,0,none⟩) 32 32) (List.replicate 32 0)):=by
    show Own _ _ _ _
    unfold Own
    rw[Zgw,List.length_replicate]
    rw[toList_madeCells_one] at hown2
    exact hown2
   have Hb2:Hid (Below W0.heap.size W0 w2):=(Below.refl _ _).grown hgrow2 (Nat.le_refl _) (fun k hk=>by cases hk)
   clear hown2 hgrow2
   go_wp2_with fail
   go_loopw [6] (fun i wi=>∃ (j:Nat) (m:List Nat),j≤dl∧i=.int .i64 j∧m.length=32∧Zas m=fold (D.take j)∧(∀ x,m.getD x 0≤lim j x) ∧
    Own wi W0.heap.size (.slice (some ⟨W0.heap.size,0,none⟩) 32 32) m∧Below W0.heap.size W0 wi) (fun i _=>dl-(intOf i).toNat)
   case atStart=>exact⟨0,_,Nat.zero_le _,rfl,by simp,by rw[ZlY,List.take_zero,ZpB],ZmZ,Hlow.out,Hb2.out⟩
   case round =>
    clear Hlow Hb2
    obtain⟨j,m,hj,rfl,hml,hmf,hmb,hmo,hmw⟩:=hrel
    have hszi:=hmw.size
    have Hmf:=Zq hmf
    have Hmb:=Zq hmb
    have Hmo:=Zq hmo
    have Hmw:=Zq hmw
    have Hml:=Zq hml
    have hlt:=(Own.lt hmo).2
    clear hmf hmb hmo hmw hml
    by_cases hjl:j<dl
    ·have hjl':j<D.length:=by rw[←Hedl.out];exact hjl
     obtain⟨x,ex⟩:∃x,x=D.getD j 0:=⟨_,rfl⟩
     have hx:x≤4194304:=by rw[ex];exact HM.out j
     have hcx:wr.cell? ⟨gd,j,none⟩=some (.int .i64 (x:Int)):=by
      rw[Hmw.out.cell hgd2,Own.cellOf Hown.out Hedl.out.symm j hjl,ex]
     have hgdi:gd<wr.heap.size:=by omega
     by_cases hj32:j<32
     ·obtain⟨y,ey⟩:∃y,y=m.getD j 0:=⟨_,rfl⟩
      have hcy:wr.cell? ⟨W0.heap.size,j,none⟩=some (.int .i64 (y:Int)):=by rw[Own.cellOf Hmo.out Hml.out j hj32,ey]
      have hfy:=Own.free Hmo.out Hml.out j
      have hy:y≤163577856:=by rw[ey];exact Nat.le_trans (Hmb.out j) (ZgY j j)
      obtain⟨s,es⟩:∃s,s=y+x:=⟨_,rfl⟩
      have hs:IntKind.i64.wrap ((y:Int)+(x:Int))=(s:Int):=by rw[IntWalk.i64_in _ (by omega)];omega
      have R:=ZoL hjl' hj32 (by rw[←ex];exact hx) Hml.out Hmf.out Hmb.out
      rw[←ey,←ex,←es] at R
      have HR:=Zq R
      clear R es ey ex hjl' Hmb Hmf
      go_wp2_with fail
      refine Zbh wr 12 [] (by kernel_rfl) (by kernel_rfl) ((Below.refl _ _).drew) ?_
      simp only[List.take_succ_cons,List.take_zero,List.drop_succ_cons,List.drop_zero,List.length_nil,Nat.reduceAdd]
      iterate 12 (refine Za6 (Zaa rfl) (by intro K o d hK;go_simp;exact hK _ (Below.refl _ _)) ?_)
      refine Zbx ?_
      intro w3 hb3 _
      obtain⟨o3,d3,rfl⟩:=Zaf hb3
      clear hb3
      go_wp2_with fail
      go_roundw
      case rel=>exact⟨j+1,_,by omega,by go_num,HR.out.1,HR.out.2.1,HR.out.2.2,Own.stores Hmo.out Hml.out _ _ _ _,ZcH Hmw.out hszi _ _ _ (Nat.le_refl _) _ _⟩
      case measure=>simp[intOf];omega
     ·obtain⟨q,eq⟩:∃q,q=j-32:=⟨_,rfl⟩
      have hq32:q<32:=by omega
      obtain⟨y,ey⟩:∃y,y=m.getD q 0:=⟨_,rfl⟩
      have hcy:wr.cell? ⟨W0.heap.size,q,none⟩=some (.int .i64 (y:Int)):=by rw[Own.cellOf Hmo.out Hml.out q hq32,ey]
      have hfy:=Own.free Hmo.out Hml.out q
      have hy:y≤163577856:=by rw[ey];exact Nat.le_trans (Hmb.out q) (ZgY j q)
      obtain⟨p,ep⟩:∃p,p=38*x:=⟨_,rfl⟩
      obtain⟨s,es⟩:∃s,s=y+p:=⟨_,rfl⟩
      have hp:IntKind.i64.wrap (38*(x:Int))=(p:Int):=by rw[IntWalk.i64_in _ (by omega)];omega
      have hs:IntKind.i64.wrap ((y:Int)+(p:Int))=(s:Int):=by rw[IntWalk.i64_in _ (by omega)];omega
      have hq1:IntKind.i64.wrap (q:Int)=(q:Int):=IntWalk.i64_in _ (by omega)
      have hq2:(j:Int)-32=(q:Int):=by omega
      have hq3:(0:Int)≤(q:Int):=by omega
      have hq4:(q:Int)<32:=by omega
      have R:=Znd hjl' (by omega) (by omega) (by rw[←ex];exact hx) Hml.out Hmf.out Hmb.out
      rw[←eq,←ey,←ex,←ep,←es] at R
      have HR:=Zq R
      clear R es ey ex ep eq hjl' Hmb Hmf
      go_wp2_with fail
      refine Zbh wr 15 [] (by kernel_rfl) (by kernel_rfl) ((Below.refl _ _).drew) ?_
      simp only[List.take_succ_cons,List.take_zero,List.drop_succ_cons,List.drop_zero,List.length_nil,Nat.reduceAdd]
      iterate 15 (refine Za6 (Zaa rfl) (by intro K o d hK;go_simp;exact hK _ (Below.refl _ _)) ?_)
      refine Zbx ?_
      intro w3 hb3 _
      obtain⟨o3,d3,rfl⟩:=Zaf hb3
      clear hb3
      go_wp2_with fail
      go_roundw
      case rel=>exact⟨j+1,_,by omega,by go_num,HR.out.1,HR.out.2.1,HR.out.2.2,Own.stores Hmo.out Hml.out _ _ _ _,ZcH Hmw.out hszi _ _ _ (Nat.le_refl _) _ _⟩
      case measure=>simp[intOf];omega
    ·obtain rfl:j=dl:=by omega
     have Hf:Hid (Zas m=fold D):=by
      show _=_
      rw[Hmf.out,Hedl.out,List.take_length]
     have HC:=Zq (Zpn m W0.heap.size 32 wr Hml.out (fun i=>Nat.le_trans (Hmb.out i) (Nat.le_trans (ZgY _ _) (by decide))) hlt (Hmo.out.mono (Nat.zero_le _)))
     clear Hmf Hmb Hmo
     go_wp2_with fail
     refine HC.out.mono ?_
     rintro e w4 ⟨v4,rfl,hown4,hbel4⟩
     have Hn:Hid (Own w4 (w.heap.size+1) v4 (it l (k+1))):=by
      show Own _ _ _ (nx (it l k))
      rw[←HeD.out]
      unfold nx
      rw[←Hf.out]
      exact hown4.mono (by omega)
     have Hbn:Hid (Below (w.heap.size+1) (w.alloc (.cells (keyA 0) 23)) w4):=(Hbel.out.trans (Hmw.out.mono hsz)).trans (hbel4.mono (by omega))
     clear hown4 hbel4 HC
     go_wp2_with fail
     go_roundw
     case rel=>exact⟨k+1,by omega,by go_num,Hn.out,Hbn.out⟩
     case measure=>simp[intOf];omega
  ·obtain rfl:k=4:=by omega
   obtain⟨n,hn,hnp,hit⟩:=four l Hm.out H32.out H64.out
   have hdl:32<dl:=by
    rw[Hedl.out,HeD.out,hit];simp[ZaV]
   have Hdig:Hid (∀ i,i<32→W0.cell? ⟨gd,i,none⟩=some (.int .i64 (bt n i))):=by
    intro i hi'
    have e:D=dg n 32++[0]:=HeD.out.trans hit
    rw[Own.cellOf Hown.out Hedl.out.symm i (by omega)]
    rw[e,List.getD_eq_getElem?_getD,List.getElem?_append_left (by rw[ZaV];exact hi'),Zmu _ _ _ hi']
    rfl
   have HR:Hid (RowAt W0 w.heap.size (keyA 0)):=(RowAt.of (Zaq w (.cells (keyA 0) 23))).grow (Hbel.out.mono (by simp))
   have HBW:Hid (Below w.heap.size w W0):=(Zab (Below.refl _ _) _).trans (Hbel.out.mono (by omega))
   have Hn:=Zq hn
   have Hnp:=Zq hnp
   clear hn hnp hit Hown Hbel HM HeD
   go_wp2_with fail
   go_loopw [8] (fun i wi=>∃ j:Nat,j≤32∧i=.int .i64 j∧wi=W0.alloc (.cells (mixA n 0 j) 23)) (fun i _=>32-(intOf i).toNat)
   case atStart=>exact⟨0,by decide,rfl,by rw[Zqd]⟩
   case round =>
    obtain⟨j,hj,rfl,rfl⟩:=hrel
    by_cases hj32:j<32
    ·have hcx:=Hdig.out j hj32
     have hu:IntKind.u8.wrap (bt n j)=bt n j:=IntWalk.u8_in _ (by have:=ZaO n j;unfold Byte at this;omega)
     have hset:=Zkw n 0 j hj32
     have hj0:(0:Int)≤(j:Int):=by omega
     have hj1:(j:Int)<32:=by omega
     have hj2:(j:Int)<(dl:Int):=by omega
     go_wp2_with fail
     go_roundw
     case rel=>exact⟨j+1,by omega,by go_num,rfl⟩
     case measure=>simp[intOf];omega
    ·obtain rfl:j=32:=by omega
     rw[Zm6]
     obtain⟨r1,r2,r3⟩:=HR.out
     go_wp2_with fail
     refine bodyPost_ret (v:=kv n) (Zav Tryz.results137 _ _ _ rfl (by first | (go_simp;done) | (go_simp;exact(HR.out.set (keyA n)).1)) (by first | (go_simp;done) | (go_simp;exact(HR.out.set (keyA n)).2.1))) rfl ⟨n,rfl,Hn.out,Hnp.out,?_⟩
     exact Zab (Zad HBW.out (Nat.le_refl _) _) _
theorem Zej (n k:Nat) (hn:n<115792089237316195423570985008687907853269984665640564039457584007913129639936) (hk:n%Fp.P=k) (w:World):Calls Tryz.prog 114 #[kv n] w fun e w'=>e=.returned (kv k)∧Below w.heap.size w w':=by
 subst hk;exact Zpi n hn w
theorem Zpy (k:Nat) (b:Bool) (hk:k<115792089237316195423570985008687907853269984665640564039457584007913129639936) (hb:decide (k=0)=b):keq k 0=b:=by
 by_cases h:k=0
 ·subst h;subst hb;rw[ZkH];rfl
 ·rw[Zie hk (by decide) h,←hb,decide_eq_false h]
theorem ZgZ (n:Nat) (b:Bool) (hn:n<115792089237316195423570985008687907853269984665640564039457584007913129639936) (hb:decide (n%Fp.P=0)=b) (w:World) :
  Calls Tryz.prog 86 #[kv n] w fun e w'=>e=.returned (.bool b)∧Below w.heap.size w w':=by
 obtain⟨k,ek⟩:∃x,x=n%Fp.P:=⟨_,rfl⟩
 have lk:k<115792089237316195423570985008687907853269984665640564039457584007913129639936:=by rw[ek];exact mod_lt _
 have Hk:=Zq ek.symm
 have hq:keq k 0=b:=Zpy k b lk (by rw[ek];exact hb)
 have Hq:=Zq hq
 have hz:#[.int .u8 0,.int .u8 0,.int .u8 0,.int .u8 0,.int .u8 0,.int .u8 0,.int .u8 0,.int .u8 0,.int .u8 0,.int .u8 0,.int .u8 0,.int .u8 0,.int .u8 0,.int .u8 0,.int .u8 0,.int .u8 0,.int .u8 0,.int .u8 0,.int .u8 0,.int .u8 0,.int .u8 0,.int .u8 0,.int .u8 0,.int .u8 0,.int .u8 0,.int .u8 0,.int .u8 0,.int .u8 0,.int .u8 0,.int .u8 0,.int .u8 0,.int .u8 0]=keyA 0:=Za3 0 (by decide)
 clear ek hb hq
 go_enter Tryz.func86,Tryz.ntmps86
 go_wp2_with fail
 refine(Zej n k hn Hk.out _).mono ?_
 rintro e w' ⟨rfl,hbw⟩
 obtain⟨o1,n1,rfl⟩:=Zaf hbw
 clear hbw
 go_wp2_with fail
 rw[Hq.out]
 go_ret
 refine⟨rfl,?_⟩
 repeat (first | apply Zag | apply Zab | exact Below.refl _ _)
end Go.Proofs.YtddmjddlbhdcpaaGreatDoor.F
