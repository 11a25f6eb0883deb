/-
  Part 4 of the texts behind the theorem.
-/
import Derived.Test.YtddmjddlbhdcpaaGreatDoorPart3
import Derived.Test.YtddmjddlbhdcpaaGreatDoorPart1
import Derived.ProofKit
import Derived.OpenShut
import Derived.ShutString
import Derived.ChangeOld
import Derived.Below
import Derived.LoopTactic
import Derived.OwnWalk
namespace Go.Proofs.YtddmjddlbhdcpaaGreatDoor.F
open Go.RowKit Go.Shelf Go.Hold
set_option maxHeartbeats 2000000 in
set_option maxRecDepth 100000 in
theorem square_K (a c:Nat) (ha:a<115792089237316195423570985008687907853269984665640564039457584007913129639936) (hc:Cv.nmul a a=c) (w:World) :
  Calls Tryz.prog 121 #[kv a] w fun e w'=>e=.returned (kv c)∧Below w.heap.size w w':=by
 go_enter Tryz.func121,Tryz.ntmps121
 go_wp2_with fail
 refine(mul_K a a c ha ha hc _).mono ?_
 rintro e w' ⟨rfl,hbw⟩
 obtain⟨oc1,nc1,rfl⟩:=below_plus hbw
 clear hbw
 go_wp2_with fail
 refine bodyPost_ret (v:=kv c) (results_key Tryz.results121 _ _ _ rfl (by go_simp) (by go_simp)) rfl ⟨rfl,?_⟩
 repeat (first | apply below_more | apply below_alloc | exact Below.refl _ _)
set_option maxHeartbeats 2000000 in
set_option maxRecDepth 100000 in
theorem twice_K (x z:Nat) (hx:x<115792089237316195423570985008687907853269984665640564039457584007913129639936) (hz:z<115792089237316195423570985008687907853269984665640564039457584007913129639936) (w:World) :
  Calls Tryz.prog 96 #[fv x z] w fun e w'=>e=.returned (fv (Cv.ntw (x,z)).1 (Cv.ntw (x,z)).2)∧Below w.heap.size w w':=by
 show Calls Tryz.prog 96 #[fv x z] w fun e w'=>e=.returned (fv (Cv.nmul (Cv.nmul (Cv.nadd x z) (Cv.nadd x z)) (Cv.nmul (Cv.nsub x z) (Cv.nsub x z)))
  (Cv.nmul (Cv.nsub (Cv.nmul (Cv.nadd x z) (Cv.nadd x z)) (Cv.nmul (Cv.nsub x z) (Cv.nsub x z))) (Cv.nadd (Cv.nmul (Cv.nadd x z) (Cv.nadd x z)) (Cv.nmul 121665 (Cv.nsub (Cv.nmul (Cv.nadd x z) (Cv.nadd x z)) (Cv.nmul (Cv.nsub x z) (Cv.nsub x z)))))))∧Below w.heap.size w w'
 obtain⟨s,es⟩:∃ y,y=Cv.nadd x z:=⟨_,rfl⟩
 have ls:s<115792089237316195423570985008687907853269984665640564039457584007913129639936:=by rw[es];exact(Nat.lt_trans (Cv.nadd_lt _ _) P_lt)
 have Hs:=Lib.hid es.symm
 obtain⟨df,edf⟩:∃ y,y=Cv.nsub x z:=⟨_,rfl⟩
 have ldf:df<115792089237316195423570985008687907853269984665640564039457584007913129639936:=by rw[edf];exact(Nat.lt_trans (Cv.nsub_lt _ _) P_lt)
 have Hdf:=Lib.hid edf.symm
 obtain⟨aa,eaa⟩:∃ y,y=Cv.nmul s s:=⟨_,rfl⟩
 have laa:aa<115792089237316195423570985008687907853269984665640564039457584007913129639936:=by rw[eaa];exact(Nat.lt_trans (Cv.nmul_lt _ _) P_lt)
 have Haa:=Lib.hid eaa.symm
 obtain⟨bb,ebb⟩:∃ y,y=Cv.nmul df df:=⟨_,rfl⟩
 have lbb:bb<115792089237316195423570985008687907853269984665640564039457584007913129639936:=by rw[ebb];exact(Nat.lt_trans (Cv.nmul_lt _ _) P_lt)
 have Hbb:=Lib.hid ebb.symm
 obtain⟨ee,eee⟩:∃ y,y=Cv.nsub aa bb:=⟨_,rfl⟩
 have lee:ee<115792089237316195423570985008687907853269984665640564039457584007913129639936:=by rw[eee];exact(Nat.lt_trans (Cv.nsub_lt _ _) P_lt)
 have Hee:=Lib.hid eee.symm
 obtain⟨k,ek⟩:∃ y,y=Cv.nmul 121665 ee:=⟨_,rfl⟩
 have lk:k<115792089237316195423570985008687907853269984665640564039457584007913129639936:=by rw[ek];exact(Nat.lt_trans (Cv.nmul_lt _ _) P_lt)
 have Hk:=Lib.hid ek.symm
 obtain⟨t,et⟩:∃ y,y=Cv.nadd aa k:=⟨_,rfl⟩
 have lt:t<115792089237316195423570985008687907853269984665640564039457584007913129639936:=by rw[et];exact(Nat.lt_trans (Cv.nadd_lt _ _) P_lt)
 have Ht:=Lib.hid et.symm
 obtain⟨X,eX⟩:∃ y,y=Cv.nmul aa bb:=⟨_,rfl⟩
 have lX:X<115792089237316195423570985008687907853269984665640564039457584007913129639936:=by rw[eX];exact(Nat.lt_trans (Cv.nmul_lt _ _) P_lt)
 have HX:=Lib.hid eX.symm
 obtain⟨Z,eZ⟩:∃ y,y=Cv.nmul ee t:=⟨_,rfl⟩
 have lZ:Z<115792089237316195423570985008687907853269984665640564039457584007913129639936:=by rw[eZ];exact(Nat.lt_trans (Cv.nmul_lt _ _) P_lt)
 have HZ:=Lib.hid eZ.symm
 rw[←es,←edf,←eaa,←ebb,←eee,←ek,←et,←eX,←eZ]
 clear es edf eaa ebb eee ek et eX eZ
 go_enter Tryz.func96,Tryz.ntmps96
 go_wp2_with fail
 generalize hW:World.alloc _ _=W1
 have R1x0:=Lib.hid (show RowAt W1 (w.heap.size) (fracA x z) by rw[←hW];clear hW;exact⟨by go_simp,by go_simp,by go_simp⟩)
 have R1x1:=Lib.hid (show RowAt W1 (w.heap.size+1) (#[.int .u8 0,.int .u8 0,.int .u8 0,.int .u8 0,.int .u8 0,.int .u8 0,.int .u8 0,.int .u8 0,.int .u8 0,.int .u8 0,.int .u8 0,.int .u8 0,.int .u8 0,.int .u8 0,.int .u8 0,.int .u8 0,.int .u8 0,.int .u8 0,.int .u8 0,.int .u8 0,.int .u8 0,.int .u8 0,.int .u8 0,.int .u8 0,.int .u8 0,.int .u8 0,.int .u8 0,.int .u8 0,.int .u8 0,.int .u8 0,.int .u8 0,.int .u8 0,.int .u8 0,.int .u8 0,.int .u8 0,.int .u8 0,.int .u8 0,.int .u8 0,.int .u8 0,.int .u8 0,.int .u8 0,.int .u8 0,.int .u8 0,.int .u8 0,.int .u8 0,.int .u8 0,.int .u8 0,.int .u8 0,.int .u8 0,.int .u8 0,.int .u8 0,.int .u8 0,.int .u8 0,.int .u8 0,.int .u8 0,.int .u8 0,.int .u8 0,.int .u8 0,.int .u8 0,.int .u8 0,.int .u8 0,.int .u8 0,.int .u8 0,.int .u8 0]) by rw[←hW];clear hW;exact⟨by go_simp,by go_simp,by go_simp⟩)
 have HB1:=Lib.hid (show Below w.heap.size w W1 by rw[←hW];repeat (first | apply below_more | apply below_alloc | exact Below.refl _ _))
 clear hW
 obtain⟨R1x0a,R1x0b,R1x0c⟩:=R1x0.out
 obtain⟨R1x1a,R1x1b,R1x1c⟩:=R1x1.out
 refine wp_region_lays W1 12 [(23,#[.int .u8 0,.int .u8 0,.int .u8 0,.int .u8 0,.int .u8 0,.int .u8 0,.int .u8 0,.int .u8 0,.int .u8 0,.int .u8 0,.int .u8 0,.int .u8 0,.int .u8 0,.int .u8 0,.int .u8 0,.int .u8 0,.int .u8 0,.int .u8 0,.int .u8 0,.int .u8 0,.int .u8 0,.int .u8 0,.int .u8 0,.int .u8 0,.int .u8 0,.int .u8 0,.int .u8 0,.int .u8 0,.int .u8 0,.int .u8 0,.int .u8 0,.int .u8 0]),(23,#[.int .u8 0,.int .u8 0,.int .u8 0,.int .u8 0,.int .u8 0,.int .u8 0,.int .u8 0,.int .u8 0,.int .u8 0,.int .u8 0,.int .u8 0,.int .u8 0,.int .u8 0,.int .u8 0,.int .u8 0,.int .u8 0,.int .u8 0,.int .u8 0,.int .u8 0,.int .u8 0,.int .u8 0,.int .u8 0,.int .u8 0,.int .u8 0,.int .u8 0,.int .u8 0,.int .u8 0,.int .u8 0,.int .u8 0,.int .u8 0,.int .u8 0,.int .u8 0])] (by kernel_rfl) (by kernel_rfl) ((Below.refl _ _).drew) ?_
 simp only[List.take_succ_cons,List.take_zero,List.drop_succ_cons,List.drop_zero,List.length_cons,List.length_nil,Nat.reduceAdd]
 iterate 4 (refine wpHoldB_val (wanted_none rfl) (by intro K o d hK;go_simp;exact hK _ (Below.refl _ _)) ?_)
 refine wpHoldB_call (v:=kv s) (wanted_none rfl) (by intro K o d hK;go_simp;refine(add_K x z s hx hz Hs.out _).mono ?_;rintro e w' ⟨rfl,hbw⟩;exact⟨_,rfl,hK _ hbw⟩) ?_
 refine wpHoldB_call (v:=kv aa) (wanted_none rfl) (by intro K o d hK;go_simp;refine(square_K s aa ls Haa.out _).mono ?_;rintro e w' ⟨rfl,hbw⟩;exact⟨_,rfl,hK _ hbw⟩) ?_
 iterate 4 (refine wpHoldB_val (wanted_none rfl) (by intro K o d hK;go_simp;exact hK _ (Below.refl _ _)) ?_)
 refine wpHoldB_call (v:=kv df) (wanted_none rfl) (by intro K o d hK;go_simp;refine(sub_K x z df hx hz Hdf.out _).mono ?_;rintro e w' ⟨rfl,hbw⟩;exact⟨_,rfl,hK _ hbw⟩) ?_
 refine wpHoldB_call (v:=kv bb) (wanted_none rfl) (by intro K o d hK;go_simp;refine(square_K df bb ldf Hbb.out _).mono ?_;rintro e w' ⟨rfl,hbw⟩;exact⟨_,rfl,hK _ hbw⟩) ?_
 refine wpHoldB_nil ?_
 refine⟨lays_key _ rfl rfl,fun g2x0 hg2x0 hn2x0=>?_⟩
 refine⟨lays_key _ rfl rfl,fun g2x1 hg2x1 hn2x1=>?_⟩
 simp at hn2x1
 intro w2 hb2 hblk2
 have A2x0:=R1x0.out.grow hb2
 have c2x0:=R1x0.out.2.2
 have A2x1:=R1x1.out.grow hb2
 have c2x1:=R1x1.out.2.2
 have N2x0:=RowAt.of (hblk2 0 g2x0 _ _ rfl rfl)
 have N2x1:=RowAt.of (hblk2 1 g2x1 _ _ rfl rfl)
 have B2x0:=HB1.out.trans (hb2.mono HB1.out.size)
 have s2:=HB1.out.size
 have O2x0:=N2x0
 have P2x0x0:=A2x0.other (show w.heap.size≠g2x0 by omega) (keyA aa)
 have P2x0x1:=A2x1.other (show w.heap.size+1≠g2x0 by omega) (keyA aa)
 have Q2x0x0:=N2x0.set (keyA aa)
 have Q2x0x1:=N2x1.other (show g2x1≠g2x0 by omega) (keyA aa)
 have B2x1:=below_setRow B2x0 (show w.heap.size≤g2x0 by omega) (keyA aa)
 have O2x1:=Q2x0x1
 have P2x1x0:=P2x0x0.other (show w.heap.size≠g2x1 by omega) (keyA bb)
 have P2x1x1:=P2x0x1.other (show w.heap.size+1≠g2x1 by omega) (keyA bb)
 have Q2x1x0:=Q2x0x0.other (show g2x0≠g2x1 by omega) (keyA bb)
 have Q2x1x1:=Q2x0x1.set (keyA bb)
 have B2x2:=below_setRow B2x1 (show w.heap.size≤g2x1 by omega) (keyA bb)
 have Z2x0:=Lib.hid P2x1x0
 have Z2x1:=Lib.hid P2x1x1
 have Z2x2:=Lib.hid Q2x1x0
 have Z2x3:=Lib.hid Q2x1x1
 have HB2:=Lib.hid B2x2
 have ne2x0x0:¬w.heap.size=g2x0:=by omega
 have nf2x0x0:¬g2x0=w.heap.size:=by omega
 have ne2x0x1:¬w.heap.size=g2x1:=by omega
 have nf2x0x1:¬g2x1=w.heap.size:=by omega
 have ne2x1x0:¬w.heap.size+1=g2x0:=by omega
 have nf2x1x0:¬g2x0=w.heap.size+1:=by omega
 have ne2x1x1:¬w.heap.size+1=g2x1:=by omega
 have nf2x1x1:¬g2x1=w.heap.size+1:=by omega
 have ne2x2x1:¬g2x0=g2x1:=by omega
 have ne2x3x0:¬g2x1=g2x0:=by omega
 clear hb2 hblk2 HB1 s2 R1x0a R1x0b R1x0c R1x1a R1x1b R1x1c R1x0 R1x1 c2x0 c2x1 B2x0 B2x1 B2x2 O2x0 O2x1 P2x0x0 P2x0x1 Q2x0x0 Q2x0x1 P2x1x0 P2x1x1 Q2x1x0 Q2x1x1 hg2x0 hg2x1 hn2x0 hn2x1
 obtain⟨A2x0a,A2x0b,A2x0c⟩:=A2x0
 obtain⟨A2x1a,A2x1b,A2x1c⟩:=A2x1
 obtain⟨N2x0a,N2x0b,N2x0c⟩:=N2x0
 obtain⟨N2x1a,N2x1b,N2x1c⟩:=N2x1
 go_wp2_with fail
 clear A2x0a A2x0b A2x0c A2x1a A2x1b A2x1c N2x0a N2x0b N2x0c N2x1a N2x1b N2x1c ne2x0x0 nf2x0x0 ne2x0x1 nf2x0x1 ne2x1x0 nf2x1x0 ne2x1x1 nf2x1x1 ne2x2x1 ne2x3x0
 generalize World.setRow _ _ _=W3 at *
 obtain⟨Z2x0a,Z2x0b,Z2x0c⟩:=Z2x0.out
 obtain⟨Z2x1a,Z2x1b,Z2x1c⟩:=Z2x1.out
 obtain⟨Z2x2a,Z2x2b,Z2x2c⟩:=Z2x2.out
 obtain⟨Z2x3a,Z2x3b,Z2x3c⟩:=Z2x3.out
 refine(sub_K aa bb ee laa lbb Hee.out _).mono ?_
 rintro e w' ⟨rfl,hbw⟩
 obtain⟨oc2,nc2,rfl⟩:=below_plus hbw
 clear hbw
 go_wp2_with fail
 refine(mul_K 121665 ee k (by decide) lee Hk.out _).mono ?_
 rintro e w' ⟨rfl,hbw⟩
 obtain⟨oc3,nc3,rfl⟩:=below_plus hbw
 clear hbw
 go_wp2_with fail
 generalize hW:World.alloc _ _=W4
 have R4x0:=Lib.hid (show RowAt W4 (w.heap.size) (fracA x z) by rw[←hW];clear hW;exact⟨by go_simp,by go_simp,by go_simp⟩)
 have R4x1:=Lib.hid (show RowAt W4 (w.heap.size+1) (#[.int .u8 0,.int .u8 0,.int .u8 0,.int .u8 0,.int .u8 0,.int .u8 0,.int .u8 0,.int .u8 0,.int .u8 0,.int .u8 0,.int .u8 0,.int .u8 0,.int .u8 0,.int .u8 0,.int .u8 0,.int .u8 0,.int .u8 0,.int .u8 0,.int .u8 0,.int .u8 0,.int .u8 0,.int .u8 0,.int .u8 0,.int .u8 0,.int .u8 0,.int .u8 0,.int .u8 0,.int .u8 0,.int .u8 0,.int .u8 0,.int .u8 0,.int .u8 0,.int .u8 0,.int .u8 0,.int .u8 0,.int .u8 0,.int .u8 0,.int .u8 0,.int .u8 0,.int .u8 0,.int .u8 0,.int .u8 0,.int .u8 0,.int .u8 0,.int .u8 0,.int .u8 0,.int .u8 0,.int .u8 0,.int .u8 0,.int .u8 0,.int .u8 0,.int .u8 0,.int .u8 0,.int .u8 0,.int .u8 0,.int .u8 0,.int .u8 0,.int .u8 0,.int .u8 0,.int .u8 0,.int .u8 0,.int .u8 0,.int .u8 0,.int .u8 0]) by rw[←hW];clear hW;exact⟨by go_simp,by go_simp,by go_simp⟩)
 have R4x2:=Lib.hid (show RowAt W4 (g2x0) (keyA aa) by rw[←hW];clear hW;exact⟨by go_simp,by go_simp,by go_simp⟩)
 have R4x3:=Lib.hid (show RowAt W4 (g2x1) (keyA bb) by rw[←hW];clear hW;exact⟨by go_simp,by go_simp,by go_simp⟩)
 have R4x4:=Lib.hid (show RowAt W4 (W3.heap.size+oc2.size) (keyA ee) by rw[←hW];clear hW;exact⟨by go_simp,by go_simp,by go_simp⟩)
 have R4x5:=Lib.hid (show RowAt W4 (W3.heap.size+oc2.size+1+oc3.size) (keyA k) by rw[←hW];clear hW;exact⟨by go_simp,by go_simp,by go_simp⟩)
 have HB4:=Lib.hid (show Below w.heap.size w W4 by rw[←hW];repeat (first | apply below_more | apply below_alloc | exact HB2.out))
 clear hW
 clear Z2x0a Z2x0b Z2x0c Z2x1a Z2x1b Z2x1c Z2x2a Z2x2b Z2x2c Z2x3a Z2x3b Z2x3c Z2x0 Z2x1 Z2x2 Z2x3 HB2
 obtain⟨R4x0a,R4x0b,R4x0c⟩:=R4x0.out
 obtain⟨R4x1a,R4x1b,R4x1c⟩:=R4x1.out
 obtain⟨R4x2a,R4x2b,R4x2c⟩:=R4x2.out
 obtain⟨R4x3a,R4x3b,R4x3c⟩:=R4x3.out
 obtain⟨R4x4a,R4x4b,R4x4c⟩:=R4x4.out
 obtain⟨R4x5a,R4x5b,R4x5c⟩:=R4x5.out
 refine wp_region_hold (fun w'=>∃ o d,w'=W4.plus o d) 9 (by kernel_rfl) (by kernel_rfl) ⟨#[],_,rfl⟩ ?_
 simp only[List.take_succ_cons,List.take_zero,List.drop_succ_cons,List.drop_zero]
 iterate 2 (refine wpHold_val ⟨_,#[],0,rfl⟩ (wanted_none rfl) (by rintro K _ ⟨o,d,rfl⟩ hK;go_simp;exact hK _ ⟨o,d,rfl⟩) ?_)
 refine wpHold_call (v:=kv X) (wanted_none rfl) (by rintro K _ ⟨o,d,rfl⟩ hK;go_simp;refine(mul_K aa bb X laa lbb HX.out _).mono ?_;rintro e w' ⟨rfl,hbw⟩;obtain⟨o',n',rfl⟩:=below_plus hbw;exact⟨_,rfl,hK _ ⟨_,_,World.plus_plus _ _ _ _ _⟩⟩) ?_
 iterate 3 (refine wpHold_val ⟨_,#[],0,rfl⟩ (wanted_none rfl) (by rintro K _ ⟨o,d,rfl⟩ hK;go_simp;exact hK _ ⟨o,d,rfl⟩) ?_)
 refine wpHold_call (v:=kv t) (wanted_none rfl) (by rintro K _ ⟨o,d,rfl⟩ hK;go_simp;refine(add_K aa k t laa lk Ht.out _).mono ?_;rintro e w' ⟨rfl,hbw⟩;obtain⟨o',n',rfl⟩:=below_plus hbw;exact⟨_,rfl,hK _ ⟨_,_,World.plus_plus _ _ _ _ _⟩⟩) ?_
 refine wpHold_call (v:=kv Z) (wanted_none rfl) (by rintro K _ ⟨o,d,rfl⟩ hK;go_simp;refine(mul_K ee t Z lee lt HZ.out _).mono ?_;rintro e w' ⟨rfl,hbw⟩;obtain⟨o',n',rfl⟩:=below_plus hbw;exact⟨_,rfl,hK _ ⟨_,_,World.plus_plus _ _ _ _ _⟩⟩) ?_
 refine wpHold_val ⟨_,#[],0,rfl⟩ (wanted_none rfl) (by rintro K _ ⟨o,d,rfl⟩ hK;go_simp;exact hK _ ⟨o,d,rfl⟩) ?_
 refine wpHold_nil ?_
 rintro _ ⟨oh5,nh5,rfl⟩
 go_wp2_with fail
 refine bodyPost_ret (v:=fv X Z) (results_frac Tryz.results96 _ _ _ rfl (by go_simp) (by go_simp)) rfl ⟨rfl,?_⟩
 exact below_more (below_setRow HB4.out (by omega) _) _ _
set_option maxHeartbeats 2000000 in
set_option maxRecDepth 100000 in
theorem sum_K (x z x3 z3 x1:Nat) (hx:x<115792089237316195423570985008687907853269984665640564039457584007913129639936) (hz:z<115792089237316195423570985008687907853269984665640564039457584007913129639936) (hx3:x3<115792089237316195423570985008687907853269984665640564039457584007913129639936) (hz3:z3<115792089237316195423570985008687907853269984665640564039457584007913129639936) (hx1:x1<115792089237316195423570985008687907853269984665640564039457584007913129639936) (w:World) :
  Calls Tryz.prog 97 #[fv x z,fv x3 z3,kv x1] w fun e w'=>e=.returned (fv (Cv.nsm x1 (x,z) (x3,z3)).1 (Cv.nsm x1 (x,z) (x3,z3)).2)∧Below w.heap.size w w':=by
 show Calls Tryz.prog 97 #[fv x z,fv x3 z3,kv x1] w fun e w'=>e=.returned (fv (Cv.nmul (Cv.nadd (Cv.nmul (Cv.nsub x3 z3) (Cv.nadd x z)) (Cv.nmul (Cv.nadd x3 z3) (Cv.nsub x z))) (Cv.nadd (Cv.nmul (Cv.nsub x3 z3) (Cv.nadd x z)) (Cv.nmul (Cv.nadd x3 z3) (Cv.nsub x z))))
  (Cv.nmul x1 (Cv.nmul (Cv.nsub (Cv.nmul (Cv.nsub x3 z3) (Cv.nadd x z)) (Cv.nmul (Cv.nadd x3 z3) (Cv.nsub x z))) (Cv.nsub (Cv.nmul (Cv.nsub x3 z3) (Cv.nadd x z)) (Cv.nmul (Cv.nadd x3 z3) (Cv.nsub x z))))))∧Below w.heap.size w w'
 obtain⟨bm,ebm⟩:∃ y,y=Cv.nsub x3 z3:=⟨_,rfl⟩
 have lbm:bm<115792089237316195423570985008687907853269984665640564039457584007913129639936:=by rw[ebm];exact(Nat.lt_trans (Cv.nsub_lt _ _) P_lt)
 have Hbm:=Lib.hid ebm.symm
 obtain⟨ap,eap⟩:∃ y,y=Cv.nadd x z:=⟨_,rfl⟩
 have lap:ap<115792089237316195423570985008687907853269984665640564039457584007913129639936:=by rw[eap];exact(Nat.lt_trans (Cv.nadd_lt _ _) P_lt)
 have Hap:=Lib.hid eap.symm
 obtain⟨dd,edd⟩:∃ y,y=Cv.nmul bm ap:=⟨_,rfl⟩
 have ldd:dd<115792089237316195423570985008687907853269984665640564039457584007913129639936:=by rw[edd];exact(Nat.lt_trans (Cv.nmul_lt _ _) P_lt)
 have Hdd:=Lib.hid edd.symm
 obtain⟨bp,ebp⟩:∃ y,y=Cv.nadd x3 z3:=⟨_,rfl⟩
 have lbp:bp<115792089237316195423570985008687907853269984665640564039457584007913129639936:=by rw[ebp];exact(Nat.lt_trans (Cv.nadd_lt _ _) P_lt)
 have Hbp:=Lib.hid ebp.symm
 obtain⟨am,eam⟩:∃ y,y=Cv.nsub x z:=⟨_,rfl⟩
 have lam:am<115792089237316195423570985008687907853269984665640564039457584007913129639936:=by rw[eam];exact(Nat.lt_trans (Cv.nsub_lt _ _) P_lt)
 have Ham:=Lib.hid eam.symm
 obtain⟨cc,ecc⟩:∃ y,y=Cv.nmul bp am:=⟨_,rfl⟩
 have lcc:cc<115792089237316195423570985008687907853269984665640564039457584007913129639936:=by rw[ecc];exact(Nat.lt_trans (Cv.nmul_lt _ _) P_lt)
 have Hcc:=Lib.hid ecc.symm
 obtain⟨s,es⟩:∃ y,y=Cv.nadd dd cc:=⟨_,rfl⟩
 have ls:s<115792089237316195423570985008687907853269984665640564039457584007913129639936:=by rw[es];exact(Nat.lt_trans (Cv.nadd_lt _ _) P_lt)
 have Hs:=Lib.hid es.symm
 obtain⟨t,et⟩:∃ y,y=Cv.nsub dd cc:=⟨_,rfl⟩
 have lt:t<115792089237316195423570985008687907853269984665640564039457584007913129639936:=by rw[et];exact(Nat.lt_trans (Cv.nsub_lt _ _) P_lt)
 have Ht:=Lib.hid et.symm
 obtain⟨X,eX⟩:∃ y,y=Cv.nmul s s:=⟨_,rfl⟩
 have lX:X<115792089237316195423570985008687907853269984665640564039457584007913129639936:=by rw[eX];exact(Nat.lt_trans (Cv.nmul_lt _ _) P_lt)
 have HX:=Lib.hid eX.symm
 obtain⟨tt,ett⟩:∃ y,y=Cv.nmul t t:=⟨_,rfl⟩
 have ltt:tt<115792089237316195423570985008687907853269984665640564039457584007913129639936:=by rw[ett];exact(Nat.lt_trans (Cv.nmul_lt _ _) P_lt)
 have Htt:=Lib.hid ett.symm
 obtain⟨Z,eZ⟩:∃ y,y=Cv.nmul x1 tt:=⟨_,rfl⟩
 have lZ:Z<115792089237316195423570985008687907853269984665640564039457584007913129639936:=by rw[eZ];exact(Nat.lt_trans (Cv.nmul_lt _ _) P_lt)
 have HZ:=Lib.hid eZ.symm
 rw[←ebm,←eap,←edd,←ebp,←eam,←ecc,←es,←et,←eX,←ett,←eZ]
 clear ebm eap edd ebp eam ecc es et eX ett eZ
 go_enter Tryz.func97,Tryz.ntmps97
 go_wp2_with fail
 generalize hW:World.alloc _ _=W1
 have R1x0:=Lib.hid (show RowAt W1 (w.heap.size) (fracA x z) by rw[←hW];clear hW;exact⟨by go_simp,by go_simp,by go_simp⟩)
 have R1x1:=Lib.hid (show RowAt W1 (w.heap.size+1) (fracA x3 z3) by rw[←hW];clear hW;exact⟨by go_simp,by go_simp,by go_simp⟩)
 have R1x2:=Lib.hid (show RowAt W1 (w.heap.size+1+1) (keyA x1) by rw[←hW];clear hW;exact⟨by go_simp,by go_simp,by go_simp⟩)
 have R1x3:=Lib.hid (show RowAt W1 (w.heap.size+1+1+1) (#[.int .u8 0,.int .u8 0,.int .u8 0,.int .u8 0,.int .u8 0,.int .u8 0,.int .u8 0,.int .u8 0,.int .u8 0,.int .u8 0,.int .u8 0,.int .u8 0,.int .u8 0,.int .u8 0,.int .u8 0,.int .u8 0,.int .u8 0,.int .u8 0,.int .u8 0,.int .u8 0,.int .u8 0,.int .u8 0,.int .u8 0,.int .u8 0,.int .u8 0,.int .u8 0,.int .u8 0,.int .u8 0,.int .u8 0,.int .u8 0,.int .u8 0,.int .u8 0,.int .u8 0,.int .u8 0,.int .u8 0,.int .u8 0,.int .u8 0,.int .u8 0,.int .u8 0,.int .u8 0,.int .u8 0,.int .u8 0,.int .u8 0,.int .u8 0,.int .u8 0,.int .u8 0,.int .u8 0,.int .u8 0,.int .u8 0,.int .u8 0,.int .u8 0,.int .u8 0,.int .u8 0,.int .u8 0,.int .u8 0,.int .u8 0,.int .u8 0,.int .u8 0,.int .u8 0,.int .u8 0,.int .u8 0,.int .u8 0,.int .u8 0,.int .u8 0]) by rw[←hW];clear hW;exact⟨by go_simp,by go_simp,by go_simp⟩)
 have HB1:=Lib.hid (show Below w.heap.size w W1 by rw[←hW];repeat (first | apply below_more | apply below_alloc | exact Below.refl _ _))
 clear hW
 obtain⟨R1x0a,R1x0b,R1x0c⟩:=R1x0.out
 obtain⟨R1x1a,R1x1b,R1x1c⟩:=R1x1.out
 obtain⟨R1x2a,R1x2b,R1x2c⟩:=R1x2.out
 obtain⟨R1x3a,R1x3b,R1x3c⟩:=R1x3.out
 refine wp_region_lays W1 11 [(23,#[.int .u8 0,.int .u8 0,.int .u8 0,.int .u8 0,.int .u8 0,.int .u8 0,.int .u8 0,.int .u8 0,.int .u8 0,.int .u8 0,.int .u8 0,.int .u8 0,.int .u8 0,.int .u8 0,.int .u8 0,.int .u8 0,.int .u8 0,.int .u8 0,.int .u8 0,.int .u8 0,.int .u8 0,.int .u8 0,.int .u8 0,.int .u8 0,.int .u8 0,.int .u8 0,.int .u8 0,.int .u8 0,.int .u8 0,.int .u8 0,.int .u8 0,.int .u8 0])] (by kernel_rfl) (by kernel_rfl) ((Below.refl _ _).drew) ?_
 simp only[List.take_succ_cons,List.take_zero,List.drop_succ_cons,List.drop_zero,List.length_cons,List.length_nil,Nat.reduceAdd]
 iterate 4 (refine wpHoldB_val (wanted_none rfl) (by intro K o d hK;go_simp;exact hK _ (Below.refl _ _)) ?_)
 refine wpHoldB_call (v:=kv bm) (wanted_none rfl) (by intro K o d hK;go_simp;refine(sub_K x3 z3 bm hx3 hz3 Hbm.out _).mono ?_;rintro e w' ⟨rfl,hbw⟩;exact⟨_,rfl,hK _ hbw⟩) ?_
 iterate 4 (refine wpHoldB_val (wanted_none rfl) (by intro K o d hK;go_simp;exact hK _ (Below.refl _ _)) ?_)
 refine wpHoldB_call (v:=kv ap) (wanted_none rfl) (by intro K o d hK;go_simp;refine(add_K x z ap hx hz Hap.out _).mono ?_;rintro e w' ⟨rfl,hbw⟩;exact⟨_,rfl,hK _ hbw⟩) ?_
 refine wpHoldB_call (v:=kv dd) (wanted_none rfl) (by intro K o d hK;go_simp;refine(mul_K bm ap dd lbm lap Hdd.out _).mono ?_;rintro e w' ⟨rfl,hbw⟩;exact⟨_,rfl,hK _ hbw⟩) ?_
 refine wpHoldB_nil ?_
 refine⟨lays_key _ rfl rfl,fun g2x0 hg2x0 hn2x0=>?_⟩
 intro w2 hb2 hblk2
 have A2x0:=R1x0.out.grow hb2
 have c2x0:=R1x0.out.2.2
 have A2x1:=R1x1.out.grow hb2
 have c2x1:=R1x1.out.2.2
 have A2x2:=R1x2.out.grow hb2
 have c2x2:=R1x2.out.2.2
 have A2x3:=R1x3.out.grow hb2
 have c2x3:=R1x3.out.2.2
 have N2x0:=RowAt.of (hblk2 0 g2x0 _ _ rfl rfl)
 have B2x0:=HB1.out.trans (hb2.mono HB1.out.size)
 have s2:=HB1.out.size
 have O2x0:=N2x0
 have P2x0x0:=A2x0.other (show w.heap.size≠g2x0 by omega) (keyA dd)
 have P2x0x1:=A2x1.other (show w.heap.size+1≠g2x0 by omega) (keyA dd)
 have P2x0x2:=A2x2.other (show w.heap.size+1+1≠g2x0 by omega) (keyA dd)
 have P2x0x3:=A2x3.other (show w.heap.size+1+1+1≠g2x0 by omega) (keyA dd)
 have Q2x0x0:=N2x0.set (keyA dd)
 have B2x1:=below_setRow B2x0 (show w.heap.size≤g2x0 by omega) (keyA dd)
 have Z2x0:=Lib.hid P2x0x0
 have Z2x1:=Lib.hid P2x0x1
 have Z2x2:=Lib.hid P2x0x2
 have Z2x3:=Lib.hid P2x0x3
 have Z2x4:=Lib.hid Q2x0x0
 have HB2:=Lib.hid B2x1
 have ne2x0x0:¬w.heap.size=g2x0:=by omega
 have nf2x0x0:¬g2x0=w.heap.size:=by omega
 have ne2x1x0:¬w.heap.size+1=g2x0:=by omega
 have nf2x1x0:¬g2x0=w.heap.size+1:=by omega
 have ne2x2x0:¬w.heap.size+1+1=g2x0:=by omega
 have nf2x2x0:¬g2x0=w.heap.size+1+1:=by omega
 have ne2x3x0:¬w.heap.size+1+1+1=g2x0:=by omega
 have nf2x3x0:¬g2x0=w.heap.size+1+1+1:=by omega
 clear hb2 hblk2 HB1 s2 R1x0a R1x0b R1x0c R1x1a R1x1b R1x1c R1x2a R1x2b R1x2c R1x3a R1x3b R1x3c R1x0 R1x1 R1x2 R1x3 c2x0 c2x1 c2x2 c2x3 B2x0 B2x1 O2x0 P2x0x0 P2x0x1 P2x0x2 P2x0x3 Q2x0x0 hg2x0 hn2x0
 obtain⟨A2x0a,A2x0b,A2x0c⟩:=A2x0
 obtain⟨A2x1a,A2x1b,A2x1c⟩:=A2x1
 obtain⟨A2x2a,A2x2b,A2x2c⟩:=A2x2
 obtain⟨A2x3a,A2x3b,A2x3c⟩:=A2x3
 obtain⟨N2x0a,N2x0b,N2x0c⟩:=N2x0
 go_wp2_with fail
 clear A2x0a A2x0b A2x0c A2x1a A2x1b A2x1c A2x2a A2x2b A2x2c A2x3a A2x3b A2x3c N2x0a N2x0b N2x0c ne2x0x0 nf2x0x0 ne2x1x0 nf2x1x0 ne2x2x0 nf2x2x0 ne2x3x0 nf2x3x0
 generalize World.setRow _ _ _=W3 at *
 obtain⟨Z2x0a,Z2x0b,Z2x0c⟩:=Z2x0.out
 obtain⟨Z2x1a,Z2x1b,Z2x1c⟩:=Z2x1.out
 obtain⟨Z2x2a,Z2x2b,Z2x2c⟩:=Z2x2.out
 obtain⟨Z2x3a,Z2x3b,Z2x3c⟩:=Z2x3.out
 obtain⟨Z2x4a,Z2x4b,Z2x4c⟩:=Z2x4.out
 refine wp_region_lays W3 11 [(23,#[.int .u8 0,.int .u8 0,.int .u8 0,.int .u8 0,.int .u8 0,.int .u8 0,.int .u8 0,.int .u8 0,.int .u8 0,.int .u8 0,.int .u8 0,.int .u8 0,.int .u8 0,.int .u8 0,.int .u8 0,.int .u8 0,.int .u8 0,.int .u8 0,.int .u8 0,.int .u8 0,.int .u8 0,.int .u8 0,.int .u8 0,.int .u8 0,.int .u8 0,.int .u8 0,.int .u8 0,.int .u8 0,.int .u8 0,.int .u8 0,.int .u8 0,.int .u8 0])] (by kernel_rfl) (by kernel_rfl) ((Below.refl _ _).drew) ?_
 simp only[List.take_succ_cons,List.take_zero,List.drop_succ_cons,List.drop_zero,List.length_cons,List.length_nil,Nat.reduceAdd]
 iterate 4 (refine wpHoldB_val (wanted_none rfl) (by intro K o d hK;go_simp;exact hK _ (Below.refl _ _)) ?_)
 refine wpHoldB_call (v:=kv bp) (wanted_none rfl) (by intro K o d hK;go_simp;refine(add_K x3 z3 bp hx3 hz3 Hbp.out _).mono ?_;rintro e w' ⟨rfl,hbw⟩;exact⟨_,rfl,hK _ hbw⟩) ?_
 iterate 4 (refine wpHoldB_val (wanted_none rfl) (by intro K o d hK;go_simp;exact hK _ (Below.refl _ _)) ?_)
 refine wpHoldB_call (v:=kv am) (wanted_none rfl) (by intro K o d hK;go_simp;refine(sub_K x z am hx hz Ham.out _).mono ?_;rintro e w' ⟨rfl,hbw⟩;exact⟨_,rfl,hK _ hbw⟩) ?_
 refine wpHoldB_call (v:=kv cc) (wanted_none rfl) (by intro K o d hK;go_simp;refine(mul_K bp am cc lbp lam Hcc.out _).mono ?_;rintro e w' ⟨rfl,hbw⟩;exact⟨_,rfl,hK _ hbw⟩) ?_
 refine wpHoldB_nil ?_
 refine⟨lays_key _ rfl rfl,fun g4x0 hg4x0 hn4x0=>?_⟩
 intro w4 hb4 hblk4
 have A4x0:=Z2x0.out.grow hb4
 have c4x0:=Z2x0.out.2.2
 have A4x1:=Z2x1.out.grow hb4
 have c4x1:=Z2x1.out.2.2
 have A4x2:=Z2x2.out.grow hb4
 have c4x2:=Z2x2.out.2.2
 have A4x3:=Z2x3.out.grow hb4
 have c4x3:=Z2x3.out.2.2
 have A4x4:=Z2x4.out.grow hb4
 have c4x4:=Z2x4.out.2.2
 have N4x0:=RowAt.of (hblk4 0 g4x0 _ _ rfl rfl)
 have B4x0:=HB2.out.trans (hb4.mono HB2.out.size)
 have s4:=HB2.out.size
 have O4x0:=N4x0
 have P4x0x0:=A4x0.other (show w.heap.size≠g4x0 by omega) (keyA cc)
 have P4x0x1:=A4x1.other (show w.heap.size+1≠g4x0 by omega) (keyA cc)
 have P4x0x2:=A4x2.other (show w.heap.size+1+1≠g4x0 by omega) (keyA cc)
 have P4x0x3:=A4x3.other (show w.heap.size+1+1+1≠g4x0 by omega) (keyA cc)
 have P4x0x4:=A4x4.other (show g2x0≠g4x0 by omega) (keyA cc)
 have Q4x0x0:=N4x0.set (keyA cc)
 have B4x1:=below_setRow B4x0 (show w.heap.size≤g4x0 by omega) (keyA cc)
 have Z4x0:=Lib.hid P4x0x0
 have Z4x1:=Lib.hid P4x0x1
 have Z4x2:=Lib.hid P4x0x2
 have Z4x3:=Lib.hid P4x0x3
 have Z4x4:=Lib.hid P4x0x4
 have Z4x5:=Lib.hid Q4x0x0
 have HB4:=Lib.hid B4x1
 have ne4x0x0:¬w.heap.size=g4x0:=by omega
 have nf4x0x0:¬g4x0=w.heap.size:=by omega
 have ne4x1x0:¬w.heap.size+1=g4x0:=by omega
 have nf4x1x0:¬g4x0=w.heap.size+1:=by omega
 have ne4x2x0:¬w.heap.size+1+1=g4x0:=by omega
 have nf4x2x0:¬g4x0=w.heap.size+1+1:=by omega
 have ne4x3x0:¬w.heap.size+1+1+1=g4x0:=by omega
 have nf4x3x0:¬g4x0=w.heap.size+1+1+1:=by omega
 have ne4x4x0:¬g2x0=g4x0:=by omega
 have nf4x4x0:¬g4x0=g2x0:=by omega
 clear hb4 hblk4 HB2 s4 Z2x0a Z2x0b Z2x0c Z2x1a Z2x1b Z2x1c Z2x2a Z2x2b Z2x2c Z2x3a Z2x3b Z2x3c Z2x4a Z2x4b Z2x4c Z2x0 Z2x1 Z2x2 Z2x3 Z2x4 c4x0 c4x1 c4x2 c4x3 c4x4 B4x0 B4x1 O4x0 P4x0x0 P4x0x1 P4x0x2 P4x0x3 P4x0x4 Q4x0x0 hg4x0 hn4x0
 obtain⟨A4x0a,A4x0b,A4x0c⟩:=A4x0
 obtain⟨A4x1a,A4x1b,A4x1c⟩:=A4x1
 obtain⟨A4x2a,A4x2b,A4x2c⟩:=A4x2
 obtain⟨A4x3a,A4x3b,A4x3c⟩:=A4x3
 obtain⟨A4x4a,A4x4b,A4x4c⟩:=A4x4
 obtain⟨N4x0a,N4x0b,N4x0c⟩:=N4x0
 go_wp2_with fail
 clear A4x0a A4x0b A4x0c A4x1a A4x1b A4x1c A4x2a A4x2b A4x2c A4x3a A4x3b A4x3c A4x4a A4x4b A4x4c N4x0a N4x0b N4x0c ne4x0x0 nf4x0x0 ne4x1x0 nf4x1x0 ne4x2x0 nf4x2x0 ne4x3x0 nf4x3x0 ne4x4x0 nf4x4x0
 generalize World.setRow _ _ _=W5 at *
 obtain⟨Z4x0a,Z4x0b,Z4x0c⟩:=Z4x0.out
 obtain⟨Z4x1a,Z4x1b,Z4x1c⟩:=Z4x1.out
 obtain⟨Z4x2a,Z4x2b,Z4x2c⟩:=Z4x2.out
 obtain⟨Z4x3a,Z4x3b,Z4x3c⟩:=Z4x3.out
 obtain⟨Z4x4a,Z4x4b,Z4x4c⟩:=Z4x4.out
 obtain⟨Z4x5a,Z4x5b,Z4x5c⟩:=Z4x5.out
 refine wp_region_hold (fun w'=>∃ o d,w'=W5.plus o d) 11 (by kernel_rfl) (by kernel_rfl) ⟨#[],_,rfl⟩ ?_
 simp only[List.take_succ_cons,List.take_zero,List.drop_succ_cons,List.drop_zero]
 iterate 2 (refine wpHold_val ⟨_,#[],0,rfl⟩ (wanted_none rfl) (by rintro K _ ⟨o,d,rfl⟩ hK;go_simp;exact hK _ ⟨o,d,rfl⟩) ?_)
 refine wpHold_call (v:=kv s) (wanted_none rfl) (by rintro K _ ⟨o,d,rfl⟩ hK;go_simp;refine(add_K dd cc s ldd lcc Hs.out _).mono ?_;rintro e w' ⟨rfl,hbw⟩;obtain⟨o',n',rfl⟩:=below_plus hbw;exact⟨_,rfl,hK _ ⟨_,_,World.plus_plus _ _ _ _ _⟩⟩) ?_
 refine wpHold_call (v:=kv X) (wanted_none rfl) (by rintro K _ ⟨o,d,rfl⟩ hK;go_simp;refine(square_K s X ls HX.out _).mono ?_;rintro e w' ⟨rfl,hbw⟩;obtain⟨o',n',rfl⟩:=below_plus hbw;exact⟨_,rfl,hK _ ⟨_,_,World.plus_plus _ _ _ _ _⟩⟩) ?_
 iterate 3 (refine wpHold_val ⟨_,#[],0,rfl⟩ (wanted_none rfl) (by rintro K _ ⟨o,d,rfl⟩ hK;go_simp;exact hK _ ⟨o,d,rfl⟩) ?_)
 refine wpHold_call (v:=kv t) (wanted_none rfl) (by rintro K _ ⟨o,d,rfl⟩ hK;go_simp;refine(sub_K dd cc t ldd lcc Ht.out _).mono ?_;rintro e w' ⟨rfl,hbw⟩;obtain⟨o',n',rfl⟩:=below_plus hbw;exact⟨_,rfl,hK _ ⟨_,_,World.plus_plus _ _ _ _ _⟩⟩) ?_
 refine wpHold_call (v:=kv tt) (wanted_none rfl) (by rintro K _ ⟨o,d,rfl⟩ hK;go_simp;refine(square_K t tt lt Htt.out _).mono ?_;rintro e w' ⟨rfl,hbw⟩;obtain⟨o',n',rfl⟩:=below_plus hbw;exact⟨_,rfl,hK _ ⟨_,_,World.plus_plus _ _ _ _ _⟩⟩) ?_
 refine wpHold_call (v:=kv Z) (wanted_none rfl) (by rintro K _ ⟨o,d,rfl⟩ hK;go_simp;refine(mul_K x1 tt Z hx1 ltt HZ.out _).mono ?_;rintro e w' ⟨rfl,hbw⟩;obtain⟨o',n',rfl⟩:=below_plus hbw;exact⟨_,rfl,hK _ ⟨_,_,World.plus_plus _ _ _ _ _⟩⟩) ?_
 refine wpHold_val ⟨_,#[],0,rfl⟩ (wanted_none rfl) (by rintro K _ ⟨o,d,rfl⟩ hK;go_simp;exact hK _ ⟨o,d,rfl⟩) ?_
 refine wpHold_nil ?_
 rintro _ ⟨oh6,nh6,rfl⟩
 go_wp2_with fail
 refine bodyPost_ret (v:=fv X Z) (results_frac Tryz.results97 _ _ _ rfl (by go_simp) (by go_simp)) rfl ⟨rfl,?_⟩
 exact below_more (below_setRow HB4.out (by omega) _) _ _
end Go.Proofs.YtddmjddlbhdcpaaGreatDoor.F

namespace Go.Proofs.YtddmjddlbhdcpaaGreatDoor.F
open Go.RowKit Go.Shelf Go.Hold
def SwapR (sv:Int) (x z x' z' X Z X' Z':Nat):Prop:=(sv=0∧X=x∧Z=z∧X'=x'∧Z'=z')∨(sv=1∧X=x'∧Z=z'∧X'=x∧Z'=z)
theorem swapIf_K (sv:Int) (x z x' z' X Z X' Z':Nat) (h:SwapR sv x z x' z' X Z X' Z') (w:World) :
  Calls Tryz.prog 95 #[.int .u8 sv,fv x z,fv x' z'] w fun e w'=>e=.returned (.tuple #[fv X Z,fv X' Z'])∧Below w.heap.size w w':=by
 rcases h with ⟨rfl,rfl,rfl,rfl,rfl⟩ | ⟨rfl,rfl,rfl,rfl,rfl⟩
 ·exact swapIf_any false _ _ _ _ w
 ·exact swapIf_any true _ _ _ _ w
theorem twice_V (x z X Z:Nat) (hx:x<115792089237316195423570985008687907853269984665640564039457584007913129639936) (hz:z<115792089237316195423570985008687907853269984665640564039457584007913129639936) (h:Cv.ntw (x,z)=(X,Z)) (w:World) :
  Calls Tryz.prog 96 #[fv x z] w fun e w'=>e=.returned (fv X Z)∧Below w.heap.size w w':=by
 have:=twice_K x z hx hz w;rw[h] at this;exact this
theorem sum_V (x z x3 z3 x1 X Z:Nat) (hx:x<115792089237316195423570985008687907853269984665640564039457584007913129639936) (hz:z<115792089237316195423570985008687907853269984665640564039457584007913129639936) (hx3:x3<115792089237316195423570985008687907853269984665640564039457584007913129639936) (hz3:z3<115792089237316195423570985008687907853269984665640564039457584007913129639936) (hx1:x1<115792089237316195423570985008687907853269984665640564039457584007913129639936) (h:Cv.nsm x1 (x,z) (x3,z3)=(X,Z)) (w:World) :
  Calls Tryz.prog 97 #[fv x z,fv x3 z3,kv x1] w fun e w'=>e=.returned (fv X Z)∧Below w.heap.size w w':=by
 have:=sum_K x z x3 z3 x1 hx hz hx3 hz3 hx1 w;rw[h] at this;exact this
namespace Cv
theorem ntw_lt (p:Nat × Nat):(ntw p).1<Fp.P∧(ntw p).2<Fp.P:=⟨nmul_lt _ _,nmul_lt _ _⟩
theorem nsm_lt (x1:Nat) (p r:Nat × Nat):(nsm x1 p r).1<Fp.P∧(nsm x1 p r).2<Fp.P:=⟨nmul_lt _ _,nmul_lt _ _⟩
def Small (s:(Nat × Nat) × (Nat × Nat)):Prop:=s.1.1<115792089237316195423570985008687907853269984665640564039457584007913129639936∧s.1.2<115792089237316195423570985008687907853269984665640564039457584007913129639936∧s.2.1<115792089237316195423570985008687907853269984665640564039457584007913129639936∧s.2.2<115792089237316195423570985008687907853269984665640564039457584007913129639936
theorem small_lad (x1 m:Nat) (hx1:x1<115792089237316195423570985008687907853269984665640564039457584007913129639936):∀ j,Small (nlad x1 m j)
 | 0=>⟨show 1<115792089237316195423570985008687907853269984665640564039457584007913129639936 by decide,show 0<115792089237316195423570985008687907853269984665640564039457584007913129639936 by decide,hx1,show 1<115792089237316195423570985008687907853269984665640564039457584007913129639936 by decide⟩
 | j+1=>by
  show Small (nstp x1 (m/2^(254-j)%2 == 1) (nlad x1 m j))
  cases (m/2^(254-j)%2 == 1)
  ·exact⟨Nat.lt_trans (ntw_lt _).1 P_lt,Nat.lt_trans (ntw_lt _).2 P_lt,Nat.lt_trans (nsm_lt _ _ _).1 P_lt,Nat.lt_trans (nsm_lt _ _ _).2 P_lt⟩
  ·exact⟨Nat.lt_trans (nsm_lt _ _ _).1 P_lt,Nat.lt_trans (nsm_lt _ _ _).2 P_lt,Nat.lt_trans (ntw_lt _).1 P_lt,Nat.lt_trans (ntw_lt _).2 P_lt⟩
theorem bit_of (m j:Nat):m/256^(j/8)%256/2^(j%8)%2=m/2^j%2:=by
 have e:(256:Nat)^(j/8)=2^(8*(j/8)):=by rw[Nat.pow_mul]
 have e2:j=8*(j/8)+j%8:=(Nat.div_add_mod j 8).symm
 have hr:j%8<8:=Nat.mod_lt _ (by decide)
 rw[e]
 conv=>rhs;rw[e2,Nat.pow_add,←Nat.div_div_eq_div_mul]
 generalize m/2^(8*(j/8))=x
 generalize j%8=r at *
 have h8:r=0∨r=1∨r=2∨r=3∨r=4∨r=5∨r=6∨r=7:=by omega
 rcases h8 with rfl | rfl | rfl | rfl | rfl | rfl | rfl | rfl<;>simp only[Nat.reducePow]<;>omega
theorem and1 (a:Nat) (ha:a<256):bits .and .u8 (a:Int) 1=((a%2:Nat):Int):=by
 rw[show (1:Int)=((1:Nat):Int) from rfl,and8 a 1 ha (by decide),show (1:Nat)=2^1-1 from rfl,Nat.and_two_pow_sub_one_eq_mod]
theorem bit_and (m j:Nat):bits .and .u8 (bt m (j/8)/2^(j%8)) 1=((m/2^j%2:Nat):Int):=by
 have h1:bt m (j/8)/2^(j%8)=((m/256^(j/8)%256/2^(j%8):Nat):Int):=by
  unfold bt
  rw[Int.natCast_ediv]
  congr 1
 have hlt:m/256^(j/8)%256/2^(j%8)<256:=Nat.lt_of_le_of_lt (Nat.div_le_self _ _) (Nat.mod_lt _ (by decide))
 rw[h1,and1 _ hlt,bit_of]
theorem round_num (x1 m j:Nat) (hx1:x1<115792089237316195423570985008687907853269984665640564039457584007913129639936) (hj:j<255):∃ (sv:Int) (x2 z2 x3 z3 a az b bz t tz u uz X Z X' Z':Nat),nlad x1 m (255-(j+1))=((x2,z2),(x3,z3))∧bits .and .u8 (bt m (j/8)/2^(j%8)) 1=sv ∧
  SwapR sv x2 z2 x3 z3 a az b bz∧ntw (a,az)=(t,tz)∧nsm x1 (a,az) (b,bz)=(u,uz)∧SwapR sv t tz u uz X Z X' Z'∧nlad x1 m (255-j)=((X,Z),(X',Z'))∧a<115792089237316195423570985008687907853269984665640564039457584007913129639936∧az<115792089237316195423570985008687907853269984665640564039457584007913129639936∧b<115792089237316195423570985008687907853269984665640564039457584007913129639936∧bz<115792089237316195423570985008687907853269984665640564039457584007913129639936:=by
 have hn:nlad x1 m (255-j)=nstp x1 (m/2^j%2 == 1) (nlad x1 m (255-(j+1))):=by
  have e:255-j=(255-(j+1))+1:=by omega
  rw[e]
  show nstp x1 (m/2^(254-(255-(j+1)))%2 == 1) _=_
  rw[show 254-(255-(j+1))=j by omega]
 obtain⟨s1,s2,s3,s4⟩:=small_lad x1 m hx1 (255-(j+1))
 generalize nlad x1 m (255-(j+1))=s at *
 obtain⟨⟨x2,z2⟩,⟨x3,z3⟩⟩:=s
 have hb:=bit_and m j
 have hlt:=Nat.mod_lt (m/2^j) (show 0<2 by decide)
 rw[hn]
 generalize m/2^j%2=bit at *
 rcases (show bit=0∨bit=1 by omega) with rfl | rfl
 ·exact⟨0,x2,z2,x3,z3,x2,z2,x3,z3,_,_,_,_,_,_,_,_,rfl,hb,.inl ⟨rfl,rfl,rfl,rfl,rfl⟩,rfl,rfl,.inl ⟨rfl,rfl,rfl,rfl,rfl⟩,rfl,s1,s2,s3,s4⟩
 ·exact⟨1,x2,z2,x3,z3,x3,z3,x2,z2,_,_,_,_,_,_,_,_,rfl,hb,.inr ⟨rfl,rfl,rfl,rfl,rfl⟩,rfl,rfl,.inr ⟨rfl,rfl,rfl,rfl,rfl⟩,rfl,s3,s4,s1,s2⟩
end Cv
set_option maxHeartbeats 2000000 in
set_option maxRecDepth 100000 in
theorem times_K (x1 m:Nat) (hx1:x1<115792089237316195423570985008687907853269984665640564039457584007913129639936) (w:World) :
  Calls Tryz.prog 65 #[kv x1,kv m] w fun e w'=>e=.returned (kv (Cv.nT m x1))∧Below w.heap.size w w':=by
 go_enter Tryz.func65,Tryz.ntmps65
 go_wp2_with fail
 go_region
 ·go_wp2_with fail
  generalize hW:World.drew _=W1
  have R1x0:=Lib.hid (show RowAt W1 (w.heap.size) (keyA x1) by rw[←hW];clear hW;exact⟨by go_simp,by go_simp,by go_simp⟩)
  have R1x1:=Lib.hid (show RowAt W1 (w.heap.size+1) (keyA m) by rw[←hW];clear hW;exact⟨by go_simp,by go_simp,by go_simp⟩)
  have R1x2:=Lib.hid (show RowAt W1 (w.heap.size+1+1) (#[.int .u8 0,.int .u8 0,.int .u8 0,.int .u8 0,.int .u8 0,.int .u8 0,.int .u8 0,.int .u8 0,.int .u8 0,.int .u8 0,.int .u8 0,.int .u8 0,.int .u8 0,.int .u8 0,.int .u8 0,.int .u8 0,.int .u8 0,.int .u8 0,.int .u8 0,.int .u8 0,.int .u8 0,.int .u8 0,.int .u8 0,.int .u8 0,.int .u8 0,.int .u8 0,.int .u8 0,.int .u8 0,.int .u8 0,.int .u8 0,.int .u8 0,.int .u8 0]) by rw[←hW];clear hW;exact⟨by go_simp,by go_simp,by go_simp⟩)
  have R1x3:=Lib.hid (show RowAt W1 (w.heap.size+1+1+1) (fracA 1 0) by rw[←hW];clear hW;exact⟨by go_simp,by go_simp,by go_simp⟩)
  have R1x4:=Lib.hid (show RowAt W1 (w.heap.size+1+1+1+1) (fracA x1 1) by rw[←hW];clear hW;exact⟨by go_simp,by go_simp,by go_simp⟩)
  have HB1:=Lib.hid (show Below w.heap.size w W1 by rw[←hW];repeat (first | apply below_more | apply below_alloc | apply Below.drew | refine below_setRow ?_ (by omega) _ | exact Below.refl _ _))
  clear hW
  obtain⟨R1x0a,R1x0b,R1x0c⟩:=R1x0.out
  obtain⟨R1x1a,R1x1b,R1x1c⟩:=R1x1.out
  obtain⟨R1x2a,R1x2b,R1x2c⟩:=R1x2.out
  obtain⟨R1x3a,R1x3b,R1x3c⟩:=R1x3.out
  obtain⟨R1x4a,R1x4b,R1x4c⟩:=R1x4.out
  go_loopw [7] (fun i w'=>∃ (k:Nat),k≤255∧i=.int .i64 ((k:Int)-1)∧RowAt w' w.heap.size (keyA x1)∧RowAt w' (w.heap.size+1) (keyA m)∧RowAt w' (w.heap.size+1+1) #[.int .u8 0,.int .u8 0,.int .u8 0,.int .u8 0,.int .u8 0,.int .u8 0,.int .u8 0,.int .u8 0,.int .u8 0,.int .u8 0,.int .u8 0,.int .u8 0,.int .u8 0,.int .u8 0,.int .u8 0,.int .u8 0,.int .u8 0,.int .u8 0,.int .u8 0,.int .u8 0,.int .u8 0,.int .u8 0,.int .u8 0,.int .u8 0,.int .u8 0,.int .u8 0,.int .u8 0,.int .u8 0,.int .u8 0,.int .u8 0,.int .u8 0,.int .u8 0] ∧
   RowAt w' (w.heap.size+1+1+1) (fracA (Cv.nlad x1 m (255-k)).1.1 (Cv.nlad x1 m (255-k)).1.2)∧RowAt w' (w.heap.size+1+1+1+1) (fracA (Cv.nlad x1 m (255-k)).2.1 (Cv.nlad x1 m (255-k)).2.2)∧Below w.heap.size w w') (fun i _=>(intOf i+1).toNat)
  case atStart=>exact⟨255,Nat.le_refl _,rfl,R1x0.out,R1x1.out,R1x2.out,R1x3.out,R1x4.out,HB1.out⟩
  case round =>
   clear R1x0a R1x0b R1x0c R1x0 R1x1a R1x1b R1x1c R1x1 R1x2a R1x2b R1x2c R1x2 R1x3a R1x3b R1x3c R1x3 R1x4a R1x4b R1x4c R1x4 HB1
   obtain⟨k,hk,rfl,Q1,Q2,Q3,Q4,Q5,HB⟩:=hrel
   have T1:=Lib.hid Q1
   have T2:=Lib.hid Q2
   have T3:=Lib.hid Q3
   have HB2:=Lib.hid HB
   clear HB
   rcases Nat.eq_zero_or_pos k with rfl | hpos
   ·have hs:=Cv.small_lad x1 m hx1 255
    rw[Nat.sub_zero] at Q4 Q5
    obtain⟨s,hq⟩:∃ s,Cv.nlad x1 m 255=s:=⟨_,rfl⟩
    rw[hq] at Q4 Q5 hs
    obtain⟨⟨x2,z2⟩,q⟩:=s
    have hx2:x2<115792089237316195423570985008687907853269984665640564039457584007913129639936:=hs.1
    have hz2:z2<115792089237316195423570985008687907853269984665640564039457584007913129639936:=hs.2.1
    obtain⟨i,ei⟩:∃ y,y=z2^Fp.E%Fp.P:=⟨_,rfl⟩
    have li:i<115792089237316195423570985008687907853269984665640564039457584007913129639936:=by rw[ei];exact mod_lt _
    obtain⟨r,er⟩:∃ y,y=Cv.nmul x2 i:=⟨_,rfl⟩
    have Hi:=Lib.hid ei.symm
    have Hr:=Lib.hid er.symm
    have Hres:Hid (Cv.nT m x1=r):=by
     show _=_
     rw[er,ei];unfold Cv.nT;rw[hq]
    clear ei er hq hs T1 T2 T3
    obtain⟨Q1a,Q1b,Q1c⟩:=Q1
    obtain⟨Q2a,Q2b,Q2c⟩:=Q2
    obtain⟨Q3a,Q3b,Q3c⟩:=Q3
    obtain⟨Q4a,Q4b,Q4c⟩:=Q4
    obtain⟨Q5a,Q5b,Q5c⟩:=Q5
    go_wp2_with fail
    refine wp_region_hold (fun w'=>∃ o d,w'=wr.plus o d) 6 (by kernel_rfl) (by kernel_rfl) ⟨#[],_,rfl⟩ ?_
    simp only[List.take_succ_cons,List.take_zero,List.drop_succ_cons,List.drop_zero]
    iterate 4 (refine wpHold_val ⟨_,#[],0,rfl⟩ (wanted_none rfl) (by rintro K _ ⟨o,d,rfl⟩ hK;go_simp;exact hK _ ⟨o,d,rfl⟩) ?_)
    refine wpHold_call (v:=kv i) (wanted_none rfl) (by rintro K _ ⟨o,d,rfl⟩ hK;go_simp;refine(inv_K z2 i hz2 Hi.out _).mono ?_;rintro e w' ⟨rfl,hbw⟩;obtain⟨o',n',rfl⟩:=below_plus hbw;exact⟨_,rfl,hK _ ⟨_,_,World.plus_plus _ _ _ _ _⟩⟩) ?_
    refine wpHold_call (v:=kv r) (wanted_none rfl) (by rintro K _ ⟨o,d,rfl⟩ hK;go_simp;refine(mul_K x2 i r hx2 li Hr.out _).mono ?_;rintro e w' ⟨rfl,hbw⟩;obtain⟨o',n',rfl⟩:=below_plus hbw;exact⟨_,rfl,hK _ ⟨_,_,World.plus_plus _ _ _ _ _⟩⟩) ?_
    refine wpHold_nil ?_
    rintro _ ⟨oh31,nh31,rfl⟩
    go_wp2_with fail
    refine bodyPost_ret (v:=kv r) (results_key Tryz.results65 _ _ _ rfl (by go_simp) (by go_simp)) rfl ⟨by rw[Hres.out],?_⟩
    exact below_more (below_setRow HB2.out (by omega) _) _ _
   ·obtain⟨j,rfl⟩:∃ j,k=j+1:=⟨k-1,by omega⟩
    rw[show (((j+1:Nat):Int)-1)=(j:Int) by omega]
    have hj0:(0:Int)≤j:=by omega
    have hj1:(j:Int)≤254:=by omega
    have hc:=T2.out.cellAt (j/8) (keyA_get m (j/8) (by omega))
    obtain⟨sv,x2,z2,x3,z3,a,az,b,bz,t,tz,u,uz,X,Z,X',Z',e1,hbit,S1,e2,e3,S2,e4,la,laz,lb,lbz⟩:=Cv.round_num x1 m j hx1 (by omega)
    rw[e1] at Q4 Q5
    have E2:=Lib.hid e2
    have E3:=Lib.hid e3
    have E4:=Lib.hid e4
    have HS1:=Lib.hid S1
    have HS2:=Lib.hid S2
    clear e1 e2 e3 e4 S1 S2
    obtain⟨T1a,T1b,T1c⟩:=Q1
    obtain⟨T2a,T2b,T2c⟩:=Q2
    obtain⟨T3a,T3b,T3c⟩:=Q3
    have T4:=Lib.hid Q4
    have T5:=Lib.hid Q5
    obtain⟨T4a,T4b,T4c⟩:=Q4
    obtain⟨T5a,T5b,T5c⟩:=Q5
    go_wp2_with fail
    refine(swapIf_K sv x2 z2 x3 z3 a az b bz HS1.out _).mono ?_
    rintro e w' ⟨rfl,hbw⟩
    obtain⟨oc1,nc1,rfl⟩:=below_plus hbw
    clear hbw
    go_wp2_with fail
    generalize hW:World.plus _ _ _=W41
    have R41x0:=Lib.hid (show RowAt W41 (w.heap.size) (keyA x1) by rw[←hW];clear hW;exact⟨by go_simp,by go_simp,by go_simp⟩)
    have R41x1:=Lib.hid (show RowAt W41 (w.heap.size+1) (keyA m) by rw[←hW];clear hW;exact⟨by go_simp,by go_simp,by go_simp⟩)
    have R41x2:=Lib.hid (show RowAt W41 (w.heap.size+1+1) (#[.int .u8 0,.int .u8 0,.int .u8 0,.int .u8 0,.int .u8 0,.int .u8 0,.int .u8 0,.int .u8 0,.int .u8 0,.int .u8 0,.int .u8 0,.int .u8 0,.int .u8 0,.int .u8 0,.int .u8 0,.int .u8 0,.int .u8 0,.int .u8 0,.int .u8 0,.int .u8 0,.int .u8 0,.int .u8 0,.int .u8 0,.int .u8 0,.int .u8 0,.int .u8 0,.int .u8 0,.int .u8 0,.int .u8 0,.int .u8 0,.int .u8 0,.int .u8 0]) by rw[←hW];clear hW;exact⟨by go_simp,by go_simp,by go_simp⟩)
    have R41x3:=Lib.hid (show RowAt W41 (w.heap.size+1+1+1) (fracA a az) by rw[←hW];clear hW;exact⟨by go_simp,by go_simp,by go_simp⟩)
    have R41x4:=Lib.hid (show RowAt W41 (w.heap.size+1+1+1+1) (fracA b bz) by rw[←hW];clear hW;exact⟨by go_simp,by go_simp,by go_simp⟩)
    have HB41:=Lib.hid (show Below w.heap.size w W41 by rw[←hW];repeat (first | apply below_more | apply below_alloc | apply Below.drew | refine below_setRow ?_ (by omega) _ | exact HB2.out))
    clear hW
    clear T1a T1b T1c T2a T2b T2c T3a T3b T3c T4a T4b T4c T5a T5b T5c T1 T2 T3 T4 T5 HB2
    obtain⟨R41x0a,R41x0b,R41x0c⟩:=R41x0.out
    obtain⟨R41x1a,R41x1b,R41x1c⟩:=R41x1.out
    obtain⟨R41x2a,R41x2b,R41x2c⟩:=R41x2.out
    obtain⟨R41x3a,R41x3b,R41x3c⟩:=R41x3.out
    obtain⟨R41x4a,R41x4b,R41x4c⟩:=R41x4.out
    clear hc hbit HS1
    refine wp_region_hold (fun w'=>∃ o d,w'=W41.plus o d) 6 (by kernel_rfl) (by kernel_rfl) ⟨#[],_,rfl⟩ ?_
    simp only[List.take_succ_cons,List.take_zero,List.drop_succ_cons,List.drop_zero]
    refine wpHold_val ⟨_,#[],0,rfl⟩ (wanted_none rfl) (by rintro K _ ⟨o,d,rfl⟩ hK;go_simp;exact hK _ ⟨o,d,rfl⟩) ?_
    refine wpHold_call (v:=fv t tz) (wanted_none rfl) (by rintro K _ ⟨o,d,rfl⟩ hK;go_simp;refine(twice_V a az t tz la laz E2.out _).mono ?_;rintro e w' ⟨rfl,hbw⟩;obtain⟨o',n',rfl⟩:=below_plus hbw;exact⟨_,rfl,hK _ ⟨_,_,World.plus_plus _ _ _ _ _⟩⟩) ?_
    iterate 3 (refine wpHold_val ⟨_,#[],0,rfl⟩ (wanted_none rfl) (by rintro K _ ⟨o,d,rfl⟩ hK;go_simp;exact hK _ ⟨o,d,rfl⟩) ?_)
    refine wpHold_call (v:=fv u uz) (wanted_none rfl) (by rintro K _ ⟨o,d,rfl⟩ hK;go_simp;refine(sum_V a az b bz x1 u uz la laz lb lbz hx1 E3.out _).mono ?_;rintro e w' ⟨rfl,hbw⟩;obtain⟨o',n',rfl⟩:=below_plus hbw;exact⟨_,rfl,hK _ ⟨_,_,World.plus_plus _ _ _ _ _⟩⟩) ?_
    refine wpHold_nil ?_
    rintro _ ⟨oh42,nh42,rfl⟩
    go_wp2_with fail
    refine(swapIf_K sv t tz u uz X Z X' Z' HS2.out _).mono ?_
    rintro e w' ⟨rfl,hbw⟩
    obtain⟨oc2,nc2,rfl⟩:=below_plus hbw
    clear hbw
    go_wp2_with fail
    generalize hW:World.plus _ _ _=W43
    have R43x0:=Lib.hid (show RowAt W43 (w.heap.size) (keyA x1) by rw[←hW];clear hW;exact⟨by go_simp,by go_simp,by go_simp⟩)
    have R43x1:=Lib.hid (show RowAt W43 (w.heap.size+1) (keyA m) by rw[←hW];clear hW;exact⟨by go_simp,by go_simp,by go_simp⟩)
    have R43x2:=Lib.hid (show RowAt W43 (w.heap.size+1+1) (#[.int .u8 0,.int .u8 0,.int .u8 0,.int .u8 0,.int .u8 0,.int .u8 0,.int .u8 0,.int .u8 0,.int .u8 0,.int .u8 0,.int .u8 0,.int .u8 0,.int .u8 0,.int .u8 0,.int .u8 0,.int .u8 0,.int .u8 0,.int .u8 0,.int .u8 0,.int .u8 0,.int .u8 0,.int .u8 0,.int .u8 0,.int .u8 0,.int .u8 0,.int .u8 0,.int .u8 0,.int .u8 0,.int .u8 0,.int .u8 0,.int .u8 0,.int .u8 0]) by rw[←hW];clear hW;exact⟨by go_simp,by go_simp,by go_simp⟩)
    have R43x3:=Lib.hid (show RowAt W43 (w.heap.size+1+1+1) (fracA X Z) by rw[←hW];clear hW;exact⟨by go_simp,by go_simp,by go_simp⟩)
    have R43x4:=Lib.hid (show RowAt W43 (w.heap.size+1+1+1+1) (fracA X' Z') by rw[←hW];clear hW;exact⟨by go_simp,by go_simp,by go_simp⟩)
    have HB43:=Lib.hid (show Below w.heap.size w W43 by rw[←hW];repeat (first | apply below_more | apply below_alloc | apply Below.drew | refine below_setRow ?_ (by omega) _ | exact HB41.out))
    clear hW
    clear R41x0a R41x0b R41x0c R41x1a R41x1b R41x1c R41x2a R41x2b R41x2c R41x3a R41x3b R41x3c R41x4a R41x4b R41x4c R41x0 R41x1 R41x2 R41x3 R41x4 HB41
    obtain⟨R43x0a,R43x0b,R43x0c⟩:=R43x0.out
    obtain⟨R43x1a,R43x1b,R43x1c⟩:=R43x1.out
    obtain⟨R43x2a,R43x2b,R43x2c⟩:=R43x2.out
    obtain⟨R43x3a,R43x3b,R43x3c⟩:=R43x3.out
    obtain⟨R43x4a,R43x4b,R43x4c⟩:=R43x4.out
    go_roundw
    case rel=>exact⟨j,by omega,by go_num,R43x0.out,R43x1.out,R43x2.out,by rw[E4.out];exact R43x3.out,by rw[E4.out];exact R43x4.out,HB43.out⟩
    case measure=>simp[intOf]
 ·go_wp2_with fail
  generalize hW:World.drew _=W1
  have R1x0:=Lib.hid (show RowAt W1 (w.heap.size) (keyA x1) by rw[←hW];clear hW;exact⟨by go_simp,by go_simp,by go_simp⟩)
  have R1x1:=Lib.hid (show RowAt W1 (w.heap.size+1) (keyA m) by rw[←hW];clear hW;exact⟨by go_simp,by go_simp,by go_simp⟩)
  have R1x2:=Lib.hid (show RowAt W1 (w.heap.size+1+1) (#[.int .u8 0,.int .u8 0,.int .u8 0,.int .u8 0,.int .u8 0,.int .u8 0,.int .u8 0,.int .u8 0,.int .u8 0,.int .u8 0,.int .u8 0,.int .u8 0,.int .u8 0,.int .u8 0,.int .u8 0,.int .u8 0,.int .u8 0,.int .u8 0,.int .u8 0,.int .u8 0,.int .u8 0,.int .u8 0,.int .u8 0,.int .u8 0,.int .u8 0,.int .u8 0,.int .u8 0,.int .u8 0,.int .u8 0,.int .u8 0,.int .u8 0,.int .u8 0]) by rw[←hW];clear hW;exact⟨by go_simp,by go_simp,by go_simp⟩)
  have R1x3:=Lib.hid (show RowAt W1 (w.heap.size+1+1+1+1) (fracA 1 0) by rw[←hW];clear hW;exact⟨by go_simp,by go_simp,by go_simp⟩)
  have R1x4:=Lib.hid (show RowAt W1 (w.heap.size+1+1+1) (fracA x1 1) by rw[←hW];clear hW;exact⟨by go_simp,by go_simp,by go_simp⟩)
  have HB1:=Lib.hid (show Below w.heap.size w W1 by rw[←hW];repeat (first | apply below_more | apply below_alloc | apply Below.drew | refine below_setRow ?_ (by omega) _ | exact Below.refl _ _))
  clear hW
  obtain⟨R1x0a,R1x0b,R1x0c⟩:=R1x0.out
  obtain⟨R1x1a,R1x1b,R1x1c⟩:=R1x1.out
  obtain⟨R1x2a,R1x2b,R1x2c⟩:=R1x2.out
  obtain⟨R1x3a,R1x3b,R1x3c⟩:=R1x3.out
  obtain⟨R1x4a,R1x4b,R1x4c⟩:=R1x4.out
  go_loopw [7] (fun i w'=>∃ (k:Nat),k≤255∧i=.int .i64 ((k:Int)-1)∧RowAt w' w.heap.size (keyA x1)∧RowAt w' (w.heap.size+1) (keyA m)∧RowAt w' (w.heap.size+1+1) #[.int .u8 0,.int .u8 0,.int .u8 0,.int .u8 0,.int .u8 0,.int .u8 0,.int .u8 0,.int .u8 0,.int .u8 0,.int .u8 0,.int .u8 0,.int .u8 0,.int .u8 0,.int .u8 0,.int .u8 0,.int .u8 0,.int .u8 0,.int .u8 0,.int .u8 0,.int .u8 0,.int .u8 0,.int .u8 0,.int .u8 0,.int .u8 0,.int .u8 0,.int .u8 0,.int .u8 0,.int .u8 0,.int .u8 0,.int .u8 0,.int .u8 0,.int .u8 0] ∧
   RowAt w' (w.heap.size+1+1+1+1) (fracA (Cv.nlad x1 m (255-k)).1.1 (Cv.nlad x1 m (255-k)).1.2)∧RowAt w' (w.heap.size+1+1+1) (fracA (Cv.nlad x1 m (255-k)).2.1 (Cv.nlad x1 m (255-k)).2.2)∧Below w.heap.size w w') (fun i _=>(intOf i+1).toNat)
  case atStart=>exact⟨255,Nat.le_refl _,rfl,R1x0.out,R1x1.out,R1x2.out,R1x3.out,R1x4.out,HB1.out⟩
  case round =>
   clear R1x0a R1x0b R1x0c R1x0 R1x1a R1x1b R1x1c R1x1 R1x2a R1x2b R1x2c R1x2 R1x3a R1x3b R1x3c R1x3 R1x4a R1x4b R1x4c R1x4 HB1
   obtain⟨k,hk,rfl,Q1,Q2,Q3,Q4,Q5,HB⟩:=hrel
   have T1:=Lib.hid Q1
   have T2:=Lib.hid Q2
   have T3:=Lib.hid Q3
   have HB2:=Lib.hid HB
   clear HB
   rcases Nat.eq_zero_or_pos k with rfl | hpos
   ·have hs:=Cv.small_lad x1 m hx1 255
    rw[Nat.sub_zero] at Q4 Q5
    obtain⟨s,hq⟩:∃ s,Cv.nlad x1 m 255=s:=⟨_,rfl⟩
    rw[hq] at Q4 Q5 hs
    obtain⟨⟨x2,z2⟩,q⟩:=s
    have hx2:x2<115792089237316195423570985008687907853269984665640564039457584007913129639936:=hs.1
    have hz2:z2<115792089237316195423570985008687907853269984665640564039457584007913129639936:=hs.2.1
    obtain⟨i,ei⟩:∃ y,y=z2^Fp.E%Fp.P:=⟨_,rfl⟩
    have li:i<115792089237316195423570985008687907853269984665640564039457584007913129639936:=by rw[ei];exact mod_lt _
    obtain⟨r,er⟩:∃ y,y=Cv.nmul x2 i:=⟨_,rfl⟩
    have Hi:=Lib.hid ei.symm
    have Hr:=Lib.hid er.symm
    have Hres:Hid (Cv.nT m x1=r):=by
     show _=_
     rw[er,ei];unfold Cv.nT;rw[hq]
    clear ei er hq hs T1 T2 T3
    obtain⟨Q1a,Q1b,Q1c⟩:=Q1
    obtain⟨Q2a,Q2b,Q2c⟩:=Q2
    obtain⟨Q3a,Q3b,Q3c⟩:=Q3
    obtain⟨Q4a,Q4b,Q4c⟩:=Q4
    obtain⟨Q5a,Q5b,Q5c⟩:=Q5
    go_wp2_with fail
    refine wp_region_hold (fun w'=>∃ o d,w'=wr.plus o d) 6 (by kernel_rfl) (by kernel_rfl) ⟨#[],_,rfl⟩ ?_
    simp only[List.take_succ_cons,List.take_zero,List.drop_succ_cons,List.drop_zero]
    iterate 4 (refine wpHold_val ⟨_,#[],0,rfl⟩ (wanted_none rfl) (by rintro K _ ⟨o,d,rfl⟩ hK;go_simp;exact hK _ ⟨o,d,rfl⟩) ?_)
    refine wpHold_call (v:=kv i) (wanted_none rfl) (by rintro K _ ⟨o,d,rfl⟩ hK;go_simp;refine(inv_K z2 i hz2 Hi.out _).mono ?_;rintro e w' ⟨rfl,hbw⟩;obtain⟨o',n',rfl⟩:=below_plus hbw;exact⟨_,rfl,hK _ ⟨_,_,World.plus_plus _ _ _ _ _⟩⟩) ?_
    refine wpHold_call (v:=kv r) (wanted_none rfl) (by rintro K _ ⟨o,d,rfl⟩ hK;go_simp;refine(mul_K x2 i r hx2 li Hr.out _).mono ?_;rintro e w' ⟨rfl,hbw⟩;obtain⟨o',n',rfl⟩:=below_plus hbw;exact⟨_,rfl,hK _ ⟨_,_,World.plus_plus _ _ _ _ _⟩⟩) ?_
    refine wpHold_nil ?_
    rintro _ ⟨oh31,nh31,rfl⟩
    go_wp2_with fail
    refine bodyPost_ret (v:=kv r) (results_key Tryz.results65 _ _ _ rfl (by go_simp) (by go_simp)) rfl ⟨by rw[Hres.out],?_⟩
    exact below_more (below_setRow HB2.out (by omega) _) _ _
   ·obtain⟨j,rfl⟩:∃ j,k=j+1:=⟨k-1,by omega⟩
    rw[show (((j+1:Nat):Int)-1)=(j:Int) by omega]
    have hj0:(0:Int)≤j:=by omega
    have hj1:(j:Int)≤254:=by omega
    have hc:=T2.out.cellAt (j/8) (keyA_get m (j/8) (by omega))
    obtain⟨sv,x2,z2,x3,z3,a,az,b,bz,t,tz,u,uz,X,Z,X',Z',e1,hbit,S1,e2,e3,S2,e4,la,laz,lb,lbz⟩:=Cv.round_num x1 m j hx1 (by omega)
    rw[e1] at Q4 Q5
    have E2:=Lib.hid e2
    have E3:=Lib.hid e3
    have E4:=Lib.hid e4
    have HS1:=Lib.hid S1
    have HS2:=Lib.hid S2
    clear e1 e2 e3 e4 S1 S2
    obtain⟨T1a,T1b,T1c⟩:=Q1
    obtain⟨T2a,T2b,T2c⟩:=Q2
    obtain⟨T3a,T3b,T3c⟩:=Q3
    have T4:=Lib.hid Q4
    have T5:=Lib.hid Q5
    obtain⟨T4a,T4b,T4c⟩:=Q4
    obtain⟨T5a,T5b,T5c⟩:=Q5
    go_wp2_with fail
    refine(swapIf_K sv x2 z2 x3 z3 a az b bz HS1.out _).mono ?_
    rintro e w' ⟨rfl,hbw⟩
    obtain⟨oc3,nc3,rfl⟩:=below_plus hbw
    clear hbw
    go_wp2_with fail
    generalize hW:World.plus _ _ _=W41
    have R41x0:=Lib.hid (show RowAt W41 (w.heap.size) (keyA x1) by rw[←hW];clear hW;exact⟨by go_simp,by go_simp,by go_simp⟩)
    have R41x1:=Lib.hid (show RowAt W41 (w.heap.size+1) (keyA m) by rw[←hW];clear hW;exact⟨by go_simp,by go_simp,by go_simp⟩)
    have R41x2:=Lib.hid (show RowAt W41 (w.heap.size+1+1) (#[.int .u8 0,.int .u8 0,.int .u8 0,.int .u8 0,.int .u8 0,.int .u8 0,.int .u8 0,.int .u8 0,.int .u8 0,.int .u8 0,.int .u8 0,.int .u8 0,.int .u8 0,.int .u8 0,.int .u8 0,.int .u8 0,.int .u8 0,.int .u8 0,.int .u8 0,.int .u8 0,.int .u8 0,.int .u8 0,.int .u8 0,.int .u8 0,.int .u8 0,.int .u8 0,.int .u8 0,.int .u8 0,.int .u8 0,.int .u8 0,.int .u8 0,.int .u8 0]) by rw[←hW];clear hW;exact⟨by go_simp,by go_simp,by go_simp⟩)
    have R41x3:=Lib.hid (show RowAt W41 (w.heap.size+1+1+1+1) (fracA a az) by rw[←hW];clear hW;exact⟨by go_simp,by go_simp,by go_simp⟩)
    have R41x4:=Lib.hid (show RowAt W41 (w.heap.size+1+1+1) (fracA b bz) by rw[←hW];clear hW;exact⟨by go_simp,by go_simp,by go_simp⟩)
    have HB41:=Lib.hid (show Below w.heap.size w W41 by rw[←hW];repeat (first | apply below_more | apply below_alloc | apply Below.drew | refine below_setRow ?_ (by omega) _ | exact HB2.out))
    clear hW
    clear T1a T1b T1c T2a T2b T2c T3a T3b T3c T4a T4b T4c T5a T5b T5c T1 T2 T3 T4 T5 HB2
    obtain⟨R41x0a,R41x0b,R41x0c⟩:=R41x0.out
    obtain⟨R41x1a,R41x1b,R41x1c⟩:=R41x1.out
    obtain⟨R41x2a,R41x2b,R41x2c⟩:=R41x2.out
    obtain⟨R41x3a,R41x3b,R41x3c⟩:=R41x3.out
    obtain⟨R41x4a,R41x4b,R41x4c⟩:=R41x4.out
    clear hc hbit HS1
    refine wp_region_hold (fun w'=>∃ o d,w'=W41.plus o d) 6 (by kernel_rfl) (by kernel_rfl) ⟨#[],_,rfl⟩ ?_
    simp only[List.take_succ_cons,List.take_zero,List.drop_succ_cons,List.drop_zero]
    refine wpHold_val ⟨_,#[],0,rfl⟩ (wanted_none rfl) (by rintro K _ ⟨o,d,rfl⟩ hK;go_simp;exact hK _ ⟨o,d,rfl⟩) ?_
    refine wpHold_call (v:=fv t tz) (wanted_none rfl) (by rintro K _ ⟨o,d,rfl⟩ hK;go_simp;refine(twice_V a az t tz la laz E2.out _).mono ?_;rintro e w' ⟨rfl,hbw⟩;obtain⟨o',n',rfl⟩:=below_plus hbw;exact⟨_,rfl,hK _ ⟨_,_,World.plus_plus _ _ _ _ _⟩⟩) ?_
    iterate 3 (refine wpHold_val ⟨_,#[],0,rfl⟩ (wanted_none rfl) (by rintro K _ ⟨o,d,rfl⟩ hK;go_simp;exact hK _ ⟨o,d,rfl⟩) ?_)
    refine wpHold_call (v:=fv u uz) (wanted_none rfl) (by rintro K _ ⟨o,d,rfl⟩ hK;go_simp;refine(sum_V a az b bz x1 u uz la laz lb lbz hx1 E3.out _).mono ?_;rintro e w' ⟨rfl,hbw⟩;obtain⟨o',n',rfl⟩:=below_plus hbw;exact⟨_,rfl,hK _ ⟨_,_,World.plus_plus _ _ _ _ _⟩⟩) ?_
    refine wpHold_nil ?_
    rintro _ ⟨oh42,nh42,rfl⟩
    go_wp2_with fail
    refine(swapIf_K sv t tz u uz X Z X' Z' HS2.out _).mono ?_
    rintro e w' ⟨rfl,hbw⟩
    obtain⟨oc4,nc4,rfl⟩:=below_plus hbw
    clear hbw
    go_wp2_with fail
    generalize hW:World.plus _ _ _=W43
    have R43x0:=Lib.hid (show RowAt W43 (w.heap.size) (keyA x1) by rw[←hW];clear hW;exact⟨by go_simp,by go_simp,by go_simp⟩)
    have R43x1:=Lib.hid (show RowAt W43 (w.heap.size+1) (keyA m) by rw[←hW];clear hW;exact⟨by go_simp,by go_simp,by go_simp⟩)
    have R43x2:=Lib.hid (show RowAt W43 (w.heap.size+1+1) (#[.int .u8 0,.int .u8 0,.int .u8 0,.int .u8 0,.int .u8 0,.int .u8 0,.int .u8 0,.int .u8 0,.int .u8 0,.int .u8 0,.int .u8 0,.int .u8 0,.int .u8 0,.int .u8 0,.int .u8 0,.int .u8 0,.int .u8 0,.int .u8 0,.int .u8 0,.int .u8 0,.int .u8 0,.int .u8 0,.int .u8 0,.int .u8 0,.int .u8 0,.int .u8 0,.int .u8 0,.int .u8 0,.int .u8 0,.int .u8 0,.int .u8 0,.int .u8 0]) by rw[←hW];clear hW;exact⟨by go_simp,by go_simp,by go_simp⟩)
    have R43x3:=Lib.hid (show RowAt W43 (w.heap.size+1+1+1+1) (fracA X Z) by rw[←hW];clear hW;exact⟨by go_simp,by go_simp,by go_simp⟩)
    have R43x4:=Lib.hid (show RowAt W43 (w.heap.size+1+1+1) (fracA X' Z') by rw[←hW];clear hW;exact⟨by go_simp,by go_simp,by go_simp⟩)
    have HB43:=Lib.hid (show Below w.heap.size w W43 by rw[←hW];repeat (first | apply below_more | apply below_alloc | apply Below.drew | refine below_setRow ?_ (by omega) _ | exact HB41.out))
    clear hW
    clear R41x0a R41x0b R41x0c R41x1a R41x1b R41x1c R41x2a R41x2b R41x2c R41x3a R41x3b R41x3c R41x4a R41x4b R41x4c R41x0 R41x1 R41x2 R41x3 R41x4 HB41
    obtain⟨R43x0a,R43x0b,R43x0c⟩:=R43x0.out
    obtain⟨R43x1a,R43x1b,R43x1c⟩:=R43x1.out
    obtain⟨R43x2a,R43x2b,R43x2c⟩:=R43x2.out
    obtain⟨R43x3a,R43x3b,R43x3c⟩:=R43x3.out
    obtain⟨R43x4a,R43x4b,R43x4c⟩:=R43x4.out
    go_roundw
    case rel=>exact⟨j,by omega,by go_num,R43x0.out,R43x1.out,R43x2.out,by rw[E4.out];exact R43x3.out,by rw[E4.out];exact R43x4.out,HB43.out⟩
    case measure=>simp[intOf]
end Go.Proofs.YtddmjddlbhdcpaaGreatDoor.F

namespace Go.Proofs.YtddmjddlbhdcpaaGreatDoor.F
open Go.ChangeShapes Go.WideShapes Go.ChangeAt Go.RowKit
set_option maxRecDepth 100000 in
theorem own:ownKnob Tryz.prog.godebug=none:=by kernel_rfl
set_option maxRecDepth 100000 in
theorem laidOut:laidOutB Tryz.prog=true:=by kernel_rfl
def ofBytes:List Nat→Nat
 | []=>0
 | b::l=>b+256*ofBytes l
set_option maxRecDepth 100000 in
theorem ofBytes_lt:∀ l:List Nat,(∀ b∈l,b<256)→ofBytes l<256^l.length
 | [],_=>by simp[ofBytes]
 | b::l,h=>by
  have h1:=h b (by simp)
  have h2:=ofBytes_lt l fun x hx=>h x (by simp[hx])
  simp only[ofBytes,List.length_cons,Nat.pow_succ]
  omega
set_option maxRecDepth 100000 in
theorem ofBytes_get:∀ (l:List Nat) (i:Nat),(∀ b∈l,b<256)→i<l.length→ofBytes l/256^i%256=l.getD i 0
 | [],i,_,h=>by simp at h
 | b::l,0,h,_=>by
  have:=h b (by simp)
  simp only[ofBytes,Nat.pow_zero,Nat.div_one,List.getD_cons_zero]
  omega
 | b::l,i+1,h,hi=>by
  have h1:=h b (by simp)
  have ih:=ofBytes_get l i (fun x hx=>h x (by simp[hx])) (by simpa using hi)
  simp only[ofBytes,List.getD_cons_succ]
  rw[←ih,Nat.pow_succ,Nat.mul_comm (256^i) 256,←Nat.div_div_eq_div_mul,show (b+256*ofBytes l)/256=ofBytes l by omega]
set_option maxRecDepth 100000 in
theorem open_key {H:Type} {enc:TypeId × Value→H} {w:World} {r:Reach} {b0 base:Nat} {spare:Nat→Bool} {held:Bool} {v:Value} {d:DataW H} {p:List MemPlace}
  (hv:Value.okWide Tryz.prog w r b0 23 v) (h:DataW.Trod enc Tryz.prog w base spare held 23 v d p) :
  ∃ n,n<115792089237316195423570985008687907853269984665640564039457584007913129639936∧v=kv n:=by
 have hv':∃ cs,v=.agg cs∧cs.size=Tryz.prog.cellsOf 23:=by
  unfold Value.okWide at hv
  rw[Tryz.underlying23] at hv
  obtain⟨cs,h1,h2,_⟩:=hv
  exact⟨cs,h1,h2⟩
 obtain⟨cs,rfl,hsz⟩:=hv'
 obtain⟨fuel,hf⟩:=h
 have hc1:Tryz.prog.cellsOf 5=1:=by kernel_rfl
 have hc32:Tryz.prog.cellsOf 23=32:=by kernel_rfl
 obtain⟨xs,m,_,_,hl,hxl,hx⟩:=DataW.trod_array Tryz.underlying23 hf
 have hget:∀ i,i<32→∃ z:Nat,z<256∧cs[i]?=some (.int .u8 z):=fun i hi=>by
  have h1:=hx i hi
  rw[hc1,Nat.mul_one] at h1
  have hlt:i<xs.length:=by omega
  rw[List.getElem?_eq_getElem hlt] at h1
  obtain⟨a,e0,_,wa⟩:=DataW.trod_int Tryz.underlying5 h1
  have hcs:cs[i]?=some (.int .u8 a):=by
   have:((Value.agg cs).cells.toList.drop i)[0]?=some (Value.int .u8 a):=by
    have h2:=congrArg (fun l=>l[0]?) e0
    simpa [List.getElem?_take] using h2
   simpa [Value.cells] using this
  have hb:=bounds_u8 wa
  obtain⟨z,rfl⟩:=Int.eq_ofNat_of_zero_le hb.1
  exact⟨z,by omega,hcs⟩
 have hch:∃ f:Nat→Nat,∀ i,i<32→f i<256∧cs[i]?=some (.int .u8 (f i)) :=
  ⟨fun i=>if h:i<32 then Classical.choose (hget i h) else 0,fun i hi=>by simp only[hi,dif_pos];exact Classical.choose_spec (hget i hi)⟩
 obtain⟨f,hf'⟩:=hch
 have hall:∀ b∈(List.range 32).map f,b<256:=fun b hb=>by
  obtain⟨i,hi,rfl⟩:=List.mem_map.1 hb
  exact(hf' i (List.mem_range.1 hi)).1
 refine⟨ofBytes ((List.range 32).map f),by simpa using ofBytes_lt _ hall,?_⟩
 congr 1
 apply Array.ext_getElem?
 intro i
 by_cases hi:i<32
 ·rw[keyA_get _ i hi,(hf' i hi).2]
  unfold bt
  rw[ofBytes_get _ i hall (by simpa using hi)]
  simp[hi,List.getD]
 ·rw[Array.getElem?_eq_none (by omega),Array.getElem?_eq_none (by rw[keyA_size];omega)]
end Go.Proofs.YtddmjddlbhdcpaaGreatDoor.F

namespace Go.Proofs.YtddmjddlbhdcpaaGreatDoor.F
open Go.RowKit Go.Shelf Go.Hold
def pd (i:Nat):Nat:=Fp.P/256^i%256
@[go_sem] theorem keyA_at (n i:Nat) (h:i<(keyA n).size):(keyA n)[i]=.int .u8 (bt n i):=by
 have:=keyA_get n i (by rw[keyA_size] at h;exact h)
 rw[Array.getElem?_eq_getElem h] at this
 exact Option.some.inj this
def bw (n k:Nat):Nat:=if n%256^k<Fp.P%256^k then 1 else 0
theorem mod_step (n k:Nat):n%256^(k+1)=n%256^k+(n/256^k%256)*256^k:=by
 rw[Nat.pow_succ,Nat.mod_mul,Nat.mul_comm (256^k)]
def mixA (r n k:Nat):Array Value:=((List.range 32).map fun i=>Value.int .u8 (if i<k then bt r i else bt n i)).toArray
@[go_sem] theorem mixA_size (r n k:Nat):(mixA r n k).size=32:=by simp[mixA]
@[go_sem] theorem mixA_one (r n k:Nat):oneAll (mixA r n k)=true:=by simp[oneAll,mixA,Value.oneCell']
theorem ofBytes_snoc:∀ (l:List Nat) (b:Nat),ofBytes (l++[b])=ofBytes l+256^l.length*b
 | [],b=>by simp[ofBytes]
 | x::l,b=>by
  simp only[List.cons_append,ofBytes,ofBytes_snoc l b,List.length_cons,Nat.pow_succ]
  rw[Nat.mul_add,Nat.mul_comm (256^l.length) 256,Nat.mul_assoc];omega
theorem ofBytes_digits (m:Nat):∀ k,ofBytes ((List.range k).map fun i=>m/256^i%256)=m%256^k
 | 0=>by simp[ofBytes,Nat.mod_one]
 | k+1=>by
  rw[List.range_succ,List.map_append,List.map_singleton,ofBytes_snoc,ofBytes_digits m k,mod_step,List.length_map,List.length_range,Nat.mul_comm]
def ofCells (cs:Array Value):Nat:=ofBytes (cs.toList.map fun v=>(intOf v).toNat)
end Go.Proofs.YtddmjddlbhdcpaaGreatDoor.F

namespace Go.Proofs.YtddmjddlbhdcpaaGreatDoor.F
def dg (n k:Nat):List Nat:=(List.range k).map fun i=>n/256^i%256
theorem dg_length (n k:Nat):(dg n k).length=k:=by simp[dg]
theorem dg_val (n k:Nat):ofBytes (dg n k)=n%256^k:=ofBytes_digits n k
theorem ofBytes_append:∀ (l m:List Nat),ofBytes (l++m)=ofBytes l+256^l.length*ofBytes m
 | [],m=>by simp[ofBytes]
 | x::l,m=>by
  simp only[List.cons_append,ofBytes,ofBytes_append l m,List.length_cons,Nat.pow_succ]
  rw[Nat.mul_add,Nat.mul_comm (256^l.length) 256,Nat.mul_assoc];omega
def cry (l:List Nat) (k:Nat):Nat:=ofBytes (l.take k)/256^k
theorem take_drop_val (l:List Nat) (k:Nat) (h:k≤l.length):ofBytes l=ofBytes (l.take k)+256^k*ofBytes (l.drop k):=by
 have:=ofBytes_append (l.take k) (l.drop k)
 rw[List.take_append_drop,List.length_take,Nat.min_eq_left h] at this
 exact this
def Most (m:Nat) (l:List Nat):Prop:=∀ i,l.getD i 0≤m
set_option maxRecDepth 100000 in
theorem most_step (x v m y:Nat) (h:x≤m) (ih:v*255+m≤y):(x+256*v)*255+m≤y*256:=by omega
theorem most_val:∀ (l:List Nat) (m:Nat),Most m l→ofBytes l*255+m≤m*256^l.length
 | [],m,_=>by simp[ofBytes]
 | x::l,m,h=>by
  have h1:x≤m:=h 0
  have ih:=most_val l m fun i=>h (i+1)
  simp only[ofBytes,List.length_cons,Nat.pow_succ]
  rw[←Nat.mul_assoc]
  exact most_step _ _ _ _ h1 ih
def fold (l:List Nat):Nat:=ofBytes (l.take 32)+38*ofBytes (l.drop 32)
def nx (l:List Nat):List Nat:=dg (fold l) 32++[fold l/256^32]
def it (l:List Nat):Nat→List Nat
 | 0=>l
 | r+1=>nx (it l r)
theorem most_take {m:Nat} {l:List Nat} (h:Most m l) (k:Nat):Most m (l.take k):=fun i=>by
 have:=h i
 rw[List.getD_eq_getElem?_getD] at this ⊢
 rw[List.getElem?_take]
 split
 ·exact this
 ·simp
theorem most_drop {m:Nat} {l:List Nat} (h:Most m l) (k:Nat):Most m (l.drop k):=fun i=>by
 have:=h (k+i)
 rw[List.getD_eq_getElem?_getD] at this ⊢
 rw[List.getElem?_drop];exact this
theorem fold_most {l:List Nat} {m:Nat} (h:Most m l) (h1:32≤l.length) (h2:l.length≤64):fold l/256^32≤m:=by
 have a:=most_val _ m (most_take h 32)
 have b:=most_val _ m (most_drop h 32)
 rw[List.length_take,Nat.min_eq_left h1] at a
 have c:256^(l.drop 32).length≤256^32:=Nat.pow_le_pow_right (by decide) (by rw[List.length_drop];omega)
 have d:=Nat.mul_le_mul_left m c
 unfold fold
 rw[Nat.div_le_iff_le_mul_add_pred (by decide)]
 have e:m*256^32=256^32*m:=Nat.mul_comm _ _
 generalize 256^(l.drop 32).length=q at *
 generalize m*q=y at *
 generalize ofBytes (l.take 32)=s at *
 generalize ofBytes (l.drop 32)=t at *
 have p:0<256^32:=by decide
 rw[e] at a d
 generalize 256^32*m=z at *
 omega
theorem fold_nx (l:List Nat):fold (nx l)=fold l%256^32+38*(fold l/256^32):=by
 unfold nx
 generalize fold l=v
 unfold fold
 rw[List.take_left' (dg_length v 32),List.drop_left' (dg_length v 32),dg_val]
 simp[ofBytes]
theorem two_p:256^32=2*Fp.P+38:=by decide +kernel
theorem fold_mod (l:List Nat) (h:32≤l.length):fold l%Fp.P=ofBytes l%Fp.P:=by
 rw[take_drop_val l 32 h,two_p]
 unfold fold
 rw[show ofBytes (l.take 32)+(2*Fp.P+38)*ofBytes (l.drop 32)=ofBytes (l.take 32)+38*ofBytes (l.drop 32)+Fp.P*(2*ofBytes (l.drop 32)) by
  rw[Nat.add_mul,Nat.mul_comm 2 Fp.P,Nat.mul_assoc];omega]
 rw[Nat.add_mul_mod_self_left]
theorem again_mod (v:Nat):(v%256^32+38*(v/256^32))%Fp.P=v%Fp.P:=by
 have e:=Nat.mod_add_div v (256^32)
 rw[show v%Fp.P=(v%256^32+256^32*(v/256^32))%Fp.P by rw[e]]
 generalize v%256^32=a
 generalize v/256^32=b
 rw[two_p,show a+(2*Fp.P+38)*b=a+38*b+Fp.P*(2*b) by rw[Nat.add_mul,Nat.mul_comm 2 Fp.P,Nat.mul_assoc];omega,Nat.add_mul_mod_self_left]
theorem four (l:List Nat) (h:Most 4194304 l) (h1:32≤l.length) (h2:l.length≤64) :
  ∃ n,n<256^32∧n%Fp.P=ofBytes l%Fp.P∧it l 4=dg n 32++[0]:=by
 have e1:=fold_most h h1 h2
 have m1:=fold_mod l h1
 have f2:=fold_nx l
 have f3:=fold_nx (nx l)
 have f4:=fold_nx (nx (nx l))
 have a2:=again_mod (fold l)
 have a3:=again_mod (fold (nx l))
 have a4:=again_mod (fold (nx (nx l)))
 rw[←f2] at a2;rw[←f3] at a3;rw[←f4] at a4
 have hlt:fold (nx (nx (nx l)))<256^32:=by
  rw[show (256:Nat)^32=115792089237316195423570985008687907853269984665640564039457584007913129639936 by decide] at *
  omega
 refine⟨fold (nx (nx (nx l))),hlt,by rw[a4,a3,a2,m1],?_⟩
 show nx (nx (nx (nx l)))=_
 rw[nx,Nat.div_eq_of_lt hlt]
end Go.Proofs.YtddmjddlbhdcpaaGreatDoor.F

namespace Go.Proofs.YtddmjddlbhdcpaaGreatDoor.F
open Go.RowKit Go.Shelf Go.Hold
def ints (l:List Nat):List Value:=l.map fun n:Nat=>Value.int .i64 (n:Int)
theorem ints_get (l:List Nat) (i:Nat) (h:i<l.length):(ints l)[i]?=some (.int .i64 (l.getD i 0:Nat)):=by simp[ints,h]
theorem ints_snoc (l:List Nat) (n:Nat):ints (l++[n])=ints l++[.int .i64 (n:Int)]:=by simp[ints]
def Own (w:World) (B:Nat) (v:Value) (l:List Nat):Prop:=w.ownsRow B 3 1 v l.length (ints l)
theorem own_nil (w:World) (B:Nat):Own w B (.slice none 0 0) []:=World.ownsRow_nil _ _ _ _
theorem Own.snoc {w:World} {B:Nat} {v:Value} {l:List Nat} {n:Nat} (h:w.ownsRow B 3 1 v (l.length+1) (ints l++[.int .i64 (n:Int)])):Own w B v (l++[n]):=by
 unfold Own;rw[ints_snoc,List.length_append];exact h
theorem Own.below {w w':World} {B:Nat} {v:Value} {l:List Nat} (h:Own w B v l) (hb:Below w.heap.size w w'):Own w' B v l :=
 h.kept (row:=none) ⟨hb.os,hb.tape,hb.output,hb.size,fun k hk _=>hb.block k hk⟩ (by cases hv:v.ownBlock<;>simp)
theorem Own.mono {w:World} {B B':Nat} {v:Value} {l:List Nat} (h:Own w B v l) (hB:B'≤B):Own w B' v l:=by
 refine⟨h.1,?_⟩
 rcases h.2 with hn | ⟨g,cap,cur,rfl,hb,rest⟩
 ·exact .inl hn
 ·exact .inr ⟨g,cap,cur,rfl,Nat.le_trans hB hb,rest⟩
theorem Own.addr {w:World} {B:Nat} {v:Value} {l:List Nat} (h:Own w B v l) (hl:0<l.length):∃ g cap,v=.slice (some ⟨g,0,none⟩) l.length cap∧B≤g∧g<w.heap.size∧l.length≤cap:=by
 rcases h.2 with ⟨_,h0⟩ | ⟨g,cap,cur,rfl,hb,hg,hc,_⟩
 ·omega
 ·exact⟨g,cap,rfl,hb,(Array.getElem?_eq_some_iff.1 hg).1,hc⟩
theorem Own.cell {w:World} {B g cap:Nat} {l:List Nat} (h:Own w B (.slice (some ⟨g,0,none⟩) l.length cap) l) (i:Nat) (hi:i<l.length):w.cell? ⟨g,i,none⟩=some (.int .i64 (l.getD i 0:Nat)):=by
 have:=World.ownsRow.cellAt h i (by omega)
 rw[this,ints_get l i hi]
end Go.Proofs.YtddmjddlbhdcpaaGreatDoor.F

namespace Go.Proofs.YtddmjddlbhdcpaaGreatDoor.F
open Go.RowKit Go.Shelf Go.Hold
theorem ints_set (l:List Nat) (j y:Nat):ints (l.set j y)=(ints l).set j (.int .i64 (y:Int)):=by simp[ints,List.map_set]
theorem Own.free {w:World} {B g n cap:Nat} {l:List Nat} (h:Own w B (.slice (some ⟨g,0,none⟩) n cap) l) (hn:l.length=n) (i:Nat):w.frozen? ⟨g,i,none⟩=false:=by
 subst hn;exact World.ownsRow.frozenAt h i
theorem Own.store {w:World} {B g n cap:Nat} {l:List Nat} (h:Own w B (.slice (some ⟨g,0,none⟩) n cap) l) (hn:l.length=n) (i y:Nat):Own (w.setCell ⟨g,i,none⟩ (.int .i64 (y:Int))) B (.slice (some ⟨g,0,none⟩) n cap) (l.set i y):=by
 subst hn
 have:=(World.ownsRow.stored h i (.int .i64 (y:Int))).1
 unfold Own
 rw[ints_set,List.length_set];exact this
theorem Own.lt {w:World} {B g n cap:Nat} {l:List Nat} (h:Own w B (.slice (some ⟨g,0,none⟩) n cap) l):B≤g∧g<w.heap.size:=World.ownsRow.lt h g rfl
theorem Own.stores {w:World} {B g n cap:Nat} {l:List Nat} (h:Own w B (.slice (some ⟨g,0,none⟩) n cap) l) (hn:l.length=n) (i y:Nat) (o:Array Obj) (d:Nat) :
  Own ((w.setCell ⟨g,i,none⟩ (.int .i64 (y:Int))).plus o d) B (.slice (some ⟨g,0,none⟩) n cap) (l.set i y):=(h.store hn i y).below (below_more (Below.refl _ _) o d)
def lim (k j:Nat):Nat:=(if j<k then 4194304 else 0)+(if 32+j<k then 159383552 else 0)
end Go.Proofs.YtddmjddlbhdcpaaGreatDoor.F

namespace Go.Proofs.YtddmjddlbhdcpaaGreatDoor.F
open Go.RowKit Go.Shelf Go.Hold
end Go.Proofs.YtddmjddlbhdcpaaGreatDoor.F

namespace Go.Proofs.YtddmjddlbhdcpaaGreatDoor.F
open Go.RowKit Go.Shelf Go.Hold
end Go.Proofs.YtddmjddlbhdcpaaGreatDoor.F

namespace Go.Proofs.YtddmjddlbhdcpaaGreatDoor.F
open Go.RowKit Go.Shelf Go.Hold
theorem RowAt.cell {w:World} {n:Nat} {c:Array Value} (h:RowAt w n c) (i:Nat):w.cell? ⟨n,i,none⟩=c[i]?:=by
 obtain⟨t,ht⟩:=h.block
 exact cell_of_row w n i c t (0,0) ht
def lim2 (s k x:Nat):Nat:=255+if x<k then s else 0
end Go.Proofs.YtddmjddlbhdcpaaGreatDoor.F

namespace Go.Proofs.YtddmjddlbhdcpaaGreatDoor.F
open Go.RowKit Go.Shelf Go.Hold
def lim3 (i j x:Nat):Nat:=65025*i+if x<j then 65025 else 0
end Go.Proofs.YtddmjddlbhdcpaaGreatDoor.F

namespace Go.Proofs.YtddmjddlbhdcpaaGreatDoor.F
open Go.RowKit Go.Shelf Go.Hold
theorem twice (a e r:Nat) (h:r=a^e%Fp.P):r*r%Fp.P=a^(2*e)%Fp.P:=by
 rw[h,←Nat.mul_mod,←Nat.pow_add,Nat.two_mul]
theorem once (a e r:Nat) (h:r=a^e%Fp.P):r*a%Fp.P=a^(e+1)%Fp.P:=by
 rw[h,Nat.pow_succ,Nat.mul_mod,Nat.mod_mod,←Nat.mul_mod]
end Go.Proofs.YtddmjddlbhdcpaaGreatDoor.F

namespace Go.Proofs.YtddmjddlbhdcpaaGreatDoor.F
open Go.RowKit Go.Shelf Go.Hold
theorem clamp_bt0 (k:Nat):bt (Cv.clampN k) 0=bt k 0/8*8:=by
 unfold bt Cv.clampN
 simp only[Nat.reducePow]
 omega
theorem clamp_bt31 (k:Nat):bt (Cv.clampN k) 31=bt k 31%64+64:=by
 unfold bt Cv.clampN
 simp only[Nat.reducePow]
 omega
theorem clamp_bt (k i:Nat) (h0:i≠0) (h1:i<31):bt (Cv.clampN k) i=bt k i:=by
 have h:i=1∨i=2∨i=3∨i=4∨i=5∨i=6∨i=7∨i=8∨i=9∨i=10∨i=11∨i=12∨i=13∨i=14∨i=15∨i=16∨i=17∨i=18∨i=19∨i=20∨i=21∨i=22∨i=23∨i=24∨i=25∨i=26∨i=27∨i=28∨i=29∨i=30:=by omega
 unfold bt Cv.clampN
 rcases h with rfl | rfl | rfl | rfl | rfl | rfl | rfl | rfl | rfl | rfl | rfl | rfl | rfl | rfl | rfl | rfl | rfl | rfl | rfl | rfl | rfl | rfl | rfl | rfl | rfl | rfl | rfl | rfl | rfl | rfl<;>simp only[Nat.reducePow]<;>omega
def ptN (u:Nat):Nat:=u%2^255
theorem ptN_lt (u:Nat):ptN u<115792089237316195423570985008687907853269984665640564039457584007913129639936:=by unfold ptN;simp only[Nat.reducePow];omega
theorem pt_bt31 (u:Nat):bt (ptN u) 31=bt u 31%128:=by
 unfold bt ptN
 simp only[Nat.reducePow]
 omega
theorem pt_bt (u i:Nat) (h1:i<31):bt (ptN u) i=bt u i:=by
 by_cases h0:i=0
 ·subst h0;unfold bt ptN;simp only[Nat.reducePow];omega
 ·have h:i=1∨i=2∨i=3∨i=4∨i=5∨i=6∨i=7∨i=8∨i=9∨i=10∨i=11∨i=12∨i=13∨i=14∨i=15∨i=16∨i=17∨i=18∨i=19∨i=20∨i=21∨i=22∨i=23∨i=24∨i=25∨i=26∨i=27∨i=28∨i=29∨i=30:=by omega
  unfold bt ptN
  rcases h with rfl | rfl | rfl | rfl | rfl | rfl | rfl | rfl | rfl | rfl | rfl | rfl | rfl | rfl | rfl | rfl | rfl | rfl | rfl | rfl | rfl | rfl | rfl | rfl | rfl | rfl | rfl | rfl | rfl | rfl<;>simp only[Nat.reducePow]<;>omega
theorem clamp_cells (k:Nat):((keyA k).setIfInBounds 0 (.int .u8 (bt (Cv.clampN k) 0))).setIfInBounds 31 (.int .u8 (bt (Cv.clampN k) 31))=keyA (Cv.clampN k):=by
 refine keyA_of_ints (by simp[keyA_size]) fun i hi=>?_
 rw[Array.getElem?_setIfInBounds,Array.getElem?_setIfInBounds]
 by_cases e1:31=i
 ·subst e1;simp[keyA_size]
 ·rw[if_neg e1]
  by_cases e0:0=i
  ·subst e0;simp[keyA_size]
  ·rw[if_neg e0,keyA_get k i hi,clamp_bt k i (by omega) (by omega)]
theorem pt_cells (u:Nat):(keyA u).setIfInBounds 31 (.int .u8 (bt (ptN u) 31))=keyA (ptN u):=by
 refine keyA_of_ints (by simp[keyA_size]) fun i hi=>?_
 rw[Array.getElem?_setIfInBounds]
 by_cases e1:31=i
 ·subst e1;simp[keyA_size]
 ·rw[if_neg e1,keyA_get u i hi,pt_bt u i (by omega)]
theorem bytes7:∀ b:Nat,b<256→bits .andNot .u8 (b:Int) 7=((b/8*8:Nat):Int):=by decide +kernel
theorem bytes128:∀ b:Nat,b<256→bits .andNot .u8 (b:Int) 128=((b%128:Nat):Int):=by decide +kernel
theorem bytes64:∀ b:Nat,b<128→bits .or .u8 (b:Int) 64=((b%64+64:Nat):Int):=by decide +kernel
theorem times_V (x1 m r:Nat) (hx1:x1<115792089237316195423570985008687907853269984665640564039457584007913129639936) (h:Cv.nT m x1=r) (w:World):Calls Tryz.prog 65 #[kv x1,kv m] w fun e w'=>e=.returned (kv r)∧Below w.heap.size w w':=by
 subst h;exact times_K x1 m hx1 w
theorem clamp_b0 (k:Nat):bits .andNot .u8 (bt k 0) 7=bt (Cv.clampN k) 0:=by
 rw[clamp_bt0];unfold bt
 rw[bytes7 _ (Nat.mod_lt _ (by decide)),Int.natCast_mul,Int.natCast_ediv];rfl
theorem clamp_b31 (k:Nat):bits .or .u8 (bits .andNot .u8 (bt k 31) 128) 64=bt (Cv.clampN k) 31:=by
 rw[clamp_bt31];unfold bt
 rw[bytes128 _ (Nat.mod_lt _ (by decide)),bytes64 _ (Nat.mod_lt _ (by decide))];omega
theorem pt_b31 (k:Nat):bits .andNot .u8 (bt k 31) 128=bt (ptN k) 31:=by
 rw[pt_bt31];unfold bt
 rw[bytes128 _ (Nat.mod_lt _ (by decide))];omega
theorem set0_at31 (k:Nat) (v:Value):((keyA k).setIfInBounds 0 v)[31]?=some (.int .u8 (bt k 31)):=by
 rw[Array.getElem?_setIfInBounds,if_neg (by decide),keyA_get k 31 (by decide)]
set_option maxHeartbeats 2000000 in
set_option maxRecDepth 100000 in
theorem clamp_K (k c:Nat) (hc:Cv.clampN k=c) (w:World):Calls Tryz.prog 31 #[kv k] w fun e w'=>e=.returned (kv c)∧Below w.heap.size w w':=by
 have h0:=clamp_b0 k
 have h31:=clamp_b31 k
 have hs:=clamp_cells k
 rw[hc] at h0 h31 hs
 have ha:=set0_at31 k (.int .u8 (bt c 0))
 clear hc
 generalize hy:bits .andNot .u8 (bt k 31) 128=y at h31
 go_enter Tryz.func31,Tryz.ntmps31
 go_wp2_with fail
 refine bodyPost_ret (v:=kv c) (results_key Tryz.results31 _ _ _ rfl (by go_simp) (by go_simp)) rfl ⟨rfl,?_⟩
 repeat (first | apply below_more | apply below_alloc | exact Below.refl _ _)
set_option maxHeartbeats 2000000 in
set_option maxRecDepth 100000 in
theorem pointOf_K (u p:Nat) (hp:ptN u%Fp.P=p) (w:World):Calls Tryz.prog 67 #[kv u] w fun e w'=>e=.returned (kv p)∧Below w.heap.size w w':=by
 have h31:=pt_b31 u
 have hs:=pt_cells u
 have hl:=ptN_lt u
 generalize ptN u=v at *
 have Hp:=Lib.hid hp
 clear hp
 go_enter Tryz.func67,Tryz.ntmps67
 go_wp2_with fail
 refine(canon_K v p hl Hp.out _).mono ?_
 rintro e w' ⟨rfl,hbw⟩
 obtain⟨o1,n1,rfl⟩:=below_plus hbw
 clear hbw
 go_wp2_with fail
 refine bodyPost_ret (v:=kv p) (results_key Tryz.results67 _ _ _ rfl (by go_simp) (by go_simp)) rfl ⟨rfl,?_⟩
 repeat (first | apply below_more | apply below_alloc | exact Below.refl _ _)
def errOf (p:Nat):Int:=if p=0 then 7 else 0
set_option maxHeartbeats 2000000 in
set_option maxRecDepth 100000 in
theorem unlessNought_K (p:Nat) (e:Int) (hp:p<115792089237316195423570985008687907853269984665640564039457584007913129639936) (he:errOf p=e) (w:World):Calls Tryz.prog 66 #[kv p] w fun x w'=>x=.returned (.tuple #[kv p,.int .i64 e])∧Below w.heap.size w w':=by
 unfold errOf at he
 by_cases h:p=0
 ·subst h
  rw[if_pos rfl] at he
  subst he
  go_enter Tryz.func66,Tryz.ntmps66
  go_wp2_with fail
  refine bodyPost_ret (v:=.tuple #[kv 0,.int .i64 7]) (results_key_slot Tryz.results66 _ _ _ rfl (by go_simp) (by go_simp) rfl) rfl ⟨rfl,?_⟩
  repeat (first | apply below_more | apply below_alloc | exact Below.refl _ _)
 ·rw[if_neg h] at he
  subst he
  have hq:=keq_false hp (show 0<115792089237316195423570985008687907853269984665640564039457584007913129639936 by decide) h
  clear h
  go_enter Tryz.func66,Tryz.ntmps66
  go_wp2_with fail
  refine bodyPost_ret (v:=.tuple #[kv p,.int .i64 0]) (results_key_slot Tryz.results66 _ _ _ rfl (by go_simp) (by go_simp) rfl) rfl ⟨rfl,?_⟩
  repeat (first | apply below_more | apply below_alloc | exact Below.refl _ _)
set_option maxHeartbeats 2000000 in
set_option maxRecDepth 100000 in
theorem public_K (k p:Nat) (hp:Cv.nT (Cv.clampN k) 9=p) (w:World):Calls Tryz.prog 27 #[kv k] w fun e w'=>e=.returned (kv p)∧Below w.heap.size w w':=by
 obtain⟨c,ec⟩:∃ y,y=Cv.clampN k:=⟨_,rfl⟩
 have Hc:=Lib.hid ec.symm
 have Hp:=Lib.hid (show Cv.nT c 9=p by rw[ec];exact hp)
 clear ec hp
 go_enter Tryz.func27,Tryz.ntmps27
 go_wp2_with fail
 refine(clamp_K k c Hc.out _).mono ?_
 rintro e w' ⟨rfl,hbw⟩
 obtain⟨o1,n1,rfl⟩:=below_plus hbw
 clear hbw
 go_wp2_with fail
 refine(times_V 9 c p (by decide) Hp.out _).mono ?_
 rintro e w' ⟨rfl,hbw⟩
 obtain⟨o2,n2,rfl⟩:=below_plus hbw
 clear hbw
 go_wp2_with fail
 refine bodyPost_ret (v:=kv p) (results_key Tryz.results27 _ _ _ rfl (by go_simp) (by go_simp)) rfl ⟨rfl,?_⟩
 repeat (first | apply below_more | apply below_alloc | exact Below.refl _ _)
end Go.Proofs.YtddmjddlbhdcpaaGreatDoor.F

namespace Go.Proofs.YtddmjddlbhdcpaaGreatDoor.F
open Go.RowKit Go.Shelf Go.Hold
theorem P_le:Fp.P<2^255:=by decide +kernel
theorem ptN_small {p:Nat} (h:p<Fp.P):ptN p%Fp.P=p:=by
 unfold ptN
 rw[Nat.mod_eq_of_lt (Nat.lt_trans h P_le),Nat.mod_eq_of_lt h]
def shN (k u:Nat):Nat:=Cv.nT (Cv.clampN k) (ptN u%Fp.P)
theorem shN_lt (k u:Nat):shN k u<Fp.P:=Cv.nT_lt _ _
set_option maxHeartbeats 2000000 in
set_option maxRecDepth 100000 in
theorem shared_K (k u r:Nat) (e:Int) (hr:shN k u=r) (he:errOf r=e) (w:World) :
  Calls Tryz.prog 29 #[kv k,kv u] w fun x w'=>x=.returned (.tuple #[kv r,.int .i64 e])∧Below w.heap.size w w':=by
 obtain⟨p,ep⟩:∃ y,y=ptN u%Fp.P:=⟨_,rfl⟩
 have lp:p<115792089237316195423570985008687907853269984665640564039457584007913129639936:=by rw[ep];exact mod_lt _
 obtain⟨c,ec⟩:∃ y,y=Cv.clampN k:=⟨_,rfl⟩
 have lr:r<115792089237316195423570985008687907853269984665640564039457584007913129639936:=by rw[←hr];exact Nat.lt_trans (shN_lt k u) P_lt
 have Hp:=Lib.hid ep.symm
 have Hc:=Lib.hid ec.symm
 have Hr:=Lib.hid (show Cv.nT c p=r by rw[←hr,ec,ep];rfl)
 have He:=Lib.hid he
 clear ep ec hr he
 go_enter Tryz.func29,Tryz.ntmps29
 go_wp2_with fail
 generalize hW:World.alloc _ _=W1
 have R1x0:=Lib.hid (show RowAt W1 (w.heap.size) (keyA k) by rw[←hW];clear hW;exact⟨by go_simp,by go_simp,by go_simp⟩)
 have R1x1:=Lib.hid (show RowAt W1 (w.heap.size+1) (keyA u) by rw[←hW];clear hW;exact⟨by go_simp,by go_simp,by go_simp⟩)
 have R1x2:=Lib.hid (show RowAt W1 (w.heap.size+1+1) (#[.int .u8 0,.int .u8 0,.int .u8 0,.int .u8 0,.int .u8 0,.int .u8 0,.int .u8 0,.int .u8 0,.int .u8 0,.int .u8 0,.int .u8 0,.int .u8 0,.int .u8 0,.int .u8 0,.int .u8 0,.int .u8 0,.int .u8 0,.int .u8 0,.int .u8 0,.int .u8 0,.int .u8 0,.int .u8 0,.int .u8 0,.int .u8 0,.int .u8 0,.int .u8 0,.int .u8 0,.int .u8 0,.int .u8 0,.int .u8 0,.int .u8 0,.int .u8 0]) by rw[←hW];clear hW;exact⟨by go_simp,by go_simp,by go_simp⟩)
 have HB1:=Lib.hid (show Below w.heap.size w W1 by rw[←hW];repeat (first | apply below_more | apply below_alloc | apply Below.drew | refine below_setRow ?_ (by omega) _ | exact Below.refl _ _))
 clear hW
 obtain⟨R1x0a,R1x0b,R1x0c⟩:=R1x0.out
 obtain⟨R1x1a,R1x1b,R1x1c⟩:=R1x1.out
 obtain⟨R1x2a,R1x2b,R1x2c⟩:=R1x2.out
 refine wp_region_pick W1 [0,1,2,3,4,5,6,7] [false,false,false,false,false,false,false,false] [] [] 8 (by kernel_rfl) rfl (by kernel_rfl) (by intro c a d v w h;cases d<;>exact h) ((Below.refl _ _).drew) ?_
 simp only[pick,List.getElem?_cons_succ,List.getElem?_cons_zero,List.drop_succ_cons,List.drop_zero]
 refine wpHoldF_val (wanted_none rfl) (by intro K o d hK;go_simp;exact hK _ (Below.refl _ _)) ?_
 refine wpHoldF_call (v:=kv p) (wanted_none rfl) (by intro K o d hK;go_simp;refine(pointOf_K u p Hp.out _).mono ?_;rintro e w' ⟨rfl,hbw⟩;exact⟨_,rfl,hK _ hbw⟩) ?_
 refine wpHoldF_val (wanted_none rfl) (by intro K o d hK;go_simp;exact hK _ (Below.refl _ _)) ?_
 refine wpHoldF_call (v:=kv c) (wanted_none rfl) (by intro K o d hK;go_simp;refine(clamp_K k c Hc.out _).mono ?_;rintro e w' ⟨rfl,hbw⟩;exact⟨_,rfl,hK _ hbw⟩) ?_
 refine wpHoldF_call (v:=kv r) (wanted_none rfl) (by intro K o d hK;go_simp;refine(times_V p c r lp Hr.out _).mono ?_;rintro e w' ⟨rfl,hbw⟩;exact⟨_,rfl,hK _ hbw⟩) ?_
 refine wpHoldF_call (v:=(.tuple #[kv r,.int .i64 e])) (wanted_none rfl) (by intro K o d hK;go_simp;refine(unlessNought_K r e lr He.out _).mono ?_;rintro e w' ⟨rfl,hbw⟩;exact⟨_,rfl,hK _ hbw⟩) ?_
 refine wpHoldF_val (wanted_none rfl) (by intro K o d hK;go_simp;exact hK _ (Below.refl _ _)) ?_
 refine wpHoldF_val (wanted_none rfl) (by intro K o d hK;go_simp;exact hK _ (Below.refl _ _)) ?_
 refine wpHoldF_nil ?_
 intro w2 hb2 hblk2
 have A2x0:=R1x0.out.grow hb2
 have c2x0:=R1x0.out.2.2
 have A2x1:=R1x1.out.grow hb2
 have c2x1:=R1x1.out.2.2
 have A2x2:=R1x2.out.grow hb2
 have c2x2:=R1x2.out.2.2
 have B2x0:=HB1.out.trans (hb2.mono HB1.out.size)
 have s2:=HB1.out.size
 have P2x0x0:=A2x0.other (show w.heap.size≠w.heap.size+1+1 by omega) (keyA r)
 have P2x0x1:=A2x1.other (show w.heap.size+1≠w.heap.size+1+1 by omega) (keyA r)
 have P2x0x2:=A2x2.set (keyA r)
 have B2x1:=below_setRow B2x0 (show w.heap.size≤w.heap.size+1+1 by omega) (keyA r)
 have Z2x0:=Lib.hid P2x0x0
 have Z2x1:=Lib.hid P2x0x1
 have Z2x2:=Lib.hid P2x0x2
 have HB2:=Lib.hid B2x1
 clear hb2 hblk2 HB1 s2 R1x0a R1x0b R1x0c R1x1a R1x1b R1x1c R1x2a R1x2b R1x2c R1x0 R1x1 R1x2 c2x0 c2x1 c2x2 B2x0 B2x1 P2x0x0 P2x0x1 P2x0x2
 obtain⟨A2x0a,A2x0b,A2x0c⟩:=A2x0
 obtain⟨A2x1a,A2x1b,A2x1c⟩:=A2x1
 obtain⟨A2x2a,A2x2b,A2x2c⟩:=A2x2
 go_wp2_with fail
 clear A2x0a A2x0b A2x0c A2x1a A2x1b A2x1c A2x2a A2x2b A2x2c
 generalize World.setRow _ _ _=W3 at *
 obtain⟨Z2x0a,Z2x0b,Z2x0c⟩:=Z2x0.out
 obtain⟨Z2x1a,Z2x1b,Z2x1c⟩:=Z2x1.out
 obtain⟨Z2x2a,Z2x2b,Z2x2c⟩:=Z2x2.out
 refine bodyPost_ret (v:=.tuple #[kv r,.int .i64 e]) (results_key_slot Tryz.results29 _ _ _ rfl (by go_simp) (by go_simp) rfl) rfl ⟨rfl,HB2.out⟩
def KeysAt (w:World) (p:Option Addr) (ls:List Nat):Prop:=∀ i x,ls[i]?=some x→∃ g o,p=some ⟨g,o,none⟩∧g<w.heap.size∧w.rangeAt g (o+i*32) (keyA x).toList
theorem KeysAt.grow {w w':World} {p:Option Addr} {ls:List Nat} (h:KeysAt w p ls) (hb:Below w.heap.size w w'):KeysAt w' p ls:=fun i x hx=>by
 obtain⟨g,o,hp,hg,hr⟩:=h i x hx
 refine⟨g,o,hp,Nat.lt_of_lt_of_le hg hb.size,fun j v hv=>?_⟩
 have:=hr j v hv
 rw[World.cell?_of_block (hb.block g hg)]
 exact this
theorem run_loadKey_range (w:World) (g o x:Nat) (h:w.rangeAt g o (keyA x).toList):(loadRow 23 (.pointer (some ⟨g,o,none⟩))).run Tryz.prog w=.ok (kv x) w:=by
 have:=run_loadAt_mid (P:=Tryz.prog) w g o 23 _ _ h Tryz.underlying23 rfl (by rw[show (keyA x).toList.length=32 by simp[keyA_size]];kernel_rfl)
 rw[Array.toArray_toList] at this
 exact this
def chN (p:Nat) (ls:List Nat):Nat:=ls.foldl (fun q k=>shN k q) p
theorem chN_zero:∀ ls,chN 0 ls=0
 | []=>rfl
 | k::ls=>by
  show chN (shN k 0) ls=0
  have:shN k 0=0:=by
   unfold shN
   rw[ptN_small (show 0<Fp.P by decide +kernel)];exact Cv.nT_zero _
  rw[this];exact chN_zero ls
theorem chN_lt (p:Nat) (h:p<Fp.P):∀ ls,chN p ls<Fp.P
 | []=>h
 | k::ls=>chN_lt _ (shN_lt k p) ls
theorem foldl_take {α β:Type} (g:α→β→α) (p:α) (ls:List β) (j:Nat) (k:β) (h:ls[j]?=some k):(ls.take (j+1)).foldl g p=g ((ls.take j).foldl g p) k:=by
 rw[List.take_add_one,h,List.foldl_append];rfl
theorem chN_take (p:Nat) (ls:List Nat) (j k:Nat) (h:ls[j]?=some k):chN p (ls.take (j+1))=shN k (chN p (ls.take j)) :=
 foldl_take (fun q k=>shN k q) p ls j k h
theorem chN_split (p:Nat) (ls:List Nat) (j:Nat) (h:chN p (ls.take j)=0):chN p ls=0:=by
 have e:chN p ls=chN (chN p (ls.take j)) (ls.drop j):=by
  unfold chN
  rw[←List.foldl_append,List.take_append_drop]
 rw[e,h,chN_zero]
set_option maxHeartbeats 2000000 in
set_option maxRecDepth 100000 in
theorem chain_small (u q:Nat) (ls:List Nat) (cap:Nat) (p:Option Addr) (hq:ptN u%Fp.P=q) (hn:ls.length≤8) (w:World) (hk:KeysAt w p ls) :
  Calls Tryz.prog 69 #[kv u,.slice p ls.length cap] w fun x w'=>x=.returned (.tuple #[kv (chN q ls),.int .i64 (errOf (chN q ls))])∧Below w.heap.size w w':=by
 have h8:¬(8:Int)<(ls.length:Int):=by omega
 have Hq:=Lib.hid hq
 have lq:q<Fp.P:=by rw[←hq];exact Nat.mod_lt _ Fp.P_pos
 obtain⟨e0,ee⟩:∃ y,y=errOf q:=⟨_,rfl⟩
 have He:=Lib.hid ee.symm
 clear hq ee
 go_enter Tryz.func69,Tryz.ntmps69
 go_wp2_with fail
 refine(pointOf_K u q Hq.out _).mono ?_
 rintro e w' ⟨rfl,hbw⟩
 obtain⟨oc1,nc1,rfl⟩:=below_plus hbw
 clear hbw
 go_wp2_with fail
 refine(unlessNought_K q e0 (Nat.lt_trans lq P_lt) He.out _).mono ?_
 rintro e w' ⟨rfl,hbw⟩
 obtain⟨oc2,nc2,rfl⟩:=below_plus hbw
 clear hbw
 go_wp2_with fail
 generalize hW:World.alloc _ _=W1
 have R1x0:=Lib.hid (show RowAt W1 (w.heap.size) (keyA u) by rw[←hW];clear hW;exact⟨by go_simp,by go_simp,by go_simp⟩)
 have R1x1:=Lib.hid (show RowAt W1 (w.heap.size+1) (#[.int .u8 0,.int .u8 0,.int .u8 0,.int .u8 0,.int .u8 0,.int .u8 0,.int .u8 0,.int .u8 0,.int .u8 0,.int .u8 0,.int .u8 0,.int .u8 0,.int .u8 0,.int .u8 0,.int .u8 0,.int .u8 0,.int .u8 0,.int .u8 0,.int .u8 0,.int .u8 0,.int .u8 0,.int .u8 0,.int .u8 0,.int .u8 0,.int .u8 0,.int .u8 0,.int .u8 0,.int .u8 0,.int .u8 0,.int .u8 0,.int .u8 0,.int .u8 0]) by rw[←hW];clear hW;exact⟨by go_simp,by go_simp,by go_simp⟩)
 have R1x2:=Lib.hid (show RowAt W1 (w.heap.size+1+1+(oc1.size+oc2.size)) (keyA q) by rw[←hW];clear hW;exact⟨by go_simp,by go_simp,by go_simp⟩)
 have HB1:=Lib.hid (show Below w.heap.size w W1 by rw[←hW];repeat (first | apply below_more | apply below_alloc | apply Below.drew | refine below_setRow ?_ (by omega) _ | exact Below.refl _ _))
 clear hW
 obtain⟨R1x0a,R1x0b,R1x0c⟩:=R1x0.out
 obtain⟨R1x1a,R1x1b,R1x1c⟩:=R1x1.out
 obtain⟨R1x2a,R1x2b,R1x2c⟩:=R1x2.out
 have hG':w.heap.size+1+1≤w.heap.size+1+1+(oc1.size+oc2.size):=by omega
 generalize w.heap.size+1+1+(oc1.size+oc2.size)=G at *
 have HK:=Lib.hid hk
 clear hk
 go_loopw [7,8] (fun er i w'=>∃ (j:Nat),j≤ls.length∧i=.int .i64 j∧er=.int .i64 (errOf (chN q (ls.take j)))∧RowAt w' w.heap.size (keyA u)∧RowAt w' (w.heap.size+1) #[.int .u8 0,.int .u8 0,.int .u8 0,.int .u8 0,.int .u8 0,.int .u8 0,.int .u8 0,.int .u8 0,.int .u8 0,.int .u8 0,.int .u8 0,.int .u8 0,.int .u8 0,.int .u8 0,.int .u8 0,.int .u8 0,.int .u8 0,.int .u8 0,.int .u8 0,.int .u8 0,.int .u8 0,.int .u8 0,.int .u8 0,.int .u8 0,.int .u8 0,.int .u8 0,.int .u8 0,.int .u8 0,.int .u8 0,.int .u8 0,.int .u8 0,.int .u8 0]∧RowAt w' G (keyA (chN q (ls.take j)))∧Below w.heap.size w w') (fun _ i _=>ls.length-(intOf i).toNat)
 case atStart=>exact⟨0,Nat.zero_le _,rfl,by rw[←He.out];rfl,R1x0.out,R1x1.out,R1x2.out,HB1.out⟩
 case round =>
  clear R1x0a R1x0b R1x0c R1x1a R1x1b R1x1c R1x2a R1x2b R1x2c R1x0 R1x1 R1x2 HB1
  obtain⟨j,hj,rfl,rfl,Q1,Q2,Q3,HB⟩:=hrel
  have T1:=Lib.hid Q1
  have T2:=Lib.hid Q2
  have T3:=Lib.hid Q3
  have HB2:=Lib.hid HB
  clear HB
  obtain⟨T1a,T1b,T1c⟩:=Q1
  obtain⟨T2a,T2b,T2c⟩:=Q2
  have lv:=Nat.lt_trans (chN_lt q lq (ls.take j)) P_lt
  by_cases hjl:j<ls.length
  ·obtain⟨x,hx⟩:∃ x,ls[j]?=some x:=⟨_,List.getElem?_eq_getElem hjl⟩
   by_cases hz:chN q (ls.take j)=0
   ·have Hres:=Lib.hid (chN_split q ls j hz)
    rw[hz] at Q3 ⊢
    have T3':=Lib.hid Q3
    clear T3
    obtain⟨T3a,T3b,T3c⟩:=Q3
    have hji:(j:Int)<(ls.length:Int):=by omega
    have he7:errOf 0=7:=rfl
    rw[he7]
    clear hz lv hx
    go_wp2_with fail
    refine bodyPost_ret (v:=.tuple #[kv 0,.int .i64 7]) (results_key_slot Tryz.results69 _ _ _ rfl (by go_simp) (by go_simp) rfl) rfl ⟨by rw[Hres.out];rfl,?_⟩
    exact below_setRow HB2.out (by omega) _
   ·have he0:errOf (chN q (ls.take j))=0:=by unfold errOf;rw[if_neg hz]
    have hnx:=chN_take q ls j x hx
    generalize chN q (ls.take j)=v at *
    obtain⟨r,er⟩:∃ y,y=shN x v:=⟨_,rfl⟩
    obtain⟨e1,ee1⟩:∃ y,y=errOf r:=⟨_,rfl⟩
    have Hr:=Lib.hid er.symm
    have He1:=Lib.hid ee1.symm
    have Hnx:=Lib.hid (show chN q (ls.take (j+1))=r by rw[hnx,er])
    obtain⟨T3a,T3b,T3c⟩:=Q3
    obtain⟨g,o,rfl,hg,hrg⟩:=HK.out j x hx
    have hgr:∀ w',Below w.heap.size w w'→(loadRow 23 (.pointer (some ⟨g,o+j*32,none⟩))).run Tryz.prog w'=.ok (kv x) w':=fun w' hb=>by
     obtain⟨g',o',hp',hg',hr'⟩:=(HK.out.grow hb) j x hx
     cases hp'
     exact run_loadKey_range w' g _ x hr'
    have hload:∀ os d,(loadRow 23 (.pointer (some ⟨g,o+j*32,none⟩))).run Tryz.prog (wr.plus os d)=.ok (kv x) (wr.plus os d):=fun os d=>hgr _ (below_more HB2.out _ _)
    rw[he0]
    have hji:(j:Int)<(ls.length:Int):=by omega
    have hj0:(0:Int)≤(j:Int):=by omega
    clear er ee1 hnx hz lv hx hgr hrg he0
    go_wp2_with fail
    refine wp_region_pick wr [0,1,2,3,4,5,6,7,8] [false,false,false,false,false,false,false,false,true] [] [] 9 (by kernel_rfl) rfl (by kernel_rfl) (by intro c a d v w h;cases d<;>exact h) ((Below.refl _ _).drew) ?_
    simp only[pick,List.getElem?_cons_succ,List.getElem?_cons_zero,List.drop_succ_cons,List.drop_zero]
    refine wpHoldF_val (wanted_none rfl) (by intro K o d hK;go_simp;exact hK _ (Below.refl _ _)) ?_
    refine wpHoldF_val (wanted_none rfl) (by intro K o d hK;go_simp;exact hK _ (Below.refl _ _)) ?_
    refine wpHoldF_val (wanted_none rfl) (by intro K o d hK;go_simp;exact hK _ (Below.refl _ _)) ?_
    refine wpHoldF_val (wanted_none rfl) (by intro K o d hK;go_simp;exact hK _ (Below.refl _ _)) ?_
    refine wpHoldF_val (wanted_none rfl) (by intro K o d hK;go_simp;exact hK _ (Below.refl _ _)) ?_
    refine wpHoldF_call (v:=(.tuple #[kv r,.int .i64 e1])) (wanted_none rfl) (by intro K o d hK;go_simp;refine(shared_K x v r e1 Hr.out He1.out _).mono ?_;rintro e w' ⟨rfl,hbw⟩;exact⟨_,rfl,hK _ hbw⟩) ?_
    refine wpHoldF_val (wanted_none rfl) (by intro K o d hK;go_simp;exact hK _ (Below.refl _ _)) ?_
    refine wpHoldF_val (wanted_none rfl) (by intro K o d hK;go_simp;exact hK _ (Below.refl _ _)) ?_
    refine wpHoldF_late (wanted_none rfl) (fun w=>by go_simp;rfl) ?_
    refine wpHoldF_nil ?_
    intro w21 hb21 hblk21
    have A21x0:=T1.out.grow hb21
    have c21x0:=T1.out.2.2
    have A21x1:=T2.out.grow hb21
    have c21x1:=T2.out.2.2
    have A21x2:=T3.out.grow hb21
    have c21x2:=T3.out.2.2
    have B21x0:=HB2.out.trans (hb21.mono HB2.out.size)
    have s21:=HB2.out.size
    have P21x0x0:=A21x0.other (show w.heap.size≠G by omega) (keyA r)
    have P21x0x1:=A21x1.other (show w.heap.size+1≠G by omega) (keyA r)
    have P21x0x2:=A21x2.set (keyA r)
    have B21x1:=below_setRow B21x0 (show w.heap.size≤G by omega) (keyA r)
    have Z21x0:=Lib.hid P21x0x0
    have Z21x1:=Lib.hid P21x0x1
    have Z21x2:=Lib.hid P21x0x2
    have HB21:=Lib.hid B21x1
    clear hb21 hblk21 HB2 s21 T1a T1b T1c T2a T2b T2c T3a T3b T3c T1 T2 T3 c21x0 c21x1 c21x2 B21x0 B21x1 P21x0x0 P21x0x1 P21x0x2
    obtain⟨A21x0a,A21x0b,A21x0c⟩:=A21x0
    obtain⟨A21x1a,A21x1b,A21x1c⟩:=A21x1
    obtain⟨A21x2a,A21x2b,A21x2c⟩:=A21x2
    go_wp2_with fail
    clear A21x0a A21x0b A21x0c A21x1a A21x1b A21x1c A21x2a A21x2b A21x2c
    generalize World.setRow _ _ _=W22 at *
    obtain⟨Z21x0a,Z21x0b,Z21x0c⟩:=Z21x0.out
    obtain⟨Z21x1a,Z21x1b,Z21x1c⟩:=Z21x1.out
    obtain⟨Z21x2a,Z21x2b,Z21x2c⟩:=Z21x2.out
    go_roundw
    case rel=>exact⟨j+1,by omega,by go_num,by rw[Hnx.out,He1.out],Z21x0.out,Z21x1.out,by rw[Hnx.out];exact Z21x2.out,HB21.out⟩
    case measure=>simp[intOf];omega
  ·obtain rfl:j=ls.length:=by omega
   have hres:chN q (ls.take ls.length)=chN q ls:=by rw[List.take_length]
   rw[hres] at Q3 lv ⊢
   clear hres
   obtain⟨r,er⟩:∃ y,chN q ls=y:=⟨_,rfl⟩
   rw[er] at Q3 lv ⊢
   have Hh:=Lib.hid er
   clear er T3
   obtain⟨T3a,T3b,T3c⟩:=Q3
   go_wp2_with fail
   refine bodyPost_ret (v:=.tuple #[kv r,.int .i64 (errOf r)]) (results_key_slot Tryz.results69 _ _ _ rfl (by go_simp) (by go_simp) rfl) rfl ⟨by rw[Hh.out],?_⟩
   exact below_setRow HB2.out (by omega) _
end Go.Proofs.YtddmjddlbhdcpaaGreatDoor.F

namespace Go.Proofs.YtddmjddlbhdcpaaGreatDoor.F
open Cv Ed Fp in
theorem far_mul (M:Mont P) (hk:M.k=kk) {p:Fin P × Fin P} (hp:M.On p) (h2:1-p.2≠0) (hL:smul fld M.toCrv p L=O) :
  ∀ (ks:List Nat) (u m:Nat),¬L ∣ m→q u=xof fld M.e (smul fld M.toCrv p m).2→∃ m',¬L ∣ m'∧q (ks.foldl (fun u k=>nT (clampN k) u) u)=xof fld M.e (smul fld M.toCrv p m').2
 | [],u,m,hm,hu=>⟨m,hm,hu⟩
 | k::ks,u,m,hm,hu=>by
  rw[List.foldl_cons]
  refine far_mul M hk hp h2 hL ks _ (m*clampN k) (fun h=>?_) ?_
  ·rcases prL.dvd_mul h with h | h
   ·exact hm h
   ·exact L_not_dvd k h
  ·have ho:=on_smul fld M.toCrv hp m
   have hne:=xof_ne M hp h2 hL m hm
   rw[q_T,←hk,hu,smul_mul fld M.toCrv hp]
   generalize smul fld M.toCrv p m=r at *
   have h0:¬r.2*r.2=1:=fun h0=>by
    rcases fld.sq_eq (x:=r.2) (y:=1) (by rw[h0];generalize r.2=v at *;clear hne hu h2;grind -splitMatch -splitIte -splitIndPred -funext -lia -linarith (splits:=0) (ematch:=0)) with h | h
    ·exact hne (by rw[h,xof_one])
    ·refine hne ?_
     unfold xof;rw[h]
     generalize fld.inv (1 - -1)=i;generalize M.e=e at *;clear hne hu h2 h0 h;grind -splitMatch -splitIte -splitIndPred -funext -lia -linarith (splits:=0) (ematch:=0)
   have g1:1-r.2≠0:=fun h=>h0 (by generalize r.2=v at *;clear hne hu h2 h0;grind -splitMatch -splitIte -splitIndPred -funext -lia -linarith (splits:=0) (ematch:=0))
   have g2:1+r.2≠0:=fun h=>h0 (by generalize r.2=v at *;clear hne hu h2 h0;grind -splitMatch -splitIte -splitIndPred -funext -lia -linarith (splits:=0) (ematch:=0))
   exact T_rep fld M ho (xof_of fld g1) g2 g1 (clampN k) (clampN_lt k)
open Cv Ed Fp in
theorem far_ne (k:Nat) (ks:List Nat):ks.foldl (fun u k=>nT (clampN k) u) (nT (clampN k) 9)≠0:=by
 obtain⟨M,hk,p,hp,hx,h1,h2,hL⟩:=nine
 intro h
 obtain⟨m,hm,hq⟩:=far_mul M hk hp h2 hL ks (nT (clampN k) 9) (clampN k) (L_not_dvd k) (by rw[q_T,←hk,T_rep fld M hp hx h1 h2 _ (clampN_lt k)])
 rw[h] at hq
 exact xof_ne M hp h2 hL m hm hq.symm
end Go.Proofs.YtddmjddlbhdcpaaGreatDoor.F

namespace Go.Proofs.YtddmjddlbhdcpaaGreatDoor.F
open Go.RowKit Go.Shelf Go.Hold
theorem fold_small {sh nt:Nat→Nat→Nat} {P:Nat} (hlt:∀ k u,sh k u<P) (heq:∀ k u,u<P→sh k u=nt k u):∀ (ks:List Nat) (u:Nat),u<P→ks.foldl (fun q k=>sh k q) u=ks.foldl (fun u k=>nt k u) u
 | [],_,_=>rfl
 | k::ks,u,h=>by rw[List.foldl_cons,List.foldl_cons,fold_small hlt heq ks _ (hlt k u),heq k u h]
theorem fold_comm {sh:Nat→Nat→Nat} (hc:∀ j k u,sh j (sh k u)=sh k (sh j u)) (k:Nat):∀ (ks:List Nat) (u:Nat),ks.foldl (fun q k=>sh k q) (sh k u)=sh k (ks.foldl (fun q k=>sh k q) u)
 | [],_=>rfl
 | j::ks,u=>by rw[List.foldl_cons,List.foldl_cons,hc,fold_comm hc k ks]
theorem fold_snoc {sh:Nat→Nat→Nat} (u:Nat) (ks:List Nat) (k:Nat):(ks++[k]).foldl (fun q k=>sh k q) u=sh k (ks.foldl (fun q k=>sh k q) u):=by
 rw[List.foldl_append,List.foldl_cons,List.foldl_nil]
theorem nt_comm {sh nt:Nat→Nat→Nat} {P:Nat} (hlt:∀ k u,sh k u<P) (heq:∀ k u,u<P→sh k u=nt k u) (g:Nat→Nat) (hg:∀ k u,sh k u=nt k (g u)) (hc:∀ j k u,nt j (nt k u)=nt k (nt j u)) (j k u:Nat):sh j (sh k u)=sh k (sh j u):=by
 rw[heq j _ (hlt k u),heq k _ (hlt j u),hg k u,hg j u,hc]
theorem shN_small (k u:Nat) (h:u<Fp.P):shN k u=Cv.nT (Cv.clampN k) u:=by unfold shN;rw[ptN_small h]
theorem nine_small:9<Fp.P:=by decide +kernel
theorem shN_comm (j k u:Nat):shN j (shN k u)=shN k (shN j u) :=
 nt_comm (sh:=shN) (nt:=fun k u=>Cv.nT (Cv.clampN k) u) shN_lt shN_small (fun u=>ptN u%Fp.P) (fun _ _=>rfl) (fun j k u=>Cv.pair_order u k j) j k u
theorem chN_foldl (ks:List Nat) (u:Nat) (h:u<Fp.P):chN u ks=ks.foldl (fun u k=>Cv.nT (Cv.clampN k) u) u :=
 fold_small (sh:=shN) (nt:=fun k u=>Cv.nT (Cv.clampN k) u) shN_lt shN_small ks u h
theorem chN_ne (k:Nat) (ks:List Nat):chN 9 (k::ks)≠0:=by
 rw[chN_foldl _ _ nine_small,List.foldl_cons];exact far_ne k ks
theorem chN_comm (k:Nat) (ks:List Nat) (u:Nat):chN (shN k u) ks=shN k (chN u ks):=by
 unfold chN
 exact fold_comm (sh:=shN) shN_comm k ks u
theorem chN_snoc (u:Nat) (ks:List Nat) (k:Nat):chN u (ks++[k])=shN k (chN u ks):=by
 unfold chN
 exact fold_snoc (sh:=shN) u ks k
theorem fold_one {sh:Nat→Nat→Nat} (u k:Nat):[k].foldl (fun q k=>sh k q) u=sh k u:=by
 rw[List.foldl_cons,List.foldl_nil]
theorem chN_one (u k:Nat):chN u [k]=shN k u:=by
 unfold chN
 exact fold_one (sh:=shN) u k
theorem shN_nine (k:Nat):shN k 9=Cv.nT (Cv.clampN k) 9:=shN_small k 9 nine_small
end Go.Proofs.YtddmjddlbhdcpaaGreatDoor.F
