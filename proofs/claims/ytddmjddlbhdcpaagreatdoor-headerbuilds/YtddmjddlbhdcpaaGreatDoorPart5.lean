/-
  Part 5 of the texts behind the theorem.
-/
import Derived.Test.YtddmjddlbhdcpaaGreatDoorPart4
set_option maxHeartbeats 8000000
set_option maxRecDepth 100000
namespace Go.Proofs.YtddmjddlbhdcpaaGreatDoor.F
open Go.RowKit Go.Shelf Go.Hold
theorem Zfe (x z X Z:Nat) (hx:x<115792089237316195423570985008687907853269984665640564039457584007913129639936) (hz:z<115792089237316195423570985008687907853269984665640564039457584007913129639936) (h:Cv.ntw (x,z)=(X,Z)) (w:World) :
  Calls Tryz.prog 105 #[fv x z,kv 121665] w fun e w'=>e=.returned (fv X Z)∧Below w.heap.size w w':=by
 have:=Zpe x z hx hz w;rw[h] at this;exact this
theorem ZkB (x z x3 z3 x1 X Z:Nat) (hx:x<115792089237316195423570985008687907853269984665640564039457584007913129639936) (hz:z<115792089237316195423570985008687907853269984665640564039457584007913129639936) (hx3:x3<115792089237316195423570985008687907853269984665640564039457584007913129639936) (hz3:z3<115792089237316195423570985008687907853269984665640564039457584007913129639936) (hx1:x1<115792089237316195423570985008687907853269984665640564039457584007913129639936) (h:Cv.nsm x1 (x,z) (x3,z3)=(X,Z)) (w:World) :
  Calls Tryz.prog 104 #[fv x z,fv x3 z3,kv x1] w fun e w'=>e=.returned (fv X Z)∧Below w.heap.size w w':=by
 have:=Zvl x z x3 z3 x1 hx hz hx3 hz3 hx1 w;rw[h] at this;exact this
theorem Cv.bit_mod (m j:Nat):bits .and .u8 (bt m (j/8)/2^(j%8)) 1=(bt m (j/8)/2^(j%8)).tmod 2:=by
 have h1:bt m (j/8)/2^(j%8)=((m/256^(j/8)%256/2^(j%8):Nat):Int):=by
  unfold bt
  rw[Int.natCast_ediv]
  congr 1
 rw[Cv.bit_and,←Cv.bit_of,h1,Int.tmod_eq_emod_of_nonneg (Int.natCast_nonneg _),Int.natCast_emod]
 rfl
theorem keyA_a24:keyA 121665=#[.int .u8 65,.int .u8 219,.int .u8 1,.int .u8 0,.int .u8 0,.int .u8 0,.int .u8 0,.int .u8 0,.int .u8 0,.int .u8 0,.int .u8 0,.int .u8 0,.int .u8 0,.int .u8 0,.int .u8 0,.int .u8 0,.int .u8 0,.int .u8 0,.int .u8 0,.int .u8 0,.int .u8 0,.int .u8 0,.int .u8 0,.int .u8 0,.int .u8 0,.int .u8 0,.int .u8 0,.int .u8 0,.int .u8 0,.int .u8 0,.int .u8 0,.int .u8 0]:=by kernel_rfl
theorem ZpP (x1 m:Nat) (hx1:x1<115792089237316195423570985008687907853269984665640564039457584007913129639936) (w:World) :
  Calls Tryz.prog 77 #[kv m,kv x1] w fun e w'=>e=.returned (kv (Cv.nT m x1))∧Below w.heap.size w w':=by
 have hk1:#[.int .u8 1,.int .u8 0,.int .u8 0,.int .u8 0,.int .u8 0,.int .u8 0,.int .u8 0,.int .u8 0,.int .u8 0,.int .u8 0,.int .u8 0,.int .u8 0,.int .u8 0,.int .u8 0,.int .u8 0,.int .u8 0,.int .u8 0,.int .u8 0,.int .u8 0,.int .u8 0,.int .u8 0,.int .u8 0,.int .u8 0,.int .u8 0,.int .u8 0,.int .u8 0,.int .u8 0,.int .u8 0,.int .u8 0,.int .u8 0,.int .u8 0,.int .u8 0]=keyA 1:=Za3 1 (by decide)
 have hk2:=keyA_a24.symm
 go_enter Tryz.func77,Tryz.ntmps77
 go_wp2_with fail
 go_region
 ·go_wp2_with fail
  generalize hW:World.drew _=W1
  have R1x0:=Zq (show RowAt W1 (w.heap.size) (keyA m) by rw[←hW];clear hW;exact⟨by go_simp,by go_simp,by go_simp⟩)
  have R1x1:=Zq (show RowAt W1 (w.heap.size+1) (keyA x1) by rw[←hW];clear hW;exact⟨by go_simp,by go_simp,by go_simp⟩)
  have R1x2:=Zq (show RowAt W1 (w.heap.size+1+1) (#[.int .u8 0,.int .u8 0,.int .u8 0,.int .u8 0,.int .u8 0,.int .u8 0,.int .u8 0,.int .u8 0,.int .u8 0,.int .u8 0,.int .u8 0,.int .u8 0,.int .u8 0,.int .u8 0,.int .u8 0,.int .u8 0,.int .u8 0,.int .u8 0,.int .u8 0,.int .u8 0,.int .u8 0,.int .u8 0,.int .u8 0,.int .u8 0,.int .u8 0,.int .u8 0,.int .u8 0,.int .u8 0,.int .u8 0,.int .u8 0,.int .u8 0,.int .u8 0]) by rw[←hW];clear hW;exact⟨by go_simp,by go_simp,by go_simp⟩)
  have R1x3:=Zq (show RowAt W1 (w.heap.size+1+1+1) (keyA 1) by rw[←hW];clear hW;exact⟨by go_simp,by go_simp,by go_simp⟩)
  have R1x4:=Zq (show RowAt W1 (w.heap.size+1+1+1+1) (keyA 121665) by rw[←hW];clear hW;exact⟨by go_simp,by go_simp,by go_simp⟩)
  have R1x5:=Zq (show RowAt W1 (w.heap.size+1+1+1+1+1) (ZaD 1 0) by rw[←hW];clear hW;exact⟨by go_simp,by go_simp,by go_simp⟩)
  have R1x6:=Zq (show RowAt W1 (w.heap.size+1+1+1+1+1+1) (ZaD x1 1) by rw[←hW];clear hW;exact⟨by go_simp,by go_simp,by go_simp⟩)
  have HB1:=Zq (show Below w.heap.size w W1 by rw[←hW];repeat (first | apply Zag | apply Zab | apply Below.drew | refine Zad ?_ (by omega) _ | exact Below.refl _ _))
  clear hW
  obtain⟨R1x0a,R1x0b,R1x0c⟩:=R1x0.out
  obtain⟨R1x1a,R1x1b,R1x1c⟩:=R1x1.out
  obtain⟨R1x2a,R1x2b,R1x2c⟩:=R1x2.out
  obtain⟨R1x3a,R1x3b,R1x3c⟩:=R1x3.out
  obtain⟨R1x4a,R1x4b,R1x4c⟩:=R1x4.out
  obtain⟨R1x5a,R1x5b,R1x5c⟩:=R1x5.out
  obtain⟨R1x6a,R1x6b,R1x6c⟩:=R1x6.out
  clear hk1 hk2
  go_loopw [9] (fun i w'=>∃ (k:Nat),k≤255∧i=.int .i64 ((k:Int)-1)∧RowAt w' w.heap.size (keyA m)∧RowAt w' (w.heap.size+1) (keyA x1)∧RowAt w' (w.heap.size+1+1) #[.int .u8 0,.int .u8 0,.int .u8 0,.int .u8 0,.int .u8 0,.int .u8 0,.int .u8 0,.int .u8 0,.int .u8 0,.int .u8 0,.int .u8 0,.int .u8 0,.int .u8 0,.int .u8 0,.int .u8 0,.int .u8 0,.int .u8 0,.int .u8 0,.int .u8 0,.int .u8 0,.int .u8 0,.int .u8 0,.int .u8 0,.int .u8 0,.int .u8 0,.int .u8 0,.int .u8 0,.int .u8 0,.int .u8 0,.int .u8 0,.int .u8 0,.int .u8 0]∧RowAt w' (w.heap.size+1+1+1) (keyA 1)∧RowAt w' (w.heap.size+1+1+1+1) (keyA 121665) ∧
   RowAt w' (w.heap.size+1+1+1+1+1) (ZaD (Cv.nlad x1 m (255-k)).1.1 (Cv.nlad x1 m (255-k)).1.2)∧RowAt w' (w.heap.size+1+1+1+1+1+1) (ZaD (Cv.nlad x1 m (255-k)).2.1 (Cv.nlad x1 m (255-k)).2.2)∧Below w.heap.size w w') (fun i _=>(intOf i+1).toNat)
  case atStart=>exact⟨255,Nat.le_refl _,rfl,R1x0.out,R1x1.out,R1x2.out,R1x3.out,R1x4.out,R1x5.out,R1x6.out,HB1.out⟩
  case round =>
   clear R1x0a R1x0b R1x0c R1x0 R1x1a R1x1b R1x1c R1x1 R1x2a R1x2b R1x2c R1x2 R1x3a R1x3b R1x3c R1x3 R1x4a R1x4b R1x4c R1x4 R1x5a R1x5b R1x5c R1x5 R1x6a R1x6b R1x6c R1x6 HB1
   obtain⟨k,hk,rfl,Q1,Q2,Q3,Q4,Q5,Q6,Q7,HB⟩:=hrel
   have T1:=Zq Q1
   have T2:=Zq Q2
   have T3:=Zq Q3
   have T4:=Zq Q4
   have T5:=Zq Q5
   have HB2:=Zq HB
   clear HB
   obtain⟨T1a,T1b,T1c⟩:=Q1
   obtain⟨T2a,T2b,T2c⟩:=Q2
   obtain⟨T3a,T3b,T3c⟩:=Q3
   obtain⟨T4a,T4b,T4c⟩:=Q4
   obtain⟨T5a,T5b,T5c⟩:=Q5
   rcases Nat.eq_zero_or_pos k with rfl | hpos
   ·have hs:=Cv.small_lad x1 m hx1 255
    rw[Nat.sub_zero] at Q6 Q7
    obtain⟨s,hq⟩:∃s,Cv.nlad x1 m 255=s:=⟨_,rfl⟩
    rw[hq] at Q6 Q7 hs
    obtain⟨⟨x2,z2⟩,q⟩:=s
    have hx2:x2<115792089237316195423570985008687907853269984665640564039457584007913129639936:=hs.1
    have hz2:z2<115792089237316195423570985008687907853269984665640564039457584007913129639936:=hs.2.1
    obtain⟨i,ei⟩:∃y,y=z2^Fp.E%Fp.P:=⟨_,rfl⟩
    have li:i<115792089237316195423570985008687907853269984665640564039457584007913129639936:=by rw[ei];exact mod_lt _
    obtain⟨r,er⟩:∃y,y=Cv.nmul x2 i:=⟨_,rfl⟩
    have Hi:=Zq ei.symm
    have Hr:=Zq er.symm
    have Hres:Hid (Cv.nT m x1=r):=by
     show _=_
     rw[er,ei];unfold Cv.nT;rw[hq]
    clear ei er hq hs
    have T6:=Zq Q6
    have T7:=Zq Q7
    obtain⟨T6a,T6b,T6c⟩:=Q6
    obtain⟨T7a,T7b,T7c⟩:=Q7
    go_wp2_with fail
    refine Zal wr [0,1,2,3,4,5] [false,false,false,false,false,false] [] [] 6 (by kernel_rfl) rfl (by kernel_rfl) (by intro c a d v w h;cases d<;>exact h) ((Below.refl _ _).drew) ?_
    simp only[pick,List.getElem?_cons_succ,List.getElem?_cons_zero,List.drop_succ_cons,List.drop_zero]
    refine Zac (Zaa rfl) (by intro K o d hK;go_simp;exact hK _ (Below.refl _ _)) ?_
    refine Zac (Zaa rfl) (by intro K o d hK;go_simp;exact hK _ (Below.refl _ _)) ?_
    refine Zac (Zaa rfl) (by intro K o d hK;go_simp;exact hK _ (Below.refl _ _)) ?_
    refine Zac (Zaa rfl) (by intro K o d hK;go_simp;exact hK _ (Below.refl _ _)) ?_
    refine Zai (v:=kv i) (Zaa rfl) (by intro K o d hK;go_simp;refine(Zq5 z2 i hz2 Hi.out _).mono ?_;rintro e w' ⟨rfl,hbw⟩;exact⟨_,rfl,hK _ hbw⟩) ?_
    refine Zai (v:=kv r) (Zaa rfl) (by intro K o d hK;go_simp;refine(Zck x2 i r hx2 li Hr.out _).mono ?_;rintro e w' ⟨rfl,hbw⟩;exact⟨_,rfl,hK _ hbw⟩) ?_
    refine Zan ?_
    intro w31 hb31 hblk31
    have A31x0:=T1.out.grow hb31
    have c31x0:=T1.out.2.2
    have A31x1:=T2.out.grow hb31
    have c31x1:=T2.out.2.2
    have A31x2:=T3.out.grow hb31
    have c31x2:=T3.out.2.2
    have A31x3:=T4.out.grow hb31
    have c31x3:=T4.out.2.2
    have A31x4:=T5.out.grow hb31
    have c31x4:=T5.out.2.2
    have A31x5:=T6.out.grow hb31
    have c31x5:=T6.out.2.2
    have A31x6:=T7.out.grow hb31
    have c31x6:=T7.out.2.2
    have B31x0:=HB2.out.trans (hb31.mono HB2.out.size)
    have s31:=HB2.out.size
    have P31x0x0:=A31x0.other (show w.heap.size≠w.heap.size+1+1 by omega) (keyA r)
    have P31x0x1:=A31x1.other (show w.heap.size+1≠w.heap.size+1+1 by omega) (keyA r)
    have P31x0x2:=A31x2.set (keyA r)
    have P31x0x3:=A31x3.other (show w.heap.size+1+1+1≠w.heap.size+1+1 by omega) (keyA r)
    have P31x0x4:=A31x4.other (show w.heap.size+1+1+1+1≠w.heap.size+1+1 by omega) (keyA r)
    have P31x0x5:=A31x5.other (show w.heap.size+1+1+1+1+1≠w.heap.size+1+1 by omega) (keyA r)
    have P31x0x6:=A31x6.other (show w.heap.size+1+1+1+1+1+1≠w.heap.size+1+1 by omega) (keyA r)
    have B31x1:=Zad B31x0 (show w.heap.size≤w.heap.size+1+1 by omega) (keyA r)
    have Z31x0:=Zq P31x0x0
    have Z31x1:=Zq P31x0x1
    have Z31x2:=Zq P31x0x2
    have Z31x3:=Zq P31x0x3
    have Z31x4:=Zq P31x0x4
    have Z31x5:=Zq P31x0x5
    have Z31x6:=Zq P31x0x6
    have HB31:=Zq B31x1
    clear hb31 hblk31 HB2 s31 T1a T1b T1c T2a T2b T2c T3a T3b T3c T4a T4b T4c T5a T5b T5c T6a T6b T6c T7a T7b T7c T1 T2 T3 T4 T5 T6 T7 c31x0 c31x1 c31x2 c31x3 c31x4 c31x5 c31x6 B31x0 B31x1 P31x0x0 P31x0x1 P31x0x2 P31x0x3 P31x0x4 P31x0x5 P31x0x6
    obtain⟨A31x0a,A31x0b,A31x0c⟩:=A31x0
    obtain⟨A31x1a,A31x1b,A31x1c⟩:=A31x1
    obtain⟨A31x2a,A31x2b,A31x2c⟩:=A31x2
    obtain⟨A31x3a,A31x3b,A31x3c⟩:=A31x3
    obtain⟨A31x4a,A31x4b,A31x4c⟩:=A31x4
    obtain⟨A31x5a,A31x5b,A31x5c⟩:=A31x5
    obtain⟨A31x6a,A31x6b,A31x6c⟩:=A31x6
    go_wp2_with fail
    clear A31x0a A31x0b A31x0c A31x1a A31x1b A31x1c A31x2a A31x2b A31x2c A31x3a A31x3b A31x3c A31x4a A31x4b A31x4c A31x5a A31x5b A31x5c A31x6a A31x6b A31x6c
    generalize World.setRow _ _ _=W32 at *
    obtain⟨Z31x0a,Z31x0b,Z31x0c⟩:=Z31x0.out
    obtain⟨Z31x1a,Z31x1b,Z31x1c⟩:=Z31x1.out
    obtain⟨Z31x2a,Z31x2b,Z31x2c⟩:=Z31x2.out
    obtain⟨Z31x3a,Z31x3b,Z31x3c⟩:=Z31x3.out
    obtain⟨Z31x4a,Z31x4b,Z31x4c⟩:=Z31x4.out
    obtain⟨Z31x5a,Z31x5b,Z31x5c⟩:=Z31x5.out
    obtain⟨Z31x6a,Z31x6b,Z31x6c⟩:=Z31x6.out
    refine bodyPost_ret (v:=kv r) (Zav Tryz.results77 _ _ _ rfl (by go_simp) (by go_simp)) rfl ⟨by rw[Hres.out],HB31.out⟩
   ·obtain⟨j,rfl⟩:∃j,k=j+1:=⟨k-1,by omega⟩
    rw[show (((j+1:Nat):Int)-1)=(j:Int) by omega]
    have hj0:(0:Int)≤j:=by omega
    have hj1:(j:Int)≤254:=by omega
    have hc:=T1.out.cellAt (j/8) (keyA_get m (j/8) (by omega))
    obtain⟨sv,x2,z2,x3,z3,a,az,b,bz,t,tz,u,uz,X,Z,X',Z',e1,hbit0,S1,e2,e3,S2,e4,la,laz,lb,lbz⟩:=Cv.round_num x1 m j hx1 (by omega)
    rw[e1] at Q6 Q7
    have hbit:(bt m (j/8)/2^(j%8)).tmod 2=sv:=by rw[←hbit0];exact(Cv.bit_mod m j).symm
    clear hbit0
    have E2:=Zq e2
    have E3:=Zq e3
    have E4:=Zq e4
    have T6:=Zq Q6
    have T7:=Zq Q7
    clear e1 e2 e3 e4
    obtain⟨T6a,T6b,T6c⟩:=Q6
    obtain⟨T7a,T7b,T7c⟩:=Q7
    rcases S1 with ⟨rfl,rfl,rfl,rfl,rfl⟩ | ⟨rfl,rfl,rfl,rfl,rfl⟩
    ·obtain⟨_,rfl,rfl,rfl,rfl⟩:=S2.resolve_right (fun h=>absurd h.1 (by decide))
     go_wp2_with fail
     refine(ZkB a az b bz x1 X' Z' la laz lb lbz hx1 E3.out _).mono ?_
     rintro e w' ⟨rfl,hbw⟩
     obtain⟨oc1,nc1,rfl⟩:=Zaf hbw
     clear hbw
     have lt1x0:w.heap.size<wr.heap.size+oc1.size:=by omega
     have lt1x1:w.heap.size+1<wr.heap.size+oc1.size:=by omega
     have lt1x2:w.heap.size+1+1<wr.heap.size+oc1.size:=by omega
     have lt1x3:w.heap.size+1+1+1<wr.heap.size+oc1.size:=by omega
     have lt1x4:w.heap.size+1+1+1+1<wr.heap.size+oc1.size:=by omega
     have lt1x5:w.heap.size+1+1+1+1+1<wr.heap.size+oc1.size:=by omega
     have lt1x6:w.heap.size+1+1+1+1+1+1<wr.heap.size+oc1.size:=by omega
     go_wp2_with fail
     generalize hW:World.alloc _ _=W51
     have R51x0:=Zq (show RowAt W51 (w.heap.size) (keyA m) by rw[←hW];clear hW;exact⟨by go_simp,by go_simp,by go_simp⟩)
     have R51x1:=Zq (show RowAt W51 (w.heap.size+1) (keyA x1) by rw[←hW];clear hW;exact⟨by go_simp,by go_simp,by go_simp⟩)
     have R51x2:=Zq (show RowAt W51 (w.heap.size+1+1) (#[.int .u8 0,.int .u8 0,.int .u8 0,.int .u8 0,.int .u8 0,.int .u8 0,.int .u8 0,.int .u8 0,.int .u8 0,.int .u8 0,.int .u8 0,.int .u8 0,.int .u8 0,.int .u8 0,.int .u8 0,.int .u8 0,.int .u8 0,.int .u8 0,.int .u8 0,.int .u8 0,.int .u8 0,.int .u8 0,.int .u8 0,.int .u8 0,.int .u8 0,.int .u8 0,.int .u8 0,.int .u8 0,.int .u8 0,.int .u8 0,.int .u8 0,.int .u8 0]) by rw[←hW];clear hW;exact⟨by go_simp,by go_simp,by go_simp⟩)
     have R51x3:=Zq (show RowAt W51 (w.heap.size+1+1+1) (keyA 1) by rw[←hW];clear hW;exact⟨by go_simp,by go_simp,by go_simp⟩)
     have R51x4:=Zq (show RowAt W51 (w.heap.size+1+1+1+1) (keyA 121665) by rw[←hW];clear hW;exact⟨by go_simp,by go_simp,by go_simp⟩)
     have R51x5:=Zq (show RowAt W51 (w.heap.size+1+1+1+1+1) (ZaD a az) by rw[←hW];clear hW;exact⟨by go_simp,by go_simp,by go_simp⟩)
     have R51x6:=Zq (show RowAt W51 (w.heap.size+1+1+1+1+1+1) (ZaD b bz) by rw[←hW];clear hW;exact⟨by go_simp,by go_simp,by go_simp⟩)
     have R51x7:=Zq (show RowAt W51 (wr.heap.size+oc1.size) (ZaD X' Z') by rw[←hW];clear hW;exact⟨by go_simp,by go_simp,by go_simp⟩)
     have HB51:=Zq (show Below w.heap.size w W51 by rw[←hW];repeat (first | apply Zag | apply Zab | apply Below.drew | refine Zad ?_ (by omega) _ | exact HB2.out))
     clear hW
     have lz51x0:w.heap.size≤wr.heap.size+oc1.size:=by have:=HB2.out.size;omega
     have nz51x0x0:¬w.heap.size=wr.heap.size+oc1.size:=by omega
     have ny51x0x0:¬wr.heap.size+oc1.size=w.heap.size:=by omega
     have nz51x0x1:¬w.heap.size+1=wr.heap.size+oc1.size:=by omega
     have ny51x0x1:¬wr.heap.size+oc1.size=w.heap.size+1:=by omega
     have nz51x0x2:¬w.heap.size+1+1=wr.heap.size+oc1.size:=by omega
     have ny51x0x2:¬wr.heap.size+oc1.size=w.heap.size+1+1:=by omega
     have nz51x0x3:¬w.heap.size+1+1+1=wr.heap.size+oc1.size:=by omega
     have ny51x0x3:¬wr.heap.size+oc1.size=w.heap.size+1+1+1:=by omega
     have nz51x0x4:¬w.heap.size+1+1+1+1=wr.heap.size+oc1.size:=by omega
     have ny51x0x4:¬wr.heap.size+oc1.size=w.heap.size+1+1+1+1:=by omega
     have nz51x0x5:¬w.heap.size+1+1+1+1+1=wr.heap.size+oc1.size:=by omega
     have ny51x0x5:¬wr.heap.size+oc1.size=w.heap.size+1+1+1+1+1:=by omega
     have nz51x0x6:¬w.heap.size+1+1+1+1+1+1=wr.heap.size+oc1.size:=by omega
     have ny51x0x6:¬wr.heap.size+oc1.size=w.heap.size+1+1+1+1+1+1:=by omega
     clear T1a T1b T1c T2a T2b T2c T3a T3b T3c T4a T4b T4c T5a T5b T5c T6a T6b T6c T7a T7b T7c T1 T2 T3 T4 T5 T6 T7 HB2
     generalize wr.heap.size+oc1.size=gs at *
     obtain⟨R51x0a,R51x0b,R51x0c⟩:=R51x0.out
     obtain⟨R51x1a,R51x1b,R51x1c⟩:=R51x1.out
     obtain⟨R51x2a,R51x2b,R51x2c⟩:=R51x2.out
     obtain⟨R51x3a,R51x3b,R51x3c⟩:=R51x3.out
     obtain⟨R51x4a,R51x4b,R51x4c⟩:=R51x4.out
     obtain⟨R51x5a,R51x5b,R51x5c⟩:=R51x5.out
     obtain⟨R51x6a,R51x6b,R51x6c⟩:=R51x6.out
     obtain⟨R51x7a,R51x7b,R51x7c⟩:=R51x7.out
     clear hc
     refine(Zfe a az X Z la laz E2.out _).mono ?_
     rintro e w' ⟨rfl,hbw⟩
     obtain⟨oc2,nc2,rfl⟩:=Zaf hbw
     clear hbw
     have lt2x0:w.heap.size<W51.heap.size+oc2.size:=by omega
     have lt2x1:w.heap.size+1<W51.heap.size+oc2.size:=by omega
     have lt2x2:w.heap.size+1+1<W51.heap.size+oc2.size:=by omega
     have lt2x3:w.heap.size+1+1+1<W51.heap.size+oc2.size:=by omega
     have lt2x4:w.heap.size+1+1+1+1<W51.heap.size+oc2.size:=by omega
     have lt2x5:w.heap.size+1+1+1+1+1<W51.heap.size+oc2.size:=by omega
     have lt2x6:w.heap.size+1+1+1+1+1+1<W51.heap.size+oc2.size:=by omega
     have lt2x7:gs<W51.heap.size+oc2.size:=by omega
     go_wp2_with fail
     generalize hW:World.plus _ _ _=W52
     have R52x0:=Zq (show RowAt W52 (w.heap.size) (keyA m) by rw[←hW];clear hW;exact⟨by go_simp,by go_simp,by go_simp⟩)
     have R52x1:=Zq (show RowAt W52 (w.heap.size+1) (keyA x1) by rw[←hW];clear hW;exact⟨by go_simp,by go_simp,by go_simp⟩)
     have R52x2:=Zq (show RowAt W52 (w.heap.size+1+1) (#[.int .u8 0,.int .u8 0,.int .u8 0,.int .u8 0,.int .u8 0,.int .u8 0,.int .u8 0,.int .u8 0,.int .u8 0,.int .u8 0,.int .u8 0,.int .u8 0,.int .u8 0,.int .u8 0,.int .u8 0,.int .u8 0,.int .u8 0,.int .u8 0,.int .u8 0,.int .u8 0,.int .u8 0,.int .u8 0,.int .u8 0,.int .u8 0,.int .u8 0,.int .u8 0,.int .u8 0,.int .u8 0,.int .u8 0,.int .u8 0,.int .u8 0,.int .u8 0]) by rw[←hW];clear hW;exact⟨by go_simp,by go_simp,by go_simp⟩)
     have R52x3:=Zq (show RowAt W52 (w.heap.size+1+1+1) (keyA 1) by rw[←hW];clear hW;exact⟨by go_simp,by go_simp,by go_simp⟩)
     have R52x4:=Zq (show RowAt W52 (w.heap.size+1+1+1+1) (keyA 121665) by rw[←hW];clear hW;exact⟨by go_simp,by go_simp,by go_simp⟩)
     have R52x5:=Zq (show RowAt W52 (w.heap.size+1+1+1+1+1) (ZaD X Z) by rw[←hW];clear hW;exact⟨by go_simp,by go_simp,by go_simp⟩)
     have R52x6:=Zq (show RowAt W52 (w.heap.size+1+1+1+1+1+1) (ZaD X' Z') by rw[←hW];clear hW;exact⟨by go_simp,by go_simp,by go_simp⟩)
     have R52x7:=Zq (show RowAt W52 (gs) (ZaD X' Z') by rw[←hW];clear hW;exact⟨by go_simp,by go_simp,by go_simp⟩)
     have HB52:=Zq (show Below w.heap.size w W52 by rw[←hW];repeat (first | apply Zag | apply Zab | apply Below.drew | refine Zad ?_ (by omega) _ | exact HB51.out))
     clear hW
     clear R51x0a R51x0b R51x0c R51x1a R51x1b R51x1c R51x2a R51x2b R51x2c R51x3a R51x3b R51x3c R51x4a R51x4b R51x4c R51x5a R51x5b R51x5c R51x6a R51x6b R51x6c R51x7a R51x7b R51x7c R51x0 R51x1 R51x2 R51x3 R51x4 R51x5 R51x6 R51x7 HB51
     obtain⟨R52x0a,R52x0b,R52x0c⟩:=R52x0.out
     obtain⟨R52x1a,R52x1b,R52x1c⟩:=R52x1.out
     obtain⟨R52x2a,R52x2b,R52x2c⟩:=R52x2.out
     obtain⟨R52x3a,R52x3b,R52x3c⟩:=R52x3.out
     obtain⟨R52x4a,R52x4b,R52x4c⟩:=R52x4.out
     obtain⟨R52x5a,R52x5b,R52x5c⟩:=R52x5.out
     obtain⟨R52x6a,R52x6b,R52x6c⟩:=R52x6.out
     obtain⟨R52x7a,R52x7b,R52x7c⟩:=R52x7.out
     go_roundw
     case rel=>exact⟨j,by omega,by go_num,R52x0.out,R52x1.out,R52x2.out,R52x3.out,R52x4.out,by rw[E4.out];exact R52x5.out,by rw[E4.out];exact R52x6.out,HB52.out⟩
     case measure=>simp[intOf]
    ·obtain⟨_,rfl,rfl,rfl,rfl⟩:=S2.resolve_left (fun h=>absurd h.1 (by decide))
     go_wp2_with fail
     refine(ZkB a az b bz x1 X Z la laz lb lbz hx1 E3.out _).mono ?_
     rintro e w' ⟨rfl,hbw⟩
     obtain⟨oc3,nc3,rfl⟩:=Zaf hbw
     clear hbw
     have lt3x0:w.heap.size<wr.heap.size+oc3.size:=by omega
     have lt3x1:w.heap.size+1<wr.heap.size+oc3.size:=by omega
     have lt3x2:w.heap.size+1+1<wr.heap.size+oc3.size:=by omega
     have lt3x3:w.heap.size+1+1+1<wr.heap.size+oc3.size:=by omega
     have lt3x4:w.heap.size+1+1+1+1<wr.heap.size+oc3.size:=by omega
     have lt3x5:w.heap.size+1+1+1+1+1<wr.heap.size+oc3.size:=by omega
     have lt3x6:w.heap.size+1+1+1+1+1+1<wr.heap.size+oc3.size:=by omega
     go_wp2_with fail
     generalize hW:World.alloc _ _=W71
     have R71x0:=Zq (show RowAt W71 (w.heap.size) (keyA m) by rw[←hW];clear hW;exact⟨by go_simp,by go_simp,by go_simp⟩)
     have R71x1:=Zq (show RowAt W71 (w.heap.size+1) (keyA x1) by rw[←hW];clear hW;exact⟨by go_simp,by go_simp,by go_simp⟩)
     have R71x2:=Zq (show RowAt W71 (w.heap.size+1+1) (#[.int .u8 0,.int .u8 0,.int .u8 0,.int .u8 0,.int .u8 0,.int .u8 0,.int .u8 0,.int .u8 0,.int .u8 0,.int .u8 0,.int .u8 0,.int .u8 0,.int .u8 0,.int .u8 0,.int .u8 0,.int .u8 0,.int .u8 0,.int .u8 0,.int .u8 0,.int .u8 0,.int .u8 0,.int .u8 0,.int .u8 0,.int .u8 0,.int .u8 0,.int .u8 0,.int .u8 0,.int .u8 0,.int .u8 0,.int .u8 0,.int .u8 0,.int .u8 0]) by rw[←hW];clear hW;exact⟨by go_simp,by go_simp,by go_simp⟩)
     have R71x3:=Zq (show RowAt W71 (w.heap.size+1+1+1) (keyA 1) by rw[←hW];clear hW;exact⟨by go_simp,by go_simp,by go_simp⟩)
     have R71x4:=Zq (show RowAt W71 (w.heap.size+1+1+1+1) (keyA 121665) by rw[←hW];clear hW;exact⟨by go_simp,by go_simp,by go_simp⟩)
     have R71x5:=Zq (show RowAt W71 (w.heap.size+1+1+1+1+1) (ZaD b bz) by rw[←hW];clear hW;exact⟨by go_simp,by go_simp,by go_simp⟩)
     have R71x6:=Zq (show RowAt W71 (w.heap.size+1+1+1+1+1+1) (ZaD a az) by rw[←hW];clear hW;exact⟨by go_simp,by go_simp,by go_simp⟩)
     have R71x7:=Zq (show RowAt W71 (wr.heap.size+oc3.size) (ZaD X Z) by rw[←hW];clear hW;exact⟨by go_simp,by go_simp,by go_simp⟩)
     have HB71:=Zq (show Below w.heap.size w W71 by rw[←hW];repeat (first | apply Zag | apply Zab | apply Below.drew | refine Zad ?_ (by omega) _ | exact HB2.out))
     clear hW
     have lz71x0:w.heap.size≤wr.heap.size+oc3.size:=by have:=HB2.out.size;omega
     have nz71x0x0:¬w.heap.size=wr.heap.size+oc3.size:=by omega
     have ny71x0x0:¬wr.heap.size+oc3.size=w.heap.size:=by omega
     have nz71x0x1:¬w.heap.size+1=wr.heap.size+oc3.size:=by omega
     have ny71x0x1:¬wr.heap.size+oc3.size=w.heap.size+1:=by omega
     have nz71x0x2:¬w.heap.size+1+1=wr.heap.size+oc3.size:=by omega
     have ny71x0x2:¬wr.heap.size+oc3.size=w.heap.size+1+1:=by omega
     have nz71x0x3:¬w.heap.size+1+1+1=wr.heap.size+oc3.size:=by omega
     have ny71x0x3:¬wr.heap.size+oc3.size=w.heap.size+1+1+1:=by omega
     have nz71x0x4:¬w.heap.size+1+1+1+1=wr.heap.size+oc3.size:=by omega
     have ny71x0x4:¬wr.heap.size+oc3.size=w.heap.size+1+1+1+1:=by omega
     have nz71x0x5:¬w.heap.size+1+1+1+1+1=wr.heap.size+oc3.size:=by omega
     have ny71x0x5:¬wr.heap.size+oc3.size=w.heap.size+1+1+1+1+1:=by omega
     have nz71x0x6:¬w.heap.size+1+1+1+1+1+1=wr.heap.size+oc3.size:=by omega
     have ny71x0x6:¬wr.heap.size+oc3.size=w.heap.size+1+1+1+1+1+1:=by omega
     clear T1a T1b T1c T2a T2b T2c T3a T3b T3c T4a T4b T4c T5a T5b T5c T6a T6b T6c T7a T7b T7c T1 T2 T3 T4 T5 T6 T7 HB2
     generalize wr.heap.size+oc3.size=gs at *
     obtain⟨R71x0a,R71x0b,R71x0c⟩:=R71x0.out
     obtain⟨R71x1a,R71x1b,R71x1c⟩:=R71x1.out
     obtain⟨R71x2a,R71x2b,R71x2c⟩:=R71x2.out
     obtain⟨R71x3a,R71x3b,R71x3c⟩:=R71x3.out
     obtain⟨R71x4a,R71x4b,R71x4c⟩:=R71x4.out
     obtain⟨R71x5a,R71x5b,R71x5c⟩:=R71x5.out
     obtain⟨R71x6a,R71x6b,R71x6c⟩:=R71x6.out
     obtain⟨R71x7a,R71x7b,R71x7c⟩:=R71x7.out
     clear hc
     refine(Zfe a az X' Z' la laz E2.out _).mono ?_
     rintro e w' ⟨rfl,hbw⟩
     obtain⟨oc4,nc4,rfl⟩:=Zaf hbw
     clear hbw
     have lt4x0:w.heap.size<W71.heap.size+oc4.size:=by omega
     have lt4x1:w.heap.size+1<W71.heap.size+oc4.size:=by omega
     have lt4x2:w.heap.size+1+1<W71.heap.size+oc4.size:=by omega
     have lt4x3:w.heap.size+1+1+1<W71.heap.size+oc4.size:=by omega
     have lt4x4:w.heap.size+1+1+1+1<W71.heap.size+oc4.size:=by omega
     have lt4x5:w.heap.size+1+1+1+1+1<W71.heap.size+oc4.size:=by omega
     have lt4x6:w.heap.size+1+1+1+1+1+1<W71.heap.size+oc4.size:=by omega
     have lt4x7:gs<W71.heap.size+oc4.size:=by omega
     go_wp2_with fail
     generalize hW:World.plus _ _ _=W72
     have R72x0:=Zq (show RowAt W72 (w.heap.size) (keyA m) by rw[←hW];clear hW;exact⟨by go_simp,by go_simp,by go_simp⟩)
     have R72x1:=Zq (show RowAt W72 (w.heap.size+1) (keyA x1) by rw[←hW];clear hW;exact⟨by go_simp,by go_simp,by go_simp⟩)
     have R72x2:=Zq (show RowAt W72 (w.heap.size+1+1) (#[.int .u8 0,.int .u8 0,.int .u8 0,.int .u8 0,.int .u8 0,.int .u8 0,.int .u8 0,.int .u8 0,.int .u8 0,.int .u8 0,.int .u8 0,.int .u8 0,.int .u8 0,.int .u8 0,.int .u8 0,.int .u8 0,.int .u8 0,.int .u8 0,.int .u8 0,.int .u8 0,.int .u8 0,.int .u8 0,.int .u8 0,.int .u8 0,.int .u8 0,.int .u8 0,.int .u8 0,.int .u8 0,.int .u8 0,.int .u8 0,.int .u8 0,.int .u8 0]) by rw[←hW];clear hW;exact⟨by go_simp,by go_simp,by go_simp⟩)
     have R72x3:=Zq (show RowAt W72 (w.heap.size+1+1+1) (keyA 1) by rw[←hW];clear hW;exact⟨by go_simp,by go_simp,by go_simp⟩)
     have R72x4:=Zq (show RowAt W72 (w.heap.size+1+1+1+1) (keyA 121665) by rw[←hW];clear hW;exact⟨by go_simp,by go_simp,by go_simp⟩)
     have R72x5:=Zq (show RowAt W72 (w.heap.size+1+1+1+1+1) (ZaD X Z) by rw[←hW];clear hW;exact⟨by go_simp,by go_simp,by go_simp⟩)
     have R72x6:=Zq (show RowAt W72 (w.heap.size+1+1+1+1+1+1) (ZaD X' Z') by rw[←hW];clear hW;exact⟨by go_simp,by go_simp,by go_simp⟩)
     have R72x7:=Zq (show RowAt W72 (gs) (ZaD X Z) by rw[←hW];clear hW;exact⟨by go_simp,by go_simp,by go_simp⟩)
     have HB72:=Zq (show Below w.heap.size w W72 by rw[←hW];repeat (first | apply Zag | apply Zab | apply Below.drew | refine Zad ?_ (by omega) _ | exact HB71.out))
     clear hW
     clear R71x0a R71x0b R71x0c R71x1a R71x1b R71x1c R71x2a R71x2b R71x2c R71x3a R71x3b R71x3c R71x4a R71x4b R71x4c R71x5a R71x5b R71x5c R71x6a R71x6b R71x6c R71x7a R71x7b R71x7c R71x0 R71x1 R71x2 R71x3 R71x4 R71x5 R71x6 R71x7 HB71
     obtain⟨R72x0a,R72x0b,R72x0c⟩:=R72x0.out
     obtain⟨R72x1a,R72x1b,R72x1c⟩:=R72x1.out
     obtain⟨R72x2a,R72x2b,R72x2c⟩:=R72x2.out
     obtain⟨R72x3a,R72x3b,R72x3c⟩:=R72x3.out
     obtain⟨R72x4a,R72x4b,R72x4c⟩:=R72x4.out
     obtain⟨R72x5a,R72x5b,R72x5c⟩:=R72x5.out
     obtain⟨R72x6a,R72x6b,R72x6c⟩:=R72x6.out
     obtain⟨R72x7a,R72x7b,R72x7c⟩:=R72x7.out
     go_roundw
     case rel=>exact⟨j,by omega,by go_num,R72x0.out,R72x1.out,R72x2.out,R72x3.out,R72x4.out,by rw[E4.out];exact R72x5.out,by rw[E4.out];exact R72x6.out,HB72.out⟩
     case measure=>simp[intOf]
 ·go_wp2_with fail
  generalize hW:World.drew _=W1
  have R1x0:=Zq (show RowAt W1 (w.heap.size) (keyA m) by rw[←hW];clear hW;exact⟨by go_simp,by go_simp,by go_simp⟩)
  have R1x1:=Zq (show RowAt W1 (w.heap.size+1) (keyA x1) by rw[←hW];clear hW;exact⟨by go_simp,by go_simp,by go_simp⟩)
  have R1x2:=Zq (show RowAt W1 (w.heap.size+1+1) (#[.int .u8 0,.int .u8 0,.int .u8 0,.int .u8 0,.int .u8 0,.int .u8 0,.int .u8 0,.int .u8 0,.int .u8 0,.int .u8 0,.int .u8 0,.int .u8 0,.int .u8 0,.int .u8 0,.int .u8 0,.int .u8 0,.int .u8 0,.int .u8 0,.int .u8 0,.int .u8 0,.int .u8 0,.int .u8 0,.int .u8 0,.int .u8 0,.int .u8 0,.int .u8 0,.int .u8 0,.int .u8 0,.int .u8 0,.int .u8 0,.int .u8 0,.int .u8 0]) by rw[←hW];clear hW;exact⟨by go_simp,by go_simp,by go_simp⟩)
  have R1x3:=Zq (show RowAt W1 (w.heap.size+1+1+1) (keyA 1) by rw[←hW];clear hW;exact⟨by go_simp,by go_simp,by go_simp⟩)
  have R1x4:=Zq (show RowAt W1 (w.heap.size+1+1+1+1) (keyA 121665) by rw[←hW];clear hW;exact⟨by go_simp,by go_simp,by go_simp⟩)
  have R1x5:=Zq (show RowAt W1 (w.heap.size+1+1+1+1+1+1) (ZaD 1 0) by rw[←hW];clear hW;exact⟨by go_simp,by go_simp,by go_simp⟩)
  have R1x6:=Zq (show RowAt W1 (w.heap.size+1+1+1+1+1) (ZaD x1 1) by rw[←hW];clear hW;exact⟨by go_simp,by go_simp,by go_simp⟩)
  have HB1:=Zq (show Below w.heap.size w W1 by rw[←hW];repeat (first | apply Zag | apply Zab | apply Below.drew | refine Zad ?_ (by omega) _ | exact Below.refl _ _))
  clear hW
  obtain⟨R1x0a,R1x0b,R1x0c⟩:=R1x0.out
  obtain⟨R1x1a,R1x1b,R1x1c⟩:=R1x1.out
  obtain⟨R1x2a,R1x2b,R1x2c⟩:=R1x2.out
  obtain⟨R1x3a,R1x3b,R1x3c⟩:=R1x3.out
  obtain⟨R1x4a,R1x4b,R1x4c⟩:=R1x4.out
  obtain⟨R1x5a,R1x5b,R1x5c⟩:=R1x5.out
  obtain⟨R1x6a,R1x6b,R1x6c⟩:=R1x6.out
  clear hk1 hk2
  go_loopw [9] (fun i w'=>∃ (k:Nat),k≤255∧i=.int .i64 ((k:Int)-1)∧RowAt w' w.heap.size (keyA m)∧RowAt w' (w.heap.size+1) (keyA x1)∧RowAt w' (w.heap.size+1+1) #[.int .u8 0,.int .u8 0,.int .u8 0,.int .u8 0,.int .u8 0,.int .u8 0,.int .u8 0,.int .u8 0,.int .u8 0,.int .u8 0,.int .u8 0,.int .u8 0,.int .u8 0,.int .u8 0,.int .u8 0,.int .u8 0,.int .u8 0,.int .u8 0,.int .u8 0,.int .u8 0,.int .u8 0,.int .u8 0,.int .u8 0,.int .u8 0,.int .u8 0,.int .u8 0,.int .u8 0,.int .u8 0,.int .u8 0,.int .u8 0,.int .u8 0,.int .u8 0]∧RowAt w' (w.heap.size+1+1+1) (keyA 1)∧RowAt w' (w.heap.size+1+1+1+1) (keyA 121665) ∧
   RowAt w' (w.heap.size+1+1+1+1+1+1) (ZaD (Cv.nlad x1 m (255-k)).1.1 (Cv.nlad x1 m (255-k)).1.2)∧RowAt w' (w.heap.size+1+1+1+1+1) (ZaD (Cv.nlad x1 m (255-k)).2.1 (Cv.nlad x1 m (255-k)).2.2)∧Below w.heap.size w w') (fun i _=>(intOf i+1).toNat)
  case atStart=>exact⟨255,Nat.le_refl _,rfl,R1x0.out,R1x1.out,R1x2.out,R1x3.out,R1x4.out,R1x5.out,R1x6.out,HB1.out⟩
  case round =>
   clear R1x0a R1x0b R1x0c R1x0 R1x1a R1x1b R1x1c R1x1 R1x2a R1x2b R1x2c R1x2 R1x3a R1x3b R1x3c R1x3 R1x4a R1x4b R1x4c R1x4 R1x5a R1x5b R1x5c R1x5 R1x6a R1x6b R1x6c R1x6 HB1
   obtain⟨k,hk,rfl,Q1,Q2,Q3,Q4,Q5,Q6,Q7,HB⟩:=hrel
   have T1:=Zq Q1
   have T2:=Zq Q2
   have T3:=Zq Q3
   have T4:=Zq Q4
   have T5:=Zq Q5
   have HB2:=Zq HB
   clear HB
   obtain⟨T1a,T1b,T1c⟩:=Q1
   obtain⟨T2a,T2b,T2c⟩:=Q2
   obtain⟨T3a,T3b,T3c⟩:=Q3
   obtain⟨T4a,T4b,T4c⟩:=Q4
   obtain⟨T5a,T5b,T5c⟩:=Q5
   rcases Nat.eq_zero_or_pos k with rfl | hpos
   ·have hs:=Cv.small_lad x1 m hx1 255
    rw[Nat.sub_zero] at Q6 Q7
    obtain⟨s,hq⟩:∃s,Cv.nlad x1 m 255=s:=⟨_,rfl⟩
    rw[hq] at Q6 Q7 hs
    obtain⟨⟨x2,z2⟩,q⟩:=s
    have hx2:x2<115792089237316195423570985008687907853269984665640564039457584007913129639936:=hs.1
    have hz2:z2<115792089237316195423570985008687907853269984665640564039457584007913129639936:=hs.2.1
    obtain⟨i,ei⟩:∃y,y=z2^Fp.E%Fp.P:=⟨_,rfl⟩
    have li:i<115792089237316195423570985008687907853269984665640564039457584007913129639936:=by rw[ei];exact mod_lt _
    obtain⟨r,er⟩:∃y,y=Cv.nmul x2 i:=⟨_,rfl⟩
    have Hi:=Zq ei.symm
    have Hr:=Zq er.symm
    have Hres:Hid (Cv.nT m x1=r):=by
     show _=_
     rw[er,ei];unfold Cv.nT;rw[hq]
    clear ei er hq hs
    have T6:=Zq Q6
    have T7:=Zq Q7
    obtain⟨T6a,T6b,T6c⟩:=Q6
    obtain⟨T7a,T7b,T7c⟩:=Q7
    go_wp2_with fail
    refine Zal wr [0,1,2,3,4,5] [false,false,false,false,false,false] [] [] 6 (by kernel_rfl) rfl (by kernel_rfl) (by intro c a d v w h;cases d<;>exact h) ((Below.refl _ _).drew) ?_
    simp only[pick,List.getElem?_cons_succ,List.getElem?_cons_zero,List.drop_succ_cons,List.drop_zero]
    refine Zac (Zaa rfl) (by intro K o d hK;go_simp;exact hK _ (Below.refl _ _)) ?_
    refine Zac (Zaa rfl) (by intro K o d hK;go_simp;exact hK _ (Below.refl _ _)) ?_
    refine Zac (Zaa rfl) (by intro K o d hK;go_simp;exact hK _ (Below.refl _ _)) ?_
    refine Zac (Zaa rfl) (by intro K o d hK;go_simp;exact hK _ (Below.refl _ _)) ?_
    refine Zai (v:=kv i) (Zaa rfl) (by intro K o d hK;go_simp;refine(Zq5 z2 i hz2 Hi.out _).mono ?_;rintro e w' ⟨rfl,hbw⟩;exact⟨_,rfl,hK _ hbw⟩) ?_
    refine Zai (v:=kv r) (Zaa rfl) (by intro K o d hK;go_simp;refine(Zck x2 i r hx2 li Hr.out _).mono ?_;rintro e w' ⟨rfl,hbw⟩;exact⟨_,rfl,hK _ hbw⟩) ?_
    refine Zan ?_
    intro w31 hb31 hblk31
    have A31x0:=T1.out.grow hb31
    have c31x0:=T1.out.2.2
    have A31x1:=T2.out.grow hb31
    have c31x1:=T2.out.2.2
    have A31x2:=T3.out.grow hb31
    have c31x2:=T3.out.2.2
    have A31x3:=T4.out.grow hb31
    have c31x3:=T4.out.2.2
    have A31x4:=T5.out.grow hb31
    have c31x4:=T5.out.2.2
    have A31x5:=T6.out.grow hb31
    have c31x5:=T6.out.2.2
    have A31x6:=T7.out.grow hb31
    have c31x6:=T7.out.2.2
    have B31x0:=HB2.out.trans (hb31.mono HB2.out.size)
    have s31:=HB2.out.size
    have P31x0x0:=A31x0.other (show w.heap.size≠w.heap.size+1+1 by omega) (keyA r)
    have P31x0x1:=A31x1.other (show w.heap.size+1≠w.heap.size+1+1 by omega) (keyA r)
    have P31x0x2:=A31x2.set (keyA r)
    have P31x0x3:=A31x3.other (show w.heap.size+1+1+1≠w.heap.size+1+1 by omega) (keyA r)
    have P31x0x4:=A31x4.other (show w.heap.size+1+1+1+1≠w.heap.size+1+1 by omega) (keyA r)
    have P31x0x5:=A31x5.other (show w.heap.size+1+1+1+1+1+1≠w.heap.size+1+1 by omega) (keyA r)
    have P31x0x6:=A31x6.other (show w.heap.size+1+1+1+1+1≠w.heap.size+1+1 by omega) (keyA r)
    have B31x1:=Zad B31x0 (show w.heap.size≤w.heap.size+1+1 by omega) (keyA r)
    have Z31x0:=Zq P31x0x0
    have Z31x1:=Zq P31x0x1
    have Z31x2:=Zq P31x0x2
    have Z31x3:=Zq P31x0x3
    have Z31x4:=Zq P31x0x4
    have Z31x5:=Zq P31x0x5
    have Z31x6:=Zq P31x0x6
    have HB31:=Zq B31x1
    clear hb31 hblk31 HB2 s31 T1a T1b T1c T2a T2b T2c T3a T3b T3c T4a T4b T4c T5a T5b T5c T6a T6b T6c T7a T7b T7c T1 T2 T3 T4 T5 T6 T7 c31x0 c31x1 c31x2 c31x3 c31x4 c31x5 c31x6 B31x0 B31x1 P31x0x0 P31x0x1 P31x0x2 P31x0x3 P31x0x4 P31x0x5 P31x0x6
    obtain⟨A31x0a,A31x0b,A31x0c⟩:=A31x0
    obtain⟨A31x1a,A31x1b,A31x1c⟩:=A31x1
    obtain⟨A31x2a,A31x2b,A31x2c⟩:=A31x2
    obtain⟨A31x3a,A31x3b,A31x3c⟩:=A31x3
    obtain⟨A31x4a,A31x4b,A31x4c⟩:=A31x4
    obtain⟨A31x5a,A31x5b,A31x5c⟩:=A31x5
    obtain⟨A31x6a,A31x6b,A31x6c⟩:=A31x6
    go_wp2_with fail
    clear A31x0a A31x0b A31x0c A31x1a A31x1b A31x1c A31x2a A31x2b A31x2c A31x3a A31x3b A31x3c A31x4a A31x4b A31x4c A31x5a A31x5b A31x5c A31x6a A31x6b A31x6c
    generalize World.setRow _ _ _=W32 at *
    obtain⟨Z31x0a,Z31x0b,Z31x0c⟩:=Z31x0.out
    obtain⟨Z31x1a,Z31x1b,Z31x1c⟩:=Z31x1.out
    obtain⟨Z31x2a,Z31x2b,Z31x2c⟩:=Z31x2.out
    obtain⟨Z31x3a,Z31x3b,Z31x3c⟩:=Z31x3.out
    obtain⟨Z31x4a,Z31x4b,Z31x4c⟩:=Z31x4.out
    obtain⟨Z31x5a,Z31x5b,Z31x5c⟩:=Z31x5.out
    obtain⟨Z31x6a,Z31x6b,Z31x6c⟩:=Z31x6.out
    refine bodyPost_ret (v:=kv r) (Zav Tryz.results77 _ _ _ rfl (by go_simp) (by go_simp)) rfl ⟨by rw[Hres.out],HB31.out⟩
   ·obtain⟨j,rfl⟩:∃j,k=j+1:=⟨k-1,by omega⟩
    rw[show (((j+1:Nat):Int)-1)=(j:Int) by omega]
    have hj0:(0:Int)≤j:=by omega
    have hj1:(j:Int)≤254:=by omega
    have hc:=T1.out.cellAt (j/8) (keyA_get m (j/8) (by omega))
    obtain⟨sv,x2,z2,x3,z3,a,az,b,bz,t,tz,u,uz,X,Z,X',Z',e1,hbit0,S1,e2,e3,S2,e4,la,laz,lb,lbz⟩:=Cv.round_num x1 m j hx1 (by omega)
    rw[e1] at Q6 Q7
    have hbit:(bt m (j/8)/2^(j%8)).tmod 2=sv:=by rw[←hbit0];exact(Cv.bit_mod m j).symm
    clear hbit0
    have E2:=Zq e2
    have E3:=Zq e3
    have E4:=Zq e4
    have T6:=Zq Q6
    have T7:=Zq Q7
    clear e1 e2 e3 e4
    obtain⟨T6a,T6b,T6c⟩:=Q6
    obtain⟨T7a,T7b,T7c⟩:=Q7
    rcases S1 with ⟨rfl,rfl,rfl,rfl,rfl⟩ | ⟨rfl,rfl,rfl,rfl,rfl⟩
    ·obtain⟨_,rfl,rfl,rfl,rfl⟩:=S2.resolve_right (fun h=>absurd h.1 (by decide))
     go_wp2_with fail
     refine(ZkB a az b bz x1 X' Z' la laz lb lbz hx1 E3.out _).mono ?_
     rintro e w' ⟨rfl,hbw⟩
     obtain⟨oc5,nc5,rfl⟩:=Zaf hbw
     clear hbw
     have lt5x0:w.heap.size<wr.heap.size+oc5.size:=by omega
     have lt5x1:w.heap.size+1<wr.heap.size+oc5.size:=by omega
     have lt5x2:w.heap.size+1+1<wr.heap.size+oc5.size:=by omega
     have lt5x3:w.heap.size+1+1+1<wr.heap.size+oc5.size:=by omega
     have lt5x4:w.heap.size+1+1+1+1<wr.heap.size+oc5.size:=by omega
     have lt5x5:w.heap.size+1+1+1+1+1+1<wr.heap.size+oc5.size:=by omega
     have lt5x6:w.heap.size+1+1+1+1+1<wr.heap.size+oc5.size:=by omega
     go_wp2_with fail
     generalize hW:World.alloc _ _=W51
     have R51x0:=Zq (show RowAt W51 (w.heap.size) (keyA m) by rw[←hW];clear hW;exact⟨by go_simp,by go_simp,by go_simp⟩)
     have R51x1:=Zq (show RowAt W51 (w.heap.size+1) (keyA x1) by rw[←hW];clear hW;exact⟨by go_simp,by go_simp,by go_simp⟩)
     have R51x2:=Zq (show RowAt W51 (w.heap.size+1+1) (#[.int .u8 0,.int .u8 0,.int .u8 0,.int .u8 0,.int .u8 0,.int .u8 0,.int .u8 0,.int .u8 0,.int .u8 0,.int .u8 0,.int .u8 0,.int .u8 0,.int .u8 0,.int .u8 0,.int .u8 0,.int .u8 0,.int .u8 0,.int .u8 0,.int .u8 0,.int .u8 0,.int .u8 0,.int .u8 0,.int .u8 0,.int .u8 0,.int .u8 0,.int .u8 0,.int .u8 0,.int .u8 0,.int .u8 0,.int .u8 0,.int .u8 0,.int .u8 0]) by rw[←hW];clear hW;exact⟨by go_simp,by go_simp,by go_simp⟩)
     have R51x3:=Zq (show RowAt W51 (w.heap.size+1+1+1) (keyA 1) by rw[←hW];clear hW;exact⟨by go_simp,by go_simp,by go_simp⟩)
     have R51x4:=Zq (show RowAt W51 (w.heap.size+1+1+1+1) (keyA 121665) by rw[←hW];clear hW;exact⟨by go_simp,by go_simp,by go_simp⟩)
     have R51x5:=Zq (show RowAt W51 (w.heap.size+1+1+1+1+1+1) (ZaD a az) by rw[←hW];clear hW;exact⟨by go_simp,by go_simp,by go_simp⟩)
     have R51x6:=Zq (show RowAt W51 (w.heap.size+1+1+1+1+1) (ZaD b bz) by rw[←hW];clear hW;exact⟨by go_simp,by go_simp,by go_simp⟩)
     have R51x7:=Zq (show RowAt W51 (wr.heap.size+oc5.size) (ZaD X' Z') by rw[←hW];clear hW;exact⟨by go_simp,by go_simp,by go_simp⟩)
     have HB51:=Zq (show Below w.heap.size w W51 by rw[←hW];repeat (first | apply Zag | apply Zab | apply Below.drew | refine Zad ?_ (by omega) _ | exact HB2.out))
     clear hW
     have lz51x0:w.heap.size≤wr.heap.size+oc5.size:=by have:=HB2.out.size;omega
     have nz51x0x0:¬w.heap.size=wr.heap.size+oc5.size:=by omega
     have ny51x0x0:¬wr.heap.size+oc5.size=w.heap.size:=by omega
     have nz51x0x1:¬w.heap.size+1=wr.heap.size+oc5.size:=by omega
     have ny51x0x1:¬wr.heap.size+oc5.size=w.heap.size+1:=by omega
     have nz51x0x2:¬w.heap.size+1+1=wr.heap.size+oc5.size:=by omega
     have ny51x0x2:¬wr.heap.size+oc5.size=w.heap.size+1+1:=by omega
     have nz51x0x3:¬w.heap.size+1+1+1=wr.heap.size+oc5.size:=by omega
     have ny51x0x3:¬wr.heap.size+oc5.size=w.heap.size+1+1+1:=by omega
     have nz51x0x4:¬w.heap.size+1+1+1+1=wr.heap.size+oc5.size:=by omega
     have ny51x0x4:¬wr.heap.size+oc5.size=w.heap.size+1+1+1+1:=by omega
     have nz51x0x5:¬w.heap.size+1+1+1+1+1+1=wr.heap.size+oc5.size:=by omega
     have ny51x0x5:¬wr.heap.size+oc5.size=w.heap.size+1+1+1+1+1+1:=by omega
     have nz51x0x6:¬w.heap.size+1+1+1+1+1=wr.heap.size+oc5.size:=by omega
     have ny51x0x6:¬wr.heap.size+oc5.size=w.heap.size+1+1+1+1+1:=by omega
     clear T1a T1b T1c T2a T2b T2c T3a T3b T3c T4a T4b T4c T5a T5b T5c T6a T6b T6c T7a T7b T7c T1 T2 T3 T4 T5 T6 T7 HB2
     generalize wr.heap.size+oc5.size=gs at *
     obtain⟨R51x0a,R51x0b,R51x0c⟩:=R51x0.out
     obtain⟨R51x1a,R51x1b,R51x1c⟩:=R51x1.out
     obtain⟨R51x2a,R51x2b,R51x2c⟩:=R51x2.out
     obtain⟨R51x3a,R51x3b,R51x3c⟩:=R51x3.out
     obtain⟨R51x4a,R51x4b,R51x4c⟩:=R51x4.out
     obtain⟨R51x5a,R51x5b,R51x5c⟩:=R51x5.out
     obtain⟨R51x6a,R51x6b,R51x6c⟩:=R51x6.out
     obtain⟨R51x7a,R51x7b,R51x7c⟩:=R51x7.out
     clear hc
     refine(Zfe a az X Z la laz E2.out _).mono ?_
     rintro e w' ⟨rfl,hbw⟩
     obtain⟨oc6,nc6,rfl⟩:=Zaf hbw
     clear hbw
     have lt6x0:w.heap.size<W51.heap.size+oc6.size:=by omega
     have lt6x1:w.heap.size+1<W51.heap.size+oc6.size:=by omega
     have lt6x2:w.heap.size+1+1<W51.heap.size+oc6.size:=by omega
     have lt6x3:w.heap.size+1+1+1<W51.heap.size+oc6.size:=by omega
     have lt6x4:w.heap.size+1+1+1+1<W51.heap.size+oc6.size:=by omega
     have lt6x5:w.heap.size+1+1+1+1+1+1<W51.heap.size+oc6.size:=by omega
     have lt6x6:w.heap.size+1+1+1+1+1<W51.heap.size+oc6.size:=by omega
     have lt6x7:gs<W51.heap.size+oc6.size:=by omega
     go_wp2_with fail
     generalize hW:World.plus _ _ _=W52
     have R52x0:=Zq (show RowAt W52 (w.heap.size) (keyA m) by rw[←hW];clear hW;exact⟨by go_simp,by go_simp,by go_simp⟩)
     have R52x1:=Zq (show RowAt W52 (w.heap.size+1) (keyA x1) by rw[←hW];clear hW;exact⟨by go_simp,by go_simp,by go_simp⟩)
     have R52x2:=Zq (show RowAt W52 (w.heap.size+1+1) (#[.int .u8 0,.int .u8 0,.int .u8 0,.int .u8 0,.int .u8 0,.int .u8 0,.int .u8 0,.int .u8 0,.int .u8 0,.int .u8 0,.int .u8 0,.int .u8 0,.int .u8 0,.int .u8 0,.int .u8 0,.int .u8 0,.int .u8 0,.int .u8 0,.int .u8 0,.int .u8 0,.int .u8 0,.int .u8 0,.int .u8 0,.int .u8 0,.int .u8 0,.int .u8 0,.int .u8 0,.int .u8 0,.int .u8 0,.int .u8 0,.int .u8 0,.int .u8 0]) by rw[←hW];clear hW;exact⟨by go_simp,by go_simp,by go_simp⟩)
     have R52x3:=Zq (show RowAt W52 (w.heap.size+1+1+1) (keyA 1) by rw[←hW];clear hW;exact⟨by go_simp,by go_simp,by go_simp⟩)
     have R52x4:=Zq (show RowAt W52 (w.heap.size+1+1+1+1) (keyA 121665) by rw[←hW];clear hW;exact⟨by go_simp,by go_simp,by go_simp⟩)
     have R52x5:=Zq (show RowAt W52 (w.heap.size+1+1+1+1+1+1) (ZaD X Z) by rw[←hW];clear hW;exact⟨by go_simp,by go_simp,by go_simp⟩)
     have R52x6:=Zq (show RowAt W52 (w.heap.size+1+1+1+1+1) (ZaD X' Z') by rw[←hW];clear hW;exact⟨by go_simp,by go_simp,by go_simp⟩)
     have R52x7:=Zq (show RowAt W52 (gs) (ZaD X' Z') by rw[←hW];clear hW;exact⟨by go_simp,by go_simp,by go_simp⟩)
     have HB52:=Zq (show Below w.heap.size w W52 by rw[←hW];repeat (first | apply Zag | apply Zab | apply Below.drew | refine Zad ?_ (by omega) _ | exact HB51.out))
     clear hW
     clear R51x0a R51x0b R51x0c R51x1a R51x1b R51x1c R51x2a R51x2b R51x2c R51x3a R51x3b R51x3c R51x4a R51x4b R51x4c R51x5a R51x5b R51x5c R51x6a R51x6b R51x6c R51x7a R51x7b R51x7c R51x0 R51x1 R51x2 R51x3 R51x4 R51x5 R51x6 R51x7 HB51
     obtain⟨R52x0a,R52x0b,R52x0c⟩:=R52x0.out
     obtain⟨R52x1a,R52x1b,R52x1c⟩:=R52x1.out
     obtain⟨R52x2a,R52x2b,R52x2c⟩:=R52x2.out
     obtain⟨R52x3a,R52x3b,R52x3c⟩:=R52x3.out
     obtain⟨R52x4a,R52x4b,R52x4c⟩:=R52x4.out
     obtain⟨R52x5a,R52x5b,R52x5c⟩:=R52x5.out
     obtain⟨R52x6a,R52x6b,R52x6c⟩:=R52x6.out
     obtain⟨R52x7a,R52x7b,R52x7c⟩:=R52x7.out
     go_roundw
     case rel=>exact⟨j,by omega,by go_num,R52x0.out,R52x1.out,R52x2.out,R52x3.out,R52x4.out,by rw[E4.out];exact R52x5.out,by rw[E4.out];exact R52x6.out,HB52.out⟩
     case measure=>simp[intOf]
    ·obtain⟨_,rfl,rfl,rfl,rfl⟩:=S2.resolve_left (fun h=>absurd h.1 (by decide))
     go_wp2_with fail
     refine(ZkB a az b bz x1 X Z la laz lb lbz hx1 E3.out _).mono ?_
     rintro e w' ⟨rfl,hbw⟩
     obtain⟨oc7,nc7,rfl⟩:=Zaf hbw
     clear hbw
     have lt7x0:w.heap.size<wr.heap.size+oc7.size:=by omega
     have lt7x1:w.heap.size+1<wr.heap.size+oc7.size:=by omega
     have lt7x2:w.heap.size+1+1<wr.heap.size+oc7.size:=by omega
     have lt7x3:w.heap.size+1+1+1<wr.heap.size+oc7.size:=by omega
     have lt7x4:w.heap.size+1+1+1+1<wr.heap.size+oc7.size:=by omega
     have lt7x5:w.heap.size+1+1+1+1+1+1<wr.heap.size+oc7.size:=by omega
     have lt7x6:w.heap.size+1+1+1+1+1<wr.heap.size+oc7.size:=by omega
     go_wp2_with fail
     generalize hW:World.alloc _ _=W71
     have R71x0:=Zq (show RowAt W71 (w.heap.size) (keyA m) by rw[←hW];clear hW;exact⟨by go_simp,by go_simp,by go_simp⟩)
     have R71x1:=Zq (show RowAt W71 (w.heap.size+1) (keyA x1) by rw[←hW];clear hW;exact⟨by go_simp,by go_simp,by go_simp⟩)
     have R71x2:=Zq (show RowAt W71 (w.heap.size+1+1) (#[.int .u8 0,.int .u8 0,.int .u8 0,.int .u8 0,.int .u8 0,.int .u8 0,.int .u8 0,.int .u8 0,.int .u8 0,.int .u8 0,.int .u8 0,.int .u8 0,.int .u8 0,.int .u8 0,.int .u8 0,.int .u8 0,.int .u8 0,.int .u8 0,.int .u8 0,.int .u8 0,.int .u8 0,.int .u8 0,.int .u8 0,.int .u8 0,.int .u8 0,.int .u8 0,.int .u8 0,.int .u8 0,.int .u8 0,.int .u8 0,.int .u8 0,.int .u8 0]) by rw[←hW];clear hW;exact⟨by go_simp,by go_simp,by go_simp⟩)
     have R71x3:=Zq (show RowAt W71 (w.heap.size+1+1+1) (keyA 1) by rw[←hW];clear hW;exact⟨by go_simp,by go_simp,by go_simp⟩)
     have R71x4:=Zq (show RowAt W71 (w.heap.size+1+1+1+1) (keyA 121665) by rw[←hW];clear hW;exact⟨by go_simp,by go_simp,by go_simp⟩)
     have R71x5:=Zq (show RowAt W71 (w.heap.size+1+1+1+1+1+1) (ZaD b bz) by rw[←hW];clear hW;exact⟨by go_simp,by go_simp,by go_simp⟩)
     have R71x6:=Zq (show RowAt W71 (w.heap.size+1+1+1+1+1) (ZaD a az) by rw[←hW];clear hW;exact⟨by go_simp,by go_simp,by go_simp⟩)
     have R71x7:=Zq (show RowAt W71 (wr.heap.size+oc7.size) (ZaD X Z) by rw[←hW];clear hW;exact⟨by go_simp,by go_simp,by go_simp⟩)
     have HB71:=Zq (show Below w.heap.size w W71 by rw[←hW];repeat (first | apply Zag | apply Zab | apply Below.drew | refine Zad ?_ (by omega) _ | exact HB2.out))
     clear hW
     have lz71x0:w.heap.size≤wr.heap.size+oc7.size:=by have:=HB2.out.size;omega
     have nz71x0x0:¬w.heap.size=wr.heap.size+oc7.size:=by omega
     have ny71x0x0:¬wr.heap.size+oc7.size=w.heap.size:=by omega
     have nz71x0x1:¬w.heap.size+1=wr.heap.size+oc7.size:=by omega
     have ny71x0x1:¬wr.heap.size+oc7.size=w.heap.size+1:=by omega
     have nz71x0x2:¬w.heap.size+1+1=wr.heap.size+oc7.size:=by omega
     have ny71x0x2:¬wr.heap.size+oc7.size=w.heap.size+1+1:=by omega
     have nz71x0x3:¬w.heap.size+1+1+1=wr.heap.size+oc7.size:=by omega
     have ny71x0x3:¬wr.heap.size+oc7.size=w.heap.size+1+1+1:=by omega
     have nz71x0x4:¬w.heap.size+1+1+1+1=wr.heap.size+oc7.size:=by omega
     have ny71x0x4:¬wr.heap.size+oc7.size=w.heap.size+1+1+1+1:=by omega
     have nz71x0x5:¬w.heap.size+1+1+1+1+1+1=wr.heap.size+oc7.size:=by omega
     have ny71x0x5:¬wr.heap.size+oc7.size=w.heap.size+1+1+1+1+1+1:=by omega
     have nz71x0x6:¬w.heap.size+1+1+1+1+1=wr.heap.size+oc7.size:=by omega
     have ny71x0x6:¬wr.heap.size+oc7.size=w.heap.size+1+1+1+1+1:=by omega
     clear T1a T1b T1c T2a T2b T2c T3a T3b T3c T4a T4b T4c T5a T5b T5c T6a T6b T6c T7a T7b T7c T1 T2 T3 T4 T5 T6 T7 HB2
     generalize wr.heap.size+oc7.size=gs at *
     obtain⟨R71x0a,R71x0b,R71x0c⟩:=R71x0.out
     obtain⟨R71x1a,R71x1b,R71x1c⟩:=R71x1.out
     obtain⟨R71x2a,R71x2b,R71x2c⟩:=R71x2.out
     obtain⟨R71x3a,R71x3b,R71x3c⟩:=R71x3.out
     obtain⟨R71x4a,R71x4b,R71x4c⟩:=R71x4.out
     obtain⟨R71x5a,R71x5b,R71x5c⟩:=R71x5.out
     obtain⟨R71x6a,R71x6b,R71x6c⟩:=R71x6.out
     obtain⟨R71x7a,R71x7b,R71x7c⟩:=R71x7.out
     clear hc
     refine(Zfe a az X' Z' la laz E2.out _).mono ?_
     rintro e w' ⟨rfl,hbw⟩
     obtain⟨oc8,nc8,rfl⟩:=Zaf hbw
     clear hbw
     have lt8x0:w.heap.size<W71.heap.size+oc8.size:=by omega
     have lt8x1:w.heap.size+1<W71.heap.size+oc8.size:=by omega
     have lt8x2:w.heap.size+1+1<W71.heap.size+oc8.size:=by omega
     have lt8x3:w.heap.size+1+1+1<W71.heap.size+oc8.size:=by omega
     have lt8x4:w.heap.size+1+1+1+1<W71.heap.size+oc8.size:=by omega
     have lt8x5:w.heap.size+1+1+1+1+1+1<W71.heap.size+oc8.size:=by omega
     have lt8x6:w.heap.size+1+1+1+1+1<W71.heap.size+oc8.size:=by omega
     have lt8x7:gs<W71.heap.size+oc8.size:=by omega
     go_wp2_with fail
     generalize hW:World.plus _ _ _=W72
     have R72x0:=Zq (show RowAt W72 (w.heap.size) (keyA m) by rw[←hW];clear hW;exact⟨by go_simp,by go_simp,by go_simp⟩)
     have R72x1:=Zq (show RowAt W72 (w.heap.size+1) (keyA x1) by rw[←hW];clear hW;exact⟨by go_simp,by go_simp,by go_simp⟩)
     have R72x2:=Zq (show RowAt W72 (w.heap.size+1+1) (#[.int .u8 0,.int .u8 0,.int .u8 0,.int .u8 0,.int .u8 0,.int .u8 0,.int .u8 0,.int .u8 0,.int .u8 0,.int .u8 0,.int .u8 0,.int .u8 0,.int .u8 0,.int .u8 0,.int .u8 0,.int .u8 0,.int .u8 0,.int .u8 0,.int .u8 0,.int .u8 0,.int .u8 0,.int .u8 0,.int .u8 0,.int .u8 0,.int .u8 0,.int .u8 0,.int .u8 0,.int .u8 0,.int .u8 0,.int .u8 0,.int .u8 0,.int .u8 0]) by rw[←hW];clear hW;exact⟨by go_simp,by go_simp,by go_simp⟩)
     have R72x3:=Zq (show RowAt W72 (w.heap.size+1+1+1) (keyA 1) by rw[←hW];clear hW;exact⟨by go_simp,by go_simp,by go_simp⟩)
     have R72x4:=Zq (show RowAt W72 (w.heap.size+1+1+1+1) (keyA 121665) by rw[←hW];clear hW;exact⟨by go_simp,by go_simp,by go_simp⟩)
     have R72x5:=Zq (show RowAt W72 (w.heap.size+1+1+1+1+1+1) (ZaD X Z) by rw[←hW];clear hW;exact⟨by go_simp,by go_simp,by go_simp⟩)
     have R72x6:=Zq (show RowAt W72 (w.heap.size+1+1+1+1+1) (ZaD X' Z') by rw[←hW];clear hW;exact⟨by go_simp,by go_simp,by go_simp⟩)
     have R72x7:=Zq (show RowAt W72 (gs) (ZaD X Z) by rw[←hW];clear hW;exact⟨by go_simp,by go_simp,by go_simp⟩)
     have HB72:=Zq (show Below w.heap.size w W72 by rw[←hW];repeat (first | apply Zag | apply Zab | apply Below.drew | refine Zad ?_ (by omega) _ | exact HB71.out))
     clear hW
     clear R71x0a R71x0b R71x0c R71x1a R71x1b R71x1c R71x2a R71x2b R71x2c R71x3a R71x3b R71x3c R71x4a R71x4b R71x4c R71x5a R71x5b R71x5c R71x6a R71x6b R71x6c R71x7a R71x7b R71x7c R71x0 R71x1 R71x2 R71x3 R71x4 R71x5 R71x6 R71x7 HB71
     obtain⟨R72x0a,R72x0b,R72x0c⟩:=R72x0.out
     obtain⟨R72x1a,R72x1b,R72x1c⟩:=R72x1.out
     obtain⟨R72x2a,R72x2b,R72x2c⟩:=R72x2.out
     obtain⟨R72x3a,R72x3b,R72x3c⟩:=R72x3.out
     obtain⟨R72x4a,R72x4b,R72x4c⟩:=R72x4.out
     obtain⟨R72x5a,R72x5b,R72x5c⟩:=R72x5.out
     obtain⟨R72x6a,R72x6b,R72x6c⟩:=R72x6.out
     obtain⟨R72x7a,R72x7b,R72x7c⟩:=R72x7.out
     go_roundw
     case rel=>exact⟨j,by omega,by go_num,R72x0.out,R72x1.out,R72x2.out,R72x3.out,R72x4.out,by rw[E4.out];exact R72x5.out,by rw[E4.out];exact R72x6.out,HB72.out⟩
     case measure=>simp[intOf]
theorem Zcr {p:Nat} (h:p≠0):errOf p=0:=by unfold errOf;rw[if_neg h]
theorem Zhx (x1 m r:Nat) (hx1:x1<115792089237316195423570985008687907853269984665640564039457584007913129639936) (h:Cv.nT m x1=r) (w:World):Calls Tryz.prog 77 #[kv m,kv x1] w fun e w'=>e=.returned (kv r)∧Below w.heap.size w w':=by
 subst h;exact ZpP x1 m hx1 w
theorem Zod:∀b:Nat,b<256→(b:Int).tdiv 8%256*8%256=((b/8*8:Nat):Int):=by decide +kernel
theorem Zov:∀b:Nat,b<256→((b:Int).tmod 64+64)%256=((b%64+64:Nat):Int):=by decide +kernel
theorem ZmK:∀b:Nat,b<256→((b:Int).tmod 128)=((b%128:Nat):Int):=by decide +kernel
theorem Znl (k:Nat):(bt k 0).tdiv 8%256*8%256=bt (Cv.clampN k) 0:=by
 rw[Zh3];unfold bt
 rw[Zod _ (Nat.mod_lt _ (by decide)),Int.natCast_mul,Int.natCast_ediv];rfl
theorem Zln (k:Nat):((bt k 31).tmod 64+64)%256=bt (Cv.clampN k) 31:=by
 rw[Zgv];unfold bt
 rw[Zov _ (Nat.mod_lt _ (by decide))];omega
theorem ZrG (k:Nat):(bt k 31).tmod 128=bt (ptN k) 31:=by
 rw[ZmO];unfold bt
 rw[ZmK _ (Nat.mod_lt _ (by decide))];omega
theorem Zhl (k c:Nat) (hc:Cv.clampN k=c) (w:World):Calls Tryz.prog 78 #[kv k] w fun e w'=>e=.returned (kv c)∧Below w.heap.size w w':=by
 have h0:=Znl k
 have h31:=Zln k
 have hs:=Zf1 k
 rw[hc] at h0 h31 hs
 have ha:=ZhE k (.int .u8 (bt c 0))
 go_enter Tryz.func78,Tryz.ntmps78
 go_wp2_with fail
 refine bodyPost_ret (v:=kv c) (Zav Tryz.results78 _ _ _ rfl (by go_simp) (by go_simp)) rfl ⟨rfl,?_⟩
 repeat (first | apply Zag | apply Zab | exact Below.refl _ _)
theorem Ze4 (u p:Nat) (hp:ptN u%Fp.P=p) (w:World):Calls Tryz.prog 85 #[kv u] w fun e w'=>e=.returned (kv p)∧Below w.heap.size w w':=by
 have h31:=ZrG u
 have hs:=ZkF u
 have hl:=ZqV u
 generalize ptN u=v at *
 have Hp:=Zq hp
 clear hp
 go_enter Tryz.func85,Tryz.ntmps85
 go_wp2_with fail
 refine(Zej v p hl Hp.out _).mono ?_
 rintro e w' ⟨rfl,hbw⟩
 obtain⟨oc1,nc1,rfl⟩:=Zaf hbw
 clear hbw
 go_wp2_with fail
 refine bodyPost_ret (v:=kv p) (Zav Tryz.results85 _ _ _ rfl (by go_simp) (by go_simp)) rfl ⟨rfl,?_⟩
 repeat (first | apply Zag | apply Zab | exact Below.refl _ _)
theorem rpublic_K (k p:Nat) (hp:Cv.nT (Cv.clampN k) 9=p) (w:World):Calls Tryz.prog 43 #[kv k] w fun e w'=>e=.returned (kv p)∧Below w.heap.size w w':=by
 obtain⟨c,ec⟩:∃y,y=Cv.clampN k:=⟨_,rfl⟩
 have Hc:=Zq ec.symm
 have Hp:=Zq (show Cv.nT c 9=p by rw[ec];exact hp)
 clear ec hp
 have hk9:#[.int .u8 9,.int .u8 0,.int .u8 0,.int .u8 0,.int .u8 0,.int .u8 0,.int .u8 0,.int .u8 0,.int .u8 0,.int .u8 0,.int .u8 0,.int .u8 0,.int .u8 0,.int .u8 0,.int .u8 0,.int .u8 0,.int .u8 0,.int .u8 0,.int .u8 0,.int .u8 0,.int .u8 0,.int .u8 0,.int .u8 0,.int .u8 0,.int .u8 0,.int .u8 0,.int .u8 0,.int .u8 0,.int .u8 0,.int .u8 0,.int .u8 0,.int .u8 0]=keyA 9:=Za3 9 (by decide)
 go_enter Tryz.func43,Tryz.ntmps43
 go_wp2_with fail
 generalize hW:World.alloc _ _=W1
 have R1x0:=Zq (show RowAt W1 (w.heap.size) (keyA k) by rw[←hW];clear hW;exact⟨by go_simp,by go_simp,by go_simp⟩)
 have R1x1:=Zq (show RowAt W1 (w.heap.size+1) (#[.int .u8 0,.int .u8 0,.int .u8 0,.int .u8 0,.int .u8 0,.int .u8 0,.int .u8 0,.int .u8 0,.int .u8 0,.int .u8 0,.int .u8 0,.int .u8 0,.int .u8 0,.int .u8 0,.int .u8 0,.int .u8 0,.int .u8 0,.int .u8 0,.int .u8 0,.int .u8 0,.int .u8 0,.int .u8 0,.int .u8 0,.int .u8 0,.int .u8 0,.int .u8 0,.int .u8 0,.int .u8 0,.int .u8 0,.int .u8 0,.int .u8 0,.int .u8 0]) by rw[←hW];clear hW;exact⟨by go_simp,by go_simp,by go_simp⟩)
 have R1x2:=Zq (show RowAt W1 (w.heap.size+1+1) (keyA 9) by rw[←hW];clear hW;exact⟨by go_simp,by go_simp,by go_simp⟩)
 have HB1:=Zq (show Below w.heap.size w W1 by rw[←hW];repeat (first | apply Zag | apply Zab | apply Below.drew | refine Zad ?_ (by omega) _ | exact Below.refl _ _))
 clear hW
 obtain⟨R1x0a,R1x0b,R1x0c⟩:=R1x0.out
 obtain⟨R1x1a,R1x1b,R1x1c⟩:=R1x1.out
 obtain⟨R1x2a,R1x2b,R1x2c⟩:=R1x2.out
 refine Zal W1 [0,1,2,3] [false,false,false,false] [] [] 4 (by kernel_rfl) rfl (by kernel_rfl) (by intro c a d v w h;cases d<;>exact h) ((Below.refl _ _).drew) ?_
 simp only[pick,List.getElem?_cons_succ,List.getElem?_cons_zero,List.drop_succ_cons,List.drop_zero]
 refine Zac (Zaa rfl) (by intro K o d hK;go_simp;exact hK _ (Below.refl _ _)) ?_
 refine Zai (v:=kv c) (Zaa rfl) (by intro K o d hK;go_simp;refine(Zhl k c Hc.out _).mono ?_;rintro e w' ⟨rfl,hbw⟩;exact⟨_,rfl,hK _ hbw⟩) ?_
 refine Zac (Zaa rfl) (by intro K o d hK;go_simp;exact hK _ (Below.refl _ _)) ?_
 refine Zai (v:=kv p) (Zaa rfl) (by intro K o d hK;go_simp;refine(Zhx 9 c p (by decide) Hp.out _).mono ?_;rintro e w' ⟨rfl,hbw⟩;exact⟨_,rfl,hK _ hbw⟩) ?_
 refine Zan ?_
 intro w2 hb2 hblk2
 have A2x0:=R1x0.out.grow hb2
 have c2x0:=R1x0.out.2.2
 have A2x1:=R1x1.out.grow hb2
 have c2x1:=R1x1.out.2.2
 have A2x2:=R1x2.out.grow hb2
 have c2x2:=R1x2.out.2.2
 have B2x0:=HB1.out.trans (hb2.mono HB1.out.size)
 have s2:=HB1.out.size
 have P2x0x0:=A2x0.other (show w.heap.size≠w.heap.size+1 by omega) (keyA p)
 have P2x0x1:=A2x1.set (keyA p)
 have P2x0x2:=A2x2.other (show w.heap.size+1+1≠w.heap.size+1 by omega) (keyA p)
 have B2x1:=Zad B2x0 (show w.heap.size≤w.heap.size+1 by omega) (keyA p)
 have Z2x0:=Zq P2x0x0
 have Z2x1:=Zq P2x0x1
 have Z2x2:=Zq P2x0x2
 have HB2:=Zq B2x1
 clear hb2 hblk2 HB1 s2 R1x0a R1x0b R1x0c R1x1a R1x1b R1x1c R1x2a R1x2b R1x2c R1x0 R1x1 R1x2 c2x0 c2x1 c2x2 B2x0 B2x1 P2x0x0 P2x0x1 P2x0x2
 obtain⟨A2x0a,A2x0b,A2x0c⟩:=A2x0
 obtain⟨A2x1a,A2x1b,A2x1c⟩:=A2x1
 obtain⟨A2x2a,A2x2b,A2x2c⟩:=A2x2
 go_wp2_with fail
 clear A2x0a A2x0b A2x0c A2x1a A2x1b A2x1c A2x2a A2x2b A2x2c
 generalize World.setRow _ _ _=W3 at *
 obtain⟨Z2x0a,Z2x0b,Z2x0c⟩:=Z2x0.out
 obtain⟨Z2x1a,Z2x1b,Z2x1c⟩:=Z2x1.out
 obtain⟨Z2x2a,Z2x2b,Z2x2c⟩:=Z2x2.out
 refine bodyPost_ret (v:=kv p) (Zav Tryz.results43 _ _ _ rfl (by go_simp) (by go_simp)) rfl ⟨rfl,HB2.out⟩
theorem ZhZ (k u r:Nat) (hr:shN k u=r) (hz:r=0) (w:World) :
  Calls Tryz.prog 53 #[kv k,kv u] w fun x w'=>x=.returned (.tuple #[kv r,.int .i64 7])∧Below w.heap.size w w':=by
 obtain⟨p,ep⟩:∃y,y=ptN u%Fp.P:=⟨_,rfl⟩
 have lp:p<115792089237316195423570985008687907853269984665640564039457584007913129639936:=by rw[ep];exact mod_lt _
 obtain⟨c,ec⟩:∃y,y=Cv.clampN k:=⟨_,rfl⟩
 have lr:r<115792089237316195423570985008687907853269984665640564039457584007913129639936:=by rw[←hr];exact Nat.lt_trans (ZgB k u) P_lt
 have lP:r<Fp.P:=by rw[←hr];exact ZgB k u
 have Hp:=Zq ep.symm
 have Hc:=Zq ec.symm
 have Hr:=Zq (show Cv.nT c p=r by rw[←hr,ec,ep];rfl)
 have Hz:=Zq (show decide (r%Fp.P=0)=true by rw[Nat.mod_eq_of_lt lP];exact decide_eq_true hz)
 have Hz0:=Zq hz
 clear ep ec hr lP hz
 go_enter Tryz.func53,Tryz.ntmps53
 go_wp2_with fail
 generalize hW:World.alloc _ _=W1
 have R1x0:=Zq (show RowAt W1 (w.heap.size) (keyA k) by rw[←hW];clear hW;exact⟨by go_simp,by go_simp,by go_simp⟩)
 have R1x1:=Zq (show RowAt W1 (w.heap.size+1) (keyA u) by rw[←hW];clear hW;exact⟨by go_simp,by go_simp,by go_simp⟩)
 have R1x2:=Zq (show RowAt W1 (w.heap.size+1+1) (#[.int .u8 0,.int .u8 0,.int .u8 0,.int .u8 0,.int .u8 0,.int .u8 0,.int .u8 0,.int .u8 0,.int .u8 0,.int .u8 0,.int .u8 0,.int .u8 0,.int .u8 0,.int .u8 0,.int .u8 0,.int .u8 0,.int .u8 0,.int .u8 0,.int .u8 0,.int .u8 0,.int .u8 0,.int .u8 0,.int .u8 0,.int .u8 0,.int .u8 0,.int .u8 0,.int .u8 0,.int .u8 0,.int .u8 0,.int .u8 0,.int .u8 0,.int .u8 0]) by rw[←hW];clear hW;exact⟨by go_simp,by go_simp,by go_simp⟩)
 have HB1:=Zq (show Below w.heap.size w W1 by rw[←hW];repeat (first | apply Zag | apply Zab | apply Below.drew | refine Zad ?_ (by omega) _ | exact Below.refl _ _))
 clear hW
 obtain⟨R1x0a,R1x0b,R1x0c⟩:=R1x0.out
 obtain⟨R1x1a,R1x1b,R1x1c⟩:=R1x1.out
 obtain⟨R1x2a,R1x2b,R1x2c⟩:=R1x2.out
 refine Zal W1 [0,1,2,3,4] [false,false,false,false,false] [5] [(23,#[.int .u8 0,.int .u8 0,.int .u8 0,.int .u8 0,.int .u8 0,.int .u8 0,.int .u8 0,.int .u8 0,.int .u8 0,.int .u8 0,.int .u8 0,.int .u8 0,.int .u8 0,.int .u8 0,.int .u8 0,.int .u8 0,.int .u8 0,.int .u8 0,.int .u8 0,.int .u8 0,.int .u8 0,.int .u8 0,.int .u8 0,.int .u8 0,.int .u8 0,.int .u8 0,.int .u8 0,.int .u8 0,.int .u8 0,.int .u8 0,.int .u8 0,.int .u8 0])] 6 (by kernel_rfl) rfl (by kernel_rfl) (by intro c a d v w h;cases d<;>exact h) ((Below.refl _ _).drew) ?_
 simp only[pick,List.getElem?_cons_succ,List.getElem?_cons_zero,List.drop_succ_cons,List.drop_zero]
 refine Zac (Zaa rfl) (by intro K o d hK;go_simp;exact hK _ (Below.refl _ _)) ?_
 refine Zai (v:=kv c) (Zaa rfl) (by intro K o d hK;go_simp;refine(Zhl k c Hc.out _).mono ?_;rintro e w' ⟨rfl,hbw⟩;exact⟨_,rfl,hK _ hbw⟩) ?_
 refine Zac (Zaa rfl) (by intro K o d hK;go_simp;exact hK _ (Below.refl _ _)) ?_
 refine Zai (v:=kv p) (Zaa rfl) (by intro K o d hK;go_simp;refine(Ze4 u p Hp.out _).mono ?_;rintro e w' ⟨rfl,hbw⟩;exact⟨_,rfl,hK _ hbw⟩) ?_
 refine Zai (v:=kv r) (Zaa rfl) (by intro K o d hK;go_simp;refine(Zhx p c r lp Hr.out _).mono ?_;rintro e w' ⟨rfl,hbw⟩;exact⟨_,rfl,hK _ hbw⟩) ?_
 refine Zan ?_
 refine⟨Zba _ rfl rfl,fun g2x0 hg2x0 hn2x0=>?_⟩
 intro w2 hb2 hblk2
 have A2x0:=R1x0.out.grow hb2
 have c2x0:=R1x0.out.2.2
 have A2x1:=R1x1.out.grow hb2
 have c2x1:=R1x1.out.2.2
 have A2x2:=R1x2.out.grow hb2
 have c2x2:=R1x2.out.2.2
 have N2x0:=RowAt.of (hblk2 0 g2x0 _ _ rfl rfl)
 have B2x0:=HB1.out.trans (hb2.mono HB1.out.size)
 have s2:=HB1.out.size
 have le2x0:w.heap.size≤g2x0:=by omega
 have ne2x0x0:¬w.heap.size=g2x0:=by omega
 have nf2x0x0:¬g2x0=w.heap.size:=by omega
 have ne2x1x0:¬w.heap.size+1=g2x0:=by omega
 have nf2x1x0:¬g2x0=w.heap.size+1:=by omega
 have ne2x2x0:¬w.heap.size+1+1=g2x0:=by omega
 have nf2x2x0:¬g2x0=w.heap.size+1+1:=by omega
 have P2x0x0:=A2x0.other (show w.heap.size≠g2x0 by omega) (keyA r)
 have P2x0x1:=A2x1.other (show w.heap.size+1≠g2x0 by omega) (keyA r)
 have P2x0x2:=A2x2.other (show w.heap.size+1+1≠g2x0 by omega) (keyA r)
 have P2x0x3:=N2x0.set (keyA r)
 have B2x1:=Zad B2x0 (show w.heap.size≤g2x0 by omega) (keyA r)
 have Z2x0:=Zq P2x0x0
 have Z2x1:=Zq P2x0x1
 have Z2x2:=Zq P2x0x2
 have Z2x3:=Zq P2x0x3
 have HB2:=Zq B2x1
 clear hb2 hblk2 HB1 s2 R1x0a R1x0b R1x0c R1x1a R1x1b R1x1c R1x2a R1x2b R1x2c R1x0 R1x1 R1x2 c2x0 c2x1 c2x2 B2x0 B2x1 P2x0x0 P2x0x1 P2x0x2 P2x0x3 hg2x0 hn2x0
 obtain⟨A2x0a,A2x0b,A2x0c⟩:=A2x0
 obtain⟨A2x1a,A2x1b,A2x1c⟩:=A2x1
 obtain⟨A2x2a,A2x2b,A2x2c⟩:=A2x2
 obtain⟨N2x0a,N2x0b,N2x0c⟩:=N2x0
 go_wp2_with fail
 clear A2x0a A2x0b A2x0c A2x1a A2x1b A2x1c A2x2a A2x2b A2x2c N2x0a N2x0b N2x0c
 generalize World.setRow _ _ _=W3 at *
 obtain⟨Z2x0a,Z2x0b,Z2x0c⟩:=Z2x0.out
 obtain⟨Z2x1a,Z2x1b,Z2x1c⟩:=Z2x1.out
 obtain⟨Z2x2a,Z2x2b,Z2x2c⟩:=Z2x2.out
 obtain⟨Z2x3a,Z2x3b,Z2x3c⟩:=Z2x3.out
 refine(ZgZ r true lr Hz.out _).mono ?_
 rintro e w' ⟨rfl,hbw⟩
 obtain⟨oc2,nc2,rfl⟩:=Zaf hbw
 clear hbw
 have lt2x0:w.heap.size<W3.heap.size+oc2.size:=by omega
 have lt2x1:w.heap.size+1<W3.heap.size+oc2.size:=by omega
 have lt2x2:w.heap.size+1+1<W3.heap.size+oc2.size:=by omega
 have lt2x3:g2x0<W3.heap.size+oc2.size:=by omega
 go_wp2_with fail
 refine bodyPost_ret (v:=.tuple #[kv 0,.int .i64 7]) (ZaR Tryz.results53 _ _ _ rfl (by go_simp) (by go_simp) rfl) rfl ⟨by rw[Hz0.out],?_⟩
 exact Zag (Zad HB2.out (by omega) _) _ _
theorem Zja (k u r:Nat) (hr:shN k u=r) (hz:¬r=0) (w:World) :
  Calls Tryz.prog 53 #[kv k,kv u] w fun x w'=>x=.returned (.tuple #[kv r,.int .i64 0])∧Below w.heap.size w w':=by
 obtain⟨p,ep⟩:∃y,y=ptN u%Fp.P:=⟨_,rfl⟩
 have lp:p<115792089237316195423570985008687907853269984665640564039457584007913129639936:=by rw[ep];exact mod_lt _
 obtain⟨c,ec⟩:∃y,y=Cv.clampN k:=⟨_,rfl⟩
 have lr:r<115792089237316195423570985008687907853269984665640564039457584007913129639936:=by rw[←hr];exact Nat.lt_trans (ZgB k u) P_lt
 have lP:r<Fp.P:=by rw[←hr];exact ZgB k u
 have Hp:=Zq ep.symm
 have Hc:=Zq ec.symm
 have Hr:=Zq (show Cv.nT c p=r by rw[←hr,ec,ep];rfl)
 have Hz:=Zq (show decide (r%Fp.P=0)=false by rw[Nat.mod_eq_of_lt lP];exact decide_eq_false hz)
 skip
 clear ep ec hr lP hz
 go_enter Tryz.func53,Tryz.ntmps53
 go_wp2_with fail
 generalize hW:World.alloc _ _=W1
 have R1x0:=Zq (show RowAt W1 (w.heap.size) (keyA k) by rw[←hW];clear hW;exact⟨by go_simp,by go_simp,by go_simp⟩)
 have R1x1:=Zq (show RowAt W1 (w.heap.size+1) (keyA u) by rw[←hW];clear hW;exact⟨by go_simp,by go_simp,by go_simp⟩)
 have R1x2:=Zq (show RowAt W1 (w.heap.size+1+1) (#[.int .u8 0,.int .u8 0,.int .u8 0,.int .u8 0,.int .u8 0,.int .u8 0,.int .u8 0,.int .u8 0,.int .u8 0,.int .u8 0,.int .u8 0,.int .u8 0,.int .u8 0,.int .u8 0,.int .u8 0,.int .u8 0,.int .u8 0,.int .u8 0,.int .u8 0,.int .u8 0,.int .u8 0,.int .u8 0,.int .u8 0,.int .u8 0,.int .u8 0,.int .u8 0,.int .u8 0,.int .u8 0,.int .u8 0,.int .u8 0,.int .u8 0,.int .u8 0]) by rw[←hW];clear hW;exact⟨by go_simp,by go_simp,by go_simp⟩)
 have HB1:=Zq (show Below w.heap.size w W1 by rw[←hW];repeat (first | apply Zag | apply Zab | apply Below.drew | refine Zad ?_ (by omega) _ | exact Below.refl _ _))
 clear hW
 obtain⟨R1x0a,R1x0b,R1x0c⟩:=R1x0.out
 obtain⟨R1x1a,R1x1b,R1x1c⟩:=R1x1.out
 obtain⟨R1x2a,R1x2b,R1x2c⟩:=R1x2.out
 refine Zal W1 [0,1,2,3,4] [false,false,false,false,false] [5] [(23,#[.int .u8 0,.int .u8 0,.int .u8 0,.int .u8 0,.int .u8 0,.int .u8 0,.int .u8 0,.int .u8 0,.int .u8 0,.int .u8 0,.int .u8 0,.int .u8 0,.int .u8 0,.int .u8 0,.int .u8 0,.int .u8 0,.int .u8 0,.int .u8 0,.int .u8 0,.int .u8 0,.int .u8 0,.int .u8 0,.int .u8 0,.int .u8 0,.int .u8 0,.int .u8 0,.int .u8 0,.int .u8 0,.int .u8 0,.int .u8 0,.int .u8 0,.int .u8 0])] 6 (by kernel_rfl) rfl (by kernel_rfl) (by intro c a d v w h;cases d<;>exact h) ((Below.refl _ _).drew) ?_
 simp only[pick,List.getElem?_cons_succ,List.getElem?_cons_zero,List.drop_succ_cons,List.drop_zero]
 refine Zac (Zaa rfl) (by intro K o d hK;go_simp;exact hK _ (Below.refl _ _)) ?_
 refine Zai (v:=kv c) (Zaa rfl) (by intro K o d hK;go_simp;refine(Zhl k c Hc.out _).mono ?_;rintro e w' ⟨rfl,hbw⟩;exact⟨_,rfl,hK _ hbw⟩) ?_
 refine Zac (Zaa rfl) (by intro K o d hK;go_simp;exact hK _ (Below.refl _ _)) ?_
 refine Zai (v:=kv p) (Zaa rfl) (by intro K o d hK;go_simp;refine(Ze4 u p Hp.out _).mono ?_;rintro e w' ⟨rfl,hbw⟩;exact⟨_,rfl,hK _ hbw⟩) ?_
 refine Zai (v:=kv r) (Zaa rfl) (by intro K o d hK;go_simp;refine(Zhx p c r lp Hr.out _).mono ?_;rintro e w' ⟨rfl,hbw⟩;exact⟨_,rfl,hK _ hbw⟩) ?_
 refine Zan ?_
 refine⟨Zba _ rfl rfl,fun g2x0 hg2x0 hn2x0=>?_⟩
 intro w2 hb2 hblk2
 have A2x0:=R1x0.out.grow hb2
 have c2x0:=R1x0.out.2.2
 have A2x1:=R1x1.out.grow hb2
 have c2x1:=R1x1.out.2.2
 have A2x2:=R1x2.out.grow hb2
 have c2x2:=R1x2.out.2.2
 have N2x0:=RowAt.of (hblk2 0 g2x0 _ _ rfl rfl)
 have B2x0:=HB1.out.trans (hb2.mono HB1.out.size)
 have s2:=HB1.out.size
 have le2x0:w.heap.size≤g2x0:=by omega
 have ne2x0x0:¬w.heap.size=g2x0:=by omega
 have nf2x0x0:¬g2x0=w.heap.size:=by omega
 have ne2x1x0:¬w.heap.size+1=g2x0:=by omega
 have nf2x1x0:¬g2x0=w.heap.size+1:=by omega
 have ne2x2x0:¬w.heap.size+1+1=g2x0:=by omega
 have nf2x2x0:¬g2x0=w.heap.size+1+1:=by omega
 have P2x0x0:=A2x0.other (show w.heap.size≠g2x0 by omega) (keyA r)
 have P2x0x1:=A2x1.other (show w.heap.size+1≠g2x0 by omega) (keyA r)
 have P2x0x2:=A2x2.other (show w.heap.size+1+1≠g2x0 by omega) (keyA r)
 have P2x0x3:=N2x0.set (keyA r)
 have B2x1:=Zad B2x0 (show w.heap.size≤g2x0 by omega) (keyA r)
 have Z2x0:=Zq P2x0x0
 have Z2x1:=Zq P2x0x1
 have Z2x2:=Zq P2x0x2
 have Z2x3:=Zq P2x0x3
 have HB2:=Zq B2x1
 clear hb2 hblk2 HB1 s2 R1x0a R1x0b R1x0c R1x1a R1x1b R1x1c R1x2a R1x2b R1x2c R1x0 R1x1 R1x2 c2x0 c2x1 c2x2 B2x0 B2x1 P2x0x0 P2x0x1 P2x0x2 P2x0x3 hg2x0 hn2x0
 obtain⟨A2x0a,A2x0b,A2x0c⟩:=A2x0
 obtain⟨A2x1a,A2x1b,A2x1c⟩:=A2x1
 obtain⟨A2x2a,A2x2b,A2x2c⟩:=A2x2
 obtain⟨N2x0a,N2x0b,N2x0c⟩:=N2x0
 go_wp2_with fail
 clear A2x0a A2x0b A2x0c A2x1a A2x1b A2x1c A2x2a A2x2b A2x2c N2x0a N2x0b N2x0c
 generalize World.setRow _ _ _=W3 at *
 obtain⟨Z2x0a,Z2x0b,Z2x0c⟩:=Z2x0.out
 obtain⟨Z2x1a,Z2x1b,Z2x1c⟩:=Z2x1.out
 obtain⟨Z2x2a,Z2x2b,Z2x2c⟩:=Z2x2.out
 obtain⟨Z2x3a,Z2x3b,Z2x3c⟩:=Z2x3.out
 refine(ZgZ r false lr Hz.out _).mono ?_
 rintro e w' ⟨rfl,hbw⟩
 obtain⟨oc3,nc3,rfl⟩:=Zaf hbw
 clear hbw
 have lt3x0:w.heap.size<W3.heap.size+oc3.size:=by omega
 have lt3x1:w.heap.size+1<W3.heap.size+oc3.size:=by omega
 have lt3x2:w.heap.size+1+1<W3.heap.size+oc3.size:=by omega
 have lt3x3:g2x0<W3.heap.size+oc3.size:=by omega
 go_wp2_with fail
 refine bodyPost_ret (v:=.tuple #[kv r,.int .i64 0]) (ZaR Tryz.results53 _ _ _ rfl (by go_simp) (by go_simp) rfl) rfl ⟨rfl,?_⟩
 exact Zag (Zad HB2.out (by omega) _) _ _
theorem rshared_K (k u r:Nat) (e:Int) (hr:shN k u=r) (he:errOf r=e) (w:World) :
  Calls Tryz.prog 53 #[kv k,kv u] w fun x w'=>x=.returned (.tuple #[kv r,.int .i64 e])∧Below w.heap.size w w':=by
 unfold errOf at he
 by_cases h:r=0
 ·rw[if_pos h] at he;subst he;exact ZhZ k u r hr h w
 ·rw[if_neg h] at he;subst he;exact Zja k u r hr h w
theorem ZjH (u:Nat) (ls:List Nat) (cap:Nat) (p:Option Addr) (hq:ptN u%Fp.P=0) (hn:ls.length≤8) (w:World) :
  Calls Tryz.prog 74 #[kv u,.slice p ls.length cap] w fun x w'=>x=.returned (.tuple #[kv 0,.int .i64 7])∧Below w.heap.size w w':=by
 have h8:¬(8:Int)<(ls.length:Int):=by omega
 have Hq:=Zq hq
 have Hz:=Zq (show decide (0%Fp.P=0)=true by decide +kernel)
 clear hq
 go_enter Tryz.func74,Tryz.ntmps74
 go_wp2_with fail
 refine(Ze4 u 0 Hq.out _).mono ?_
 rintro e w' ⟨rfl,hbw⟩
 obtain⟨oc1,nc1,rfl⟩:=Zaf hbw
 clear hbw
 go_wp2_with fail
 generalize hW:World.alloc _ _=W1
 have R1x0:=Zq (show RowAt W1 (w.heap.size) (keyA u) by rw[←hW];clear hW;exact⟨by go_simp,by go_simp,by go_simp⟩)
 have R1x1:=Zq (show RowAt W1 (w.heap.size+1) (#[.int .u8 0,.int .u8 0,.int .u8 0,.int .u8 0,.int .u8 0,.int .u8 0,.int .u8 0,.int .u8 0,.int .u8 0,.int .u8 0,.int .u8 0,.int .u8 0,.int .u8 0,.int .u8 0,.int .u8 0,.int .u8 0,.int .u8 0,.int .u8 0,.int .u8 0,.int .u8 0,.int .u8 0,.int .u8 0,.int .u8 0,.int .u8 0,.int .u8 0,.int .u8 0,.int .u8 0,.int .u8 0,.int .u8 0,.int .u8 0,.int .u8 0,.int .u8 0]) by rw[←hW];clear hW;exact⟨by go_simp,by go_simp,by go_simp⟩)
 have R1x2:=Zq (show RowAt W1 (w.heap.size+1+1+oc1.size) (keyA 0) by rw[←hW];clear hW;exact⟨by go_simp,by go_simp,by go_simp⟩)
 have HB1:=Zq (show Below w.heap.size w W1 by rw[←hW];repeat (first | apply Zag | apply Zab | apply Below.drew | refine Zad ?_ (by omega) _ | exact Below.refl _ _))
 clear hW
 obtain⟨R1x0a,R1x0b,R1x0c⟩:=R1x0.out
 obtain⟨R1x1a,R1x1b,R1x1c⟩:=R1x1.out
 obtain⟨R1x2a,R1x2b,R1x2c⟩:=R1x2.out
 refine(ZgZ 0 true (by decide) Hz.out _).mono ?_
 rintro e w' ⟨rfl,hbw⟩
 obtain⟨oc2,nc2,rfl⟩:=Zaf hbw
 clear hbw
 have lt2x0:w.heap.size<W1.heap.size+oc2.size:=by omega
 have lt2x1:w.heap.size+1<W1.heap.size+oc2.size:=by omega
 have lt2x2:w.heap.size+1+1+oc1.size<W1.heap.size+oc2.size:=by omega
 go_wp2_with fail
 refine bodyPost_ret (v:=.tuple #[kv 0,.int .i64 7]) (ZaR Tryz.results74 _ _ _ rfl (by go_simp) (by go_simp) rfl) rfl ⟨rfl,?_⟩
 exact Zag (Zad HB1.out (by omega) _) _ _
theorem ZlE (u q:Nat) (ls:List Nat) (cap:Nat) (p:Option Addr) (hq:ptN u%Fp.P=q) (hq0:¬q=0) (hn:ls.length≤8) (w:World) (hk:KeysAt w p ls) :
  Calls Tryz.prog 74 #[kv u,.slice p ls.length cap] w fun x w'=>x=.returned (.tuple #[kv (chN q ls),.int .i64 (errOf (chN q ls))])∧Below w.heap.size w w':=by
 have h8:¬(8:Int)<(ls.length:Int):=by omega
 have Hq:=Zq hq
 have lq:q<Fp.P:=by rw[←hq];exact Nat.mod_lt _ Fp.P_pos
 have Hz:=Zq (show decide (q%Fp.P=0)=false by rw[Nat.mod_eq_of_lt lq];exact decide_eq_false hq0)
 have Hq0:=Zq hq0
 have HK:=Zq hk
 clear hq hq0 hk
 go_enter Tryz.func74,Tryz.ntmps74
 go_wp2_with fail
 refine(Ze4 u q Hq.out _).mono ?_
 rintro e w' ⟨rfl,hbw⟩
 obtain⟨oc3,nc3,rfl⟩:=Zaf hbw
 clear hbw
 go_wp2_with fail
 generalize hW:World.alloc _ _=W1
 have R1x0:=Zq (show RowAt W1 (w.heap.size) (keyA u) by rw[←hW];clear hW;exact⟨by go_simp,by go_simp,by go_simp⟩)
 have R1x1:=Zq (show RowAt W1 (w.heap.size+1) (#[.int .u8 0,.int .u8 0,.int .u8 0,.int .u8 0,.int .u8 0,.int .u8 0,.int .u8 0,.int .u8 0,.int .u8 0,.int .u8 0,.int .u8 0,.int .u8 0,.int .u8 0,.int .u8 0,.int .u8 0,.int .u8 0,.int .u8 0,.int .u8 0,.int .u8 0,.int .u8 0,.int .u8 0,.int .u8 0,.int .u8 0,.int .u8 0,.int .u8 0,.int .u8 0,.int .u8 0,.int .u8 0,.int .u8 0,.int .u8 0,.int .u8 0,.int .u8 0]) by rw[←hW];clear hW;exact⟨by go_simp,by go_simp,by go_simp⟩)
 have R1x2:=Zq (show RowAt W1 (w.heap.size+1+1+oc3.size) (keyA q) by rw[←hW];clear hW;exact⟨by go_simp,by go_simp,by go_simp⟩)
 have HB1:=Zq (show Below w.heap.size w W1 by rw[←hW];repeat (first | apply Zag | apply Zab | apply Below.drew | refine Zad ?_ (by omega) _ | exact Below.refl _ _))
 clear hW
 obtain⟨R1x0a,R1x0b,R1x0c⟩:=R1x0.out
 obtain⟨R1x1a,R1x1b,R1x1c⟩:=R1x1.out
 obtain⟨R1x2a,R1x2b,R1x2c⟩:=R1x2.out
 have hG':w.heap.size+1+1≤w.heap.size+1+1+oc3.size:=by omega
 generalize w.heap.size+1+1+oc3.size=G at *
 refine(ZgZ q false (Nat.lt_trans lq P_lt) Hz.out _).mono ?_
 rintro e w' ⟨rfl,hbw⟩
 obtain⟨oc4,nc4,rfl⟩:=Zaf hbw
 clear hbw
 have lt4x0:w.heap.size<W1.heap.size+oc4.size:=by omega
 have lt4x1:w.heap.size+1<W1.heap.size+oc4.size:=by omega
 have lt4x2:G<W1.heap.size+oc4.size:=by omega
 go_wp2_with fail
 generalize hW:World.plus _ _ _=W2
 have R2x0:=Zq (show RowAt W2 (w.heap.size) (keyA u) by rw[←hW];clear hW;exact⟨by go_simp,by go_simp,by go_simp⟩)
 have R2x1:=Zq (show RowAt W2 (w.heap.size+1) (#[.int .u8 0,.int .u8 0,.int .u8 0,.int .u8 0,.int .u8 0,.int .u8 0,.int .u8 0,.int .u8 0,.int .u8 0,.int .u8 0,.int .u8 0,.int .u8 0,.int .u8 0,.int .u8 0,.int .u8 0,.int .u8 0,.int .u8 0,.int .u8 0,.int .u8 0,.int .u8 0,.int .u8 0,.int .u8 0,.int .u8 0,.int .u8 0,.int .u8 0,.int .u8 0,.int .u8 0,.int .u8 0,.int .u8 0,.int .u8 0,.int .u8 0,.int .u8 0]) by rw[←hW];clear hW;exact⟨by go_simp,by go_simp,by go_simp⟩)
 have R2x2:=Zq (show RowAt W2 (G) (keyA q) by rw[←hW];clear hW;exact⟨by go_simp,by go_simp,by go_simp⟩)
 have HB2:=Zq (show Below w.heap.size w W2 by rw[←hW];repeat (first | apply Zag | apply Zab | apply Below.drew | refine Zad ?_ (by omega) _ | exact HB1.out))
 clear hW
 clear R1x0a R1x0b R1x0c R1x1a R1x1b R1x1c R1x2a R1x2b R1x2c R1x0 R1x1 R1x2 HB1
 obtain⟨R2x0a,R2x0b,R2x0c⟩:=R2x0.out
 obtain⟨R2x1a,R2x1b,R2x1c⟩:=R2x1.out
 obtain⟨R2x2a,R2x2b,R2x2c⟩:=R2x2.out
 go_loopw [7] (fun i w'=>∃ (j:Nat),j≤ls.length∧i=.int .i64 j∧¬chN q (ls.take j)=0∧RowAt w' w.heap.size (keyA u)∧RowAt w' (w.heap.size+1) #[.int .u8 0,.int .u8 0,.int .u8 0,.int .u8 0,.int .u8 0,.int .u8 0,.int .u8 0,.int .u8 0,.int .u8 0,.int .u8 0,.int .u8 0,.int .u8 0,.int .u8 0,.int .u8 0,.int .u8 0,.int .u8 0,.int .u8 0,.int .u8 0,.int .u8 0,.int .u8 0,.int .u8 0,.int .u8 0,.int .u8 0,.int .u8 0,.int .u8 0,.int .u8 0,.int .u8 0,.int .u8 0,.int .u8 0,.int .u8 0,.int .u8 0,.int .u8 0]∧RowAt w' G (keyA (chN q (ls.take j)))∧Below w.heap.size w w') (fun i _=>ls.length-(intOf i).toNat)
 case atStart=>exact⟨0,Nat.zero_le _,rfl,Hq0.out,R2x0.out,R2x1.out,R2x2.out,HB2.out⟩
 case round =>
  clear R2x0a R2x0b R2x0c R2x0 R2x1a R2x1b R2x1c R2x1 R2x2a R2x2b R2x2c R2x2 HB2
  obtain⟨j,hj,rfl,hz,Q1,Q2,Q3,HB⟩:=hrel
  have T1:=Zq Q1
  have T2:=Zq Q2
  have HB2:=Zq HB
  clear HB
  obtain⟨T1a,T1b,T1c⟩:=Q1
  obtain⟨T2a,T2b,T2c⟩:=Q2
  by_cases hjl:j<ls.length
  ·obtain⟨x,hx⟩:∃x,ls[j]?=some x:=⟨_,List.getElem?_eq_getElem hjl⟩
   have hnx:=Zj9 q ls j x hx
   have Hsplit:=Zq (Zij q ls (j+1))
   generalize chN q (ls.take j)=v at *
   obtain⟨r,er⟩:∃y,y=shN x v:=⟨_,rfl⟩
   have Hr:=Zq er.symm
   have Hnx:=Zq (show chN q (ls.take (j+1))=r by rw[hnx,er])
   have T3:=Zq Q3
   obtain⟨T3a,T3b,T3c⟩:=Q3
   obtain⟨g,o,rfl,hg,hrg⟩:=HK.out j x hx
   have hgr:∀w',Below w.heap.size w w'→(Zam 23 (.pointer (some ⟨g,o+j*32,none⟩))).run Tryz.prog w'=.ok (kv x) w':=fun w' hb=>by
    obtain⟨g',o',hp',hg',hr'⟩:=(HK.out.grow hb) j x hx
    cases hp'
    exact Zc5 w' g _ x hr'
   have hload:∀os d,(Zam 23 (.pointer (some ⟨g,o+j*32,none⟩))).run Tryz.prog (wr.plus os d)=.ok (kv x) (wr.plus os d):=fun os d=>hgr _ (Zag HB2.out _ _)
   have hji:(j:Int)<(ls.length:Int):=by omega
   have hj0:(0:Int)≤(j:Int):=by omega
   clear er hnx hz hx hgr hrg
   by_cases hr0:r=0
   ·have Hres:=Zq (Hsplit.out (by rw[Hnx.out];exact hr0))
    subst hr0
    have He1:=Zq (show errOf 0=7 from rfl)
    go_wp2_with fail
    refine Zal wr [0,1,2,3,4,5,6,7,8] [false,false,false,false,false,false,false,false,true] [9] [(23,#[.int .u8 0,.int .u8 0,.int .u8 0,.int .u8 0,.int .u8 0,.int .u8 0,.int .u8 0,.int .u8 0,.int .u8 0,.int .u8 0,.int .u8 0,.int .u8 0,.int .u8 0,.int .u8 0,.int .u8 0,.int .u8 0,.int .u8 0,.int .u8 0,.int .u8 0,.int .u8 0,.int .u8 0,.int .u8 0,.int .u8 0,.int .u8 0,.int .u8 0,.int .u8 0,.int .u8 0,.int .u8 0,.int .u8 0,.int .u8 0,.int .u8 0,.int .u8 0])] 10 (by kernel_rfl) rfl (by kernel_rfl) (by intro c a d v w h;cases d<;>exact h) ((Below.refl _ _).drew) ?_
    simp only[pick,List.getElem?_cons_succ,List.getElem?_cons_zero,List.drop_succ_cons,List.drop_zero]
    refine Zac (Zaa rfl) (by intro K o d hK;go_simp;exact hK _ (Below.refl _ _)) ?_
    refine Zac (Zaa rfl) (by intro K o d hK;go_simp;exact hK _ (Below.refl _ _)) ?_
    refine Zac (Zaa rfl) (by intro K o d hK;go_simp;exact hK _ (Below.refl _ _)) ?_
    refine Zac (Zaa rfl) (by intro K o d hK;go_simp;exact hK _ (Below.refl _ _)) ?_
    refine Zac (Zaa rfl) (by intro K o d hK;go_simp;exact hK _ (Below.refl _ _)) ?_
    refine Zai (v:=(.tuple #[kv 0,.int .i64 7])) (Zaa rfl) (by intro K o d hK;go_simp;refine(rshared_K x v 0 7 Hr.out He1.out _).mono ?_;rintro e w' ⟨rfl,hbw⟩;exact⟨_,rfl,hK _ hbw⟩) ?_
    refine Zac (Zaa rfl) (by intro K o d hK;go_simp;exact hK _ (Below.refl _ _)) ?_
    refine Zac (Zaa rfl) (by intro K o d hK;go_simp;exact hK _ (Below.refl _ _)) ?_
    refine Zay (Zaa rfl) (fun w=>by go_simp;rfl) ?_
    refine Zan ?_
    refine⟨Zba _ rfl rfl,fun g41x0 hg41x0 hn41x0=>?_⟩
    intro w41 hb41 hblk41
    have A41x0:=T1.out.grow hb41
    have c41x0:=T1.out.2.2
    have A41x1:=T2.out.grow hb41
    have c41x1:=T2.out.2.2
    have A41x2:=T3.out.grow hb41
    have c41x2:=T3.out.2.2
    have N41x0:=RowAt.of (hblk41 0 g41x0 _ _ rfl rfl)
    have B41x0:=HB2.out.trans (hb41.mono HB2.out.size)
    have s41:=HB2.out.size
    have le41x0:w.heap.size≤g41x0:=by omega
    have ne41x0x0:¬w.heap.size=g41x0:=by omega
    have nf41x0x0:¬g41x0=w.heap.size:=by omega
    have ne41x1x0:¬w.heap.size+1=g41x0:=by omega
    have nf41x1x0:¬g41x0=w.heap.size+1:=by omega
    have ne41x2x0:¬G=g41x0:=by omega
    have nf41x2x0:¬g41x0=G:=by omega
    have P41x0x0:=A41x0.other (show w.heap.size≠g41x0 by omega) (keyA 0)
    have P41x0x1:=A41x1.other (show w.heap.size+1≠g41x0 by omega) (keyA 0)
    have P41x0x2:=A41x2.other (show G≠g41x0 by omega) (keyA 0)
    have P41x0x3:=N41x0.set (keyA 0)
    have B41x1:=Zad B41x0 (show w.heap.size≤g41x0 by omega) (keyA 0)
    have Z41x0:=Zq P41x0x0
    have Z41x1:=Zq P41x0x1
    have Z41x2:=Zq P41x0x2
    have Z41x3:=Zq P41x0x3
    have HB41:=Zq B41x1
    clear hb41 hblk41 HB2 s41 T1a T1b T1c T2a T2b T2c T3a T3b T3c T1 T2 T3 c41x0 c41x1 c41x2 B41x0 B41x1 P41x0x0 P41x0x1 P41x0x2 P41x0x3 hg41x0 hn41x0
    obtain⟨A41x0a,A41x0b,A41x0c⟩:=A41x0
    obtain⟨A41x1a,A41x1b,A41x1c⟩:=A41x1
    obtain⟨A41x2a,A41x2b,A41x2c⟩:=A41x2
    obtain⟨N41x0a,N41x0b,N41x0c⟩:=N41x0
    go_wp2_with fail
    refine bodyPost_ret (v:=.tuple #[kv 0,.int .i64 7]) (ZaR Tryz.results74 _ _ _ rfl (by go_simp) (by go_simp) rfl) rfl ⟨by rw[Hres.out];rfl,?_⟩
    exact Zad HB41.out (by omega) _
   ·have He1:=Zq (Zcr hr0)
    have Hr0:=Zq hr0
    clear hr0
    go_wp2_with fail
    refine Zal wr [0,1,2,3,4,5,6,7,8] [false,false,false,false,false,false,false,false,true] [9] [(23,#[.int .u8 0,.int .u8 0,.int .u8 0,.int .u8 0,.int .u8 0,.int .u8 0,.int .u8 0,.int .u8 0,.int .u8 0,.int .u8 0,.int .u8 0,.int .u8 0,.int .u8 0,.int .u8 0,.int .u8 0,.int .u8 0,.int .u8 0,.int .u8 0,.int .u8 0,.int .u8 0,.int .u8 0,.int .u8 0,.int .u8 0,.int .u8 0,.int .u8 0,.int .u8 0,.int .u8 0,.int .u8 0,.int .u8 0,.int .u8 0,.int .u8 0,.int .u8 0])] 10 (by kernel_rfl) rfl (by kernel_rfl) (by intro c a d v w h;cases d<;>exact h) ((Below.refl _ _).drew) ?_
    simp only[pick,List.getElem?_cons_succ,List.getElem?_cons_zero,List.drop_succ_cons,List.drop_zero]
    refine Zac (Zaa rfl) (by intro K o d hK;go_simp;exact hK _ (Below.refl _ _)) ?_
    refine Zac (Zaa rfl) (by intro K o d hK;go_simp;exact hK _ (Below.refl _ _)) ?_
    refine Zac (Zaa rfl) (by intro K o d hK;go_simp;exact hK _ (Below.refl _ _)) ?_
    refine Zac (Zaa rfl) (by intro K o d hK;go_simp;exact hK _ (Below.refl _ _)) ?_
    refine Zac (Zaa rfl) (by intro K o d hK;go_simp;exact hK _ (Below.refl _ _)) ?_
    refine Zai (v:=(.tuple #[kv r,.int .i64 0])) (Zaa rfl) (by intro K o d hK;go_simp;refine(rshared_K x v r 0 Hr.out He1.out _).mono ?_;rintro e w' ⟨rfl,hbw⟩;exact⟨_,rfl,hK _ hbw⟩) ?_
    refine Zac (Zaa rfl) (by intro K o d hK;go_simp;exact hK _ (Below.refl _ _)) ?_
    refine Zac (Zaa rfl) (by intro K o d hK;go_simp;exact hK _ (Below.refl _ _)) ?_
    refine Zay (Zaa rfl) (fun w=>by go_simp;rfl) ?_
    refine Zan ?_
    refine⟨Zba _ rfl rfl,fun g21x0 hg21x0 hn21x0=>?_⟩
    intro w21 hb21 hblk21
    have A21x0:=T1.out.grow hb21
    have c21x0:=T1.out.2.2
    have A21x1:=T2.out.grow hb21
    have c21x1:=T2.out.2.2
    have A21x2:=T3.out.grow hb21
    have c21x2:=T3.out.2.2
    have N21x0:=RowAt.of (hblk21 0 g21x0 _ _ rfl rfl)
    have B21x0:=HB2.out.trans (hb21.mono HB2.out.size)
    have s21:=HB2.out.size
    have le21x0:w.heap.size≤g21x0:=by omega
    have ne21x0x0:¬w.heap.size=g21x0:=by omega
    have nf21x0x0:¬g21x0=w.heap.size:=by omega
    have ne21x1x0:¬w.heap.size+1=g21x0:=by omega
    have nf21x1x0:¬g21x0=w.heap.size+1:=by omega
    have ne21x2x0:¬G=g21x0:=by omega
    have nf21x2x0:¬g21x0=G:=by omega
    have P21x0x0:=A21x0.other (show w.heap.size≠g21x0 by omega) (keyA r)
    have P21x0x1:=A21x1.other (show w.heap.size+1≠g21x0 by omega) (keyA r)
    have P21x0x2:=A21x2.other (show G≠g21x0 by omega) (keyA r)
    have P21x0x3:=N21x0.set (keyA r)
    have B21x1:=Zad B21x0 (show w.heap.size≤g21x0 by omega) (keyA r)
    have P21x1x0:=P21x0x0.other (show w.heap.size≠G by omega) (keyA r)
    have P21x1x1:=P21x0x1.other (show w.heap.size+1≠G by omega) (keyA r)
    have P21x1x2:=P21x0x2.set (keyA r)
    have P21x1x3:=P21x0x3.other (show g21x0≠G by omega) (keyA r)
    have B21x2:=Zad B21x1 (show w.heap.size≤G by omega) (keyA r)
    have Z21x0:=Zq P21x1x0
    have Z21x1:=Zq P21x1x1
    have Z21x2:=Zq P21x1x2
    have Z21x3:=Zq P21x1x3
    have HB21:=Zq B21x2
    clear hb21 hblk21 HB2 s21 T1a T1b T1c T2a T2b T2c T3a T3b T3c T1 T2 T3 c21x0 c21x1 c21x2 B21x0 B21x1 B21x2 P21x0x0 P21x0x1 P21x0x2 P21x0x3 P21x1x0 P21x1x1 P21x1x2 P21x1x3 hg21x0 hn21x0
    obtain⟨A21x0a,A21x0b,A21x0c⟩:=A21x0
    obtain⟨A21x1a,A21x1b,A21x1c⟩:=A21x1
    obtain⟨A21x2a,A21x2b,A21x2c⟩:=A21x2
    obtain⟨N21x0a,N21x0b,N21x0c⟩:=N21x0
    go_wp2_with fail
    clear A21x0a A21x0b A21x0c A21x1a A21x1b A21x1c A21x2a A21x2b A21x2c N21x0a N21x0b N21x0c
    generalize World.setRow (World.setRow _ _ _) _ _=W22 at *
    obtain⟨Z21x0a,Z21x0b,Z21x0c⟩:=Z21x0.out
    obtain⟨Z21x1a,Z21x1b,Z21x1c⟩:=Z21x1.out
    obtain⟨Z21x2a,Z21x2b,Z21x2c⟩:=Z21x2.out
    obtain⟨Z21x3a,Z21x3b,Z21x3c⟩:=Z21x3.out
    go_roundw
    case rel=>exact⟨j+1,by omega,by go_num,by rw[Hnx.out];exact Hr0.out,Z21x0.out,Z21x1.out,by rw[Hnx.out];exact Z21x2.out,HB21.out⟩
    case measure=>simp[intOf];omega
  ·obtain rfl:j=ls.length:=by omega
   rw[List.take_length] at Q3 hz
   obtain⟨r,er⟩:∃y,chN q ls=y:=⟨_,rfl⟩
   rw[er] at Q3 hz
   have Hh:=Zq er
   have He:=Zq (Zcr hz)
   clear er hz
   obtain⟨T3a,T3b,T3c⟩:=Q3
   go_wp2_with fail
   refine bodyPost_ret (v:=.tuple #[kv r,.int .i64 0]) (ZaR Tryz.results74 _ _ _ rfl (by go_simp) (by go_simp) rfl) rfl ⟨by rw[Hh.out,He.out],?_⟩
   exact Zad HB2.out (by omega) _
theorem rchain_small (u q:Nat) (ls:List Nat) (cap:Nat) (p:Option Addr) (hq:ptN u%Fp.P=q) (hn:ls.length≤8) (w:World) (hk:KeysAt w p ls) :
  Calls Tryz.prog 74 #[kv u,.slice p ls.length cap] w fun x w'=>x=.returned (.tuple #[kv (chN q ls),.int .i64 (errOf (chN q ls))])∧Below w.heap.size w w':=by
 by_cases h:q=0
 ·subst h
  rw[ZgW]
  exact ZjH u ls cap p hq hn w
 ·exact ZlE u q ls cap p hq h hn w hk
end Go.Proofs.YtddmjddlbhdcpaaGreatDoor.F
