/-
  Part 10 of the texts behind the theorem.
-/
import Derived.Test.YtddmjddlbhdcpaaGreatDoorPart8
import Derived.Test.YtddmjddlbhdcpaaGreatDoorPart7
import Derived.Test.YtddmjddlbhdcpaaGreatDoorPart9
import Derived.Laws.BitsAllLaws
import Derived.Laws.Cover3
set_option maxHeartbeats 8000000
set_option maxRecDepth 100000
namespace Go.Proofs.YtddmjddlbhdcpaaGreatDoor
open Go.RowKit Go.Hold Go.Sh Go.Ch
theorem ZpW (s:List Int) (i j k l:Nat):ZeW s i j k l=(((s.set i (qr (s.getD i 0) (s.getD j 0) (s.getD k 0) (s.getD l 0)).a).set j (qr (s.getD i 0) (s.getD j 0) (s.getD k 0) (s.getD l 0)).b).set k (qr (s.getD i 0) (s.getD j 0) (s.getD k 0) (s.getD l 0)).c).set l (qr (s.getD i 0) (s.getD j 0) (s.getD k 0) (s.getD l 0)).d:=rfl
theorem ZbW {w:World} {g:Nat} {s:List Int} (h:RowAt w g (wosA s)) (i:Nat) (hi:i<s.length):w.cell? ⟨g,i,none⟩=some (.int .u32 (s.getD i 0)):=h.cellAt i (Zfk s i hi)
theorem ZiG (g i j k l:Nat) (s:List Int) (w:World) (hs:s.length=16) (hi:i<j) (hj:j<k) (hk:k<l) (hl:l<16) (h:RowAt w g (wosA s)) :
  Calls Tryz.prog 176 #[.pointer (some ⟨g,0,none⟩),.int .i64 (i:Int),.int .i64 (j:Int),.int .i64 (k:Int),.int .i64 (l:Int)] w fun e w'=>e=.returned (.tuple #[])∧Sets w g (wosA (ZeW s i j k l)) w':=by
 have H:=Zq h
 have Hq:=Zq (ZpW s i j k l)
 have Hs:=Zq hs
 have hi0:(0:Int)≤(i:Int):=by omega
 have hi1:(i:Int)<16:=by omega
 have hj0:(0:Int)≤(j:Int):=by omega
 have hj1:(j:Int)<16:=by omega
 have hk0:(0:Int)≤(k:Int):=by omega
 have hk1:(k:Int)<16:=by omega
 have hl0:(0:Int)≤(l:Int):=by omega
 have hl1:(l:Int)<16:=by omega
 have hci:=ZbW h i (by omega)
 have hcj:=ZbW h j (by omega)
 have hck:=ZbW h k (by omega)
 have hcl:=ZbW h l (by omega)
 have hgl:=h.2.2
 generalize s.getD i 0=a0 at *
 generalize s.getD j 0=b0 at *
 generalize s.getD k 0=c0 at *
 generalize s.getD l 0=d0 at *
 have n1:¬i=j:=by omega
 have n2:¬i=k:=by omega
 have n3:¬i=l:=by omega
 have n4:¬j=k:=by omega
 have n5:¬j=l:=by omega
 have n6:¬k=l:=by omega
 clear h hs
 go_enter Tryz.func176,Tryz.ntmps176
 go_wp2_with fail
 refine ZaC (fun w'=>∃ o d,w'=w.plus o d) (by kernel_rfl) (by kernel_rfl) ⟨#[],_,rfl⟩ ?_
 iterate 24 (refine Zat ⟨_,#[],0,rfl⟩ (Zaa rfl) (by rintro K _ ⟨o,d,rfl⟩ hK;go_simp;exact hK _ ⟨o,d,rfl⟩) ?_)
 refine Zaw ?_
 rintro _ ⟨o1,n1,rfl⟩
 have S1:=Zq ((Sets.refl H.out).grow (Zag (Below.refl _ _) o1 n1))
 clear hci hcj hck hcl
 generalize w.plus o1 n1=W1 at *
 go_wp2_with fail
 refine(ZsX _ _).mono ?_
 rintro e w' ⟨rfl,hwE⟩
 rw[hwE]
 clear hwE w'
 go_wp2_with fail
 refine(ZsZ _ _).mono ?_
 rintro e w' ⟨rfl,hwE⟩
 rw[hwE]
 clear hwE w'
 go_wp2_with fail
 refine(Zuu _ _).mono ?_
 rintro e w' ⟨rfl,hwE⟩
 rw[hwE]
 clear hwE w'
 go_wp2_with fail
 refine(Zt3 _ _).mono ?_
 rintro e w' ⟨rfl,hwE⟩
 rw[hwE]
 clear hwE w'
 go_wp2_with fail
 refine ZaI W1 [0,1,2,3,4,5,6,7,8,9,10,11,12,15,18,21] [true,true,true,true,true,true,true,true,true,true,true,true,true,true,true,true] [13,14,16,17,19,20,22,23] (by kernel_rfl) (by kernel_rfl) (by intro c a d v w h;cases d<;>exact h) ((Below.refl _ _).drew) ?_
 simp only[pick,List.getElem?_cons_succ,List.getElem?_cons_zero]
 iterate 16 (refine Zay (Zaa rfl) (fun w=>by go_simp;rfl) ?_)
 refine Zan ?_
 intro W2 hb2
 have S2:=Zq (S1.out.grow hb2)
 have R2:=S2.out.row H.out
 have hci:=ZbW R2 i (by rw[Hs.out];omega)
 have hcj:=ZbW R2 j (by rw[Hs.out];omega)
 have hck:=ZbW R2 k (by rw[Hs.out];omega)
 have hcl:=ZbW R2 l (by rw[Hs.out];omega)
 have hfi:=R2.frozenAt i
 have hfj:=R2.frozenAt j
 have hfk:=R2.frozenAt k
 have hfl:=R2.frozenAt l
 clear hb2 R2 S1
 go_wp2_with fail
 go_end0
 refine⟨rfl,?_⟩
 have h4:=(((S2.out.cell (i:=i) (v:=.int .u32 (qr a0 b0 c0 d0).a) H.out).cell (i:=j) (v:=.int .u32 (qr a0 b0 c0 d0).b) H.out).cell (i:=k) (v:=.int .u32 (qr a0 b0 c0 d0).c) H.out).cell (i:=l) (v:=.int .u32 (qr a0 b0 c0 d0).d) H.out
 rw[Zcq,Zcq,Zcq,Zcq,←Hq.out] at h4
 exact h4
theorem Zhf (g:Nat) (s:List Int) (w:World) (hs:s.length=16) (h:RowAt w g (wosA s)) :
  Calls Tryz.prog 165 #[.pointer (some ⟨g,0,none⟩)] w fun e w'=>e=.returned (.tuple #[])∧Sets w g (wosA (drnd s)) w':=by
 have H:=Zq h
 have Hs:=Zq hs
 clear h hs
 go_enter Tryz.func165,Tryz.ntmps165
 go_wp2_with fail
 go_loopw [4] (fun i wr=>∃ n:Nat,n≤4∧i=.int .i64 n∧Sets w g (wosA (cols s n)) wr) (fun i _=>4-(intOf i).toNat)
 case atStart=>exact⟨0,by decide,rfl,Sets.refl H.out⟩
 case round =>
  obtain⟨n,hn,rfl,hset⟩:=hrel
  by_cases hn4:n<4
  ·have hn0:(n:Int)<4:=by omega
   have h1:IntKind.i64.wrap (4+(n:Int))=((4+n:Nat):Int):=by rw[IntWalk.i64_in _ (by omega)];omega
   have h2:IntKind.i64.wrap (8+(n:Int))=((8+n:Nat):Int):=by rw[IntWalk.i64_in _ (by omega)];omega
   have h3:IntKind.i64.wrap (12+(n:Int))=((12+n:Nat):Int):=by rw[IntWalk.i64_in _ (by omega)];omega
   have HQ:=Zq (ZiG g n (4+n) (8+n) (12+n) (cols s n) wr (by rw[ZcE,Hs.out]) (by omega) (by omega) (by omega) (by omega) (hset.row H.out))
   have HE:=Zq (show cols s (n+1)=ZeW (cols s n) n (4+n) (8+n) (12+n) from rfl)
   generalize ((4+n:Nat):Int)=x1 at *
   generalize ((8+n:Nat):Int)=x2 at *
   generalize ((12+n:Nat):Int)=x3 at *
   have HS:=Zq hset
   clear hset
   go_wp2_with fail
   refine HQ.out.mono ?_
   rintro e W ⟨rfl,hW⟩
   have HW:=Zq (HS.out.trans H.out hW)
   clear hW
   go_wp2_with fail
   go_roundw
   case rel=>exact⟨n+1,by omega,by go_num,by rw[HE.out];exact HW.out⟩
   case measure=>simp[intOf];omega
  ·obtain rfl:n=4:=by omega
   have HS:=Zq hset
   clear hset
   rw[show ((4:Nat):Int)=4 from rfl]
   go_wp2_with fail
   obtain⟨W2,eW2⟩:∃x,x=wr:=⟨_,rfl⟩
   rw[←eW2] at HS ⊢
   clear eW2
   go_loopw [17] (fun i wr=>∃ n:Nat,n≤4∧i=.int .i64 n∧Sets w g (wosA (dias (cols s 4) n)) wr) (fun i _=>4-(intOf i).toNat)
   case atStart=>exact⟨0,by decide,rfl,HS.out⟩
   case round =>
    obtain⟨n,hn,rfl,hset⟩:=hrel
    by_cases hn4:n<4
    ·have hn0:(n:Int)<4:=by omega
     have h1:IntKind.i64.wrap ((n:Int)+1)=((n+1:Nat):Int):=by rw[IntWalk.i64_in _ (by omega)];omega
     have h2:IntKind.i64.wrap ((n:Int)+2)=((n+2:Nat):Int):=by rw[IntWalk.i64_in _ (by omega)];omega
     have h3:IntKind.i64.wrap ((n:Int)+3)=((n+3:Nat):Int):=by rw[IntWalk.i64_in _ (by omega)];omega
     have t1:((n+1:Nat):Int).tmod 4=(((n+1)%4:Nat):Int):=rfl
     have t2:((n+2:Nat):Int).tmod 4=(((n+2)%4:Nat):Int):=rfl
     have t3:((n+3:Nat):Int).tmod 4=(((n+3)%4:Nat):Int):=rfl
     have m1:IntKind.i64.wrap (4+(((n+1)%4:Nat):Int))=((4+(n+1)%4:Nat):Int):=by rw[IntWalk.i64_in _ (by omega)];omega
     have m2:IntKind.i64.wrap (8+(((n+2)%4:Nat):Int))=((8+(n+2)%4:Nat):Int):=by rw[IntWalk.i64_in _ (by omega)];omega
     have m3:IntKind.i64.wrap (12+(((n+3)%4:Nat):Int))=((12+(n+3)%4:Nat):Int):=by rw[IntWalk.i64_in _ (by omega)];omega
     have HQ:=Zq (ZiG g n (4+(n+1)%4) (8+(n+2)%4) (12+(n+3)%4) (dias (cols s 4) n) wr (by rw[Zd6,ZcE,Hs.out]) (by omega) (by omega) (by omega) (by omega) (hset.row H.out))
     have HE:=Zq (show dias (cols s 4) (n+1)=ZeW (dias (cols s 4) n) n (4+(n+1)%4) (8+(n+2)%4) (12+(n+3)%4) from rfl)
     generalize ((4+(n+1)%4:Nat):Int)=x1 at *
     generalize ((8+(n+2)%4:Nat):Int)=x2 at *
     generalize ((12+(n+3)%4:Nat):Int)=x3 at *
     generalize (((n+1)%4:Nat):Int)=y1 at *
     generalize (((n+2)%4:Nat):Int)=y2 at *
     generalize (((n+3)%4:Nat):Int)=y3 at *
     generalize ez1:((n+1:Nat):Int)=z1 at *
     have Ez1:=Zq ez1
     clear ez1
     generalize ((n+2:Nat):Int)=z2 at *
     generalize ((n+3:Nat):Int)=z3 at *
     have HS:=Zq hset
     clear hset
     go_wp2_with fail
     refine HQ.out.mono ?_
     rintro e W ⟨rfl,hW⟩
     have HW:=Zq (HS.out.trans H.out hW)
     clear hW
     go_wp2_with fail
     go_roundw
     case rel=>exact⟨n+1,by omega,by rw[Ez1.out],by rw[HE.out];exact HW.out⟩
     case measure=>have:=Ez1.out;simp[intOf];omega
    ·obtain rfl:n=4:=by omega
     have HS:=Zq hset
     clear hset
     go_wp2_with fail
     go_end0
     exact⟨rfl,HS.out⟩
theorem ZoV (s:List Int) (hs:s.length=16) (w:World) :
  Calls Tryz.prog 166 #[.agg (wosA s)] w fun e w'=>e=.returned (.agg (bysA (outB s)))∧Below w.heap.size w w':=by
 have hsz:=Zc1 hs
 go_enter Tryz.func166,Tryz.ntmps166
 go_wp2_with fail
 generalize hW:World.alloc _ _=W1
 have R0:=Zq (show RowAt W1 w.heap.size (wosA s) by rw[←hW];clear hW;exact⟨by go_simp,by go_simp,by go_simp⟩)
 have Q0:=Zq (show RowAt W1 (w.heap.size+1) (bysA (outP s 0)) by rw[←hW,Zf4];clear hW;exact⟨by go_simp,by go_simp;rfl,by go_simp⟩)
 have K0:=Zq (show RowAt W1 (w.heap.size+1+1) (bysA (outP s 0)) by rw[←hW,Zf4];clear hW;exact⟨by go_simp,by go_simp;rfl,by go_simp⟩)
 have B0:=Zq (show Below w.heap.size w W1 by rw[←hW];repeat (first | apply Zag | apply Zab | apply Below.drew | exact Below.refl _ _))
 clear hW
 go_loopw [5] (fun i wr=>∃ k:Nat,k≤64∧i=.int .i64 k∧RowAt wr (w.heap.size+1+1) (bysA (outP s k))∧Below (w.heap.size+1+1) W1 wr) (fun i _=>64-(intOf i).toNat)
 case atStart=>exact⟨0,by decide,rfl,K0.out,Below.refl _ _⟩
 case round =>
  obtain⟨k,hk,rfl,hrow,hbel⟩:=hrel
  by_cases hk64:k<64
  ·have hk0:(0:Int)≤(k:Int):=by omega
   have hk1:(k:Int)<64:=by omega
   have hq:(k:Int).tdiv 4=((k/4:Nat):Int):=rfl
   have hm:(k:Int).tmod 4=((k%4:Nat):Int):=rfl
   have hc:=ZbW (R0.out.keep hbel (by omega)) (k/4) (by omega)
   have hck:=hrow.cellAt k (ZaB _ k (by rw[Zby];exact hk64))
   have hfk:=hrow.frozenAt k
   have Hset:=Zq (Zkc s k hk64)
   have h0:(0:Int)≤((k/4:Nat):Int):=by omega
   have h8:((k/4:Nat):Int)<16:=by omega
   obtain⟨m,em⟩:∃y,y=k%4*8:=⟨_,rfl⟩
   have h1:IntKind.i64.wrap (((k%4:Nat):Int)*8)=(m:Int):=by rw[IntWalk.i64_in _ (by omega)];omega
   have hm0:(0:Int)≤(m:Int):=by omega
   have hm1:(m:Int)≤32:=by omega
   obtain⟨v,ev⟩:∃v,v=oB s k:=⟨_,rfl⟩
   rw[←ev] at Hset
   have hv:s.getD (k/4) 0/2^m%256=(v:Int):=by rw[ev,Zl2,em];rfl
   clear em ev
   generalize s.getD (k/4) 0=x at hc hv
   have hqw:IntKind.i64.wrap ((k/4:Nat):Int)=((k/4:Nat):Int):=IntWalk.i64_in _ (by omega)
   generalize k/4=q at *
   generalize k%4=r4 at *
   have Hrow:=Zq hrow
   have Hbel:=Zq hbel
   clear hrow hbel
   go_wp2_with fail
   go_roundw
   case rel =>
    refine⟨k+1,by omega,by go_num,?_,?_⟩
    ·rw[←Hset.out,←Zca];exact Hrow.out.setCell _ _
    ·exact Hbel.out.setCell (p:=⟨_,_,none⟩) (Nat.le_refl _) _
   case measure=>simp[intOf];omega
  ·obtain rfl:k=64:=by omega
   rw[Zj0] at hrow
   obtain⟨q1,q2,q3⟩:=Q0.out.keep hbel (by omega)
   obtain⟨r1,r2,r3⟩:=hrow
   have hz:=Zae (Zby s 0)
   have hy:=Zae (Zc8 s)
   have Hbel:=Zq hbel
   clear hbel
   go_wp2_with fail
   refine bodyPost_ret (v:=.agg (bysA (outB s))) (Zd3 Tryz.results166 hy _ _ _ rfl (by go_simp) (by go_simp)) rfl ⟨rfl,?_⟩
   exact Zad (B0.out.trans (Hbel.out.mono (by omega))) (by omega) _
theorem ZhD (k n:List Nat) (c:Int) (hk:k.length=32) (hkb:∀i,k.getD i 0<256) (hn:n.length=12) (hnb:∀i,n.getD i 0<256) (w:World) :
  Calls Tryz.prog 164 #[.agg (bysA k),.agg (bysA n),.int .u32 c] w fun e w'=>e=.returned (.agg (wosA (fst k n c)))∧Below w.heap.size w w':=by
 have hks:=Zae hk
 have hns:=Zae hn
 have hcs:=Zc1 ZfH
 go_enter Tryz.func164,Tryz.ntmps164
 go_wp2_with fail
 generalize hW:World.alloc _ _=W1
 have K1:=Zq (show RowAt W1 w.heap.size (bysA k) by rw[←hW];clear hW;exact⟨by go_simp,by go_simp,by go_simp⟩)
 have N1:=Zq (show RowAt W1 (w.heap.size+1) (bysA n) by rw[←hW];clear hW;exact⟨by go_simp,by go_simp,by go_simp⟩)
 obtain⟨z0,hz0,hR0⟩:∃c:Array Value,c.size=16∧RowAt W1 (w.heap.size+1+1) c:=by rw[←hW];clear hW;exact⟨wosA (List.replicate 16 0),by rw[Zc3];rfl,by go_simp,by go_simp;rfl,by go_simp⟩
 have C1:=Zq (show RowAt W1 (w.heap.size+1+1+1) (wosA cst0) by rw[←hW];clear hW;exact⟨by go_simp,by go_simp,by go_simp⟩)
 have B1:=Zq (show Below w.heap.size w W1 by rw[←hW];repeat (first | apply Zag | apply Zab | apply Below.drew | exact Below.refl _ _))
 have R1:=Zq hR0
 clear hW hR0
 have l0:w.heap.size≤w.heap.size+1+1+1:=by omega
 have l1:w.heap.size≤w.heap.size+1+1:=by omega
 have e0:w.heap.size≠w.heap.size+1+1+1:=by omega
 have e1:w.heap.size+1≠w.heap.size+1+1+1:=by omega
 have e2:w.heap.size+1+1≠w.heap.size+1+1+1:=by omega
 generalize w.heap.size+1+1+1=gc at *
 generalize w.heap.size+1+1=gr at *
 generalize w.heap.size+1=gn at *
 have HP:=Zq (ZuZ gc w.heap.size 4 32 32 cst0 k W1 hk.symm ZfH ZnX (by decide) hkb C1.out (ZaH K1.out) e0)
 refine HP.out.mono ?_
 rintro e W2 ⟨rfl,hS2⟩
 have N2:=Zq (hS2.old N1.out e1)
 have R2:=Zq (hS2.old R1.out e2)
 have C2:=Zq (hS2.row C1.out)
 have B2:=Zq (hS2.below B1.out l0 B1.out.size)
 clear hS2 HP K1 N1 R1 C1 B1
 have hc12:=ZbW C2.out 12 (by rw[Zbu];decide)
 have hf12:=C2.out.frozenAt 12
 have S3:=Zq ((Sets.refl C2.out).cell (i:=12) (v:=.int .u32 c) C2.out)
 go_wp2_with fail
 generalize hW:World.setCell _ _ _=W3
 rw[hW] at S3
 clear hW hc12 hf12
 have hS3:=S3.out
 rw[Zcq] at hS3
 have N3:=Zq (hS3.old N2.out e1)
 have R3:=Zq (hS3.old R2.out e2)
 have C3:=Zq (show RowAt W3 gc (wosA (mid k c)) from hS3.row C2.out)
 have B3:=Zq (hS3.below B2.out l0 B2.out.size)
 clear hS3 S3 N2 R2 C2 B2
 have HP:=Zq (ZuZ gc gn 13 12 12 (mid k c) n W3 hn.symm (Zgm k c) (ZoS k c) (by decide) hnb C3.out (ZaH N3.out) e1)
 rw[ZpF] at HP
 refine HP.out.mono ?_
 rintro e W4 ⟨rfl,hS4⟩
 obtain⟨r1,r2,r3⟩:=hS4.old R3.out e2
 obtain⟨c1,c2,c3⟩:=hS4.row C3.out
 have B4:=Zq (hS4.below B3.out l0 B3.out.size)
 have hfz:=Zc1 (ZdJ k n c)
 clear hS4 HP N3 R3 C3 B3
 go_wp2_with fail
 refine bodyPost_ret (v:=.agg (wosA (fst k n c))) (Zlo Tryz.results164 hfz _ _ _ rfl (by go_simp) (by go_simp)) rfl ⟨rfl,?_⟩
 exact Zad B4.out l1 _
theorem ZlJ (k n:List Nat) (c:Nat) (hk:k.length=32) (hkb:∀i,k.getD i 0<256) (hn:n.length=12) (hnb:∀i,n.getD i 0<256) (w:World) :
  Calls Tryz.prog 139 #[.agg (bysA k),.agg (bysA n),.int .u32 (c:Int)] w fun e w'=>e=.returned (.agg (bysA (blk k n c)))∧Below w.heap.size w w':=by
 have hks:=Zae hk
 have hns:=Zae hn
 have HF:=Zq (ZhD k n (c:Int) hk hkb hn hnb)
 have Hb:=Zq (Zqt k n c)
 have hlf:=ZdJ k n (c:Int)
 generalize fst k n (c:Int)=F at *
 have hFs:=Zc1 hlf
 have Hlf:=Zq hlf
 clear hlf hk hkb hn hnb
 go_enter Tryz.func139,Tryz.ntmps139
 go_wp2_with fail
 generalize hW:World.alloc _ _=W1
 obtain⟨z0,hz0,hR0⟩:∃c:Array Value,c.size=64∧RowAt W1 (w.heap.size+1+1) c:=by rw[←hW];clear hW;exact⟨bysA (zs 64),by rw[Zaj];rfl,by go_simp,by go_simp;rfl,by go_simp⟩
 have R1:=Zq hR0
 have B1:=Zq (show Below w.heap.size w W1 by rw[←hW];repeat (first | apply Zag | apply Zab | apply Below.drew | exact Below.refl _ _))
 clear hW hR0
 have l1:w.heap.size≤w.heap.size+1+1:=by omega
 generalize w.heap.size+1+1=gr at *
 refine(HF.out _).mono ?_
 rintro e W2 ⟨rfl,hb2⟩
 have R2:=Zq (R1.out.grow hb2)
 have B2:=Zq (B1.out.trans (hb2.mono B1.out.size))
 clear hb2 R1 B1 HF
 have l2:w.heap.size≤W2.heap.size:=B2.out.size
 have l3:gr<W2.heap.size:=R2.out.2.2
 go_wp2_with fail
 generalize hW:World.alloc _ _=W3
 have F3:=Zq (show RowAt W3 W2.heap.size (wosA F) by rw[←hW];clear hW;exact⟨by go_simp,by go_simp,by go_simp⟩)
 have C3:=Zq (show RowAt W3 (W2.heap.size+1) (wosA F) by rw[←hW];clear hW;exact⟨by go_simp,by go_simp,by go_simp⟩)
 have R3:=Zq (show RowAt W3 gr z0 by rw[←hW];exact R2.out.grow (Zab (Zab (Below.refl _ _) _) _))
 have B3:=Zq (show Below w.heap.size w W3 by rw[←hW];exact Zab (Zab B2.out _) _)
 clear hW R2 B2
 have e1:gr≠W2.heap.size+1:=by omega
 have e2:W2.heap.size≠W2.heap.size+1:=by omega
 have l4:w.heap.size≤W2.heap.size+1:=by omega
 generalize W2.heap.size+1=gc at *
 generalize W2.heap.size=gf at *
 go_loopw [15] (fun i wr=>∃ m:Nat,m≤10∧i=.int .i64 m∧Sets W3 gc (wosA (ZdO F m)) wr) (fun i _=>10-(intOf i).toNat)
 case atStart=>exact⟨0,by decide,rfl,Sets.refl C3.out⟩
 case round =>
  obtain⟨m,hm,rfl,hset⟩:=hrel
  by_cases hm10:m<10
  ·have hm0:(m:Int)<10:=by omega
   have HQ:=Zq (Zhf gc (ZdO F m) wr (by rw[ZcS,Hlf.out]) (hset.row C3.out))
   have HS:=Zq hset
   clear hset
   go_wp2_with fail
   refine HQ.out.mono ?_
   rintro e W ⟨rfl,hW⟩
   have HW:=Zq (HS.out.trans C3.out hW)
   clear hW
   go_wp2_with fail
   go_roundw
   case rel=>exact⟨m+1,by omega,by go_num,HW.out⟩
   case measure=>simp[intOf];omega
  ·obtain rfl:m=10:=by omega
   have hlD:(ZdO F 10).length=16:=by rw[ZcS,Hlf.out]
   have HlD:=Zq hlD
   generalize ZdO F 10=D at *
   have HS:=Zq hset
   clear hset hlD
   rw[show ((10:Nat):Int)=10 from rfl]
   go_wp2_with fail
   have S4:=Zq (show Sets W3 gc (wosA (sumW D F 0)) wr by rw[ZlO D F HlD.out];exact HS.out)
   obtain⟨W4,eW4⟩:∃x,x=wr:=⟨_,rfl⟩
   rw[←eW4] at S4 ⊢
   clear eW4 HS
   go_loopw [19] (fun i wr=>∃ m:Nat,m≤16∧i=.int .i64 m∧Sets W3 gc (wosA (sumW D F m)) wr) (fun i _=>16-(intOf i).toNat)
   case atStart=>exact⟨0,by decide,rfl,S4.out⟩
   case round =>
    obtain⟨m,hm,rfl,hset⟩:=hrel
    by_cases hm16:m<16
    ·have hm0:(m:Int)<16:=by omega
     have hm1:(0:Int)≤(m:Int):=by omega
     have hrow:=hset.row C3.out
     have hca:=hrow.cellAt m (ZcG _ _ (Ze1 D F m m hm16))
     rw[if_neg (by omega)] at hca
     have hcb:=ZbW (hset.old F3.out e2) m (by rw[Hlf.out];exact hm16)
     have Hset:=Zq (ZpH D F m hm16)
     generalize D.getD m 0=xd at hca Hset
     generalize F.getD m 0=xf at hcb Hset
     have hgl:=hrow.2.2
     have hgf:=(hset.old F3.out e2).2.2
     have HS:=Zq hset
     clear hset hrow
     go_wp2_with fail
     refine Zal wr [0,1,2,3,4,5,6,7] [false,false,false,false,false,false,false,false] [] [] 8 (by kernel_rfl) rfl (by kernel_rfl) (by intro c a d v w h;cases d<;>exact h) ((Below.refl _ _).drew) ?_
     simp only[pick,List.getElem?_cons_succ,List.getElem?_cons_zero,List.drop_succ_cons,List.drop_zero]
     iterate 8 (refine Zac (Zaa rfl) (by intro K o d hK;go_simp;exact hK _ (Below.refl _ _)) ?_)
     refine Zan ?_
     intro w2 hb2 _
     have S2:=Zq (HS.out.grow hb2)
     have hc2:w2.cell? ⟨gc,m,none⟩=some (.int .u32 xd):=by rw[hb2.cell hgl];exact hca
     have hf2:=(S2.out.row C3.out).frozenAt m
     clear hb2 hca hcb HS
     go_wp2_with fail
     go_roundw
     case rel =>
      refine⟨m+1,by omega,by go_num,?_⟩
      rw[←Hset.out,←Zcq];exact S2.out.cell C3.out
     case measure=>simp[intOf];omega
    ·obtain rfl:m=16:=by omega
     rw[Zpf] at hset
     obtain⟨c1,c2,c3⟩:=hset.row C3.out
     have hz:=Zc1 (ZeS D F)
     have HQ:=Zq (ZoV (Zdy D F) (ZeS D F) wr)
     have R5:=Zq (hset.old R3.out e1)
     have B5:=Zq (hset.below B3.out l4 B3.out.size)
     clear hset
     go_wp2_with fail
     refine HQ.out.mono ?_
     rintro e W6 ⟨rfl,hb6⟩
     obtain⟨r1,r2,r3⟩:=R5.out.grow hb6
     have B6:=Zq (B5.out.trans (hb6.mono B5.out.size))
     have hy:=Zae (Zc8 (Zdy D F))
     clear hb6
     go_wp2_with fail
     refine bodyPost_ret (v:=.agg (bysA (outB (Zdy D F)))) (Zd3 Tryz.results139 hy _ _ _ rfl (by go_simp) (by go_simp)) rfl ⟨by rw[Hb.out],?_⟩
     exact Zad B6.out l1 _
open Go.RowKit Go.Hold Go.Sh
theorem Zs4 (r l:List Nat) (u:Nat) (h:u+l.length≤r.length):setL (bysA r) u (bys l)=bysA (r.take u++l++r.drop (u+l.length)):=by
 apply Array.ext_getElem?
 intro i
 rw[ZcQ,Zaz,Zaj]
 have hn:(r.take u++l++r.drop (u+l.length)).length=r.length:=by simp;omega
 by_cases hi:i<r.length
 ·rw[ZaB (r.take u++l++r.drop (u+l.length)) i (by rw[hn];exact hi)]
  by_cases h1:u≤i∧i<u+l.length
  ·rw[if_pos (by omega)]
   simp only[bys,List.getElem?_map,List.getD]
   rw[List.append_assoc,List.getElem?_append_right (by simp;omega),List.getElem?_append_left (by simp;omega)]
   simp only[List.length_take]
   rw[show min u r.length=u by omega,List.getElem?_eq_getElem (by omega)]
   rfl
  ·rw[if_neg (by omega),ZaB _ i hi]
   congr 3
   simp only[List.getD]
   by_cases h2:i<u
   ·rw[List.append_assoc,List.getElem?_append_left (by simp;omega),List.getElem?_take,if_pos h2]
   ·rw[List.getElem?_append_right (by simp;omega),List.getElem?_drop]
    congr 2
    simp only[List.length_append,List.length_take];omega
 ·rw[if_neg (by omega),Array.getElem?_eq_none (by rw[Zaj];omega),Array.getElem?_eq_none (by rw[Zaj,hn];omega)]
theorem Zfv {W:World} {g u c2 cap d s k:Nat} {p:Option Addr} {r l:List Nat} (h:RowAt W g (bysA r)) (hu:u≤r.length) (hd:d=r.length-u) (hs:s=l.length) (hk:k=min l.length (r.length-u)) (hB:Bs0 W p l) :
  (Builtin.copy_ #[38,38] 3 #[.slice (some ⟨g,u,none⟩) d c2,.slice p s cap]).run Tryz.prog W=.ok (.int .i64 (k:Int)) (W.setRow g (bysA (r.take u++l.take k++r.drop (u+k)))):=by
 subst hd hs
 rcases hB with rfl | ⟨b,o,rfl,hB⟩
 ·have hk0:k=0:=by simpa using hk
  subst hk0
  rw[List.take_zero,List.append_nil,Nat.add_zero,List.take_append_drop,ZbK h]
  exact Zef W _ _ _ _ _
 ·have hl:(bys (l.take k)).length=k:=by rw[Zaz,List.length_take];omega
  have hi:(Tryz.prog.info? 5).map (·.size)=some 1:=by kernel_rfl
  have:=run_copy_cells (P:=Tryz.prog) W 38 38 3 5 g u (r.length-u) c2 ⟨b,o,none⟩ l.length cap (bys (l.take k)) Tryz.underlying38 hi (by rw[hl,hk])
   (fun j v hv=>by
    have hj:j<k:=by have:=(List.getElem?_eq_some_iff.1 hv).1;omega
    rw[Addr.add_mid,hB.2 j (by omega),←hv]
    simp only[bys,List.getElem?_map,List.getElem?_take,if_pos hj,List.getD]
    rw[List.getElem?_eq_getElem (by omega)];rfl)
   (fun j hj=>by rw[h.cellAt (u+j) (Array.getElem?_eq_getElem (by rw[Zaj];omega))];rfl)
   (fun j _=>h.frozenAt _) (Zdd _)
  rw[this,hl,ZbP _ _ h,Zs4 _ _ _ (by rw[List.length_take];omega)]
  rw[show (l.take k).length=k by rw[List.length_take];omega]
  rfl
open Go.RowKit Go.Hold Go.Sh Go.Ch
theorem ZlH (n:Nat) (hn:n≤1000000) (w:World):Calls Tryz.prog 138 #[.int .i64 (n:Int)] w fun e w'=>e=.returned (.int .i64 (((n+63)/64:Nat):Int))∧w'=w:=by
 have h1:IntKind.i64.wrap ((n:Int)+64)=((n+64:Nat):Int):=by rw[IntWalk.i64_in _ (by omega)];omega
 have h2:IntKind.i64.wrap (((n+64:Nat):Int)-1)=((n+63:Nat):Int):=by rw[IntWalk.i64_in _ (by omega)];omega
 have h3:((n+63:Nat):Int).tdiv 64=(((n+63)/64:Nat):Int):=rfl
 have h4:IntKind.i64.wrap (((n+63)/64:Nat):Int)=(((n+63)/64:Nat):Int):=by rw[IntWalk.i64_in _ (by omega)]
 generalize (((n+63)/64:Nat):Int)=x at *
 generalize ((n+63:Nat):Int)=y at *
 generalize ((n+64:Nat):Int)=z at *
 go_enter Tryz.func138,Tryz.ntmps138
 go_wp2_with fail
 go_ret
 exact⟨rfl,rfl⟩
theorem Zpv (k n:List Nat) (c m:Nat) (hk:k.length=32) (hkb:∀i,k.getD i 0<256) (hn:n.length=12) (hnb:∀i,n.getD i 0<256) (hm:m≤65536) (hc:c+(m+63)/64≤4294967296) (hc':c<4294967296) (w:World) :
  Calls Tryz.prog 108 #[.agg (bysA k),.agg (bysA n),.int .u32 (c:Int),.int .i64 (m:Int)] w fun e w'=>∃ g,e=.returned (.tuple #[.slice (some ⟨g,0,none⟩) m m,.int .i64 0])∧RowAt w' g (bysA (strm k n c m))∧w.heap.size≤g∧Below w.heap.size w w':=by
 have hks:=Zae hk
 have hns:=Zae hn
 have h3:¬(m:Int)<0:=by omega
 have h4:¬(65536:Int)<(m:Int):=by omega
 have HB:=Zq (ZlH m (by omega))
 obtain⟨x,ex⟩:∃x,x=(m+63)/64:=⟨_,rfl⟩
 rw[←ex] at HB hc
 have h5:IntKind.u64.wrap (c:Int)=(c:Int):=IntWalk.u64_in _ (by omega)
 have h6:IntKind.u64.wrap (x:Int)=(x:Int):=IntWalk.u64_in _ (by omega)
 have h7:IntKind.u64.wrap ((c:Int)+(x:Int))=((c+x:Nat):Int):=by rw[IntWalk.u64_in _ (by omega)];omega
 have h8:¬(4294967296:Int)<((c+x:Nat):Int):=by omega
 generalize ((c+x:Nat):Int)=y at *
 have Ex:=Zq ex
 have Hc:=Zq hc
 have Hm:=Zq hm
 have hxb:(x:Int)≤2000:=by omega
 clear ex hc hm
 have hmk:=fun W=>ZfA W m (by have:=Hm.out;omega)
 have HBl:=Zq (fun c'=>ZlJ k n c' hk hkb hn hnb)
 clear hk hkb hn hnb
 go_enter Tryz.func108,Tryz.ntmps108
 go_wp2_with fail
 refine(HB.out _).mono ?_
 rintro e w' ⟨rfl,hwE⟩
 rw[hwE]
 clear hwE w'
 go_wp2_with fail
 generalize hW:World.alloc _ _=W1
 have K1:=Zq (show RowAt W1 w.heap.size (bysA k) by rw[←hW];clear hW;exact⟨by go_simp,by go_simp,by go_simp⟩)
 have N1:=Zq (show RowAt W1 (w.heap.size+1) (bysA n) by rw[←hW];clear hW;exact⟨by go_simp,by go_simp,by go_simp⟩)
 have S1:=Zq (show RowAt W1 (w.heap.size+1+1) (bysA (strP k n c m (64*0))) by rw[←hW,Nat.mul_zero,ZnF];clear hW;exact⟨by go_simp,by go_simp,by go_simp⟩)
 have B1:=Zq (show Below w.heap.size w W1 by rw[←hW];repeat (first | apply Zag | apply Zab | apply Below.drew | exact Below.refl _ _))
 clear hW
 have l0:w.heap.size≤w.heap.size+1+1:=by omega
 have e0:w.heap.size≠w.heap.size+1+1:=by omega
 have e1:w.heap.size+1≠w.heap.size+1+1:=by omega
 generalize w.heap.size+1+1=g at *
 generalize w.heap.size+1=gn at *
 go_loopw [29] (fun i wr=>∃ j:Nat,j≤x∧i=.int .i64 j∧Sets W1 g (bysA (strP k n c m (64*j))) wr) (fun i _=>x-(intOf i).toNat)
 case atStart=>exact⟨0,Nat.zero_le _,rfl,Sets.refl S1.out⟩
 case round =>
  obtain⟨j,hj,rfl,hset⟩:=hrel
  by_cases hjx:j<x
  ·have hj0:(j:Int)<(x:Int):=by omega
   have hju:64*j<m:=by have:=Ex.out;omega
   have hjw:IntKind.u32.wrap (j:Int)=(j:Int):=IntWalk.u32_in _ (by have:=Hm.out;omega)
   obtain⟨cj,ecj⟩:∃y,y=c+j:=⟨_,rfl⟩
   have hcj:ZaP (c:Int) (j:Int)=(cj:Int):=by unfold ZaP;rw[IntWalk.u32_in _ (by have:=Hc.out;omega),ecj];omega
   obtain⟨k1,k2,k3⟩:=hset.old K1.out e0
   obtain⟨n1,n2,n3⟩:=hset.old N1.out e1
   have hgl:=(hset.row S1.out).2.2
   obtain⟨u,eu⟩:∃u,u=64*j:=⟨_,rfl⟩
   have hjm:IntKind.i64.wrap ((j:Int)*64)=(u:Int):=by rw[IntWalk.i64_in _ (by have:=Hm.out;omega),eu];omega
   have hsl:=ZhJ g 0 m m u (by omega)
   rw[show adv 0 u m=u by unfold adv;rw[if_neg (by omega),Nat.zero_add]] at hsl
   obtain⟨t,et⟩:∃t,t=min 64 (m-u):=⟨_,rfl⟩
   have Hst:=Zq (ZnO k n c m j t hju (by rw[et,eu]))
   rw[←ecj,←eu] at Hst
   rw[←eu] at hset
   have hPl:=Zde k n c m u
   have hbl:=ZdB k n cj
   have hbz:=Zae hbl
   have HBj:=Zq (HBl.out cj wr)
   generalize blk k n cj=b at *
   generalize strP k n c m u=P at *
   have Et:=Zq et
   have Eu:=Zq eu
   have HPl:=Zq hPl
   have Hbl:=Zq hbl
   have Hju:=Zq hju
   have HS:=Zq hset
   clear hset ecj eu et hPl hbl hju
   go_wp2_with fail
   refine HBj.out.mono ?_
   rintro e W2 ⟨rfl,hb2⟩
   have S2:=Zq (HS.out.grow hb2)
   clear hb2 k1 k2 k3 n1 n2 n3
   go_wp2_with fail
   generalize hW:World.alloc _ _=W3
   have b3:=Zq (show RowAt W3 W2.heap.size (bysA b) by rw[←hW];clear hW;exact⟨by go_simp,by go_simp,by go_simp⟩)
   have S3:=Zq (show Sets W1 g (bysA P) W3 by rw[←hW];exact S2.out.grow (Zab (Below.refl _ _) _))
   clear hW S2
   generalize W2.heap.size=gb at *
   refine ZaI W3 [0,1,2,3,4] [true,true,true,true,true] [5] (by kernel_rfl) (by kernel_rfl) (by intro c a d v w h;cases d<;>exact h) ((Below.refl _ _).drew) ?_
   simp only[pick,List.getElem?_cons_succ,List.getElem?_cons_zero]
   iterate 5 (refine Zay (Zaa rfl) (fun w=>by go_simp;rfl) ?_)
   refine Zan ?_
   intro W4 hb4
   have S4:=Zq (S3.out.grow hb4)
   have hcp:=Zfv (c2:=m-u) (cap:=64) (d:=m-u) (s:=64) (u:=u) (k:=t) (S4.out.row S1.out) (by rw[HPl.out,Eu.out];have:=Hju.out;omega) (by rw[HPl.out]) Hbl.out.symm (by rw[HPl.out,Hbl.out,Et.out]) (Bs0.some (ZaH (b3.out.grow hb4)))
   rw[Hst.out] at hcp
   have S5:=Zq (S4.out.set (c':=bysA (strP k n c m (64*(j+1)))) S1.out)
   generalize W4.setRow g (bysA (strP k n c m (64*(j+1))))=W5 at *
   clear hb4
   go_wp2_with fail
   go_roundw
   case rel=>exact⟨j+1,by omega,by go_num,S5.out⟩
   case measure=>simp[intOf];omega
  ·obtain rfl:j=x:=by omega
   have R2:=Zq (hset.row S1.out)
   have B2:=Zq (hset.below B1.out l0 B1.out.size)
   clear hset
   go_wp2_with fail
   refine bodyPost_ret (v:=.tuple #[.slice (some ⟨g,0,none⟩) m m,.int .i64 0]) (results_tmp2 Tryz.results108 _ _ _) rfl ⟨g,rfl,?_,l0,B2.out⟩
   have h1:=R2.out
   rw[Zo4 k n c m _ (by have:=Ex.out;omega)] at h1
   exact h1
open Go.RowKit Go.Hold Go.Sh
@[go_sem ↓] theorem Zur (ps:Array (Nat×Value)):Instr.build 163 ps=bldA 163 ps:=rfl
@[go_sem] theorem ZrA (w:World):(bldA 163 #[]).run Tryz.prog w=.ok (.agg (bysA (zs 12))) w:=run_build w _ _ _ (by kernel_rfl)
open Go.RowKit Go.Hold Go.Sh Go.Ch Go.Cm Go.Hd
theorem ZsW (s:List Nat) (hs:s.length=32) (hsb:∀i,s.getD i 0<256) (w:World) (hT:Tabs w) :
  Calls Tryz.prog 58 #[.agg (bysA s),.string { data:=#[114,104,111] }] w fun e w'=>e=.returned (.agg (bysA (keyN (drv s rhoL))))∧Below w.heap.size w w':=by
 have:=Zhr s ⟨#[114,104,111]⟩ w hT hs hsb (by decide)
 rwa [ZbE,show purp++strB ⟨#[114,104,111]⟩=rhoL by decide] at this
theorem Zuw (s:List Nat) (hs:s.length=32) (hsb:∀i,s.getD i 0<256) (w:World) (hT:Tabs w) :
  Calls Tryz.prog 58 #[.agg (bysA s),.string { data:=#[109,117] }] w fun e w'=>e=.returned (.agg (bysA (keyN (drv s muL))))∧Below w.heap.size w w':=by
 have:=Zhr s ⟨#[109,117]⟩ w hT hs hsb (by decide)
 rwa [ZbE,show purp++strB ⟨#[109,117]⟩=muL by decide] at this
theorem Ztl (s:List Nat) (hs:s.length=32) (hsb:∀i,s.getD i 0<256) (w:World) (hT:Tabs w) :
  Calls Tryz.prog 58 #[.agg (bysA s),.string { data:=#[116,97,117] }] w fun e w'=>e=.returned (.agg (bysA (keyN (drv s tauL))))∧Below w.heap.size w w':=by
 have:=Zhr s ⟨#[116,97,117]⟩ w hT hs hsb (by decide)
 rwa [ZbE,show purp++strB ⟨#[116,97,117]⟩=tauL by decide] at this
theorem ZhR (s:List Nat) (hs:s.length=32) (hsb:∀i,s.getD i 0<256) (w:World) (hT:Tabs w) :
  Calls Tryz.prog 79 #[.agg (bysA s)] w fun e w'=>e=.returned (.agg (bysA (hst s)))∧Below w.heap.size w w':=by
 have hss:=Zae hs
 have hh:=Zae (ZaT s)
 have hzw:=Zae (Zah 192)
 have HD:=Zq (fun (W:World) (h:Tabs W)=>ZsW s hs hsb W h)
 have HT:=Zq hT
 have HS:=Zq (fun (W:World)=>show Calls Tryz.prog 108 #[.agg (bysA (keyN (drv s rhoL))),.agg (bysA (zs 12)),.int .u32 0,.int .i64 192] W fun e w'=>∃ g,e=.returned (.tuple #[.slice (some ⟨g,0,none⟩) 192 192,.int .i64 0])∧RowAt w' g (bysA (hst s))∧W.heap.size≤g∧Below W.heap.size W w' by
  unfold hst
  exact Zpv (keyN (drv s rhoL)) (zs 12) 0 192 (Zar _) (ZbS _) (Zah 12) (Zbs 12) (by decide) (by decide) (by decide) W)
 have hcp:∀(W:World) (g b:Nat),RowAt W g (bysA (zs 192))→RowAt W b (bysA (hst s))→(Builtin.copy_ #[38,38] 3 #[.slice (some ⟨g,0,none⟩) 192 192,.slice (some ⟨b,0,none⟩) 192 192]).run Tryz.prog W=.ok (.int .i64 ((192:Nat):Int)) (W.setRow g (bysA (hst s))):=by
  intro W g b hg hb
  have:=Zb7 (c2:=192) (cap:=192) (d:=192) (s:=192) (k:=192) hg (by rw[Zah]) (ZaT s).symm (by rw[Zah,ZaT];decide) (Bs0.some (ZaH hb))
  rwa [show (hst s).take 192++(zs 192).drop 192=hst s by rw[List.take_of_length_le (by rw[ZaT];exact Nat.le_refl _),ZcI];simp[zs]] at this
 have Hcp:=Zq hcp
 clear hs hsb hT hcp
 generalize hst s=H at *
 generalize keyN (drv s rhoL)=D at *
 go_enter Tryz.func79,Tryz.ntmps79
 go_wp2_with fail
 generalize hW:World.alloc _ _=W0
 have R0x0:=Zq (show RowAt W0 (w.heap.size) (bysA s) by rw[←hW];clear hW;exact⟨by go_simp,by first | (go_simp;done) | (go_simp;rfl),by go_simp⟩)
 have R0x1:=Zq (show RowAt W0 (w.heap.size+1) (bysA (zs 192)) by rw[←hW];clear hW;exact⟨by go_simp,by first | (go_simp;done) | (go_simp;rfl),by go_simp⟩)
 have R0x2:=Zq (show RowAt W0 (w.heap.size+1+1) (bysA (zs 192)) by rw[←hW];clear hW;exact⟨by go_simp,by first | (go_simp;done) | (go_simp;rfl),by go_simp⟩)
 have B0:=Zq (show Below w.heap.size w W0 by rw[←hW];repeat (first | apply Zab | exact Below.refl _ _))
 clear hW
 have hzs192:=Zae (Zah 192)
 have l_z:w.heap.size≤w.heap.size:=by omega
 have l_r:w.heap.size≤w.heap.size+1:=by omega
 have n_z_r:w.heap.size≠w.heap.size+1:=by omega
 have l_v:w.heap.size≤w.heap.size+1+1:=by omega
 have n_z_v:w.heap.size≠w.heap.size+1+1:=by omega
 have n_r_v:w.heap.size+1≠w.heap.size+1+1:=by omega
 generalize w.heap.size+1+1=v at *
 generalize w.heap.size+1=r at *
 obtain⟨z,ez⟩:∃z,z=w.heap.size:=⟨_,rfl⟩
 rw[←ez] at R0x0 n_z_r n_z_v ⊢
 have l_z:w.heap.size≤z:=by rw[ez];exact Nat.le_refl _
 clear ez
 refine(HD.out _ (HT.out.grow B0.out)).mono ?_
 rintro e W1 ⟨rfl,hb1⟩
 have R1x0:=Zq (R0x0.out.grow hb1)
 have R1x1:=Zq (R0x1.out.grow hb1)
 have R1x2:=Zq (R0x2.out.grow hb1)
 have B1:=Zq (B0.out.trans (hb1.mono B0.out.size))
 clear hb1 B0 R0x0 R0x1 R0x2
 obtain⟨R1x0a,R1x0b,R1x0c⟩:=R1x0.out
 obtain⟨R1x1a,R1x1b,R1x1c⟩:=R1x1.out
 obtain⟨R1x2a,R1x2b,R1x2c⟩:=R1x2.out
 go_wp2_with fail
 refine(HS.out _).mono ?_
 rintro e W2 ⟨g,rfl,hg,_,hb2⟩
 have HG:=Zq hg
 clear hg
 clear R1x0a R1x0b R1x0c R1x1a R1x1b R1x1c R1x2a R1x2b R1x2c
 have R2x0:=Zq (R1x0.out.grow hb2)
 have R2x1:=Zq (R1x1.out.grow hb2)
 have R2x2:=Zq (R1x2.out.grow hb2)
 have B2:=Zq (B1.out.trans (hb2.mono B1.out.size))
 clear hb2 B1 R1x0 R1x1 R1x2
 have hcp:=Hcp.out _ _ _ R2x2.out HG.out
 obtain⟨R2x0a,R2x0b,R2x0c⟩:=R2x0.out
 obtain⟨R2x1a,R2x1b,R2x1c⟩:=R2x1.out
 obtain⟨R2x2a,R2x2b,R2x2c⟩:=R2x2.out
 go_wp2_with fail
 refine bodyPost_ret (v:=.agg (bysA H)) (ZcR Tryz.results79 hh _ _ _ rfl (by go_simp) (by go_simp)) rfl ⟨rfl,?_⟩
 exact Zad (Zad (B2.out) l_v _) l_r _
theorem ZuP (s:List Nat) (hs:s.length=32) (hsb:∀i,s.getD i 0<256) (w:World) (hT:Tabs w) :
  Calls Tryz.prog 52 #[.agg (bysA s)] w fun e w'=>e=.returned (.agg (bysA (tagS s)))∧Below w.heap.size w w':=by
 have hss:=Zae hs
 have ht:=Zae (Zd2 s)
 have HD:=Zq (fun (W:World) (h:Tabs W)=>Ztl s hs hsb W h)
 have HDl:=Zq (Zar (drv s tauL))
 have HT:=Zq hT
 unfold tagS at *
 clear hs hsb hT
 generalize keyN (drv s tauL)=D at *
 go_enter Tryz.func52,Tryz.ntmps52
 go_wp2_with fail
 generalize hW:World.alloc _ _=W0
 have R0x0:=Zq (show RowAt W0 (w.heap.size) (bysA s) by rw[←hW];clear hW;exact⟨by go_simp,by first | (go_simp;done) | (go_simp;rfl),by go_simp⟩)
 have R0x1:=Zq (show RowAt W0 (w.heap.size+1) (bysA (zs 16)) by rw[←hW];clear hW;exact⟨by go_simp,by first | (go_simp;done) | (go_simp;rfl),by go_simp⟩)
 have B0:=Zq (show Below w.heap.size w W0 by rw[←hW];repeat (first | apply Zab | exact Below.refl _ _))
 clear hW
 have hzs16:=Zae (Zah 16)
 have l_z:w.heap.size≤w.heap.size:=by omega
 have l_r:w.heap.size≤w.heap.size+1:=by omega
 have n_z_r:w.heap.size≠w.heap.size+1:=by omega
 generalize w.heap.size+1=r at *
 obtain⟨z,ez⟩:∃z,z=w.heap.size:=⟨_,rfl⟩
 rw[←ez] at R0x0 n_z_r ⊢
 have l_z:w.heap.size≤z:=by rw[ez];exact Nat.le_refl _
 clear ez
 obtain⟨R0x0a,R0x0b,R0x0c⟩:=R0x0.out
 obtain⟨R0x1a,R0x1b,R0x1c⟩:=R0x1.out
 clear R0x0a R0x0b R0x0c R0x1a R0x1b R0x1c
 refine(HD.out _ (HT.out.grow B0.out)).mono ?_
 rintro e W1 ⟨rfl,hb1⟩
 have R1x0:=Zq (R0x0.out.grow hb1)
 have R1x1:=Zq (R0x1.out.grow hb1)
 have B1:=Zq (B0.out.trans (hb1.mono B0.out.size))
 clear hb1 B0 R0x0 R0x1
 obtain⟨R1x0a,R1x0b,R1x0c⟩:=R1x0.out
 obtain⟨R1x1a,R1x1b,R1x1c⟩:=R1x1.out
 go_wp2_with fail
 refine(Znw D HDl.out _).mono ?_
 rintro e W2 ⟨rfl,hb2⟩
 clear R1x0a R1x0b R1x0c R1x1a R1x1b R1x1c
 have R2x0:=Zq (R1x0.out.grow hb2)
 have R2x1:=Zq (R1x1.out.grow hb2)
 have B2:=Zq (B1.out.trans (hb2.mono B1.out.size))
 clear hb2 B1 R1x0 R1x1
 obtain⟨R2x0a,R2x0b,R2x0c⟩:=R2x0.out
 obtain⟨R2x1a,R2x1b,R2x1c⟩:=R2x1.out
 go_wp2_with fail
 refine bodyPost_ret (v:=.agg (bysA (D.take 16))) (Zb1 Tryz.results52 ht _ _ _ rfl (by go_simp) (by go_simp)) rfl ⟨rfl,?_⟩
 exact Zad (B2.out) l_r _
theorem Zgl (s a:List Nat) (hs:s.length=32) (hsb:∀i,s.getD i 0<256) (ha:a.length=32) (hab:∀i,a.getD i 0<256) (w:World) (hT:Tabs w) :
  Calls Tryz.prog 49 #[.agg (bysA s),.agg (bysA a)] w fun e w'=>e=.returned (.agg (bysA (bli s a)))∧Below w.heap.size w w':=by
 have hss:=Zae hs
 have has:=Zae ha
 have hm:=Zae (Zc0 s a)
 have HM:=Zq (fun (W:World) (h:Tabs W) {p q:Option Addr} (hp:Bs0 W p s) (hq:Bs0 W q a) (hqc:q=none→32=0)=>ZqA (kc:=32) (bc:=32) (m:=32) (nb:=32) hs.symm ha.symm (rfl:mac s a=mac s a) h (by omega) hsb hp (by omega) (by omega) hab hq hqc)
 rw[show (keA (mac s a))=bysA (bli s a) by unfold bli;exact ZbE _] at HM
 have HT:=Zq hT
 clear hs hsb hT ha hab
 generalize bli s a=M at *
 go_enter Tryz.func49,Tryz.ntmps49
 go_wp2_with fail
 generalize hW:World.alloc _ _=W0
 have R0x0:=Zq (show RowAt W0 (w.heap.size) (bysA s) by rw[←hW];clear hW;exact⟨by go_simp,by first | (go_simp;done) | (go_simp;rfl),by go_simp⟩)
 have R0x1:=Zq (show RowAt W0 (w.heap.size+1) (bysA a) by rw[←hW];clear hW;exact⟨by go_simp,by first | (go_simp;done) | (go_simp;rfl),by go_simp⟩)
 have R0x2:=Zq (show RowAt W0 (w.heap.size+1+1) (bysA (zs 32)) by rw[←hW];clear hW;exact⟨by go_simp,by first | (go_simp;done) | (go_simp;rfl),by go_simp⟩)
 have B0:=Zq (show Below w.heap.size w W0 by rw[←hW];repeat (first | apply Zab | exact Below.refl _ _))
 clear hW
 have hzs32:=Zae (Zah 32)
 have l_z:w.heap.size≤w.heap.size:=by omega
 have l_y:w.heap.size≤w.heap.size+1:=by omega
 have n_z_y:w.heap.size≠w.heap.size+1:=by omega
 have l_r:w.heap.size≤w.heap.size+1+1:=by omega
 have n_z_r:w.heap.size≠w.heap.size+1+1:=by omega
 have n_y_r:w.heap.size+1≠w.heap.size+1+1:=by omega
 generalize w.heap.size+1+1=r at *
 generalize w.heap.size+1=y at *
 obtain⟨z,ez⟩:∃z,z=w.heap.size:=⟨_,rfl⟩
 rw[←ez] at R0x0 n_z_y n_z_r ⊢
 have l_z:w.heap.size≤z:=by rw[ez];exact Nat.le_refl _
 clear ez
 refine ZaI W0 [0,1] [true,true] [2,3] (by kernel_rfl) (by kernel_rfl) (by intro c a d v w h;cases d<;>exact h) (by first | exact(Below.refl _ _).drew | exact Below.refl _ _) ?_
 simp only[pick,List.getElem?_cons_succ,List.getElem?_cons_zero]
 iterate 2 (refine Zay (Zaa rfl) (fun w=>by go_simp;rfl) ?_)
 refine Zan ?_
 intro W1 hb1
 have R1x0:=Zq (R0x0.out.grow hb1)
 have R1x1:=Zq (R0x1.out.grow hb1)
 have R1x2:=Zq (R0x2.out.grow hb1)
 have B1:=Zq (B0.out.trans (hb1.mono B0.out.size))
 clear hb1 B0 R0x0 R0x1 R0x2
 go_wp2_with fail
 refine(HM.out _ (HT.out.grow B1.out) (Bs0.some (ZaH R1x0.out)) (Bs0.some (ZaH R1x1.out)) (fun h=>by cases h)).mono ?_
 rintro e W2 ⟨rfl,hb2⟩
 have R2x0:=Zq (R1x0.out.grow hb2)
 have R2x1:=Zq (R1x1.out.grow hb2)
 have R2x2:=Zq (R1x2.out.grow hb2)
 have B2:=Zq (B1.out.trans (hb2.mono B1.out.size))
 clear hb2 B1 R1x0 R1x1 R1x2
 obtain⟨R2x0a,R2x0b,R2x0c⟩:=R2x0.out
 obtain⟨R2x1a,R2x1b,R2x1c⟩:=R2x1.out
 obtain⟨R2x2a,R2x2b,R2x2c⟩:=R2x2.out
 go_wp2_with fail
 refine bodyPost_ret (v:=.agg (bysA M)) (Zav Tryz.results49 hm _ _ _ rfl (by go_simp) (by go_simp)) rfl ⟨rfl,?_⟩
 exact Zad (B2.out) l_r _
open Go.RowKit Go.Hold Go.Sh
structure Moves (w:World) (g:Nat) (ob:Option Nat) (w':World):Prop where
 os:w'.os=w.os
 tape:w'.tape=w.tape
 output:w'.output=w.output
 size:w.heap.size≤w'.heap.size
 block:∀k,k<w.heap.size→k≠g→some k≠ob→w'.heap[k]?=w.heap[k]?
def NewB (w:World) (ob ob':Option Nat):Prop:=∀ k,ob'=some k→ob=some k∨w.heap.size≤k
theorem NewB.refl (w:World) (ob:Option Nat):NewB w ob ob:=fun _ h=>.inl h
theorem NewB.trans {w w1:World} {a b c:Option Nat} (h:NewB w a b) (h1:NewB w1 b c) (hs:w.heap.size≤w1.heap.size):NewB w a c:=fun k hk=>by
 rcases h1 k hk with h2 | h2
 ·exact h k h2
 ·exact .inr (Nat.le_trans hs h2)
theorem NewB.ne {w:World} {a b:Option Nat} {k:Nat} (h:NewB w a b) (ha:a≠some k) (hk:k<w.heap.size):b≠some k:=fun e=>by
 rcases h k e with h1 | h1
 ·exact ha h1
 ·omega
theorem Moves.of {w w':World} (g:Nat) (ob:Option Nat) (h:Below w.heap.size w w'):Moves w g ob w':=⟨h.os,h.tape,h.output,h.size,fun k hk _ _=>h.block k hk⟩
theorem Moves.refl (w:World) (g:Nat) (ob:Option Nat):Moves w g ob w:=⟨rfl,rfl,rfl,Nat.le_refl _,fun _ _ _ _=>rfl⟩
theorem Moves.trans {w w1 w2:World} {g:Nat} {a b:Option Nat} (h:Moves w g a w1) (h1:Moves w1 g b w2) (hn:NewB w a b):Moves w g a w2 :=
 ⟨h1.os.trans h.os,h1.tape.trans h.tape,h1.output.trans h.output,Nat.le_trans h.size h1.size,fun k hk hg ha=>by
  rw[h1.block k (Nat.lt_of_lt_of_le hk h.size) hg fun e=>hn.ne (fun e'=>ha e'.symm) hk e.symm,h.block k hk hg ha]⟩
theorem Moves.grow {w w1 w2:World} {g:Nat} {a:Option Nat} (h:Moves w g a w1) (h1:Below w1.heap.size w1 w2):Moves w g a w2:=h.trans (.of g a h1) (.refl w a)
theorem Moves.setCell {w w1:World} {g:Nat} {a:Option Nat} (h:Moves w g a w1) (i:Nat) (v:Value):Moves w g a (w1.setCell ⟨g,i,none⟩ v) :=
 ⟨h.os,h.tape,h.output,by simpa [World.setCell] using h.size,fun k hk hg ha=>by
  simp only[World.setCell,Array.getElem?_modify]
  rw[if_neg (fun e=>hg e.symm),h.block k hk hg ha]⟩
theorem Moves.setRow {w w1:World} {g:Nat} {a:Option Nat} (h:Moves w g a w1) (c:Array Value):Moves w g a (w1.setRow g c) :=
 ⟨h.os,h.tape,h.output,by simpa [World.setRow] using h.size,fun k hk hg ha=>by
  rw[setRow_other w1 g k c hg,h.block k hk hg ha]⟩
theorem Moves.grownBy {w w1 w2:World} {g:Nat} {a:Option Nat} (h:Moves w g a w1) (h1:w1.grownBy w2 a):Moves w g a w2 :=
 ⟨h1.os.trans h.os,h1.tape.trans h.tape,h1.output.trans h.output,Nat.le_trans h.size h1.size,fun k hk hg ha=>by
  rw[h1.block k (Nat.lt_of_lt_of_le hk h.size) (fun e=>ha (by rw[←e])),h.block k hk hg ha]⟩
theorem Moves.below {B:Nat} {w0 w w':World} {g:Nat} {a:Option Nat} (h:Moves w g a w') (hb:Below B w0 w) (hB:B≤w.heap.size) (hg:B≤g) (ha:∀k,a=some k→B≤k):Below B w0 w' :=
 ⟨h.os.trans hb.os,h.tape.trans hb.tape,h.output.trans hb.output,Nat.le_trans hb.size h.size,fun k hk=>by
  rw[h.block k (by omega) (by omega) (fun e=>by have:=ha k e.symm;omega),hb.block k hk]⟩
theorem RowAt.moves {w w':World} {g n:Nat} {a:Option Nat} {c:Array Value} (h:RowAt w n c) (m:Moves w g a w') (hg:n≠g) (ha:a≠some n):RowAt w' n c:=by
 obtain⟨t,ht⟩:=h.block
 exact RowAt.of (t:=t) (by rw[m.block n h.2.2 hg (fun e=>ha e.symm)];exact ht)
theorem BytesAt.moves {w w':World} {g b o:Nat} {a:Option Nat} {l:List Nat} (h:BytesAt w b o l) (m:Moves w g a w') (hg:b≠g) (ha:a≠some b):BytesAt w' b o l :=
 ⟨Nat.lt_of_lt_of_le h.1 m.size,fun i hi=>by rw[World.cell?_of_block (w:=w) (m.block b h.1 hg (fun e=>ha e.symm))];exact h.2 i hi⟩
def BsIn (w:World) (b:Nat) (p:Option Addr) (l:List Nat):Prop:=l=[]∨∃ o,p=some ⟨b,o,none⟩∧BytesAt w b o l
theorem BsIn.any {w:World} {b:Nat} {p:Option Addr} {l:List Nat} (h:BsIn w b p l):Bs0 w p l:=by
 rcases h with h | ⟨o,e,h⟩
 ·exact .inl h
 ·exact .inr ⟨b,o,e,h⟩
theorem BsIn.moves {w w':World} {g b:Nat} {a:Option Nat} {p:Option Addr} {l:List Nat} (h:BsIn w b p l) (m:Moves w g a w') (hg:b≠g) (ha:a≠some b):BsIn w' b p l:=by
 rcases h with h | ⟨o,e,h⟩
 ·exact .inl h
 ·exact .inr ⟨o,e,h.moves m hg ha⟩
theorem Bs0.moves {w w':World} {g:Nat} {a:Option Nat} {p:Option Addr} {l:List Nat} (h:Bs0 w p l) (m:Moves w g a w') (hne:∀b o,p=Option.some ⟨b,o,none⟩→b≠g∧a≠Option.some b):Bs0 w' p l:=by
 rcases h with h | ⟨b,o,e,h⟩
 ·exact .inl h
 ·exact .inr ⟨b,o,e,h.moves m (hne b o e).1 (hne b o e).2⟩
theorem OwnB.moves {w w':World} {B g:Nat} {a:Option Nat} {v:Value} {l:List Nat} (h:OwnB w B v l) (m:Moves w g a w') (hg:v.ownBlock≠some g) (ha:∀k,v.ownBlock=some k→a≠some k):OwnB w' B v l:=by
 refine⟨h.1,?_⟩
 rcases h.2 with hn | ⟨g0,cap,cur,rfl,hb,hx,rest⟩
 ·exact .inl hn
 ·exact .inr ⟨g0,cap,cur,rfl,hb,by
   rw[m.block g0 (Array.getElem?_eq_some_iff.1 hx).1 (fun e=>hg (by rw[e];rfl)) (fun e=>ha g0 rfl e.symm)];exact hx,rest⟩
open Go.RowKit Go.Hold Go.Sh Go.Ch
theorem Zii:∀(vs:List Value) (v:Value) (c:Array Value) (o:Nat),setL c o (vs++[v])=(setL c o vs).setIfInBounds (o+vs.length) v
 | [],_,_,_=>rfl
 | u::vs,v,c,o=>by
  rw[List.cons_append,setL,Zii vs,setL,List.length_cons,show o+1+vs.length=o+(vs.length+1) by omega]
def FrontB (c:Array Value) (l:List Nat):Prop:=l.length≤c.size∧∀ i,i<l.length→c[i]?=some (.int .u8 ((l.getD i 0:Nat):Int))
theorem FrontB.all (l:List Nat):FrontB (bysA l) l:=⟨by rw[Zaj];exact Nat.le_refl _,fun i hi=>ZaB l i hi⟩
def xorC (c:Array Value) (l x:List Nat) (k:Nat):Array Value:=setL c 0 (bys ((mixd l x).take k))
theorem ZmW (c:Array Value) (l x:List Nat):xorC c l x 0=c:=rfl
theorem Zro {c:Array Value} {l x:List Nat} (h:FrontB c l) (k:Nat) (hk:k<l.length):(xorC c l x k)[k]?=some (.int .u8 ((l.getD k 0:Nat):Int)):=by
 unfold xorC
 rw[ZcQ,if_neg (by rw[Zaz,List.length_take];omega)]
 exact h.2 k hk
theorem Zpx {c:Array Value} {l x:List Nat} (hx:x.length=l.length) (k:Nat) (hk:k<l.length):(xorC c l x k).setIfInBounds k (.int .u8 ((l.getD k 0 ^^^ x.getD k 0:Nat):Int))=xorC c l x (k+1):=by
 have hml:(mixd l x).length=l.length:=by rw[ZaJ,hx]
 have h1:(mixd l x).take (k+1)=(mixd l x).take k++[l.getD k 0 ^^^ x.getD k 0]:=by
  rw[List.take_add_one,List.getElem?_eq_getElem (by omega)]
  congr 1
  simp[mixd]
 unfold xorC
 rw[h1,show bys ((mixd l x).take k++[l.getD k 0 ^^^ x.getD k 0])=bys ((mixd l x).take k)++[.int .u8 ((l.getD k 0 ^^^ x.getD k 0:Nat):Int)] by simp[bys],Zii,Zaz,List.length_take,Nat.zero_add,show min k (mixd l x).length=k by omega]
theorem Zo3 (l x:List Nat) (hx:x.length=l.length):xorC (bysA l) l x l.length=bysA (mixd l x):=by
 unfold xorC
 have hml:(mixd l x).length=l.length:=by rw[ZaJ,hx]
 rw[List.take_of_length_le (by omega),Zko _ _ (by omega),List.drop_of_length_le (by omega),List.append_nil]
theorem ZqO (g n m cb cx:Nat) (q:Option Addr) (c:Array Value) (l x:List Nat) (w:World) (hc:RowAt w g c) (hf:FrontB c l) (hn:n=l.length) (hm:m=l.length) (hx:x.length=l.length) (hl:l.length≤100000) (hlb:∀i,l.getD i 0<256) (hxb:∀i,x.getD i 0<256) (hB:Bs w q x g) :
  Calls Tryz.prog 80 #[.slice (some ⟨g,0,none⟩) n cb,.slice q m cx] w fun e w'=>e=.returned (.tuple #[])∧Sets w g (xorC c l x l.length) w':=by
 subst hn hm
 obtain⟨n,en⟩:∃n,n=l.length:=⟨_,rfl⟩
 have hnl:n≤100000:=by omega
 have En:=Zq en
 have Hx:=Zq hx
 have Hc:=Zq hc
 have Hf:=Zq hf
 have HB:=Zq hB
 have Hlb:=Zq hlb
 have Hxb:=Zq hxb
 rw[←en]
 clear hc hf hl hlb hxb hB hx en
 go_enter Tryz.func80,Tryz.ntmps80
 go_wp2_with fail
 go_loopw [8] (fun i wr=>∃ k:Nat,k≤n∧i=.int .i64 k∧Sets w g (xorC c l x k) wr) (fun i _=>n-(intOf i).toNat)
 case atStart=>exact⟨0,Nat.zero_le _,rfl,by rw[ZmW];exact Sets.refl Hc.out⟩
 case round =>
  obtain⟨k,hk,rfl,hset⟩:=hrel
  by_cases hkn:k<n
  ·have hk0:(0:Int)≤(k:Int):=by omega
   have hk1:(k:Int)<(n:Int):=by omega
   have hkl:k<l.length:=by rw[←En.out];exact hkn
   obtain⟨b,o,eq,hb,hbg⟩:∃b o,q=some ⟨b,o,none⟩∧BytesAt w b o x∧b≠g:=by
    rcases HB.out with h | h
    ·exfalso;have:=Hx.out;rw[h] at this;simp at this;omega
    ·exact h
   subst eq
   have hcx:=(hset.bytes hb hbg).2 k (by rw[Hx.out];exact hkl)
   have hrow:=hset.row Hc.out
   have hck:=hrow.cellAt k (Zro Hf.out k hkl)
   have hfk:=hrow.frozenAt k
   have hxx:=u8_xor_nat (l.getD k 0) (x.getD k 0) (Hlb.out k) (Hxb.out k)
   have hst:=hset.cell Hc.out (i:=k) (v:=.int .u8 ((l.getD k 0 ^^^ x.getD k 0:Nat):Int))
   rw[Zpx Hx.out k hkl] at hst
   have Hst:=Zq hst
   generalize l.getD k 0=y at *
   generalize x.getD k 0=z at *
   generalize y ^^^ z=v at *
   have hgl:=hrow.2.2
   clear hst hset hrow hb hkl
   go_wp2_with fail
   go_roundw
   case rel=>exact⟨k+1,by omega,by go_num,Hst.out⟩
   case measure=>simp[intOf];omega
  ·obtain rfl:k=n:=by omega
   have HS:=Zq hset
   clear hset
   go_wp2_with fail
   go_end0
   exact⟨rfl,HS.out⟩
open Go.RowKit Go.Hold Go.Sh Go.Cm
theorem Zsw (n lim:Int) (w:World) :
  Calls Tryz.prog 68 #[.int .i64 n,.int .i64 lim] w fun e w'=>e=.returned (.bool (decide (0≤n∧n<lim)))∧w'=w:=by
 by_cases h0:0≤n
 ·by_cases h1:n<lim
  ·rw[decide_eq_true ⟨h0,h1⟩]
   go_enter Tryz.func68,Tryz.ntmps68
   go_wp2_with fail
   go_ret
   exact⟨rfl,rfl⟩
  ·rw[decide_eq_false (fun e=>h1 e.2)]
   go_enter Tryz.func68,Tryz.ntmps68
   go_wp2_with fail
   go_ret
   exact⟨rfl,rfl⟩
 ·rw[decide_eq_false (fun e=>h0 e.1)]
  go_enter Tryz.func68,Tryz.ntmps68
  go_wp2_with fail
  go_ret
  exact⟨rfl,rfl⟩
theorem ZpU (c:Cmd) (hid:c.id.length=8) (w:World) :
  Calls Tryz.prog 30 #[.agg (cmdA c)] w fun e w'=>e=.returned (.bool c.may)∧Below w.heap.size w w':=by
 have hcs:=Zax hid
 have hz8:(zs 8).length=8:=rfl
 have BA:=Zq (Zab (Below.refl w.heap.size w) (.cells (cmdA c) 51))
 have K:=Zq (fun (lim:Int) (n:Int) (W:World)=>Zsw n lim W)
 by_cases k1:c.k=1
 ·have hm:c.may=(decide (0≤c.n∧c.n<16)&&decide (0≤c.d∧c.d<65)&&decide (c.id=zs 8)):=by unfold Cmd.may;rw[if_pos k1]
  have K1:=Zq (K.out 16 c.n)
  have K2:=Zq (K.out 65 c.d)
  rw[hm]
  generalize decide (0≤c.n∧c.n<16)=b1 at *
  generalize decide (0≤c.d∧c.d<65)=b2 at *
  clear hm K
  go_enter Tryz.func30,Tryz.ntmps30
  go_wp2_with fail
  refine(K1.out _).mono ?_
  rintro e w' ⟨rfl,rfl⟩
  cases b1
  ·go_wp2_with fail
   go_ret
   exact⟨rfl,BA.out⟩
  go_wp2_with fail
  refine(K2.out _).mono ?_
  rintro e w' ⟨rfl,rfl⟩
  cases b2
  ·go_wp2_with fail
   go_ret
   exact⟨rfl,BA.out⟩
  go_wp2_with fail
  go_ret
  exact⟨rfl,BA.out⟩
 by_cases k2:c.k=2
 ·have hm:c.may=(decide (0≤c.n∧c.n<8)&&decide (c.d=0)&&decide (c.id=zs 8)):=by unfold Cmd.may;rw[if_neg k1,if_pos k2]
  have K1:=Zq (K.out 8 c.n)
  rw[hm]
  generalize decide (0≤c.n∧c.n<8)=b1 at *
  clear hm K
  by_cases hd:c.d=0
  ·rw[decide_eq_true hd]
   go_enter Tryz.func30,Tryz.ntmps30
   go_wp2_with fail
   refine(K1.out _).mono ?_
   rintro e w' ⟨rfl,rfl⟩
   cases b1
   ·go_wp2_with fail
    go_ret
    exact⟨rfl,BA.out⟩
   go_wp2_with fail
   go_ret
   exact⟨rfl,BA.out⟩
  rw[decide_eq_false hd]
  go_enter Tryz.func30,Tryz.ntmps30
  go_wp2_with fail
  refine(K1.out _).mono ?_
  rintro e w' ⟨rfl,rfl⟩
  cases b1
  ·go_wp2_with fail
   go_ret
   exact⟨rfl,BA.out⟩
  go_wp2_with fail
  go_ret
  exact⟨rfl,BA.out⟩
 by_cases k3:c.k=3
 ·have hm:c.may=(decide (0≤c.n∧c.n<8)&&decide (c.d=0)):=by unfold Cmd.may;rw[if_neg k1,if_neg k2,if_pos k3]
  have K1:=Zq (K.out 8 c.n)
  rw[hm]
  generalize decide (0≤c.n∧c.n<8)=b1 at *
  clear hm K
  by_cases hd:c.d=0
  ·rw[decide_eq_true hd]
   go_enter Tryz.func30,Tryz.ntmps30
   go_wp2_with fail
   refine(K1.out _).mono ?_
   rintro e w' ⟨rfl,rfl⟩
   cases b1
   ·go_wp2_with fail
    go_ret
    exact⟨rfl,BA.out⟩
   go_wp2_with fail
   go_ret
   exact⟨rfl,BA.out⟩
  rw[decide_eq_false hd]
  have hd2:(c.d==0)=false:=by simpa using hd
  go_enter Tryz.func30,Tryz.ntmps30
  go_wp2_with fail
  refine(K1.out _).mono ?_
  rintro e w' ⟨rfl,rfl⟩
  cases b1
  ·go_wp2_with fail
   go_ret
   exact⟨rfl,BA.out⟩
  go_wp2_with fail
  go_ret
  exact⟨rfl,BA.out⟩
 by_cases k4:c.k=4
 ·have hm:c.may=(decide (c.n=0)&&decide (c.d=0)&&decide (c.id=zs 8)):=by unfold Cmd.may;rw[if_neg k1,if_neg k2,if_neg k3,if_pos k4]
  rw[hm]
  clear hm K
  by_cases hn:c.n=0
  ·rw[decide_eq_true hn]
   by_cases hd:c.d=0
   ·rw[decide_eq_true hd]
    go_enter Tryz.func30,Tryz.ntmps30
    go_wp2_with fail
    go_ret
    exact⟨rfl,BA.out⟩
   rw[decide_eq_false hd]
   go_enter Tryz.func30,Tryz.ntmps30
   go_wp2_with fail
   go_ret
   exact⟨rfl,BA.out⟩
  rw[decide_eq_false hn]
  go_enter Tryz.func30,Tryz.ntmps30
  go_wp2_with fail
  go_ret
  exact⟨rfl,BA.out⟩
 have hm:c.may=false:=by unfold Cmd.may;rw[if_neg k1,if_neg k2,if_neg k3,if_neg k4]
 rw[hm]
 clear hm K
 go_enter Tryz.func30,Tryz.ntmps30
 go_wp2_with fail
 go_ret
 exact⟨rfl,BA.out⟩
open Go.RowKit Go.Hold Go.Sh Go.Oc
def wrow (mk:Bool) (er room:Int) (v:Value):Array Value:=#[.bool mk,.int .i64 er,.int .i64 room,v]
def rrow (mk:Bool) (er:Int) (v:Value):Array Value:=#[.bool mk,.int .i64 er,v]
theorem ZnN (g:Nat) (mk:Bool) (er:Int) (w:World) (h0:w.cell? ⟨g,0,none⟩=some (.bool mk)) (h1:w.cell? ⟨g,1,none⟩=some (.int .i64 er)) :
  Calls Tryz.prog 140 #[.pointer (some ⟨g,0,none⟩)] w fun e w'=>e=.returned (.int .i64 (if mk then er else 1))∧w'=w:=by
 cases mk
 ·go_enter Tryz.func140,Tryz.ntmps140
  go_wp2_with fail
  go_ret
  exact⟨rfl,rfl⟩
 ·go_enter Tryz.func140,Tryz.ntmps140
  go_wp2_with fail
  go_ret
  exact⟨rfl,rfl⟩
theorem Zgh (g:Nat) (er e0:Int) (w:World) (h1:w.cell? ⟨g,1,none⟩=some (.int .i64 e0)) (hf:w.frozen? ⟨g,1,none⟩=false) :
  Calls Tryz.prog 111 #[.pointer (some ⟨g,0,none⟩),.int .i64 er] w fun e w'=>e=.returned (.int .i64 er)∧w'=w.setCell ⟨g,1,none⟩ (.int .i64 er):=by
 go_enter Tryz.func111,Tryz.ntmps111
 go_wp2_with fail
 go_ret
 exact⟨rfl,rfl⟩
theorem ZkY (g:Nat) (mk:Bool) (er:Int) (w:World) (h0:w.cell? ⟨g,0,none⟩=some (.bool mk)) (h1:w.cell? ⟨g,1,none⟩=some (.int .i64 er)) :
  Calls Tryz.prog 156 #[.pointer (some ⟨g,0,none⟩)] w fun e w'=>e=.returned (.int .i64 (if mk then er else 1))∧w'=w:=by
 have K:=Zq (ZnN g mk er w h0 h1)
 generalize (if mk=true then er else 1)=x at *
 go_enter Tryz.func156,Tryz.ntmps156
 go_wp2_with fail
 refine K.out.mono ?_
 rintro e w' ⟨rfl,rfl⟩
 go_wp2_with fail
 go_ret
 exact⟨rfl,rfl⟩
theorem Zk5 (g:Nat) (mk:Bool) (er:Int) (w:World) (h0:w.cell? ⟨g,0,none⟩=some (.bool mk)) (h1:w.cell? ⟨g,1,none⟩=some (.int .i64 er)) :
  Calls Tryz.prog 110 #[.pointer (some ⟨g,0,none⟩)] w fun e w'=>e=.returned (.int .i64 (if mk then er else 1))∧w'=w:=by
 have K:=Zq (ZnN g mk er w h0 h1)
 generalize (if mk=true then er else 1)=x at *
 go_enter Tryz.func110,Tryz.ntmps110
 go_wp2_with fail
 refine K.out.mono ?_
 rintro e w' ⟨rfl,rfl⟩
 go_wp2_with fail
 go_ret
 exact⟨rfl,rfl⟩
def digP (n size i:Nat):List Nat:=(digN n size).take i++zs (size-i)
theorem Zmj (n size:Nat):digP n size 0=zs size:=by simp[digP]
theorem Zpm (n size:Nat):digP n size size=digN n size:=by
 unfold digP
 rw[List.take_of_length_le (by rw[ZbD];exact Nat.le_refl _),Nat.sub_self];simp[zs]
theorem ZjS (n size i:Nat) (h:i≤size):(digP n size i).length=size:=by
 unfold digP;rw[List.length_append,List.length_take,ZbD,Zah];omega
theorem ZpL (n size i:Nat) (h:i<size):(digP n size i).set i (dgt n size i)=digP n size (i+1):=by
 unfold digP
 have hx:i<(digN n size).length:=by rw[ZbD];exact h
 have e:zs (size-i)=0::zs (size-(i+1)):=by
  obtain⟨k,hk⟩:∃k,size-i=k+1:=⟨size-i-1,by omega⟩
  rw[hk,show size-(i+1)=k by omega];rfl
 have hlen:((digN n size).take i).length=i:=by rw[List.length_take];omega
 rw[List.set_append,if_neg (by omega),hlen,Nat.sub_self,e,List.set_cons_zero,List.take_add_one,List.getElem?_eq_getElem hx,List.append_assoc]
 congr 2
 simp[digN]
theorem Ztc (n s:Nat) (h0:1≤s) (h8:s≤8) (w:World) :
  Calls Tryz.prog 158 #[.int .u64 (n:Int),.int .i64 (s:Int)] w fun e w'=>∃ g,e=.returned (.slice (some ⟨g,0,none⟩) s s)∧RowAt w' g (bysA (digN n s))∧w.heap.size≤g∧Below w.heap.size w w':=by
 have hmk:=ZfA w s (by omega)
 have H8:=Zq h8
 have H0:=Zq h0
 obtain⟨s1,es1⟩:∃y,y=s-1:=⟨_,rfl⟩
 have k1:IntKind.i64.wrap ((s:Int)-1)=(s1:Int):=by rw[IntWalk.i64_in _ (by omega)];omega
 have Es1:=Zq es1
 clear h8 h0 es1
 go_enter Tryz.func158,Tryz.ntmps158
 go_wp2_with fail
 generalize hW:World.alloc _ _=W0
 have R0:=Zq (show RowAt W0 w.heap.size (bysA (digP n s 0)) by rw[←hW,Zmj];exact RowAt.of (Zaq w _))
 have B0:=Zq (show Below w.heap.size w W0 by rw[←hW];exact Zab (Below.refl _ _) _)
 clear hW hmk
 have hgl:w.heap.size≤w.heap.size:=Nat.le_refl _
 generalize eg:w.heap.size=g at R0 hgl ⊢
 have Eg:=Zq eg
 clear eg
 go_loopw [11] (fun i wr=>∃ j:Nat,j≤s∧i=.int .i64 j∧Sets W0 g (bysA (digP n s j)) wr) (fun i _=>s-(intOf i).toNat)
 case atStart=>exact⟨0,Nat.zero_le _,rfl,Sets.refl R0.out⟩
 case round =>
  obtain⟨j,hj,rfl,hset⟩:=hrel
  by_cases hj8:j<s
  ·have hj0:(0:Int)≤(j:Int):=by omega
   have hj1:(j:Int)<(s:Int):=by omega
   have hjb:(j:Int)<8:=by have:=H8.out;omega
   have hrow:=hset.row R0.out
   have hc:=hrow.cellAt j (ZaB _ j (by rw[ZjS _ _ _ hj];exact hj8))
   have hf:=hrow.frozenAt j
   obtain⟨t,et⟩:∃y,y=s-1-j:=⟨_,rfl⟩
   have hw0:IntKind.i64.wrap ((s1:Int)-(j:Int))=(t:Int):=by rw[IntWalk.i64_in _ (by have:=H8.out;have:=Es1.out;omega)];have:=Es1.out;omega
   obtain⟨y,ey⟩:∃y,y=8*t:=⟨_,rfl⟩
   have hw1:IntKind.i64.wrap (8*(t:Int))=(y:Int):=by rw[IntWalk.i64_in _ (by have:=H8.out;omega)];omega
   have hy0:(0:Int)≤(y:Int):=by omega
   have hy1:(y:Int)≤64:=by have:=H8.out;omega
   obtain⟨x,ex⟩:∃x,x=dgt n s j:=⟨_,rfl⟩
   have hx:(n:Int)/2^y%256=(x:Int):=by rw[ex,ey,et];unfold dgt;simp
   have Hset:=Zq (ZpL n s j hj8)
   rw[←ex] at Hset
   have HS:=Zq hset
   have hg3:=hrow.2.2
   clear hset hrow ex ey et
   go_wp2_with fail
   go_roundw
   case rel =>
    refine⟨j+1,by omega,by go_num,?_⟩
    rw[←Hset.out,←Zca];exact HS.out.cell R0.out
   case measure=>simp[intOf];omega
  ·obtain rfl:j=s:=by omega
   have R1:=Zq (hset.row R0.out)
   have B1:=Zq (hset.below B0.out (by rw[Eg.out];exact hgl) B0.out.size)
   rw[Zpm] at R1
   clear hset
   go_wp2_with fail
   go_ret
   exact⟨g,rfl,R1.out,Nat.le_of_eq Eg.out,B1.out⟩
@[go_sem] theorem Zr9 (a:Option Addr) (l c:Nat) (w:World):(binOp .eql 38 (.slice a l c) (.slice none 0 0)).run Tryz.prog w=.ok (.bool a.isNone) w:=by
 simp only[binOp]
 simp[run_equal_slice_nil w 38 5 a l c Tryz.underlying38]
theorem ZjP (p:Option Addr) (l:List Nat) (n cap:Nat) (w:World) (hn:n=l.length) (hB:Bs0 w p l) (hp:p=none→cap=0) (hl:l.length≤16000000) :
  Calls Tryz.prog 109 #[.slice p n cap] w fun e w'=>∃ v,e=.returned v∧OwnB w' w.heap.size v l∧Below w.heap.size w w':=by
 cases p with
 | none =>
  have hl0:l=[]:=by
   rcases hB with h | ⟨b,o,h,_⟩
   ·exact h
   ·cases h
  subst hl0
  subst hn
  rw[hp rfl]
  go_enter Tryz.func109,Tryz.ntmps109
  go_wp2_with fail
  go_ret
  exact⟨_,rfl,Zbk w _,Below.refl _ _⟩
 | some a =>
  have BA:=Zab (Below.refl w.heap.size w) (.cells #[] 5)
  have hE:=Zcv w w.heap.size (Nat.le_refl _)
  obtain⟨v1,w1,hr1,ho1,hg1⟩:=ZbY (cap:=cap) hE (hB.grow BA) hn (fun h=>by cases h) BA.size (by simp only[List.length_nil];omega)
  have hb1:=Za2 BA hE BA.size hg1
  rw[List.nil_append] at ho1
  have HO:=Zq ho1
  have HB:=Zq hb1
  clear BA hE ho1 hg1 hb1 hB hp hl hn
  go_enter Tryz.func109,Tryz.ntmps109
  go_wp2_with (at_builtin;refine Lib.wpList_append_run _ rfl _ _ _ _ rfl _ _ rfl rfl _ _ hr1 ?_)
  go_wp2_with fail
  go_ret
  exact⟨_,rfl,HO.out,HB.out⟩
def Wr (w:World) (B g:Nat) (ob:Option Nat) (room:Nat) (s:Ws):Prop :=
 ∃ v,RowAt w g (wrow true s.1 room v)∧OwnB w B v s.2∧v.ownBlock=ob∧ob≠some g∧B≤g∧s.2.length≤room∧room≤65536
def WStep (w:World) (B g:Nat) (ob:Option Nat) (room:Nat) (s':Ws) (w':World):Prop:=∃ ob',Wr w' B g ob' room s'∧NewB w ob ob'∧Moves w g ob w'
theorem Wr.row {w:World} {B g room:Nat} {ob:Option Nat} {s:Ws} (h:Wr w B g ob room s):∃v,RowAt w g (wrow true s.1 room v):=by
 obtain⟨v,h,_⟩:=h;exact⟨v,h⟩
theorem Wr.lt {w:World} {B g room:Nat} {ob:Option Nat} {s:Ws} (h:Wr w B g ob room s):g<w.heap.size∧∀ k,ob=some k→B≤k∧k<w.heap.size:=by
 obtain⟨v,h,ho,rfl,_⟩:=h
 exact⟨h.2.2,World.ownsRow.lt ho⟩
theorem Wr.base {w:World} {B g room:Nat} {ob:Option Nat} {s:Ws} (h:Wr w B g ob room s):B≤g:=by
 obtain⟨v,_,_,_,_,h,_⟩:=h;exact h
theorem Wr.le {w:World} {B g room:Nat} {ob:Option Nat} {s:Ws} (h:Wr w B g ob room s):s.2.length≤room∧room≤65536:=by
 obtain⟨v,_,_,_,_,_,h⟩:=h;exact h
theorem Wr.apart {w:World} {B g room:Nat} {ob:Option Nat} {s:Ws} (h:Wr w B g ob room s):ob≠some g:=by
 obtain⟨v,_,_,_,h,_⟩:=h;exact h
theorem Wr.moves {w w':World} {B g room g2:Nat} {ob ob2:Option Nat} {s:Ws} (h:Wr w B g ob room s) (m:Moves w g2 ob2 w') (h1:g≠g2) (h2:ob2≠some g) (h3:ob≠some g2) (h4:∀k,ob=some k→ob2≠some k):Wr w' B g ob room s:=by
 obtain⟨v,hr,ho,rfl,ha⟩:=h
 exact⟨v,RowAt.moves hr m h1 h2,ho.moves m h3 h4,rfl,ha⟩
theorem Wr.grow {w w':World} {B g room:Nat} {ob:Option Nat} {s:Ws} (h:Wr w B g ob room s) (hb:Below w.heap.size w w'):Wr w' B g ob room s:=by
 obtain⟨v,hr,ho,rfl,ha⟩:=h
 exact⟨v,hr.grow hb,ho.below hb,rfl,ha⟩
theorem WStep.below {w0 w w':World} {B g room:Nat} {ob:Option Nat} {s s':Ws} (h:WStep w B g ob room s' w') (h0:Wr w B g ob room s) (hb:Below B w0 w) (hB:B≤w.heap.size):Below B w0 w':=by
 obtain⟨ob',_,_,m⟩:=h
 exact m.below hb hB h0.base fun k hk=>(h0.lt.2 k hk).1
theorem Zjp (room:Nat) (h:room≤65536) (w:World) :
  Calls Tryz.prog 128 #[.int .i64 (room:Int)] w fun e w'=>∃ g,e=.returned (.pointer (some ⟨g,0,none⟩))∧Wr w' w.heap.size g none room (0,[])∧Below w.heap.size w w':=by
 have h0:¬(room:Int)<0:=by omega
 have h1:¬(65536:Int)<(room:Int):=by omega
 have H:=Zq h
 clear h
 go_enter Tryz.func128,Tryz.ntmps128
 go_wp2_with fail
 go_ret
 exact⟨_,rfl,⟨_,RowAt.of (Zaq w _),Zbk _ _,rfl,(fun e=>by cases e),Nat.le_refl _,Nat.zero_le _,H.out⟩,Zab (Below.refl _ _) _⟩
theorem WStep.err {w w1:World} {B g room:Nat} {ob:Option Nat} {s:Ws} (h:Wr w B g ob room s) (hb:Below w.heap.size w w1) (er:Int):WStep w B g ob room (er,s.2) (w1.setCell ⟨g,1,none⟩ (.int .i64 er)):=by
 have hlt:=h.lt
 obtain⟨v,hr,ho,rfl,ha⟩:=h
 have hr1:=hr.grow hb
 rw[Zbm hr1]
 refine⟨_,⟨v,hr1.set _,?_,rfl,ha⟩,NewB.refl _ _,(Moves.of g _ hb).setRow _⟩
 exact(ho.below hb).moves (Moves.setRow (Moves.refl w1 g none) _) ha.1 (fun _ _ e=>by cases e)
theorem WStep.put {w w1:World} {B g room:Nat} {ob:Option Nat} {s:Ws} {l':List Nat} {v' v0:Value} (h:Wr w B g ob room s) (m:Moves w g ob w1) (hr:RowAt w1 g (wrow true s.1 room v0)) (ho:OwnB w1 B v' l') (hn:NewB w ob v'.ownBlock) (hl:l'.length≤room) :
  WStep w B g ob room (s.1,l') (w1.setCell ⟨g,3,none⟩ v'):=by
 have hlt:=h.lt
 have hap:=h.apart
 have hne:v'.ownBlock≠some g:=hn.ne hap hlt.1
 rw[Zbm hr]
 refine⟨_,⟨v',hr.set _,?_,rfl,hne,h.base,hl,h.le.2⟩,hn,m.setRow _⟩
 exact ho.moves (Moves.setRow (Moves.refl w1 g none) _) hne (fun _ _ e=>by cases e)
theorem Ztr {w:World} {B:Nat} {v:Value} {l m:List Nat} {p:Option Addr} {cap k:Nat} (h:OwnB w B v l) (hB:Bs0 w p m) (hk:k=m.length) (hp:p=none→cap=0) (hBw:B≤w.heap.size) (hlen:l.length+m.length≤16777216) :
  ∃ v' w',(Builtin.append_ #[38,38] 38 #[v,.slice p k cap]).run Tryz.prog w=.ok v' w'∧OwnB w' B v' (l++m)∧w.grownBy w' v.ownBlock∧NewB w v.ownBlock v'.ownBlock:=by
 subst hk
 obtain⟨i0,hi,hz0,hz1,hz2⟩:=info_parts ZcY
 cases p with
 | none =>
  have hm:m=[]:=by
   rcases hB with h | ⟨b,o,h,_⟩
   ·exact h
   ·cases h
  subst hm
  rw[hp rfl]
  exact⟨v,w,run_append_owned_none (P:=Tryz.prog) (w:=w) B _ _ _ i0 1 Tryz.underlying38 hi v _ _ h,by rw[List.append_nil];exact h,⟨rfl,rfl,rfl,Nat.le_refl _,fun _ _ _=>rfl⟩,NewB.refl _ _⟩
 | some a =>
  have hnews:∀j u,(bys m)[j]?=some u→w.cell? (a.add j)=some u:=by
   rcases hB with rfl | ⟨b,o,he,hB⟩
   ·intro j u hu;simp[bys] at hu
   ·cases he;exact Zgo hB
  obtain⟨v',w',h1,h2,h3,h4⟩:=run_append_own (P:=Tryz.prog) w B 38 38 5 i0 (.int .u8 0) 1 1 Tryz.underlying38 hi hz0 hz1 hz2 rfl (by decide) v l.length (bys l) h a m.length cap (bys m) (by rw[Zaz,Nat.mul_one]) hnews (Zdd m) (ZaL hlen) (by omega) hBw
  refine⟨v',w',h1,OwnB.snoc h2,h3,?_⟩
  rcases h.2 with ⟨rfl,h0⟩ | ⟨g0,cap0,cur,rfl,hb,hgg,hc,hm,hs,ht⟩
  ·by_cases hm0:0<m.length
   ·have hr:=run_append_nil (P:=Tryz.prog) w 38 38 5 i0 (.int .u8 0) Tryz.underlying38 hi hz0 a m.length cap (bys m) (by rw[hz1,Zaz,Nat.mul_one]) hnews hm0 (by omega) (by rw[hz2];omega)
    rw[h1] at hr
    cases hr
    intro k hk
    simp only[Value.ownBlock,Option.some.injEq] at hk
    exact .inr (by omega)
   ·intro k hk
    rw[h4.2 ⟨rfl,by omega⟩] at hk
    cases hk
  ·by_cases hroom:l.length+m.length≤cap0
   ·have hr:=run_append_room (P:=Tryz.prog) w 38 38 5 i0 Tryz.underlying38 hi g0 l.length cap0 cur hgg a m.length cap (bys m) (by rw[hz1,Zaz,Nat.mul_one]) hnews (Zdd _) hroom (by rw[hz1,Zaz];omega)
    rw[h1] at hr
    cases hr
    exact NewB.refl _ _
   ·have hr:=run_append_grow (P:=Tryz.prog) w 38 38 5 i0 (.int .u8 0) Tryz.underlying38 hi hz0 ⟨g0,0,none⟩ l.length cap0 (bys l) (by rw[hz1,Zaz,Nat.mul_one]) (World.ownsRow.cells h (g:=g0) rfl) a m.length cap (bys m) (by rw[hz1,Zaz,Nat.mul_one]) hnews (by omega) (by omega) (by rw[hz2];exact growslice_fits (by omega) (by omega))
    rw[h1] at hr
    cases hr
    intro k hk
    simp only[Value.ownBlock,Option.some.injEq] at hk
    exact .inr (by omega)
theorem ZsA (B g:Nat) (ob:Option Nat) (room:Nat) (l m:List Nat) (p:Option Addr) (k cap:Nat) (w:World) (h:Wr w B g ob room (0,l)) (hk:k=m.length) (hB:Bs0 w p m) (hp:p=none→cap=0) :
  Calls Tryz.prog 157 #[.pointer (some ⟨g,0,none⟩),.slice p k cap] w fun e w'=>e=.returned (.int .i64 (layS room l m).1)∧WStep w B g ob room (layS room l m) w':=by
 have H:=Zq h
 obtain⟨v,hr,ho,rfl,hg,hBg,hle,hroom⟩:=h
 simp only at hr ho hle
 have hown:=ho
 have HR:=Zq hr
 obtain⟨p0,c0,rfl,_⟩:=ho.bs
 have hc1:=hr.cellAt 1 (show (wrow true 0 room (.slice p0 l.length c0))[1]?=some (.int .i64 0) from rfl)
 have hc2:=hr.cellAt 2 (show (wrow true 0 room (.slice p0 l.length c0))[2]?=some (.int .i64 (room:Int)) from rfl)
 have hc3:=hr.cellAt 3 (show (wrow true 0 room (.slice p0 l.length c0))[3]?=some (.slice p0 l.length c0) from rfl)
 have hf1:=hr.frozenAt 1
 have hgl:=hr.2.2
 obtain⟨n,en⟩:∃n,n=l.length:=⟨_,rfl⟩
 obtain⟨q,eq⟩:∃q,q=room-n:=⟨_,rfl⟩
 have k1:IntKind.i64.wrap ((room:Int)-(n:Int))=(q:Int):=by rw[IntWalk.i64_in _ (by omega)];omega
 by_cases hfull:room<l.length+m.length
 ·have hlay:layS room l m=(8,l):=by unfold layS;rw[if_pos hfull]
  have h1:(q:Int)<(k:Int):=by omega
  have Hg:=Zq hown
  rw[hlay]
  rw[←en] at hc3
  have En:=Zq en
  clear hr ho hg hBg hle hroom hB hp hk hlay hfull eq hc1 hf1 hown en
  go_enter Tryz.func157,Tryz.ntmps157
  go_wp2_with fail
  refine ZaC (fun w'=>∃ o d,w'=w.plus o d) (by kernel_rfl) (by kernel_rfl) ⟨#[],_,rfl⟩ ?_
  iterate 13 (refine Zat ⟨_,#[],0,rfl⟩ (Zaa rfl) (by rintro K _ ⟨o,d,rfl⟩ hK;go_simp;exact hK _ ⟨o,d,rfl⟩) ?_)
  refine Zaw ?_
  rintro _ ⟨of1,nf1,rfl⟩
  have hb1:=Zag (Below.refl w.heap.size w) of1 nf1
  generalize w.plus of1 nf1=W1 at *
  have hr1:=HR.out.grow hb1
  have KF:=Zq (Zgh g 8 0 W1 (hr1.cellAt 1 rfl) (hr1.frozenAt 1))
  have HS:=Zq (WStep.err H.out hb1 8)
  clear hb1 hr1
  go_wp2_with fail
  refine KF.out.mono ?_
  rintro e w' ⟨rfl,rfl⟩
  go_wp2_with fail
  go_ret
  exact⟨rfl,HS.out⟩
 ·have hlay:layS room l m=(0,l++m):=by unfold layS;rw[if_neg hfull]
  have h1:¬(q:Int)<(k:Int):=by omega
  rw[hlay]
  rw[←en] at hc3
  have En:=Zq en
  have HB:=Zq hB
  have HP:=Zq hp
  have HK:=Zq hk
  have HL:=Zq hfull
  have HRm:=Zq hroom
  have HO:=Zq hown
  clear hr ho hg hBg hle hroom hB hp hk hlay hfull eq hc1 hf1 hown en
  go_enter Tryz.func157,Tryz.ntmps157
  go_wp2_with fail
  refine ZaC (fun w'=>∃ o d,w'=w.plus o d) (by kernel_rfl) (by kernel_rfl) ⟨#[],_,rfl⟩ ?_
  iterate 13 (refine Zat ⟨_,#[],0,rfl⟩ (Zaa rfl) (by rintro K _ ⟨o,d,rfl⟩ hK;go_simp;exact hK _ ⟨o,d,rfl⟩) ?_)
  refine Zaw ?_
  rintro _ ⟨of1,nf1,rfl⟩
  have hb1:=Zag (Below.refl w.heap.size w) of1 nf1
  generalize w.plus of1 nf1=W1 at *
  have hBs:B≤w.heap.size:=Nat.le_trans H.out.base (Nat.le_of_lt H.out.lt.1)
  obtain⟨v2,w2,hr2,ho2,hg2,hn2⟩:=Ztr (cap:=cap) (HO.out.below hb1) (HB.out.grow hb1) HK.out HP.out (Nat.le_trans hBs hb1.size) (by have:=HL.out;have:=HRm.out;omega)
  have m2:Moves w g (Value.slice p0 l.length c0).ownBlock w2:=(Moves.of g _ hb1).grownBy hg2
  have hR1:=HR.out.grow hb1
  have hR2:RowAt w2 g (wrow true 0 room (.slice p0 l.length c0)):=RowAt.moves hR1 (Moves.grownBy (Moves.refl W1 (g+1) _) hg2) (by omega) H.out.apart
  have HS:=Zq (WStep.put H.out m2 hR2 ho2 (fun k hk=>(hn2 k hk).imp id fun h=>Nat.le_trans hb1.size h) (by rw[List.length_append];have:=HL.out;omega))
  have hc3:=hR1.cellAt 3 (show (wrow true 0 room (.slice p0 l.length c0))[3]?=some (.slice p0 l.length c0) from rfl)
  have hd3:=hR2.cellAt 3 (show (wrow true 0 room (.slice p0 l.length c0))[3]?=some (.slice p0 l.length c0) from rfl)
  have hf3:=hR2.frozenAt 3
  obtain⟨p2,c2,rfl,_⟩:=ho2.bs
  clear m2 hR1 hR2 hn2 hg2 ho2 hb1
  generalize (l++m).length=n2 at *
  go_wp2_with (at_builtin;refine Lib.wpList_append_run _ rfl _ _ _ _ rfl _ _ rfl rfl _ _ hr2 ?_)
  go_wp2_with fail
  go_ret
  exact⟨rfl,HS.out⟩
theorem WStep.refl {w:World} {B g room:Nat} {ob:Option Nat} {s:Ws} (h:Wr w B g ob room s):WStep w B g ob room s w:=⟨ob,h,NewB.refl _ _,Moves.refl _ _ _⟩
theorem WStep.grown {w w1 w':World} {B g room:Nat} {ob:Option Nat} {s:Ws} (hb:Below w.heap.size w w1) (h:WStep w1 B g ob room s w'):WStep w B g ob room s w':=by
 obtain⟨ob',h1,h2,h3⟩:=h
 exact⟨ob',h1,fun k hk=>(h2 k hk).imp id fun h=>Nat.le_trans hb.size h,(Moves.of g ob hb).trans h3 (NewB.refl _ _)⟩
theorem Wr.stop {w:World} {B g room:Nat} {ob:Option Nat} {s:Ws} (h:Wr w B g ob room s) :
  Calls Tryz.prog 156 #[.pointer (some ⟨g,0,none⟩)] w fun e w'=>e=.returned (.int .i64 s.1)∧w'=w:=by
 obtain⟨v,hr⟩:=h.row
 exact ZkY g true s.1 w (hr.cellAt 0 rfl) (hr.cellAt 1 rfl)
theorem Zp6 (B g:Nat) (ob:Option Nat) (room:Nat) (s:Ws) (m:List Nat) (p:Option Addr) (k cap:Nat) (w:World) (h:Wr w B g ob room s) (hk:k=m.length) (hB:Bs0 w p m) (hp:p=none→cap=0) :
  Calls Tryz.prog 130 #[.pointer (some ⟨g,0,none⟩),.slice p k cap] w fun e w'=>e=.returned (.int .i64 (bytS room s m).1)∧WStep w B g ob room (bytS room s m) w':=by
 have HS:=Zq h.stop
 obtain⟨er,l⟩:=s
 by_cases her:er=0
 ·subst her
  have hs:bytS room (0,l) m=layS room l m:=by unfold bytS;rw[if_neg (by simp)]
  have KL:=Zq (ZsA B g ob room l m p k cap w h hk hB hp)
  rw[hs]
  clear hs h hk hB hp
  go_enter Tryz.func130,Tryz.ntmps130
  go_wp2_with fail
  refine HS.out.mono ?_
  rintro e w' ⟨rfl,rfl⟩
  go_wp2_with fail
  refine KL.out.mono ?_
  rintro e w2 ⟨rfl,hst⟩
  have HT:=Zq hst
  clear hst
  go_wp2_with fail
  go_ret
  exact⟨rfl,HT.out⟩
 ·have hs:bytS room (er,l) m=(er,l):=by unfold bytS;rw[if_pos her]
  have HT:=Zq (WStep.refl h)
  rw[hs]
  clear hs h hk hB hp
  go_enter Tryz.func130,Tryz.ntmps130
  go_wp2_with fail
  refine HS.out.mono ?_
  rintro e w' ⟨rfl,rfl⟩
  go_wp2_with fail
  go_ret
  exact⟨rfl,HT.out⟩
theorem Zlz (n:Nat) (y:Nat):(n:Int)/2^y=0↔n<2^y:=by
 have h:((n/2^y:Nat):Int)=(n:Int)/2^y:=by simp
 rw[←h]
 have h2:=Nat.div_eq_zero_iff (a:=n) (b:=2^y)
 have h3:=Nat.two_pow_pos y
 constructor
 ·intro h0;have:=h2.1 (by omega);omega
 ·intro h0;have:=h2.2 (.inr h0);omega
theorem Zvb (B g:Nat) (ob:Option Nat) (room:Nat) (s:Ws) (n:Nat) (sz:Int) (w:World) (h:Wr w B g ob room s) :
  Calls Tryz.prog 129 #[.pointer (some ⟨g,0,none⟩),.int .u64 (n:Int),.int .i64 sz] w fun e w'=>e=.returned (.int .i64 (numS room s n sz).1)∧WStep w B g ob room (numS room s n sz) w':=by
 have HS:=Zq h.stop
 obtain⟨er,l⟩:=s
 by_cases her:er=0
 ·subst her
  have hs:numS room (0,l) n sz=if ¬Fits n sz then (2,l) else layS room l (digN n sz.toNat):=by unfold numS;rw[if_neg (by simp)]
  rw[hs]
  have hrow:=h.row
  have H:=Zq h
  obtain⟨v,hr⟩:=hrow
  have KF:=Zq (Zgh g 2 0 w (hr.cellAt 1 rfl) (hr.frozenAt 1))
  have HE:=Zq (WStep.err h (Below.refl _ _) 2)
  by_cases h1:sz<1
  ·rw[if_pos (by unfold Fits;omega)]
   clear hs h hr
   go_enter Tryz.func129,Tryz.ntmps129
   go_wp2_with fail
   refine HS.out.mono ?_
   rintro e w' ⟨rfl,rfl⟩
   go_wp2_with fail
   refine KF.out.mono ?_
   rintro e w' ⟨rfl,rfl⟩
   go_wp2_with fail
   go_ret
   exact⟨rfl,HE.out⟩
  ·by_cases h8:8<sz
   ·rw[if_pos (by unfold Fits;omega)]
    clear hs h hr
    go_enter Tryz.func129,Tryz.ntmps129
    go_wp2_with fail
    refine HS.out.mono ?_
    rintro e w' ⟨rfl,rfl⟩
    go_wp2_with fail
    refine KF.out.mono ?_
    rintro e w' ⟨rfl,rfl⟩
    go_wp2_with fail
    go_ret
    exact⟨rfl,HE.out⟩
   ·obtain⟨z,rfl⟩:∃z:Nat,sz=(z:Int):=⟨sz.toNat,by omega⟩
    rw[Int.toNat_natCast]
    obtain⟨y,ey⟩:∃y,y=8*z:=⟨_,rfl⟩
    have k1:IntKind.i64.wrap (8*(z:Int))=(y:Int):=by rw[IntWalk.i64_in _ (by omega)];omega
    have hy0:(0:Int)≤(y:Int):=by omega
    have hy1:(y:Int)≤64:=by omega
    have hsh:=Zlz n y
    by_cases hfit:n<2^y
    ·rw[if_neg (by unfold Fits;rw[Int.toNat_natCast,←ey];omega)]
     have h0:(n:Int)/2^y=0:=hsh.2 hfit
     have KS:=Zq (Ztc n z (by omega) (by omega) w)
     have HD:=Zq (ZbD n z)
     clear hs h hr hsh ey hfit KF HE
     go_enter Tryz.func129,Tryz.ntmps129
     go_wp2_with fail
     refine HS.out.mono ?_
     rintro e w' ⟨rfl,rfl⟩
     go_wp2_with fail
     refine KS.out.mono ?_
     rintro e w1 ⟨g1,rfl,hr1,_,hb1⟩
     have KL:=Zq (ZsA B g ob room l (digN n z) (some ⟨g1,0,none⟩) z z w1 (H.out.grow hb1) HD.out.symm (Bs0.some (ZaH hr1)) (fun h=>by cases h))
     have HB:=Zq hb1
     clear hr1 hb1
     go_wp2_with fail
     refine KL.out.mono ?_
     rintro e w2 ⟨rfl,hst⟩
     have HT:=Zq (hst.grown HB.out)
     clear hst
     go_wp2_with fail
     go_ret
     exact⟨rfl,HT.out⟩
    ·rw[if_pos (by unfold Fits;rw[Int.toNat_natCast,←ey];omega)]
     have h0:((n:Int)/2^y != 0)=true:=by simpa using fun e=>hfit (hsh.1 e)
     clear hs h hr hsh ey hfit
     go_enter Tryz.func129,Tryz.ntmps129
     go_wp2_with fail
     refine HS.out.mono ?_
     rintro e w' ⟨rfl,rfl⟩
     go_wp2_with fail
     refine KF.out.mono ?_
     rintro e w' ⟨rfl,rfl⟩
     go_wp2_with fail
     go_ret
     exact⟨rfl,HE.out⟩
 ·have hs:numS room (er,l) n sz=(er,l):=by unfold numS;rw[if_pos her]
  have HT:=Zq (WStep.refl h)
  rw[hs]
  clear hs h
  go_enter Tryz.func129,Tryz.ntmps129
  go_wp2_with fail
  refine HS.out.mono ?_
  rintro e w' ⟨rfl,rfl⟩
  go_wp2_with fail
  go_ret
  exact⟨rfl,HT.out⟩
def Zoo (w:World) (v:Value) (er:Int):Prop:=Calls Tryz.prog 156 #[v] w fun e w'=>e=.returned (.int .i64 er)∧w'=w
theorem ZlD (po:Option Addr) (er:Int) (her:¬er=0) (a:Value) (w:World) (h:Zoo w (.pointer po) er):Calls Tryz.prog 131 #[.pointer po,a] w fun e w'=>e=.returned (.int .i64 er)∧w'=w:=by
 have HS:=Zq h
 unfold Zoo at HS
 clear h
 go_enter Tryz.func131,Tryz.ntmps131
 go_wp2_with fail
 refine HS.out.mono ?_
 rintro e w' ⟨rfl,rfl⟩
 go_wp2_with fail
 go_ret
 exact⟨rfl,rfl⟩
theorem Zmw (po:Option Addr) (er:Int) (her:¬er=0) (w:World) (h:Zoo w (.pointer po) er):Calls Tryz.prog 132 #[.pointer po] w fun e w'=>e=.returned (.tuple #[.slice none 0 0,.int .i64 er])∧w'=w:=by
 have HS:=Zq h
 unfold Zoo at HS
 clear h
 go_enter Tryz.func132,Tryz.ntmps132
 go_wp2_with fail
 refine HS.out.mono ?_
 rintro e w' ⟨rfl,rfl⟩
 go_wp2_with fail
 refine bodyPost_ret (v:=.tuple #[.slice none 0 0,.int .i64 er]) (results_tmp2 Tryz.results132 _ _ _) rfl ⟨rfl,rfl⟩
theorem ZsI (B g:Nat) (ob:Option Nat) (room:Nat) (s:Ws) (to:Int) (w:World) (h:Wr w B g ob room s) :
  Calls Tryz.prog 131 #[.pointer (some ⟨g,0,none⟩),.int .i64 to] w fun e w'=>e=.returned (.int .i64 (filS room s to).1)∧WStep w B g ob room (filS room s to) w':=by
 have HS:=Zq h.stop
 obtain⟨er,l⟩:=s
 by_cases her:er=0
 ·subst her
  have hs:filS room (0,l) to=if to<(l.length:Int) then (2,l) else if (room:Int)<to then (8,l) else layS room l (zs (to.toNat-l.length)):=by unfold filS;rw[if_neg (by simp)]
  rw[hs]
  have H:=Zq h
  have HE:=Zq (fun er=>WStep.err h (Below.refl _ _) er)
  have hle:=h.le
  obtain⟨v,hr,ho,_⟩:=h
  have KF:=Zq (fun er=>Zgh g er 0 w (hr.cellAt 1 rfl) (hr.frozenAt 1))
  obtain⟨p0,c0,rfl,_⟩:=ho.bs
  simp only at hr ho hle
  have hc2:=hr.cellAt 2 (show (wrow true 0 room (.slice p0 l.length c0))[2]?=some (.int .i64 (room:Int)) from rfl)
  have hc3:=hr.cellAt 3 (show (wrow true 0 room (.slice p0 l.length c0))[3]?=some (.slice p0 l.length c0) from rfl)
  have hgl:=hr.2.2
  have HLe:=Zq hle
  obtain⟨n,en⟩:∃n,n=l.length:=⟨_,rfl⟩
  rw[←en] at hc3 ⊢
  have En:=Zq en
  by_cases h1:to<(n:Int)
  ·rw[if_pos h1]
   have KF2:=Zq (KF.out 2)
   have HE2:=Zq (HE.out 2)
   clear hs hr ho en hle KF HE
   go_enter Tryz.func131,Tryz.ntmps131
   go_wp2_with fail
   refine HS.out.mono ?_
   rintro e w' ⟨rfl,rfl⟩
   go_wp2_with fail
   refine KF2.out.mono ?_
   rintro e w' ⟨rfl,rfl⟩
   go_wp2_with fail
   go_ret
   exact⟨rfl,HE2.out⟩
  ·rw[if_neg h1]
   by_cases h8:(room:Int)<to
   ·rw[if_pos h8]
    have KF2:=Zq (KF.out 8)
    have HE2:=Zq (HE.out 8)
    clear hs hr ho en hle KF HE
    go_enter Tryz.func131,Tryz.ntmps131
    go_wp2_with fail
    refine HS.out.mono ?_
    rintro e w' ⟨rfl,rfl⟩
    go_wp2_with fail
    refine KF2.out.mono ?_
    rintro e w' ⟨rfl,rfl⟩
    go_wp2_with fail
    go_ret
    exact⟨rfl,HE2.out⟩
   ·rw[if_neg h8]
    obtain⟨t,rfl⟩:∃t:Nat,to=(t:Int):=⟨to.toNat,by omega⟩
    rw[Int.toNat_natCast]
    obtain⟨d,ed⟩:∃d,d=t-n:=⟨_,rfl⟩
    have k1:IntKind.i64.wrap ((t:Int)-(n:Int))=(d:Int):=by rw[IntWalk.i64_in _ (by omega)];omega
    have hmk:=ZfA w d (by omega)
    have hbA:=Zab (Below.refl w.heap.size w) (.cells (bysA (zs d)) 5)
    have KL:=Zq (ZsA B g ob room l (zs d) (some ⟨w.heap.size,0,none⟩) d d _ (H.out.grow hbA) (Zah d).symm (Bs0.some (Zbr w _ _ _)) (fun h=>by cases h))
    have HBA:=Zq hbA
    have hgl2:g<w.heap.size+1:=by omega
    rw[←ed]
    clear hs hr ho en hle KF HE hbA ed
    go_enter Tryz.func131,Tryz.ntmps131
    go_wp2_with fail
    refine HS.out.mono ?_
    rintro e w' ⟨rfl,rfl⟩
    go_wp2_with fail
    refine KL.out.mono ?_
    rintro e w2 ⟨rfl,hst⟩
    have HT:=Zq (hst.grown HBA.out)
    clear hst
    go_wp2_with fail
    go_ret
    exact⟨rfl,HT.out⟩
 ·have hs:filS room (er,l) to=(er,l):=by unfold filS;rw[if_pos her]
  have HT:=Zq (WStep.refl h)
  rw[hs]
  refine(ZlD _ er her _ w HS.out).mono ?_
  rintro e w' ⟨rfl,rfl⟩
  exact⟨rfl,HT.out⟩
theorem Zvd (B g:Nat) (ob:Option Nat) (room:Nat) (s:Ws) (w:World) (h:Wr w B g ob room s) :
  Calls Tryz.prog 132 #[.pointer (some ⟨g,0,none⟩)] w fun e w'=>∃ v,e=.returned (.tuple #[v,.int .i64 s.1])∧OwnB w' w.heap.size v (allL s)∧Below w.heap.size w w':=by
 have HS:=Zq h.stop
 obtain⟨er,l⟩:=s
 by_cases her:er=0
 ·subst her
  have hs:allL (0,l)=l:=by unfold allL;rw[if_neg (by simp)]
  rw[hs]
  have hle:=h.le
  obtain⟨v,hr,ho,rfl,_⟩:=h
  obtain⟨p0,c0,rfl,hb0,_,hp0⟩:=ho.bs
  simp only at hr ho hle
  have hc3:=hr.cellAt 3 (show (wrow true 0 room (.slice p0 l.length c0))[3]?=some (.slice p0 l.length c0) from rfl)
  have hgl:=hr.2.2
  have KC:=Zq (ZjP p0 l l.length c0 w rfl hb0 hp0 (by omega))
  generalize l.length=n at *
  clear hs hr ho hle hb0 hp0
  go_enter Tryz.func132,Tryz.ntmps132
  go_wp2_with fail
  refine HS.out.mono ?_
  rintro e w' ⟨rfl,rfl⟩
  go_wp2_with fail
  refine KC.out.mono ?_
  rintro e w2 ⟨v2,rfl,ho2,hb2⟩
  have HO:=Zq ho2
  have HB:=Zq hb2
  clear ho2 hb2
  go_wp2_with fail
  refine bodyPost_ret (v:=.tuple #[v2,.int .i64 0]) (results_tmp2 Tryz.results132 _ _ _) rfl ⟨_,rfl,HO.out,HB.out⟩
 ·have hs:allL (er,l)=[]:=by unfold allL;rw[if_pos her]
  rw[hs]
  refine(Zmw _ er her w HS.out).mono ?_
  rintro e w' ⟨rfl,rfl⟩
  exact⟨_,rfl,Zbk _ _,Below.refl _ _⟩
theorem WStep.out {w w':World} {B g room:Nat} {ob:Option Nat} {s s' s2:Ws} (h:WStep w B g ob room s' w') (h0:Wr w B g ob room s) (e:s'=s2) {w0:World} (hb:Below B w0 w) (hB:B≤w.heap.size):∃ob',Wr w' B g ob' room s2∧Below B w0 w':=by
 subst e
 have h2:=h.below h0 hb hB
 obtain⟨ob',h1,_⟩:=h
 exact⟨ob',h1,h2⟩
end Go.Proofs.YtddmjddlbhdcpaaGreatDoor
namespace Go.Oc
open Go Go.Sh
theorem Zss {room:Nat} {l:List Nat} {n sz:Nat} (h1:1≤sz) (h8:sz≤8) (hn:n<2^(8*sz)) (hr:l.length+sz≤room):numS room (0,l) n (sz:Int)=(0,l++digN n sz):=by
 unfold numS
 rw[if_neg (by simp),if_neg (by unfold Fits;rw[Int.toNat_natCast];omega),Int.toNat_natCast]
 unfold layS
 rw[if_neg (by simp only[ZbD];omega)]
theorem ZsV {room:Nat} {l m:List Nat} (hr:l.length+m.length≤room):bytS room (0,l) m=(0,l++m):=by
 unfold bytS
 rw[if_neg (by simp)]
 unfold layS
 rw[if_neg (by simp only;omega)]
theorem ZsE {room:Nat} {l:List Nat} {to:Nat} (h1:l.length≤to) (h2:to≤room):filS room (0,l) (to:Int)=(0,l++zs (to-l.length)):=by
 unfold filS
 rw[if_neg (by simp),if_neg (by simp only;omega),if_neg (by omega),Int.toNat_natCast]
 unfold layS
 rw[if_neg (by simp only[Zah];omega)]
theorem Zu1 {n:Nat} (h:n<256):digN n 1=[n]:=by
 show [dgt n 1 0]=[n]
 unfold dgt
 rw[show 8*(1-1-0)=0 from rfl,Nat.pow_zero,Nat.div_one,Nat.mod_eq_of_lt h]
theorem Zww (n:Nat):digN n 2=[n/256%256,n%256]:=by
 show [dgt n 2 0,dgt n 2 1]=_
 unfold dgt
 rw[show 8*(2-1-0)=8 from rfl,show 8*(2-1-1)=0 from rfl,Nat.pow_zero,Nat.div_one]
theorem Zp3 {l:List Nat} {sz:Nat} (h1:1≤sz) (h8:sz≤8) (hr:sz≤l.length):ZhV (0,l) (sz:Int)=(0,l.drop sz):=by
 unfold ZhV
 rw[if_neg (by simp),if_neg (by omega),Int.toNat_natCast]
 unfold takS
 rw[if_neg (by simp only;omega)]
theorem Zol {l:List Nat} {sz:Nat} (h1:1≤sz) (h8:sz≤8) (hr:sz≤l.length):Zhe (0,l) (sz:Int)=ZcF (l.take sz):=by
 unfold Zhe
 rw[if_pos ⟨rfl,by omega,by rw[Int.toNat_natCast];exact hr⟩,Int.toNat_natCast]
theorem ZoD {l:List Nat} {n:Nat} (hr:n≤l.length):Zik (0,l) (n:Int)=(0,l.drop n):=by
 unfold Zik
 rw[if_neg (by simp),if_neg (by omega),Int.toNat_natCast]
 unfold takS
 rw[if_neg (by simp only;omega)]
theorem Zon {l:List Nat} {n:Nat} (hr:n≤l.length):Zhi (0,l) (n:Int)=l.take n:=by
 unfold Zhi
 rw[if_pos ⟨rfl,by omega,by rw[Int.toNat_natCast];exact hr⟩,Int.toNat_natCast]
end Go.Oc
namespace Go.Proofs.YtddmjddlbhdcpaaGreatDoor
open Go.RowKit Go.Hold Go.Sh Go.Oc
theorem ZjJ {W0 w:World} {g room:Nat} {ob:Option Nat} {l:List Nat} (h:Wr w W0.heap.size g ob room (0,l)) (hb:Below W0.heap.size W0 w) (n sz:Nat) (h1:1≤sz) (h8:sz≤8) (hn:n<2^(8*sz)) (hr:l.length+sz≤room) :
  Calls Tryz.prog 129 #[.pointer (some ⟨g,0,none⟩),.int .u64 (n:Int),.int .i64 (sz:Int)] w fun e w'=>e=.returned (.int .i64 0)∧∃ ob',Wr w' W0.heap.size g ob' room (0,l++digN n sz)∧Below W0.heap.size W0 w':=by
 refine(Zvb W0.heap.size g ob room (0,l) n (sz:Int) w h).mono ?_
 rintro e w' ⟨rfl,hst⟩
 have hs:=Zss (l:=l) h1 h8 hn hr
 exact⟨by rw[hs],hst.out h hs hb hb.size⟩
theorem Zm2 {W0 w:World} {g room:Nat} {ob:Option Nat} {l:List Nat} (h:Wr w W0.heap.size g ob room (0,l)) (hb:Below W0.heap.size W0 w) (m:List Nat) (p:Option Addr) (k cap:Nat) (hk:k=m.length) (hB:Bs0 w p m) (hp:p=none→cap=0) (hr:l.length+m.length≤room) :
  Calls Tryz.prog 130 #[.pointer (some ⟨g,0,none⟩),.slice p k cap] w fun e w'=>e=.returned (.int .i64 0)∧∃ ob',Wr w' W0.heap.size g ob' room (0,l++m)∧Below W0.heap.size W0 w':=by
 refine(Zp6 W0.heap.size g ob room (0,l) m p k cap w h hk hB hp).mono ?_
 rintro e w' ⟨rfl,hst⟩
 have hs:=ZsV (l:=l) hr
 exact⟨by rw[hs],hst.out h hs hb hb.size⟩
theorem ZoA {W0 w:World} {g room:Nat} {ob:Option Nat} {l:List Nat} (h:Wr w W0.heap.size g ob room (0,l)) (hb:Below W0.heap.size W0 w) (to:Nat) (h1:l.length≤to) (h2:to≤room) :
  Calls Tryz.prog 131 #[.pointer (some ⟨g,0,none⟩),.int .i64 (to:Int)] w fun e w'=>e=.returned (.int .i64 0)∧∃ ob',Wr w' W0.heap.size g ob' room (0,l++zs (to-l.length))∧Below W0.heap.size W0 w':=by
 refine(ZsI W0.heap.size g ob room (0,l) (to:Int) w h).mono ?_
 rintro e w' ⟨rfl,hst⟩
 have hs:=ZsE (l:=l) h1 h2
 exact⟨by rw[hs],hst.out h hs hb hb.size⟩
theorem ZrT {W0 w:World} {g room:Nat} {ob:Option Nat} {l:List Nat} (h:Wr w W0.heap.size g ob room (0,l)) (hb:Below W0.heap.size W0 w) :
  Calls Tryz.prog 132 #[.pointer (some ⟨g,0,none⟩)] w fun e w'=>∃ v,e=.returned (.tuple #[v,.int .i64 0])∧OwnB w' w.heap.size v l∧Below W0.heap.size W0 w':=by
 refine(Zvd W0.heap.size g ob room (0,l) w h).mono ?_
 rintro e w' ⟨v,rfl,ho,hb'⟩
 exact⟨v,rfl,ho,hb.trans (hb'.mono hb.size)⟩
end Go.Proofs.YtddmjddlbhdcpaaGreatDoor
namespace Go.Cm
open Go Go.Sh Go.Oc
theorem Zns {k n d:Nat} {id:List Nat} (hk:k<5) (hn:n<16) (hi:id.length=8) :
  (((([]++digN k 1)++digN n 1)++digN d 2)++id)++zs (16-(((([]++digN k 1)++digN n 1)++digN d 2)++id).length)=(Cmd.mk k n d id).enc:=by
 rw[Zu1 (by omega),Zu1 (by omega),Zww]
 simp[Cmd.enc,hi]
 omega
end Go.Cm
namespace Go.Proofs.YtddmjddlbhdcpaaGreatDoor
open Go.RowKit Go.Hold Go.Sh Go.Oc Go.Cm
theorem ZpO (c:Cmd) (hid:c.id.length=8) (w:World) :
  Calls Tryz.prog 102 #[.agg (cmdA c)] w fun e w'=>e=.returned (.tuple #[.agg (bysA (encV c)),.int .i64 (encE c)])∧Below w.heap.size w w':=by
 have hcs:=Zax hid
 have hzs:(bysA (zs 16)).size=16:=rfl
 by_cases hm:c.may=false
 ·have hV:encV c=zs 16:=by unfold encV;rw[hm];rfl
  have hE:encE c=2:=by unfold encE;rw[hm];rfl
  rw[hV,hE]
  have KM:=Zq (fun (W:World)=>ZpU c hid W)
  rw[hm] at KM
  clear hm hV hE
  go_enter Tryz.func102,Tryz.ntmps102
  go_wp2_with fail
  generalize hW:World.alloc _ _=W0
  have R0:=Zq (show RowAt W0 w.heap.size (cmdA c) by rw[←hW];clear hW;exact⟨by go_simp,by go_simp,by go_simp⟩)
  have T0:=Zq (show RowAt W0 (w.heap.size+1) (bysA (zs 16)) by rw[←hW];clear hW;exact⟨by go_simp,by go_simp;rfl,by go_simp⟩)
  have B0:=Zq (show Below w.heap.size w W0 by rw[←hW];repeat (first | apply Zab | exact Below.refl _ _))
  have hz1:w.heap.size≤w.heap.size+1:=by omega
  have hz3:w.heap.size≠w.heap.size+1:=by omega
  generalize w.heap.size+1=t at *
  obtain⟨z,ez⟩:∃z,z=w.heap.size:=⟨_,rfl⟩
  rw[←ez] at R0 hz1 hz3 ⊢
  have Ez:=Zq ez
  clear ez
  refine(KM.out W0).mono ?_
  rintro e W1 ⟨rfl,hb1⟩
  have R1:=Zq (R0.out.grow hb1)
  have T1:=Zq (T0.out.grow hb1)
  have B1:=Zq (B0.out.trans (hb1.mono B0.out.size))
  clear hb1 hW R0 T0 B0
  clear R1 hz3
  obtain⟨t1,t2,t3⟩:=T1.out
  go_wp2_with fail
  refine bodyPost_ret (v:=.tuple #[.agg (bysA (zs 16)),.int .i64 2]) (Zdj Tryz.results102 (zs 16) rfl _ _ _ t rfl (by go_simp) (by go_simp) rfl) rfl ⟨rfl,?_⟩
  exact Zad B1.out (by rw[←Ez.out];exact hz1) _
 have hm:c.may=true:=by simpa using hm
 have hV:encV c=c.enc:=by unfold encV;rw[hm];rfl
 have hE:encE c=0:=by unfold encE;rw[hm];rfl
 rw[hV,hE]
 have KM:=Zq (fun (W:World)=>ZpU c hid W)
 rw[hm] at KM
 obtain⟨⟨ha1,ha2⟩,⟨hb1,hb2⟩,hc1,hc2⟩:=ZfO hm
 obtain⟨k,ek⟩:=Int.eq_ofNat_of_zero_le (show 0≤c.k by omega)
 obtain⟨n,en⟩:=Int.eq_ofNat_of_zero_le hb1
 obtain⟨d,ed⟩:=Int.eq_ofNat_of_zero_le hc1
 have HX:=Zq (show (((([]++digN k 1)++digN n 1)++digN d 2)++c.id)++zs (16-(((([]++digN k 1)++digN n 1)++digN d 2)++c.id).length)=c.enc by
  rw[Zns (by omega) (by omega) hid,←ek,←en,←ed])
 have HL:=Zq (Zb0 hid)
 have HI:=Zq hid
 have u1:IntKind.u64.wrap (k:Int)=(k:Int):=IntWalk.u64_in _ (by omega)
 have u2:IntKind.u64.wrap (n:Int)=(n:Int):=IntWalk.u64_in _ (by omega)
 have u3:IntKind.u64.wrap (d:Int)=(d:Int):=IntWalk.u64_in _ (by omega)
 have V1:=Zq (show k<2^(8*1) by omega)
 have V2:=Zq (show n<2^(8*1) by omega)
 have V3:=Zq (show d<2^(8*2) by omega)
 clear hm hV hE ha1 ha2 hb1 hb2 hc1 hc2
 go_enter Tryz.func102,Tryz.ntmps102
 go_wp2_with fail
 generalize hW:World.alloc _ _=W0
 have R0:=Zq (show RowAt W0 w.heap.size (cmdA c) by rw[←hW];clear hW;exact⟨by go_simp,by go_simp,by go_simp⟩)
 have T0:=Zq (show RowAt W0 (w.heap.size+1) (bysA (zs 16)) by rw[←hW];clear hW;exact⟨by go_simp,by go_simp;rfl,by go_simp⟩)
 have B0:=Zq (show Below w.heap.size w W0 by rw[←hW];repeat (first | apply Zab | exact Below.refl _ _))
 have hz1:w.heap.size≤w.heap.size+1:=by omega
 have hz3:w.heap.size≠w.heap.size+1:=by omega
 generalize w.heap.size+1=t at *
 obtain⟨z,ez⟩:∃z,z=w.heap.size:=⟨_,rfl⟩
 rw[←ez] at R0 hz1 hz3 ⊢
 have Ez:=Zq ez
 clear ez
 refine(KM.out W0).mono ?_
 rintro e W1 ⟨rfl,hb1⟩
 have R1:=Zq (R0.out.grow hb1)
 have T1:=Zq (T0.out.grow hb1)
 have B1:=Zq (B0.out.trans (hb1.mono B0.out.size))
 clear hb1 hW R0 T0 B0
 go_wp2_with fail
 refine(Zjp 16 (by decide) W1).mono ?_
 rintro e w2 ⟨g,rfl,hw2,hb2⟩
 have X2:=Zq hw2
 have Y2:=Zq hb2
 have hc0:w2.cell? ⟨z,0,none⟩=some (.int .i64 (k:Int)):=by rw[←ek];exact(R1.out.keep hb2 R1.out.2.2).cellAt 0 (Zei c)
 clear hw2 hb2
 go_wp2_with fail
 refine(ZjJ X2.out Y2.out k 1 (by decide) (by decide) V1.out (by simp)).mono ?_
 rintro e w3 ⟨rfl,ob3,hw3,hb3⟩
 have X3:=Zq hw3
 have Y3:=Zq hb3
 have hc0:w3.cell? ⟨z,1,none⟩=some (.int .i64 (n:Int)):=by rw[←en];exact(R1.out.keep hb3 R1.out.2.2).cellAt 1 (ZfG c)
 clear hw3 hb3 X2 Y2
 go_wp2_with fail
 refine(ZjJ X3.out Y3.out n 1 (by decide) (by decide) V2.out (by simp[ZbD])).mono ?_
 rintro e w4 ⟨rfl,ob4,hw4,hb4⟩
 have X4:=Zq hw4
 have Y4:=Zq hb4
 have hc0:w4.cell? ⟨z,2,none⟩=some (.int .i64 (d:Int)):=by rw[←ed];exact(R1.out.keep hb4 R1.out.2.2).cellAt 2 (Zfw c)
 clear hw4 hb4 X3 Y3
 go_wp2_with fail
 refine(ZjJ X4.out Y4.out d 2 (by decide) (by decide) V3.out (by simp[ZbD])).mono ?_
 rintro e w5 ⟨rfl,ob5,hw5,hb5⟩
 have X5:=Zq hw5
 have Y5:=Zq hb5
 have HB5:=Zq (Bs0.some (ZmC (R1.out.keep hb5 R1.out.2.2)))
 clear hw5 hb5 X4 Y4
 go_wp2_with fail
 refine(Zm2 X5.out Y5.out c.id (some ⟨z,3,none⟩) 8 8 HI.out.symm HB5.out (fun h=>by cases h) (by simp[ZbD,HI.out])).mono ?_
 rintro e w6 ⟨rfl,ob6,hw6,hb6⟩
 have X6:=Zq hw6
 have Y6:=Zq hb6
 clear hw6 hb6 X5 Y5 HB5
 go_wp2_with fail
 refine(ZoA X6.out Y6.out 16 (by simp[ZbD,HI.out]) (by decide)).mono ?_
 rintro e w7 ⟨rfl,ob7,hw7,hb7⟩
 rw[HX.out] at hw7
 have X7:=Zq hw7
 have Y7:=Zq hb7
 clear hw7 hb7 X6 Y6
 go_wp2_with fail
 refine(ZrT X7.out Y7.out).mono ?_
 rintro e w8 ⟨v,rfl,ho,hb8⟩
 obtain⟨p,q,rfl,hs8,_,_⟩:=ho.bs
 rw[HL.out]
 have S8:=Zq hs8
 have T8:=Zq (T1.out.keep hb8 T1.out.2.2)
 have B8:=Zq (B1.out.trans (hb8.mono B1.out.size))
 clear ho hs8 hb8 X7 Y7 R1 T1 B1
 go_wp2_with fail
 generalize hW:World.alloc _ _=W9
 have hbA:Below w8.heap.size w8 W9:=by rw[←hW];exact Zab (Below.refl _ _) _
 have N9:=Zq (show RowAt W9 w8.heap.size (bysA (zs 16)) by rw[←hW];clear hW;exact⟨by go_simp,by go_simp;rfl,by go_simp⟩)
 have S9:=Zq (S8.out.grow hbA)
 have T9:=Zq (T8.out.grow hbA)
 have B9:=Zq (B8.out.trans (hbA.mono B8.out.size))
 have hne:t≠w8.heap.size:=by have:=T8.out.2.2;omega
 have hle:w.heap.size≤w8.heap.size:=B8.out.size
 clear hW hbA S8 T8 B8
 generalize w8.heap.size=g9 at *
 have hcp:=Zb7 (c2:=16) (cap:=q) (d:=16) (s:=16) (k:=16) N9.out (by rw[Zah]) HL.out.symm (by rw[Zah,HL.out];decide) S9.out
 rw[show c.enc.take 16++(zs 16).drop 16=c.enc by rw[List.take_of_length_le (by rw[HL.out];exact Nat.le_refl _)];simp[zs]] at hcp
 have N10:=N9.out.set (bysA c.enc)
 have T10:=T9.out.other hne (bysA c.enc)
 have B10:=Zq (Zad B9.out hle (bysA c.enc))
 have hes:(bysA c.enc).size=16:=by rw[Zaj];exact HL.out
 generalize W9.setRow g9 (bysA c.enc)=W10 at *
 obtain⟨n1,n2,n3⟩:=N10
 obtain⟨t1,t2,t3⟩:=T10
 clear N9 S9 T9 B9
 rw[hcp]
 clear hcp
 go_simp
 go_wp2_with fail
 refine bodyPost_ret (v:=.tuple #[.agg (bysA (c.enc)),.int .i64 0]) (Zdj Tryz.results102 (c.enc) HL.out _ _ _ t rfl (by go_simp) (by go_simp) rfl) rfl ⟨rfl,?_⟩
 exact Zad B10.out (by rw[←Ez.out];exact hz1) _
end Go.Proofs.YtddmjddlbhdcpaaGreatDoor
namespace Go.Li
open Go Go.Sh Go.Ch
theorem mixd_comm (a b:List Nat) (h:a.length=b.length):mixd a b=mixd b a:=by
 unfold mixd
 rw[h]
 apply List.map_congr_left
 intro i _
 exact Nat.xor_comm _ _
def lab (i:Nat):List Nat:=[108,105,111,110,32,48+i]
end Go.Li
