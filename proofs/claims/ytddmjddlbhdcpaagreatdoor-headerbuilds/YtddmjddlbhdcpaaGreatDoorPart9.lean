/-
  Part 9 of the texts behind the theorem.
-/
import Derived.Test.YtddmjddlbhdcpaaGreatDoorPart7
import Derived.Great.BuildSlice
import Derived.Test.YtddmjddlbhdcpaaGreatDoorPart8
import Derived.Lib.ConvBytes
import Derived.Laws.BytesString
set_option maxHeartbeats 8000000
set_option maxRecDepth 100000
namespace Go.Proofs.YtddmjddlbhdcpaaGreatDoor
open Go.RowKit Go.Hold Go.Sh
theorem Zge (a i:Nat):((a:Nat):Int)/2^(8*i)%256=((a/256^i%256:Nat):Int):=by
 rw[show (256:Nat)^i=2^(8*i) by rw[Nat.pow_mul]]
 simp
theorem ZpV (cap:Nat) (p:Option Addr) (l:List Nat) (w:World) (hl:l.length≤100000) (hB:Bs0 w p l) (hpc:p=none→cap=0) :
  Calls Tryz.prog 118 #[.slice p l.length cap] w fun e w'=>∃ g c,e=.returned (.slice (some ⟨g,0,none⟩) (pad l).length c)∧BytesAt w' g 0 (pad l)∧(pad l).length≤c∧Below w.heap.size w w':=by
 obtain⟨i0,hi,hz0,hz1,hz2⟩:=info_parts ZcY
 have HB:=Zq hB
 obtain⟨n,en⟩:∃n,n=l.length:=⟨_,rfl⟩
 have hgap:gap n<64:=by unfold gap;omega
 rw[←en] at hl ⊢
 have En:=Zq en
 obtain⟨N,eN⟩:∃N,N=n*8:=⟨_,rfl⟩
 have hN1:IntKind.u64.wrap (n:Int)=(n:Int):=by rw[IntWalk.u64_in _ (by omega)]
 have hN2:IntKind.u64.wrap ((n:Int)*8)=(N:Int):=by rw[IntWalk.u64_in _ (by omega),eN];omega
 have EN:=Zq eN
 obtain⟨B,eB⟩:∃B,B=w.heap.size:=⟨_,rfl⟩
 have EB:=Zq eB
 have hBw:B≤w.heap.size:=by omega
 clear en eN eB
 cases p with
 | none =>
  have hl0:l=[]:=by
   rcases hB with h | ⟨b,o,h,_⟩
   ·exact h
   ·cases h
  have hn0:n=0:=by rw[En.out,hl0];rfl
  obtain rfl:cap=0:=hpc rfl
  clear hB hpc
  have Hn0:=Zq hn0
  have Hl0:=Zq hl0
  clear hn0 hl0
  have Hown:=Zq (show OwnB (w.alloc (.cells #[] 5)) B (.slice (some ⟨w.heap.size,0,none⟩) 0 0) l by rw[Hl0.out];exact Zcv w B hBw)
  have Hbel:=Zq (show Below B w (w.alloc (.cells #[] 5)) from ((Below.refl w.heap.size w).alloc (Nat.le_refl _) _).mono hBw)
  have hsz:B≤(w.alloc (.cells #[] 5)).heap.size:=by simp;omega
  go_enter Tryz.func118,Tryz.ntmps118
  go_wp2_with (at_builtin;first | refine wpList_append_own_none rfl _ _ 38 rfl B 5 i0 1 Tryz.underlying38 hi _ _ _ rfl (Zcv w B hBw) (congrArg (fun k=>Value.slice none k 0) Hn0.out) ?_ | refine wpList_append_own _ rfl _ _ 38 rfl B 5 i0 (.int .u8 0) 1 1 Tryz.underlying38 hi hz0 hz1 hz2 rfl (by decide) _ _ _ rfl (ZaU Hown.out (Zab (Below.refl _ _) _)) ⟨w.heap.size+1,0,none⟩ 1 1 [.int .u8 128] rfl rfl (ZmS (by simp)) (fun u hu=>by simp at hu;subst hu;rfl) (ZaL (show l.length+1≤16777216 by have:=En.out;omega)) (by have:=(show l.length+1≤16777216 by have:=En.out;omega);omega) (by simp;omega) ?_)
  intro v2 w2 hown2 hgrow2 _
  have Hb2:=Zq (Zbd (Hbel.out.alloc hsz _) (ZaU Hown.out (Zab (Below.refl _ _) (.cells #[.int .u8 128] 5))) (by simp;omega) hgrow2)
  have Ho2:=Zq (OwnB.snoc (m:=[128]) hown2)
  have hsz2:B≤w2.heap.size:=by have:=hgrow2.size;simp at this;omega
  clear hown2 hgrow2 Hown Hbel hsz
  obtain⟨g2,c2,ev2,hg2,hgl2,hc2⟩:=Ho2.out.addr (k:=n+1) (by rw[List.length_append,←En.out];rfl) (by omega)
  subst ev2
  go_wp2_with fail
  go_loopw [3] (fun v wr=>∃ k len g c:Nat,k≤gap n∧len=n+1+k∧v=.slice (some ⟨g,0,none⟩) len c∧OwnB wr B v (l++[128]++zs k)∧Below B w wr∧B≤wr.heap.size) (fun v _=>match v with | .slice _ len _=>(n+1+gap n)-len | _=>0)
  case atStart=>exact⟨0,n+1,g2,c2,Nat.zero_le _,rfl,rfl,by rw[show zs 0=[] from rfl,List.append_nil];exact Ho2.out,Hb2.out,hsz2⟩
  case round =>
   obtain⟨k,len,g,c,hk,hlen,rfl,hown,hbel,hsz⟩:=hrel
   have hgs:=Zj7 n k hk
   rw[←hlen] at hgs
   have hll:(l++[128]++zs k).length=len:=by rw[List.length_append,List.length_append,Zah,←En.out,hlen];rfl
   have htm:=ZeU len
   obtain⟨L,eL⟩:∃L,L=l++[128]++zs k:=⟨_,rfl⟩
   rw[←eL] at hown hll
   have HL:=Zq eL
   clear eL
   have Hown:=Zq hown
   have Hbel:=Zq hbel
   have HLL:=Zq hll
   clear hown hbel hll
   by_cases hkg:k=gap n
   ·have hm:((len%64:Nat):Int)=56:=by omega
    rw[hm] at htm
    have Hlen:=Zq hlen
    have Hkg:=Zq hkg
    clear hlen hgs hm hkg
    go_wp2_with fail
    obtain⟨W3,eW3⟩:∃x,x=wr:=⟨_,rfl⟩
    rw[←eW3] at Hown Hbel hsz ⊢
    clear eW3
    go_loopw [3,5] (fun v i wr=>∃ (j:Nat) (z:Int) (g c:Nat),j≤8∧z=7-(j:Int)∧i=.int .i64 z∧v=.slice (some ⟨g,0,none⟩) (len+j) c∧OwnB wr B v (L++(len8 n).take j)∧Below B w wr∧B≤wr.heap.size) (fun _ i _=>(intOf i+1).toNat)
    case atStart=>exact⟨0,7,g,c,by decide,rfl,rfl,rfl,by rw[List.take_zero,List.append_nil];exact Hown.out,Hbel.out,hsz⟩
    case round =>
     obtain⟨j,z,g,c,hj,hz,rfl,rfl,hown,hbel,hsz⟩:=hrel
     have hlj:(L++(len8 n).take j).length=len+j:=by rw[List.length_append,HLL.out,List.length_take,Zb4];omega
     obtain⟨M,eM⟩:∃M,M=L++(len8 n).take j:=⟨_,rfl⟩
     rw[←eM] at hown hlj
     have HM:=Zq eM
     have Hown:=Zq hown
     have Hbel:=Zq hbel
     have HLJ:=Zq hlj
     clear eM hlj
     clear hown hbel
     by_cases hj8:j<8
     ·have hz0':(0:Int)≤z:=by omega
      obtain⟨y,ey⟩:∃y,y=8*(7-j):=⟨_,rfl⟩
      have hw1:IntKind.i64.wrap (8*z)=(y:Int):=by rw[IntWalk.i64_in _ (by omega)];omega
      have hw2:IntKind.u64.wrap (y:Int)=(y:Int):=by rw[IntWalk.u64_in _ (by omega)]
      have hy0:(0:Int)≤(y:Int):=by omega
      have hy1:(y:Int)≤64:=by omega
      obtain⟨x,ex⟩:∃x,x=n*8/256^(7-j)%256:=⟨_,rfl⟩
      have hx:(N:Int)/2^y%256=(x:Int):=by
       rw[ex,ey,EN.out];exact Zge _ _
      have Hx:=Zq ex
      have hz1:z-1=7-((j+1:Nat):Int):=by omega
      have Hz:=Zq hz
      have Hz1:=Zq hz1
      obtain⟨z',ez'⟩:∃y,y=z-1:=⟨_,rfl⟩
      rw[←ez'] at Hz1
      have hzz:IntKind.i64.wrap (z-1)=z':=by rw[IntWalk.i64_in _ (by omega),ez']
      have Hz':=Zq ez'
      have hzp:0≤z'+1:=by omega
      clear ex ey hz hz1 ez'
      go_wp2_with (at_builtin;refine wpList_append_own _ rfl _ _ 38 rfl B 5 i0 (.int .u8 0) 1 1 Tryz.underlying38 hi hz0 hz1 hz2 rfl (by decide) _ _ _ rfl (ZaU Hown.out (Zab (Below.refl _ _) _)) ⟨wr.heap.size,0,none⟩ 1 1 [.int .u8 (x:Int)] rfl rfl ZcM (fun u hu=>by simp at hu;subst hu;rfl) (ZaL (show M.length+1≤16777216 by rw[HLJ.out];have:=Hlen.out;have:=Hkg.out;omega)) (by have:=(show M.length+1≤16777216 by rw[HLJ.out];have:=Hlen.out;have:=Hkg.out;omega);omega) (by simp;omega) ?_)
      intro v' w4 hown4 hgrow4 _
      have Hb4:=Zq (Zbd (Hbel.out.alloc hsz _) (ZaU Hown.out (Zab (Below.refl _ _) (.cells #[.int .u8 (x:Int)] 5))) (by simp;omega) hgrow4)
      have Ho4:=Zq (OwnB.snoc (m:=[x]) hown4)
      have hsz4:B≤w4.heap.size:=by have:=hgrow4.size;simp at this;omega
      clear hown4 hgrow4
      obtain⟨g4,c4,ev4,_,_,_⟩:=Ho4.out.addr (k:=len+(j+1)) (by rw[List.length_append,HLJ.out];rfl) (by omega)
      subst ev4
      go_wp2_with fail
      go_roundw
      case rel=>exact⟨j+1,z',g4,c4,by omega,Hz1.out,rfl,rfl,by rw[ZhQ n j hj8,←Hx.out,←List.append_assoc,←HM.out];exact Ho4.out,Hb4.out,hsz4⟩
      case measure=>have:=Hz'.out;simp[intOf];omega
     ·obtain rfl:j=8:=by omega
      have hzn:¬(0:Int)≤z:=by omega
      have epad:M=pad l:=by
       rw[HM.out,HL.out]
       unfold pad
       rw[List.take_of_length_le (by rw[Zb4];exact Nat.le_refl _),Hkg.out,En.out]
       simp
      rw[epad] at Hown HLJ
      obtain⟨g5,c5,ev5,hg5,hgl5,hc5⟩:=Hown.out.addr HLJ.out (by have:=Hlen.out;omega)
      cases ev5
      have Hc5:=Zq (show (pad l).length≤_ by rw[HLJ.out];exact hc5)
      clear epad hc5
      go_wp2_with fail
      go_ret
      exact⟨g,c,(by show Ending.returned (.slice (some ⟨g,0,none⟩) (len+8) c)=Ending.returned (.slice (some ⟨g,0,none⟩) (pad l).length c);rw[HLJ.out]),Hown.out.bytes hgl5,Hc5.out,by rw[←EB.out];exact Hbel.out⟩
   ·have hm:((len%64:Nat):Int)≠56:=by omega
    obtain⟨md,emd⟩:∃x,x=len%64:=⟨_,rfl⟩
    rw[←emd] at htm hm
    clear emd
    go_wp2_with (at_builtin;refine wpList_append_own _ rfl _ _ 38 rfl B 5 i0 (.int .u8 0) 1 1 Tryz.underlying38 hi hz0 hz1 hz2 rfl (by decide) _ _ _ rfl (ZaU Hown.out (Zab (Below.refl _ _) _)) ⟨wr.heap.size,0,none⟩ 1 1 [.int .u8 0] rfl rfl ZcM (fun u hu=>by simp at hu;subst hu;rfl) (ZaL (show L.length+1≤16777216 by rw[HLL.out];omega)) (by have:=(show L.length+1≤16777216 by rw[HLL.out];omega);omega) (by simp;omega) ?_)
    intro v' w4 hown4 hgrow4 _
    have Hb4:=Zq (Zbd (Hbel.out.alloc hsz _) (ZaU Hown.out (Zab (Below.refl _ _) (.cells #[.int .u8 0] 5))) (by simp;omega) hgrow4)
    have Ho4:=Zq (OwnB.snoc (m:=[0]) hown4)
    have hsz4:B≤w4.heap.size:=by have:=hgrow4.size;simp at this;omega
    clear hown4 hgrow4
    obtain⟨g4,c4,ev4,_,_,_⟩:=Ho4.out.addr (k:=len+1) (by rw[List.length_append,HLL.out];rfl) (by omega)
    subst ev4
    go_wp2_with fail
    go_roundw
    case rel=>exact⟨k+1,len+1,g4,c4,by omega,by omega,rfl,by rw[←Zmp,←List.append_assoc,←HL.out];exact Ho4.out,Hb4.out,hsz4⟩
    case measure=>simp;omega
 | some ad =>
  have hnews:∀(o:Obj) j u,(bys l)[j]?=some u→(w.alloc o).cell? (ad.add j)=some u:=fun ob j u hu=>by
   rcases hB with h | ⟨b,o,h,hy⟩
   ·subst h;simp[bys] at hu
   ·cases h;exact Zgo (hy.grow (Zab (Below.refl _ _) _)) j u hu
  clear hB hpc
  go_enter Tryz.func118,Tryz.ntmps118
  go_wp2_with (at_builtin;refine wpList_append_own _ rfl _ _ 38 rfl B 5 i0 (.int .u8 0) 1 1 Tryz.underlying38 hi hz0 hz1 hz2 rfl (by decide) _ _ _ rfl (Zcv w B hBw) ad n cap (bys l) rfl (by rw[Zaz,←En.out,Nat.mul_one]) (hnews _) (Zdd l) (ZaL (by simp;omega)) (by simp;omega) (by simp;omega) ?_)
  intro v1 w1 hown1 hgrow1 _
  have Hbel:=Zq (Zbd (((Below.refl w.heap.size w).alloc (Nat.le_refl _) _).mono hBw) (Zcv w B hBw) (by simp;omega) hgrow1)
  have Hown:=Zq (show OwnB w1 B v1 l from (by unfold OwnB;rw[←En.out];exact hown1))
  have hsz:B≤w1.heap.size:=by have:=hgrow1.size;simp at this;omega
  clear hown1 hgrow1 hnews
  go_wp2_with (at_builtin;refine wpList_append_own _ rfl _ _ 38 rfl B 5 i0 (.int .u8 0) 1 1 Tryz.underlying38 hi hz0 hz1 hz2 rfl (by decide) _ _ _ rfl (ZaU Hown.out (Zab (Below.refl _ _) _)) ⟨w1.heap.size,0,none⟩ 1 1 [.int .u8 128] rfl rfl ZcM (fun u hu=>by simp at hu;subst hu;rfl) (ZaL (show l.length+1≤16777216 by have:=En.out;omega)) (by have:=(show l.length+1≤16777216 by have:=En.out;omega);omega) (by simp;omega) ?_)
  intro v2 w2 hown2 hgrow2 _
  have Hb2:=Zq (Zbd (Hbel.out.alloc hsz _) (ZaU Hown.out (Zab (Below.refl _ _) (.cells #[.int .u8 128] 5))) (by simp;omega) hgrow2)
  have Ho2:=Zq (OwnB.snoc (m:=[128]) hown2)
  have hsz2:B≤w2.heap.size:=by have:=hgrow2.size;simp at this;omega
  clear hown2 hgrow2 Hown Hbel hsz
  obtain⟨g2,c2,ev2,hg2,hgl2,hc2⟩:=Ho2.out.addr (k:=n+1) (by rw[List.length_append,←En.out];rfl) (by omega)
  subst ev2
  go_wp2_with fail
  go_loopw [3] (fun v wr=>∃ k len g c:Nat,k≤gap n∧len=n+1+k∧v=.slice (some ⟨g,0,none⟩) len c∧OwnB wr B v (l++[128]++zs k)∧Below B w wr∧B≤wr.heap.size) (fun v _=>match v with | .slice _ len _=>(n+1+gap n)-len | _=>0)
  case atStart=>exact⟨0,n+1,g2,c2,Nat.zero_le _,rfl,rfl,by rw[show zs 0=[] from rfl,List.append_nil];exact Ho2.out,Hb2.out,hsz2⟩
  case round =>
   obtain⟨k,len,g,c,hk,hlen,rfl,hown,hbel,hsz⟩:=hrel
   have hgs:=Zj7 n k hk
   rw[←hlen] at hgs
   have hll:(l++[128]++zs k).length=len:=by rw[List.length_append,List.length_append,Zah,←En.out,hlen];rfl
   have htm:=ZeU len
   obtain⟨L,eL⟩:∃L,L=l++[128]++zs k:=⟨_,rfl⟩
   rw[←eL] at hown hll
   have HL:=Zq eL
   clear eL
   have Hown:=Zq hown
   have Hbel:=Zq hbel
   have HLL:=Zq hll
   clear hown hbel hll
   by_cases hkg:k=gap n
   ·have hm:((len%64:Nat):Int)=56:=by omega
    rw[hm] at htm
    have Hlen:=Zq hlen
    have Hkg:=Zq hkg
    clear hlen hgs hm hkg
    go_wp2_with fail
    obtain⟨W3,eW3⟩:∃x,x=wr:=⟨_,rfl⟩
    rw[←eW3] at Hown Hbel hsz ⊢
    clear eW3
    go_loopw [3,5] (fun v i wr=>∃ (j:Nat) (z:Int) (g c:Nat),j≤8∧z=7-(j:Int)∧i=.int .i64 z∧v=.slice (some ⟨g,0,none⟩) (len+j) c∧OwnB wr B v (L++(len8 n).take j)∧Below B w wr∧B≤wr.heap.size) (fun _ i _=>(intOf i+1).toNat)
    case atStart=>exact⟨0,7,g,c,by decide,rfl,rfl,rfl,by rw[List.take_zero,List.append_nil];exact Hown.out,Hbel.out,hsz⟩
    case round =>
     obtain⟨j,z,g,c,hj,hz,rfl,rfl,hown,hbel,hsz⟩:=hrel
     have hlj:(L++(len8 n).take j).length=len+j:=by rw[List.length_append,HLL.out,List.length_take,Zb4];omega
     obtain⟨M,eM⟩:∃M,M=L++(len8 n).take j:=⟨_,rfl⟩
     rw[←eM] at hown hlj
     have HM:=Zq eM
     have Hown:=Zq hown
     have Hbel:=Zq hbel
     have HLJ:=Zq hlj
     clear eM hlj
     clear hown hbel
     by_cases hj8:j<8
     ·have hz0':(0:Int)≤z:=by omega
      obtain⟨y,ey⟩:∃y,y=8*(7-j):=⟨_,rfl⟩
      have hw1:IntKind.i64.wrap (8*z)=(y:Int):=by rw[IntWalk.i64_in _ (by omega)];omega
      have hw2:IntKind.u64.wrap (y:Int)=(y:Int):=by rw[IntWalk.u64_in _ (by omega)]
      have hy0:(0:Int)≤(y:Int):=by omega
      have hy1:(y:Int)≤64:=by omega
      obtain⟨x,ex⟩:∃x,x=n*8/256^(7-j)%256:=⟨_,rfl⟩
      have hx:(N:Int)/2^y%256=(x:Int):=by
       rw[ex,ey,EN.out];exact Zge _ _
      have Hx:=Zq ex
      have hz1:z-1=7-((j+1:Nat):Int):=by omega
      have Hz:=Zq hz
      have Hz1:=Zq hz1
      obtain⟨z',ez'⟩:∃y,y=z-1:=⟨_,rfl⟩
      rw[←ez'] at Hz1
      have hzz:IntKind.i64.wrap (z-1)=z':=by rw[IntWalk.i64_in _ (by omega),ez']
      have Hz':=Zq ez'
      have hzp:0≤z'+1:=by omega
      clear ex ey hz hz1 ez'
      go_wp2_with (at_builtin;refine wpList_append_own _ rfl _ _ 38 rfl B 5 i0 (.int .u8 0) 1 1 Tryz.underlying38 hi hz0 hz1 hz2 rfl (by decide) _ _ _ rfl (ZaU Hown.out (Zab (Below.refl _ _) _)) ⟨wr.heap.size,0,none⟩ 1 1 [.int .u8 (x:Int)] rfl rfl ZcM (fun u hu=>by simp at hu;subst hu;rfl) (ZaL (show M.length+1≤16777216 by rw[HLJ.out];have:=Hlen.out;have:=Hkg.out;omega)) (by have:=(show M.length+1≤16777216 by rw[HLJ.out];have:=Hlen.out;have:=Hkg.out;omega);omega) (by simp;omega) ?_)
      intro v' w4 hown4 hgrow4 _
      have Hb4:=Zq (Zbd (Hbel.out.alloc hsz _) (ZaU Hown.out (Zab (Below.refl _ _) (.cells #[.int .u8 (x:Int)] 5))) (by simp;omega) hgrow4)
      have Ho4:=Zq (OwnB.snoc (m:=[x]) hown4)
      have hsz4:B≤w4.heap.size:=by have:=hgrow4.size;simp at this;omega
      clear hown4 hgrow4
      obtain⟨g4,c4,ev4,_,_,_⟩:=Ho4.out.addr (k:=len+(j+1)) (by rw[List.length_append,HLJ.out];rfl) (by omega)
      subst ev4
      go_wp2_with fail
      go_roundw
      case rel=>exact⟨j+1,z',g4,c4,by omega,Hz1.out,rfl,rfl,by rw[ZhQ n j hj8,←Hx.out,←List.append_assoc,←HM.out];exact Ho4.out,Hb4.out,hsz4⟩
      case measure=>have:=Hz'.out;simp[intOf];omega
     ·obtain rfl:j=8:=by omega
      have hzn:¬(0:Int)≤z:=by omega
      have epad:M=pad l:=by
       rw[HM.out,HL.out]
       unfold pad
       rw[List.take_of_length_le (by rw[Zb4];exact Nat.le_refl _),Hkg.out,En.out]
       simp
      rw[epad] at Hown HLJ
      obtain⟨g5,c5,ev5,hg5,hgl5,hc5⟩:=Hown.out.addr HLJ.out (by have:=Hlen.out;omega)
      cases ev5
      have Hc5:=Zq (show (pad l).length≤_ by rw[HLJ.out];exact hc5)
      clear epad hc5
      go_wp2_with fail
      go_ret
      exact⟨g,c,(by show Ending.returned (.slice (some ⟨g,0,none⟩) (len+8) c)=Ending.returned (.slice (some ⟨g,0,none⟩) (pad l).length c);rw[HLJ.out]),Hown.out.bytes hgl5,Hc5.out,by rw[←EB.out];exact Hbel.out⟩
   ·have hm:((len%64:Nat):Int)≠56:=by omega
    obtain⟨md,emd⟩:∃x,x=len%64:=⟨_,rfl⟩
    rw[←emd] at htm hm
    clear emd
    go_wp2_with (at_builtin;refine wpList_append_own _ rfl _ _ 38 rfl B 5 i0 (.int .u8 0) 1 1 Tryz.underlying38 hi hz0 hz1 hz2 rfl (by decide) _ _ _ rfl (ZaU Hown.out (Zab (Below.refl _ _) _)) ⟨wr.heap.size,0,none⟩ 1 1 [.int .u8 0] rfl rfl ZcM (fun u hu=>by simp at hu;subst hu;rfl) (ZaL (show L.length+1≤16777216 by rw[HLL.out];omega)) (by have:=(show L.length+1≤16777216 by rw[HLL.out];omega);omega) (by simp;omega) ?_)
    intro v' w4 hown4 hgrow4 _
    have Hb4:=Zq (Zbd (Hbel.out.alloc hsz _) (ZaU Hown.out (Zab (Below.refl _ _) (.cells #[.int .u8 0] 5))) (by simp;omega) hgrow4)
    have Ho4:=Zq (OwnB.snoc (m:=[0]) hown4)
    have hsz4:B≤w4.heap.size:=by have:=hgrow4.size;simp at this;omega
    clear hown4 hgrow4
    obtain⟨g4,c4,ev4,_,_,_⟩:=Ho4.out.addr (k:=len+1) (by rw[List.length_append,HLL.out];rfl) (by omega)
    subst ev4
    go_wp2_with fail
    go_roundw
    case rel=>exact⟨k+1,len+1,g4,c4,by omega,by omega,rfl,by rw[←Zmp,←List.append_assoc,←HL.out];exact Ho4.out,Hb4.out,hsz4⟩
    case measure=>simp;omega
@[go_sem ↓] theorem Zvt (ps:Array (Nat×Value)):Instr.buildSlice 179 8 ps=bldS 179 8 ps:=rfl
@[go_sem ↓] theorem ZtC (ps:Array (Nat×Value)):Instr.buildSlice 179 64 ps=bldS 179 64 ps:=rfl
@[go_sem] theorem Zv8 (w:World) (a b c d e f g h:Int):(bldS 179 8 #[(0,.int .u32 a),(1,.int .u32 b),(2,.int .u32 c),(3,.int .u32 d),(4,.int .u32 e),(5,.int .u32 f),(6,.int .u32 g),(7,.int .u32 h)]).run Tryz.prog w=.ok (.slice (some ⟨w.heap.size,0,none⟩) 8 8) (w.alloc (.cells (stA ⟨a,b,c,d,e,f,g,h⟩) 129)):=by
 obtain⟨ie,h1,h2,h3,_⟩:=info_parts Zdf
 refine run_buildSlice w _ _ 8 _ (stA ⟨a,b,c,d,e,f,g,h⟩) ie _ Tryz.underlying179 h1 h2 (by rw[h3];decide) (by rw[h3];decide) ?_
 rw[h3];kernel_rfl
@[go_sem] theorem ZvX (w:World):(bldS 179 64 #[(0,.int .u32 1116352408),(1,.int .u32 1899447441),(2,.int .u32 3049323471),(3,.int .u32 3921009573),(4,.int .u32 961987163),(5,.int .u32 1508970993),(6,.int .u32 2453635748),(7,.int .u32 2870763221),(8,.int .u32 3624381080),(9,.int .u32 310598401),(10,.int .u32 607225278),(11,.int .u32 1426881987),(12,.int .u32 1925078388),(13,.int .u32 2162078206),(14,.int .u32 2614888103),(15,.int .u32 3248222580),(16,.int .u32 3835390401),(17,.int .u32 4022224774),(18,.int .u32 264347078),(19,.int .u32 604807628),(20,.int .u32 770255983),(21,.int .u32 1249150122),(22,.int .u32 1555081692),(23,.int .u32 1996064986),(24,.int .u32 2554220882),(25,.int .u32 2821834349),(26,.int .u32 2952996808),(27,.int .u32 3210313671),(28,.int .u32 3336571891),(29,.int .u32 3584528711),(30,.int .u32 113926993),(31,.int .u32 338241895),(32,.int .u32 666307205),(33,.int .u32 773529912),(34,.int .u32 1294757372),(35,.int .u32 1396182291),(36,.int .u32 1695183700),(37,.int .u32 1986661051),(38,.int .u32 2177026350),(39,.int .u32 2456956037),(40,.int .u32 2730485921),(41,.int .u32 2820302411),(42,.int .u32 3259730800),(43,.int .u32 3345764771),(44,.int .u32 3516065817),(45,.int .u32 3600352804),(46,.int .u32 4094571909),(47,.int .u32 275423344),(48,.int .u32 430227734),(49,.int .u32 506948616),(50,.int .u32 659060556),(51,.int .u32 883997877),(52,.int .u32 958139571),(53,.int .u32 1322822218),(54,.int .u32 1537002063),(55,.int .u32 1747873779),(56,.int .u32 1955562222),(57,.int .u32 2024104815),(58,.int .u32 2227730452),(59,.int .u32 2361852424),(60,.int .u32 2428436474),(61,.int .u32 2756734187),(62,.int .u32 3204031479),(63,.int .u32 3329325298)]).run Tryz.prog w=.ok (.slice (some ⟨w.heap.size,0,none⟩) 64 64) (w.alloc (.cells (wosA Ks) 129)):=by
 obtain⟨ie,h1,h2,h3,_⟩:=info_parts Zdf
 refine run_buildSlice w _ _ 64 _ (wosA Ks) ie _ Tryz.underlying179 h1 h2 (by rw[h3];decide) (by rw[h3];decide) ?_
 rw[h3];kernel_rfl
theorem Zjf (w:World):Calls Tryz.prog 147 #[] w fun e w'=>∃ g,e=.returned (.slice (some ⟨g,0,none⟩) 64 64)∧WordsAt w' g Ks∧Below w.heap.size w w':=by
 go_enter Tryz.func147,Tryz.ntmps147
 go_wp2_with fail
 go_ret
 exact⟨_,rfl,Zeb w Ks _,Zab (Below.refl _ _) _⟩
theorem Zsc (w:World):Calls Tryz.prog 119 #[] w fun e w'=>∃ g,e=.returned (.slice (some ⟨g,0,none⟩) 8 8)∧RowAt w' g (stA st0)∧w.heap.size≤g∧Below w.heap.size w w':=by
 go_enter Tryz.func119,Tryz.ntmps119
 go_wp2_with fail
 go_ret
 exact⟨_,rfl,RowAt.of (Zaq w _),Nat.le_refl _,Zab (Below.refl _ _) _⟩
theorem ZwT (x0 x1 x2 x3:Nat) (h0:x0<256) (h1:x1<256) (h2:x2<256) (h3:x3<256) :
  o32 (o32 (o32 ((x0:Int)*16777216%4294967296) ((x1:Int)*65536%4294967296)) ((x2:Int)*256%4294967296)) (x3:Int)=(((((0*256+x0)*256+x1)*256+x2)*256+x3:Nat):Int):=by
 unfold o32
 rw[show (x0:Int)*16777216%4294967296=((x0*2^24:Nat):Int) by omega,show (x1:Int)*65536%4294967296=((x1*65536:Nat):Int) by omega,show (x2:Int)*256%4294967296=((x2*256:Nat):Int) by omega]
 rw[u32_or_nat _ _ (by omega) (by omega),or_add x0 (x1*65536) 24 (by omega),show x0*2^24+x1*65536=(x0*256+x1)*2^16 by omega]
 rw[u32_or_nat _ _ (by omega) (by omega),or_add _ (x2*256) 16 (by omega),show (x0*256+x1)*2^16+x2*256=(x0*65536+x1*256+x2)*2^8 by omega]
 rw[u32_or_nat _ _ (by omega) (by omega),or_add _ x3 8 (by omega)]
 omega
theorem ZvN (b:List Nat) (j:Nat):pk4 b j=(((((0*256+b.getD (4*j+0) 0)*256+b.getD (4*j+1) 0)*256+b.getD (4*j+2) 0)*256+b.getD (4*j+3) 0:Nat):Int):=rfl
theorem ZlG (b o cap:Nat) (C:List Nat) (w:World) (hC:C.length=64) (hCb:∀i,C.getD i 0<256) (hB:BytesAt w b o C) :
  Calls Tryz.prog 146 #[.slice (some ⟨b,o,none⟩) 64 cap] w fun e w'=>∃ g c,e=.returned (.slice (some ⟨g,0,none⟩) 64 c)∧WordsAt w' g (sch C)∧Below w.heap.size w w':=by
 obtain⟨ie,hi,hz0,hz1,hz2⟩:=info_parts Zdf
 obtain⟨B,eB⟩:∃B,B=w.heap.size:=⟨_,rfl⟩
 have HB:=Zq hB
 have hbB:b<B:=by rw[eB];exact hB.1
 have EB:=Zq eB
 have hBw:B≤w.heap.size:=by omega
 have hwB:w.heap.size≤B:=by omega
 clear hB eB
 go_enter Tryz.func146,Tryz.ntmps146
 go_wp2_with fail
 go_loopw [3,4] (fun v t wr=>∃ k:Nat,k≤16∧t=.int .i64 k∧OwnW wr B v ((List.range k).map (pk4 C))∧Below B w wr∧B≤wr.heap.size) (fun _ t _=>16-(intOf t).toNat)
 case atStart=>exact⟨0,by decide,rfl,World.ownsRow_nil _ _ _ _,Below.refl _ _,hBw⟩
 case round =>
  obtain⟨k,hk,rfl,hown,hbel,hsz⟩:=hrel
  have hkk:(0:Int)≤(k:Int):=by omega
  have hlen:((List.range k).map (pk4 C)).length=k:=by simp
  by_cases hk16:k<16
  ·have hk1:(k:Int)<16:=by omega
   obtain⟨L,eL⟩:∃L,L=(List.range k).map (pk4 C):=⟨_,rfl⟩
   rw[←eL] at hown hlen
   have HL:=Zq eL
   have Hlen:=Zq hlen
   have Hown:=Zq hown
   have Hbel:=Zq hbel
   have hbl:b<wr.heap.size:=by omega
   have hpk:=ZvN C k
   obtain⟨i0,e0⟩:∃y,y=4*k+0:=⟨_,rfl⟩
   have hc0:wr.cell? ⟨b,o+i0,none⟩=some (.int .u8 ((C.getD i0 0:Nat):Int)):=by rw[hbel.cell hbB];exact HB.out.2 i0 (by omega)
   have hb0:=hCb i0
   rw[←e0] at hpk
   generalize C.getD i0 0=x0 at hc0 hb0 hpk
   have ha0:(0:Int)≤(i0:Int):=by omega
   have hd0:(i0:Int)<64:=by omega
   have hm0:IntKind.u32.wrap (x0:Int)=(x0:Int):=by rw[IntWalk.u32_in _ (by omega)]
   obtain⟨i1,e1⟩:∃y,y=4*k+1:=⟨_,rfl⟩
   have hc1:wr.cell? ⟨b,o+i1,none⟩=some (.int .u8 ((C.getD i1 0:Nat):Int)):=by rw[hbel.cell hbB];exact HB.out.2 i1 (by omega)
   have hb1:=hCb i1
   rw[←e1] at hpk
   generalize C.getD i1 0=x1 at hc1 hb1 hpk
   have ha1:(0:Int)≤(i1:Int):=by omega
   have hd1:(i1:Int)<64:=by omega
   have hm1:IntKind.u32.wrap (x1:Int)=(x1:Int):=by rw[IntWalk.u32_in _ (by omega)]
   obtain⟨i2,e2⟩:∃y,y=4*k+2:=⟨_,rfl⟩
   have hc2:wr.cell? ⟨b,o+i2,none⟩=some (.int .u8 ((C.getD i2 0:Nat):Int)):=by rw[hbel.cell hbB];exact HB.out.2 i2 (by omega)
   have hb2:=hCb i2
   rw[←e2] at hpk
   generalize C.getD i2 0=x2 at hc2 hb2 hpk
   have ha2:(0:Int)≤(i2:Int):=by omega
   have hd2:(i2:Int)<64:=by omega
   have hm2:IntKind.u32.wrap (x2:Int)=(x2:Int):=by rw[IntWalk.u32_in _ (by omega)]
   obtain⟨i3,e3⟩:∃y,y=4*k+3:=⟨_,rfl⟩
   have hc3:wr.cell? ⟨b,o+i3,none⟩=some (.int .u8 ((C.getD i3 0:Nat):Int)):=by rw[hbel.cell hbB];exact HB.out.2 i3 (by omega)
   have hb3:=hCb i3
   rw[←e3] at hpk
   generalize C.getD i3 0=x3 at hc3 hb3 hpk
   have ha3:(0:Int)≤(i3:Int):=by omega
   have hd3:(i3:Int)<64:=by omega
   have hm3:IntKind.u32.wrap (x3:Int)=(x3:Int):=by rw[IntWalk.u32_in _ (by omega)]
   have hw0:IntKind.i64.wrap (4*(k:Int))=(i0:Int):=by rw[IntWalk.i64_in _ (by omega)];omega
   have hw1:IntKind.i64.wrap ((i0:Int)+1)=(i1:Int):=by rw[IntWalk.i64_in _ (by omega)];omega
   have hw2:IntKind.i64.wrap ((i0:Int)+2)=(i2:Int):=by rw[IntWalk.i64_in _ (by omega)];omega
   have hw3:IntKind.i64.wrap ((i0:Int)+3)=(i3:Int):=by rw[IntWalk.i64_in _ (by omega)];omega
   rw[←ZwT x0 x1 x2 x3 hb0 hb1 hb2 hb3] at hpk
   have Hpk:=Zq hpk
   obtain⟨y0,ey0⟩:∃y,y=(x0:Int)*16777216%4294967296:=⟨_,rfl⟩
   have hy0:IntKind.u32.wrap ((x0:Int)*16777216)=y0:=by rw[IntKind.wrap_u32,ey0]
   rw[←ey0] at Hpk
   clear ey0
   obtain⟨y1,ey1⟩:∃y,y=(x1:Int)*65536%4294967296:=⟨_,rfl⟩
   have hy1:IntKind.u32.wrap ((x1:Int)*65536)=y1:=by rw[IntKind.wrap_u32,ey1]
   rw[←ey1] at Hpk
   clear ey1
   obtain⟨y2,ey2⟩:∃y,y=(x2:Int)*256%4294967296:=⟨_,rfl⟩
   have hy2:IntKind.u32.wrap ((x2:Int)*256)=y2:=by rw[IntKind.wrap_u32,ey2]
   rw[←ey2] at Hpk
   clear ey2
   generalize ev:o32 (o32 (o32 y0 y1) y2) (x3:Int)=x at Hpk
   clear e0 e1 e2 e3 hpk eL hlen hown hbel hb0 hb1 hb2 hb3
   go_wp2_with fail
   refine Zal wr [0,1,2,3,4,5,6,7,8,9,10,11,12,13,14,15,16,17,18,19,20,21,22,23,24,25,26,27,28,29,30,31,32,33] [true,false,false,false,false,false,false,false,false,false,false,false,false,false,false,false,false,false,false,false,false,false,false,false,false,false,false,false,false,false,false,false,false,false] [] [] 34 (by kernel_rfl) rfl (by kernel_rfl) (by intro c a d v w h;cases d<;>exact h) ((Below.refl _ _).drew) ?_
   simp only[pick,List.getElem?_cons_succ,List.getElem?_cons_zero,List.drop_succ_cons,List.drop_zero]
   refine Zay (Zaa rfl) (fun w=>by go_simp;rfl) ?_
   iterate 33 (refine Zac (Zaa rfl) (by intro K o d hK;go_simp;exact hK _ (Below.refl _ _)) ?_)
   refine Zan ?_
   intro w2 hb2 _
   have hsz2:B≤w2.heap.size:=by have:=hb2.size;omega
   have HO2:=Zq (Hown.out.below hb2)
   have HB2:=Zq (Hbel.out.trans (hb2.mono hsz))
   clear hb2
   go_wp2_with (at_builtin;refine wpList_append_own _ rfl _ _ 179 rfl B 129 ie (.int .u32 0) 1 4 Tryz.underlying179 hi hz0 hz1 hz2 rfl (by decide) _ _ _ rfl (ZaU HO2.out (Zab (Below.refl _ _) _)) ⟨w2.heap.size,0,none⟩ 1 1 [.int .u32 x] rfl rfl ZcM (fun u hu=>by simp at hu;subst hu;rfl) (ZaL (show L.length+1≤16777216 by rw[Hlen.out];omega)) (by have:=(show L.length+1≤16777216 by rw[Hlen.out];omega);omega) (by simp;omega) ?_)
   intro v' w4 hown4 hgrow4 _
   have Hb4:=Zq (Zbd (HB2.out.alloc hsz2 _) (ZaU HO2.out (Zab (Below.refl _ _) (.cells #[.int .u32 x] 129))) (by simp;omega) hgrow4)
   have Ho4:=Zq (OwnW.snoc hown4)
   have hsz4:B≤w4.heap.size:=by have:=hgrow4.size;simp at this;omega
   clear hown4 hgrow4
   go_wp2_with fail
   go_roundw
   case rel =>
    first
    | exact⟨k+1,by omega,by go_num,by rw[List.range_succ,List.map_append,←HL.out];show OwnW _ _ _ (L++[pk4 C k]);rw[Hpk.out];exact Ho4.out,Hb4.out,hsz4⟩
    | exact⟨_,_,_,_,_,_,_,_,_,_,_,_,_,_,_,_,_,_,_,_,_,_,_,_,_,_,_,_,_,_,_,_,_,_,_,_,_,_,⟨k+1,by omega,by go_num,by rw[List.range_succ,List.map_append,←HL.out];show OwnW _ _ _ (L++[pk4 C k]);rw[Hpk.out];exact Ho4.out,Hb4.out,hsz4⟩,rfl⟩
   case measure=>simp[intOf];omega
  ·obtain rfl:k=16:=by omega
   obtain⟨g,c,ev,hg,hgl,hc⟩:=OwnW.addr hown hlen (by decide)
   subst ev
   have Hown:=Zq (show OwnW wr B (.slice (some ⟨g,0,none⟩) 16 c) (ws C (16-16)) from hown)
   have Hbel:=Zq hbel
   clear hown hbel hlen
   go_wp2_with fail
   obtain⟨W2,eW2⟩:∃x,x=wr:=⟨_,rfl⟩
   rw[←eW2] at Hown Hbel hsz hgl ⊢
   clear eW2
   go_loopw [3,5] (fun v t wr=>∃ k g c:Nat,16≤k∧k≤64∧t=.int .i64 k∧v=.slice (some ⟨g,0,none⟩) k c∧OwnW wr B v (ws C (k-16))∧g<wr.heap.size∧Below B w wr∧B≤wr.heap.size) (fun _ t _=>64-(intOf t).toNat)
   case atStart=>exact⟨16,g,c,by decide,by decide,rfl,rfl,Hown.out,hgl,Hbel.out,hsz⟩
   case round =>
    obtain⟨k,g,c,hk0,hk,rfl,rfl,hown,hgl,hbel,hsz⟩:=hrel
    have hkk:(0:Int)≤(k:Int):=by omega
    by_cases hk64:k<64
    ·have hk1:(k:Int)<64:=by omega
     have hwd:=hown.words hgl
     have hlen:(ws C (k-16)).length=k:=by rw[ZbX];omega
     have Hn:=Zq (Zq8 C k hk0)
     have Hws:=Zq (show ws C (k+1-16)=ws C (k-16)++[nxt (ws C (k-16))] by rw[show k+1-16=(k-16)+1 by omega];rfl)
     have hc2:=hwd.2 (k-2) (by omega)
     generalize (ws C (k-16)).getD (k-2) 0=x2 at hc2 Hn
     have hc7:=hwd.2 (k-7) (by omega)
     generalize (ws C (k-16)).getD (k-7) 0=x7 at hc7 Hn
     have hc15:=hwd.2 (k-15) (by omega)
     generalize (ws C (k-16)).getD (k-15) 0=x15 at hc15 Hn
     have hc16:=hwd.2 (k-16) (by omega)
     generalize (ws C (k-16)).getD (k-16) 0=x16 at hc16 Hn
     obtain⟨k2,e2⟩:∃y,y=k-2:=⟨_,rfl⟩
     rw[←e2] at hc2
     have hw2:IntKind.i64.wrap ((k:Int)-2)=(k2:Int):=by rw[IntWalk.i64_in _ (by omega)];omega
     have ha2:(0:Int)≤(k2:Int):=by omega
     have hd2:(k2:Int)<(k:Int):=by omega
     obtain⟨k7,e7⟩:∃y,y=k-7:=⟨_,rfl⟩
     rw[←e7] at hc7
     have hw7:IntKind.i64.wrap ((k:Int)-7)=(k7:Int):=by rw[IntWalk.i64_in _ (by omega)];omega
     have ha7:(0:Int)≤(k7:Int):=by omega
     have hd7:(k7:Int)<(k:Int):=by omega
     obtain⟨k15,e15⟩:∃y,y=k-15:=⟨_,rfl⟩
     rw[←e15] at hc15
     have hw15:IntKind.i64.wrap ((k:Int)-15)=(k15:Int):=by rw[IntWalk.i64_in _ (by omega)];omega
     have ha15:(0:Int)≤(k15:Int):=by omega
     have hd15:(k15:Int)<(k:Int):=by omega
     obtain⟨k16,e16⟩:∃y,y=k-16:=⟨_,rfl⟩
     rw[←e16] at hc16
     have hw16:IntKind.i64.wrap ((k:Int)-16)=(k16:Int):=by rw[IntWalk.i64_in _ (by omega)];omega
     have ha16:(0:Int)≤(k16:Int):=by omega
     have hd16:(k16:Int)<(k:Int):=by omega
     obtain⟨y3,ey3⟩:∃y,y=shrw x15 3:=⟨_,rfl⟩
     have hs3:x15/8=y3:=by rw[ey3];unfold shrw;rfl
     obtain⟨y10,ey10⟩:∃y,y=shrw x2 10:=⟨_,rfl⟩
     have hs10:x2/1024=y10:=by rw[ey10];unfold shrw;rfl
     obtain⟨L,eL⟩:∃L,L=ws C (k-16):=⟨_,rfl⟩
     rw[←eL] at hown hlen Hn Hws
     have Hs0:=Zq (show s0 x15=x32 (x32 (rotr x15 7) (rotr x15 18)) y3 by rw[ey3];rfl)
     have Hs1:=Zq (show s1 x2=x32 (x32 (rotr x2 17) (rotr x2 19)) y10 by rw[ey10];rfl)
     have Hlen:=Zq hlen
     have Hown:=Zq hown
     have Hbel:=Zq hbel
     clear e2 e7 e15 e16 ey3 ey10 eL hlen hown hbel hwd
     go_wp2_with fail
     refine ZaC (fun w'=>∃ o d,w'=wr.plus o d) (by kernel_rfl) (by kernel_rfl) ⟨#[],_,rfl⟩ ?_
     iterate 12 (refine Zat ⟨_,#[],0,rfl⟩ (Zaa rfl) (by rintro K _ ⟨o,d,rfl⟩ hK;go_simp;exact hK _ ⟨o,d,rfl⟩) ?_)
     refine Zaw ?_
     rintro _ ⟨o5,n5,rfl⟩
     have hbw:=Zag (Below.refl wr.heap.size wr) o5 n5
     replace hc2:(wr.plus o5 n5).cell? ⟨g,k2,none⟩=some (.int .u32 x2):=by rw[hbw.cell hgl];exact hc2
     replace hc7:(wr.plus o5 n5).cell? ⟨g,k7,none⟩=some (.int .u32 x7):=by rw[hbw.cell hgl];exact hc7
     replace hc15:(wr.plus o5 n5).cell? ⟨g,k15,none⟩=some (.int .u32 x15):=by rw[hbw.cell hgl];exact hc15
     replace hc16:(wr.plus o5 n5).cell? ⟨g,k16,none⟩=some (.int .u32 x16):=by rw[hbw.cell hgl];exact hc16
     have HO5:=Zq (Hown.out.below hbw)
     have HB5:=Zq (Hbel.out.trans (hbw.mono hsz))
     have hgl5:g<(wr.plus o5 n5).heap.size:=by have:=hbw.size;omega
     have hsz5:B≤(wr.plus o5 n5).heap.size:=by have:=hbw.size;omega
     clear hbw Hown Hbel
     generalize wr.plus o5 n5=W5 at *
     go_wp2_with fail
     refine(Zvm _ _).mono ?_
     rintro e w' ⟨rfl,hwE⟩
     rw[hwE]
     clear hwE w'
     go_wp2_with fail
     refine(Zsz _ _).mono ?_
     rintro e w' ⟨rfl,hwE⟩
     rw[hwE]
     clear hwE w'
     go_wp2_with fail
     generalize ez0:x32 (x32 (rotr x15 7) (rotr x15 18)) y3=z0
     have Hz0:=Zq ez0
     clear ez0
     refine(Zrx _ _).mono ?_
     rintro e w' ⟨rfl,hwE⟩
     rw[hwE]
     clear hwE w'
     go_wp2_with fail
     refine(Ztg _ _).mono ?_
     rintro e w' ⟨rfl,hwE⟩
     rw[hwE]
     clear hwE w'
     go_wp2_with fail
     generalize ez1:x32 (x32 (rotr x2 17) (rotr x2 19)) y10=z1
     have Hz1:=Zq ez1
     clear ez1
     refine Zal W5 [0,1,2,3,4,5,6,7,8,9,10,11,12,13,14,15] [true,false,false,false,false,false,false,false,false,false,false,false,false,false,false,false] [] [] 16 (by kernel_rfl) rfl (by kernel_rfl) (by intro c a d v w h;cases d<;>exact h) ((Below.refl _ _).drew) ?_
     simp only[pick,List.getElem?_cons_succ,List.getElem?_cons_zero,List.drop_succ_cons,List.drop_zero]
     refine Zay (Zaa rfl) (fun w=>by go_simp;rfl) ?_
     iterate 15 (refine Zac (Zaa rfl) (by intro K o d hK;go_simp;exact hK _ (Below.refl _ _)) ?_)
     refine Zan ?_
     intro w2 hb2 _
     have hsz2:B≤w2.heap.size:=by have:=hb2.size;omega
     have HO2:=Zq (HO5.out.below hb2)
     have HB2:=Zq (HB5.out.trans (hb2.mono hsz5))
     clear hb2
     generalize ex:ZaP (ZaP (ZaP z1 x7) z0) x16=x
     have Hx:=Zq ex
     clear ex
     go_wp2_with (at_builtin;refine wpList_append_own _ rfl _ _ 179 rfl B 129 ie (.int .u32 0) 1 4 Tryz.underlying179 hi hz0 hz1 hz2 rfl (by decide) _ _ _ rfl (ZaU HO2.out (Zab (Below.refl _ _) _)) ⟨w2.heap.size,0,none⟩ 1 1 [.int .u32 x] rfl rfl ZcM (fun u hu=>by simp at hu;subst hu;rfl) (ZaL (show L.length+1≤16777216 by rw[Hlen.out];omega)) (by have:=(show L.length+1≤16777216 by rw[Hlen.out];omega);omega) (by simp;omega) ?_)
     intro v' w4 hown4 hgrow4 _
     have Hb4:=Zq (Zbd (HB2.out.alloc hsz2 _) (ZaU HO2.out (Zab (Below.refl _ _) (.cells #[.int .u32 x] 129))) (by simp;omega) hgrow4)
     have Ho4:=Zq (OwnW.snoc hown4)
     have hsz4:B≤w4.heap.size:=by have:=hgrow4.size;simp at this;omega
     clear hown4 hgrow4
     obtain⟨g4,c4,ev4,_,hgl4,_⟩:=Ho4.out.addr (k:=k+1) (by rw[List.length_append,Hlen.out];rfl) (by omega)
     subst ev4
     have Hrel:=Zq (show OwnW w4 B (.slice (some ⟨g4,0,none⟩) (k+1) c4) (ws C (k+1-16)) by rw[Hws.out,Hn.out,Hs0.out,Hs1.out,Hz0.out,Hz1.out,Hx.out];exact Ho4.out)
     go_wp2_with fail
     go_roundw
     case rel =>
      first
      | exact⟨k+1,g4,c4,by omega,by omega,by go_num,rfl,Hrel.out,hgl4,Hb4.out,hsz4⟩
      | exact⟨_,_,_,_,_,_,_,_,_,_,_,_,_,_,_,_,_,_,_,_,_,_,_,_,_,_,_,_,_,_,_,_,_,_,_,_,_,_,_,_,_,_,_,_,_,_,_,_,_,_,_,_,_,_,⟨k+1,g4,c4,by omega,by omega,by go_num,rfl,Hrel.out,hgl4,Hb4.out,hsz4⟩,rfl⟩
     case measure=>simp[intOf];omega
    ·obtain rfl:k=64:=by omega
     have Hw:=Zq (hown.words hgl)
     have Hbel:=Zq hbel
     clear hown hbel
     go_wp2_with fail
     go_ret
     exact⟨_,_,rfl,Hw.out,by rw[←EB.out];exact Hbel.out⟩
def stL (s:St):List Int:=[s.a,s.b,s.c,s.d,s.e,s.f,s.g,s.h]
theorem Zwy (s:St):wosA (stL s)=stA s:=rfl
theorem SlW.new (w:World) (s:St):SlW (w.alloc (.cells (stA s) 129)) w.heap.size (stL s):=by
 have h:=RowAt.of (Zaq w (.cells (stA s) 129))
 exact⟨Zf6 (by rw[Zwy];exact h),fun i _=>h.frozenAt i⟩
def mixW (s r:St) (k:Nat):List Int:=(List.range 8).map fun j=>if j<k then ZaP ((stL r).getD j 0) ((stL s).getD j 0) else (stL r).getD j 0
theorem Zb3 (s r:St) (k:Nat):(mixW s r k).length=8:=by simp[mixW]
theorem Zn5 (s r:St) (k j:Nat) (h:j<8):(mixW s r k).getD j 0=if j<k then ZaP ((stL r).getD j 0) ((stL s).getD j 0) else (stL r).getD j 0:=by simp[mixW,List.getD,h]
theorem ZoF (s r:St) (k:Nat) (h:k<8):(mixW s r k).set k (ZaP ((stL r).getD k 0) ((stL s).getD k 0))=mixW s r (k+1):=by
 apply List.ext_getElem?
 intro j
 rw[List.getElem?_set]
 by_cases hj:j<8
 ·have e1:(mixW s r k)[j]?=some (if j<k then ZaP ((stL r).getD j 0) ((stL s).getD j 0) else (stL r).getD j 0):=by simp[mixW,hj]
  have e2:(mixW s r (k+1))[j]?=some (if j<k+1 then ZaP ((stL r).getD j 0) ((stL s).getD j 0) else (stL r).getD j 0):=by simp[mixW,hj]
  rw[e1,e2]
  by_cases e:k=j
  ·subst e;rw[if_pos rfl,if_pos (by rw[Zb3];exact h),if_pos (by omega)]
  ·rw[if_neg e]
   by_cases h1:j<k
   ·rw[if_pos h1,if_pos (by omega)]
   ·rw[if_neg h1,if_neg (by omega)]
 ·rw[if_neg (by omega),List.getElem?_eq_none (by rw[Zb3];omega),List.getElem?_eq_none (by rw[Zb3];omega)]
theorem ZpJ (s r:St):mixW s r 8=stL (Zvp s r):=by
 show [ZaP r.a s.a,ZaP r.b s.b,ZaP r.c s.c,ZaP r.d s.d,ZaP r.e s.e,ZaP r.f s.f,ZaP r.g s.g,ZaP r.h s.h]=_
 rw[ZbN r.a,ZbN r.b,ZbN r.c,ZbN r.d,ZbN r.e,ZbN r.f,ZbN r.g,ZbN r.h]
 rfl
theorem Zs6 (gh ch b o cap:Nat) (s:St) (C:List Nat) (w:World) (hH:WordsAt w gh (stL s)) (hC:C.length=64) (hCb:∀i,C.getD i 0<256) (hB:BytesAt w b o C) :
  Calls Tryz.prog 120 #[.slice (some ⟨gh,0,none⟩) 8 ch,.slice (some ⟨b,o,none⟩) 64 cap] w fun e w'=>∃ g c,e=.returned (.slice (some ⟨g,0,none⟩) 8 c)∧WordsAt w' g (stL (scmp s C))∧Below w.heap.size w w':=by
 obtain⟨ie,hi,hz0,hz1,hz2⟩:=info_parts Zdf
 obtain⟨B,eB⟩:∃B,B=w.heap.size:=⟨_,rfl⟩
 have HH:=Zq hH
 have HC:=Zq (ZlG b o cap C w hC hCb hB)
 have EB:=Zq eB
 have hBw:B≤w.heap.size:=by omega
 have hghB:gh<B:=by rw[eB];exact hH.1
 rw[←eB] at HC
 clear hH hB hCb eB
 go_enter Tryz.func120,Tryz.ntmps120
 go_wp2_with fail
 refine HC.out.mono ?_
 rintro e W1 ⟨g5,c5,rfl,hw5,hb1⟩
 have H5:=Zq hw5
 have B1:=Zq hb1
 have hs1:=hb1.size
 clear hw5 hb1 HC
 go_wp2_with fail
 refine(Zjf _).mono ?_
 rintro e W2 ⟨g6,rfl,hw6,hb2⟩
 have H5':=Zq (H5.out.grow hb2)
 have H6:=Zq hw6
 have B2:=Zq (B1.out.trans (hb2.mono (by omega)))
 have hs2:=hb2.size
 clear hw6 hb2 H5 B1
 have hsz2:B≤W2.heap.size:=by omega
 have HHW:=Zq (show WordsAt (W2.alloc (.cells #[] 129)) gh (stL s) from ⟨by simp;omega,fun i hi=>by rw[((B2.out.alloc hsz2 (.cells #[] 129))).cell hghB];exact HH.out.2 i hi⟩)
 go_wp2_with (at_builtin;refine wpList_append_own _ rfl _ _ 179 rfl B 129 ie (.int .u32 0) 1 4 Tryz.underlying179 hi hz0 hz1 hz2 rfl (by decide) _ _ _ rfl (ZdD W2 B hsz2) ⟨gh,0,none⟩ 8 ch (wos (stL s)) rfl rfl (Zqf HHW.out) (ZnE _) (ZaL (by decide)) (by decide) (by simp;omega) ?_)
 intro v3 w3 hown3 hgrow3 _
 have B3:=Zq (Zbd (B2.out.alloc hsz2 _) (ZdD W2 B hsz2) (by simp;omega) hgrow3)
 have hO3:OwnW w3 B v3 (stL s):=hown3
 obtain⟨g7,c7,ev7,hg7,hgl7,_⟩:=hO3.addr (k:=8) rfl (by decide)
 subst ev7
 have S7:=Zq (hO3.slw hgl7)
 have hkeep:∀g l,WordsAt W2 g l→WordsAt w3 g l:=fun g l h=>by
  have hne:g≠W2.heap.size:=by have:=h.1;omega
  have hlt:=h.1
  have h1:(W2.alloc (.cells #[] 129)).heap[g]?=W2.heap[g]?:=ZfT _ _ hlt
  have h2:w3.heap[g]?=W2.heap[g]?:=by rw[hgrow3.block g (by simp;omega) (by simp[Value.ownBlock];omega),h1]
  refine⟨by have:=hgrow3.size;simp at this;omega,fun i hi=>?_⟩
  rw[World.cell?_of_block (w:=W2) h2];exact h.2 i hi
 have H5w:=Zq (hkeep _ _ H5'.out)
 have H6w:=Zq (hkeep _ _ H6.out)
 have hsz3:B≤w3.heap.size:=by have:=hgrow3.size;simp at this;omega
 clear hown3 hO3 hgrow3 hkeep HHW H5' H6 B2 hs1 hs2 hsz2
 go_wp2_with fail
 go_loopw [7,8] (fun v t wr=>∃ (k g c:Nat) (r:St),k≤64∧t=.int .i64 k∧r=Zlh (sch C) s k∧v=.slice (some ⟨g,0,none⟩) 8 c∧SlW wr g (stL r)∧B≤g∧Below w3.heap.size w3 wr) (fun _ t _=>64-(intOf t).toNat)
 case atStart=>exact⟨0,g7,c7,s,by decide,rfl,rfl,rfl,S7.out,hg7,Below.refl _ _⟩
 case round =>
  obtain⟨k,g,c,r,hk,rfl,hr,rfl,hsl,hgB,hbel⟩:=hrel
  have hkk:(0:Int)≤(k:Int):=by omega
  by_cases hk64:k<64
  ·have hk1:(k:Int)<64:=by omega
   have hgl:=hsl.1.1
   have hc0:wr.cell? ⟨g,0,none⟩=some (.int .u32 r.a):=hsl.1.2 0 (show 0<8 by decide)
   have hc1:wr.cell? ⟨g,1,none⟩=some (.int .u32 r.b):=hsl.1.2 1 (show 1<8 by decide)
   have hc2:wr.cell? ⟨g,2,none⟩=some (.int .u32 r.c):=hsl.1.2 2 (show 2<8 by decide)
   have hc3:wr.cell? ⟨g,3,none⟩=some (.int .u32 r.d):=hsl.1.2 3 (show 3<8 by decide)
   have hc4:wr.cell? ⟨g,4,none⟩=some (.int .u32 r.e):=hsl.1.2 4 (show 4<8 by decide)
   have hc5:wr.cell? ⟨g,5,none⟩=some (.int .u32 r.f):=hsl.1.2 5 (show 5<8 by decide)
   have hc6:wr.cell? ⟨g,6,none⟩=some (.int .u32 r.g):=hsl.1.2 6 (show 6<8 by decide)
   have hc7:wr.cell? ⟨g,7,none⟩=some (.int .u32 r.h):=hsl.1.2 7 (show 7<8 by decide)
   have h5:=H5w.out.grow hbel
   have h6:=H6w.out.grow hbel
   have hl5:=h5.1
   have hl6:=h6.1
   have hcw:=h5.2 k (by rw[ZdL];exact hk64)
   have hck:=h6.2 k (by rw[ZhO];exact hk64)
   generalize eK:Ks.getD k 0=kk at hck
   generalize eW:(sch C).getD k 0=ww at hcw
   have Hr:=Zq (show srnd r kk ww=Zlh (sch C) s (k+1) by rw[hr,←eK,←eW];rfl)
   have Hbel:=Zq hbel
   have hsz:B≤wr.heap.size:=by have:=hbel.size;omega
   clear eK eW hr h5 h6 hsl hbel
   go_wp2_with fail
   refine ZaC (fun w'=>∃ o d,w'=wr.plus o d) (by kernel_rfl) (by kernel_rfl) ⟨#[],_,rfl⟩ ?_
   iterate 8 (refine Zat ⟨_,#[],0,rfl⟩ (Zaa rfl) (by rintro K _ ⟨o,d,rfl⟩ hK;go_simp;exact hK _ ⟨o,d,rfl⟩) ?_)
   refine Zaw ?_
   rintro _ ⟨o1,n1,rfl⟩
   go_wp2_with fail
   refine ZaC (fun w'=>∃ o d,w'=wr.plus o d) (by kernel_rfl) (by kernel_rfl) ⟨_,_,rfl⟩ ?_
   iterate 4 (refine Zat ⟨_,#[],0,rfl⟩ (Zaa rfl) (by rintro K _ ⟨o,d,rfl⟩ hK;go_simp;exact hK _ ⟨o,d,rfl⟩) ?_)
   refine Zap (v:=.int .u32 (rotr r.e 6)) (Zaa rfl) (by rintro K _ ⟨o,d,rfl⟩ hK;go_simp;refine(Zvg _ _).mono ?_;rintro e w' ⟨rfl,rfl⟩;exact⟨_,rfl,hK _ ⟨o,d,rfl⟩⟩) ?_
   refine Zat ⟨_,#[],0,rfl⟩ (Zaa rfl) (by rintro K _ ⟨o,d,rfl⟩ hK;go_simp;exact hK _ ⟨o,d,rfl⟩) ?_
   refine Zap (v:=.int .u32 (rotr r.e 11)) (Zaa rfl) (by rintro K _ ⟨o,d,rfl⟩ hK;go_simp;refine(Zta _ _).mono ?_;rintro e w' ⟨rfl,rfl⟩;exact⟨_,rfl,hK _ ⟨o,d,rfl⟩⟩) ?_
   iterate 2 (refine Zat ⟨_,#[],0,rfl⟩ (Zaa rfl) (by rintro K _ ⟨o,d,rfl⟩ hK;go_simp;exact hK _ ⟨o,d,rfl⟩) ?_)
   refine Zap (v:=.int .u32 (rotr r.e 25)) (Zaa rfl) (by rintro K _ ⟨o,d,rfl⟩ hK;go_simp;refine(Zsk _ _).mono ?_;rintro e w' ⟨rfl,rfl⟩;exact⟨_,rfl,hK _ ⟨o,d,rfl⟩⟩) ?_
   iterate 26 (refine Zat ⟨_,#[],0,rfl⟩ (Zaa rfl) (by rintro K _ ⟨o,d,rfl⟩ hK;go_simp;exact hK _ ⟨o,d,rfl⟩) ?_)
   refine Zaw ?_
   rintro _ ⟨o2,n2,rfl⟩
   generalize e1:ZaP (ZaP (ZaP (ZaP r.h (x32 (x32 (rotr r.e 6) (rotr r.e 11)) (rotr r.e 25))) (x32 (a32 r.e r.f) (a32 (n32 r.e) r.g))) kk) ww=t1
   have He1:=Zq (show T1 r kk ww=t1 from e1)
   clear e1
   go_wp2_with fail
   refine ZaC (fun w'=>∃ o d,w'=wr.plus o d) (by kernel_rfl) (by kernel_rfl) ⟨_,_,rfl⟩ ?_
   refine Zat ⟨_,#[],0,rfl⟩ (Zaa rfl) (by rintro K _ ⟨o,d,rfl⟩ hK;go_simp;exact hK _ ⟨o,d,rfl⟩) ?_
   refine Zap (v:=.int .u32 (rotr r.a 2)) (Zaa rfl) (by rintro K _ ⟨o,d,rfl⟩ hK;go_simp;refine(Zup _ _).mono ?_;rintro e w' ⟨rfl,rfl⟩;exact⟨_,rfl,hK _ ⟨o,d,rfl⟩⟩) ?_
   refine Zat ⟨_,#[],0,rfl⟩ (Zaa rfl) (by rintro K _ ⟨o,d,rfl⟩ hK;go_simp;exact hK _ ⟨o,d,rfl⟩) ?_
   refine Zap (v:=.int .u32 (rotr r.a 13)) (Zaa rfl) (by rintro K _ ⟨o,d,rfl⟩ hK;go_simp;refine(ZrJ _ _).mono ?_;rintro e w' ⟨rfl,rfl⟩;exact⟨_,rfl,hK _ ⟨o,d,rfl⟩⟩) ?_
   iterate 2 (refine Zat ⟨_,#[],0,rfl⟩ (Zaa rfl) (by rintro K _ ⟨o,d,rfl⟩ hK;go_simp;exact hK _ ⟨o,d,rfl⟩) ?_)
   refine Zap (v:=.int .u32 (rotr r.a 22)) (Zaa rfl) (by rintro K _ ⟨o,d,rfl⟩ hK;go_simp;refine(ZrF _ _).mono ?_;rintro e w' ⟨rfl,rfl⟩;exact⟨_,rfl,hK _ ⟨o,d,rfl⟩⟩) ?_
   iterate 22 (refine Zat ⟨_,#[],0,rfl⟩ (Zaa rfl) (by rintro K _ ⟨o,d,rfl⟩ hK;go_simp;exact hK _ ⟨o,d,rfl⟩) ?_)
   refine Zaw ?_
   rintro _ ⟨o3,n3,rfl⟩
   generalize e2:ZaP (x32 (x32 (rotr r.a 2) (rotr r.a 13)) (rotr r.a 22)) (x32 (x32 (a32 r.a r.b) (a32 r.a r.c)) (a32 r.b r.c))=t2
   have He2:=Zq (show T2 r=t2 from e2)
   clear e2
   go_wp2_with fail
   refine Zal wr [0,1,2,3,4,5,6,7,8,9,10,11,12,13,14,15,16,17,18,19,20,21,22,23,24,25] [false,false,false,false,false,false,false,false,false,false,false,false,false,false,false,false,false,false,false,false,false,false,false,false,false,false] [] [] 26 (by kernel_rfl) rfl (by kernel_rfl) (by intro c a d v w h;cases d<;>exact h) ((Zag (Below.refl _ _) _ _).drew) ?_
   simp only[pick,List.getElem?_cons_succ,List.getElem?_cons_zero,List.drop_succ_cons,List.drop_zero]
   iterate 26 (refine Zac (Zaa rfl) (by intro K o d hK;go_simp;exact hK _ (Below.refl _ _)) ?_)
   refine Zan ?_
   intro w2 hb2 _
   have eR:srnd r kk ww=⟨ZaP t1 t2,r.a,r.b,r.c,ZaP r.d t1,r.e,r.f,r.g⟩:=by unfold srnd;rw[He1.out,He2.out]
   have HS2:=Zq (show SlW (w2.alloc (.cells (stA ⟨ZaP t1 t2,r.a,r.b,r.c,ZaP r.d t1,r.e,r.f,r.g⟩) 129)) w2.heap.size (stL (srnd r kk ww)) by rw[eR];exact SlW.new w2 _)
   clear eR
   have HB2:=Zq ((Hbel.out.trans (hb2.mono Hbel.out.size)).alloc (by have:=Hbel.out.size;have:=hb2.size;omega) (.cells (stA ⟨ZaP t1 t2,r.a,r.b,r.c,ZaP r.d t1,r.e,r.f,r.g⟩) 129))
   have hBw2:B≤w2.heap.size:=by have:=hb2.size;omega
   clear hb2
   go_wp2_with fail
   go_roundw
   case rel =>
    first
    | exact⟨k+1,_,_,srnd r kk ww,by omega,by go_num,Hr.out,rfl,HS2.out,hBw2,HB2.out⟩
    | exact⟨_,_,_,_,_,_,_,_,_,_,_,_,_,_,_,_,_,_,_,_,_,_,_,_,_,_,_,_,_,_,_,_,_,_,_,_,_,_,_,_,_,_,_,_,_,_,_,_,_,_,_,_,_,_,_,_,_,_,_,_,_,_,_,_,_,_,_,_,_,_,_,_,_,_,_,_,_,_,_,_,_,_,_,_,_,_,_,_,_,_,_,_,_,_,_,_,_,_,_,_,_,_,_,_,_,_,⟨k+1,_,_,srnd r kk ww,by omega,by go_num,Hr.out,rfl,HS2.out,hBw2,HB2.out⟩,rfl⟩
   case measure=>simp[intOf];omega
  ·obtain rfl:k=64:=by omega
   have Hr:=Zq hr
   have S8:=Zq hsl
   have hgl:=hsl.1.1
   have B4:=Zq (B3.out.trans (hbel.mono hsz3))
   have hsz:B≤wr.heap.size:=by have:=hbel.size;omega
   clear hr hsl hbel
   go_wp2_with fail
   obtain⟨W4,eW4⟩:∃x,x=wr:=⟨_,rfl⟩
   rw[←eW4] at S8 B4 hgl hsz ⊢
   clear eW4
   go_loopw [13] (fun i wr=>∃ k:Nat,k≤8∧i=.int .i64 k∧SlW wr g (mixW s r k)∧Below B w wr∧B≤wr.heap.size) (fun i _=>8-(intOf i).toNat)
   case atStart=>exact⟨0,by decide,rfl,S8.out,B4.out,hsz⟩
   case round =>
    obtain⟨k,hk,rfl,hsl,hbel,hsz⟩:=hrel
    have hkk:(0:Int)≤(k:Int):=by omega
    by_cases hk8:k<8
    ·have hk1:(k:Int)<8:=by omega
     have hgl:=hsl.1.1
     have hca:=hsl.1.2 k (by rw[Zb3];exact hk8)
     rw[Zn5 _ _ _ _ hk8,if_neg (by omega)] at hca
     have hcb:wr.cell? ⟨gh,k,none⟩=some (.int .u32 ((stL s).getD k 0)):=by rw[hbel.cell hghB];exact HH.out.2 k hk8
     have hghl:gh<wr.heap.size:=by omega
     have Hset:=Zq (ZoF s r k hk8)
     generalize (stL r).getD k 0=xr at hca Hset
     generalize (stL s).getD k 0=xs at hcb Hset
     have HS:=Zq hsl
     have Hbel:=Zq hbel
     clear hsl hbel
     go_wp2_with fail
     refine Zal wr [0,1,2,3,4,5,6,7,8,9,10,11] [false,false,false,false,false,false,false,false,false,false,false,false] [] [] 12 (by kernel_rfl) rfl (by kernel_rfl) (by intro c a d v w h;cases d<;>exact h) ((Below.refl _ _).drew) ?_
     simp only[pick,List.getElem?_cons_succ,List.getElem?_cons_zero,List.drop_succ_cons,List.drop_zero]
     iterate 12 (refine Zac (Zaa rfl) (by intro K o d hK;go_simp;exact hK _ (Below.refl _ _)) ?_)
     refine Zan ?_
     intro w2 hb2 _
     have HS2:=Zq (HS.out.grow hb2)
     have hcc:w2.cell? ⟨g,k,none⟩=some (.int .u32 xr):=by rw[hb2.cell hgl];exact hca
     have hff:=HS2.out.2 k (by rw[Zb3];exact hk8)
     have HB2:=Zq (Hbel.out.trans (hb2.mono hsz))
     have hsz2:B≤w2.heap.size:=by have:=hb2.size;omega
     clear hb2 hca hcb
     go_wp2_with fail
     go_roundw
     case rel =>
      have h1:=HS2.out.set (i:=k) (x:=ZaP xr xs) (by rw[Zb3];exact hk8)
      rw[Hset.out] at h1
      exact⟨_,_,_,_,_,_,_,_,_,_,_,_,_,_,_,_,_,⟨k+1,by omega,by go_num,h1,HB2.out.setCell (p:=⟨_,_,none⟩) hgB _,by rw[World.size_setCell];exact hsz2⟩,rfl⟩
     case measure=>simp[intOf];omega
    ·obtain rfl:k=8:=by omega
     rw[ZpJ] at hsl
     have HS:=Zq hsl
     have Hbel:=Zq hbel
     clear hsl hbel
     go_wp2_with fail
     go_ret
     exact⟨_,_,rfl,by have h:=HS.out.1;rw[Hr.out] at h;exact h,by rw[←EB.out];exact Hbel.out⟩
theorem Zve (b o len cap lo hi:Nat) (h:lo≤hi) (h':hi≤cap) (w:World):(slB (.slice (some ⟨b,o,none⟩) len cap) (some (.int .i64 (lo:Int))) (some (.int .i64 (hi:Int))) none).run Tryz.prog w=.ok (.slice (some ⟨b,adv o lo cap,none⟩) (hi-lo) (cap-lo)) w:=by
 unfold slB
 rw[run_sliceAt_slice _ _ _ _ _ _ ZeV,run_slice_lh _ _ _ _ _ ZeV _ _ _ _ (by omega) (by omega) (by omega),Zlk]
 unfold adv
 by_cases e:cap=lo
 ·simp[sliced,Result.andThen,e]
 ·simp[sliced,Result.andThen,e,Addr.add_mid]
theorem ZrL {l:List Nat} (h:∀i,l.getD i 0<256):∀i,(pad l).getD i 0<256:=by
 unfold pad
 refine ZaN (ZaN h (Zbp fun x hx=>?_)) (Zek _)
 rcases List.mem_cons.1 hx with rfl | hx
 ·decide
 ·exact Zdo (Zbs _) x hx
theorem BytesAt.mid {w:World} {b o:Nat} {l:List Nat} (h:BytesAt w b o l) (n k:Nat):BytesAt w b (o+n) ((l.drop n).take k):=by
 refine⟨h.1,fun i hi=>?_⟩
 rw[List.length_take,List.length_drop] at hi
 rw[Nat.add_assoc,h.2 (n+i) (by omega)]
 simp[List.getD,List.getElem?_drop,show i<k by omega]
theorem WordsAt.word {w:World} {g:Nat} {s:St} (h:WordsAt w g (stL s)) (j:Nat) (hj:j<8):w.cell? ⟨g,j,none⟩=some (.int .u32 (Zhh s j)):=by
 rw[h.2 j hj]
 have:j=0∨j=1∨j=2∨j=3∨j=4∨j=5∨j=6∨j=7:=by omega
 rcases this with rfl | rfl | rfl | rfl | rfl | rfl | rfl | rfl<;>rfl
theorem Zip (cap:Nat) (p:Option Addr) (l:List Nat) (w:World) (hl:l.length≤100000) (hlb:∀i,l.getD i 0<256) (hB:Bs0 w p l) (hpc:p=none→cap=0) :
  Calls Tryz.prog 94 #[.slice p l.length cap] w fun e w'=>e=.returned (.agg (keA (dig l)))∧Below w.heap.size w w':=by
 have HB:=Zq hB
 have Hpl:=Zq (Zle l)
 have Hpb:=Zq (ZrL hlb)
 have hpl:(pad l).length≤200000:=by rw[Hpl.out];omega
 obtain⟨N,eN⟩:∃N,N=(pad l).length:=⟨_,rfl⟩
 obtain⟨M,eM⟩:∃M,M=(l.length+72)/64:=⟨_,rfl⟩
 have hNM:N=64*M:=by rw[eN,eM];exact Hpl.out
 rw[←eN] at hpl
 have EN:=Zq eN
 have HP:=Zq (fun ob=>ZpV cap p l (w.alloc ob) hl (hB.grow (Zab (Below.refl _ _) _)) hpc)
 have hrun:dig l=Zbt st0 (pad l) M:=by unfold dig hrun;rw[←eN,hNM,show 64*M/64=M by omega]
 obtain⟨D,eD⟩:∃D,D=dig l:=⟨_,rfl⟩
 rw[←eD] at hrun ⊢
 have Hrun:=Zq hrun
 have HNM:=Zq hNM
 clear hB hrun eM eN hNM eD
 obtain⟨n,en⟩:∃n,n=l.length:=⟨_,rfl⟩
 rw[←en] at HP ⊢
 clear en hl
 go_enter Tryz.func94,Tryz.ntmps94
 go_wp2_with fail
 refine(HP.out _).mono ?_
 rintro e W1 ⟨g,c,rfl,hby,hcap,hb1⟩
 have hR1:=Zq (show RowAt W1 w.heap.size (byI (keyZ st0 0)) from RowAt.grow (RowAt.of (Zaq w _)) hb1)
 have B1:=Zq ((Zab (Below.refl w.heap.size w) _).trans (hb1.mono (by simp)))
 have HY1:=Zq hby
 rw[←EN.out] at hcap ⊢
 clear hby hb1 HP
 go_wp2_with fail
 refine(Zsc _).mono ?_
 rintro e W2 ⟨g4,rfl,hrow4,_,hb2⟩
 have hR2:=Zq (hR1.out.grow hb2)
 have B2:=Zq (B1.out.trans (hb2.mono B1.out.size))
 have HY2:=Zq (HY1.out.grow hb2)
 have HW2:=Zq (show WordsAt W2 g4 (stL st0) from Zf6 hrow4)
 clear hrow4 hb2 hR1 B1 HY1
 go_wp2_with fail
 go_loopw [4,5] (fun v t wr=>∃ j g4 c4 i:Nat,j≤M∧i=64*j∧t=.int .i64 i∧v=.slice (some ⟨g4,0,none⟩) 8 c4∧WordsAt wr g4 (stL (Zbt st0 (pad l) j))∧Below W2.heap.size W2 wr) (fun _ t _=>N-(intOf t).toNat)
 case atStart=>exact⟨0,g4,8,0,Nat.zero_le _,rfl,rfl,rfl,HW2.out,Below.refl _ _⟩
 case round =>
  obtain⟨j,g4,c4,i,hj,hij,rfl,rfl,hwd,hbel⟩:=hrel
  have hi0:(0:Int)≤(i:Int):=by omega
  have hNM:=HNM.out
  by_cases hjM:j<M
  ·have hlt:(i:Int)<(N:Int):=by omega
   obtain⟨i2,ei2⟩:∃y,y=i+64:=⟨_,rfl⟩
   have hw1:IntKind.i64.wrap ((i:Int)+64)=(i2:Int):=by rw[IntWalk.i64_in _ (by omega)];omega
   have hsl:=Zve g 0 N c i i2 (by omega) (by omega)
   rw[show i2-i=64 by omega] at hsl
   have hY:=HY2.out.grow hbel
   have hadv:adv 0 i c=i:=by unfold adv;rw[if_neg (by omega),Nat.zero_add]
   rw[hadv] at hsl
   obtain⟨c6,ec6⟩:∃y,y=c-i:=⟨_,rfl⟩
   rw[←ec6] at hsl
   have HBl:=Zq (Zs6 g4 c4 g i c6 (Zbt st0 (pad l) j) (((pad l).drop (64*j)).take 64) wr hwd (by rw[List.length_take,List.length_drop,←EN.out];omega) (Zbc (ZbB Hpb.out _) _) (by have h:=hY.mid (64*j) 64;rw[←hij,Nat.zero_add] at h;rw[←hij];exact h))
   have Hbel:=Zq hbel
   have Hij:=Zq hij
   have Hi2:=Zq ei2
   clear hwd hbel hY hadv ec6 hij ei2 hNM
   go_wp2_with fail
   refine HBl.out.mono ?_
   rintro e W5 ⟨g5,c5,rfl,hwd5,hb5⟩
   have HW5:=Zq (show WordsAt W5 g5 (stL (Zbt st0 (pad l) (j+1))) from hwd5)
   have HB5:=Zq (Hbel.out.trans (hb5.mono Hbel.out.size))
   clear hwd5 hb5 HBl
   go_wp2_with fail
   go_roundw
   case rel=>exact⟨j+1,g5,c5,i2,by omega,by have:=Hij.out;have:=Hi2.out;omega,rfl,rfl,HW5.out,HB5.out⟩
   case measure=>have:=Hi2.out;have:=HNM.out;have:=Hij.out;simp[intOf];omega
  ·obtain rfl:j=M:=by omega
   have hlt:¬(i:Int)<(N:Int):=by omega
   have HW:=Zq hwd
   have hR3:=Zq (hR2.out.grow hbel)
   have B3:=Zq (B2.out.trans (hbel.mono B2.out.size))
   rw[←Hrun.out] at HW
   have hsb:=B3.out.size
   clear hwd hbel hNM hij
   go_wp2_with fail
   generalize hW:World.alloc _ _=W6
   have K6:=Zq (show RowAt W6 wr.heap.size (byI (keyZ D 0)) by rw[←hW];clear hW;exact⟨by go_simp,by go_simp;rfl,by go_simp⟩)
   have R6:=Zq (show RowAt W6 w.heap.size (byI (keyZ st0 0)) by rw[←hW];exact hR3.out.grow (Zab (Below.refl _ _) _))
   have HW6:=Zq (show WordsAt W6 g4 (stL D) by rw[←hW];exact HW.out.grow (Zab (Below.refl _ _) _))
   have B6:=Zq (show Below w.heap.size w W6 by rw[←hW];exact Zab B3.out _)
   have hr6:w.heap.size<wr.heap.size:=hR3.out.2.2
   have hg6:g4<wr.heap.size:=HW.out.1
   clear hW
   generalize wr.heap.size=x at *
   clear hR3 HW B3
   go_loopw [7] (fun i wr=>∃ k:Nat,k≤32∧i=.int .i64 k∧RowAt wr x (byI (keyZ D k))∧Below x W6 wr) (fun i _=>32-(intOf i).toNat)
   case atStart=>exact⟨0,by decide,rfl,K6.out,Below.refl _ _⟩
   case round =>
    obtain⟨k,hk,rfl,hrow,hbel⟩:=hrel
    by_cases hk32:k<32
    ·have hk0:(0:Int)≤(k:Int):=by omega
     have hk1:(k:Int)<32:=by omega
     have hq:(k:Int).tdiv 4=((k/4:Nat):Int):=rfl
     have hm:=ZhC k
     have hc:=HW6.out.word (k/4) (by omega)
     rw[←hbel.cell hg6] at hc
     have hck:=hrow.cellAt k (ZmA _ _ (Zfa D k k hk32))
     have hfk:=hrow.frozenAt k
     have Hset:=Zq (Zkf D k hk32)
     have h0:(0:Int)≤((k/4:Nat):Int):=by omega
     have h8:((k/4:Nat):Int)<8:=by omega
     obtain⟨m,em⟩:∃y,y=k%4*8:=⟨_,rfl⟩
     obtain⟨y,ey⟩:∃y,y=24-k%4*8:=⟨_,rfl⟩
     have h1:IntKind.i64.wrap (8*((k%4:Nat):Int))=(m:Int):=by rw[IntWalk.i64_in _ (by omega)];omega
     have h2:IntKind.i64.wrap (24-(m:Int))=(y:Int):=by rw[IntWalk.i64_in _ (by omega)];omega
     have h3:IntKind.u64.wrap (y:Int)=(y:Int):=by rw[IntWalk.u64_in _ (by omega)]
     have hy0:(0:Int)≤(y:Int):=by omega
     have hy1:(y:Int)≤32:=by omega
     obtain⟨v,ev⟩:∃v,v=Zdc D k:=⟨_,rfl⟩
     rw[←ev] at Hset
     unfold Zdc at ev
     rw[←ey] at ev
     have hv:=ev.symm
     clear em ey ev
     generalize Zhh D (k/4)=z at hc hv
     generalize k/4=q at *
     generalize k%4=r4 at *
     have Hrow:=Zq hrow
     have Hbel:=Zq hbel
     clear hrow hbel
     go_wp2_with fail
     go_roundw
     case rel =>
      refine⟨k+1,by omega,by go_num,?_,?_⟩
      ·rw[←Hset.out,←Zmi];exact Hrow.out.setCell _ _
      ·exact Hbel.out.setCell (p:=⟨_,_,none⟩) (Nat.le_refl _) _
     case measure=>simp[intOf];omega
    ·obtain rfl:k=32:=by omega
     rw[Zj2] at hrow
     have hr:RowAt wr x (keA D):=hrow
     obtain⟨q1,q2,q3⟩:=R6.out.keep hbel hr6
     obtain⟨r1,r2,r3⟩:=hr
     have hz:(byI (keyZ st0 0)).size=32:=by rw[Zki,ZcC]
     have Hbel:=Zq hbel
     have hne:¬w.heap.size=x:=by omega
     clear hrow hbel
     go_wp2_with fail
     refine bodyPost_ret (v:=.agg (keA D)) (Zav Tryz.results94 (ZbI D) _ _ _ rfl (by go_simp) (by go_simp)) rfl ⟨rfl,?_⟩
     exact Zad (B6.out.trans (Hbel.out.mono (by omega))) (Nat.le_refl _) _
theorem Znf (kc bc nk nb:Nat) (kp bp:Option Addr) (k b:List Nat) (w:World) (hnk:nk=k.length) (hnb:nb=b.length) (hk:k.length≤90000) (hkb:∀i,k.getD i 0<256) (hkB:Bs0 w kp k) (hkp:kp=none→kc=0)
  (hb:b.length≤90000) (hbb:∀i,b.getD i 0<256) (hbB:Bs0 w bp b) (hbp:bp=none→bc=0) :
  Calls Tryz.prog 63 #[.slice kp nk kc,.slice bp nb bc] w fun e w'=>e=.returned (.agg (keA (mac k b)))∧Below w.heap.size w w':=by
 have HkB:=Zq hkB
 have HbB:=Zq hbB
 have Hkp:=Zq hkp
 have Hbp:=Zq hbp
 have Hkb:=Zq hkb
 have Hbb:=Zq hbb
 have Enk:=Zq hnk
 have Enb:=Zq hnb
 have Hk:=Zq hk
 have Hb:=Zq hb
 obtain⟨M,eM⟩:∃M,M=mac k b:=⟨_,rfl⟩
 rw[←eM]
 unfold mac at eM
 have HFb:=Zq (Zh4 hkb)
 have HFl:=Zq (ZeM k)
 have HFs:=Zq (show Zdn k=if 64<k.length then keyN (dig k)++zs 32 else k++zs (64-k.length) from rfl)
 have EM:=Zq eM
 generalize Zdn k=F at *
 clear hkB hbB hkp hbp hkb hbb hnk hnb hk hb eM
 by_cases h64:64<nk
 ·have h64':(64:Int)<(nk:Int):=by omega
  go_enter Tryz.func63,Tryz.ntmps63
  go_wp2_with fail
  generalize hW:World.alloc _ _=W0
  obtain⟨z0,hz0,hR0⟩:∃c,c.size=32∧RowAt W0 w.heap.size c:=by rw[←hW];clear hW;exact⟨byI (List.replicate 32 0),by simp[byI],by go_simp,by go_simp;rfl,by go_simp⟩
  have R0:=Zq hR0
  have B0:=Zq (show Below w.heap.size w W0 by rw[←hW];exact Zab (Below.refl _ _) _)
  clear hW hR0
  have HS:=Zip kc kp k W0 (by have:=Hk.out;omega) Hkb.out (HkB.out.grow B0.out) Hkp.out
  rw[←Enk.out] at HS
  obtain⟨D,eD⟩:∃D,D=dig k:=⟨_,rfl⟩
  rw[←eD] at HS
  have HFk:=Zq (show F=keyN D++zs (64-32) by rw[HFs.out,if_pos (by rw[←Enk.out];exact h64),eD])
  clear eD
  refine HS.mono ?_
  rintro e W1 ⟨rfl,hb1⟩
  have R1:=Zq (R0.out.grow hb1)
  have B1:=Zq (B0.out.trans (hb1.mono B0.out.size))
  clear hb1 R0 HS
  go_wp2_with fail
  have HBy:=ZcT (keyN D) (Zar D) W1
  rw[←ZbE] at HBy
  refine HBy.mono ?_
  rintro e W2 ⟨v,rfl,hown,hb2⟩
  obtain⟨pk,ck,rfl,hBk,hck,hpk⟩:=hown.bs
  rw[Zar] at hck ⊢
  obtain⟨n1,en1⟩:∃n,n=32:=⟨_,rfl⟩
  rw[←en1] at hck HFk ⊢
  have En1:=Zq (show n1=(keyN D).length by rw[Zar];exact en1)
  have HK:=Zq hBk
  have R2:=Zq (R1.out.grow hb2)
  have B2:=Zq (B1.out.trans (hb2.mono B1.out.size))
  clear hb2 R1 HBy hown hBk hck hpk en1
  go_wp2_with fail
  have hxl54:=Zq (show (xorL 54 F).length=64 by rw[ZaQ,HFl.out])
  have hxl92:=Zq (show (xorL 92 F).length=64 by rw[ZaQ,HFl.out])
  go_loopw [5,6,7] (fun v u i wr=>∃ j:Nat,j≤64∧i=.int .i64 j∧OwnB wr W2.heap.size v ((xorL 54 F).take j)∧OwnB wr W2.heap.size u ((xorL 92 F).take j)∧Zpq v u∧Below W2.heap.size W2 wr) (fun _ _ i _=>64-(intOf i).toNat)
  case atStart=>exact⟨0,by decide,rfl,Zbk W2 _,Zbk W2 _,.inl rfl,Below.refl _ _⟩
  case round =>
   obtain⟨j,hj,rfl,hov,hou,hap,hbel⟩:=hrel
   by_cases hj64:j<64
   ·have hj0:(0:Int)≤(j:Int):=by omega
    have hj1:(j:Int)<64:=by omega
    have hjF:j<F.length:=by rw[HFl.out];exact hj64
    have ht1:=ZcU (xorL 54 F) j (by rw[ZaQ];exact hjF)
    have ht2:=ZcU (xorL 92 F) j (by rw[ZaQ];exact hjF)
    rw[Ze8 54 F j hjF] at ht1
    rw[Ze8 92 F j hjF] at ht2
    have hx1:bits .xor .u8 ((F.getD j 0:Nat):Int) 54=((F.getD j 0 ^^^ 54:Nat):Int):=u8_xor_nat (F.getD j 0) 54 (HFb.out j) (by decide)
    have hx2:bits .xor .u8 ((F.getD j 0:Nat):Int) 92=((F.getD j 0 ^^^ 92:Nat):Int):=u8_xor_nat (F.getD j 0) 92 (HFb.out j) (by decide)
    obtain⟨v',w1,u',w2,hr1,hr2,ho1,ho2,hap2,hb2⟩:=Zms (y:=F.getD j 0 ^^^ 54) (z:=F.getD j 0 ^^^ 92) hov hou hap hbel.size (by rw[List.length_take];omega) (by rw[List.length_take];omega)
    rw[ht1] at ho1
    rw[ht2] at ho2
    have Ho1:=Zq ho1
    have Ho2:=Zq ho2
    have Hap:=Zq hap2
    have Hb2:=Zq (hbel.trans hb2)
    have hcF:j<n1→wr.cell? ⟨(pk.getD ⟨0,0,none⟩).block,(pk.getD ⟨0,0,none⟩).off+j,none⟩=some (.int .u8 ((F.getD j 0:Nat):Int))∧pk=some ⟨(pk.getD ⟨0,0,none⟩).block,(pk.getD ⟨0,0,none⟩).off,none⟩:=fun hjn=>by
     rcases HK.out.grow hbel with h | ⟨g,o,rfl,h⟩
     ·exfalso;have:=En1.out;rw[h] at this;simp at this;omega
     ·refine⟨?_,rfl⟩
      show wr.cell? ⟨g,o+j,none⟩=_
      rw[h.2 j (by rw[←En1.out];exact hjn),HFk.out]
      simp only[List.getD]
      rw[List.getElem?_append_left (by rw[←En1.out];exact hjn)]
    have hF0:¬j<n1→F.getD j 0=0:=fun hjn=>by
     rw[HFk.out]
     simp only[List.getD]
     rw[List.getElem?_append_right (by rw[←En1.out];omega)]
     simp[zs,List.getElem?_replicate]
     split<;>rfl
    generalize F.getD j 0=y at *
    generalize hy1:y ^^^ 54=y1 at *
    generalize hy2:y ^^^ 92=y2 at *
    clear ho1 ho2 hap2 hb2 hov hou hap hbel ht1 ht2 hjF
    by_cases hjn:j<n1
    ·have hjn':(j:Int)<(n1:Int):=by omega
     obtain⟨hc,hpk⟩:=hcF hjn
     generalize (pk.getD ⟨0,0,none⟩).block=g at *
     generalize (pk.getD ⟨0,0,none⟩).off=o at *
     subst hpk
     clear hcF hF0 hy1 hy2
     go_wp2_with (at_builtin;first | refine Lib.wpList_append_run _ rfl _ _ _ _ rfl _ _ rfl rfl _ _ hr1 ?_ | refine Lib.wpList_append_run _ rfl _ _ _ _ rfl _ _ rfl rfl _ _ hr2 ?_)
     go_wp2_with fail
     go_roundw
     case rel=>exact⟨j+1,by omega,by go_num,Ho1.out,Ho2.out,Hap.out,Hb2.out⟩
     case measure=>simp[intOf];omega
    ·have hjn':¬(j:Int)<(n1:Int):=by omega
     have hy0:=hF0 hjn
     have hx3:bits .xor .u8 0 54=(y1:Int):=by rw[hy0] at hx1;exact hx1
     have hx4:bits .xor .u8 0 92=(y2:Int):=by rw[hy0] at hx2;exact hx2
     clear hcF hF0 hy1 hy2 hx1 hx2 hy0
     go_wp2_with (at_builtin;first | refine Lib.wpList_append_run _ rfl _ _ _ _ rfl _ _ rfl rfl _ _ hr1 ?_ | refine Lib.wpList_append_run _ rfl _ _ _ _ rfl _ _ rfl rfl _ _ hr2 ?_)
     go_wp2_with fail
     go_roundw
     case rel=>exact⟨j+1,by omega,by go_num,Ho1.out,Ho2.out,Hap.out,Hb2.out⟩
     case measure=>simp[intOf];omega
   ·obtain rfl:j=64:=by omega
    rw[List.take_of_length_le (by rw[hxl54.out];exact Nat.le_refl _)] at hov
    rw[List.take_of_length_le (by rw[hxl92.out];exact Nat.le_refl _)] at hou
    obtain⟨pi,ci,rfl,hBi,_,hpi⟩:=hov.bs
    obtain⟨po,co,rfl,hBo,_,hpo⟩:=hou.bs
    rw[hxl54.out,hxl92.out]
    have HBi:=Zq hBi
    have Hpi:=Zq hpi
    have HBo:=Zq hBo
    have Hpo:=Zq hpo
    have R3:=Zq (R2.out.grow hbel)
    have B3:=Zq (B2.out.trans (hbel.mono B2.out.size))
    clear hov hou hap hbel hBi hpi hBo hpo
    go_wp2_with fail
    refine(Zez ci bc 64 nb pi bp (xorL 54 F) b wr hxl54.out.symm Enb.out HBi.out Hpi.out (HbB.out.grow B3.out) Hbp.out (by rw[hxl54.out];have:=Hb.out;omega)).mono ?_
    rintro e W4 ⟨v4,rfl,hown4,hb4⟩
    obtain⟨p4,c4,rfl,hB4,_,hp4⟩:=hown4.bs
    have O4:=Zq (HBo.out.grow hb4)
    have R4:=Zq (R3.out.grow hb4)
    have B4:=Zq (B3.out.trans (hb4.mono B3.out.size))
    obtain⟨L1,eL1⟩:∃L,L=xorL 54 F++b:=⟨_,rfl⟩
    rw[←eL1] at hB4 ⊢
    have HS1:=Zip c4 p4 L1 W4 (by rw[eL1,List.length_append,hxl54.out];have:=Hb.out;omega) (by rw[eL1];exact ZaN (ZdI (by decide) HFb.out) Hbb.out) hB4 hp4
    obtain⟨n4,en4⟩:∃n,n=L1.length:=⟨_,rfl⟩
    obtain⟨D1,eD1⟩:∃D,D=dig L1:=⟨_,rfl⟩
    rw[←en4,←eD1] at HS1
    rw[←en4]
    have HS1:=Zq HS1
    have ED1:=Zq (show D1=dig (xorL 54 F++b) by rw[eD1,eL1])
    clear hown4 hb4 hB4 hp4 en4 eD1 eL1 R3
    go_wp2_with fail
    refine HS1.out.mono ?_
    rintro e W5 ⟨rfl,hb5⟩
    have O5:=Zq (O4.out.grow hb5)
    have R5:=Zq (R4.out.grow hb5)
    have B5:=Zq (B4.out.trans (hb5.mono B4.out.size))
    clear hb5 O4 R4 HS1
    go_wp2_with fail
    have HB1:=ZcT (keyN D1) (Zar D1) W5
    rw[←ZbE] at HB1
    refine HB1.mono ?_
    rintro e W6 ⟨v6,rfl,hown6,hb6⟩
    obtain⟨p6,c6,rfl,hB6,_,hp6⟩:=hown6.bs
    rw[Zar]
    have O6:=Zq (O5.out.grow hb6)
    have R6:=Zq (R5.out.grow hb6)
    have B6:=Zq (B5.out.trans (hb6.mono B5.out.size))
    have HB6:=Zq hB6
    have Hp6:=Zq hp6
    clear hb6 O5 R5 HB1 hown6 hB6 hp6
    go_wp2_with fail
    refine(Zez co c6 64 32 po p6 (xorL 92 F) (keyN D1) W6 hxl92.out.symm (Zar D1).symm O6.out Hpo.out HB6.out Hp6.out (by rw[hxl92.out,Zar];decide)).mono ?_
    rintro e W7 ⟨v7,rfl,hown7,hb7⟩
    obtain⟨p7,c7,rfl,hB7,_,hp7⟩:=hown7.bs
    have R7:=Zq (R6.out.grow hb7)
    have B7:=Zq (B6.out.trans (hb7.mono B6.out.size))
    obtain⟨L2,eL2⟩:∃L,L=xorL 92 F++keyN D1:=⟨_,rfl⟩
    rw[←eL2] at hB7 ⊢
    have HS2:=Zip c7 p7 L2 W7 (by rw[eL2,List.length_append,hxl92.out,Zar];decide) (by rw[eL2];exact ZaN (ZdI (by decide) HFb.out) (ZbS _)) hB7 hp7
    rw[show dig L2=M by rw[EM.out,eL2,ED1.out]] at HS2
    obtain⟨n7,en7⟩:∃n,n=L2.length:=⟨_,rfl⟩
    rw[←en7] at HS2 ⊢
    have HS2:=Zq HS2
    clear hown7 hb7 hB7 hp7 en7 eL2 R6
    go_wp2_with fail
    refine HS2.out.mono ?_
    rintro e W8 ⟨rfl,hb8⟩
    obtain⟨r1,r2,r3⟩:=R7.out.grow hb8
    have B8:=Zq (B7.out.trans (hb8.mono B7.out.size))
    clear hb8 R7 HS2
    go_wp2_with fail
    refine bodyPost_ret (v:=.agg (keA M)) (Zav Tryz.results63 (ZbI _) _ _ _ rfl (by go_simp) (by go_simp)) rfl ⟨rfl,?_⟩
    exact Zad B8.out (Nat.le_refl _) _
 ·have h64':¬(64:Int)<(nk:Int):=by omega
  have HFk:=Zq (show F=k++zs (64-nk) by rw[HFs.out,if_neg (by rw[←Enk.out];exact h64),Enk.out])
  go_enter Tryz.func63,Tryz.ntmps63
  go_wp2_with fail
  generalize hW:World.alloc _ _=W2
  obtain⟨z0,hz0,hR0⟩:∃c,c.size=32∧RowAt W2 w.heap.size c:=by rw[←hW];clear hW;exact⟨byI (List.replicate 32 0),by simp[byI],by go_simp,by go_simp;rfl,by go_simp⟩
  have R2:=Zq hR0
  have B2:=Zq (show Below w.heap.size w W2 by rw[←hW];exact Zab (Below.refl _ _) _)
  clear hW hR0
  have HK:=Zq (HkB.out.grow B2.out)
  have En1:=Zq Enk.out
  obtain⟨pk,epk⟩:∃y,y=kp:=⟨_,rfl⟩
  obtain⟨n1,en1⟩:∃y,y=nk:=⟨_,rfl⟩
  rw[←epk] at HK ⊢
  rw[←en1] at HFk En1 h64' ⊢
  clear epk en1
  have hxl54:=Zq (show (xorL 54 F).length=64 by rw[ZaQ,HFl.out])
  have hxl92:=Zq (show (xorL 92 F).length=64 by rw[ZaQ,HFl.out])
  go_loopw [5,6,7] (fun v u i wr=>∃ j:Nat,j≤64∧i=.int .i64 j∧OwnB wr W2.heap.size v ((xorL 54 F).take j)∧OwnB wr W2.heap.size u ((xorL 92 F).take j)∧Zpq v u∧Below W2.heap.size W2 wr) (fun _ _ i _=>64-(intOf i).toNat)
  case atStart=>exact⟨0,by decide,rfl,Zbk W2 _,Zbk W2 _,.inl rfl,Below.refl _ _⟩
  case round =>
   obtain⟨j,hj,rfl,hov,hou,hap,hbel⟩:=hrel
   by_cases hj64:j<64
   ·have hj0:(0:Int)≤(j:Int):=by omega
    have hj1:(j:Int)<64:=by omega
    have hjF:j<F.length:=by rw[HFl.out];exact hj64
    have ht1:=ZcU (xorL 54 F) j (by rw[ZaQ];exact hjF)
    have ht2:=ZcU (xorL 92 F) j (by rw[ZaQ];exact hjF)
    rw[Ze8 54 F j hjF] at ht1
    rw[Ze8 92 F j hjF] at ht2
    have hx1:bits .xor .u8 ((F.getD j 0:Nat):Int) 54=((F.getD j 0 ^^^ 54:Nat):Int):=u8_xor_nat (F.getD j 0) 54 (HFb.out j) (by decide)
    have hx2:bits .xor .u8 ((F.getD j 0:Nat):Int) 92=((F.getD j 0 ^^^ 92:Nat):Int):=u8_xor_nat (F.getD j 0) 92 (HFb.out j) (by decide)
    obtain⟨v',w1,u',w2,hr1,hr2,ho1,ho2,hap2,hb2⟩:=Zms (y:=F.getD j 0 ^^^ 54) (z:=F.getD j 0 ^^^ 92) hov hou hap hbel.size (by rw[List.length_take];omega) (by rw[List.length_take];omega)
    rw[ht1] at ho1
    rw[ht2] at ho2
    have Ho1:=Zq ho1
    have Ho2:=Zq ho2
    have Hap:=Zq hap2
    have Hb2:=Zq (hbel.trans hb2)
    have hcF:j<n1→wr.cell? ⟨(pk.getD ⟨0,0,none⟩).block,(pk.getD ⟨0,0,none⟩).off+j,none⟩=some (.int .u8 ((F.getD j 0:Nat):Int))∧pk=some ⟨(pk.getD ⟨0,0,none⟩).block,(pk.getD ⟨0,0,none⟩).off,none⟩:=fun hjn=>by
     rcases HK.out.grow hbel with h | ⟨g,o,rfl,h⟩
     ·exfalso;have:=En1.out;rw[h] at this;simp at this;omega
     ·refine⟨?_,rfl⟩
      show wr.cell? ⟨g,o+j,none⟩=_
      rw[h.2 j (by rw[←En1.out];exact hjn),HFk.out]
      simp only[List.getD]
      rw[List.getElem?_append_left (by rw[←En1.out];exact hjn)]
    have hF0:¬j<n1→F.getD j 0=0:=fun hjn=>by
     rw[HFk.out]
     simp only[List.getD]
     rw[List.getElem?_append_right (by rw[←En1.out];omega)]
     simp[zs,List.getElem?_replicate]
     split<;>rfl
    generalize F.getD j 0=y at *
    generalize hy1:y ^^^ 54=y1 at *
    generalize hy2:y ^^^ 92=y2 at *
    clear ho1 ho2 hap2 hb2 hov hou hap hbel ht1 ht2 hjF
    by_cases hjn:j<n1
    ·have hjn':(j:Int)<(n1:Int):=by omega
     obtain⟨hc,hpk⟩:=hcF hjn
     generalize (pk.getD ⟨0,0,none⟩).block=g at *
     generalize (pk.getD ⟨0,0,none⟩).off=o at *
     subst hpk
     clear hcF hF0 hy1 hy2
     go_wp2_with (at_builtin;first | refine Lib.wpList_append_run _ rfl _ _ _ _ rfl _ _ rfl rfl _ _ hr1 ?_ | refine Lib.wpList_append_run _ rfl _ _ _ _ rfl _ _ rfl rfl _ _ hr2 ?_)
     go_wp2_with fail
     go_roundw
     case rel=>exact⟨j+1,by omega,by go_num,Ho1.out,Ho2.out,Hap.out,Hb2.out⟩
     case measure=>simp[intOf];omega
    ·have hjn':¬(j:Int)<(n1:Int):=by omega
     have hy0:=hF0 hjn
     have hx3:bits .xor .u8 0 54=(y1:Int):=by rw[hy0] at hx1;exact hx1
     have hx4:bits .xor .u8 0 92=(y2:Int):=by rw[hy0] at hx2;exact hx2
     clear hcF hF0 hy1 hy2 hx1 hx2 hy0
     go_wp2_with (at_builtin;first | refine Lib.wpList_append_run _ rfl _ _ _ _ rfl _ _ rfl rfl _ _ hr1 ?_ | refine Lib.wpList_append_run _ rfl _ _ _ _ rfl _ _ rfl rfl _ _ hr2 ?_)
     go_wp2_with fail
     go_roundw
     case rel=>exact⟨j+1,by omega,by go_num,Ho1.out,Ho2.out,Hap.out,Hb2.out⟩
     case measure=>simp[intOf];omega
   ·obtain rfl:j=64:=by omega
    rw[List.take_of_length_le (by rw[hxl54.out];exact Nat.le_refl _)] at hov
    rw[List.take_of_length_le (by rw[hxl92.out];exact Nat.le_refl _)] at hou
    obtain⟨pi,ci,rfl,hBi,_,hpi⟩:=hov.bs
    obtain⟨po,co,rfl,hBo,_,hpo⟩:=hou.bs
    rw[hxl54.out,hxl92.out]
    have HBi:=Zq hBi
    have Hpi:=Zq hpi
    have HBo:=Zq hBo
    have Hpo:=Zq hpo
    have R3:=Zq (R2.out.grow hbel)
    have B3:=Zq (B2.out.trans (hbel.mono B2.out.size))
    clear hov hou hap hbel hBi hpi hBo hpo
    go_wp2_with fail
    refine(Zez ci bc 64 nb pi bp (xorL 54 F) b wr hxl54.out.symm Enb.out HBi.out Hpi.out (HbB.out.grow B3.out) Hbp.out (by rw[hxl54.out];have:=Hb.out;omega)).mono ?_
    rintro e W4 ⟨v4,rfl,hown4,hb4⟩
    obtain⟨p4,c4,rfl,hB4,_,hp4⟩:=hown4.bs
    have O4:=Zq (HBo.out.grow hb4)
    have R4:=Zq (R3.out.grow hb4)
    have B4:=Zq (B3.out.trans (hb4.mono B3.out.size))
    obtain⟨L1,eL1⟩:∃L,L=xorL 54 F++b:=⟨_,rfl⟩
    rw[←eL1] at hB4 ⊢
    have HS1:=Zip c4 p4 L1 W4 (by rw[eL1,List.length_append,hxl54.out];have:=Hb.out;omega) (by rw[eL1];exact ZaN (ZdI (by decide) HFb.out) Hbb.out) hB4 hp4
    obtain⟨n4,en4⟩:∃n,n=L1.length:=⟨_,rfl⟩
    obtain⟨D1,eD1⟩:∃D,D=dig L1:=⟨_,rfl⟩
    rw[←en4,←eD1] at HS1
    rw[←en4]
    have HS1:=Zq HS1
    have ED1:=Zq (show D1=dig (xorL 54 F++b) by rw[eD1,eL1])
    clear hown4 hb4 hB4 hp4 en4 eD1 eL1 R3
    go_wp2_with fail
    refine HS1.out.mono ?_
    rintro e W5 ⟨rfl,hb5⟩
    have O5:=Zq (O4.out.grow hb5)
    have R5:=Zq (R4.out.grow hb5)
    have B5:=Zq (B4.out.trans (hb5.mono B4.out.size))
    clear hb5 O4 R4 HS1
    go_wp2_with fail
    have HB1:=ZcT (keyN D1) (Zar D1) W5
    rw[←ZbE] at HB1
    refine HB1.mono ?_
    rintro e W6 ⟨v6,rfl,hown6,hb6⟩
    obtain⟨p6,c6,rfl,hB6,_,hp6⟩:=hown6.bs
    rw[Zar]
    have O6:=Zq (O5.out.grow hb6)
    have R6:=Zq (R5.out.grow hb6)
    have B6:=Zq (B5.out.trans (hb6.mono B5.out.size))
    have HB6:=Zq hB6
    have Hp6:=Zq hp6
    clear hb6 O5 R5 HB1 hown6 hB6 hp6
    go_wp2_with fail
    refine(Zez co c6 64 32 po p6 (xorL 92 F) (keyN D1) W6 hxl92.out.symm (Zar D1).symm O6.out Hpo.out HB6.out Hp6.out (by rw[hxl92.out,Zar];decide)).mono ?_
    rintro e W7 ⟨v7,rfl,hown7,hb7⟩
    obtain⟨p7,c7,rfl,hB7,_,hp7⟩:=hown7.bs
    have R7:=Zq (R6.out.grow hb7)
    have B7:=Zq (B6.out.trans (hb7.mono B6.out.size))
    obtain⟨L2,eL2⟩:∃L,L=xorL 92 F++keyN D1:=⟨_,rfl⟩
    rw[←eL2] at hB7 ⊢
    have HS2:=Zip c7 p7 L2 W7 (by rw[eL2,List.length_append,hxl92.out,Zar];decide) (by rw[eL2];exact ZaN (ZdI (by decide) HFb.out) (ZbS _)) hB7 hp7
    rw[show dig L2=M by rw[EM.out,eL2,ED1.out]] at HS2
    obtain⟨n7,en7⟩:∃n,n=L2.length:=⟨_,rfl⟩
    rw[←en7] at HS2 ⊢
    have HS2:=Zq HS2
    clear hown7 hb7 hB7 hp7 en7 eL2 R6
    go_wp2_with fail
    refine HS2.out.mono ?_
    rintro e W8 ⟨rfl,hb8⟩
    obtain⟨r1,r2,r3⟩:=R7.out.grow hb8
    have B8:=Zq (B7.out.trans (hb8.mono B7.out.size))
    clear hb8 R7 HS2
    go_wp2_with fail
    refine bodyPost_ret (v:=.agg (keA M)) (Zav Tryz.results63 (ZbI _) _ _ _ rfl (by go_simp) (by go_simp)) rfl ⟨rfl,?_⟩
    exact Zad B8.out (Nat.le_refl _) _
theorem ZnJ (ic n m:Nat) (ip:Option Addr) (s info:List Nat) (w:World) (hm:m=info.length) (hs:s.length=32) (hsb:∀i,s.getD i 0<256) (hi:m≤80000) (hib:∀i,info.getD i 0<256) (hiB:Bs0 w ip info) (hic:ip=none→ic=0) (hn:n≤8160) :
  Calls Tryz.prog 93 #[.agg (bysA s),.slice ip m ic,.int .i64 (n:Int)] w fun e w'=>∃ p c,e=.returned (.tuple #[.slice p n c,.int .i64 0])∧Bs0 w' p (expN s info n)∧Below w.heap.size w w':=by
 have HI:=Zq hiB
 have HIc:=Zq hic
 have Hsb:=Zq hsb
 have Hib:=Zq hib
 have Hs:=Zq hs
 have h0:¬(n:Int)<0:=by omega
 have h1:¬(8160:Int)<(n:Int):=by omega
 have Em:=Zq hm
 have hsz:(bysA s).size=32:=by rw[Zaj,hs]
 clear hiB hic hsb hib hs hm
 go_enter Tryz.func93,Tryz.ntmps93
 go_wp2_with fail
 generalize hW:World.alloc _ _=W0
 have R0:=Zq (show RowAt W0 w.heap.size (bysA s) by rw[←hW];exact RowAt.of (Zaq w _))
 have B0:=Zq (show Below w.heap.size w W0 by rw[←hW];exact Zab (Below.refl _ _) _)
 clear hW
 obtain⟨x,ex⟩:∃x,x=w.heap.size:=⟨_,rfl⟩
 rw[←ex] at R0 ⊢
 have Ex:=Zq ex
 clear ex
 go_loopw [8,9,10] (fun all last i wr=>∃ j:Nat,i=.int .i64 ((j+1:Nat):Int)∧32*j<n+32∧OwnB wr W0.heap.size all (exps s info j)∧SlV wr last (tagT s info j)∧Below W0.heap.size W0 wr) (fun _ _ i _=>300-(intOf i).toNat)
 case atStart=>exact⟨0,rfl,by omega,Zbk W0 _,⟨none,0,rfl,.inl rfl,Nat.le_refl _,fun _=>rfl⟩,Below.refl _ _⟩
 case round =>
  obtain⟨j,rfl,hj,hown,hlast,hbel⟩:=hrel
  have hel:=Zb2 s info j
  obtain⟨pa,ca,rfl,hBa,hca,hpa⟩:=hown.bs
  rw[hel] at hown hca ⊢
  obtain⟨na,ena⟩:∃y,y=32*j:=⟨_,rfl⟩
  rw[←ena] at hown hca hj ⊢
  have Hown:=Zq hown
  have Hlast:=Zq hlast
  have Hbel:=Zq hbel
  have Ena:=Zq ena
  have HBa:=Zq hBa
  clear hown hlast hbel ena hel hBa hpa
  obtain⟨j1,ej1⟩:∃y,y=j+1:=⟨_,rfl⟩
  rw[←ej1]
  by_cases hjn:na<n
  ·have hlt:(na:Int)<(n:Int):=by omega
   have hw8:=ZmM j1
   obtain⟨pl,cl,rfl,hBl,hcl,hpl⟩:=Hlast.out
   obtain⟨nl,enl⟩:∃y,y=(tagT s info j).length:=⟨_,rfl⟩
   have hnl:=ZnB s info j
   rw[←enl] at hcl hnl ⊢
   have Enl:=Zq enl
   have HBl:=Zq hBl
   have Hpl:=Zq hpl
   have Ej1:=Zq ej1
   have hj1:j1≤256:=by have:=Ena.out;omega
   clear hBl hpl enl ej1 hcl Hlast
   obtain⟨L,eL⟩:∃y,y=tagT s info j++info++[j1%256]:=⟨_,rfl⟩
   obtain⟨D,eD⟩:∃y,y=mac s L:=⟨_,rfl⟩
   have Htag:=Zq (show tagT s info (j+1)=keyN D by rw[tagT,eD,eL,Ej1.out])
   have HLb:=Zq (show ∀i,L.getD i 0<256 by rw[eL];exact ZaN (ZaN (ZjY _ _ _) Hib.out) (ZvI _ (Nat.mod_lt _ (by decide))))
   have hLl:L.length≤90000:=by rw[eL,List.length_append,List.length_append,←Enl.out,←Em.out];simp only[List.length_cons,List.length_nil];omega
   have EL:=Zq eL
   have ED:=Zq eD
   clear eL eD
   have R1:=Zq (R0.out.grow Hbel.out)
   have I1:=Zq ((HI.out.grow B0.out).grow Hbel.out)
   obtain⟨r1,r2,r3⟩:=R1.out
   obtain⟨b8,eb8⟩:∃y,y=j1%256:=⟨_,rfl⟩
   rw[←eb8] at hw8
   have Eb8:=Zq eb8
   clear eb8
   go_wp2_with fail
   refine(ZcT s Hs.out wr).mono ?_
   rintro e W1 ⟨v1,rfl,ho1,hb1⟩
   obtain⟨p1,c1,rfl,hB1,hc1,hp1⟩:=ho1.bs
   rw[Hs.out]
   have H1:=Zq hB1
   have Hp1:=Zq hp1
   have B1:=Zq hb1
   clear ho1 hB1 hb1 hc1 hp1 r1 r2 r3
   go_wp2_with fail
   refine(Zez cl ic nl m pl ip (tagT s info j) info W1 Enl.out Em.out (HBl.out.grow B1.out) Hpl.out (I1.out.grow B1.out) HIc.out (by rw[←Enl.out,←Em.out];omega)).mono ?_
   rintro e W2 ⟨v2,rfl,ho2,hb2⟩
   have B2:=Zq (B1.out.trans (hb2.mono B1.out.size))
   have BA:=Zab (Below.refl W2.heap.size W2) (.cells #[.int .u8 (b8:Int)] 5)
   obtain⟨v3,W3,hr3,ho3,hg3⟩:=ZbY (k:=1) (cap:=1) (ho2.below BA) (Bs0.some (Zbr W2 [b8] 5 (0,0))) rfl (fun h=>by cases h) (Nat.le_trans hb2.size BA.size) (by rw[List.length_append,←Enl.out,←Em.out];simp only[List.length_cons,List.length_nil];omega)
   have hb3:=Za2 (hb2.alloc hb2.size (.cells #[.int .u8 (b8:Int)] 5)) (ho2.below BA) (Nat.le_trans hb2.size BA.size) hg3
   have B3:=Zq (B1.out.trans (hb3.mono B1.out.size))
   rw[Eb8.out,←EL.out] at ho3
   obtain⟨p3,c3,ev3,hB3,hc3,hp3⟩:=ho3.bs
   obtain⟨n3,en3⟩:∃y,y=L.length:=⟨_,rfl⟩
   rw[←en3] at ev3
   subst ev3
   have H3:=Zq hB3
   have Hp3:=Zq hp3
   have En3:=Zq en3
   have H31:=Zq (H1.out.grow hb3)
   clear ho2 hb2 BA ho3 hg3 hb3 hB3 hc3 hp3 en3 B2
   go_wp2_with (at_builtin;refine Lib.wpList_append_run _ rfl _ _ _ _ rfl _ _ rfl rfl _ _ hr3 ?_)
   have HM:=Znf c1 c3 32 n3 p1 p3 s L W3 Hs.out.symm En3.out (by rw[Hs.out];decide) Hsb.out H31.out Hp1.out hLl HLb.out H3.out Hp3.out
   rw[←ED.out,ZbE] at HM
   refine HM.mono ?_
   rintro e W4 ⟨rfl,hb4⟩
   have B4:=Zq (B3.out.trans (hb4.mono B3.out.size))
   clear hb4 HM
   go_wp2_with fail
   refine(ZcT (keyN D) (Zar D) W4).mono ?_
   rintro e W5 ⟨v5,rfl,ho5,hb5⟩
   have B5:=Zq (B4.out.trans (hb5.mono B4.out.size))
   have hown5:OwnB W5 W0.heap.size (.slice pa na ca) (exps s info j):=Hown.out.below B5.out
   obtain⟨p5,c5,ev5,hB5,hc5,hp5⟩:=ho5.bs
   rw[Zar] at ev5
   have hb05:Below W0.heap.size W0 W5:=Hbel.out.trans (B5.out.mono Hbel.out.size)
   obtain⟨va,wa,hra,howna,hgra⟩:=ZbY (cap:=c5) (k:=32) hown5 hB5 (Zar D).symm hp5 hb05.size (by rw[Zb2,Zar];have:=Ena.out;omega)
   have Hba:=Zq (Za2 hb05 hown5 hb05.size hgra)
   have Hoa:=Zq (show OwnB wa W0.heap.size va (exps s info (j+1)) by rw[exps,Htag.out];exact howna)
   have Hla:=Zq (show SlV wa (.slice p5 32 c5) (tagT s info (j+1)) by
    rw[Htag.out,←ev5]
    refine(ho5.kept hgra ?_).bs
    cases hvb:v5.ownBlock with
    | none=>exact .inl rfl
    | some k =>
     right
     intro he
     have h1:=(ho5.ltb k hvb).1
     have h2:=(Hown.out.ltb k he.symm).2
     have:=B4.out.size
     omega)
   subst ev5
   clear ho5 hb5 hown5 hB5 hc5 hp5 hb05 howna hgra
   go_wp2_with (at_builtin;refine Lib.wpList_append_run _ rfl _ _ _ _ rfl _ _ rfl rfl _ _ hra ?_)
   go_wp2_with fail
   go_roundw
   case rel=>exact⟨j+1,by rw[←Ej1.out];go_num,by have:=Ena.out;omega,Hoa.out,Hla.out,Hba.out⟩
   case measure=>simp[intOf];omega
  ·have hlt:¬(na:Int)<(n:Int):=by omega
   have hsl:=ZlF pa na ca n (by omega)
   clear ej1
   go_wp2_with fail
   refine bodyPost_ret (v:=.tuple #[.slice pa n ca,.int .i64 0]) (results_tmp2 Tryz.results93 _ _ _) rfl ⟨pa,⟨ca,rfl⟩,?_,B0.out.trans (Hbel.out.mono B0.out.size)⟩
   rw[ZfD s info n j (by have:=Ena.out;omega)]
   exact Bs0.take HBa.out n
def strB (s:ByteArray):List Nat:=s.data.toList.map fun b=>b.toNat
theorem ZbA (s:ByteArray):(strB s).length=s.size:=by simp[strB]
theorem ZkU (s:ByteArray):∀i,(strB s).getD i 0<256:=Zbp fun x hx=>by
 obtain⟨b,_,rfl⟩:=List.mem_map.1 hx
 exact b.toNat_lt
theorem ZkA (s t:ByteArray):strB (s++t)=strB s++strB t:=by simp[strB]
def cvSB (v:Value):Sem Value:=convert 9 38 v
@[go_sem ↓ high] theorem Zuv (v:Value):convert 9 38 v=cvSB v:=rfl
theorem Zke (s:ByteArray) (w:World):∃c W,(cvSB (.string s)).run Tryz.prog w=.ok (.slice (some ⟨w.heap.size,0,none⟩) s.size c) W∧BytesAt W w.heap.size 0 (strB s)∧Below w.heap.size w W∧s.size≤c:=by
 refine⟨grownCap w s.size 0 5,Lib.bytesWorld w 5 s,Lib.run_convert_string_bytes w _ _ 5 s Tryz.underlying9 Tryz.underlying38 Tryz.underlying5,⟨by rw[Lib.bytesWorld_size];omega,fun i hi=>?_⟩,⟨?_,?_,?_,by rw[Lib.bytesWorld_size];omega,fun k hk=>Lib.bytesWorld_at_old w _ s k hk⟩,grownCap_ge _ _ _ _⟩
 ·rw[ZbA] at hi
  rw[Nat.zero_add,Lib.bytesWorld_cell w _ s i hi]
  simp[strB,List.getD,hi]
 ·rfl
 ·rfl
 ·rfl
def toS (l:List Nat):ByteArray:=⟨(l.map UInt8.ofNat).toArray⟩
def cvBS (v:Value):Sem Value:=convert 38 9 v
@[go_sem ↓ high] theorem ZuN (v:Value):convert 38 9 v=cvBS v:=rfl
theorem ZhW:∀(l:List Nat) (s:ByteArray),(l.map fun n:Nat=>(n:Int)).foldl (fun r n=>r.push (UInt8.ofNat n.toNat)) s=⟨s.data++(l.map UInt8.ofNat).toArray⟩
 | [],s=>by simp
 | n::l,s=>by
  rw[List.map_cons,List.foldl_cons,ZhW l]
  simp[ByteArray.push]
theorem Zkk {w:World} {p:Option Addr} {l:List Nat} {n c:Nat} (h:Bs0 w p l) (hn:n=l.length):(cvBS (.slice p n c)).run Tryz.prog w=.ok (.string (toS l)) w:=by
 subst hn
 unfold cvBS
 rw[run_convert_bytes_string w _ _ 5 _ _ _ Tryz.underlying38 Tryz.underlying5 Tryz.underlying9]
 have key:∀a:Addr,(∀ j u,(bys l)[j]?=some u→w.cell? (a.add j)=some u)→(Conv.bytesToString (.slice (some a) l.length c)).run Tryz.prog w=.ok (.string (toS l)) w:=fun a ha=>by
  have h1:=run_loadCells_list (P:=Tryz.prog) w a (bys l) ha
  rw[Zaz] at h1
  have h2:bys l=(l.map fun n:Nat=>(n:Int)).map (Value.int .u8):=by simp[bys]
  rw[h2] at h1
  rw[run_bytesToString w a l.length c _ h1,ZhW]
  simp[toS]
 cases p with
 | none =>
  have hl:l=[]:=by
   rcases h with h | ⟨b,o,h,_⟩
   ·exact h
   ·cases h
  subst hl
  simp[Conv.bytesToString,toS]
  rfl
 | some a =>
  refine key a ?_
  rcases h with rfl | ⟨b,o,he,h⟩
  ·intro j u hu;simp[bys] at hu
  ·cases he;exact Zgo h
theorem Zj4:strB ⟨#[112,105,103,101,111,110,114,121,32]⟩=purp:=by decide
theorem Zhr (s:List Nat) (lab:ByteArray) (w:World) (hT:Tabs w) (hs:s.length=32) (hsb:∀i,s.getD i 0<256) (hl:lab.size≤50000) :
  Calls Tryz.prog 58 #[.agg (bysA s),.string lab] w fun e w'=>e=.returned (.agg (keA (drv s (purp++strB lab))))∧Below w.heap.size w w':=by
 have hz:(bysA s).size=32:=by rw[Zaj,hs]
 have HT:=Zq hT
 have Hs:=Zq hs
 have Hsb:=Zq hsb
 obtain⟨D,eD⟩:∃y,y=drv s (purp++strB lab):=⟨_,rfl⟩
 rw[←eD]
 have ED:=Zq eD
 clear hT hs hsb eD
 go_enter Tryz.func58,Tryz.ntmps58
 go_wp2_with fail
 generalize hS:({ data:=#[112,105,103,101,111,110,114,121,32] }:ByteArray)++lab=S0
 have HS0:=Zq (show strB S0=purp++strB lab by rw[←hS,ZkA,Zj4])
 have hS0:S0.size≤60000:=by
  have:=congrArg List.length HS0.out
  rw[ZbA,List.length_append,ZbA] at this
  simp[purp] at this;omega
 clear hS
 generalize hW:World.alloc _ _=W0
 obtain⟨z0,hz0,hR0⟩:∃c:Array Value,c.size=32∧RowAt W0 (w.heap.size+1) c:=by rw[←hW];clear hW;exact⟨byI (List.replicate 32 0),by simp[byI],by go_simp,by go_simp;rfl,by go_simp⟩
 have K0:=Zq (show RowAt W0 (w.heap.size+1+1) (bysA (zs 32)) by rw[←hW];clear hW;exact⟨by go_simp,by go_simp;rfl,by go_simp⟩)
 have R0:=Zq hR0
 have B0:=Zq (show Below w.heap.size w W0 by rw[←hW];repeat (first | apply Zag | apply Zab | exact Below.refl _ _))
 clear hW hR0
 have hg1:w.heap.size≤w.heap.size+1+1:=by omega
 have hg2:¬w.heap.size+1=w.heap.size+1+1:=by omega
 have hg3:w.heap.size≤w.heap.size+1:=by omega
 generalize w.heap.size+1+1=t at *
 generalize w.heap.size+1=r at *
 obtain⟨c,W1,hr,hby,hb1,hc⟩:=Zke S0 W0
 have HE:=Zqa c 32 (some ⟨W0.heap.size,0,none⟩) s (strB S0) W1 ((HT.out.grow B0.out).grow hb1) Hs.out Hsb.out (by rw[ZbA];omega) (ZkU _) (Bs0.some hby) (fun h=>by cases h) (by decide)
 rw[ZbA,ZmY,HS0.out,←ED.out] at HE
 have HE:=Zq HE
 have R1:=Zq (R0.out.grow hb1)
 have K1:=Zq (K0.out.grow hb1)
 have B1:=Zq (B0.out.trans (hb1.mono B0.out.size))
 clear hby hb1 hc R0 K0 hS0
 rw[hr]
 go_simp
 go_wp2_with fail
 refine HE.out.mono ?_
 rintro e W2 ⟨p,rfl,hB2,hp2,hb2⟩
 have hcp:=Zb7 (c2:=32) (cap:=32) (d:=32) (s:=32) (k:=32) (K1.out.grow hb2) (by rw[Zah]) (Zar D).symm (by rw[Zah,Zar];decide) hB2
 rw[show (keyN D).take 32++(zs 32).drop 32=keyN D by rw[List.take_of_length_le (by rw[Zar];exact Nat.le_refl _),ZcI];simp[zs],←ZbE] at hcp
 have K2:=(K1.out.grow hb2).set (keA D)
 have R2:=(R1.out.grow hb2).other hg2 (keA D)
 have B2:=Zq (Zad (B1.out.trans (hb2.mono B1.out.size)) hg1 (keA D))
 generalize W2.setRow t (keA D)=W3 at *
 obtain⟨k1,k2,k3⟩:=K2
 obtain⟨r1,r2,r3⟩:=R2
 clear hb2 hB2 hp2 HE K1 R1
 go_wp2_with fail
 refine bodyPost_ret (v:=.agg (keA D)) (Zav Tryz.results58 (ZbI _) _ _ _ rfl (by go_simp) (by go_simp)) rfl ⟨rfl,?_⟩
 exact Zad B2.out hg3 _
theorem ZoR (s:List Nat) (k:Nat) (h:k<32) (hs:s.length=32):(s.take k++zs (32-k)).set k (s.getD k 0)=s.take (k+1)++zs (32-(k+1)):=by
 have hk:k<s.length:=by omega
 have e:zs (32-k)=0::zs (32-(k+1)):=by
  obtain⟨m,hm⟩:∃m,32-k=m+1:=⟨31-k,by omega⟩
  rw[hm,show 32-(k+1)=m by omega];rfl
 have hlen:(s.take k).length=k:=by rw[List.length_take];omega
 rw[List.set_append,if_neg (by omega),hlen,Nat.sub_self,e,List.set_cons_zero,List.take_add_one,List.getElem?_eq_getElem hk,List.append_assoc]
 congr 2
 simp[List.getD,hk]
theorem ZiH (s:List Nat) (lab:ByteArray) (w:World) (hs:s.length=32) (hsb:∀i,s.getD i 0<256) (hl:lab.size≤50000) :
  Calls Tryz.prog 61 #[.agg (bysA s),.string lab] w fun e w'=>e=.returned (.agg (keA (drv s (purp++strB lab))))∧Below w.heap.size w w':=by
 have hz:(bysA s).size=32:=by rw[Zaj,hs]
 have Hs:=Zq hs
 have Hsb:=Zq hsb
 obtain⟨D,eD⟩:∃y,y=drv s (purp++strB lab):=⟨_,rfl⟩
 rw[←eD]
 have ED:=Zq eD
 clear hs hsb eD
 go_enter Tryz.func61,Tryz.ntmps61
 go_wp2_with fail
 generalize hS:({ data:=#[112,105,103,101,111,110,114,121,32] }:ByteArray)++lab=S0
 have HS0:=Zq (show strB S0=purp++strB lab by rw[←hS,ZkA,Zj4])
 have hS0:S0.size≤60000:=by
  have:=congrArg List.length HS0.out
  rw[ZbA,List.length_append,ZbA] at this
  simp[purp] at this;omega
 clear hS
 generalize hW:World.alloc _ _=W0
 obtain⟨z0,hz0,hR0⟩:∃c:Array Value,c.size=32∧RowAt W0 (w.heap.size+1) c:=by rw[←hW];clear hW;exact⟨byI (List.replicate 32 0),by simp[byI],by go_simp,by go_simp;rfl,by go_simp⟩
 have R0:=Zq hR0
 have B0:=Zq (show Below w.heap.size w W0 by rw[←hW];repeat (first | apply Zag | apply Zab | exact Below.refl _ _))
 clear hW hR0
 have hg3:w.heap.size≤w.heap.size+1:=by omega
 generalize w.heap.size+1=r at *
 obtain⟨c,W1,hr,hby,hb1,hc⟩:=Zke S0 W0
 have HE:=ZnJ c 32 S0.size (some ⟨W0.heap.size,0,none⟩) s (strB S0) W1 (ZbA _).symm Hs.out Hsb.out (by omega) (ZkU _) (Bs0.some hby) (fun h=>by cases h) (by decide)
 rw[ZmY,HS0.out,←ED.out] at HE
 have HE:=Zq HE
 have R1:=Zq (R0.out.grow hb1)
 have B1:=Zq (B0.out.trans (hb1.mono B0.out.size))
 clear hby hb1 hc R0 hS0
 rw[hr]
 go_simp
 go_wp2_with fail
 refine HE.out.mono ?_
 rintro e W2 ⟨p,c2,rfl,hB2,hb2⟩
 have hD:=Zar D
 obtain⟨g,o,rfl,hby2⟩:∃g o,p=some ⟨g,o,none⟩∧BytesAt W2 g o (keyN D):=by
  rcases hB2 with h | h
  ·rw[h] at hD;cases hD
  ·exact h
 have HY:=Zq hby2
 have HDl:=Zq hD
 have R2:=Zq (R1.out.grow hb2)
 have B2:=Zq (B1.out.trans (hb2.mono B1.out.size))
 clear hb2 hB2 HE R1 hby2 hD
 go_wp2_with fail
 generalize hW:World.alloc _ _=W3
 have BW:=Zq (show Below W2.heap.size W2 W3 by rw[←hW];exact Zab (Below.refl _ _) _)
 have T0:=Zq (show RowAt W3 W2.heap.size (bysA (zs 32)) by rw[←hW];clear hW;exact⟨by go_simp,by go_simp;rfl,by go_simp⟩)
 clear hW
 have hgt:g<W2.heap.size:=HY.out.1
 have hrt:r<W2.heap.size:=R2.out.2.2
 have hwt:w.heap.size≤W2.heap.size:=B2.out.size
 have Y3:=Zq (HY.out.grow BW.out)
 have R3:=Zq (R2.out.grow BW.out)
 have B3:=Zq (B2.out.trans (BW.out.mono B2.out.size))
 clear HY R2 B2 BW
 generalize W2.heap.size=t at *
 go_loopw [8] (fun i wr=>∃ k:Nat,k≤32∧i=.int .i64 k∧RowAt wr t (bysA ((keyN D).take k++zs (32-k)))∧Below t W3 wr) (fun i _=>32-(intOf i).toNat)
 case atStart=>exact⟨0,by decide,rfl,T0.out,Below.refl _ _⟩
 case round =>
  obtain⟨k,hk,rfl,hrow,hbel⟩:=hrel
  by_cases hk32:k<32
  ·have hk0:(0:Int)≤(k:Int):=by omega
   have hk1:(k:Int)<32:=by omega
   have hc:wr.cell? ⟨g,o+k,none⟩=some (.int .u8 (((keyN D).getD k 0:Nat):Int)):=by
    rw[hbel.cell hgt];exact Y3.out.2 k (by rw[HDl.out];exact hk32)
   have Hset:=Zq (ZoR (keyN D) k hk32 HDl.out)
   generalize (keyN D).getD k 0=y at *
   have hlx:k<((keyN D).take k++zs (32-k)).length:=by rw[List.length_append,List.length_take,Zah,HDl.out];omega
   have hcx:=hrow.cellAt k (ZaB _ k hlx)
   have hfx:=hrow.frozenAt k
   have Hrow:=Zq hrow
   have Hbel:=Zq hbel
   clear hrow hbel hlx
   go_wp2_with fail
   go_roundw
   case rel =>
    refine⟨k+1,by omega,by go_num,?_,?_⟩
    ·rw[←Hset.out,←Zca];exact Hrow.out.setCell _ _
    ·exact Hbel.out.setCell (p:=⟨_,_,none⟩) (Nat.le_refl _) _
   case measure=>simp[intOf];omega
  ·obtain rfl:k=32:=by omega
   rw[show zs (32-32)=[] from rfl,List.append_nil,List.take_of_length_le (by rw[HDl.out];exact Nat.le_refl _),←ZbE] at hrow
   obtain⟨t1,t2,t3⟩:=hrow
   obtain⟨r1,r2,r3⟩:=R3.out.keep hbel hrt
   have Hbel:=Zq hbel
   clear hbel
   go_wp2_with fail
   refine bodyPost_ret (v:=.agg (keA D)) (Zav Tryz.results61 (ZbI _) _ _ _ rfl (by go_simp) (by go_simp)) rfl ⟨rfl,?_⟩
   exact Zad (B3.out.trans (Hbel.out.mono hwt)) hg3 _
theorem ZuQ (s:List Nat) (k:Nat) (h:k<16) (hs:s.length=32):(s.take k++zs (16-k)).set k (s.getD k 0)=s.take (k+1)++zs (16-(k+1)):=by
 have hk:k<s.length:=by omega
 have e:zs (16-k)=0::zs (16-(k+1)):=by
  obtain⟨m,hm⟩:∃m,16-k=m+1:=⟨15-k,by omega⟩
  rw[hm,show 16-(k+1)=m by omega];rfl
 have hlen:(s.take k).length=k:=by rw[List.length_take];omega
 rw[List.set_append,if_neg (by omega),hlen,Nat.sub_self,e,List.set_cons_zero,List.take_add_one,List.getElem?_eq_getElem hk,List.append_assoc]
 congr 2
 simp[List.getD,hk]
theorem ZoJ (s:List Nat) (hs:s.length=32) (w:World):Calls Tryz.prog 62 #[.agg (bysA s)] w fun e w'=>e=.returned (.agg (bysA (s.take 16)))∧Below w.heap.size w w':=by
 have hz2:(bysA (s.take 16)).size=16:=by rw[Zaj,List.length_take,hs];rfl
 have Hs:=Zq hs
 clear hs
 go_enter Tryz.func62,Tryz.ntmps62
 go_wp2_with fail
 generalize hW:World.alloc _ _=W0
 have K0:=Zq (show RowAt W0 w.heap.size (bysA s) by rw[←hW];clear hW;exact⟨by go_simp,by go_simp,by go_simp⟩)
 obtain⟨z0,hz0,hR0⟩:∃c:Array Value,c.size=16∧RowAt W0 (w.heap.size+1) c:=by rw[←hW];clear hW;exact⟨bysA (zs 16),by rw[Zaj,Zah],by go_simp,by go_simp;rfl,by go_simp⟩
 have T0:=Zq (show RowAt W0 (w.heap.size+1+1) (bysA (zs 16)) by rw[←hW];clear hW;exact⟨by go_simp,by go_simp;rfl,by go_simp⟩)
 have R0:=Zq hR0
 have B0:=Zq (show Below w.heap.size w W0 by rw[←hW];repeat (first | apply Zag | apply Zab | exact Below.refl _ _))
 clear hW hR0
 go_loopw [4] (fun i wr=>∃ k:Nat,k≤16∧i=.int .i64 k∧RowAt wr (w.heap.size+1+1) (bysA (s.take k++zs (16-k)))∧Below (w.heap.size+1+1) W0 wr) (fun i _=>16-(intOf i).toNat)
 case atStart=>exact⟨0,by decide,rfl,T0.out,Below.refl _ _⟩
 case round =>
  obtain⟨k,hk,rfl,hrow,hbel⟩:=hrel
  by_cases hk16:k<16
  ·have hk0:(0:Int)≤(k:Int):=by omega
   have hk1:(k:Int)<16:=by omega
   have hk32:(k:Int)<32:=by omega
   have hc:=(K0.out.keep hbel (by omega)).cellAt k (ZaB s k (by rw[Hs.out];omega))
   have Hset:=Zq (ZuQ s k hk16 Hs.out)
   generalize s.getD k 0=y at *
   have hlx:k<(s.take k++zs (16-k)).length:=by rw[List.length_append,List.length_take,Zah,Hs.out];omega
   have hcx:=hrow.cellAt k (ZaB _ k hlx)
   have hfx:=hrow.frozenAt k
   have Hrow:=Zq hrow
   have Hbel:=Zq hbel
   clear hrow hbel hlx
   go_wp2_with fail
   go_roundw
   case rel =>
    refine⟨k+1,by omega,by go_num,?_,?_⟩
    ·rw[←Hset.out,←Zca];exact Hrow.out.setCell _ _
    ·exact Hbel.out.setCell (p:=⟨_,_,none⟩) (Nat.le_refl _) _
   case measure=>simp[intOf];omega
  ·obtain rfl:k=16:=by omega
   rw[show zs (16-16)=[] from rfl,List.append_nil] at hrow
   obtain⟨t1,t2,t3⟩:=hrow
   obtain⟨r1,r2,r3⟩:=R0.out.keep hbel (by omega)
   have Hbel:=Zq hbel
   clear hbel
   go_wp2_with fail
   refine bodyPost_ret (v:=.agg (bysA (s.take 16))) (Zb1 Tryz.results62 hz2 _ _ _ rfl (by go_simp) (by go_simp)) rfl ⟨rfl,?_⟩
   exact Zad (B0.out.trans (Hbel.out.mono (by omega))) (by omega) _
end Go.Proofs.YtddmjddlbhdcpaaGreatDoor
namespace Go.Hold
open Go Go.RowKit
section
variable {P:Program} {md:Region.Mode} {W:World} {Q:Exit→Act→World→Prop} {ops:Array Oper} {R:Nat→Value→World→Prop} {G:World→World→Prop}
theorem ZpA {listed:Array Bool} {D:List Nat} {n:Nat} (hls:listed.size=ops.size) (hl:∀i,i<ops.size→listed.getD i false=decide (i∈D)) (h1:∀i,i∈D→i<n) (h2:∀i,i<n→i∈D):listed=ZfF n ops.size:=by
 apply Array.ext_getElem?
 intro i
 by_cases hi:i<ops.size
 ·have e1:=hl i hi
  have e2:listed[i]?=some (listed.getD i false):=by simp[hls,hi]
  rw[e2,e1]
  unfold ZfF
  rw[Array.getElem?_map,Array.getElem?_range,if_pos hi]
  simp only[Option.map_some,Option.some.injEq]
  by_cases e:i<n
  ·rw[decide_eq_true (h2 i e)];exact((show Nat.blt i n=true from by rw[Nat.blt_eq];exact e)).symm
  ·rw[decide_eq_false fun h=>e (h1 i h)]
   cases hx:Nat.blt i n
   ·rfl
   ·exact absurd ((by rw[Nat.blt_eq] at hx;exact hx)) e
 ·rw[Array.getElem?_eq_none (by omega),Array.getElem?_eq_none (by simp[ZfF];omega)]
end
section
variable {P:Program} {md:Region.Mode} {W:World} {Q:Exit→Act→World→Prop} {ops:Array Oper} {n:Nat} {R:Nat→Value→World→Prop} {G:World→World→Prop} {ls:List Nat}
def Zhm (P:Program) (ops:Array Oper) (W:World) (n:Nat) (R:Nat→Value→World→Prop) (a:Act) (vals:Nat→Value) (i:Nat) (o:Oper):Prop :=
 ∀ w,Below W.heap.size W w→(∀ j∈Zbi ops n o,R j (vals j) w) →
  ∃ v,R i v w∧Region.wanted o (yielded ops (ZaK ops vals (Zbi ops n o) a).tmps)=true∧∀ w',(execOp (ZaK ops vals (Zbi ops n o) a).eval o).run P w'=.ok (.value v) w'
def Zou (ops:Array Oper) (W:World) (n:Nat) (R:Nat→Value→World→Prop) (a:Act) (vals:Nat→Value) (i:Nat) (o:Oper):Prop :=
 ∀ w,Below W.heap.size W w→(∀ j∈Zbi ops n o,R j (vals j) w)→Region.wanted o (yielded ops (ZaK ops vals (Zbi ops n o) a).tmps)=false∧R i undef w
def Zhd (ls:List Nat) (P:Program) (ops:Array Oper) (W:World) (n:Nat) (G:World→World→Prop) (R:Nat→Value→World→Prop) (a:Act) (vals:Nat→Value) (i:Nat) (o:Oper):Prop :=
 if i∈ls then Zhm P ops W n R a vals i o else (Zcl P ops W n G R a vals i o∨Zou ops W n R a vals i o)
theorem Zb8 {a:Act} {vals:Nat→Value} {i:Nat} {o:Oper} (h:ls.contains i=false) (s:Zcl P ops W n G R a vals i o):Zhd ls P ops W n G R a vals i o:=by
 unfold Zhd
 rw[if_neg (fun hm=>by rw[List.contains_iff_mem.2 hm] at h;cases h)]
 exact .inl s
theorem Zsm {a:Act} {vals:Nat→Value} {i:Nat} {o:Oper} (h:ls.contains i=true) (s:Zhm P ops W n R a vals i o):Zhd ls P ops W n G R a vals i o:=by
 unfold Zhd
 rw[if_pos (List.contains_iff_mem.1 h)]
 exact s
def Zio (md:Region.Mode) (ops:Array Oper) (n:Nat):Nat→Oper→Nat→Bool
 | 0,o,j=>ZbZ md o j
 | f+1,o,j=>ZbZ md o j||(List.range n).any fun m=>ZbZ md o m&&match ops[m]? with
  | some om=>Zio md ops n f om j
  | none=>false
theorem ZkM {D:List Nat} (hdc:∀i∈D,∀ o,ops[i]?=some o→∀ j,j<n→ZbZ md o j=true→j∈D):∀(f:Nat) (o:Oper) (_:∀j,j<n→ZbZ md o j=true→j∈D) (j:Nat),j<n→Zio md ops n f o j=true→j∈D
 | 0,_,h,j,hj,hr=>h j hj hr
 | f+1,o,h,j,hj,hr=>by
  rw[Zio] at hr
  rcases Bool.or_eq_true_iff.1 hr with h1 | h1
  ·exact h j hj h1
  ·obtain⟨m,hm,h2⟩:=List.any_eq_true.1 h1
   rw[Bool.and_eq_true] at h2
   obtain⟨h3,h4⟩:=h2
   have hmD:=h m (List.mem_range.1 hm) h3
   cases ho:ops[m]? with
   | none=>rw[ho] at h4;cases h4
   | some om =>
    rw[ho] at h4
    exact ZkM hdc f om (hdc m hmD om ho) j hj h4
def ZqU (md:Region.Mode) (ops:Array Oper) (n:Nat) (ls ts:List Nat):Bool :=
 Region.noSelect ops&&decide (n+ts.length=ops.size)&&(ts.all fun i=>decide (i<ops.size)) &&
 ((List.range n).all fun i=>match ops[i]? with
  | some o=>ZfR md i o&&((List.range n).all fun j=>!Zc4 ops o j||ZbZ md o j)
  | none=>false) &&
 ((List.range n).all fun i=>(List.range n).all fun j=>Nat.beq i j||Zkb (ZcK ops i) (ZcK ops j)) &&
 ((List.range ops.size).all fun t=>Nat.blt t n||match ops[t]? with
  | some o=>(List.range n).all fun j=>ls.contains j||Zio md ops n 16 o j
  | none=>false) &&
 (ls.all fun i=>match ops[i]? with
  | some oi=>(List.range ops.size).all fun j=>Nat.beq j i||(Nat.blt j n&&!ls.contains j)||match ops[j]? with
   | some oj=>ZbZ md oj i||oi.apart ops oj
   | none=>true
  | none=>false) &&
 seqT md ops ts (ZfF n ops.size)
theorem ZhP {l:List Oper} {ts:List Nat} {a:Act} (hop:ops=l.toArray) (hsel:Region.noSelect ops=true) (hsz:n+ts.length=ops.size) (hts:∀i∈ts,i<l.length)
  (hedge:∀i o,i<n→ops[i]?=some o→ZfR md i o=true∧∀ j,j<n→Zc4 ops o j=true→ZbZ md o j=true)
  (hdst:∀i j,i<n→j<n→i≠j→∀ d,ZcK ops i=some d→ZcK ops j≠some d)
  (hlate:∀t o,n≤t→ops[t]?=some o→∀ j,j<n→j∉ls→Zio md ops n 16 o j=true)
  (hfree:∀i oi,i∈ls→ops[i]?=some oi→∀ j oj,ops[j]?=some oj→j≠i→(n≤j∨j∈ls)→ZbZ md oj i=true∨oi.apart ops oj=true)
  (hseq:seqT md ops ts (ZfF n ops.size)=true)
  (hQ:∀c a d v w,Q (.panic c) (Act.put a d v) w→Q (.panic c) a w) (hG:∀w,G w w)
  (hGB:∀w w',Below W.heap.size W w→G w w'→Below W.heap.size W w') (hmono:∀i v w w',R i v w→G w w'→R i v w')
  (hst:∀vals i o,i<n→ops[i]?=some o→Zhd ls P ops W n G R a vals i o)
  (hfin:∀vals w,Below W.heap.size W w→(∀ i,i<n→R i (vals i) w)→wpList P ops Q (pick l ts) (ZaK ops vals (List.range n) a) w) :
  ∀ (f:Nat) (D:List Nat) (listed:Array Bool) (vals:Nat→Value) (w:World),D.Nodup→(∀ i∈D,i<n)→D.length+f=n→listed.size=ops.size →
  (∀ i,i<ops.size→listed.getD i false=decide (i∈D))→Below W.heap.size W w→(∀ i∈D,R i (vals i) w)→(∀ i∈D,∀ o,ops[i]?=some o→∀ j,j<n→ZbZ md o j=true→j∈D)→wpAny P md ops Q (f+ts.length) listed (ZaK ops vals D a) w
 | 0,D,listed,vals,w,hnd,hlt,hlen,hls,hl,hb,hR,hdc=>by
  have hall:∀i,i<n→i∈D:=fun i hi=>by
   by_cases e:i∈D
   ·exact e
   ·exfalso
    have:=Zed (i::D) (List.range n) (List.nodup_cons.2 ⟨e,hnd⟩) fun j hj=>by
     rcases List.mem_cons.1 hj with rfl | h
     ·exact List.mem_range.2 hi
     ·exact List.mem_range.2 (hlt j h)
    simp at this;omega
  have hp:D.Perm (List.range n):=(List.perm_ext_iff_of_nodup hnd List.nodup_range).2 fun i=>⟨fun h=>List.mem_range.2 (hlt i h),fun h=>hall i (List.mem_range.1 h)⟩
  have hle:listed=ZfF n ops.size:=ZpA hls hl hlt hall
  subst hle
  rw[Nat.zero_add,Zdm vals hdst hp hlt]
  subst hop
  exact Zcm ts _ _ _ hts hseq (hfin vals w hb fun i hi=>hR i (hall i hi))
 | f+1,D,listed,vals,w,hnd,hlt,hlen,hls,hl,hb,hR,hdc=>by
  have hex:∃i,i<n∧i∉D:=by
   apply Classical.byContradiction
   intro hno
   have:=Zed (List.range n) D List.nodup_range fun i hi=>by
    by_cases e:i∈D
    ·exact e
    ·exact absurd ⟨i,List.mem_range.1 hi,e⟩ hno
   simp at this;omega
  obtain⟨i0,hi0,hi0D,hmin⟩:=ZfJ D n hex
  have hget:∀i,i<ops.size→listed.getD i true=decide (i∈D):=fun i hi=>by
   have:=hl i hi
   simpa [hls,hi] using this
  have hr0:i0∈Region.ready md ops listed:=by
   have hs0:i0<ops.size:=by omega
   obtain⟨o,ho⟩:∃o,ops[i0]?=some o:=⟨_,Array.getElem?_eq_getElem hs0⟩
   refine mem_ready.2 ⟨by rw[hget i0 hs0];exact decide_eq_false hi0D,o,ho,fun e he hbe=>?_⟩
   have h1:=List.all_eq_true.1 (hedge i0 o hi0 ho).1 e (by simpa using he)
   have h2:e.on<i0:=by simpa [hbe] using h1
   rw[hl _ (by omega)];exact decide_eq_true (hmin _ h2)
  rw[show f+1+ts.length=(f+ts.length)+1 by omega]
  have cut:∀i o,ops[i]?=some o→(∀ j∈Zbi ops n o,j∈D)→execOp (ZaK ops vals D a).eval o=execOp (ZaK ops vals (Zbi ops n o) a).eval o∧Region.wanted o (yielded ops (ZaK ops vals D a).tmps)=Region.wanted o (yielded ops (ZaK ops vals (Zbi ops n o) a).tmps):=fun i o ho hdep=>by
   have hsl:=fun cs b=>Region.noSelect_spec hsel i o cs b ho
   have hcut:∀b,ZaK ops vals D b=ZaK ops vals (D.filter fun j=>!Zc4 ops o j) (ZaK ops vals (Zbi ops n o) b):=fun b=>by
    rw[←ZbT]
    refine Zdm vals hdst ?_ hlt b
    refine(List.filter_append_perm (Zc4 ops o) D).symm.trans (List.Perm.append_right _ ?_)
    refine(List.perm_ext_iff_of_nodup (hnd.filter _) (List.nodup_range.filter _)).2 fun j=>?_
    constructor
    ·intro h
     obtain⟨h1,h2⟩:=List.mem_filter.1 h
     exact List.mem_filter.2 ⟨List.mem_range.2 (hlt j h1),h2⟩
    ·intro h
     exact List.mem_filter.2 ⟨hdep j h,(List.mem_filter.1 h).2⟩
   obtain⟨e1,e2⟩:=Zcy (ops:=ops) vals (o:=o) hsl (D.filter fun j=>!Zc4 ops o j) (ZaK ops vals (Zbi ops n o) a) fun j hj=>by
    have:=(List.mem_filter.1 hj).2
    simpa using this
   rw[←hcut] at e1 e2
   exact⟨e1,e2⟩
  have next:∀i o,i<n→i∉D→ops[i]?=some o→(∀ j,j<n→ZbZ md o j=true→j∈D)→∀ v w',G w w'→R i v w'→wpAny P md ops Q (f+ts.length) (listed.setIfInBounds i true) ((ZaK ops vals D a).put o.dst v) w':=fun i o hin hiD ho hci v w' hb' hRv=>by
   have hsi:i<ops.size:=(Array.getElem?_eq_some_iff.1 ho).1
   have he:(ZaK ops vals D a).put o.dst v=ZaK ops (fun j=>if j=i then v else vals j) (D++[i]) a:=by
    rw[ZbT,Zdv (v:=fun j=>if j=i then v else vals j) (u:=vals) D a (fun j hj=>if_neg (fun (e:j=i)=>hiD (e▸hj)))]
    simp[ZaK,ZcK,ho]
   rw[he]
   refine ZhP hop hsel hsz hts hedge hdst hlate hfree hseq hQ hG hGB hmono hst hfin f (D++[i]) _ _ w' ?_ ?_ (by simp;omega) (by simp[hls]) ?_ (hGB _ _ hb hb') ?_ ?_
   ·exact List.nodup_append.2 ⟨hnd,by simp,fun x hx y hy=>by simp at hy;subst hy;intro e;subst e;exact hiD hx⟩
   ·intro j hj
    rcases List.mem_append.1 hj with h | h
    ·exact hlt j h
    ·simp at h;omega
   ·intro j hj
    by_cases e:j=i
    ·subst e;simp[hls,hj]
    ·have h1:=hl j hj
     have h2:(listed.setIfInBounds i true).getD j false=listed.getD j false:=by
      simp only[Array.getD_eq_getD_getElem?]
      rw[Array.getElem?_setIfInBounds_ne (fun h=>e h.symm)]
     rw[h2,h1]
     simp[e]
   ·intro j hj
    rcases List.mem_append.1 hj with h | h
    ·have:j≠i:=fun e=>hiD (e▸h)
     simp only[this,if_false]
     exact hmono _ _ _ _ (hR j h) hb'
    ·simp at h;subst h;simpa using hRv
   ·intro j hj oj hoj m hm hbm
    rcases List.mem_append.1 hj with h | h
    ·exact List.mem_append.2 (.inl (hdc j h oj hoj m hm hbm))
    ·simp at h;subst h
     rw[ho] at hoj
     obtain rfl:=Option.some.inj hoj
     exact List.mem_append.2 (.inl (hci m hm hbm))
  by_cases hall:∀j,j<n→j∉ls→j∈D
  ·have hi0l:i0∈ls:=Classical.byContradiction fun h=>hi0D (hall i0 hi0 h)
   obtain⟨o,ho⟩:∃o,ops[i0]?=some o:=⟨_,Array.getElem?_eq_getElem (by omega)⟩
   have hdep:∀j∈Zbi ops n o,j∈D:=fun j hj=>by
    obtain⟨h1,h2⟩:=List.mem_filter.1 hj
    obtain⟨e,hem,heb⟩:=List.any_eq_true.1 ((hedge i0 o hi0 ho).2 j (List.mem_range.1 h1) h2)
    rw[Bool.and_eq_true] at heb
    have h3:=List.all_eq_true.1 (hedge i0 o hi0 ho).1 e (by simpa using hem)
    have h4:e.on<i0:=by simpa [heb.1] using h3
    rw[Nat.eq_of_beq_eq_true heb.2] at h4
    exact hmin _ h4
   have hci0:∀j,j<n→ZbZ md o j=true→j∈D:=fun j _ hbj=>by
    obtain⟨e,hem,heb⟩:=List.any_eq_true.1 hbj
    rw[Bool.and_eq_true] at heb
    have h3:=List.all_eq_true.1 (hedge i0 o hi0 ho).1 e (by simpa using hem)
    have h4:e.on<i0:=by simpa [heb.1] using h3
    rw[Nat.eq_of_beq_eq_true heb.2] at h4
    exact hmin _ h4
   obtain⟨e1,e2⟩:=cut i0 o ho hdep
   have hs:=hst vals i0 o hi0 ho
   unfold Zhd at hs
   rw[if_pos hi0l] at hs
   obtain⟨v,hRv,hw,hy⟩:=hs w hb fun j hj=>hR j (hdep j hj)
   refine wpAny_first (oi:=o) (v:=v) ho (Region.noSelect_spec hsel) (fun c a w=>hQ c a _ _ w) (f+ts.length) listed _ w (fun j oj hj hne hun hno=>?_) hr0 (.inl ⟨by rw[e2];exact hw,fun w'=>by rw[e1];exact hy w'⟩) (next i0 o hi0 hi0D ho hci0 v w (hG w) hRv)
   have hsj:j<ops.size:=(Array.getElem?_eq_some_iff.1 hj).1
   have hjD:j∉D:=by rw[hget j hsj] at hun;exact of_decide_eq_false hun
   have hjl:n≤j∨j∈ls:=by
    by_cases h1:n≤j
    ·exact .inl h1
    ·exact .inr (Classical.byContradiction fun h=>hjD (hall j (by omega) h))
   rcases hfree i0 o hi0l ho j oj hj hne hjl with h | h
   ·obtain⟨e,hem,heb⟩:=List.any_eq_true.1 h
    rw[Bool.and_eq_true] at heb
    exact absurd (Nat.eq_of_beq_eq_true heb.2) (hno e (by simpa using hem) heb.1)
   ·exact h
  refine⟨fun h=>(by rw[h] at hr0;cases hr0),fun i hi=>?_⟩
  obtain⟨hun,o,ho,hdeps⟩:=mem_ready.1 hi
  have hsi:i<ops.size:=(Array.getElem?_eq_some_iff.1 ho).1
  have hiD:i∉D:=by rw[hget i hsi] at hun;exact of_decide_eq_false hun
  have hbd:∀j,j<n→ZbZ md o j=true→j∈D:=fun j hj hbj=>by
   obtain⟨e,hem,heb⟩:=List.any_eq_true.1 hbj
   rw[Bool.and_eq_true] at heb
   have h1:=hdeps e (by simpa using hem) heb.1
   rw[Nat.eq_of_beq_eq_true heb.2,hl j (by omega)] at h1
   exact of_decide_eq_true h1
  have hin:i<n:=by
   apply Classical.byContradiction
   intro hni
   exact hall fun j hj hjl=>ZkM hdc 16 o hbd j hj (hlate i o (by omega) ho j hj hjl)
  have hdep:∀j∈Zbi ops n o,j∈D:=fun j hj=>by
   obtain⟨h1,h2⟩:=List.mem_filter.1 hj
   have hjn:=List.mem_range.1 h1
   exact hbd j hjn ((hedge i o hin ho).2 j hjn h2)
  obtain⟨e1,e2⟩:=cut i o ho hdep
  have hs:=hst vals i o hin ho
  unfold Zhd at hs
  by_cases hil:i∈ls
  ·rw[if_pos hil] at hs
   obtain⟨v,hRv,hw,hy⟩:=hs w hb fun j hj=>hR j (hdep j hj)
   rw[←e2] at hw
   have hy':=hy w
   rw[←e1] at hy'
   unfold Go.wpOp
   simp only[ho,hw,if_true]
   refine .inl ?_
   unfold Oper.wp
   rw[hy']
   exact next i o hin hiD ho hbd v w (hG w) hRv
  rw[if_neg hil] at hs
  rcases hs with hs | hs
  case inr =>
   obtain⟨hw,hRu⟩:=hs w hb fun j hj=>hR j (hdep j hj)
   rw[←e2] at hw
   unfold Go.wpOp
   simp only[ho,hw,Bool.false_eq_true,if_false]
   exact next i o hin hiD ho hbd undef w (hG w) hRu
  obtain⟨hw,hc⟩:=hs w hb fun j hj=>hR j (hdep j hj)
  rw[←e2] at hw
  rw[←e1] at hc
  unfold Go.wpOp
  simp only[ho,hw,if_true]
  refine .inl ?_
  unfold Oper.wp
  revert hc
  generalize (execOp (ZaK ops vals D a).eval o).run P w=r
  intro hc
  cases r with
  | halt x w=>exact False.elim hc
  | ok nx w2 =>
   cases nx<;>try exact False.elim hc
   case value u=>exact next i o hin hiD ho hbd _ _ hc.1 hc.2
   case skip=>exact next i o hin hiD ho hbd _ _ hc.1 hc.2
   case enter fn args =>
    refine Calls.mono (P:=P) hc ?_
    rintro e w'' ⟨u,rfl,h1,h2⟩
    exact next i o hin hiD ho hbd _ _ h1 h2
def Zjz (ls:List Nat) (P:Program) (ops:Array Oper) (W:World) (n:Nat) (G:World→World→Prop) (R:Nat→Value→World→Prop) (a:Act) (vals:Nat→Value) (Fin:Prop):Nat→List Oper→Prop
 | _,[]=>Fin
 | k,o::r=>Zhd ls P ops W n G R a vals k o∧Zjz ls P ops W n G R a vals Fin (k+1) r
theorem Zd1 {a:Act} {vals:Nat→Value} {Fin:Prop}:∀(k:Nat) (r:List Oper),Zjz ls P ops W n G R a vals Fin k r→Fin∧∀ j o,r[j]?=some o→Zhd ls P ops W n G R a vals (k+j) o
 | _,[],h=>⟨h,fun j o ho=>by simp at ho⟩
 | k,o::r,h=>by
  obtain⟨h1,h2⟩:=Zd1 (k+1) r h.2
  refine⟨h1,fun j x hx=>?_⟩
  cases j with
  | zero=>simp at hx;subst hx;exact h.1
  | succ j=>rw[show k+(j+1)=k+1+j by omega];exact h2 j x (by simpa using hx)
theorem Zci {id:Nat} {a:Act} {w:World} {l:List Oper} (W:World) (n:Nat) (G:World→World→Prop) (R:Nat→Value→World→Prop) (ls ts ns:List Nat) (qa:List (Option Tmp)) (hm:P.follows .mixedOrders=true) (hB:ZqU .any l.toArray n ls ts=true)
  (hns:List.range n=ns) (hqa:ns.map (ZcK l.toArray)=qa) (hQ:∀c a d v w,Q (.panic c) (Act.put a d v) w→Q (.panic c) a w) (hG:∀w,G w w)
  (hW:Below W.heap.size W { w with drawn:=w.drawn+1 }) (hGB:∀w w',Below W.heap.size W w→G w w'→Below W.heap.size W w') (hmono:∀i v w w',R i v w→G w w'→R i v w')
  (h:∀vals,Zjz ls P l.toArray W n G R a vals (∀ w,Below W.heap.size W w→(∀ i∈ns,R i (vals i) w)→wpList P l.toArray Q (pick l ts) (putZ qa (ns.map vals) a) w) 0 (l.take n)) :
  (Code.region id l.toArray true).wp P Q a w:=by
 subst hns hqa
 simp only[ZqU,Bool.and_eq_true,decide_eq_true_eq] at hB
 obtain⟨⟨⟨⟨⟨⟨⟨hsel,hsz⟩,hts⟩,h1⟩,h2⟩,h3⟩,h5⟩,hseq⟩:=hB
 have hts':∀i∈ts,i<l.length:=fun i hi=>by simpa using List.all_eq_true.1 hts i hi
 refine wp_region_any hm ?_
 have H:=ZhP (md:=.any) (P:=P) (W:=W) (Q:=Q) (n:=n) (R:=R) (G:=G) (ls:=ls) (l:=l) (ts:=ts) (a:=a) rfl hsel hsz hts'
  (fun i o hi ho=>by
   have:=List.all_eq_true.1 h1 i (List.mem_range.2 hi)
   rw[ho] at this
   simp only[Bool.and_eq_true] at this
   refine⟨this.1,fun j hj hlj=>?_⟩
   have h4:=List.all_eq_true.1 this.2 j (List.mem_range.2 hj)
   simpa [hlj] using h4)
  (fun i j hi hj hne d hd=>by
   have:=List.all_eq_true.1 (List.all_eq_true.1 h2 i (List.mem_range.2 hi)) j (List.mem_range.2 hj)
   rcases Bool.or_eq_true_iff.1 this with h | h
   ·exact absurd (Nat.eq_of_beq_eq_true h) hne
   ·rw[hd] at h
    simpa [Zkb] using h)
  (fun t o ht ho j hj hjl=>by
   have:=List.all_eq_true.1 h3 t (List.mem_range.2 (Array.getElem?_eq_some_iff.1 ho).1)
   rw[ho] at this
   rcases Bool.or_eq_true_iff.1 this with h | h
   ·exact absurd (by rw[Nat.blt_eq] at h;exact h:t<n) (by omega)
   ·rcases Bool.or_eq_true_iff.1 (List.all_eq_true.1 h j (List.mem_range.2 hj)) with h | h
    ·exact absurd (List.contains_iff_mem.1 h) hjl
    ·exact h)
  (fun i oi hi hoi j oj hoj hne hjl=>by
   have:=List.all_eq_true.1 h5 i hi
   rw[hoi] at this
   have:=List.all_eq_true.1 this j (List.mem_range.2 (Array.getElem?_eq_some_iff.1 hoj).1)
   rw[hoj] at this
   rcases Bool.or_eq_true_iff.1 this with h | h
   ·rcases Bool.or_eq_true_iff.1 h with h | h
    ·exact absurd (Nat.eq_of_beq_eq_true h) hne
    ·rw[Bool.and_eq_true] at h
     rcases hjl with h' | h'
     ·exact absurd (by have:=h.1;rw[Nat.blt_eq] at this;exact this:j<n) (by omega)
     ·have h6:=h.2
      rw[List.contains_iff_mem.2 h'] at h6
      cases h6
   ·exact Bool.or_eq_true_iff.1 h)
  hseq hQ hG hGB hmono
  (fun vals i o hi ho=>by
   have:=(Zd1 0 _ (h vals)).2 i o (by rw[List.getElem?_take,if_pos hi];simpa using ho)
   rwa [Nat.zero_add] at this)
  (fun vals w hb hR=>by
   rw[ZeE]
   exact(Zd1 0 _ (h vals)).1 w hb fun i hi=>hR i (List.mem_range.1 hi))
  n [] (Array.replicate l.toArray.size false) (fun _=>undef) { w with drawn:=w.drawn+1 } List.nodup_nil (fun i hi=>by cases hi) (by simp) (by simp) (fun i hi=>by rw[getD_replicate_false];simp) hW (fun i hi=>by cases hi) (fun i hi=>by cases hi)
 rw[hsz] at H
 exact H
theorem ZfV {a:Act} {vals:Nat→Value} {i:Nat} {o:Oper} (ds:List Nat) (qs:List (Option Tmp)) (hds:Zbi ops n o=ds) (hqs:ds.map (ZcK ops)=qs)
  (h:∀w,Below W.heap.size W w→(∀ j∈ds,R j (vals j) w)→∃ v,R i v w∧Region.wanted o (yielded ops (putZ qs (ds.map vals) a).tmps)=true∧∀ w',(execOp (putZ qs (ds.map vals) a).eval o).run P w'=.ok (.value v) w'):Zhm P ops W n R a vals i o:=by
 subst hds hqs
 intro w hb hd
 rw[ZeE]
 exact h w hb hd
end
end Go.Hold
namespace Go.Proofs.YtddmjddlbhdcpaaGreatDoor
open Go.RowKit Go.Hold Go.Sh
def Zf8 (r:Value→World→Prop):Prop:=∀ v w w',r v w→Below w.heap.size w w'→r v w'
def ZgU:List (Value→World→Prop)→Prop
 | []=>True
 | r::L=>Zf8 r∧ZgU L
def Zhk (L:List (Value→World→Prop)) (i:Nat) (v:Value) (w:World):Prop:=match L[i]? with | some r=>r v w | none=>True
theorem ZiM {L:List (Value→World→Prop)} (h:ZgU L):∀(i:Nat) (r:Value→World→Prop),L[i]?=some r→Zf8 r:=by
 induction L with
 | nil=>intro i r hi;simp at hi
 | cons s L ih =>
  intro i r hi
  cases i with
  | zero=>simp at hi;subst hi;exact h.1
  | succ i=>exact ih h.2 i r (by simpa using hi)
theorem Zcw {L:List (Value→World→Prop)} (h:ZgU L):∀i v w w',Zhk L i v w→Below w.heap.size w w'→Zhk L i v w':=by
 intro i v w w' hr hb
 unfold Zhk at hr ⊢
 cases e:L[i]? with
 | none=>trivial
 | some r=>rw[e] at hr;exact ZiM h i r e v w w' hr hb
def fixV (x:Value):Value→World→Prop:=fun v _=>v=x
theorem Zak (x:Value):Zf8 (fixV x):=fun _ _ _ h _=>h
def ownV (B:Nat) (l:List Nat):Value→World→Prop:=fun v w=>OwnB w B v l
theorem Zdw (B:Nat) (l:List Nat):Zf8 (ownV B l):=fun _ _ _ h hb=>OwnB.below h hb
def slV (l:List Nat):Value→World→Prop:=fun v w=>SlV w v l
theorem Zox (l:List Nat):Zf8 (slV l):=fun _ _ _ h hb=>SlV.grow h hb
open Go.RowKit Go.Hold Go.Sh Go.Ch
theorem ZuZ (g b a n cap:Nat) (s:List Int) (l:List Nat) (w:World) (hn:n=l.length) (hs:s.length=16) (hz:∀j,a≤j→s.getD j 0=0) (ha:a+(n+3)/4≤16) (hlb:∀i,l.getD i 0<256) (h:RowAt w g (wosA s)) (hB:BytesAt w b 0 l) (hbg:b≠g) :
  Calls Tryz.prog 175 #[.pointer (some ⟨g,0,none⟩),.int .i64 (a:Int),.slice (some ⟨b,0,none⟩) n cap] w fun e w'=>e=.returned (.tuple #[])∧Sets w g (wosA (wput s a l n)) w':=by
 have H:=Zq h
 have HB:=Zq hB
 have Hn:=Zq hn
 have S0:=Zq (show Sets w g (wosA (wput s a l 0)) w by rw[ZlQ s a l hs hz];exact Sets.refl h)
 clear h hB hn hs hz
 go_enter Tryz.func175,Tryz.ntmps175
 go_wp2_with fail
 go_loopw [10] (fun i wr=>∃ k:Nat,k≤n∧i=.int .i64 k∧Sets w g (wosA (wput s a l k)) wr) (fun i _=>n-(intOf i).toNat)
 case atStart=>exact⟨0,by omega,rfl,S0.out⟩
 case round =>
  obtain⟨k,hk,rfl,hset⟩:=hrel
  by_cases hkn:k<n
  ·have hk0:(0:Int)≤(k:Int):=by omega
   have hk1:(k:Int)<(n:Int):=by omega
   have hkl:k<l.length:=by rw[←Hn.out];exact hkn
   have hrow:=hset.row H.out
   have hcb:wr.cell? ⟨b,k,none⟩=some (.int .u8 ((l.getD k 0:Nat):Int)):=by
    have:=(hset.bytes HB.out hbg).2 k hkl
    rwa [Nat.zero_add] at this
   have hq:(k:Int).tdiv 4=((k/4:Nat):Int):=rfl
   have hm:(k:Int).tmod 4=((k%4:Nat):Int):=rfl
   have hc:=hrow.cellAt (a+k/4) (ZcG _ _ (ZdF s a l k (a+k/4) (by omega)))
   rw[if_neg (by omega),show a+k/4-a=k/4 by omega,show k-4*(k/4)=k%4 by omega] at hc
   have hf:=hrow.frozenAt (a+k/4)
   have hst:=Zmm l hlb k
   have Hset:=Zq (Zpd s a l k (by omega))
   have hlt:=hlb k
   generalize l.getD k 0=y at hcb hst hlt
   have hyw:IntKind.u32.wrap (y:Int)=(y:Int):=IntWalk.u32_in _ (by omega)
   have hm3:k%4<4:=by omega
   generalize pkl l (k/4) (k%4)=p at hc hst
   generalize ((pkl l (k/4) (k%4+1):Nat):Int)=p' at hst Hset
   have hq4:a+k/4<16:=by omega
   generalize k/4=q at *
   generalize k%4=r at *
   obtain⟨x,ex⟩:∃x,x=a+q:=⟨_,rfl⟩
   rw[←ex] at hc hf hq4 Hset
   have hqw:IntKind.i64.wrap (q:Int)=(q:Int):=IntWalk.i64_in _ (by omega)
   have hx:IntKind.i64.wrap ((a:Int)+(q:Int))=(x:Int):=by rw[IntWalk.i64_in _ (by omega)];omega
   have hx0:(0:Int)≤(x:Int):=by omega
   have hx1:(x:Int)<16:=by omega
   obtain⟨m,em⟩:∃m,m=r*8:=⟨_,rfl⟩
   rw[←em] at hst
   have hmw:IntKind.i64.wrap ((r:Int)*8)=(m:Int):=by rw[IntWalk.i64_in _ (by omega)];omega
   have hm0:(0:Int)≤(m:Int):=by omega
   have hm1:(m:Int)≤32:=by omega
   have Hset2:=Zq hset
   have hgl:=hrow.2.2
   clear ex em hset hrow hkl
   go_wp2_with fail
   refine Zal wr [0,1,2,3,4,5,6,7,8,9,10,11,12,13,14,15,16] [false,false,false,false,false,false,false,false,false,false,false,false,false,false,false,false,false] [] [] 17 (by kernel_rfl) rfl (by kernel_rfl) (by intro c a d v w h;cases d<;>exact h) ((Below.refl _ _).drew) ?_
   simp only[pick,List.getElem?_cons_succ,List.getElem?_cons_zero,List.drop_succ_cons,List.drop_zero]
   iterate 17 (refine Zac (Zaa rfl) (by intro K o d hK;go_simp;exact hK _ (Below.refl _ _)) ?_)
   refine Zan ?_
   intro w2 hb2 _
   have S2:=Zq (Hset2.out.grow hb2)
   have hc2:w2.cell? ⟨g,x,none⟩=some (.int .u32 (p:Int)):=by rw[hb2.cell hgl];exact hc
   have hf2:=(S2.out.row H.out).frozenAt x
   clear hb2 hc hf Hset2
   go_wp2_with fail
   go_roundw
   case rel =>
    refine⟨k+1,by omega,by go_num,?_⟩
    rw[←Hset.out,←Zcq];exact S2.out.cell H.out
   case measure=>simp[intOf];omega
  ·obtain rfl:k=n:=by omega
   have HS:=Zq hset
   clear hset
   go_wp2_with fail
   go_end0
   exact⟨rfl,HS.out⟩
end Go.Proofs.YtddmjddlbhdcpaaGreatDoor
