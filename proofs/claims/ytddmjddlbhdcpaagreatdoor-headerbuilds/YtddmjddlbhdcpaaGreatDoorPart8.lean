/-
  Part 8 of the texts behind the theorem.
-/
import Derived.Test.YtddmjddlbhdcpaaGreatDoorPart6
import Derived.Test.YtddmjddlbhdcpaaGreatDoorPart7
import Derived.Laws.BitsAllLaws
set_option maxHeartbeats 8000000
set_option maxRecDepth 100000
namespace Go.Ch
open Go Go.Sh
def rl (x:Int) (n:Nat):Int:=rotr x (32-n)
structure Q4 where
 (a b c d:Int)
def qr (a b c d:Int):Q4 :=
 let a1:=ZaP a b
 let d1:=rl (x32 d a1) 16
 let c1:=ZaP c d1
 let b1:=rl (x32 b c1) 12
 let a2:=ZaP a1 b1
 let d2:=rl (x32 d1 a2) 8
 let c2:=ZaP c1 d2
 let b2:=rl (x32 b1 c2) 7
 ⟨a2,b2,c2,d2⟩
def ZeW (s:List Int) (i j k l:Nat):List Int :=
 let q:=qr (s.getD i 0) (s.getD j 0) (s.getD k 0) (s.getD l 0)
 (((s.set i q.a).set j q.b).set k q.c).set l q.d
theorem ZeP (s:List Int) (i j k l:Nat):(ZeW s i j k l).length=s.length:=by simp[ZeW]
def cols (s:List Int):Nat→List Int
 | 0=>s
 | n+1=>ZeW (cols s n) n (4+n) (8+n) (12+n)
def dias (s:List Int):Nat→List Int
 | 0=>s
 | n+1=>ZeW (dias s n) n (4+(n+1)%4) (8+(n+2)%4) (12+(n+3)%4)
theorem ZcE (s:List Int) (n:Nat):(cols s n).length=s.length:=by
 induction n with
 | zero=>rfl
 | succ n ih=>rw[cols,ZeP,ih]
theorem Zd6 (s:List Int) (n:Nat):(dias s n).length=s.length:=by
 induction n with
 | zero=>rfl
 | succ n ih=>rw[dias,ZeP,ih]
def drnd (s:List Int):List Int:=dias (cols s 4) 4
theorem ZjO (s:List Int):(drnd s).length=s.length:=by unfold drnd;rw[Zd6,ZcE]
def ZdO (s:List Int):Nat→List Int
 | 0=>s
 | n+1=>drnd (ZdO s n)
theorem ZcS (s:List Int) (n:Nat):(ZdO s n).length=s.length:=by
 induction n with
 | zero=>rfl
 | succ n ih=>rw[ZdO,ZjO,ih]
def pkl (b:List Nat) (j:Nat):Nat→Nat
 | 0=>0
 | m+1=>if m<4 then pkl b j m+b.getD (4*j+m) 0*256^m else pkl b j m
theorem Zha (b:List Nat) (j m:Nat) (h:4≤m):pkl b j m=pkl b j 4:=by
 induction m with
 | zero=>omega
 | succ m ih =>
  by_cases h4:m<4
  ·obtain rfl:m=3:=by omega
   rfl
  ·rw[pkl,if_neg h4];exact ih (by omega)
theorem ZuT (b:List Nat) (hb:∀i,b.getD i 0<256) (j m:Nat):pkl b j m<256^m:=by
 induction m with
 | zero=>simp[pkl]
 | succ m ih =>
  rw[pkl,Nat.pow_succ]
  have h1:b.getD (4*j+m) 0*256^m≤255*256^m:=Nat.mul_le_mul_right _ (by have:=hb (4*j+m);omega)
  split<;>omega
def wd (b:List Nat) (j:Nat):Int:=(pkl b j 4:Nat)
theorem Zu3 (b:List Nat) (j:Nat):pkl b j 4=b.getD (4*j) 0+b.getD (4*j+1) 0*256+b.getD (4*j+2) 0*65536+b.getD (4*j+3) 0*16777216:=by
 simp[pkl]
def wput (s:List Int) (a:Nat) (b:List Nat) (i:Nat):List Int:=(List.range 16).map fun j=>if j<a then s.getD j 0 else ((pkl b (j-a) (i-4*(j-a)):Nat):Int)
theorem Zbu (s:List Int) (a:Nat) (b:List Nat) (i:Nat):(wput s a b i).length=16:=by simp[wput]
theorem ZdF (s:List Int) (a:Nat) (b:List Nat) (i j:Nat) (h:j<16):(wput s a b i)[j]?=some (if j<a then s.getD j 0 else ((pkl b (j-a) (i-4*(j-a)):Nat):Int)):=by simp[wput,h]
theorem ZlQ (s:List Int) (a:Nat) (b:List Nat) (hs:s.length=16) (hz:∀j,a≤j→s.getD j 0=0):wput s a b 0=s:=by
 apply List.ext_getElem?
 intro j
 by_cases h:j<16
 ·rw[ZdF _ _ _ _ _ h,List.getElem?_eq_getElem (by omega)]
  congr 1
  by_cases ha:j<a
  ·rw[if_pos ha];simp[List.getD,hs,h]
  ·rw[if_neg ha,Nat.zero_sub]
   have:=hz j (by omega)
   simp only[List.getD,List.getElem?_eq_getElem (show j<s.length by omega),Option.getD_some] at this
   rw[this];rfl
 ·rw[List.getElem?_eq_none (by rw[Zbu];omega),List.getElem?_eq_none (by omega)]
theorem Zpd (s:List Int) (a:Nat) (b:List Nat) (i:Nat) (h:a+i/4<16):(wput s a b i).set (a+i/4) ((pkl b (i/4) (i%4+1):Nat):Int)=wput s a b (i+1):=by
 apply List.ext_getElem?
 intro j
 rw[List.getElem?_set]
 by_cases hj:j<16
 ·rw[ZdF _ _ _ _ _ hj,ZdF _ _ _ _ _ hj]
  by_cases e:a+i/4=j
  ·subst e
   rw[if_pos rfl,if_pos (by rw[Zbu];omega),if_neg (by omega),show a+i/4-a=i/4 by omega,show i+1-4*(i/4)=i%4+1 by omega]
  ·rw[if_neg e]
   by_cases ha:j<a
   ·rw[if_pos ha,if_pos ha]
   ·rw[if_neg ha,if_neg ha]
    congr 2
    by_cases h1:j-a<i/4
    ·rw[Zha _ _ _ (by omega),Zha _ _ (i+1-4*(j-a)) (by omega)]
    ·rw[show i+1-4*(j-a)=0 by omega,show i-4*(j-a)=0 by omega]
 ·rw[if_neg (by omega),List.getElem?_eq_none (by rw[Zbu];omega),List.getElem?_eq_none (by rw[Zbu];omega)]
theorem Zhn (x y m:Nat) (hx:x<256^m) (hy:y<256) (hm:m<4):o32 (x:Int) ((y:Int)*2^(m*8)%4294967296)=((x+y*256^m:Nat):Int):=by
 have e:256^m=2^(m*8):=by rw[show (256:Nat)=2^8 by decide,←Nat.pow_mul,Nat.mul_comm]
 have h4:256^m≤16777216:=Nat.le_trans (Nat.pow_le_pow_right (by decide) (show m≤3 by omega)) (by decide)
 have h1:y*256^m≤255*256^m:=Nat.mul_le_mul_right _ (by omega)
 have e2:(y:Int)*2^(m*8)%4294967296=((y*256^m:Nat):Int):=by
  rw[show ((2:Int)^(m*8))=((256^m:Nat):Int) by rw[e];simp]
  omega
 unfold o32
 rw[e2,u32_or_nat _ _ (by omega) (by omega)]
 congr 1
 have:=Nat.shiftLeft_add_eq_or_of_lt (b:=x) (i:=m*8) (by rw[←e];exact hx) y
 rw[Nat.shiftLeft_eq,←e] at this
 rw[Nat.or_comm,←this,Nat.add_comm]
theorem Zmm (b:List Nat) (hb:∀i,b.getD i 0<256) (i:Nat) :
  o32 ((pkl b (i/4) (i%4):Nat):Int) (((b.getD i 0:Nat):Int)*2^(i%4*8)%4294967296)=((pkl b (i/4) (i%4+1):Nat):Int):=by
 rw[Zhn _ _ _ (ZuT b hb _ _) (hb i) (by omega),pkl,if_pos (by omega),show 4*(i/4)+i%4=i by omega]
def cst:List Int:=[1634760805,857760878,2036477234,1797285236]
def fst (k n:List Nat) (c:Int):List Int:=cst++(List.range 8).map (wd k)++[c]++(List.range 3).map (wd n)
theorem ZdJ (k n:List Nat) (c:Int):(fst k n c).length=16:=by simp[fst,cst]
theorem ZrS (k n:List Nat) (c:Int) (j:Nat) (h:j<16):(fst k n c)[j]?=some (if j<4 then cst.getD j 0 else if j<12 then wd k (j-4) else if j=12 then c else wd n (j-13)):=by
 have hc:cst.length=4:=rfl
 unfold fst
 by_cases h1:j<4
 ·rw[if_pos h1,List.append_assoc,List.append_assoc,List.getElem?_append_left (by omega),List.getElem?_eq_getElem (by omega)]
  simp[List.getD,hc,h1]
 ·rw[if_neg h1]
  by_cases h2:j<12
  ·rw[if_pos h2,List.append_assoc,List.getElem?_append_left (by simp;omega),List.getElem?_append_right (by omega),hc,List.getElem?_map,List.getElem?_range (by omega)]
   rfl
  ·rw[if_neg h2]
   by_cases h3:j=12
   ·subst h3
    rw[if_pos rfl,List.getElem?_append_left (by simp;omega),List.getElem?_append_right (by simp;omega)]
    simp[hc]
   ·have e:(cst++(List.range 8).map (wd k)++[c]).length=13:=by simp[hc]
    rw[if_neg h3,List.getElem?_append_right (by omega),e,List.getElem?_map,List.getElem?_range (by omega)]
    rfl
def cst0:List Int:=cst++List.replicate 12 0
theorem ZfH:cst0.length=16:=rfl
theorem ZnX (j:Nat) (h:4≤j):cst0.getD j 0=0:=by
 unfold cst0 cst
 rw[List.getD,List.getElem?_append_right (by simpa using h),List.getElem?_replicate]
 split<;>rfl
theorem ZoG (j:Nat) (h:j<4):cst0.getD j 0=cst.getD j 0:=by
 have hc:cst.length=4:=rfl
 unfold cst0
 rw[List.getD,List.getElem?_append_left (by omega)];rfl
def mid (k:List Nat) (c:Int):List Int:=(wput cst0 4 k 32).set 12 c
theorem Zgm (k:List Nat) (c:Int):(mid k c).length=16:=by unfold mid;rw[List.length_set,Zbu]
theorem Zm0 (k:List Nat) (c:Int) (j:Nat) (h:j<16):(mid k c).getD j 0=if j<4 then cst.getD j 0 else if j<12 then wd k (j-4) else if j=12 then c else 0:=by
 unfold mid List.getD
 rw[List.getElem?_set]
 by_cases e:12=j
 ·subst e;rw[if_pos rfl,if_pos (by rw[Zbu];decide)];rfl
 ·rw[if_neg e,ZdF _ _ _ _ _ h,Option.getD_some]
  by_cases h1:j<4
  ·rw[if_pos h1,if_pos h1];exact ZoG j h1
  ·rw[if_neg h1,if_neg h1]
   by_cases h2:j<12
   ·rw[if_pos h2,Zha _ _ _ (by omega)];unfold wd;rfl
   ·rw[if_neg h2,if_neg (by omega),show 32-4*(j-4)=0 by omega];rfl
theorem ZoS (k:List Nat) (c:Int) (j:Nat) (h:13≤j):(mid k c).getD j 0=0:=by
 by_cases hj:j<16
 ·rw[Zm0 _ _ _ hj,if_neg (by omega),if_neg (by omega),if_neg (by omega)]
 ·rw[List.getD,List.getElem?_eq_none (by rw[Zgm];omega)];rfl
theorem ZpF (k n:List Nat) (c:Int):wput (mid k c) 13 n 12=fst k n c:=by
 apply List.ext_getElem?
 intro j
 by_cases h:j<16
 ·rw[ZdF _ _ _ _ _ h,ZrS _ _ _ _ h]
  congr 1
  by_cases h1:j<13
  ·rw[if_pos h1,Zm0 _ _ _ h]
   by_cases h2:j<12
   ·simp only[if_pos h2]
   ·rw[if_neg (by omega),if_neg h2,if_pos (by omega),if_neg (by omega),if_neg h2,if_pos (by omega)]
  ·rw[if_neg h1,if_neg (by omega),if_neg (by omega),if_neg (by omega),Zha _ _ _ (by omega)];unfold wd;rfl
 ·rw[List.getElem?_eq_none (by rw[Zbu];omega),List.getElem?_eq_none (by rw[ZdJ];omega)]
def Zdy (s f:List Int):List Int:=(List.range 16).map fun i=>ZaP (s.getD i 0) (f.getD i 0)
def sumW (s f:List Int) (k:Nat):List Int:=(List.range 16).map fun i=>if i<k then ZaP (s.getD i 0) (f.getD i 0) else s.getD i 0
theorem Zdl (s f:List Int) (k:Nat):(sumW s f k).length=16:=by simp[sumW]
theorem Ze1 (s f:List Int) (k i:Nat) (h:i<16):(sumW s f k)[i]?=some (if i<k then ZaP (s.getD i 0) (f.getD i 0) else s.getD i 0):=by simp[sumW,h]
theorem ZlO (s f:List Int) (hs:s.length=16):sumW s f 0=s:=by
 apply List.ext_getElem?
 intro i
 by_cases h:i<16
 ·rw[Ze1 _ _ _ _ h,if_neg (by omega),List.getElem?_eq_getElem (by omega)];simp[List.getD,hs,h]
 ·rw[List.getElem?_eq_none (by rw[Zdl];omega),List.getElem?_eq_none (by omega)]
theorem ZpH (s f:List Int) (k:Nat) (h:k<16):(sumW s f k).set k (ZaP (s.getD k 0) (f.getD k 0))=sumW s f (k+1):=by
 apply List.ext_getElem?
 intro j
 rw[List.getElem?_set]
 by_cases hj:j<16
 ·rw[Ze1 _ _ _ _ hj,Ze1 _ _ _ _ hj]
  by_cases e:k=j
  ·subst e;rw[if_pos rfl,if_pos (by rw[Zdl];exact h),if_pos (by omega)]
  ·rw[if_neg e]
   by_cases h1:j<k
   ·rw[if_pos h1,if_pos (by omega)]
   ·rw[if_neg h1,if_neg (by omega)]
 ·rw[if_neg (by omega),List.getElem?_eq_none (by rw[Zdl];omega),List.getElem?_eq_none (by rw[Zdl];omega)]
theorem Zpf (s f:List Int):sumW s f 16=Zdy s f:=by
 unfold sumW Zdy
 apply List.map_congr_left
 intro i hi
 rw[if_pos (List.mem_range.1 hi)]
theorem Znp (s f:List Int) (i:Nat) (h:i<16):(Zdy s f).getD i 0=ZaP (s.getD i 0) (f.getD i 0):=by simp[Zdy,List.getD,h]
theorem ZeS (s f:List Int):(Zdy s f).length=16:=by simp[Zdy]
def oI (s:List Int) (i:Nat):Int:=s.getD (i/4) 0/2^(i%4*8)%256
def oB (s:List Int) (i:Nat):Nat:=(oI s i).toNat
theorem Zl2 (s:List Int) (i:Nat):((oB s i:Nat):Int)=oI s i:=by
 unfold oB
 have:0≤oI s i:=Int.emod_nonneg _ (by decide)
 omega
theorem Zxe (s:List Int) (i:Nat):oB s i<256:=by
 have h1:=Zl2 s i
 have h2:oI s i<256:=Int.emod_lt_of_pos _ (by decide)
 omega
def outP (s:List Int) (k:Nat):List Nat:=(List.range 64).map fun i=>if i<k then oB s i else 0
def outB (s:List Int):List Nat:=(List.range 64).map (oB s)
theorem Zby (s:List Int) (k:Nat):(outP s k).length=64:=by simp[outP]
theorem Zg3 (s:List Int) (k i:Nat) (h:i<64):(outP s k)[i]?=some (if i<k then oB s i else 0):=by simp[outP,h]
theorem Zf4 (s:List Int):outP s 0=zs 64:=by
 apply List.ext_getElem?
 intro i
 by_cases h:i<64
 ·rw[Zg3 _ _ _ h,if_neg (by omega),zs,List.getElem?_replicate,if_pos h]
 ·rw[List.getElem?_eq_none (by rw[Zby];omega),List.getElem?_eq_none (by rw[Zah];omega)]
theorem Zkc (s:List Int) (k:Nat) (h:k<64):(outP s k).set k (oB s k)=outP s (k+1):=by
 apply List.ext_getElem?
 intro j
 rw[List.getElem?_set]
 by_cases hj:j<64
 ·rw[Zg3 _ _ _ hj,Zg3 _ _ _ hj]
  by_cases e:k=j
  ·subst e;rw[if_pos rfl,if_pos (by rw[Zby];exact h),if_pos (by omega)]
  ·rw[if_neg e]
   by_cases h1:j<k
   ·rw[if_pos h1,if_pos (by omega)]
   ·rw[if_neg h1,if_neg (by omega)]
 ·rw[if_neg (by omega),List.getElem?_eq_none (by rw[Zby];omega),List.getElem?_eq_none (by rw[Zby];omega)]
theorem Zj0 (s:List Int):outP s 64=outB s:=by
 unfold outP outB
 apply List.map_congr_left
 intro i hi
 rw[if_pos (List.mem_range.1 hi)]
theorem Zc8 (s:List Int):(outB s).length=64:=by simp[outB]
theorem Zpw (s:List Int):∀i,(outB s).getD i 0<256:=Zbp fun x hx=>by
 obtain⟨i,_,rfl⟩:=List.mem_map.1 hx
 exact Zxe s i
@[irreducible] def blk (k n:List Nat) (c:Nat):List Nat:=outB (Zdy (ZdO (fst k n (c:Int)) 10) (fst k n (c:Int)))
theorem ZdB (k n:List Nat) (c:Nat):(blk k n c).length=64:=by unfold blk;exact Zc8 _
theorem Ztd (k n:List Nat) (c:Nat):∀i,(blk k n c).getD i 0<256:=by unfold blk;exact Zpw _
theorem Zqt (k n:List Nat) (c:Nat):blk k n c=outB (Zdy (ZdO (fst k n (c:Int)) 10) (fst k n (c:Int))):=by unfold blk;rfl
def stB (k n:List Nat) (c i:Nat):Nat:=(blk k n (c+i/64)).getD (i%64) 0
theorem Zug (k n:List Nat) (c i:Nat):stB k n c i<256:=Ztd _ _ _ _
def strm (k n:List Nat) (c size:Nat):List Nat:=(List.range size).map (stB k n c)
theorem ZbJ (k n:List Nat) (c size:Nat):(strm k n c size).length=size:=by simp[strm]
theorem ZpY (k n:List Nat) (c size:Nat):∀i,(strm k n c size).getD i 0<256:=Zbp fun x hx=>by
 obtain⟨i,_,rfl⟩:=List.mem_map.1 hx
 exact Zug _ _ _ _
def strP (k n:List Nat) (c size m:Nat):List Nat:=(List.range size).map fun i=>if i<m then stB k n c i else 0
theorem Zde (k n:List Nat) (c size m:Nat):(strP k n c size m).length=size:=by simp[strP]
theorem Zff (k n:List Nat) (c size m i:Nat) (h:i<size):(strP k n c size m)[i]?=some (if i<m then stB k n c i else 0):=by simp[strP,h]
theorem ZnF (k n:List Nat) (c size:Nat):strP k n c size 0=zs size:=by
 apply List.ext_getElem?
 intro i
 by_cases h:i<size
 ·rw[Zff _ _ _ _ _ _ h];simp[zs,h]
 ·rw[List.getElem?_eq_none (by rw[Zde];omega),List.getElem?_eq_none (by rw[Zah];omega)]
theorem Zo4 (k n:List Nat) (c size m:Nat) (h:size≤m):strP k n c size m=strm k n c size:=by
 unfold strP strm
 apply List.map_congr_left
 intro i hi
 rw[if_pos (by have:=List.mem_range.1 hi;omega)]
theorem ZnO (k n:List Nat) (c size i t:Nat) (hi:64*i<size) (ht:t=min 64 (size-64*i)) :
  (strP k n c size (64*i)).take (64*i)++(blk k n (c+i)).take t++(strP k n c size (64*i)).drop (64*i+t)=strP k n c size (64*(i+1)):=by
 have hl:=Zde k n c size (64*i)
 have hb:=ZdB k n (c+i)
 apply List.ext_getElem?
 intro j
 by_cases hj:j<size
 ·rw[Zff _ _ _ _ _ _ hj]
  by_cases h1:j<64*i
  ·rw[List.append_assoc,List.getElem?_append_left (by simp;omega),List.getElem?_take,if_pos h1,Zff _ _ _ _ _ _ hj,if_pos h1,if_pos (by omega)]
  ·by_cases h2:j<64*i+t
   ·rw[List.append_assoc,List.getElem?_append_right (by simp;omega),List.getElem?_append_left (by simp;omega)]
    have e:j-((strP k n c size (64*i)).take (64*i)).length=j-64*i:=by simp;omega
    rw[e,List.getElem?_take,if_pos (by omega),if_pos (by omega),List.getElem?_eq_getElem (by omega)]
    unfold stB
    rw[show c+j/64=c+i by omega,show j%64=j-64*i by omega]
    simp[List.getD,hb,show j-64*i<64 by omega]
   ·rw[List.getElem?_append_right (by simp;omega)]
    have e:j-((strP k n c size (64*i)).take (64*i)++(blk k n (c+i)).take t).length=j-(64*i+t):=by simp;omega
    rw[e,List.getElem?_drop,show 64*i+t+(j-(64*i+t))=j by omega,Zff _ _ _ _ _ _ hj,if_neg h1,if_neg (by omega)]
 ·rw[List.getElem?_eq_none (by simp;omega),List.getElem?_eq_none (by rw[Zde];omega)]
def mixd (a b:List Nat):List Nat:=(List.range b.length).map fun i=>a.getD i 0 ^^^ b.getD i 0
theorem ZaJ (a b:List Nat):(mixd a b).length=b.length:=by simp[mixd]
theorem Zfg {a b:List Nat} (ha:∀i,a.getD i 0<256) (hb:∀i,b.getD i 0<256):∀i,(mixd a b).getD i 0<256:=Zbp fun x hx=>by
 obtain⟨i,_,rfl⟩:=List.mem_map.1 hx
 exact Zkl (ha i) (hb i)
theorem Zmk (a b:Nat):a ^^^ (a ^^^ b)=b:=by rw[←Nat.xor_assoc,Nat.xor_self,Nat.zero_xor]
theorem ZeC (a b:List Nat):mixd a (mixd a b)=b:=by
 apply List.ext_getElem?
 intro i
 by_cases h:i<b.length
 ·simp only[mixd,List.length_map,List.length_range,List.getElem?_map,List.getElem?_range h,Option.map_some]
  rw[List.getElem?_eq_getElem h]
  congr 1
  simp only[List.getD,List.getElem?_map,List.getElem?_range h,Option.map_some,Option.getD_some,List.getElem?_eq_getElem h]
  exact Zmk _ _
 ·rw[List.getElem?_eq_none (by rw[ZaJ,ZaJ];omega),List.getElem?_eq_none (by omega)]
theorem Zsi (a:List Nat) (m:Nat) (h:m=a.length):mixd a (zs m)=a:=by
 subst h
 apply List.ext_getElem?
 intro i
 by_cases h:i<a.length
 ·simp[mixd,zs,h,List.getD]
 ·rw[List.getElem?_eq_none (by rw[ZaJ,Zah];omega),List.getElem?_eq_none (by omega)]
end Go.Ch
namespace Go.Hd
open Go Go.Sh Go.Ch Go.Cm
def rhoL:List Nat:=purp++[114,104,111]
def muL:List Nat:=purp++[109,117]
def tauL:List Nat:=purp++[116,97,117]
@[irreducible] def hst (s:List Nat):List Nat:=strm (keyN (drv s rhoL)) (zs 12) 0 192
@[irreducible] def prf (s b:List Nat):List Nat:=(keyN (mac (keyN (drv s muL)) b)).take 16
@[irreducible] def tagS (s:List Nat):List Nat:=(keyN (drv s tauL)).take 16
@[irreducible] def bli (s a:List Nat):List Nat:=keyN (mac s a)
theorem ZaT (s:List Nat):(hst s).length=192:=by unfold hst;exact ZbJ _ _ _ _
theorem Zdi (s:List Nat):∀i,(hst s).getD i 0<256:=by unfold hst;exact ZpY _ _ _ _
theorem ZaS (s b:List Nat):(prf s b).length=16:=by unfold prf;rw[List.length_take,Zar];rfl
theorem ZfU (s b:List Nat):∀i,(prf s b).getD i 0<256:=by unfold prf;exact Zbc (ZbS _) _
theorem Zd2 (s:List Nat):(tagS s).length=16:=by unfold tagS;rw[List.length_take,Zar];rfl
theorem Zc0 (s a:List Nat):(bli s a).length=32:=by unfold bli;exact Zar _
theorem Zjl (s a:List Nat):∀i,(bli s a).getD i 0<256:=by unfold bli;exact ZbS _
theorem ZkL (a b c:List Nat):mixd a (b++c)=mixd a b++mixd (a.drop b.length) c:=by
 apply List.ext_getElem?
 intro i
 by_cases h1:i<b.length
 ·rw[List.getElem?_append_left (by rw[ZaJ];exact h1)]
  simp only[mixd,List.getElem?_map]
  rw[List.getElem?_range (by rw[List.length_append];omega),List.getElem?_range h1]
  simp only[Option.map_some,List.getD]
  rw[List.getElem?_append_left h1]
 ·rw[List.getElem?_append_right (by rw[ZaJ];omega),ZaJ]
  by_cases h2:i<b.length+c.length
  ·simp only[mixd,List.getElem?_map]
   rw[List.getElem?_range (by rw[List.length_append];exact h2),List.getElem?_range (by omega)]
   simp only[Option.map_some,List.getD]
   rw[List.getElem?_append_right (by omega),List.getElem?_drop,show b.length+(i-b.length)=i by omega]
  ·rw[List.getElem?_eq_none (by rw[ZaJ,List.length_append];omega),List.getElem?_eq_none (by rw[ZaJ];omega)]
theorem Zcz (a b:List Nat) (n:Nat):(mixd a b).take n=mixd a (b.take n):=by
 unfold mixd
 rw[←List.map_take,List.take_range,List.length_take]
 apply List.map_congr_left
 intro i hi
 have:=List.mem_range.1 hi
 simp only[List.getD]
 rw[List.getElem?_take,if_pos (by omega)]
theorem ZhF (a b:List Nat) (n:Nat) (h:n≤b.length):(mixd a b).drop n=mixd (a.drop n) (b.drop n):=by
 conv=>lhs;rw[←List.take_append_drop n b]
 have e:(b.take n).length=n:=by rw[List.length_take];omega
 rw[ZkL,List.drop_append_of_le_length (by rw[ZaJ,e];exact Nat.le_refl _),List.drop_of_length_le (by rw[ZaJ,e];exact Nat.le_refl _),List.nil_append,e]
theorem ZkV (a b:List Nat) (n:Nat) (h:b.length≤n):mixd (a.take n) b=mixd a b:=by
 unfold mixd
 apply List.map_congr_left
 intro i hi
 have:=List.mem_range.1 hi
 simp only[List.getD]
 rw[List.getElem?_take,if_pos (by omega)]
structure Hop where
 k:List Nat
 c:Cmd
def fil (ss:List (List Nat)):List Nat:=ss.foldl (fun f s=>mixd ((hst s).drop (192-(f.length+32))) (f++zs 32)) []
theorem Zfd (ss:List (List Nat)) (s:List Nat):fil (ss++[s])=mixd ((hst s).drop (192-((fil ss).length+32))) (fil ss++zs 32):=by
 unfold fil;rw[List.foldl_append];rfl
theorem Zfr:∀(ss:List (List Nat)) (f:List Nat),(ss.foldl (fun f s=>mixd ((hst s).drop (192-(f.length+32))) (f++zs 32)) f).length=f.length+32*ss.length
 | [],f=>rfl
 | s::ss,f=>by
  rw[List.foldl_cons,Zfr ss,ZaJ,List.length_append,Zah,List.length_cons];omega
theorem ZbM (ss:List (List Nat)):(fil ss).length=32*ss.length:=by
 have:=Zfr ss []
 simpa [fil] using this
theorem ZjG:∀(ss:List (List Nat)),∀ i,(fil ss).getD i 0<256:=by
 have:∀(ss:List (List Nat)) (f:List Nat),(∀ i,f.getD i 0<256)→∀ i,(ss.foldl (fun f s=>mixd ((hst s).drop (192-(f.length+32))) (f++zs 32)) f).getD i 0<256:=by
  intro ss
  induction ss with
  | nil=>intro f h;exact h
  | cons s ss ih =>
   intro f h
   rw[List.foldl_cons]
   exact ih _ (Zfg (ZbB (Zdi s) _) (ZaN h (Zbs _)))
 exact fun ss=>this ss [] (by intro i;simp)
def wid (s c g b:List Nat):List Nat:=mixd (hst s) (c++g++b)
theorem Zct {s c g b:List Nat} (hc:c.length=16) (hg:g.length=16) (hb:b.length=160):(wid s c g b).length=192:=by
 unfold wid;rw[ZaJ,List.length_append,List.length_append,hc,hg,hb]
def ZdP (ss:List (List Nat)) (s c:List Nat):List Nat:=(wid s c (zs 16) (zs 160)).take (160-32*ss.length)++fil ss
def ZaZ (ss:List (List Nat)):List (List Nat×List Nat)→List Nat
 | []=>[]
 | [(s,c)]=>ZdP ss s c
 | (s,c)::(t,d)::r=>(wid s c (prf t (ZaZ (ss++[s]) ((t,d)::r))) (ZaZ (ss++[s]) ((t,d)::r))).take 160
theorem Zc6 (ss:List (List Nat)) (s c t d:List Nat) (r:List (List Nat×List Nat)):ZaZ ss ((s,c)::(t,d)::r)=(wid s c (prf t (ZaZ (ss++[s]) ((t,d)::r))) (ZaZ (ss++[s]) ((t,d)::r))).take 160:=rfl
theorem ZbL:∀(r:List (List Nat×List Nat)) (ss:List (List Nat)),r≠[]→(∀ x∈r,x.2.length=16)→ss.length+r.length≤6→(ZaZ ss r).length=160
 | [],_,h,_,_=>absurd rfl h
 | [(s,c)],ss,_,hc,hn=>by
  show (ZdP ss s c).length=160
  have h1:=hc (s,c) (by simp)
  unfold ZdP
  rw[List.length_append,List.length_take,Zct h1 (Zah _) (Zah _),ZbM]
  simp at hn;omega
 | (s,c)::(t,d)::r,ss,_,hc,hn=>by
  have ih:=ZbL ((t,d)::r) (ss++[s]) (by simp) (fun x hx=>hc x (List.mem_cons_of_mem _ hx)) (by simp at hn ⊢;omega)
  rw[Zc6,List.length_take,Zct (hc (s,c) (by simp)) (ZaS _ _) ih];rfl
theorem ZfN:∀(r:List (List Nat×List Nat)) (ss:List (List Nat)),(∀ x∈r,∀ i,x.2.getD i 0<256)→∀ i,(ZaZ ss r).getD i 0<256
 | [],_,_=>by intro i;simp[ZaZ]
 | [(s,c)],ss,hc=>ZaN (Zbc (Zfg (Zdi s) (ZaN (ZaN (hc (s,c) (by simp)) (Zbs _)) (Zbs _))) _) (ZjG ss)
 | (s,c)::(t,d)::r,ss,hc=>by
  have ih:=ZfN ((t,d)::r) (ss++[s]) (fun x hx=>hc x (List.mem_cons_of_mem _ hx))
  rw[Zc6]
  exact Zbc (Zfg (Zdi s) (ZaN (ZaN (hc (s,c) (by simp)) (ZfU _ _)) ih)) _
theorem Zgf:∀(r:List (List Nat×List Nat)) (ss:List (List Nat)),r≠[]→(∀ x∈r,x.2.length=16)→ss.length+r.length≤5→(ZaZ ss r).drop (160-32*ss.length)=fil ss
 | [],_,h,_,_=>absurd rfl h
 | [(s,c)],ss,_,hc,hn=>by
  show (ZdP ss s c).drop _=_
  have h1:=hc (s,c) (by simp)
  unfold ZdP
  have e:((wid s c (zs 16) (zs 160)).take (160-32*ss.length)).length=160-32*ss.length:=by
   rw[List.length_take,Zct h1 (Zah _) (Zah _)];omega
  rw[List.drop_append_of_le_length (by rw[e];exact Nat.le_refl _),List.drop_of_length_le (by rw[e];exact Nat.le_refl _),List.nil_append]
 | (s,c)::(t,d)::r,ss,_,hc,hn=>by
  have hc':∀x∈(t,d)::r,x.2.length=16:=fun x hx=>hc x (List.mem_cons_of_mem _ hx)
  have hn':(ss++[s]).length+((t,d)::r).length≤5:=by simp at hn ⊢;omega
  have ih:=Zgf ((t,d)::r) (ss++[s]) (by simp) hc' hn'
  have il:=ZbL ((t,d)::r) (ss++[s]) (by simp) hc' (by omega)
  have hs:ss.length≤3:=by simp at hn;omega
  rw[Zc6]
  generalize ZaZ (ss++[s]) ((t,d)::r)=b at *
  have h1:=hc (s,c) (by simp)
  have hp:=ZaS t b
  have hf:=ZbM ss
  generalize prf t b=g at *
  simp only at h1
  unfold wid
  have e1:160-32*ss.length=32+(128-32*ss.length):=by omega
  rw[Zcz,ZhF _ _ _ (by simp only[List.length_take,List.length_append,h1,hp,il];omega)]
  have e2:((c++g++b).take 160).drop (160-32*ss.length)=(fil (ss++[s])).take (32*ss.length):=by
   rw[←ih,List.length_append,List.length_singleton,List.drop_take,List.drop_append,List.drop_of_length_le (by simp[h1,hp];omega),List.nil_append]
   simp only[List.length_append,h1,hp]
   congr 1
   congr 1;omega
  rw[e2,Zfd,Zcz,List.take_append_of_le_length (by omega),List.take_of_length_le (by omega),hf]
  have e3:192-(32*ss.length+32)=160-32*ss.length:=by omega
  rw[e3]
  exact ZeC _ _
theorem Zgg (ss:List (List Nat)) (s c t d:List Nat) (r:List (List Nat×List Nat)) (hc:∀x∈(s,c)::(t,d)::r,x.2.length=16) (hn:ss.length+r.length≤3) :
  mixd (hst s) (ZaZ ss ((s,c)::(t,d)::r)++zs 32)=c++prf t (ZaZ (ss++[s]) ((t,d)::r))++ZaZ (ss++[s]) ((t,d)::r):=by
 have hc':∀x∈(t,d)::r,x.2.length=16:=fun x hx=>hc x (List.mem_cons_of_mem _ hx)
 have ih:=Zgf ((t,d)::r) (ss++[s]) (by simp) hc' (by simp;omega)
 have il:=ZbL ((t,d)::r) (ss++[s]) (by simp) hc' (by simp;omega)
 have bl:=ZbL ((s,c)::(t,d)::r) ss (by simp) hc (by simp;omega)
 have h1:=hc (s,c) (by simp)
 rw[ZkL,bl,Zc6]
 generalize ZaZ (ss++[s]) ((t,d)::r)=b at *
 have hp:=ZaS t b
 generalize prf t b=g at *
 simp only at h1
 have hf:=ZbM ss
 unfold wid
 rw[Zcz,ZeC]
 have hz:mixd ((hst s).drop 160) (zs 32)=(hst s).drop 160:=Zsi _ _ (by rw[List.length_drop,ZaT])
 rw[hz]
 have hlast:b.drop 128=(hst s).drop 160:=by
  have e:b.drop 128=(b.drop (160-32*(ss++[s]).length)).drop (32*ss.length):=by
   rw[List.drop_drop];congr 1;simp;omega
  rw[e,ih,Zfd,ZhF _ _ _ (by rw[List.length_append];omega),List.drop_drop,List.drop_append_of_le_length (by omega),List.drop_of_length_le (l:=fil ss) (by omega),List.nil_append,hf]
  rw[show 192-(32*ss.length+32)+32*ss.length=160 by omega]
  exact hz
 rw[←hlast]
 conv=>rhs;rw[←List.take_append_drop 160 (c++g++b)]
 congr 1
 rw[List.drop_append,List.drop_of_length_le (l:=c++g) (by rw[List.length_append];omega),List.nil_append,List.length_append,h1,hp]
theorem Zk9 (ss:List (List Nat)) (s c:List Nat) (hc:c.length=16) (hn:ss.length≤4):(mixd (hst s) (ZaZ ss [(s,c)]++zs 32)).take 16=c:=by
 have h0:ZaZ ss [(s,c)]=ZdP ss s c:=rfl
 have hw:=Zct (s:=s) hc (Zah 16) (Zah 160)
 rw[h0,Zcz,List.take_append_of_le_length (by unfold ZdP;rw[List.length_append,List.length_take,ZbM,hw];omega)]
 unfold ZdP
 rw[List.take_append_of_le_length (by rw[List.length_take,hw];omega),List.take_take,show min 16 (160-32*ss.length)=16 by omega]
 unfold wid
 rw[Zcz,ZeC,List.append_assoc,List.take_append_of_le_length (by omega),List.take_of_length_le (by omega)]
end Go.Hd
namespace Go.Proofs.YtddmjddlbhdcpaaGreatDoor
open Go.RowKit Go.Hold Go.Sh
def expR (W:World) (x:Nat) (last info:Value) (j:Nat) (L:List Nat) (D:St):Nat→Value→World→Prop
 | 0,v,_=>v=.slice (some ⟨x,0,none⟩) 32 32
 | 1,v,_=>v=last
 | 2,v,_=>v=info
 | 3,v,_=>v=.int .i64 (j:Int)
 | 4,v,_=>v=.int .u8 ((j%256:Nat):Int)
 | 5,v,w=>∃ g,v=.slice (some ⟨g,0,none⟩) 1 1∧BytesAt w g 0 [j%256]
 | 6,v,w=>∃ g gb,v=.slice (some ⟨g,0,none⟩) 3 3∧RowAt w g #[last,info,.slice (some ⟨gb,0,none⟩) 1 1]∧BytesAt w gb 0 [j%256]
 | 7,v,w=>SlV w v L
 | 8,v,_=>v=.agg (keA D)
 | 9,v,w=>∃ g,v=.pointer (some ⟨g,0,none⟩)∧W.heap.size≤g∧∃ c,c.size=32∧RowAt w g c
 | _,_,_=>True
theorem ZnT (W:World) (x:Nat) (last info:Value) (j:Nat) (L:List Nat) (D:St):∀i v w w',expR W x last info j L D i v w→Below w.heap.size w w'→expR W x last info j L D i v w'
 | 0,_,_,_,h,_=>h
 | 1,_,_,_,h,_=>h
 | 2,_,_,_,h,_=>h
 | 3,_,_,_,h,_=>h
 | 4,_,_,_,h,_=>h
 | 5,_,_,_,h,hb=>by obtain⟨g,h1,h2⟩:=h;exact⟨g,h1,h2.grow hb⟩
 | 6,_,_,_,h,hb=>by obtain⟨g,gb,h1,h2,h3⟩:=h;exact⟨g,gb,h1,h2.grow hb,h3.grow hb⟩
 | 7,_,_,_,h,hb=>SlV.grow h hb
 | 8,_,_,_,h,_=>h
 | 9,_,_,_,h,hb=>by obtain⟨g,h1,h2,c,h3,h4⟩:=h;exact⟨g,h1,h2,c,h3,h4.grow hb⟩
 | _+10,_,_,_,_,_=>trivial
theorem Zqa (ic n:Nat) (ip:Option Addr) (s info:List Nat) (w:World) (hT:Tabs w) (hs:s.length=32) (hsb:∀i,s.getD i 0<256) (hi:info.length≤100000) (hib:∀i,info.getD i 0<256) (hiB:Bs0 w ip info) (hic:ip=none→ic=0) (hn:n≤8160) :
  Calls Tryz.prog 89 #[.agg (bysA s),.slice ip info.length ic,.int .i64 (n:Int)] w fun e w'=>∃ p,e=.returned (.tuple #[.slice p n n,.int .i64 0])∧Bs0 w' p (expN s info n)∧(p=none→n=0)∧Below w.heap.size w w':=by
 have HT:=Zq hT
 have HI:=Zq hiB
 have HIc:=Zq hic
 have Hsb:=Zq hsb
 have Hib:=Zq hib
 have Hs:=Zq hs
 have h0:¬(n:Int)<0:=by omega
 have h1:¬(8160:Int)<(n:Int):=by omega
 obtain⟨m,em⟩:∃m,m=info.length:=⟨_,rfl⟩
 rw[←em] at hi ⊢
 have Em:=Zq em
 clear hT hiB hic hsb hib hs em
 go_enter Tryz.func89,Tryz.ntmps89
 go_wp2_with fail
 generalize hW:World.alloc _ _=W0
 have R0:=Zq (show RowAt W0 w.heap.size (bysA s) by rw[←hW];exact RowAt.of (Zaq w _))
 have B0:=Zq (show Below w.heap.size w W0 by rw[←hW];exact Zab (Below.refl _ _) _)
 clear hW
 obtain⟨x,ex⟩:∃x,x=w.heap.size:=⟨_,rfl⟩
 rw[←ex] at R0 ⊢
 have Ex:=Zq ex
 clear ex
 go_loopw [8,9,10] (fun all last i wr=>∃ j:Nat,i=.int .i64 ((j+1:Nat):Int)∧32*j<n+32∧OwnB wr W0.heap.size all (exps s info j)∧SlV wr last (tagT s info j)∧Below W0.heap.size W0 wr) (fun _ _ i _=>300-(intOf i).toNat)
 case atStart=>exact⟨0,rfl,by omega,Zbk W0 _,⟨none,0,rfl,.inl rfl,Nat.le_refl _,fun _=>rfl⟩,Below.refl _ _⟩
 case round =>
  obtain⟨j,rfl,hj,hown,hlast,hbel⟩:=hrel
  have hel:=Zb2 s info j
  obtain⟨pa,ca,rfl,hBa,hca,hpa⟩:=hown.bs
  rw[hel] at hown hca ⊢
  obtain⟨na,ena⟩:∃y,y=32*j:=⟨_,rfl⟩
  rw[←ena] at hown hca hj ⊢
  have Hown:=Zq hown
  have Hlast:=Zq hlast
  have Hbel:=Zq hbel
  have Ena:=Zq ena
  have HBa:=Zq hBa
  have Hpa:=Zq hpa
  clear hown hlast hbel ena hel hBa hpa
  obtain⟨j1,ej1⟩:∃y,y=j+1:=⟨_,rfl⟩
  rw[←ej1]
  by_cases hjn:na<n
  ·have hlt:(na:Int)<(n:Int):=by omega
   have hw8:=ZmM j1
   obtain⟨pl,cl,rfl,hBl,hcl,hpl⟩:=Hlast.out
   obtain⟨nl,enl⟩:∃y,y=(tagT s info j).length:=⟨_,rfl⟩
   have hnl:=ZnB s info j
   rw[←enl] at hcl hnl ⊢
   have Enl:=Zq enl
   have HBl:=Zq hBl
   have Hpl:=Zq hpl
   have Ej1:=Zq ej1
   have hj1:j1≤256:=by have:=Ena.out;omega
   clear hBl hpl enl ej1 hcl
   obtain⟨L,eL⟩:∃y,y=tagT s info j++info++[j1%256]:=⟨_,rfl⟩
   obtain⟨D,eD⟩:∃y,y=mac s L:=⟨_,rfl⟩
   have Htag:=Zq (show tagT s info (j+1)=keyN D by rw[tagT,eD,eL,Ej1.out])
   have HLb:=Zq (show ∀i,L.getD i 0<256 by rw[eL];exact ZaN (ZaN (ZjY _ _ _) Hib.out) (ZvI _ (Nat.mod_lt _ (by decide))))
   have hLl:L.length≤200000:=by rw[eL,List.length_append,List.length_append,←Enl.out,←Em.out];simp only[List.length_cons,List.length_nil];omega
   have EL:=Zq eL
   have ED:=Zq eD
   clear eL eD
   have hWr:=Hbel.out.size
   have R1:=Zq (R0.out.grow Hbel.out)
   have I1:=Zq ((HI.out.grow B0.out).grow Hbel.out)
   have T1:=Zq ((HT.out.grow B0.out).grow Hbel.out)
   have BB1:=Zq (B0.out.trans (Hbel.out.mono B0.out.size))
   go_wp2_with fail
   refine Zbv wr 10 (fun w w'=>Below w.heap.size w w') (expR wr x (.slice pl nl cl) (.slice ip m ic) j1 L D) [10] [0,1,2,3,4,5,6,7,8,9] [some 24,some 25,some 26,some 27,some 28,some 29,some 30,some 31,some 32,some 11] (by kernel_rfl) (by kernel_rfl) (by kernel_rfl) (by kernel_rfl) ((Below.refl _ _).drew) (fun w w' h h'=>h.trans (h'.mono h.size)) (ZnT _ _ _ _ _ _ _) ?_
   intro vals
   simp only[List.take_succ_cons,List.take_zero]
   refine⟨Zao [] [] (by kernel_rfl) rfl (fun K w hb hd hK=>⟨Zaa rfl,?_⟩),?_⟩
   ·simp only[putZ];go_simp;exact hK _ _ _ (Below.refl _ _) rfl
   refine⟨Zao [] [] (by kernel_rfl) rfl (fun K w hb hd hK=>⟨Zaa rfl,?_⟩),?_⟩
   ·simp only[putZ];go_simp;exact hK _ _ _ (Below.refl _ _) rfl
   refine⟨Zao [] [] (by kernel_rfl) rfl (fun K w hb hd hK=>⟨Zaa rfl,?_⟩),?_⟩
   ·simp only[putZ];go_simp;exact hK _ _ _ (Below.refl _ _) rfl
   refine⟨Zao [] [] (by kernel_rfl) rfl (fun K w hb hd hK=>⟨Zaa rfl,?_⟩),?_⟩
   ·simp only[putZ];go_simp;exact hK _ _ _ (Below.refl _ _) rfl
   refine⟨Zao [3] [some 27] (by kernel_rfl) (by kernel_rfl) (fun K w hb hd hK=>⟨Zaa rfl,?_⟩),?_⟩
   ·have d3:vals 3=.int .i64 (j1:Int):=hd 3 (by simp)
    simp only[List.map_cons,List.map_nil,putZ,d3];go_simp;exact hK _ _ _ (Below.refl _ _) rfl
   refine⟨Zao [4] [some 28] (by kernel_rfl) (by kernel_rfl) (fun K w hb hd hK=>⟨Zaa rfl,?_⟩),?_⟩
   ·have d4:vals 4=.int .u8 ((j1%256:Nat):Int):=hd 4 (by simp)
    obtain⟨b,eb⟩:∃b,b=j1%256:=⟨_,rfl⟩
    rw[←eb] at d4
    have Eb:=Zq eb
    clear eb
    simp only[List.map_cons,List.map_nil,putZ,d4];go_simp;exact hK _ _ _ (Zab (Below.refl _ _) _) ⟨_,rfl,by rw[←Eb.out];exact Zbr w [b] _ _⟩
   refine⟨Zao [1,2,5] [some 25,some 26,some 29] (by kernel_rfl) (by kernel_rfl) (fun K w hb hd hK=>⟨Zaa rfl,?_⟩),?_⟩
   ·have d1:vals 1=.slice pl nl cl:=hd 1 (by simp)
    have d2:vals 2=.slice ip m ic:=hd 2 (by simp)
    obtain⟨gb,d5,hgb⟩:∃g,vals 5=.slice (some ⟨g,0,none⟩) 1 1∧BytesAt w g 0 [j1%256]:=hd 5 (by simp)
    simp only[List.map_cons,List.map_nil,putZ,d1,d2,d5];go_simp;exact hK _ _ _ (Zab (Below.refl _ _) _) ⟨_,gb,rfl,RowAt.of (Zaq w _),hgb.grow (Zab (Below.refl _ _) _)⟩
   refine⟨Za7 [6] [some 30] (by kernel_rfl) (by kernel_rfl) (fun K w hb hd hK=>⟨Zaa rfl,?_⟩),?_⟩
   ·obtain⟨g6,gb,d6,hr6,hgb⟩:∃g gb,vals 6=.slice (some ⟨g,0,none⟩) 3 3∧RowAt w g #[.slice pl nl cl,.slice ip m ic,.slice (some ⟨gb,0,none⟩) 1 1]∧BytesAt w gb 0 [j1%256]:=hd 6 (by simp)
    simp only[List.map_cons,List.map_nil,putZ,d6];go_simp
    refine(ZiC hr6 Enl.out Em.out (k:=[j1%256]) rfl (HBl.out.grow hb) (I1.out.grow hb) (Bs0.some hgb) Hpl.out HIc.out (fun h=>by cases h) (by rw[←Enl.out,←Em.out];simp only[List.length_cons,List.length_nil];omega)).mono ?_
    rintro e w' ⟨v,rfl,hown,hb'⟩
    refine⟨v,rfl,hK _ _ hb' ?_⟩
    show SlV w' v L
    rw[EL.out];exact hown.bs
   refine⟨Za7 [0,7] [some 24,some 31] (by kernel_rfl) (by kernel_rfl) (fun K w hb hd hK=>⟨Zaa rfl,?_⟩),?_⟩
   ·have d0:vals 0=.slice (some ⟨x,0,none⟩) 32 32:=hd 0 (by simp)
    obtain⟨p7,c7,d7,hB7,_,hp7⟩:SlV w (vals 7) L:=hd 7 (by simp)
    simp only[List.map_cons,List.map_nil,putZ,d0,d7];go_simp
    have HM:=ZuR 32 c7 (some ⟨x,0,none⟩) p7 s L w (T1.out.grow hb) (by rw[Hs.out];decide) Hsb.out (Bs0.some (ZaH (R1.out.grow hb))) (by rw[Hs.out];decide) (by omega) HLb.out hB7 hp7
    rw[Hs.out,←ED.out] at HM
    refine HM.mono ?_
    rintro e w' ⟨rfl,hb'⟩
    exact⟨_,rfl,hK _ _ hb' rfl⟩
   refine⟨Zao [] [] (by kernel_rfl) rfl (fun K w hb hd hK=>⟨Zaa rfl,?_⟩),?_⟩
   ·simp only[putZ];go_simp;exact hK _ _ _ (Zab (Below.refl _ _) _) ⟨_,rfl,hb.size,_,by simp,RowAt.of (Zaq w _)⟩
   intro W1 hb1 hd
   have d8:vals 8=.agg (keA D):=hd 8 (by simp)
   obtain⟨g,d9,hg,c9,hc9,hR9⟩:∃g,vals 9=.pointer (some ⟨g,0,none⟩)∧wr.heap.size≤g∧∃ c:Array Value,c.size=32∧RowAt W1 g c:=hd 9 (by simp)
   clear hd
   simp only[List.map_cons,List.map_nil,putZ,d8,d9,pick,List.getElem?_cons_succ,List.getElem?_cons_zero]
   generalize vals 0=v0
   generalize vals 1=v1
   generalize vals 2=v2
   generalize vals 3=v3
   generalize vals 4=v4
   generalize vals 5=v5
   generalize vals 6=v6
   generalize vals 7=v7
   clear d8 d9
   have hown1:OwnB W1 W0.heap.size (.slice pa na ca) (exps s info j):=Hown.out.below hb1
   have hown2:OwnB (W1.setRow g (keA D)) W0.heap.size (.slice pa na ca) (exps s info j) :=
    World.ownsRow.kept (row:=some g) hown1 ⟨rfl,rfl,rfl,by rw[size_setRow];exact Nat.le_refl _,fun k _ hk=>setRow_other W1 g k _ (fun e=>hk (by rw[e]))⟩ (by
     right
     intro he
     have:=(World.ownsRow.lt Hown.out g he).2
     omega)
   have RG:=hR9.set (keA D)
   have hsz2:W0.heap.size≤(W1.setRow g (keA D)).heap.size:=by rw[size_setRow];have:=hb1.size;omega
   have hB2:Below W0.heap.size W0 (W1.setRow g (keA D)):=by
    have:=Hbel.out.trans (hb1.mono Hbel.out.size)
    exact Zad this (by omega) _
   obtain⟨va,wa,hra,howna,hgra⟩:=ZbY (cap:=32) (k:=32) hown2 (Bs0.some (Ze7 RG)) (Zar D).symm (fun h=>by cases h) hsz2 (by rw[Zb2,Zar];have:=Ena.out;omega)
   have Hba:=Zq (Za2 hB2 hown2 hsz2 hgra)
   have Hoa:=Zq (show OwnB wa W0.heap.size va (exps s info (j+1)) by rw[exps,Htag.out];exact howna)
   have Hla:=Zq (show SlV wa (.slice (some ⟨g,0,none⟩) 32 32) (tagT s info (j+1)) by
    rw[Htag.out]
    refine⟨some ⟨g,0,none⟩,32,by rw[Zar],Bs0.some (Ze7 ?_),by rw[Zar];exact Nat.le_refl _,fun h=>by cases h⟩
    obtain⟨t,ht⟩:=RG.block
    refine RowAt.of (t:=t) ?_
    rw[hgra.block g RG.2.2 (fun he=>by have:=(World.ownsRow.lt Hown.out g he.symm).2;omega)]
    exact ht)
   obtain⟨r1,r2,r3⟩:=hR9
   clear hown1 hown2 RG hsz2 hB2 howna hgra
   go_wp2_with (at_builtin;refine Lib.wpList_append_run _ rfl _ _ _ _ rfl _ _ rfl rfl _ _ hra ?_)
   go_wp2_with fail
   go_roundw
   case rel=>exact⟨j+1,by rw[←Ej1.out];go_num,by have:=Ena.out;omega,Hoa.out,Hla.out,Hba.out⟩
   case measure=>simp[intOf];omega
  ·have hlt:¬(na:Int)<(n:Int):=by omega
   have hsl:=ZuK pa na ca n (by omega)
   clear ej1
   go_wp2_with fail
   refine bodyPost_ret (v:=.tuple #[.slice pa n n,.int .i64 0]) (results_tmp2 Tryz.results89 _ _ _) rfl ⟨pa,rfl,?_,fun h=>?_,B0.out.trans (Hbel.out.mono B0.out.size)⟩
   ·rw[ZfD s info n j (by have:=Ena.out;omega)]
    exact Bs0.take HBa.out n
   ·have hz:exps s info j=[]:=by
     rcases HBa.out with h1 | ⟨b,o,h1,_⟩
     ·exact h1
     ·rw[h] at h1;cases h1
    have:=Zb2 s info j
    rw[hz] at this
    have:=Ena.out
    simp at *;omega
theorem Zez (ac bc na nb:Nat) (ap bp:Option Addr) (a b:List Nat) (w:World) (hna:na=a.length) (hnb:nb=b.length) (haB:Bs0 w ap a) (hap:ap=none→ac=0) (hbB:Bs0 w bp b) (hbp:bp=none→bc=0) (hl:a.length+b.length≤16000000) :
  Calls Tryz.prog 38 #[.slice ap na ac,.slice bp nb bc] w fun e w'=>∃ v,e=.returned v∧OwnB w' w.heap.size v (a++b)∧Below w.heap.size w w':=by
 have BA:=Zab (Below.refl w.heap.size w) (.cells #[] 5)
 have hE:=Zcv w w.heap.size (Nat.le_refl _)
 obtain⟨v1,w1,hr1,ho1,hg1⟩:=ZbY (cap:=ac) hE (haB.grow BA) hna hap BA.size (by simp only[List.length_nil];omega)
 have hb1:=Za2 BA hE BA.size hg1
 rw[List.nil_append] at ho1
 obtain⟨v2,w2,hr2,ho2,hg2⟩:=ZbY (cap:=bc) ho1 (hbB.grow hb1) hnb hbp hb1.size (by omega)
 have hb2:=Za2 hb1 ho1 hb1.size hg2
 have HO:=Zq ho2
 have HB:=Zq hb2
 clear BA hE ho1 hg1 hb1 ho2 hg2 hb2 haB hbB hap hbp hl hna hnb
 go_enter Tryz.func38,Tryz.ntmps38
 go_wp2_with (at_builtin;first | refine Lib.wpList_append_run _ rfl _ _ _ _ rfl _ _ rfl rfl _ _ hr1 ?_ | refine Lib.wpList_append_run _ rfl _ _ _ _ rfl _ _ rfl rfl _ _ hr2 ?_)
 go_wp2_with fail
 go_ret
 exact⟨_,rfl,HO.out,HB.out⟩
theorem ZcT (s:List Nat) (hs:s.length=32) (w:World):Calls Tryz.prog 64 #[.agg (bysA s)] w fun e w'=>∃ v,e=.returned v∧OwnB w' w.heap.size v s∧Below w.heap.size w w':=by
 have Hs:=Zq hs
 clear hs
 go_enter Tryz.func64,Tryz.ntmps64
 go_wp2_with fail
 have R0:=Zq (show RowAt (w.alloc (.cells (bysA s) 23)) w.heap.size (bysA s) from RowAt.of (Zaq w _))
 have B0:=Zq (Zab (Below.refl w.heap.size w) (.cells (bysA s) 23))
 generalize w.alloc (.cells (bysA s) 23)=W0 at *
 go_loopw [3,4] (fun v i wr=>∃ k:Nat,k≤32∧i=.int .i64 k∧OwnB wr W0.heap.size v (s.take k)∧Below W0.heap.size W0 wr) (fun _ i _=>32-(intOf i).toNat)
 case atStart=>exact⟨0,by decide,rfl,Zbk W0 _,Below.refl _ _⟩
 case round =>
  obtain⟨k,hk,rfl,hown,hbel⟩:=hrel
  by_cases hk32:k<32
  ·have hk0:(0:Int)≤(k:Int):=by omega
   have hk1:(k:Int)<32:=by omega
   have hkl:k<s.length:=by rw[Hs.out];exact hk32
   have hc:=(R0.out.grow hbel).cellAt k (ZaB s k hkl)
   have ht:=ZcU s k hkl
   generalize s.getD k 0=y at *
   have BA:=Zab (Below.refl wr.heap.size wr) (.cells #[.int .u8 (y:Int)] 5)
   obtain⟨v2,w2,hr2,hown2,hgr2⟩:=ZbY (k:=1) (cap:=1) (hown.below BA) (Bs0.some (Zbr wr [y] 5 (0,0))) rfl (fun h=>by cases h) (Nat.le_trans hbel.size BA.size) (by rw[List.length_take];simp only[List.length_cons,List.length_nil];omega)
   have Hb2:=Zq (Za2 (hbel.alloc hbel.size (.cells #[.int .u8 (y:Int)] 5)) (hown.below BA) (Nat.le_trans hbel.size BA.size) hgr2)
   have Ho2:=Zq (show OwnB w2 W0.heap.size v2 (s.take (k+1)) by rw[←ht];exact hown2)
   clear hown2 hgr2 BA hown hbel ht hkl
   go_wp2_with (at_builtin;refine Lib.wpList_append_run _ rfl _ _ _ _ rfl _ _ rfl rfl _ _ hr2 ?_)
   go_wp2_with fail
   go_roundw
   case rel=>exact⟨k+1,by omega,by go_num,Ho2.out,Hb2.out⟩
   case measure=>simp[intOf];omega
  ·obtain rfl:k=32:=by omega
   have HO:=Zq hown
   have HB:=Zq hbel
   clear hown hbel
   go_wp2_with fail
   go_ret
   refine⟨_,rfl,?_,B0.out.trans (HB.out.mono B0.out.size)⟩
   have:=HO.out
   rw[List.take_of_length_le (by rw[Hs.out];exact Nat.le_refl _)] at this
   exact this.base B0.out.size
def Sets (w:World) (g:Nat) (c:Array Value) (w':World):Prop:=∃ os d,w'=(w.setRow g c).plus os d
theorem Sets.refl {w:World} {g:Nat} {c:Array Value} (h:RowAt w g c):Sets w g c w:=⟨#[],w.drawn,by rw[ZbK h];exact ZeB w⟩
theorem Sets.size {w w':World} {g:Nat} {c:Array Value} (s:Sets w g c w'):w.heap.size≤w'.heap.size:=by
 obtain⟨os,d,rfl⟩:=s
 rw[World.size_plus,size_setRow];omega
theorem Sets.row {w w':World} {g:Nat} {c0 c:Array Value} (h:RowAt w g c0) (s:Sets w g c w'):RowAt w' g c:=by
 obtain⟨os,d,rfl⟩:=s
 exact(h.set c).grow (Zag (Below.refl _ _) os d)
theorem Sets.old {w w':World} {g n:Nat} {c c1:Array Value} (s:Sets w g c w') (h:RowAt w n c1) (hn:n≠g):RowAt w' n c1:=by
 obtain⟨os,d,rfl⟩:=s
 exact(h.other hn c).grow (Zag (Below.refl _ _) os d)
theorem Sets.bytes {w w':World} {g b o:Nat} {c:Array Value} {l:List Nat} (s:Sets w g c w') (h:BytesAt w b o l) (hn:b≠g):BytesAt w' b o l:=by
 obtain⟨os,d,rfl⟩:=s
 exact(h.other hn c).grow (Zag (Below.refl _ _) os d)
theorem Sets.grow {w w' w2:World} {g:Nat} {c:Array Value} (s:Sets w g c w') (hb:Below w'.heap.size w' w2):Sets w g c w2:=by
 obtain⟨os,d,rfl⟩:=s
 obtain⟨o2,d2,rfl⟩:=Zaf hb
 exact⟨os++o2,d2,by rw[World.plus_plus]⟩
theorem Sets.cell {w w':World} {g i:Nat} {c0 c:Array Value} {v:Value} (h:RowAt w g c0) (s:Sets w g c w'):Sets w g (c.setIfInBounds i v) (w'.setCell ⟨g,i,none⟩ v):=by
 obtain⟨os,d,rfl⟩:=s
 exact⟨os,d,by rw[World.setCell_plus _ _ _ _ _ _ (by rw[size_setRow];exact h.2.2),ZcZ h]⟩
theorem Sets.set {w w':World} {g:Nat} {c0 c c':Array Value} (h:RowAt w g c0) (s:Sets w g c w'):Sets w g c' (w'.setRow g c'):=by
 obtain⟨os,d,rfl⟩:=s
 exact⟨os,d,Za8 h⟩
theorem Sets.trans {w w' w2:World} {g:Nat} {c0 c c':Array Value} (h:RowAt w g c0) (s:Sets w g c w') (s2:Sets w' g c' w2):Sets w g c' w2:=by
 obtain⟨o2,d2,rfl⟩:=s2
 obtain⟨os,d,rfl⟩:=s
 exact⟨os++o2,d2,by rw[Za8 h,World.plus_plus]⟩
theorem Sets.below {a w w':World} {B g:Nat} {c:Array Value} (s:Sets w g c w') (hb:Below B a w) (hB:B≤g) (hBw:B≤w.heap.size):Below B a w':=by
 obtain⟨os,d,rfl⟩:=s
 refine ZaE _ _ _ ⟨hb.os,hb.tape,hb.output,by rw[size_setRow];exact hb.size,fun k hk=>?_⟩ (by rw[size_setRow];exact hBw)
 rw[setRow_other w g k c (by omega)];exact hb.block k hk
open Go.RowKit Go.Hold Go.Sh Go.Ch
theorem Zum (x:Int) (n k:Nat) (hk:n+k=32):o32 (x*2^n%4294967296) (x/2^k)=rl x n:=by
 unfold o32 rl rotr
 rw[Zh9,show 32-n=k by omega,show 32-k=n by omega]
theorem rotP (x:Int) (n k:Nat) (hk:n+k=32) (hn:0<n) (hk':0<k) (hb:bits .and .u64 (n:Int) 31=(n:Int)) (w:World):Calls Tryz.prog 183 #[.int .u32 x,.int .i64 (n:Int)] w fun e w'=>e=.returned (.int .u32 (rl x n))∧w'=w:=by
 have hs:IntKind.u64.wrap (32-(n:Int))=(k:Int):=by rw[IntWalk.u64_in _ (by omega)];omega
 have hw:IntKind.u64.wrap (n:Int)=(n:Int):=IntWalk.u64_in _ (by omega)
 have h1:(0:Int)≤(k:Int):=by omega
 have h2:(k:Int)≤32:=by omega
 have h3:(0:Int)≤(n:Int):=by omega
 have h4:(n:Int)≤32:=by omega
 have hr:=Zum x n k hk
 go_enter Tryz.func183,Tryz.ntmps183
 go_wp2_with fail
 go_ret
 exact⟨rfl,rfl⟩
theorem ZsX (x:Int) (w:World):Calls Tryz.prog 183 #[.int .u32 x,.int .i64 16] w fun e w'=>e=.returned (.int .u32 (rl x 16))∧w'=w:=rotP x 16 16 rfl (by decide) (by decide) (by decide +kernel) w
theorem ZsZ (x:Int) (w:World):Calls Tryz.prog 183 #[.int .u32 x,.int .i64 12] w fun e w'=>e=.returned (.int .u32 (rl x 12))∧w'=w:=rotP x 12 20 rfl (by decide) (by decide) (by decide +kernel) w
theorem Zuu (x:Int) (w:World):Calls Tryz.prog 183 #[.int .u32 x,.int .i64 8] w fun e w'=>e=.returned (.int .u32 (rl x 8))∧w'=w:=rotP x 8 24 rfl (by decide) (by decide) (by decide +kernel) w
theorem Zt3 (x:Int) (w:World):Calls Tryz.prog 183 #[.int .u32 x,.int .i64 7] w fun e w'=>e=.returned (.int .u32 (rl x 7))∧w'=w:=rotP x 7 25 rfl (by decide) (by decide) (by decide +kernel) w
@[go_sem ↓] theorem Zva (v:Value):Instr.loadAt 218 v=Zam 218 v:=rfl
@[go_sem ↓] theorem Zt0 (v:Value):Instr.loadAt 155 v=Zam 155 v:=rfl
@[go_sem ↓] theorem ZtF (v:Value):Instr.loadAt 163 v=Zam 163 v:=rfl
@[go_sem] theorem ZtI (w:World) (n:Nat) (h1:w.isRow n=true) (h2:(w.rowOf n).size=16):(Zam 218 (.pointer (some ⟨n,0,none⟩))).run Tryz.prog w=.ok (.agg (w.rowOf n)) w:=ZaF w Tryz.underlying218 rfl (by kernel_rfl) n h1 h2
@[go_sem] theorem ZsH (w:World) (n:Nat) (h1:w.isRow n=true) (h2:(w.rowOf n).size=64):(Zam 155 (.pointer (some ⟨n,0,none⟩))).run Tryz.prog w=.ok (.agg (w.rowOf n)) w:=ZaF w Tryz.underlying155 rfl (by kernel_rfl) n h1 h2
@[go_sem] theorem ZsG (w:World) (n:Nat) (h1:w.isRow n=true) (h2:(w.rowOf n).size=12):(Zam 163 (.pointer (some ⟨n,0,none⟩))).run Tryz.prog w=.ok (.agg (w.rowOf n)) w:=ZaF w Tryz.underlying163 rfl (by kernel_rfl) n h1 h2
@[go_sem ↓] theorem Ztx (v:Value):Instr.loadAt 126 v=Zam 126 v:=rfl
@[go_sem] theorem Ztt (w:World) (n:Nat) (h1:w.isRow n=true) (h2:(w.rowOf n).size=12):(Zam 126 (.pointer (some ⟨n,0,none⟩))).run Tryz.prog w=.ok (.agg (w.rowOf n)) w:=ZaF w Tryz.underlying126 rfl (by kernel_rfl) n h1 h2
theorem Zlo {fn:Func} {p:Tmp} {cs:Array Value} (h:fn.results=#[.cell p 218]) (hc:cs.size=16) (w:World) (tmps:Array Value) (n:Nat) (hp:tmps.getD p undef=.pointer (some ⟨n,0,none⟩)) (h1:w.isRow n=true) (h2:w.rowOf n=cs):(results fn tmps).run Tryz.prog w=.ok (.agg cs) w :=
 ZaW w h Tryz.underlying218 rfl (by rw[hc];kernel_rfl) tmps n hp h1 h2
theorem Zd3 {fn:Func} {p:Tmp} {cs:Array Value} (h:fn.results=#[.cell p 155]) (hc:cs.size=64) (w:World) (tmps:Array Value) (n:Nat) (hp:tmps.getD p undef=.pointer (some ⟨n,0,none⟩)) (h1:w.isRow n=true) (h2:w.rowOf n=cs):(results fn tmps).run Tryz.prog w=.ok (.agg cs) w :=
 ZaW w h Tryz.underlying155 rfl (by rw[hc];kernel_rfl) tmps n hp h1 h2
@[go_sem ↓] theorem ZvU (ps:Array (Nat×Value)):Instr.build 218 ps=bldA 218 ps:=rfl
@[go_sem] theorem Zuh (w:World):(bldA 218 #[(0,.int .u32 1634760805),(1,.int .u32 857760878),(2,.int .u32 2036477234),(3,.int .u32 1797285236)]).run Tryz.prog w=.ok (.agg (wosA cst0)) w:=run_build w _ _ _ (by kernel_rfl)
theorem Zae {l:List Nat} {n:Nat} (h:l.length=n):(bysA l).size=n:=by rw[Zaj,h]
theorem Zc1 {l:List Int} {n:Nat} (h:l.length=n):(wosA l).size=n:=by rw[Zc3,h]
open Go.RowKit Go.Hold Go.Sh Go.Cm Go.Hd
def rhA (a:List Nat) (v:Value) (g:List Nat):Array Value:=bysA a++#[v]++bysA g
theorem Zcp {a g:List Nat} (v:Value) (ha:a.length=32) (hg:g.length=16):(rhA a v g).size=49:=by simp[rhA,Zaj,ha,hg]
@[go_sem] theorem Zxh {a g:List Nat} (v:Value) (ha:a.length=32):(rhA a v g).extract 0 32=bysA a:=by
 unfold rhA
 have:(bysA a).size=32:=by rw[Zaj,ha]
 rw[Array.append_assoc,←this,Array.extract_append_left]
 simp
@[go_sem] theorem Zxi {a g:List Nat} (v:Value) (ha:a.length=32) (hg:g.length=16):(rhA a v g).extract 33 49=bysA g:=by
 unfold rhA
 have h1:(bysA a++#[v]).size=33:=by simp[Zaj,ha]
 have h2:(bysA g).size=16:=by rw[Zaj,hg]
 rw[show (49:Nat)=33+(bysA g).size by omega,←h1]
 simp
theorem ZqG {a g:List Nat} (v:Value) (ha:a.length=32):(rhA a v g)[32]?=some v:=by
 unfold rhA
 rw[Array.append_assoc,Array.getElem?_append_right (by rw[Zaj,ha];exact Nat.le_refl _),Zaj,ha,Array.getElem?_append_left (by simp)]
 rfl
theorem ZhM (a g:List Nat) (p:Option Addr) (n c:Nat):Za5 [.agg (bysA a),.slice p n c,.agg (bysA g)]=(rhA a (.slice p n c) g).toList:=by
 show (Value.agg (bysA a)).cells.toList++((Value.slice p n c).cells.toList++((Value.agg (bysA g)).cells.toList++[]))=_
 rw[Zcf,Zcf,List.append_nil]
 unfold rhA
 simp[Value.cells,bysA]
theorem Zf0 {a g:List Nat} (p:Option Addr) (n c:Nat) (ha:a.length=32) (hg:g.length=16) (w:World):(bldA 40 #[(0,.agg (bysA a)),(1,.slice p n c),(2,.agg (bysA g))]).run Tryz.prog w=.ok (.agg (rhA a (.slice p n c) g)) w:=by
 have sa:(bysA a).size=32:=by rw[Zaj,ha]
 have sg:(bysA g).size=16:=by rw[Zaj,hg]
 have:=Zcn (P:=Tryz.prog) Tryz.underlying40 w [.agg (bysA a),.slice p n c,.agg (bysA g)]
  (by rw[ZhM,Array.length_toList,Zcp _ ha hg];kernel_rfl)
  (by simp only[offs,Value.cells,sa,sg];kernel_rfl) #[(0,.agg (bysA a)),(1,.slice p n c),(2,.agg (bysA g))] rfl
 rw[ZhM,Array.toArray_toList] at this
 exact this
@[go_sem] theorem Zqk (w:World):(bldA 40 #[]).run Tryz.prog w=.ok (.agg (rhA (zs 32) (.slice none 0 0) (zs 16))) w:=run_build w _ _ _ (by kernel_rfl)
@[go_sem] theorem Zql (p:Option Addr) (n c:Nat) (w:World):(bldA 40 #[(1,.slice p n c)]).run Tryz.prog w=.ok (.agg (rhA (zs 32) (.slice p n c) (zs 16))) w:=run_build w _ _ _ (by kernel_rfl)
def IsRH (w:World) (v:Value) (a b g:List Nat):Prop:=∃ p c,v=.agg (rhA a (.slice p b.length c) g)∧Bs0 w p b∧(p=none→c=0)
theorem IsRH.grow {w w':World} {v:Value} {a b g:List Nat} (h:IsRH w v a b g) (hb:Below w.heap.size w w'):IsRH w' v a b g:=by
 obtain⟨p,c,e,hB,hp⟩:=h
 exact⟨p,c,e,hB.grow hb,hp⟩
open Go.RowKit Go.Hold Go.Sh Go.Ch
theorem ZkS (x:Int) (n k:Nat) (hk:n+k=32) (w:World):Calls Tryz.prog 160 #[.int .u32 x,.int .i64 (n:Int)] w fun e w'=>e=.returned (.int .u32 (rl x n))∧w'=w:=by
 have hs:IntKind.i64.wrap (32-(n:Int))=(k:Int):=by rw[IntWalk.i64_in _ (by omega)];omega
 have hw:IntKind.u64.wrap (n:Int)=(n:Int):=IntWalk.u64_in _ (by omega)
 have hv:IntKind.u64.wrap (k:Int)=(k:Int):=IntWalk.u64_in _ (by omega)
 have h1:(0:Int)≤(k:Int):=by omega
 have h2:(k:Int)≤32:=by omega
 have h3:(0:Int)≤(n:Int):=by omega
 have h4:(n:Int)≤32:=by omega
 have hr:=Zum x n k hk
 go_enter Tryz.func160,Tryz.ntmps160
 go_wp2_with fail
 go_ret
 exact⟨rfl,rfl⟩
theorem Zsy (x:Int) (w:World):Calls Tryz.prog 160 #[.int .u32 x,.int .i64 16] w fun e w'=>e=.returned (.int .u32 (rl x 16))∧w'=w:=ZkS x 16 16 rfl w
theorem ZrD (x:Int) (w:World):Calls Tryz.prog 160 #[.int .u32 x,.int .i64 12] w fun e w'=>e=.returned (.int .u32 (rl x 12))∧w'=w:=ZkS x 12 20 rfl w
theorem Zue (x:Int) (w:World):Calls Tryz.prog 160 #[.int .u32 x,.int .i64 8] w fun e w'=>e=.returned (.int .u32 (rl x 8))∧w'=w:=ZkS x 8 24 rfl w
theorem Zvj (x:Int) (w:World):Calls Tryz.prog 160 #[.int .u32 x,.int .i64 7] w fun e w'=>e=.returned (.int .u32 (rl x 7))∧w'=w:=ZkS x 7 25 rfl w
theorem ZwE (x0 x1 x2 x3:Nat) (h0:x0<256) (h1:x1<256) (h2:x2<256) (h3:x3<256) :
  o32 (o32 (o32 (x0:Int) ((x1:Int)*256%4294967296)) ((x2:Int)*65536%4294967296)) ((x3:Int)*16777216%4294967296)=((x0+x1*256+x2*65536+x3*16777216:Nat):Int):=by
 have e1:=Zhn x0 x1 1 (by simpa using h0) h1 (by decide)
 have e2:=Zhn (x0+x1*256) x2 2 (by omega) h2 (by decide)
 have e3:=Zhn (x0+x1*256+x2*65536) x3 3 (by omega) h3 (by decide)
 have p1:(2:Int)^(1*8)=256:=by decide
 have p2:(2:Int)^(2*8)=65536:=by decide
 have p3:(2:Int)^(3*8)=16777216:=by decide
 rw[p1] at e1
 rw[p2] at e2
 rw[p3] at e3
 rw[e1]
 simp only[Nat.pow_one] at *
 rw[e2]
 rw[show (256:Nat)^2=65536 by decide]
 rw[e3]
theorem ZqY (g cap x0 x1 x2 x3:Nat) (h0:x0<256) (h1:x1<256) (h2:x2<256) (h3:x3<256) (w:World) (hB:BytesAt w g 0 [x0,x1,x2,x3]) :
  Calls Tryz.prog 159 #[.slice (some ⟨g,0,none⟩) 4 cap] w fun e w'=>e=.returned (.int .u32 ((x0+x1*256+x2*65536+x3*16777216:Nat):Int))∧Below w.heap.size w w':=by
 have hc0:w.cell? ⟨g,0,none⟩=some (.int .u8 (x0:Int)):=hB.2 0 (show 0<4 by decide)
 have hc1:w.cell? ⟨g,1,none⟩=some (.int .u8 (x1:Int)):=hB.2 1 (show 1<4 by decide)
 have hc2:w.cell? ⟨g,2,none⟩=some (.int .u8 (x2:Int)):=hB.2 2 (show 2<4 by decide)
 have hc3:w.cell? ⟨g,3,none⟩=some (.int .u8 (x3:Int)):=hB.2 3 (show 3<4 by decide)
 have hgl:=hB.1
 have hp:=ZwE x0 x1 x2 x3 h0 h1 h2 h3
 have hm0:IntKind.u32.wrap (x0:Int)=(x0:Int):=IntWalk.u32_in _ (by omega)
 have hm1:IntKind.u32.wrap (x1:Int)=(x1:Int):=IntWalk.u32_in _ (by omega)
 have hm2:IntKind.u32.wrap (x2:Int)=(x2:Int):=IntWalk.u32_in _ (by omega)
 have hm3:IntKind.u32.wrap (x3:Int)=(x3:Int):=IntWalk.u32_in _ (by omega)
 obtain⟨y1,ey1⟩:∃y,y=(x1:Int)*256%4294967296:=⟨_,rfl⟩
 have hy1:IntKind.u32.wrap ((x1:Int)*256)=y1:=by rw[IntKind.wrap_u32,ey1]
 obtain⟨y2,ey2⟩:∃y,y=(x2:Int)*65536%4294967296:=⟨_,rfl⟩
 have hy2:IntKind.u32.wrap ((x2:Int)*65536)=y2:=by rw[IntKind.wrap_u32,ey2]
 obtain⟨y3,ey3⟩:∃y,y=(x3:Int)*16777216%4294967296:=⟨_,rfl⟩
 have hy3:IntKind.u32.wrap ((x3:Int)*16777216)=y3:=by rw[IntKind.wrap_u32,ey3]
 rw[←ey1,←ey2,←ey3] at hp
 generalize ((x0+x1*256+x2*65536+x3*16777216:Nat):Int)=x at *
 clear ey1 ey2 ey3 hB h0 h1 h2 h3
 go_enter Tryz.func159,Tryz.ntmps159
 go_wp2_with fail
 refine ZaC (fun w'=>∃ o d,w'=w.plus o d) (by kernel_rfl) (by kernel_rfl) ⟨#[],_,rfl⟩ ?_
 iterate 23 (refine Zat ⟨_,#[],0,rfl⟩ (Zaa rfl) (by rintro K _ ⟨o,d,rfl⟩ hK;go_simp;exact hK _ ⟨o,d,rfl⟩) ?_)
 refine Zaw ?_
 rintro _ ⟨o1,n1,rfl⟩
 go_wp2_with fail
 go_ret
 exact⟨rfl,Zag (Below.refl _ _) _ _⟩
theorem ZnQ (s:List Int) (i j k l:Nat):ZeW s i j k l=(((s.set i (qr (s.getD i 0) (s.getD j 0) (s.getD k 0) (s.getD l 0)).a).set j (qr (s.getD i 0) (s.getD j 0) (s.getD k 0) (s.getD l 0)).b).set k (qr (s.getD i 0) (s.getD j 0) (s.getD k 0) (s.getD l 0)).c).set l (qr (s.getD i 0) (s.getD j 0) (s.getD k 0) (s.getD l 0)).d:=rfl
theorem Zgr (g cap i j k l:Nat) (s:List Int) (w:World) (hs:s.length=16) (hi:i<j) (hj:j<k) (hk:k<l) (hl:l<16) (h:WordsAt w g s) :
  Calls Tryz.prog 134 #[.slice (some ⟨g,0,none⟩) 16 cap,.int .i64 (i:Int),.int .i64 (j:Int),.int .i64 (k:Int),.int .i64 (l:Int)] w fun e w'=>∃ g' c',e=.returned (.slice (some ⟨g',0,none⟩) 16 c')∧WordsAt w' g' (ZeW s i j k l)∧Below w.heap.size w w':=by
 obtain⟨ie,hie,hz0,hz1,hz2⟩:=info_parts Zdf
 have H:=Zq h
 have Hq:=Zq (ZnQ s i j k l)
 have Hs:=Zq hs
 have hi0:(0:Int)≤(i:Int):=by omega
 have hi1:(i:Int)<16:=by omega
 have hj0:(0:Int)≤(j:Int):=by omega
 have hj1:(j:Int)<16:=by omega
 have hk0:(0:Int)≤(k:Int):=by omega
 have hk1:(k:Int)<16:=by omega
 have hl0:(0:Int)≤(l:Int):=by omega
 have hl1:(l:Int)<16:=by omega
 have hci:=h.2 i (by omega)
 have hcj:=h.2 j (by omega)
 have hck:=h.2 k (by omega)
 have hcl:=h.2 l (by omega)
 have hgl:=h.1
 generalize s.getD i 0=a0 at *
 generalize s.getD j 0=b0 at *
 generalize s.getD k 0=c0 at *
 generalize s.getD l 0=d0 at *
 have n1:¬i=j:=by omega
 have n2:¬i=k:=by omega
 have n3:¬i=l:=by omega
 have n4:¬j=k:=by omega
 have n5:¬j=l:=by omega
 have n6:¬k=l:=by omega
 clear h hs
 go_enter Tryz.func134,Tryz.ntmps134
 go_wp2_with fail
 refine ZaC (fun w'=>∃ o d,w'=w.plus o d) (by kernel_rfl) (by kernel_rfl) ⟨#[],_,rfl⟩ ?_
 iterate 20 (refine Zat ⟨_,#[],0,rfl⟩ (Zaa rfl) (by rintro K _ ⟨o,d,rfl⟩ hK;go_simp;exact hK _ ⟨o,d,rfl⟩) ?_)
 refine Zaw ?_
 rintro _ ⟨o1,n1,rfl⟩
 have B1:=Zq (Zag (Below.refl w.heap.size w) o1 n1)
 have H1:=Zq (H.out.grow B1.out)
 clear hci hcj hck hcl
 generalize w.plus o1 n1=W1 at *
 go_wp2_with fail
 refine(Zsy _ _).mono ?_
 rintro e w' ⟨rfl,hwE⟩
 rw[hwE]
 clear hwE w'
 go_wp2_with fail
 refine(ZrD _ _).mono ?_
 rintro e w' ⟨rfl,hwE⟩
 rw[hwE]
 clear hwE w'
 go_wp2_with fail
 refine(Zue _ _).mono ?_
 rintro e w' ⟨rfl,hwE⟩
 rw[hwE]
 clear hwE w'
 go_wp2_with fail
 refine(Zvj _ _).mono ?_
 rintro e w' ⟨rfl,hwE⟩
 rw[hwE]
 clear hwE w'
 have hsz1:=B1.out.size
 have BA:=Zq (Zab B1.out (.cells #[] 129))
 have HW:=Zq (H1.out.grow (Zab (Below.refl _ _) (.cells #[] 129)))
 obtain⟨v3,w3,hr3,hO3,hgrow3⟩:=Ze2 (k:=16) (cap:=cap) (ZdD W1 w.heap.size hsz1) HW.out Hs.out.symm (by simp;omega) (by rw[Hs.out];decide)
 have B3:=Zq (ZdM BA.out (ZdD W1 w.heap.size hsz1) (by simp;omega) hgrow3)
 rw[List.nil_append] at hO3
 obtain⟨g7,c7,ev7,hg7,hgl7,_⟩:=hO3.addr (k:=16) Hs.out (by decide)
 subst ev7
 have S7:=Zq (hO3.slw hgl7)
 have hcw:∀x,x<16→w3.cell? ⟨g7,x,none⟩=some (.int .u32 (s.getD x 0)):=fun x hx=>S7.out.1.2 x (by rw[Hs.out];exact hx)
 have hfw:∀x,x<16→w3.frozen? ⟨g7,x,none⟩=false:=fun x hx=>S7.out.2 x (by rw[Hs.out];exact hx)
 have hci:=hcw i (by omega)
 have hcj:=hcw j (by omega)
 have hck:=hcw k (by omega)
 have hcl:=hcw l (by omega)
 have hfi:=hfw i (by omega)
 have hfj:=hfw j (by omega)
 have hfk:=hfw k (by omega)
 have hfl:=hfw l (by omega)
 clear hcw hfw hO3 hgrow3 BA HW H1 B1 hsz1
 go_wp2_with (at_builtin;refine Lib.wpList_append_run _ rfl _ _ _ _ rfl _ _ rfl rfl _ _ hr3 ?_)
 go_wp2_with fail
 go_ret
 refine⟨g7,c7,rfl,?_,?_⟩
 ·have h4:=(((S7.out.set (i:=i) (x:=(qr a0 b0 c0 d0).a) (by rw[Hs.out];omega)).set (i:=j) (x:=(qr a0 b0 c0 d0).b) (by rw[List.length_set,Hs.out];omega)).set (i:=k) (x:=(qr a0 b0 c0 d0).c) (by rw[List.length_set,List.length_set,Hs.out];omega)).set (i:=l) (x:=(qr a0 b0 c0 d0).d) (by rw[List.length_set,List.length_set,List.length_set,Hs.out];omega)
  rw[←Hq.out] at h4
  exact h4.1
 ·exact(((B3.out.setCell (p:=⟨_,_,none⟩) hg7 _).setCell (p:=⟨_,_,none⟩) hg7 _).setCell (p:=⟨_,_,none⟩) hg7 _).setCell (p:=⟨_,_,none⟩) hg7 _
@[go_sem] theorem ZuO (w:World) (a b c d:Nat):(bldB 4 #[(0,.int .u8 (a:Int)),(1,.int .u8 (b:Int)),(2,.int .u8 (c:Int)),(3,.int .u8 (d:Int))]).run Tryz.prog w=.ok (.slice (some ⟨w.heap.size,0,none⟩) 4 4) (w.alloc (.cells (bysA [a,b,c,d]) 5)):=by
 obtain⟨ie,h1,h2,h3,_⟩:=info_parts ZcY
 refine run_buildSlice w _ _ 4 _ (bysA [a,b,c,d]) ie _ Tryz.underlying38 h1 h2 (by rw[h3];decide) (by rw[h3];decide) ?_
 rw[h3];kernel_rfl
@[go_sem ↓] theorem Zvx (ps:Array (Nat×Value)):Instr.buildSlice 179 4 ps=bldS 179 4 ps:=rfl
@[go_sem] theorem ZvO (w:World):(bldS 179 4 #[(0,.int .u32 1634760805),(1,.int .u32 857760878),(2,.int .u32 2036477234),(3,.int .u32 1797285236)]).run Tryz.prog w=.ok (.slice (some ⟨w.heap.size,0,none⟩) 4 4) (w.alloc (.cells (wosA cst) 129)):=by
 obtain⟨ie,h1,h2,h3,_⟩:=info_parts Zdf
 refine run_buildSlice w _ _ 4 _ (wosA cst) ie _ Tryz.underlying179 h1 h2 (by rw[h3];decide) (by rw[h3];decide) ?_
 rw[h3];kernel_rfl
theorem ZgE (p:List Int) (f:Nat→Int) (j:Nat):p++(List.range j).map f++[f j]=p++(List.range (j+1)).map f:=by rw[List.range_succ,List.map_append,List.map_singleton,←List.append_assoc]
theorem ZoE (w:World) (l:List Int) (hl:l.length≤16777216):OwnW (w.alloc (.cells (wosA l) 129)) w.heap.size (.slice (some ⟨w.heap.size,0,none⟩) l.length l.length) l:=by
 refine⟨by rw[ZdN,Nat.mul_one],.inr ⟨w.heap.size,l.length,wosA l,rfl,Nat.le_refl _,Zaq w _,Nat.le_refl _,ZaL hl,by rw[Zc3,Nat.mul_one],?_⟩⟩
 rw[Nat.mul_one]
 show List.take l.length (wos l)=wos l
 rw[List.take_of_length_le (by rw[ZdN];exact Nat.le_refl _)]
theorem Zok (k n:List Nat) (c:Int) (hk:k.length=32) (hkb:∀i,k.getD i 0<256) (hn:n.length=12) (hnb:∀i,n.getD i 0<256) (w:World) :
  Calls Tryz.prog 133 #[.agg (bysA k),.agg (bysA n),.int .u32 c] w fun e w'=>∃ g cp,e=.returned (.slice (some ⟨g,0,none⟩) 16 cp)∧WordsAt w' g (fst k n c)∧Below w.heap.size w w':=by
 have hks:=Zae hk
 have hns:=Zae hn
 have Hkl:=Zq hk
 have Hnl:=Zq hn
 clear hk hn
 go_enter Tryz.func133,Tryz.ntmps133
 go_wp2_with fail
 have K1:=Zq (show RowAt ((w.alloc (.cells (bysA k) 23)).alloc (.cells (bysA n) 126)) w.heap.size (bysA k) from (RowAt.of (Zaq w _)).grow (Zab (Below.refl _ _) _))
 have N1:=Zq (show RowAt ((w.alloc (.cells (bysA k) 23)).alloc (.cells (bysA n) 126)) (w.heap.size+1) (bysA n) by have h:=RowAt.of (Zaq (w.alloc (.cells (bysA k) 23)) (.cells (bysA n) 126));simpa using h)
 have B1:=Zq (Zab (Zab (Below.refl w.heap.size w) (.cells (bysA k) 23)) (.cells (bysA n) 126))
 have O0:=Zq (ZoE ((w.alloc (.cells (bysA k) 23)).alloc (.cells (bysA n) 126)) cst (by decide))
 have B0:=Zq (Zab (Below.refl _ ((w.alloc (.cells (bysA k) 23)).alloc (.cells (bysA n) 126))) (.cells (wosA cst) 129))
 have hsz1:((w.alloc (.cells (bysA k) 23)).alloc (.cells (bysA n) 126)).heap.size=w.heap.size+1+1:=by simp
 rw[←hsz1]
 generalize (w.alloc (.cells (bysA k) 23)).alloc (.cells (bysA n) 126)=W1 at *
 clear hsz1
 generalize w.heap.size+1=gn at *
 go_loopw [7,8] (fun v t wr=>∃ j:Nat,j≤8∧t=.int .i64 j∧OwnW wr W1.heap.size v (cst++(List.range j).map (wd k))∧Below W1.heap.size W1 wr) (fun _ t _=>8-(intOf t).toNat)
 case atStart=>exact⟨0,Nat.zero_le _,rfl,by rw[List.range_zero,List.map_nil,List.append_nil];exact O0.out,B0.out⟩
 case round =>
  obtain⟨j,hj,rfl,hown,hbel⟩:=hrel
  have hj0:(0:Int)≤(j:Int):=by omega
  by_cases hjn:j<8
  ·have hj1:(j:Int)<8:=by omega
   have hrow:=K1.out.grow hbel
   have hgl:=hrow.2.2
   obtain⟨i0,e0⟩:∃y,y=4*j+0:=⟨_,rfl⟩
   have hc0:=hrow.cellAt i0 (ZaB k i0 (by rw[Hkl.out];omega))
   have hb0:=hkb i0
   obtain⟨i1,e1⟩:∃y,y=4*j+1:=⟨_,rfl⟩
   have hc1:=hrow.cellAt i1 (ZaB k i1 (by rw[Hkl.out];omega))
   have hb1:=hkb i1
   obtain⟨i2,e2⟩:∃y,y=4*j+2:=⟨_,rfl⟩
   have hc2:=hrow.cellAt i2 (ZaB k i2 (by rw[Hkl.out];omega))
   have hq2:=hkb i2
   obtain⟨i3,e3⟩:∃y,y=4*j+3:=⟨_,rfl⟩
   have hc3:=hrow.cellAt i3 (ZaB k i3 (by rw[Hkl.out];omega))
   have hb3:=hkb i3
   have Hw:=Zq (show (((k.getD i0 0+k.getD i1 0*256+k.getD i2 0*65536+k.getD i3 0*16777216:Nat)):Int)=wd k j by unfold wd;rw[Zu3,e0,e1,e2,e3];rfl)
   generalize k.getD i0 0=x0 at *
   have ha0:(0:Int)≤(i0:Int):=by omega
   have hd0:(i0:Int)<32:=by omega
   generalize k.getD i1 0=x1 at *
   have ha1:(0:Int)≤(i1:Int):=by omega
   have hd1:(i1:Int)<32:=by omega
   generalize k.getD i2 0=x2 at *
   have ha2:(0:Int)≤(i2:Int):=by omega
   have hd2:(i2:Int)<32:=by omega
   generalize k.getD i3 0=x3 at *
   have ha3:(0:Int)≤(i3:Int):=by omega
   have hd3:(i3:Int)<32:=by omega
   have hw0:IntKind.i64.wrap (4*(j:Int))=(i0:Int):=by rw[IntWalk.i64_in _ (by omega)];omega
   have hw1:IntKind.i64.wrap ((i0:Int)+1)=(i1:Int):=by rw[IntWalk.i64_in _ (by omega)];omega
   have hw2:IntKind.i64.wrap ((i0:Int)+2)=(i2:Int):=by rw[IntWalk.i64_in _ (by omega)];omega
   have hw3:IntKind.i64.wrap ((i0:Int)+3)=(i3:Int):=by rw[IntWalk.i64_in _ (by omega)];omega
   have hlen:(cst++(List.range j).map (wd k)).length≤16:=by simp[cst];omega
   have HL:=Zq (show cst++(List.range j).map (wd k)++[wd k j]=cst++(List.range (j+1)).map (wd k) from ZgE _ _ _)
   generalize cst++(List.range j).map (wd k)=L at *
   have Hlen:=Zq hlen
   have Hown:=Zq hown
   have Hbel:=Zq hbel
   clear e0 e1 e2 e3 hlen hown hbel hrow
   go_wp2_with fail
   refine Zal wr [0,1,2,3,4,5,6,7,8,9,10,11,12,13,14,15,16,17,18,19] [true,false,false,false,false,false,false,false,false,false,false,false,false,false,false,false,false,false,false,false] [] [] 20 (by kernel_rfl) rfl (by kernel_rfl) (by intro c a d v w h;cases d<;>exact h) ((Below.refl _ _).drew) ?_
   simp only[pick,List.getElem?_cons_succ,List.getElem?_cons_zero,List.drop_succ_cons,List.drop_zero]
   refine Zay (Zaa rfl) (fun w=>by go_simp;rfl) ?_
   iterate 19 (refine Zac (Zaa rfl) (by intro K o d hK;go_simp;exact hK _ (Below.refl _ _)) ?_)
   refine Zan ?_
   intro w2 hb2 _
   have Ho2:=Zq (Hown.out.below hb2)
   have Hb2:=Zq (Hbel.out.trans (hb2.mono Hbel.out.size))
   clear hb2 hc0 hc1 hc2 hc3 Hown Hbel
   go_wp2_with fail
   refine(ZqY _ 4 x0 x1 x2 x3 hb0 hb1 hq2 hb3 _ (Zbr w2 [x0,x1,x2,x3] 5 (0,0))).mono ?_
   rintro e w3 ⟨rfl,hb3'⟩
   rw[Hw.out]
   have hbA:=Zab (Below.refl w2.heap.size w2) (.cells (bysA [x0,x1,x2,x3]) 5)
   have hb23:Below w2.heap.size w2 w3:=hbA.trans (hb3'.mono hbA.size)
   have Ho3:=Zq (Ho2.out.below hb23)
   have Hb3:=Zq (Hb2.out.trans (hb23.mono Hb2.out.size))
   clear hbA hb23 hb3' Ho2 Hb2
   generalize wd k j=x at *
   have hbB:=Zab (Below.refl w3.heap.size w3) (.cells (wosA [x]) 129)
   have hsz3:=Hb3.out.size
   obtain⟨v4,w4,hr4,hO4,hg4⟩:=Ze2 (k:=1) (cap:=1) (Ho3.out.below hbB) (Zeb w3 [x] 129) rfl (by simp;omega) (by have:=Hlen.out;simp only[List.length_cons,List.length_nil];omega)
   have Hb4:=Zq (ZdM (Hb3.out.alloc hsz3 (.cells (wosA [x]) 129)) (Ho3.out.below hbB) (by simp;omega) hg4)
   have Ho4:=Zq hO4
   rw[HL.out] at Ho4
   have hr5:(Builtin.append_ #[179,179] 179 #[u7,.slice (some ⟨w3.heap.size,0,none⟩) 1 1]).run Tryz.prog (w3.alloc (.cells #[.int .u32 x] 129))=.ok v4 w4:=hr4
   clear hbB hO4 hg4 Ho3 Hb3 hsz3 hr4
   go_wp2_with (at_builtin;refine Lib.wpList_append_run _ rfl _ _ _ _ rfl _ _ rfl rfl _ _ hr5 ?_)
   go_wp2_with fail
   go_roundw
   case rel=>exact⟨j+1,by omega,by go_num,Ho4.out,Hb4.out⟩
   case measure=>simp[intOf];omega
  ·obtain rfl:j=8:=by omega
   rw[show ((8:Nat):Int)=8 from rfl]
   have hlen8:(cst++(List.range 8).map (wd k)).length=12:=by simp[cst]
   have hbB:=Zab (Below.refl wr.heap.size wr) (.cells (wosA [c]) 129)
   have hsz3:=hbel.size
   obtain⟨v4,w4,hr4,hO4,hg4⟩:=Ze2 (k:=1) (cap:=1) (hown.below hbB) (Zeb wr [c] 129) rfl (by simp;omega) (by rw[hlen8];show 13≤16777216;decide)
   have B2:=Zq (ZdM (hbel.alloc hsz3 (.cells (wosA [c]) 129)) (hown.below hbB) (by simp;omega) hg4)
   have O2:=Zq hO4
   have hr5:(Builtin.append_ #[179,179] 179 #[u7,.slice (some ⟨wr.heap.size,0,none⟩) 1 1]).run Tryz.prog (wr.alloc (.cells #[.int .u32 c] 129))=.ok v4 w4:=hr4
   clear hbB hO4 hg4 hsz3 hr4 hown hbel hlen8
   go_wp2_with (at_builtin;refine Lib.wpList_append_run _ rfl _ _ _ _ rfl _ _ rfl rfl _ _ hr5 ?_)
   go_wp2_with fail
   clear O0 B0
   have O0:=O2
   have B0:=B2
   go_loopw [7,9] (fun v t wr=>∃ j:Nat,j≤3∧t=.int .i64 j∧OwnW wr W1.heap.size v ((cst++(List.range 8).map (wd k)++[c])++(List.range j).map (wd n))∧Below W1.heap.size W1 wr) (fun _ t _=>3-(intOf t).toNat)
   case atStart=>exact⟨0,Nat.zero_le _,rfl,by rw[List.range_zero,List.map_nil,List.append_nil];exact O0.out,B0.out⟩
   case round =>
    obtain⟨j,hj,rfl,hown,hbel⟩:=hrel
    have hj0:(0:Int)≤(j:Int):=by omega
    by_cases hjn:j<3
    ·have hj1:(j:Int)<3:=by omega
     have hrow:=N1.out.grow hbel
     have hgl:=hrow.2.2
     obtain⟨i0,e0⟩:∃y,y=4*j+0:=⟨_,rfl⟩
     have hc0:=hrow.cellAt i0 (ZaB n i0 (by rw[Hnl.out];omega))
     have hb0:=hnb i0
     obtain⟨i1,e1⟩:∃y,y=4*j+1:=⟨_,rfl⟩
     have hc1:=hrow.cellAt i1 (ZaB n i1 (by rw[Hnl.out];omega))
     have hb1:=hnb i1
     obtain⟨i2,e2⟩:∃y,y=4*j+2:=⟨_,rfl⟩
     have hc2:=hrow.cellAt i2 (ZaB n i2 (by rw[Hnl.out];omega))
     have hq2:=hnb i2
     obtain⟨i3,e3⟩:∃y,y=4*j+3:=⟨_,rfl⟩
     have hc3:=hrow.cellAt i3 (ZaB n i3 (by rw[Hnl.out];omega))
     have hb3:=hnb i3
     have Hw:=Zq (show (((n.getD i0 0+n.getD i1 0*256+n.getD i2 0*65536+n.getD i3 0*16777216:Nat)):Int)=wd n j by unfold wd;rw[Zu3,e0,e1,e2,e3];rfl)
     generalize n.getD i0 0=x0 at *
     have ha0:(0:Int)≤(i0:Int):=by omega
     have hd0:(i0:Int)<12:=by omega
     generalize n.getD i1 0=x1 at *
     have ha1:(0:Int)≤(i1:Int):=by omega
     have hd1:(i1:Int)<12:=by omega
     generalize n.getD i2 0=x2 at *
     have ha2:(0:Int)≤(i2:Int):=by omega
     have hd2:(i2:Int)<12:=by omega
     generalize n.getD i3 0=x3 at *
     have ha3:(0:Int)≤(i3:Int):=by omega
     have hd3:(i3:Int)<12:=by omega
     have hw0:IntKind.i64.wrap (4*(j:Int))=(i0:Int):=by rw[IntWalk.i64_in _ (by omega)];omega
     have hw1:IntKind.i64.wrap ((i0:Int)+1)=(i1:Int):=by rw[IntWalk.i64_in _ (by omega)];omega
     have hw2:IntKind.i64.wrap ((i0:Int)+2)=(i2:Int):=by rw[IntWalk.i64_in _ (by omega)];omega
     have hw3:IntKind.i64.wrap ((i0:Int)+3)=(i3:Int):=by rw[IntWalk.i64_in _ (by omega)];omega
     have hlen:((cst++(List.range 8).map (wd k)++[c])++(List.range j).map (wd n)).length≤16:=by simp[cst];omega
     have HL:=Zq (show (cst++(List.range 8).map (wd k)++[c])++(List.range j).map (wd n)++[wd n j]=(cst++(List.range 8).map (wd k)++[c])++(List.range (j+1)).map (wd n) from ZgE _ _ _)
     generalize (cst++(List.range 8).map (wd k)++[c])++(List.range j).map (wd n)=L at *
     have Hlen:=Zq hlen
     have Hown:=Zq hown
     have Hbel:=Zq hbel
     clear e0 e1 e2 e3 hlen hown hbel hrow
     go_wp2_with fail
     refine Zal wr [0,1,2,3,4,5,6,7,8,9,10,11,12,13,14,15,16,17,18,19] [true,false,false,false,false,false,false,false,false,false,false,false,false,false,false,false,false,false,false,false] [] [] 20 (by kernel_rfl) rfl (by kernel_rfl) (by intro c a d v w h;cases d<;>exact h) ((Below.refl _ _).drew) ?_
     simp only[pick,List.getElem?_cons_succ,List.getElem?_cons_zero,List.drop_succ_cons,List.drop_zero]
     refine Zay (Zaa rfl) (fun w=>by go_simp;rfl) ?_
     iterate 19 (refine Zac (Zaa rfl) (by intro K o d hK;go_simp;exact hK _ (Below.refl _ _)) ?_)
     refine Zan ?_
     intro w2 hb2 _
     have Ho2:=Zq (Hown.out.below hb2)
     have Hb2:=Zq (Hbel.out.trans (hb2.mono Hbel.out.size))
     clear hb2 hc0 hc1 hc2 hc3 Hown Hbel
     go_wp2_with fail
     refine(ZqY _ 4 x0 x1 x2 x3 hb0 hb1 hq2 hb3 _ (Zbr w2 [x0,x1,x2,x3] 5 (0,0))).mono ?_
     rintro e w3 ⟨rfl,hb3'⟩
     rw[Hw.out]
     have hbA:=Zab (Below.refl w2.heap.size w2) (.cells (bysA [x0,x1,x2,x3]) 5)
     have hb23:Below w2.heap.size w2 w3:=hbA.trans (hb3'.mono hbA.size)
     have Ho3:=Zq (Ho2.out.below hb23)
     have Hb3:=Zq (Hb2.out.trans (hb23.mono Hb2.out.size))
     clear hbA hb23 hb3' Ho2 Hb2
     generalize wd n j=x at *
     have hbB:=Zab (Below.refl w3.heap.size w3) (.cells (wosA [x]) 129)
     have hsz3:=Hb3.out.size
     obtain⟨v4,w4,hr4,hO4,hg4⟩:=Ze2 (k:=1) (cap:=1) (Ho3.out.below hbB) (Zeb w3 [x] 129) rfl (by simp;omega) (by have:=Hlen.out;simp only[List.length_cons,List.length_nil];omega)
     have Hb4:=Zq (ZdM (Hb3.out.alloc hsz3 (.cells (wosA [x]) 129)) (Ho3.out.below hbB) (by simp;omega) hg4)
     have Ho4:=Zq hO4
     rw[HL.out] at Ho4
     have hr5:(Builtin.append_ #[179,179] 179 #[u7,.slice (some ⟨w3.heap.size,0,none⟩) 1 1]).run Tryz.prog (w3.alloc (.cells #[.int .u32 x] 129))=.ok v4 w4:=hr4
     clear hbB hO4 hg4 Ho3 Hb3 hsz3 hr4
     go_wp2_with (at_builtin;refine Lib.wpList_append_run _ rfl _ _ _ _ rfl _ _ rfl rfl _ _ hr5 ?_)
     go_wp2_with fail
     go_roundw
     case rel=>exact⟨j+1,by omega,by go_num,Ho4.out,Hb4.out⟩
     case measure=>simp[intOf];omega
    ·obtain rfl:j=3:=by omega
     obtain⟨g,cp,ev,hg,hgl,hc⟩:=OwnW.addr (k:=16) hown (by simp[cst]) (by decide)
     subst ev
     have HW:=Zq (show WordsAt wr g (fst k n c) from hown.words hgl)
     have HB:=Zq (B1.out.trans (hbel.mono B1.out.size))
     clear hown hbel
     go_wp2_with fail
     go_ret
     exact⟨_,_,rfl,HW.out,HB.out⟩
theorem Sets.words {w w':World} {g b:Nat} {c:Array Value} {l:List Int} (s:Sets w g c w') (h:WordsAt w b l) (hn:b≠g):WordsAt w' b l:=by
 obtain⟨os,d,rfl⟩:=s
 have h1:WordsAt (w.setRow g c) b l:=⟨by rw[size_setRow];exact h.1,fun i hi=>by rw[World.cell?_of_block (w:=w) (setRow_other w g b c hn)];exact h.2 i hi⟩
 exact h1.grow (Zag (Below.refl _ _) os d)
theorem Zp2 (k n:List Nat) (c:Nat) (hk:k.length=32) (hkb:∀i,k.getD i 0<256) (hn:n.length=12) (hnb:∀i,n.getD i 0<256) (w:World) :
  Calls Tryz.prog 103 #[.agg (bysA k),.agg (bysA n),.int .u32 (c:Int)] w fun e w'=>e=.returned (.agg (bysA (blk k n c)))∧Below w.heap.size w w':=by
 have hks:=Zae hk
 have hns:=Zae hn
 have HF:=Zq (Zok k n (c:Int) hk hkb hn hnb)
 have Hb:=Zq (Zqt k n c)
 have hlf:=ZdJ k n (c:Int)
 generalize fst k n (c:Int)=F at *
 have Hlf:=Zq hlf
 clear hlf hk hkb hn hnb
 go_enter Tryz.func103,Tryz.ntmps103
 go_wp2_with fail
 generalize hW:World.alloc _ _=W1
 obtain⟨z0,hz0,hR0⟩:∃c:Array Value,c.size=64∧RowAt W1 (w.heap.size+1+1) c:=by rw[←hW];clear hW;exact⟨bysA (zs 64),by rw[Zaj];rfl,by go_simp,by go_simp;rfl,by go_simp⟩
 have R1:=Zq hR0
 have B1:=Zq (show Below w.heap.size w W1 by rw[←hW];repeat (first | apply Zag | apply Zab | apply Below.drew | exact Below.refl _ _))
 clear hW hR0
 have l1:w.heap.size≤w.heap.size+1+1:=by omega
 generalize w.heap.size+1+1=gr at *
 refine(HF.out _).mono ?_
 rintro e W2 ⟨gw,cw,rfl,hw2,hb2⟩
 have R2:=Zq (R1.out.grow hb2)
 have B2:=Zq (B1.out.trans (hb2.mono B1.out.size))
 have F2:=Zq hw2
 clear hb2 hw2 R1 B1 HF
 go_wp2_with fail
 go_loopw [8,9] (fun v t wr=>∃ (m g cg:Nat),m≤10∧t=.int .i64 m∧v=.slice (some ⟨g,0,none⟩) 16 cg∧WordsAt wr g (ZdO F m)∧Below W2.heap.size W2 wr) (fun _ t _=>10-(intOf t).toNat)
 case atStart=>exact⟨0,gw,cw,Nat.zero_le _,rfl,rfl,F2.out,Below.refl _ _⟩
 case round =>
  obtain⟨m,g,cg,hm,rfl,rfl,hwd,hbel⟩:=hrel
  by_cases hm10:m<10
  ·have hm1:(m:Int)<10:=by omega
   have HE:=Zq (show ZdO F (m+1)=dias (cols (ZdO F m) 4) 4 from rfl)
   have hlD:(ZdO F m).length=16:=by rw[ZcS,Hlf.out]
   have HlD:=Zq hlD
   generalize ZdO F m=D at *
   have HW:=Zq hwd
   have HB:=Zq hbel
   clear hwd hbel hlD
   obtain⟨W3,eW3⟩:∃x,x=wr:=⟨_,rfl⟩
   rw[←eW3] at HW HB ⊢
   clear eW3
   go_wp2_with fail
   go_loopw [8,10] (fun v t wr=>∃ (i g cg:Nat),i≤4∧t=.int .i64 i∧v=.slice (some ⟨g,0,none⟩) 16 cg∧WordsAt wr g (cols D i)∧Below W2.heap.size W2 wr) (fun _ t _=>4-(intOf t).toNat)
   case atStart=>exact⟨0,g,cg,Nat.zero_le _,rfl,rfl,HW.out,HB.out⟩
   case round =>
    obtain⟨i,g,cg,hi,rfl,rfl,hwd,hbel⟩:=hrel
    by_cases hi4:i<4
    ·have hi0:(i:Int)<4:=by omega
     have h1:IntKind.i64.wrap ((i:Int)+4)=((4+i:Nat):Int):=by rw[IntWalk.i64_in _ (by omega)];omega
     have h2:IntKind.i64.wrap ((i:Int)+8)=((8+i:Nat):Int):=by rw[IntWalk.i64_in _ (by omega)];omega
     have h3:IntKind.i64.wrap ((i:Int)+12)=((12+i:Nat):Int):=by rw[IntWalk.i64_in _ (by omega)];omega
     have HQ:=Zq (Zgr g cg i (4+i) (8+i) (12+i) (cols D i) wr (by rw[ZcE,HlD.out]) (by omega) (by omega) (by omega) (by omega) hwd)
     have HE2:=Zq (show cols D (i+1)=ZeW (cols D i) i (4+i) (8+i) (12+i) from rfl)
     generalize ((4+i:Nat):Int)=x1 at *
     generalize ((8+i:Nat):Int)=x2 at *
     generalize ((12+i:Nat):Int)=x3 at *
     have HB3:=Zq hbel
     clear hbel hwd
     go_wp2_with fail
     refine HQ.out.mono ?_
     rintro e W ⟨g2,c2,rfl,hw3,hb3⟩
     have HW4:=Zq hw3
     have HB4:=Zq (HB3.out.trans (hb3.mono HB3.out.size))
     clear hw3 hb3
     go_wp2_with fail
     go_roundw
     case rel=>exact⟨i+1,g2,c2,by omega,by go_num,rfl,by rw[HE2.out];exact HW4.out,HB4.out⟩
     case measure=>simp[intOf];omega
    ·obtain rfl:i=4:=by omega
     rw[show ((4:Nat):Int)=4 from rfl]
     have HW4:=Zq hwd
     have HB4:=Zq hbel
     clear hwd hbel
     obtain⟨W4,eW4⟩:∃x,x=wr:=⟨_,rfl⟩
     rw[←eW4] at HW4 HB4 ⊢
     clear eW4
     go_wp2_with fail
     go_loopw [8,11] (fun v t wr=>∃ (i g cg:Nat),i≤4∧t=.int .i64 i∧v=.slice (some ⟨g,0,none⟩) 16 cg∧WordsAt wr g (dias (cols D 4) i)∧Below W2.heap.size W2 wr) (fun _ t _=>4-(intOf t).toNat)
     case atStart=>exact⟨0,g,cg,Nat.zero_le _,rfl,rfl,HW4.out,HB4.out⟩
     case round =>
      obtain⟨i,g,cg,hi,rfl,rfl,hwd,hbel⟩:=hrel
      by_cases hi4:i<4
      ·have hn0:(i:Int)<4:=by omega
       have h1:IntKind.i64.wrap ((i:Int)+1)=((i+1:Nat):Int):=by rw[IntWalk.i64_in _ (by omega)];omega
       have h2:IntKind.i64.wrap ((i:Int)+2)=((i+2:Nat):Int):=by rw[IntWalk.i64_in _ (by omega)];omega
       have h3:IntKind.i64.wrap ((i:Int)+3)=((i+3:Nat):Int):=by rw[IntWalk.i64_in _ (by omega)];omega
       have t1:((i+1:Nat):Int).tmod 4=(((i+1)%4:Nat):Int):=rfl
       have t2:((i+2:Nat):Int).tmod 4=(((i+2)%4:Nat):Int):=rfl
       have t3:((i+3:Nat):Int).tmod 4=(((i+3)%4:Nat):Int):=rfl
       have m1:IntKind.i64.wrap (4+(((i+1)%4:Nat):Int))=((4+(i+1)%4:Nat):Int):=by rw[IntWalk.i64_in _ (by omega)];omega
       have m2:IntKind.i64.wrap (8+(((i+2)%4:Nat):Int))=((8+(i+2)%4:Nat):Int):=by rw[IntWalk.i64_in _ (by omega)];omega
       have m3:IntKind.i64.wrap (12+(((i+3)%4:Nat):Int))=((12+(i+3)%4:Nat):Int):=by rw[IntWalk.i64_in _ (by omega)];omega
       have HQ:=Zq (Zgr g cg i (4+(i+1)%4) (8+(i+2)%4) (12+(i+3)%4) (dias (cols D 4) i) wr (by rw[Zd6,ZcE,HlD.out]) (by omega) (by omega) (by omega) (by omega) hwd)
       have HE2:=Zq (show dias (cols D 4) (i+1)=ZeW (dias (cols D 4) i) i (4+(i+1)%4) (8+(i+2)%4) (12+(i+3)%4) from rfl)
       generalize ((4+(i+1)%4:Nat):Int)=x1 at *
       generalize ((8+(i+2)%4:Nat):Int)=x2 at *
       generalize ((12+(i+3)%4:Nat):Int)=x3 at *
       generalize (((i+1)%4:Nat):Int)=y1 at *
       generalize (((i+2)%4:Nat):Int)=y2 at *
       generalize (((i+3)%4:Nat):Int)=y3 at *
       generalize ez1:((i+1:Nat):Int)=z1 at *
       have Ez1:=Zq ez1
       clear ez1
       generalize ((i+2:Nat):Int)=z2 at *
       generalize ((i+3:Nat):Int)=z3 at *
       have HB5:=Zq hbel
       clear hwd hbel
       go_wp2_with fail
       refine HQ.out.mono ?_
       rintro e W ⟨g2,c2,rfl,hw3,hb3⟩
       have HW6:=Zq hw3
       have HB6:=Zq (HB5.out.trans (hb3.mono HB5.out.size))
       clear hw3 hb3
       go_wp2_with fail
       go_roundw
       case rel=>exact⟨i+1,g2,c2,by omega,by rw[Ez1.out],rfl,by rw[HE2.out];exact HW6.out,HB6.out⟩
       case measure=>have:=Ez1.out;simp[intOf];omega
      ·obtain rfl:i=4:=by omega
       have HW5:=Zq hwd
       have HB5:=Zq hbel
       clear hwd hbel
       go_wp2_with fail
       go_roundw
       case rel=>exact⟨m+1,g,cg,by omega,by go_num,rfl,by rw[HE.out];exact HW5.out,HB5.out⟩
       case measure=>simp[intOf];omega
  ·obtain rfl:m=10:=by omega
   rw[show ((10:Nat):Int)=10 from rfl]
   have hlD:(ZdO F 10).length=16:=by rw[ZcS,Hlf.out]
   have HlD:=Zq hlD
   generalize ZdO F 10=D at *
   have HW:=Zq hwd
   have HB:=Zq hbel
   clear hwd hbel hlD
   obtain⟨W3,eW3⟩:∃x,x=wr:=⟨_,rfl⟩
   rw[←eW3] at HW HB ⊢
   clear eW3
   go_wp2_with fail
   generalize hW:World.alloc _ _=W4
   have O4:=Zq (show RowAt W4 W3.heap.size (bysA (outP (Zdy D F) 0)) by rw[←hW,Zf4];clear hW;exact⟨by go_simp,by go_simp;rfl,by go_simp⟩)
   have hbA:Below W3.heap.size W3 W4:=by rw[←hW];exact Zab (Below.refl _ _) _
   have D4:=Zq (HW.out.grow hbA)
   have F4:=Zq ((F2.out.grow HB.out).grow hbA)
   have R4:=Zq ((R2.out.grow HB.out).grow hbA)
   have B4:=Zq ((B2.out.trans (HB.out.mono B2.out.size)).trans (hbA.mono (Nat.le_trans B2.out.size HB.out.size)))
   have q1:g≠W3.heap.size:=by have:=HW.out.1;omega
   have q2:gw≠W3.heap.size:=by have:=(F2.out.grow HB.out).1;omega
   have q3:gr≠W3.heap.size:=by have:=(R2.out.grow HB.out).2.2;omega
   have q4:w.heap.size≤W3.heap.size:=by have:=B2.out.size;have:=HB.out.size;omega
   clear hW hbA HW HB
   generalize W3.heap.size=go at *
   go_loopw [13] (fun t wr=>∃ i:Nat,i≤64∧t=.int .i64 i∧Sets W4 go (bysA (outP (Zdy D F) i)) wr) (fun t _=>64-(intOf t).toNat)
   case atStart=>exact⟨0,Nat.zero_le _,rfl,Sets.refl O4.out⟩
   case round =>
    obtain⟨i,hi,rfl,hset⟩:=hrel
    by_cases hi64:i<64
    ·have hi0:(0:Int)≤(i:Int):=by omega
     have hi1:(i:Int)<64:=by omega
     have hq:(i:Int).tdiv 4=((i/4:Nat):Int):=rfl
     have hm:(i:Int).tmod 4=((i%4:Nat):Int):=rfl
     have hrow:=hset.row O4.out
     have hcd:=(hset.words D4.out q1).2 (i/4) (by rw[HlD.out];omega)
     have hcf:=(hset.words F4.out q2).2 (i/4) (by rw[Hlf.out];omega)
     have hgd:=(hset.words D4.out q1).1
     have hgf:=(hset.words F4.out q2).1
     have hck:=hrow.cellAt i (ZaB _ i (by rw[Zby];exact hi64))
     have hgo:=hrow.2.2
     have Hset:=Zq (Zkc (Zdy D F) i hi64)
     have h0:(0:Int)≤((i/4:Nat):Int):=by omega
     have h8:((i/4:Nat):Int)<16:=by omega
     obtain⟨x,ex⟩:∃y,y=i%4*8:=⟨_,rfl⟩
     have h1:IntKind.i64.wrap (8*((i%4:Nat):Int))=(x:Int):=by rw[IntWalk.i64_in _ (by omega)];omega
     have h2:IntKind.u64.wrap (x:Int)=(x:Int):=IntWalk.u64_in _ (by omega)
     have hm0:(0:Int)≤(x:Int):=by omega
     have hm1:(x:Int)≤32:=by omega
     obtain⟨v,ev⟩:∃v,v=oB (Zdy D F) i:=⟨_,rfl⟩
     rw[←ev] at Hset
     have hv:ZaP (D.getD (i/4) 0) (F.getD (i/4) 0)/2^x%256=(v:Int):=by rw[ev,Zl2,ex,←Znp D F (i/4) (by omega)];rfl
     clear ex ev
     generalize D.getD (i/4) 0=xd at hcd hv
     generalize F.getD (i/4) 0=xf at hcf hv
     have hqw:IntKind.i64.wrap ((i/4:Nat):Int)=((i/4:Nat):Int):=IntWalk.i64_in _ (by omega)
     generalize i/4=q at *
     generalize i%4=r4 at *
     have HS:=Zq hset
     clear hset hrow
     go_wp2_with fail
     refine Zal wr [0,1,2,3,4,5,6,7,8,9,10,11,12,13,14,15,16,17,18] [false,false,false,false,false,false,false,false,false,false,false,false,false,false,false,false,false,false,false] [] [] 19 (by kernel_rfl) rfl (by kernel_rfl) (by intro c a d v w h;cases d<;>exact h) ((Below.refl _ _).drew) ?_
     simp only[pick,List.getElem?_cons_succ,List.getElem?_cons_zero,List.drop_succ_cons,List.drop_zero]
     iterate 19 (refine Zac (Zaa rfl) (by intro K o d hK;go_simp;exact hK _ (Below.refl _ _)) ?_)
     refine Zan ?_
     intro w2 hb2 _
     have S2:=Zq (HS.out.grow hb2)
     have hc2:=(S2.out.row O4.out).cellAt i (ZaB _ i (by rw[Zby];exact hi64))
     have hf2:=(S2.out.row O4.out).frozenAt i
     clear hb2 hck hcd hcf HS
     go_wp2_with fail
     go_roundw
     case rel =>
      refine⟨i+1,by omega,by go_num,?_⟩
      rw[←Hset.out,←Zca];exact S2.out.cell O4.out
     case measure=>simp[intOf];omega
    ·obtain rfl:i=64:=by omega
     rw[Zj0] at hset
     obtain⟨c1,c2,c3⟩:=hset.row O4.out
     obtain⟨r1,r2,r3⟩:=hset.old R4.out q3
     have B5:=Zq (hset.below B4.out q4 B4.out.size)
     have hy:=Zae (Zc8 (Zdy D F))
     clear hset
     go_wp2_with fail
     refine bodyPost_ret (v:=.agg (bysA (outB (Zdy D F)))) (Zd3 Tryz.results103 hy _ _ _ rfl (by go_simp) (by go_simp)) rfl ⟨by rw[Hb.out],?_⟩
     exact Zad B5.out l1 _
end Go.Proofs.YtddmjddlbhdcpaaGreatDoor
namespace Go.Ch
open Go Go.Sh
theorem ZoH (k n:List Nat) (c a b:Nat) (h:b≤a):(strm k n c a).take b=strm k n c b:=by
 unfold strm
 rw[←List.map_take,List.take_range,Nat.min_eq_left h]
theorem Zmb (k n:List Nat) (c j:Nat):strm k n c (64*j)++blk k n (c+j)=strm k n c (64*(j+1)):=by
 have hb:=ZdB k n (c+j)
 apply List.ext_getElem?
 intro i
 by_cases h:i<64*j
 ·rw[List.getElem?_append_left (by rw[ZbJ];exact h)]
  simp only[strm,List.getElem?_map,List.getElem?_range h,List.getElem?_range (show i<64*(j+1) by omega)]
 ·rw[List.getElem?_append_right (by rw[ZbJ];omega),ZbJ]
  by_cases h2:i<64*(j+1)
  ·rw[List.getElem?_eq_getElem (show i-64*j<(blk k n (c+j)).length by omega)]
   simp only[strm,List.getElem?_map,List.getElem?_range h2,Option.map_some]
   unfold stB
   rw[show c+i/64=c+j by omega,show i%64=i-64*j by omega]
   simp[List.getD,hb,show i-64*j<64 by omega]
  ·rw[List.getElem?_eq_none (by omega),List.getElem?_eq_none (by rw[ZbJ];omega)]
theorem Zm1 (a b:List Nat) (j:Nat) (h:j<b.length):(mixd a b).take j++[a.getD j 0 ^^^ b.getD j 0]=(mixd a b).take (j+1):=by
 rw[List.take_add_one,List.getElem?_eq_getElem (by rw[ZaJ];exact h)]
 simp[mixd]
end Go.Ch
namespace Go.Proofs.YtddmjddlbhdcpaaGreatDoor
open Go.RowKit Go.Hold Go.Sh Go.Ch
theorem ZaM {w w':World} {g:Nat} {c:Array Value} {r:Option Nat} (h:RowAt w g c) (hg:w.grownBy w' r) (hn:r≠some g):RowAt w' g c:=by
 obtain⟨t,ht⟩:=h.block
 exact RowAt.of (t:=t) (by rw[hg.block g h.2.2 (by intro e;exact hn (by rw[e]))];exact ht)
theorem Zk3 (k n:List Nat) (c m:Nat) (hk:k.length=32) (hkb:∀i,k.getD i 0<256) (hn:n.length=12) (hnb:∀i,n.getD i 0<256) (hm:m≤65536) (hc:c+(m+63)/64≤4294967296) (hc':c<4294967296) (w:World) :
  Calls Tryz.prog 76 #[.agg (bysA k),.agg (bysA n),.int .u32 (c:Int),.int .i64 (m:Int)] w fun e w'=>∃ p cp,e=.returned (.tuple #[.slice p m cp,.int .i64 0])∧Bs0 w' p (strm k n c m)∧m≤cp∧(p=none→cp=0)∧Below w.heap.size w w':=by
 have hks:=Zae hk
 have hns:=Zae hn
 have h3:¬(m:Int)<0:=by omega
 have h4:¬(65536:Int)<(m:Int):=by omega
 have k1:IntKind.i64.wrap ((m:Int)+63)=((m+63:Nat):Int):=by rw[IntWalk.i64_in _ (by omega)];omega
 have k2:((m+63:Nat):Int).tdiv 64=(((m+63)/64:Nat):Int):=rfl
 obtain⟨x,ex⟩:∃x,x=(m+63)/64:=⟨_,rfl⟩
 rw[←ex] at hc k2
 generalize ((m+63:Nat):Int)=y1 at *
 have h5:IntKind.u64.wrap (c:Int)=(c:Int):=IntWalk.u64_in _ (by omega)
 have h6:IntKind.u64.wrap (x:Int)=(x:Int):=IntWalk.u64_in _ (by omega)
 have h6i:IntKind.i64.wrap (x:Int)=(x:Int):=IntWalk.i64_in _ (by omega)
 have h7:IntKind.u64.wrap ((c:Int)+(x:Int))=((c+x:Nat):Int):=by rw[IntWalk.u64_in _ (by omega)];omega
 have h8:¬(4294967296:Int)<((c+x:Nat):Int):=by omega
 generalize ((c+x:Nat):Int)=y at *
 have Ex:=Zq ex
 have Hc:=Zq hc
 have Hm:=Zq hm
 have hxb:(x:Int)≤2000:=by omega
 clear ex hc hm
 have HBl:=Zq (fun c'=>Zp2 k n c' hk hkb hn hnb)
 clear hk hkb hn hnb
 go_enter Tryz.func76,Tryz.ntmps76
 go_wp2_with fail
 generalize hW:World.alloc _ _=W1
 have K1:=Zq (show RowAt W1 w.heap.size (bysA k) by rw[←hW];clear hW;exact⟨by go_simp,by go_simp,by go_simp⟩)
 have N1:=Zq (show RowAt W1 (w.heap.size+1) (bysA n) by rw[←hW];clear hW;exact⟨by go_simp,by go_simp,by go_simp⟩)
 have B1:=Zq (show Below w.heap.size w W1 by rw[←hW];repeat (first | apply Zag | apply Zab | apply Below.drew | exact Below.refl _ _))
 clear hW
 generalize w.heap.size+1=gn at *
 go_loopw [10,11] (fun v t wr=>∃ j:Nat,j≤x∧t=.int .i64 ((64*j:Nat):Int)∧OwnB wr W1.heap.size v (strm k n c (64*j))∧Below W1.heap.size W1 wr) (fun _ t _=>64*x-(intOf t).toNat)
 case atStart=>exact⟨0,Nat.zero_le _,rfl,Zbk W1 _,Below.refl _ _⟩
 case round =>
  obtain⟨j,hj,rfl,hown,hbel⟩:=hrel
  obtain⟨u,eu⟩:∃u,u=64*j:=⟨_,rfl⟩
  by_cases hjx:j<x
  ·have hju:(u:Int)<(m:Int):=by have:=Ex.out;omega
   have hqu:(u:Int).tdiv 64=(j:Int):=by rw[eu];show (((64*j)/64:Nat):Int)=_;rw[Nat.mul_div_cancel_left _ (by decide)]
   have hjw:IntKind.u32.wrap (j:Int)=(j:Int):=IntWalk.u32_in _ (by omega)
   have hjw2:IntKind.i64.wrap (j:Int)=(j:Int):=IntWalk.i64_in _ (by omega)
   obtain⟨cj,ecj⟩:∃y,y=c+j:=⟨_,rfl⟩
   have hcj:ZaP (c:Int) (j:Int)=(cj:Int):=by unfold ZaP;rw[IntWalk.u32_in _ (by have:=Hc.out;omega),ecj];omega
   obtain⟨a1,a2,a3⟩:=K1.out.grow hbel
   obtain⟨b1,b2,b3⟩:=N1.out.grow hbel
   have HN:=Zq (Zmb k n c j)
   rw[←ecj,←eu] at HN
   rw[←eu] at hown ⊢
   have hlT:=ZbJ k n c u
   have hbl:=ZdB k n cj
   have hbz:=Zae hbl
   have HBj:=Zq (HBl.out cj wr)
   generalize blk k n cj=b at *
   generalize strm k n c u=T at *
   have HlT:=Zq hlT
   have Hbl:=Zq hbl
   have Eu:=Zq eu
   have hu:(u:Int)≤65536:=by have:=Hm.out;omega
   have Ho:=Zq hown
   have Hb:=Zq hbel
   obtain⟨W2,eW2⟩:∃x,x=wr:=⟨_,rfl⟩
   clear ecj eu hlT hbl hown hbel eW2
   go_wp2_with fail
   refine HBj.out.mono ?_
   rintro e W3 ⟨rfl,hb3⟩
   have Ho3:=Zq (Ho.out.below hb3)
   have Hb3:=Zq (Hb.out.trans (hb3.mono Hb.out.size))
   clear hb3 a1 a2 a3 b1 b2 b3 Ho Hb HBj
   go_wp2_with fail
   generalize hW:World.alloc _ _=W4
   have R4:=Zq (show RowAt W4 W3.heap.size (bysA b) by rw[←hW];clear hW;exact⟨by go_simp,by go_simp,by go_simp⟩)
   have hbA:Below W3.heap.size W3 W4:=by rw[←hW];exact Zab (Below.refl _ _) _
   have Ho4:=Zq (Ho3.out.below hbA)
   have Hb4:=Zq (Hb3.out.trans (hbA.mono Hb3.out.size))
   have hgb:W1.heap.size≤W3.heap.size:=Hb3.out.size
   clear hW hbA Hb3
   have hne:u10.ownBlock≠some W3.heap.size:=fun h=>by have:=(Ho3.out.ltb _ h).2;omega
   clear Ho3
   generalize W3.heap.size=gb at *
   go_loopw [10,13] (fun v t wr=>∃ i:Nat,i≤64∧t=.int .i64 i∧OwnB wr W1.heap.size v (T++b.take i)∧v.ownBlock≠some gb∧RowAt wr gb (bysA b)∧Below W1.heap.size W1 wr) (fun _ t _=>64-(intOf t).toNat)
   case atStart=>exact⟨0,Nat.zero_le _,rfl,by rw[List.take_zero,List.append_nil];exact Ho4.out,hne,R4.out,Hb4.out⟩
   case round =>
    obtain⟨i,hi,rfl,hown,hne,hrow,hbel⟩:=hrel
    by_cases hi64:i<64
    ·have hi0:(0:Int)≤(i:Int):=by omega
     have hi1:(i:Int)<64:=by omega
     have hib:i<b.length:=by rw[Hbl.out];exact hi64
     have hc:=hrow.cellAt i (ZaB b i hib)
     have ht:=ZcU b i hib
     have hgl:=hrow.2.2
     generalize b.getD i 0=y at *
     have BA:=Zab (Below.refl wr.heap.size wr) (.cells #[.int .u8 (y:Int)] 5)
     obtain⟨v2,w2,hr2,hown2,hgr2,hd2⟩:=ZnM (hown.below BA) (Zbr wr [y] 5 (0,0)) (Nat.le_trans hbel.size BA.size) (by rw[List.length_append,List.length_take,HlT.out,Hbl.out];omega)
     have Hb5:=Zq (Za2 (hbel.alloc hbel.size (.cells #[.int .u8 (y:Int)] 5)) (hown.below BA) (Nat.le_trans hbel.size BA.size) hgr2)
     have Ho5:=Zq (show OwnB w2 W1.heap.size v2 (T++b.take (i+1)) by rw[←ht,←List.append_assoc];exact hown2)
     have hne5:v2.ownBlock≠some gb:=by
      rcases hd2 with h | h
      ·rw[h];exact hne
      ·rw[h]
       intro h'
       cases h'
       rw[World.size_alloc] at hgl
       omega
     have R5:=Zq (ZaM (hrow.grow BA) hgr2 hne)
     clear hown2 hgr2 BA hown hbel ht hib hd2 hrow
     go_wp2_with (at_builtin;refine Lib.wpList_append_run _ rfl _ _ _ _ rfl _ _ rfl rfl _ _ hr2 ?_)
     go_wp2_with fail
     go_roundw
     case rel=>exact⟨i+1,by omega,by go_num,Ho5.out,hne5,R5.out,Hb5.out⟩
     case measure=>simp[intOf];omega
    ·obtain rfl:i=64:=by omega
     have Ho5:=Zq (show OwnB wr W1.heap.size u10 (T++b) by rw[List.take_of_length_le (by rw[Hbl.out];exact Nat.le_refl _)] at hown;exact hown)
     rw[HN.out] at Ho5
     have Hb5:=Zq hbel
     clear hown hbel hrow
     go_wp2_with fail
     go_roundw
     case rel=>exact⟨j+1,by omega,by rw[Eu.out];go_num,Ho5.out,Hb5.out⟩
     case measure=>have:=Eu.out;simp[intOf];omega
  ·obtain rfl:j=x:=by omega
   have hju:¬(u:Int)<(m:Int):=by have:=Ex.out;omega
   have Hpre:=Zq (ZoH k n c u m (by omega))
   rw[←eu] at hown ⊢
   have hlT:=ZbJ k n c u
   generalize strm k n c u=T at *
   obtain⟨p,cp,rfl,hbs,hcp,hpn⟩:=hown.bs
   have hsl:=ZlF p T.length cp m (by omega)
   rw[hlT] at hsl ⊢
   have Hbs:=Zq (hbs.take m)
   rw[Hpre.out] at Hbs
   have Hb:=Zq (B1.out.trans (hbel.mono B1.out.size))
   have Hcp:=Zq (And.intro (show m≤cp by omega) hpn)
   clear hown hbel hbs hcp hpn hlT eu
   go_wp2_with fail
   refine bodyPost_ret (v:=.tuple #[.slice p m cp,.int .i64 0]) (results_tmp2 Tryz.results76 _ _ _) rfl ⟨p,cp,rfl,Hbs.out,Hcp.out.1,Hcp.out.2,Hb.out⟩
theorem Zhg (ac bc m:Nat) (ap bp:Option Addr) (a b:List Nat) (w:World) (ha:m=a.length) (hb:m=b.length) (hab:∀i,a.getD i 0<256) (hbb:∀i,b.getD i 0<256) (haB:Bs0 w ap a) (hbB:Bs0 w bp b) (hm:m≤65536) :
  Calls Tryz.prog 39 #[.slice ap m ac,.slice bp m bc] w fun e w'=>∃ v,e=.returned v∧OwnB w' w.heap.size v (mixd a b)∧Below w.heap.size w w':=by
 have Ha:=Zq ha
 have Hb:=Zq hb
 have HA:=Zq haB
 have HB:=Zq hbB
 have hmi:(m:Int)≤65536:=by omega
 clear ha hb haB hbB
 go_enter Tryz.func39,Tryz.ntmps39
 go_wp2_with fail
 go_loopw [5,6] (fun v t wr=>∃ j:Nat,j≤m∧t=.int .i64 j∧OwnB wr w.heap.size v ((mixd a b).take j)∧Below w.heap.size w wr) (fun _ t _=>m-(intOf t).toNat)
 case atStart=>exact⟨0,Nat.zero_le _,rfl,Zbk w _,Below.refl _ _⟩
 case round =>
  obtain⟨j,hj,rfl,hown,hbel⟩:=hrel
  by_cases hjm:j<m
  ·have hj0:(j:Int)<(m:Int):=by omega
   have hj1:(0:Int)≤(j:Int):=by omega
   have hja:j<a.length:=by rw[←Ha.out];exact hjm
   have hjb:j<b.length:=by rw[←Hb.out];exact hjm
   obtain⟨g1,o1,rfl,hA⟩:∃b o,ap=some ⟨b,o,none⟩∧BytesAt w b o a:=by
    rcases HA.out with h | h
    ·rw[h] at hja;simp at hja
    ·exact h
   obtain⟨g2,o2,rfl,hB⟩:∃x o,bp=some ⟨x,o,none⟩∧BytesAt w x o b:=by
    rcases HB.out with h | h
    ·rw[h] at hjb;simp at hjb
    ·exact h
   have hca:=(hA.grow hbel).2 j hja
   have hcb:=(hB.grow hbel).2 j hjb
   have hga:=(hA.grow hbel).1
   have hgb:=(hB.grow hbel).1
   have hx:=u8_xor_nat (a.getD j 0) (b.getD j 0) (hab j) (hbb j)
   have Hsn:=Zq (Zm1 a b j hjb)
   generalize a.getD j 0=y at *
   generalize b.getD j 0=z at *
   generalize y ^^^ z=v at *
   have hlen:((mixd a b).take j).length≤65536:=by rw[List.length_take];omega
   have Hlen:=Zq hlen
   have Hown:=Zq hown
   have Hbel:=Zq hbel
   clear hA hB hja hjb hown hbel hlen
   go_wp2_with fail
   refine Zal wr [0,1,2,3,4,5,6,7,8,9] [true,false,false,false,false,false,false,false,false,false] [] [] 10 (by kernel_rfl) rfl (by kernel_rfl) (by intro c a d v w h;cases d<;>exact h) ((Below.refl _ _).drew) ?_
   simp only[pick,List.getElem?_cons_succ,List.getElem?_cons_zero,List.drop_succ_cons,List.drop_zero]
   refine Zay (Zaa rfl) (fun w=>by go_simp;rfl) ?_
   iterate 9 (refine Zac (Zaa rfl) (by intro K o d hK;go_simp;exact hK _ (Below.refl _ _)) ?_)
   refine Zan ?_
   intro w2 hb2 _
   have BA:=Zab (Below.refl w2.heap.size w2) (.cells #[.int .u8 (v:Int)] 5)
   have hb3:=Hbel.out.trans (hb2.mono Hbel.out.size)
   have ho3:=Hown.out.below hb2
   obtain⟨v4,w4,hr4,hown4,hgr4⟩:=ZbY (k:=1) (cap:=1) (ho3.below BA) (Bs0.some (Zbr w2 [v] 5 (0,0))) rfl (fun h=>by cases h) (Nat.le_trans hb3.size BA.size) (by have:=Hlen.out;simp only[List.length_cons,List.length_nil];omega)
   have Hb4:=Zq (Za2 (hb3.alloc hb3.size (.cells #[.int .u8 (v:Int)] 5)) (ho3.below BA) (Nat.le_trans hb3.size BA.size) hgr4)
   have Ho4:=Zq hown4
   rw[Hsn.out] at Ho4
   clear hown4 hgr4 BA hb3 ho3 hb2 hca hcb
   go_wp2_with (at_builtin;refine Lib.wpList_append_run _ rfl _ _ _ _ rfl _ _ rfl rfl _ _ hr4 ?_)
   go_wp2_with fail
   go_roundw
   case rel=>exact⟨j+1,by omega,by go_num,Ho4.out,Hb4.out⟩
   case measure=>simp[intOf];omega
  ·obtain rfl:j=m:=by omega
   have Ho:=Zq hown
   have Hbe:=Zq hbel
   clear hown hbel
   go_wp2_with fail
   go_ret
   refine⟨_,rfl,?_,Hbe.out⟩
   have h1:=Ho.out
   rw[List.take_of_length_le (by rw[ZaJ,←Hb.out];exact Nat.le_refl _)] at h1
   exact h1
end Go.Proofs.YtddmjddlbhdcpaaGreatDoor
namespace Go.Cm
open Go
def beqC (a b:Cmd):Bool:=(a.k==b.k)&&((a.n==b.n)&&((a.d==b.d)&&decide (a.id=b.id)))
theorem Zo0 {a b:Cmd}:beqC a b=true↔a=b:=by
 obtain⟨a1,a2,a3,a4⟩:=a
 obtain⟨b1,b2,b3,b4⟩:=b
 simp[beqC]
theorem Zif (a:Cmd):beqC a a=true:=Zo0.2 rfl
end Go.Cm
namespace Go.Proofs.YtddmjddlbhdcpaaGreatDoor
open Go.RowKit Go.Hold Go.Sh Go.Cm
@[go_sem ↓] theorem Zsh (v:Value):Instr.loadAt 57 v=Zam 57 v:=rfl
@[go_sem] theorem ZqW (w:World) (n:Nat) (h1:w.isRow n=true) (h2:(w.rowOf n).size=11):(Zam 57 (.pointer (some ⟨n,0,none⟩))).run Tryz.prog w=.ok (.agg (w.rowOf n)) w:=ZaF w Tryz.underlying57 rfl (by kernel_rfl) n h1 h2
@[go_sem ↓] theorem ZvM (v:Value):Instr.loadAt 48 v=Zam 48 v:=rfl
@[go_sem] theorem ZtD (w:World) (n:Nat) (h1:w.isRow n=true) (h2:(w.rowOf n).size=11):(Zam 48 (.pointer (some ⟨n,3,none⟩))).run Tryz.prog w=.ok (.agg ((w.rowOf n).extract 3 11)) w:=ZaG (k:=8) Tryz.underlying48 rfl (by kernel_rfl) w n h1 (by omega)
@[go_sem ↓] theorem ZtQ (ps:Array (Nat×Value)):Instr.build 57 ps=bldA 57 ps:=rfl
@[go_sem ↓] theorem Zv7 (ps:Array (Nat×Value)):Instr.build 48 ps=bldA 48 ps:=rfl
@[go_sem] theorem Zre (w:World):(bldA 57 #[]).run Tryz.prog w=.ok (.agg (cmdA .zero)) w:=run_build w _ _ _ (by kernel_rfl)
@[go_sem] theorem Zra (k n d:Int) (w:World):(bldA 57 #[(0,.int .i64 k),(1,.int .i64 n),(2,.int .i64 d)]).run Tryz.prog w=.ok (.agg (cmdA ⟨k,n,d,zs 8⟩)) w:=run_build w _ _ _ (by kernel_rfl)
@[go_sem] theorem ZuF (w:World):(bldA 48 #[]).run Tryz.prog w=.ok (.agg (bysA (zs 8))) w:=run_build w _ _ _ (by kernel_rfl)
@[go_sem ↓ high] theorem Zwi (a:Operand→Value) (d:Option Tmp) (op:BinOp) (x y:Operand) (u t:TypeId) (p:String) (af:Array Edge) (g:Option (Nat×Bool)) :
  execOp a ⟨d,.binOp op 48 x y u,t,p,af,g⟩=(do pure (.value (←eqV op 48 x y (a x) (a y)))):=rfl
@[go_sem] theorem ZwP (x y:Operand) (l m:List Nat) (hl:l.length=8) (hm:m.length=8) (w:World) :
  (eqV .eql 48 x y (.agg (bysA l)) (.agg (bysA m))).run Tryz.prog w=.ok (.bool (decide (l=m))) w:=Zfp Tryz.underlying48 (by kernel_rfl) x y hl hm w
@[go_sem ↓ high] theorem ZtS (a:Operand→Value) (d:Option Tmp) (op:BinOp) (x y:Operand) (u t:TypeId) (p:String) (af:Array Edge) (g:Option (Nat×Bool)) :
  execOp a ⟨d,.binOp op 57 x y u,t,p,af,g⟩=(do pure (.value (←eqV op 57 x y (a x) (a y)))):=rfl
theorem ZbF {c:Cmd} {i:Nat} {v:Int} (h:(cmdA c)[i]?=some (.int .i64 v)) (w:World):(part 3 (cmdA c) i).run Tryz.prog w=.ok (.int .i64 v) w:=by
 have hag:(isAgg 3).run Tryz.prog w=.ok false w:=by unfold isAgg;rw[Sem.run_bind,run_underlying Tryz.underlying3 w];simp
 unfold part
 rw[Sem.run_bind,hag]
 simp[h]
theorem ZlX {c:Cmd} (hc:c.id.length=8) (w:World):(part 48 (cmdA c) 3).run Tryz.prog w=.ok (.agg (bysA c.id)) w:=by
 have hag:(isAgg 48).run Tryz.prog w=.ok true w:=by unfold isAgg;rw[Sem.run_bind,run_underlying Tryz.underlying48 w];simp
 unfold part
 rw[Sem.run_bind,hag]
 simp[ZkJ c hc]
theorem ZfM (d:Nat) {a b:Cmd} (ha:a.id.length=8) (hb:b.id.length=8) (w:World) :
  (Op.equalIn (d+4) 57 (.agg (cmdA a)) (.agg (cmdA b))).run Tryz.prog w=.ok (beqC a b) w:=by
 rw[run_equalIn_struct w (d+3) 57 (cmdA a) (cmdA b) (by kernel_rfl) (by kernel_rfl)]
 obtain⟨f0,f1,f2,f3,hf,n0,n1,n2,n3,t0,t1,t2,t3,o0,o1,o2,o3⟩:∃f0 f1 f2 f3:Field,(Tryz.prog.fieldsOf 57).toList=[f0,f1,f2,f3]∧f0.name ≠ "_"∧f1.name ≠ "_"∧f2.name ≠ "_"∧f3.name ≠ "_"∧f0.type=3∧f1.type=3∧f2.type=3∧f3.type=48∧f0.offset=0∧f1.offset=1∧f2.offset=2∧f3.offset=3 :=
  ⟨_,_,_,_,rfl,by decide +kernel,by decide +kernel,by decide +kernel,by decide +kernel,by kernel_rfl,by kernel_rfl,by kernel_rfl,by kernel_rfl,by kernel_rfl,by kernel_rfl,by kernel_rfl,by kernel_rfl⟩
 rw[hf]
 simp only[Op.eqFields,n0,n1,n2,n3,t0,t1,t2,t3,o0,o1,o2,o3,ne_eq,not_false_eq_true,if_true,Sem.run_bind,ZbF (Zei a),ZbF (Zei b),Result.andThen_ok]
 rw[run_equalIn_int w (d+2) 3 .i64 .i64 a.k b.k Tryz.underlying3]
 unfold beqC
 cases h0:(a.k==b.k)
 ·simp
 ·simp only[Result.andThen_ok,Bool.not_true,Bool.false_eq_true,if_false,Bool.true_and,Sem.run_bind,ZbF (ZfG a),ZbF (ZfG b)]
  rw[run_equalIn_int w (d+2) 3 .i64 .i64 a.n b.n Tryz.underlying3]
  cases h1:(a.n==b.n)
  ·simp
  ·simp only[Result.andThen_ok,Bool.not_true,Bool.false_eq_true,if_false,Bool.true_and,Sem.run_bind,ZbF (Zfw a),ZbF (Zfw b)]
   rw[run_equalIn_int w (d+2) 3 .i64 .i64 a.d b.d Tryz.underlying3]
   cases h2:(a.d==b.d)
   ·simp
   ·simp only[Result.andThen_ok,Bool.not_true,Bool.false_eq_true,if_false,Bool.true_and,Sem.run_bind,ZlX ha,ZlX hb]
    rw[Zbf Tryz.underlying48 d ha hb]
    cases decide (a.id=b.id)<;>simp
@[go_sem] theorem ZuH (x y:Operand) (a b:Cmd) (ha:a.id.length=8) (hb:b.id.length=8) (w:World) :
  (eqV .eql 57 x y (.agg (cmdA a)) (.agg (cmdA b))).run Tryz.prog w=.ok (.bool (beqC a b)) w:=by
 unfold eqV
 rw[Sem.run_bind,run_eqGuard_agg w .eql 57 x y _ _ (by kernel_rfl),Result.andThen_ok,run_eql_struct,show (10000:Nat)=9996+4 from rfl,ZfM 9996 ha hb]
 rfl
@[go_sem] theorem ZuG (x y:Operand) (a b:Cmd) (ha:a.id.length=8) (hb:b.id.length=8) (w:World) :
  (eqV .neq 57 x y (.agg (cmdA a)) (.agg (cmdA b))).run Tryz.prog w=.ok (.bool (!beqC a b)) w:=by
 unfold eqV
 rw[Sem.run_bind,run_eqGuard_agg w .neq 57 x y _ _ (by kernel_rfl),Result.andThen_ok,run_neq_struct,show (10000:Nat)=9996+4 from rfl,ZfM 9996 ha hb]
 rfl
theorem Ziw {fn:Func} {p:Tmp} (h:fn.results=#[.cell p 51]) (c:Cmd) (hc:c.id.length=8) (w:World) (tmps:Array Value) (n:Nat) (hp:tmps.getD p undef=.pointer (some ⟨n,0,none⟩)) (h1:w.isRow n=true) (h2:w.rowOf n=cmdA c):(results fn tmps).run Tryz.prog w=.ok (.agg (cmdA c)) w :=
 ZaW w h Tryz.underlying51 rfl (by rw[Zax hc];kernel_rfl) tmps n hp h1 h2
theorem ZeL {fn:Func} {p:Tmp} (h:fn.results=#[.cell p 28]) (l:List Nat) (hl:l.length=16) (w:World) (tmps:Array Value) (n:Nat) (hp:tmps.getD p undef=.pointer (some ⟨n,0,none⟩)) (h1:w.isRow n=true) (h2:w.rowOf n=bysA l):(results fn tmps).run Tryz.prog w=.ok (.agg (bysA l)) w :=
 ZaW w h Tryz.underlying28 rfl (by rw[Zaj,hl];kernel_rfl) tmps n hp h1 h2
end Go.Proofs.YtddmjddlbhdcpaaGreatDoor
namespace Go.Proofs.YtddmjddlbhdcpaaGreatDoor
open Go.RowKit Go.Hold Go.Sh Go.Cm
theorem ZmL (c:Cmd) (hid:c.id.length=8) (w:World) :
  Calls Tryz.prog 73 #[.agg (cmdA c)] w fun e w'=>e=.returned (.bool c.may)∧Below w.heap.size w w':=by
 have hcs:=Zax hid
 have hz8:(zs 8).length=8:=rfl
 have BA:=Zq (Zab (Below.refl w.heap.size w) (.cells (cmdA c) 57))
 by_cases k1:c.k=1
 ·have hm:c.may=(decide (0≤c.n∧c.n<16)&&decide (0≤c.d∧c.d<65)&&decide (c.id=zs 8)):=by unfold Cmd.may;rw[if_pos k1]
  rw[hm]
  clear hm
  by_cases n0:0≤c.n
  ·by_cases n1:c.n≤15
   ·rw[decide_eq_true (show 0≤c.n∧c.n<16 by omega)]
    by_cases d0:0≤c.d
    ·by_cases d1:c.d≤64
     ·rw[decide_eq_true (show 0≤c.d∧c.d<65 by omega)]
      go_enter Tryz.func73,Tryz.ntmps73
      go_wp2_with fail
      go_ret
      exact⟨rfl,BA.out⟩
     rw[decide_eq_false (show ¬(0≤c.d∧c.d<65) by omega)]
     go_enter Tryz.func73,Tryz.ntmps73
     go_wp2_with fail
     go_ret
     exact⟨rfl,BA.out⟩
    rw[decide_eq_false (show ¬(0≤c.d∧c.d<65) by omega)]
    go_enter Tryz.func73,Tryz.ntmps73
    go_wp2_with fail
    go_ret
    exact⟨rfl,BA.out⟩
   rw[decide_eq_false (show ¬(0≤c.n∧c.n<16) by omega)]
   go_enter Tryz.func73,Tryz.ntmps73
   go_wp2_with fail
   go_ret
   exact⟨rfl,BA.out⟩
  rw[decide_eq_false (show ¬(0≤c.n∧c.n<16) by omega)]
  go_enter Tryz.func73,Tryz.ntmps73
  go_wp2_with fail
  go_ret
  exact⟨rfl,BA.out⟩
 by_cases k2:c.k=2
 ·have hm:c.may=(decide (0≤c.n∧c.n<8)&&decide (c.d=0)&&decide (c.id=zs 8)):=by unfold Cmd.may;rw[if_neg k1,if_pos k2]
  rw[hm]
  clear hm
  by_cases n0:0≤c.n
  ·by_cases n1:c.n≤7
   ·rw[decide_eq_true (show 0≤c.n∧c.n<8 by omega)]
    by_cases hd:c.d=0
    ·rw[decide_eq_true hd]
     go_enter Tryz.func73,Tryz.ntmps73
     go_wp2_with fail
     go_ret
     exact⟨rfl,BA.out⟩
    rw[decide_eq_false hd]
    have hd2:(c.d==0)=false:=by simpa using hd
    go_enter Tryz.func73,Tryz.ntmps73
    go_wp2_with fail
    go_ret
    exact⟨rfl,BA.out⟩
   rw[decide_eq_false (show ¬(0≤c.n∧c.n<8) by omega)]
   go_enter Tryz.func73,Tryz.ntmps73
   go_wp2_with fail
   go_ret
   exact⟨rfl,BA.out⟩
  rw[decide_eq_false (show ¬(0≤c.n∧c.n<8) by omega)]
  go_enter Tryz.func73,Tryz.ntmps73
  go_wp2_with fail
  go_ret
  exact⟨rfl,BA.out⟩
 by_cases k3:c.k=3
 ·have hm:c.may=(decide (0≤c.n∧c.n<8)&&decide (c.d=0)):=by unfold Cmd.may;rw[if_neg k1,if_neg k2,if_pos k3]
  rw[hm]
  clear hm
  by_cases n0:0≤c.n
  ·by_cases n1:c.n≤7
   ·rw[decide_eq_true (show 0≤c.n∧c.n<8 by omega)]
    by_cases hd:c.d=0
    ·rw[decide_eq_true hd]
     go_enter Tryz.func73,Tryz.ntmps73
     go_wp2_with fail
     go_ret
     exact⟨rfl,BA.out⟩
    rw[decide_eq_false hd]
    have hd2:(c.d==0)=false:=by simpa using hd
    go_enter Tryz.func73,Tryz.ntmps73
    go_wp2_with fail
    go_ret
    exact⟨rfl,BA.out⟩
   rw[decide_eq_false (show ¬(0≤c.n∧c.n<8) by omega)]
   go_enter Tryz.func73,Tryz.ntmps73
   go_wp2_with fail
   go_ret
   exact⟨rfl,BA.out⟩
  rw[decide_eq_false (show ¬(0≤c.n∧c.n<8) by omega)]
  go_enter Tryz.func73,Tryz.ntmps73
  go_wp2_with fail
  go_ret
  exact⟨rfl,BA.out⟩
 by_cases k4:c.k=4
 ·have hm:c.may=(decide (c.n=0)&&decide (c.d=0)&&decide (c.id=zs 8)):=by unfold Cmd.may;rw[if_neg k1,if_neg k2,if_neg k3,if_pos k4]
  rw[hm]
  clear hm
  by_cases hn:c.n=0
  ·rw[decide_eq_true hn]
   by_cases hd:c.d=0
   ·rw[decide_eq_true hd]
    go_enter Tryz.func73,Tryz.ntmps73
    go_wp2_with fail
    go_ret
    exact⟨rfl,BA.out⟩
   rw[decide_eq_false hd]
   have hd2:(c.d==0)=false:=by simpa using hd
   go_enter Tryz.func73,Tryz.ntmps73
   go_wp2_with fail
   go_ret
   exact⟨rfl,BA.out⟩
  rw[decide_eq_false hn]
  have hn2:(c.n==0)=false:=by simpa using hn
  go_enter Tryz.func73,Tryz.ntmps73
  go_wp2_with fail
  go_ret
  exact⟨rfl,BA.out⟩
 have hm:c.may=false:=by unfold Cmd.may;rw[if_neg k1,if_neg k2,if_neg k3,if_neg k4]
 rw[hm]
 clear hm
 go_enter Tryz.func73,Tryz.ntmps73
 go_wp2_with fail
 go_ret
 exact⟨rfl,BA.out⟩
def encP (k n d:Nat) (id:List Nat) (j:Nat):List Nat:=[k,n,0,d]++id.take j++zs (12-j)
theorem ZjM {k n d:Nat} {id:List Nat} {j:Nat} (hi:id.length=8) (hj:j≤8):(encP k n d id j).length=16:=by simp[encP,Zah,hi];omega
theorem ZoM {k n d:Nat} {id:List Nat} {j:Nat} (hi:id.length=8) (hj:j<8):(encP k n d id j).set (4+j) (id.getD j 0)=encP k n d id (j+1):=by
 have ht:id.take (j+1)=id.take j++[id.getD j 0]:=by rw[List.take_add_one,List.getElem?_eq_getElem (by omega)];simp[List.getD,show j<id.length by omega]
 have hz:zs (12-j)=0::zs (12-(j+1)):=by
  unfold zs
  rw[show 12-j=(12-(j+1))+1 by omega,List.replicate_succ]
 unfold encP
 have hl:([k,n,0,d]++id.take j).length=4+j:=by simp[hi];omega
 rw[List.set_append_right _ _ (by omega),hl,Nat.sub_self,hz,List.set_cons_zero,ht]
 simp
theorem Zps {k n d:Nat} {id:List Nat} (hi:id.length=8) (hk:k<256) (hn:n<256) (hd:d<256):encP k n d id 8=(Cmd.mk k n d id).enc:=by
 unfold encP Cmd.enc
 rw[List.take_of_length_le (by omega)]
 simp
 omega
theorem ZjX (c:Cmd) (hid:c.id.length=8) (hm:c.may=true) (w:World) :
  Calls Tryz.prog 87 #[.agg (cmdA c)] w fun e w'=>e=.returned (.agg (bysA c.enc))∧Below w.heap.size w w':=by
 have hcs:=Zax hid
 obtain⟨⟨ha1,ha2⟩,⟨hb1,hb2⟩,hc1,hc2⟩:=ZfO hm
 obtain⟨k,ek⟩:=Int.eq_ofNat_of_zero_le (show 0≤c.k by omega)
 obtain⟨n,en⟩:=Int.eq_ofNat_of_zero_le hb1
 obtain⟨d,ed⟩:=Int.eq_ofNat_of_zero_le hc1
 have u1:IntKind.u8.wrap (k:Int)=(k:Int):=IntWalk.u8_in _ (by omega)
 have u2:IntKind.u8.wrap (n:Int)=(n:Int):=IntWalk.u8_in _ (by omega)
 have u3:IntKind.u8.wrap (d:Int)=(d:Int):=IntWalk.u8_in _ (by omega)
 have q1:(d:Int).tdiv 256=0:=by show ((d/256:Nat):Int)=0;omega
 have q2:(d:Int).tmod 256=(d:Int):=by show ((d%256:Nat):Int)=d;omega
 have HX:=Zq (show encP k n d c.id 8=c.enc by rw[Zps hid (by omega) (by omega) (by omega),←ek,←en,←ed])
 have HL:=Zq (Zb0 hid)
 have HI:=Zq hid
 clear hm ha1 ha2 hb1 hb2 hc1 hc2
 go_enter Tryz.func87,Tryz.ntmps87
 go_wp2_with fail
 generalize hW:World.alloc _ _=W0
 have R0:=Zq (show RowAt W0 w.heap.size (cmdA c) by rw[←hW];clear hW;exact⟨by go_simp,by go_simp,by go_simp⟩)
 have T0:=Zq (show RowAt W0 (w.heap.size+1) (bysA (zs 16)) by rw[←hW];clear hW;exact⟨by go_simp,by go_simp;rfl,by go_simp⟩)
 have G0:=Zq (show RowAt W0 (w.heap.size+1+1) (bysA (encP k n d c.id 0)) by rw[←hW];clear hW;exact⟨by go_simp,by go_simp;rfl,by go_simp⟩)
 have B0:=Zq (show Below w.heap.size w W0 by rw[←hW];repeat (first | apply Zab | exact Below.refl _ _))
 have hne1:w.heap.size≠w.heap.size+1+1:=by omega
 have hne2:w.heap.size+1≠w.heap.size+1+1:=by omega
 have hle1:w.heap.size≤w.heap.size+1+1:=by omega
 have hle2:w.heap.size≤w.heap.size+1:=by omega
 clear hW ek en ed u1 u2 u3 q1 q2 hcs
 generalize w.heap.size+1+1=g at *
 generalize w.heap.size+1=t at *
 obtain⟨z,ez⟩:∃z,z=w.heap.size:=⟨_,rfl⟩
 rw[←ez] at R0 hne1 hle1 hle2 ⊢
 have Ez:=Zq ez
 clear ez
 go_loopw [4] (fun i wr=>∃ j:Nat,j≤8∧i=.int .i64 j∧Sets W0 g (bysA (encP k n d c.id j)) wr) (fun i _=>8-(intOf i).toNat)
 case atStart=>exact⟨0,by omega,rfl,Sets.refl G0.out⟩
 case round =>
  obtain⟨j,hj,rfl,hset⟩:=hrel
  by_cases hj8:j<8
  ·have hk0:(0:Int)≤(j:Int):=by omega
   have hk1:(j:Int)<8:=by omega
   have hrow:=hset.row G0.out
   have hzr:=hset.old R0.out hne1
   have hcz:=hzr.cellAt (3+j) (Zfc c j (by rw[HI.out];exact hj8))
   have hcg:=hrow.cellAt (4+j) (ZaB _ (4+j) (by rw[ZjM HI.out hj];omega))
   have hf:=hrow.frozenAt (4+j)
   have Hst:=Zq (ZoM (k:=k) (n:=n) (d:=d) HI.out hj8)
   obtain⟨x,ex⟩:∃x,x=4+j:=⟨_,rfl⟩
   rw[←ex] at hcg hf Hst
   obtain⟨v,ev⟩:∃v,v=c.id.getD j 0:=⟨_,rfl⟩
   rw[←ev] at hcz Hst
   have hx:IntKind.i64.wrap (4+(j:Int))=(x:Int):=by rw[IntWalk.i64_in _ (by omega)];omega
   have hx0:(0:Int)≤(x:Int):=by omega
   have hx1:(x:Int)<16:=by omega
   have Hset:=Zq hset
   have hgl:=hrow.2.2
   have hzl:=hzr.2.2
   clear ex ev hset hrow hzr
   go_wp2_with fail
   go_roundw
   case rel =>
    refine⟨j+1,by omega,by go_num,?_⟩
    rw[←Hst.out,←Zca];exact Hset.out.cell G0.out
   case measure=>simp[intOf];omega
  ·obtain rfl:j=8:=by omega
   have hrow:=hset.row G0.out
   have htr:=hset.old T0.out hne2
   rw[HX.out] at hrow
   have HS:=Zq (hset.below B0.out (by rw[←Ez.out];exact hle1) B0.out.size)
   have hes:(bysA c.enc).size=16:=by rw[Zaj];exact HL.out
   have hzs:(bysA (zs 16)).size=16:=rfl
   obtain⟨g1,g2,g3⟩:=hrow
   obtain⟨t1,t2,t3⟩:=htr
   clear hset
   go_wp2_with fail
   refine bodyPost_ret (v:=.agg (bysA c.enc)) (ZeL Tryz.results87 c.enc HL.out _ _ t rfl (by go_simp) (by go_simp)) rfl ⟨rfl,?_⟩
   exact Zad HS.out (by rw[←Ez.out];exact hle2) _
theorem Znv (c:Cmd) (hid:c.id.length=8) (w:World) :
  Calls Tryz.prog 75 #[.agg (cmdA c)] w fun e w'=>e=.returned (.tuple #[.agg (bysA (encV c)),.int .i64 (encE c)])∧Below w.heap.size w w':=by
 have hcs:=Zax hid
 have hzs:(bysA (zs 16)).size=16:=rfl
 by_cases hm:c.may=false
 ·have hV:encV c=zs 16:=by unfold encV;rw[hm];rfl
  have hE:encE c=2:=by unfold encE;rw[hm];rfl
  rw[hV,hE]
  clear hV hE
  have KM:=Zq (fun (W:World)=>ZmL c hid W)
  rw[hm] at KM
  go_enter Tryz.func75,Tryz.ntmps75
  go_wp2_with fail
  generalize hW:World.alloc _ _=W0
  have R0:=Zq (show RowAt W0 w.heap.size (cmdA c) by rw[←hW];clear hW;exact⟨by go_simp,by go_simp,by go_simp⟩)
  have T0:=Zq (show RowAt W0 (w.heap.size+1) (bysA (zs 16)) by rw[←hW];clear hW;exact⟨by go_simp,by go_simp;rfl,by go_simp⟩)
  have B0:=Zq (show Below w.heap.size w W0 by rw[←hW];repeat (first | apply Zab | exact Below.refl _ _))
  have hz1:w.heap.size≤w.heap.size+1:=by omega
  generalize w.heap.size+1=t at *
  obtain⟨z,ez⟩:∃z,z=w.heap.size:=⟨_,rfl⟩
  rw[←ez] at R0 hz1 ⊢
  have Ez:=Zq ez
  clear ez
  refine(KM.out W0).mono ?_
  rintro e W1 ⟨rfl,hb1⟩
  have R1:=Zq (R0.out.grow hb1)
  have T1:=Zq (T0.out.grow hb1)
  have B1:=Zq (B0.out.trans (hb1.mono B0.out.size))
  clear hb1 hW R0 T0 B0 hm
  obtain⟨r1,r2,r3⟩:=R1.out
  obtain⟨t1,t2,t3⟩:=T1.out
  go_wp2_with fail
  refine bodyPost_ret (v:=.tuple #[.agg (bysA (zs 16)),.int .i64 2]) (Zdj Tryz.results75 (zs 16) rfl _ _ _ t rfl (by go_simp) (by go_simp) rfl) rfl ⟨rfl,?_⟩
  exact Zad B1.out (by rw[←Ez.out];exact hz1) _
 have hm:c.may=true:=by simpa using hm
 have hV:encV c=c.enc:=by unfold encV;rw[hm];rfl
 have hE:encE c=0:=by unfold encE;rw[hm];rfl
 rw[hV,hE]
 have KB:=Zq (fun (W:World)=>ZjX c hid hm W)
 have HL:=Zq (Zb0 hid)
 have hes:(bysA c.enc).size=16:=by rw[Zaj];exact HL.out
 clear hV hE
 have KM:=Zq (fun (W:World)=>ZmL c hid W)
 rw[hm] at KM
 go_enter Tryz.func75,Tryz.ntmps75
 go_wp2_with fail
 generalize hW:World.alloc _ _=W0
 have R0:=Zq (show RowAt W0 w.heap.size (cmdA c) by rw[←hW];clear hW;exact⟨by go_simp,by go_simp,by go_simp⟩)
 have T0:=Zq (show RowAt W0 (w.heap.size+1) (bysA (zs 16)) by rw[←hW];clear hW;exact⟨by go_simp,by go_simp;rfl,by go_simp⟩)
 have B0:=Zq (show Below w.heap.size w W0 by rw[←hW];repeat (first | apply Zab | exact Below.refl _ _))
 have hz1:w.heap.size≤w.heap.size+1:=by omega
 generalize w.heap.size+1=t at *
 obtain⟨z,ez⟩:∃z,z=w.heap.size:=⟨_,rfl⟩
 rw[←ez] at R0 hz1 ⊢
 have Ez:=Zq ez
 clear ez
 refine(KM.out W0).mono ?_
 rintro e W1 ⟨rfl,hb1⟩
 have R1:=Zq (R0.out.grow hb1)
 have T1:=Zq (T0.out.grow hb1)
 have B1:=Zq (B0.out.trans (hb1.mono B0.out.size))
 clear hb1 hW R0 T0 B0 hm
 obtain⟨r1,r2,r3⟩:=R1.out
 obtain⟨t1,t2,t3⟩:=T1.out
 go_wp2_with fail
 refine(KB.out W1).mono ?_
 rintro e W2 ⟨rfl,hb2⟩
 have T2:=Zq (T1.out.grow hb2)
 have B2:=Zq (B1.out.trans (hb2.mono B1.out.size))
 clear hb2 R1 T1 B1 r1 r2 r3 t1 t2 t3
 obtain⟨t1,t2,t3⟩:=T2.out
 go_wp2_with fail
 refine bodyPost_ret (v:=.tuple #[.agg (bysA (c.enc)),.int .i64 0]) (Zdj Tryz.results75 (c.enc) HL.out _ _ _ t rfl (by go_simp) (by go_simp) rfl) rfl ⟨rfl,?_⟩
 exact Zad B2.out (by rw[←Ez.out];exact hz1) _
open Go.RowKit Go.Hold Go.Sh
def Zpq (v u:Value):Prop:=v.ownBlock=none∨v.ownBlock≠u.ownBlock
theorem Zms {w:World} {B:Nat} {v u:Value} {l m:List Nat} {y z:Nat} (hv:OwnB w B v l) (hu:OwnB w B u m) (hap:Zpq v u) (hB:B≤w.heap.size) (hl:l.length+1≤16777216) (hm:m.length+1≤16777216) :
  ∃ v' w1 u' w2,(Builtin.append_ #[38,38] 38 #[v,.slice (some ⟨w.heap.size,0,none⟩) 1 1]).run Tryz.prog (w.alloc (.cells #[.int .u8 (y:Int)] 5))=.ok v' w1 ∧
   (Builtin.append_ #[38,38] 38 #[u,.slice (some ⟨w1.heap.size,0,none⟩) 1 1]).run Tryz.prog (w1.alloc (.cells #[.int .u8 (z:Int)] 5))=.ok u' w2 ∧
   OwnB w2 B v' (l++[y])∧OwnB w2 B u' (m++[z])∧Zpq v' u'∧Below B w w2:=by
 have BA:=Zab (Below.refl w.heap.size w) (.cells #[.int .u8 (y:Int)] 5)
 obtain⟨v',w1,hr1,ho1,hg1,hd1⟩:=ZnM (hv.below BA) (Zbr w [y] 5 (0,0)) (Nat.le_trans hB BA.size) hl
 have hu0:∀k,u.ownBlock=some k→B≤k∧k<w.heap.size:=fun k hk=>hu.ltb k hk
 have hu1:OwnB w1 B u m:=(hu.below BA).kept hg1 (by
  cases hub:u.ownBlock with
  | none=>exact .inl rfl
  | some k =>
   right
   rcases hap with h | h
   ·rw[h];simp
   ·rw[←hub];exact fun e=>h e.symm)
 have B1:Below B w w1:=Za2 ((Below.refl B w).alloc hB _) (hv.below BA) (Nat.le_trans hB BA.size) hg1
 have hB1:B≤w1.heap.size:=Nat.le_trans hB B1.size
 have hs1:w.heap.size+1≤w1.heap.size:=by have:=hg1.size;simpa using this
 have BA2:=Zab (Below.refl w1.heap.size w1) (.cells #[.int .u8 (z:Int)] 5)
 obtain⟨u',w2,hr2,ho2,hg2,hd2⟩:=ZnM (hu1.below BA2) (Zbr w1 [z] 5 (0,0)) (Nat.le_trans hB1 BA2.size) hm
 have hne:v'.ownBlock=none∨v'.ownBlock≠u.ownBlock:=by
  rcases hd1 with h | h
  ·rw[h];exact hap
  ·right
   rw[h]
   intro e
   have:=(hu0 _ e.symm).2
   rw[World.size_alloc] at this
   omega
 refine⟨v',w1,u',w2,hr1,hr2,(ho1.below BA2).kept hg2 hne,ho2,?_,Za2 (B1.alloc hB1 _) (hu1.below BA2) (Nat.le_trans hB1 BA2.size) hg2⟩
 cases hvb:v'.ownBlock with
 | none=>exact .inl hvb
 | some k =>
  right
  rcases hd2 with h | h
  ·rw[h]
   rcases hne with h' | h'
   ·rw[h'] at hvb;cases hvb
   ·exact h'
  ·rw[h,hvb]
   intro e
   have:=(ho1.ltb k hvb).2
   cases e
   rw[World.size_alloc] at this
   omega
end Go.Proofs.YtddmjddlbhdcpaaGreatDoor
