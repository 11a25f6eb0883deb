/-
  Part 6 of the texts behind the theorem.
-/
import Derived.WalkKit
import Derived.Laws.Bits64b
import Derived.Test.YtddmjddlbhdcpaaGreatDoorRows
import Derived.Test.YtddmjddlbhdcpaaGreatDoorPart1
import Derived.WalkSpells
import Derived.WalkLawsBesides
import Derived.Lib.Hide
import Derived.Deep.MidRow
import Derived.ChangeKeysEq
import Derived.Lib.SlBytesConst
import Derived.ProofKit
import Derived.OpenShut
import Derived.ShutString
import Derived.ChangeOld
import Derived.Below
import Derived.ChangeMaps5
set_option maxHeartbeats 8000000
set_option maxRecDepth 100000
namespace Go.Sh
open Go
@[irreducible] def ZaP (a b:Int):Int:=IntKind.u32.wrap (a+b)
@[irreducible] def x32 (a b:Int):Int:=bits .xor .u32 a b
@[irreducible] def a32 (a b:Int):Int:=bits .and .u32 a b
@[irreducible] def o32 (a b:Int):Int:=bits .or .u32 a b
@[irreducible] def n32 (a:Int):Int:=bits .xor .u32 4294967295 a
@[irreducible] def rotr (x:Int) (n:Nat):Int:=bits .or .u32 (x/2^n) (x*2^(32-n)%4294967296)
@[irreducible] def shrw (x:Int) (n:Nat):Int:=x/2^n
theorem ZbN (a b:Int):ZaP a b=ZaP b a:=by unfold ZaP;rw[Int.add_comm]
theorem Zh9 (a b:Int):bits .or .u32 a b=bits .or .u32 b a:=by unfold bits;simp only[BitVec.or_comm]
def s0 (x:Int):Int:=x32 (x32 (rotr x 7) (rotr x 18)) (shrw x 3)
def s1 (x:Int):Int:=x32 (x32 (rotr x 17) (rotr x 19)) (shrw x 10)
def S0 (x:Int):Int:=x32 (x32 (rotr x 2) (rotr x 13)) (rotr x 22)
def S1 (x:Int):Int:=x32 (x32 (rotr x 6) (rotr x 11)) (rotr x 25)
def ch (e f g:Int):Int:=x32 (a32 e f) (a32 (n32 e) g)
def mj (a b c:Int):Int:=x32 (x32 (a32 a b) (a32 a c)) (a32 b c)
structure St where
 (a b c d e f g h:Int)
def T1 (s:St) (k w:Int):Int:=ZaP (ZaP (ZaP (ZaP s.h (S1 s.e)) (ch s.e s.f s.g)) k) w
def T2 (s:St):Int:=ZaP (S0 s.a) (mj s.a s.b s.c)
def srnd (s:St) (k w:Int):St:=⟨ZaP (T1 s k w) (T2 s),s.a,s.b,s.c,ZaP s.d (T1 s k w),s.e,s.f,s.g⟩
def Ks:List Int:=[1116352408,1899447441,3049323471,3921009573,961987163,1508970993,2453635748,2870763221,3624381080,310598401,607225278,1426881987,1925078388,2162078206,2614888103,3248222580,3835390401,4022224774,264347078,604807628,770255983,1249150122,1555081692,1996064986,2554220882,2821834349,2952996808,3210313671,3336571891,3584528711,113926993,338241895,666307205,773529912,1294757372,1396182291,1695183700,1986661051,2177026350,2456956037,2730485921,2820302411,3259730800,3345764771,3516065817,3600352804,4094571909,275423344,430227734,506948616,659060556,883997877,958139571,1322822218,1537002063,1747873779,1955562222,2024104815,2227730452,2361852424,2428436474,2756734187,3204031479,3329325298]
theorem ZhO:Ks.length=64:=by decide
def Hs:List Int:=[1779033703,3144134277,1013904242,2773480762,1359893119,2600822924,528734635,1541459225]
def st0:St:=⟨1779033703,3144134277,1013904242,2773480762,1359893119,2600822924,528734635,1541459225⟩
def Zlh (ws:List Int) (s:St):Nat→St
 | 0=>s
 | t+1=>srnd (Zlh ws s t) (Ks.getD t 0) (ws.getD t 0)
def pkn (b:List Nat) (j:Nat):Nat→Nat
 | 0=>0
 | m+1=>if m<4 then pkn b j m*256+b.getD (4*j+m) 0 else pkn b j m
def pk4 (b:List Nat) (j:Nat):Int:=(pkn b j 4:Nat)
theorem Zi5 (b:List Nat) (j m:Nat) (h:4≤m):pkn b j m=pkn b j 4:=by
 induction m with
 | zero=>omega
 | succ m ih =>
  by_cases h4:m<4
  ·obtain rfl:m=3:=by omega
   rfl
  ·rw[pkn,if_neg h4];exact ih (by omega)
theorem Zu8 (b:List Nat) (hb:∀i,b.getD i 0<256) (j m:Nat):pkn b j m<256^m:=by
 induction m with
 | zero=>simp[pkn]
 | succ m ih =>
  rw[pkn,Nat.pow_succ]
  have:=hb (4*j+m)
  split<;>omega
def Zex (b:List Nat) (i:Nat):List Int:=(List.range 64).map fun j=>((pkn b j (i-4*j):Nat):Int)
theorem Zce (b:List Nat) (i:Nat):(Zex b i).length=64:=by simp[Zex]
theorem Zeu (b:List Nat) (i j:Nat) (h:j<64):(Zex b i)[j]?=some ((pkn b j (i-4*j):Nat):Int):=by simp[Zex,h]
theorem ZgM (b:List Nat):Zex b 0=List.replicate 64 0:=by
 unfold Zex
 apply List.ext_getElem?
 intro j
 by_cases h:j<64
 ·rw[List.getElem?_replicate,if_pos h];simp[h,pkn]
 ·rw[List.getElem?_eq_none (by simp;omega),List.getElem?_eq_none (by simp;omega)]
theorem ZmD (b:List Nat) (i:Nat) (h:i<64):(Zex b i).set (i/4) ((pkn b (i/4) (i%4+1):Nat):Int)=Zex b (i+1):=by
 apply List.ext_getElem?
 intro j
 rw[List.getElem?_set]
 by_cases hj:j<64
 ·rw[Zeu _ _ _ hj,Zeu _ _ _ hj]
  by_cases e:i/4=j
  ·subst e
   rw[if_pos rfl,if_pos (by rw[Zce];omega)]
   rw[show i+1-4*(i/4)=i%4+1 by omega]
  ·rw[if_neg e]
   congr 2
   by_cases h1:j<i/4
   ·rw[Zi5 _ _ _ (by omega),Zi5 _ _ (i+1-4*j) (by omega)]
   ·rw[show i+1-4*j=0 by omega,show i-4*j=0 by omega]
 ·rw[if_neg (by omega),List.getElem?_eq_none (by rw[Zce];omega),List.getElem?_eq_none (by rw[Zce];omega)]
theorem Zsd (x y:Nat) (hx:x<16777216) (hy:y<256):bits .or .u32 ((x:Int)*256%4294967296) (y:Int)=((x*256+y:Nat):Int):=by
 rw[show (x:Int)*256%4294967296=((x*256:Nat):Int) by omega,u32_or_nat _ _ (by omega) (by omega)]
 congr 1
 have:=Nat.shiftLeft_add_eq_or_of_lt (b:=y) (i:=8) (by omega) x
 rw[Nat.shiftLeft_eq] at this
 exact this.symm
theorem Zlx (b:List Nat) (hb:∀i,b.getD i 0<256) (i:Nat) :
  bits .or .u32 (((pkn b (i/4) (i%4):Nat):Int)*256%4294967296) ((b.getD i 0:Nat):Int)=((pkn b (i/4) (i%4+1):Nat):Int):=by
 have h1:=Zu8 b hb (i/4) (i%4)
 have h2:256^(i%4)≤256^3:=Nat.pow_le_pow_right (by decide) (by omega)
 rw[Zsd _ _ (by simpa using (by omega:pkn b (i/4) (i%4)<256^3)) (hb i),pkn,if_pos (by omega),show 4*(i/4)+i%4=i by omega]
def nxt (l:List Int):Int:=ZaP (ZaP (ZaP (s1 (l.getD (l.length-2) 0)) (l.getD (l.length-7) 0)) (s0 (l.getD (l.length-15) 0))) (l.getD (l.length-16) 0)
def ws (b:List Nat):Nat→List Int
 | 0=>(List.range 16).map (pk4 b)
 | n+1=>ws b n++[nxt (ws b n)]
theorem ZbX (b:List Nat) (n:Nat):(ws b n).length=16+n:=by
 induction n with
 | zero=>simp[ws]
 | succ n ih=>simp[ws,ih];omega
def sch (b:List Nat):List Int:=ws b 48
theorem ZdL (b:List Nat):(sch b).length=64:=ZbX b 48
def wz (b:List Nat) (t:Nat):List Int:=ws b (t-16)++List.replicate (64-t) 0
theorem Zh6 (b:List Nat) (t:Nat) (h:16≤t) (h':t≤64):(wz b t).length=64:=by simp[wz,ZbX];omega
theorem Zm4 (b:List Nat):Zex b 64=wz b 16:=by
 apply List.ext_getElem?
 intro j
 by_cases hj:j<64
 ·rw[Zeu _ _ _ hj]
  unfold wz
  by_cases h:j<16
  ·rw[List.getElem?_append_left (by rw[ZbX];omega)]
   simp only[Nat.sub_self,ws,List.getElem?_map,List.getElem?_range h,Option.map_some]
   rw[Zi5 _ _ _ (by omega)];rfl
  ·rw[List.getElem?_append_right (by rw[ZbX];omega),List.getElem?_replicate,if_pos (by rw[ZbX];omega),show 64-4*j=0 by omega];rfl
 ·rw[List.getElem?_eq_none (by rw[Zce];omega),List.getElem?_eq_none (by rw[Zh6 _ _ (by decide) (by decide)];omega)]
theorem Zvr (b:List Nat):wz b 64=sch b:=by simp[wz,sch]
theorem Zka (b:List Nat) (t i:Nat) (h:16≤t) (hi:i<t) (_ht:t≤64):(wz b t)[i]?=some ((ws b (t-16)).getD i 0):=by
 unfold wz
 have:i<(ws b (t-16)).length:=by rw[ZbX];omega
 rw[List.getElem?_append_left this,List.getElem?_eq_getElem this]
 simp[List.getD,this]
theorem ZuL (b:List Nat) (t:Nat) (h:16≤t) (h':t<64):(wz b t).set t (nxt (ws b (t-16)))=wz b (t+1):=by
 have e1:t+1-16=t-16+1:=by omega
 have e2:64-t=(64-(t+1))+1:=by omega
 have hl:=ZbX b (t-16)
 unfold wz
 rw[e1,ws,e2,List.replicate_succ,List.set_append,if_neg (by omega),show t-(ws b (t-16)).length=0 by omega,List.set_cons_zero,List.append_assoc]
 rfl
theorem Zq8 (b:List Nat) (t:Nat) (h:16≤t):nxt (ws b (t-16))=ZaP (ZaP (ZaP (s1 ((ws b (t-16)).getD (t-2) 0)) ((ws b (t-16)).getD (t-7) 0)) (s0 ((ws b (t-16)).getD (t-15) 0))) ((ws b (t-16)).getD (t-16) 0):=by
 unfold nxt
 rw[ZbX,show 16+(t-16)=t by omega]
def Zvp (s r:St):St:=⟨ZaP s.a r.a,ZaP s.b r.b,ZaP s.c r.c,ZaP s.d r.d,ZaP s.e r.e,ZaP s.f r.f,ZaP s.g r.g,ZaP s.h r.h⟩
def scmp (s:St) (b:List Nat):St:=Zvp s (Zlh (sch b) s 64)
def Zbt (s:St) (l:List Nat):Nat→St
 | 0=>s
 | n+1=>scmp (Zbt s l n) ((l.drop (64*n)).take 64)
def hrun (s:St) (l:List Nat):St:=Zbt s l (l.length/64)
theorem Zl8 (s:St) (a b:List Nat) (n:Nat) (h:64*n≤a.length):Zbt s (a++b) n=Zbt s a n:=by
 induction n with
 | zero=>rfl
 | succ n ih =>
  rw[Zbt,Zbt,ih (by omega),List.drop_append_of_le_length (by omega),List.take_append_of_le_length (by simp;omega)]
theorem ZkZ (s:St) (a b:List Nat) (m:Nat) (h:a.length=64*m) (n:Nat):Zbt s (a++b) (m+n)=Zbt (Zbt s a m) b n:=by
 induction n with
 | zero=>exact Zl8 s a b m (by omega)
 | succ n ih =>
  rw[←Nat.add_assoc,Zbt,Zbt,ih]
  congr 2
  rw[List.drop_append,List.drop_eq_nil_of_le (by omega),List.nil_append,show 64*(m+n)-a.length=64*n by omega]
theorem Zc9 (s:St) (a b:List Nat) (m:Nat) (h:a.length=64*m):hrun s (a++b)=hrun (hrun s a) b:=by
 unfold hrun
 rw[List.length_append,h,show (64*m+b.length)/64=m+b.length/64 by omega,ZkZ s a b m h,show 64*m/64=m by omega]
theorem Zfb (s:St) (b:List Nat) (h:b.length=64):hrun s b=scmp s b:=by
 unfold hrun
 rw[h]
 show scmp s ((b.drop 0).take 64)=_
 rw[List.drop_zero,←h,List.take_length]
theorem Zlf (s:St) (b:List Nat) (h:b.length<64):hrun s b=s:=by
 unfold hrun
 rw[Nat.div_eq_of_lt h];rfl
theorem ZhT (s:St) (a b:List Nat) (m:Nat) (h:a.length=64*m) (hb:b.length<64):hrun s (a++b)=hrun s a:=by rw[Zc9 s a b m h,Zlf _ _ hb]
def len8 (n:Nat):List Nat:=(List.range 8).map fun i=>n*8/256^(7-i)%256
def zs (n:Nat):List Nat:=List.replicate n 0
def gap (n:Nat):Nat:=(119-n%64)%64
def pad (l:List Nat):List Nat:=l++128::zs (gap l.length)++len8 l.length
def Zhh (s:St) (j:Nat):Int:=match j with | 0=>s.a | 1=>s.b | 2=>s.c | 3=>s.d | 4=>s.e | 5=>s.f | 6=>s.g | _=>s.h
def Zdc (s:St) (i:Nat):Int:=Zhh s (i/4)/2^(24-i%4*8)%256
def keyL (s:St):List Int:=(List.range 32).map (Zdc s)
def keyZ (s:St) (i:Nat):List Int:=(List.range 32).map fun j=>if j<i then Zdc s j else 0
theorem ZcC (s:St) (i:Nat):(keyZ s i).length=32:=by simp[keyZ]
theorem Zfa (s:St) (i j:Nat) (h:j<32):(keyZ s i)[j]?=some (if j<i then Zdc s j else 0):=by simp[keyZ,h]
theorem Zkf (s:St) (i:Nat) (h:i<32):(keyZ s i).set i (Zdc s i)=keyZ s (i+1):=by
 apply List.ext_getElem?
 intro j
 rw[List.getElem?_set]
 by_cases hj:j<32
 ·rw[Zfa _ _ _ hj,Zfa _ _ _ hj]
  by_cases e:i=j
  ·subst e;rw[if_pos rfl,if_pos (by rw[ZcC];exact h),if_pos (by omega)]
  ·rw[if_neg e]
   by_cases h1:j<i
   ·rw[if_pos h1,if_pos (by omega)]
   ·rw[if_neg h1,if_neg (by omega)]
 ·rw[if_neg (by omega),List.getElem?_eq_none (by rw[ZcC];omega),List.getElem?_eq_none (by rw[ZcC];omega)]
theorem Zj2 (s:St):keyZ s 32=keyL s:=by
 unfold keyZ keyL
 apply List.map_congr_left
 intro j hj
 rw[if_pos (List.mem_range.1 hj)]
def lenP (r:List Nat) (n j:Nat):List Nat:=(List.range 64).map fun i=>if 64-j≤i then n*8/256^(63-i)%256 else r.getD i 0
theorem Zb6 (r:List Nat) (n j:Nat):(lenP r n j).length=64:=by simp[lenP]
theorem ZeY (r:List Nat) (n j i:Nat) (h:i<64):(lenP r n j)[i]?=some (if 64-j≤i then n*8/256^(63-i)%256 else r.getD i 0):=by simp[lenP,h]
theorem Zml (r:List Nat) (n:Nat) (hr:r.length=64):lenP r n 0=r:=by
 apply List.ext_getElem?
 intro i
 by_cases h:i<64
 ·rw[ZeY _ _ _ _ h,if_neg (by omega),List.getElem?_eq_getElem (by omega)];simp[List.getD,hr,h]
 ·rw[List.getElem?_eq_none (by rw[Zb6];omega),List.getElem?_eq_none (by omega)]
theorem Zo8 (r:List Nat) (n j:Nat) (hj:j<8):(lenP r n j).set (63-j) (n*8/256^j%256)=lenP r n (j+1):=by
 apply List.ext_getElem?
 intro i
 rw[List.getElem?_set]
 by_cases h:i<64
 ·rw[ZeY _ _ _ _ h,ZeY _ _ _ _ h]
  by_cases e:63-j=i
  ·subst e;rw[if_pos rfl,if_pos (by rw[Zb6];omega),if_pos (by omega),show 63-(63-j)=j by omega]
  ·rw[if_neg e]
   by_cases h1:64-j≤i
   ·rw[if_pos h1,if_pos (by omega)]
   ·rw[if_neg h1,if_neg (by omega)]
 ·rw[if_neg (by omega),List.getElem?_eq_none (by rw[Zb6];omega),List.getElem?_eq_none (by rw[Zb6];omega)]
theorem ZpZ (r:List Nat) (n:Nat) (hr:r.length=64):lenP r n 8=r.take 56++len8 n:=by
 apply List.ext_getElem?
 intro i
 by_cases h:i<64
 ·rw[ZeY _ _ _ _ h]
  by_cases h1:i<56
  ·rw[if_neg (by omega),List.getElem?_append_left (by simp;omega),List.getElem?_take,if_pos h1,List.getElem?_eq_getElem (by omega)];simp[List.getD,hr,h]
  ·rw[if_pos (by omega),List.getElem?_append_right (by simp;omega)]
   have e:i-(r.take 56).length=i-56:=by simp;omega
   rw[e]
   unfold len8
   rw[List.getElem?_map,List.getElem?_range (by omega),Option.map_some,show 7-(i-56)=63-i by omega]
 ·rw[List.getElem?_eq_none (by rw[Zb6];omega),List.getElem?_eq_none (by simp[len8];omega)]
def digF (n:Nat) (s:St) (r:List Nat):St:=if 56≤n%64 then scmp (scmp s (r.set (n%64) 128)) ((zs 64).take 56++len8 n) else scmp s ((r.set (n%64) 128).take 56++len8 n)
theorem Zbp {l:List Nat} (h:∀x∈l,x<256) (i:Nat):l.getD i 0<256:=by
 unfold List.getD
 cases hx:l[i]? with
 | none=>decide
 | some x=>exact h x (List.mem_of_getElem? hx)
theorem Zdo {l:List Nat} (h:∀i,l.getD i 0<256):∀x∈l,x<256:=fun x hx=>by
 obtain⟨i,hi⟩:=List.mem_iff_getElem?.1 hx
 have:=h i
 unfold List.getD at this
 rw[hi] at this;exact this
theorem Znk {l:List Nat} (h:∀i,l.getD i 0<256) {v:Nat} (hv:v<256) (u:Nat):∀i,(l.set u v).getD i 0<256 :=
 Zbp fun x hx=>by
  rcases List.mem_or_eq_of_mem_set hx with hx | rfl
  ·exact Zdo h x hx
  ·exact hv
theorem ZaN {a b:List Nat} (ha:∀i,a.getD i 0<256) (hb:∀i,b.getD i 0<256):∀i,(a++b).getD i 0<256 :=
 Zbp fun x hx=>by
  rcases List.mem_append.1 hx with hx | hx
  ·exact Zdo ha x hx
  ·exact Zdo hb x hx
theorem Zbc {a:List Nat} (ha:∀i,a.getD i 0<256) (n:Nat):∀i,(a.take n).getD i 0<256:=Zbp fun x hx=>Zdo ha x (List.mem_of_mem_take hx)
theorem ZbB {a:List Nat} (ha:∀i,a.getD i 0<256) (n:Nat):∀i,(a.drop n).getD i 0<256:=Zbp fun x hx=>Zdo ha x (List.mem_of_mem_drop hx)
theorem Zbs (n:Nat):∀i,(zs n).getD i 0<256:=Zbp fun x hx=>by
 have:=List.eq_of_mem_replicate hx
 omega
theorem Zek (n:Nat):∀i,(len8 n).getD i 0<256:=Zbp fun x hx=>by
 obtain⟨j,_,rfl⟩:=List.mem_map.1 hx
 omega
def dig (l:List Nat):St:=hrun st0 (pad l)
theorem Zle (l:List Nat):(pad l).length=64*((l.length+72)/64):=by
 simp[pad,zs,len8,gap];omega
end Go.Sh
namespace Go.Proofs.YtddmjddlbhdcpaaGreatDoor
open Go.RowKit Go.Hold Go.Sh
@[go_sem ↓] theorem Zv9 (a b:Int):IntKind.u32.wrap (a+b)=ZaP a b:=by unfold ZaP;rfl
@[go_sem ↓] theorem Zwg (a b:Int):bits .xor .u32 a b=x32 a b:=by unfold x32;rfl
@[go_sem ↓ high] theorem Zwf (a:Int):bits .xor .u32 (if IntKind.u32.signed=true then -1 else IntKind.u32.max) a=n32 a:=by unfold n32;rfl
@[go_sem ↓] theorem Zwb (a b:Int):bits .and .u32 a b=a32 a b:=by unfold a32;rfl
@[go_sem ↓] theorem ZrU (a b:Int):bits .or .u32 a b=o32 a b:=by unfold o32;rfl
theorem rotL (x:Int) (n k:Nat) (hk:n+k=32) (hn:0<n) (hk':0<k) (hb:bits .and .u64 (IntKind.u64.wrap (-(n:Int))) 31=(k:Int)) (w:World):Calls Tryz.prog 183 #[.int .u32 x,.int .i64 (-(n:Int))] w fun e w'=>e=.returned (.int .u32 (rotr x n))∧w'=w:=by
 have hs:IntKind.u64.wrap (32-(k:Int))=(n:Int):=by rw[IntWalk.u64_in _ (by omega)];omega
 have h1:(0:Int)≤(k:Int):=by omega
 have h2:(k:Int)≤32:=by omega
 have h3:(0:Int)≤(n:Int):=by omega
 have h4:(n:Int)≤32:=by omega
 have hr:o32 (x*2^k%4294967296) (x/2^n)=rotr x n:=by
  unfold o32 rotr
  rw[Zh9,show 32-n=k by omega]
 go_enter Tryz.func183,Tryz.ntmps183
 go_wp2_with fail
 go_ret
 exact⟨rfl,rfl⟩
theorem ZdS (x:Int) (n:Nat) (hk:n<32) (w:World):Calls Tryz.prog 148 #[.int .u32 x,.int .i64 (n:Int)] w fun e w'=>e=.returned (.int .u32 (rotr x n))∧w'=w:=by
 have h1:(0:Int)≤(n:Int):=by omega
 have h2:(n:Int)≤32:=by omega
 have hr:o32 (x/2^n) (x*2^(32-n)%4294967296)=rotr x n:=by unfold o32 rotr;rfl
 go_enter Tryz.func148,Tryz.ntmps148
 go_wp2_with fail
 go_ret
 exact⟨rfl,rfl⟩
theorem ZcX (x:Int) (n k:Nat) (hk:n+k=32) (hn:0<n) (hk':0<k) (hb:bits .and .u64 (IntKind.u64.wrap (-(n:Int))) 31=(k:Int)) (w:World):Calls Tryz.prog 179 #[.int .u32 x,.int .i64 (n:Int)] w fun e w'=>e=.returned (.int .u32 (rotr x n))∧w'=w:=by
 have R:=Zq (rotL x n k hk hn hk' hb)
 have hs:IntKind.i64.wrap (-(n:Int))=-(n:Int):=by rw[IntWalk.i64_in _ (by omega)]
 go_enter Tryz.func179,Tryz.ntmps179
 go_wp2_with (go_at_call 183;refine(R.out _).mono ?_;rintro e w' ⟨rfl,rfl⟩)
 go_ret
 exact⟨rfl,rfl⟩
theorem Zrs (x:Int) (w:World):Calls Tryz.prog 179 #[.int .u32 x,.int .i64 2] w fun e w'=>e=.returned (.int .u32 (rotr x 2))∧w'=w:=ZcX x 2 30 rfl (by decide) (by decide) (by decide +kernel) w
theorem Zup (x:Int) (w:World):Calls Tryz.prog 148 #[.int .u32 x,.int .i64 2] w fun e w'=>e=.returned (.int .u32 (rotr x 2))∧w'=w:=ZdS x 2 (by decide) w
theorem ZrK (x:Int) (w:World):Calls Tryz.prog 179 #[.int .u32 x,.int .i64 6] w fun e w'=>e=.returned (.int .u32 (rotr x 6))∧w'=w:=ZcX x 6 26 rfl (by decide) (by decide) (by decide +kernel) w
theorem Zvg (x:Int) (w:World):Calls Tryz.prog 148 #[.int .u32 x,.int .i64 6] w fun e w'=>e=.returned (.int .u32 (rotr x 6))∧w'=w:=ZdS x 6 (by decide) w
theorem Zr2 (x:Int) (w:World):Calls Tryz.prog 179 #[.int .u32 x,.int .i64 7] w fun e w'=>e=.returned (.int .u32 (rotr x 7))∧w'=w:=ZcX x 7 25 rfl (by decide) (by decide) (by decide +kernel) w
theorem Zvm (x:Int) (w:World):Calls Tryz.prog 148 #[.int .u32 x,.int .i64 7] w fun e w'=>e=.returned (.int .u32 (rotr x 7))∧w'=w:=ZdS x 7 (by decide) w
theorem Zn9 (x:Int) (w:World):Calls Tryz.prog 179 #[.int .u32 x,.int .i64 11] w fun e w'=>e=.returned (.int .u32 (rotr x 11))∧w'=w:=ZcX x 11 21 rfl (by decide) (by decide) (by decide +kernel) w
theorem Zta (x:Int) (w:World):Calls Tryz.prog 148 #[.int .u32 x,.int .i64 11] w fun e w'=>e=.returned (.int .u32 (rotr x 11))∧w'=w:=ZdS x 11 (by decide) w
theorem Zor (x:Int) (w:World):Calls Tryz.prog 179 #[.int .u32 x,.int .i64 13] w fun e w'=>e=.returned (.int .u32 (rotr x 13))∧w'=w:=ZcX x 13 19 rfl (by decide) (by decide) (by decide +kernel) w
theorem ZrJ (x:Int) (w:World):Calls Tryz.prog 148 #[.int .u32 x,.int .i64 13] w fun e w'=>e=.returned (.int .u32 (rotr x 13))∧w'=w:=ZdS x 13 (by decide) w
theorem Zo9 (x:Int) (w:World):Calls Tryz.prog 179 #[.int .u32 x,.int .i64 17] w fun e w'=>e=.returned (.int .u32 (rotr x 17))∧w'=w:=ZcX x 17 15 rfl (by decide) (by decide) (by decide +kernel) w
theorem Zrx (x:Int) (w:World):Calls Tryz.prog 148 #[.int .u32 x,.int .i64 17] w fun e w'=>e=.returned (.int .u32 (rotr x 17))∧w'=w:=ZdS x 17 (by decide) w
theorem Zn6 (x:Int) (w:World):Calls Tryz.prog 179 #[.int .u32 x,.int .i64 18] w fun e w'=>e=.returned (.int .u32 (rotr x 18))∧w'=w:=ZcX x 18 14 rfl (by decide) (by decide) (by decide +kernel) w
theorem Zsz (x:Int) (w:World):Calls Tryz.prog 148 #[.int .u32 x,.int .i64 18] w fun e w'=>e=.returned (.int .u32 (rotr x 18))∧w'=w:=ZdS x 18 (by decide) w
theorem Zo7 (x:Int) (w:World):Calls Tryz.prog 179 #[.int .u32 x,.int .i64 19] w fun e w'=>e=.returned (.int .u32 (rotr x 19))∧w'=w:=ZcX x 19 13 rfl (by decide) (by decide) (by decide +kernel) w
theorem Ztg (x:Int) (w:World):Calls Tryz.prog 148 #[.int .u32 x,.int .i64 19] w fun e w'=>e=.returned (.int .u32 (rotr x 19))∧w'=w:=ZdS x 19 (by decide) w
theorem Zp4 (x:Int) (w:World):Calls Tryz.prog 179 #[.int .u32 x,.int .i64 22] w fun e w'=>e=.returned (.int .u32 (rotr x 22))∧w'=w:=ZcX x 22 10 rfl (by decide) (by decide) (by decide +kernel) w
theorem ZrF (x:Int) (w:World):Calls Tryz.prog 148 #[.int .u32 x,.int .i64 22] w fun e w'=>e=.returned (.int .u32 (rotr x 22))∧w'=w:=ZdS x 22 (by decide) w
theorem ZoQ (x:Int) (w:World):Calls Tryz.prog 179 #[.int .u32 x,.int .i64 25] w fun e w'=>e=.returned (.int .u32 (rotr x 25))∧w'=w:=ZcX x 25 7 rfl (by decide) (by decide) (by decide +kernel) w
theorem Zsk (x:Int) (w:World):Calls Tryz.prog 148 #[.int .u32 x,.int .i64 25] w fun e w'=>e=.returned (.int .u32 (rotr x 25))∧w'=w:=ZdS x 25 (by decide) w
theorem Zvc (x:Int) (w:World):Calls Tryz.prog 178 #[.int .u32 x] w fun e w'=>e=.returned (.int .u32 (s0 x))∧w'=w:=by
 obtain⟨y,ey⟩:∃y,y=shrw x 3:=⟨_,rfl⟩
 have hs:x/8=y:=by rw[ey];unfold shrw;rfl
 have Hy:=Zq ey
 clear ey
 go_enter Tryz.func178,Tryz.ntmps178
 go_wp2_with fail
 refine(Zr2 _ _).mono ?_
 rintro e w' ⟨rfl,rfl⟩
 go_wp2_with fail
 refine(Zn6 _ _).mono ?_
 rintro e w' ⟨rfl,rfl⟩
 go_wp2_with fail
 go_ret
 exact⟨by rw[Hy.out];rfl,rfl⟩
theorem Zt2 (x:Int) (w:World):Calls Tryz.prog 177 #[.int .u32 x] w fun e w'=>e=.returned (.int .u32 (s1 x))∧w'=w:=by
 obtain⟨y,ey⟩:∃y,y=shrw x 10:=⟨_,rfl⟩
 have hs:x/1024=y:=by rw[ey];unfold shrw;rfl
 have Hy:=Zq ey
 clear ey
 go_enter Tryz.func177,Tryz.ntmps177
 go_wp2_with fail
 refine(Zo9 _ _).mono ?_
 rintro e w' ⟨rfl,rfl⟩
 go_wp2_with fail
 refine(Zo7 _ _).mono ?_
 rintro e w' ⟨rfl,rfl⟩
 go_wp2_with fail
 go_ret
 exact⟨by rw[Hy.out];rfl,rfl⟩
theorem Zvh (x:Int) (w:World):Calls Tryz.prog 169 #[.int .u32 x] w fun e w'=>e=.returned (.int .u32 (S0 x))∧w'=w:=by
 go_enter Tryz.func169,Tryz.ntmps169
 go_wp2_with fail
 refine(Zrs _ _).mono ?_
 rintro e w' ⟨rfl,rfl⟩
 go_wp2_with fail
 refine(Zor _ _).mono ?_
 rintro e w' ⟨rfl,rfl⟩
 go_wp2_with fail
 refine(Zp4 _ _).mono ?_
 rintro e w' ⟨rfl,rfl⟩
 go_wp2_with fail
 go_ret
 exact⟨rfl,rfl⟩
theorem Zvf (x:Int) (w:World):Calls Tryz.prog 168 #[.int .u32 x] w fun e w'=>e=.returned (.int .u32 (S1 x))∧w'=w:=by
 go_enter Tryz.func168,Tryz.ntmps168
 go_wp2_with fail
 refine(ZrK _ _).mono ?_
 rintro e w' ⟨rfl,rfl⟩
 go_wp2_with fail
 refine(Zn9 _ _).mono ?_
 rintro e w' ⟨rfl,rfl⟩
 go_wp2_with fail
 refine(ZoQ _ _).mono ?_
 rintro e w' ⟨rfl,rfl⟩
 go_wp2_with fail
 go_ret
 exact⟨rfl,rfl⟩
end Go.Proofs.YtddmjddlbhdcpaaGreatDoor
namespace Go.Sh
open Go
def rst (m:List Nat):List Nat:=m.drop (64*(m.length/64))++zs (64-m.length%64)
theorem Zah (n:Nat):(zs n).length=n:=by simp[zs]
theorem ZqL (a b:Nat):zs a++zs b=zs (a+b):=by simp[zs]
theorem Zmn (a n:Nat):(zs a).take n=zs (min n a):=by simp[zs,List.take_replicate]
theorem ZcI (a n:Nat):(zs a).drop n=zs (a-n):=by simp[zs]
theorem ZbO (m:List Nat):(rst m).length=64:=by simp[rst,Zah];omega
theorem Znb {m:List Nat} (h:∀i,m.getD i 0<256):∀i,(rst m).getD i 0<256:=ZaN (ZbB h _) (Zbs _)
theorem parts (m:List Nat):∃a t,m=a++t∧a.length=64*(m.length/64)∧t.length=m.length%64∧rst m=t++zs (64-m.length%64)∧hrun st0 m=hrun st0 a:=by
 refine⟨m.take (64*(m.length/64)),m.drop (64*(m.length/64)),(List.take_append_drop _ _).symm,by simp;omega,by simp;omega,rfl,?_⟩
 conv=>lhs;rw[←List.take_append_drop (64*(m.length/64)) m]
 exact ZhT _ _ _ (m.length/64) (by simp;omega) (by simp;omega)
theorem ZgT (a b:List Nat) (m:Nat) (h:a.length=64*m):rst (a++b)=rst b:=by
 unfold rst
 rw[List.length_append,h,show (64*m+b.length)/64=m+b.length/64 by omega,show (64*m+b.length)%64=b.length%64 by omega]
 congr 1
 rw[List.drop_append,List.drop_eq_nil_of_le (by omega),List.nil_append,h,show 64*(m+b.length/64)-64*m=64*(b.length/64) by omega]
theorem Zl6 (b:List Nat) (h:b.length<64):rst b=b++zs (64-b.length):=by
 unfold rst
 rw[Nat.div_eq_of_lt h,Nat.mod_eq_of_lt h];rfl
theorem Zld (m l:List Nat) (u:Nat) (hu:u=m.length%64) (h:u+l.length<64) :
  hrun st0 (m++l)=hrun st0 m∧rst (m++l)=(rst m).take u++l++(rst m).drop (u+l.length):=by
 obtain⟨a,t,hm,ha,ht,hr,hs⟩:=parts m
 rw[←hu] at ht hr
 constructor
 ·rw[hs]
  conv=>lhs;rw[hm,List.append_assoc]
  exact ZhT _ _ _ _ ha (by simp;omega)
 ·rw[hr]
  conv=>lhs;rw[hm,List.append_assoc,ZgT _ _ _ ha]
  rw[Zl6 _ (by simp;omega),List.take_append_of_le_length (by omega),←ht,List.take_length,List.drop_append,List.drop_eq_nil_of_le (by omega),List.nil_append,ZcI]
  congr 2
  simp only[List.length_append];omega
theorem Zl1 (m l:List Nat) (u k:Nat) (hu:u=m.length%64) (h0:0<u) (hk:k=64-u) (h:k≤l.length) :
  hrun (scmp (hrun st0 m) ((rst m).take u++l.take k)) (l.drop k)=hrun st0 (m++l)∧rst (l.drop k)=rst (m++l):=by
 obtain⟨a,t,hm,ha,ht,hr,hs⟩:=parts m
 rw[←hu] at ht hr
 have e:(rst m).take u++l.take k=t++l.take k:=by rw[hr,List.take_append_of_le_length (by omega),←ht,List.take_length]
 have hl:(t++l.take k).length=64:=by simp;omega
 have eq:m++l=a++((t++l.take k)++l.drop k):=by
  conv=>lhs;rw[hm,List.append_assoc]
  rw[List.append_assoc,List.take_append_drop]
 rw[e,eq]
 constructor
 ·rw[Zc9 _ _ _ _ ha,Zc9 _ _ _ 1 (by rw[hl]),Zfb _ _ hl,hs]
 ·rw[ZgT _ _ _ ha,ZgT _ _ 1 (by rw[hl])]
theorem ZlB (m l:List Nat) (hu:m.length%64=0):hrun (hrun st0 m) l=hrun st0 (m++l)∧rst l=rst (m++l):=by
 constructor
 ·rw[Zc9 _ _ _ (m.length/64) (by omega)]
 ·rw[ZgT _ _ (m.length/64) (by omega)]
theorem Zvi (t:List Nat) (n v:Nat) (hn:0<n):(t++zs n).set t.length v=t++v::zs (n-1):=by
 rw[List.set_append,if_neg (by omega),Nat.sub_self]
 obtain⟨k,rfl⟩:∃k,n=k+1:=⟨n-1,by omega⟩
 rfl
theorem Zb4 (n:Nat):(len8 n).length=8:=by simp[len8]
theorem ZoY (m:List Nat):digF m.length (hrun st0 m) (rst m)=dig m:=by
 obtain⟨a,t,hm,ha,ht,hr,hs⟩:=parts m
 unfold digF dig pad
 generalize hn:m.length=n at *
 have hu:n%64<64:=by omega
 generalize eu:n%64=u at *
 rw[hr,←ht,Zvi _ _ _ (by omega),hs,ht]
 have hl8:=Zb4 n
 by_cases h:56≤u
 ·rw[if_pos h]
  have hg:gap n=(63-u)+56:=by unfold gap;rw[eu];omega
  have e:m++128::zs (gap n)++len8 n=a++((t++128::zs (63-u))++(zs 56++len8 n)):=by
   rw[hg,←ZqL,hm];simp
  rw[e,Zc9 _ _ _ _ ha,Zc9 _ _ _ 1 (by simp[Zah];omega),Zfb (hrun st0 a) (t++128::zs (63-u)) (by simp[Zah];omega),Zfb _ (zs 56++len8 n) (by simp[Zah,hl8])]
  rw[Zmn,show 64-u-1=63-u by omega]
  rfl
 ·rw[if_neg h]
  have hg:gap n=55-u:=by unfold gap;rw[eu];omega
  have e:m++128::zs (gap n)++len8 n=a++((t++128::zs (55-u))++len8 n):=by
   rw[hg,hm];simp
  have e2:(t++128::zs (64-u-1)).take 56=t++128::zs (55-u):=by
   rw[List.take_append,List.take_of_length_le (by omega),show 56-t.length=(55-u)+1 by omega,List.take_succ_cons,Zmn,show min (55-u) (64-u-1)=55-u by omega]
  rw[e,e2,Zc9 _ _ _ _ ha,Zfb (hrun st0 a) (t++128::zs (55-u)++len8 n) (by simp[Zah,hl8];omega)]
def keyN (s:St):List Nat:=(List.range 32).map fun i=>(Zdc s i).toNat
theorem ZnS (s:St) (i:Nat):((Zdc s i).toNat:Int)=Zdc s i:=by
 unfold Zdc
 have:0≤Zhh s (i/4)/2^(24-i%4*8)%256:=Int.emod_nonneg _ (by decide)
 omega
theorem Zpj (s:St) (i:Nat):(Zdc s i).toNat<256:=by
 unfold Zdc
 have h1:0≤Zhh s (i/4)/2^(24-i%4*8)%256:=Int.emod_nonneg _ (by decide)
 have h2:Zhh s (i/4)/2^(24-i%4*8)%256<256:=Int.emod_lt_of_pos _ (by decide)
 omega
theorem Zar (s:St):(keyN s).length=32:=by simp[keyN]
theorem ZbS (s:St):∀i,(keyN s).getD i 0<256:=Zbp fun x hx=>by
 obtain⟨i,_,rfl⟩:=List.mem_map.1 hx
 exact Zpj s i
def xorL (m:Nat) (l:List Nat):List Nat:=l.map (· ^^^ m)
def Zdn (k:List Nat):List Nat:=if 64<k.length then keyN (dig k)++zs 32 else k++zs (64-k.length)
def mac (k b:List Nat):St:=dig (xorL 92 (Zdn k)++keyN (dig (xorL 54 (Zdn k)++b)))
theorem ZaQ (m:Nat) (l:List Nat):(xorL m l).length=l.length:=by simp[xorL]
theorem ZeM (k:List Nat):(Zdn k).length=64:=by
 unfold Zdn
 split
 ·simp[Zar,Zah]
 ·simp[Zah];omega
theorem Zkl {a b:Nat} (ha:a<256) (hb:b<256):a ^^^ b<256:=Nat.xor_lt_two_pow (n:=8) ha hb
theorem ZdI {m:Nat} {l:List Nat} (hm:m<256) (h:∀i,l.getD i 0<256):∀i,(xorL m l).getD i 0<256:=Zbp fun x hx=>by
 obtain⟨y,hy,rfl⟩:=List.mem_map.1 hx
 exact Zkl (Zdo h y hy) hm
theorem Zh4 {k:List Nat} (h:∀i,k.getD i 0<256):∀i,(Zdn k).getD i 0<256:=by
 unfold Zdn
 split
 ·exact ZaN (ZbS _) (Zbs _)
 ·exact ZaN h (Zbs _)
def tagT (s info:List Nat):Nat→List Nat
 | 0=>[]
 | i+1=>keyN (mac s (tagT s info i++info++[(i+1)%256]))
def exps (s info:List Nat):Nat→List Nat
 | 0=>[]
 | i+1=>exps s info i++tagT s info (i+1)
theorem Zfu (s info:List Nat) (i:Nat):(tagT s info (i+1)).length=32:=Zar _
theorem ZnB (s info:List Nat) (i:Nat):(tagT s info i).length≤32:=by
 cases i with
 | zero=>simp[tagT]
 | succ i=>rw[Zfu];exact Nat.le_refl _
theorem ZjY (s info:List Nat) (i:Nat):∀j,(tagT s info i).getD j 0<256:=by
 cases i with
 | zero=>intro j;simp[tagT]
 | succ i=>exact ZbS _
theorem Zb2 (s info:List Nat) (i:Nat):(exps s info i).length=32*i:=by
 induction i with
 | zero=>rfl
 | succ i ih=>rw[exps,List.length_append,ih,Zfu];omega
theorem ZnA (s info:List Nat) (i k:Nat):∃r,exps s info (i+k)=exps s info i++r:=by
 induction k with
 | zero=>exact⟨[],by simp⟩
 | succ k ih =>
  obtain⟨r,hr⟩:=ih
  exact⟨r++tagT s info (i+k+1),by rw[←Nat.add_assoc,exps,hr,List.append_assoc]⟩
def expN (s info:List Nat) (n:Nat):List Nat:=(exps s info ((n+31)/32)).take n
theorem ZfD (s info:List Nat) (n k:Nat) (h:n≤32*k):expN s info n=(exps s info k).take n:=by
 unfold expN
 obtain⟨m,hm⟩:∃m,k=(n+31)/32+m:=⟨k-(n+31)/32,by omega⟩
 obtain⟨r,hr⟩:=ZnA s info ((n+31)/32) m
 rw[hm,hr,List.take_append_of_le_length (by rw[Zb2];omega)]
def drv (s info:List Nat):St:=mac s (info++[1])
theorem ZmY (s info:List Nat):expN s info 32=keyN (drv s info):=by
 rw[ZfD s info 32 1 (by decide)]
 have h:exps s info 1=keyN (drv s info):=by simp[exps,tagT,drv]
 rw[h,List.take_of_length_le (by rw[Zar];exact Nat.le_refl _)]
def purp:List Nat:=[112,105,103,101,111,110,114,121,32]
end Go.Sh
namespace Go.Proofs.YtddmjddlbhdcpaaGreatDoor
open Go.RowKit Go.Hold Go.Sh
def bys (l:List Nat):List Value:=l.map fun n:Nat=>Value.int .u8 (n:Int)
def bysA (l:List Nat):Array Value:=(bys l).toArray
def wos (l:List Int):List Value:=l.map fun n=>Value.int .u32 n
def wosA (l:List Int):Array Value:=(wos l).toArray
def byI (l:List Int):Array Value:=(l.map fun n=>Value.int .u8 n).toArray
theorem Zki (l:List Int):(byI l).size=l.length:=by simp[byI]
theorem ZmA (l:List Int) (i:Nat) {v:Int} (h:l[i]?=some v):(byI l)[i]?=some (.int .u8 v):=by simp[byI,h]
theorem Zmi (l:List Int) (i:Nat) (v:Int):(byI l).setIfInBounds i (.int .u8 v)=byI (l.set i v):=by
 apply Array.ext_getElem?
 intro k
 simp only[byI,Array.getElem?_setIfInBounds,List.getElem?_toArray,List.map_set,List.getElem?_set,List.size_toArray,List.length_map]
theorem Zaj (l:List Nat):(bysA l).size=l.length:=by simp[bysA,bys]
theorem Zc3 (l:List Int):(wosA l).size=l.length:=by simp[wosA,wos]
theorem ZaB (l:List Nat) (i:Nat) (h:i<l.length):(bysA l)[i]?=some (.int .u8 ((l.getD i 0:Nat):Int)):=by simp[bysA,bys,h]
theorem Zfk (l:List Int) (i:Nat) (h:i<l.length):(wosA l)[i]?=some (.int .u32 (l.getD i 0)):=by simp[wosA,wos,h]
theorem ZcG (l:List Int) (i:Nat) {v:Int} (h:l[i]?=some v):(wosA l)[i]?=some (.int .u32 v):=by simp[wosA,wos,h]
theorem Zcq (l:List Int) (i:Nat) (v:Int):(wosA l).setIfInBounds i (.int .u32 v)=wosA (l.set i v):=by
 apply Array.ext_getElem?
 intro k
 simp only[wosA,wos,Array.getElem?_setIfInBounds,List.getElem?_toArray,List.map_set,List.getElem?_set,List.size_toArray,List.length_map]
theorem Zca (l:List Nat) (i:Nat) (v:Nat):(bysA l).setIfInBounds i (.int .u8 (v:Int))=bysA (l.set i v):=by
 apply Array.ext_getElem?
 intro k
 simp only[bysA,bys,Array.getElem?_setIfInBounds,List.getElem?_toArray,List.map_set,List.getElem?_set,List.size_toArray,List.length_map]
@[go_sem] theorem ZcL (l:List Nat):Zbg (bysA l)=true:=by simp[Zbg,bysA,bys,Value.oneCell']
@[go_sem] theorem ZvR (l:List Int):Zbg (wosA l)=true:=by simp[Zbg,wosA,wos,Value.oneCell']
def bldA (t:TypeId) (ps:Array (Nat×Value)):Sem Value:=Instr.build t ps
end Go.Proofs.YtddmjddlbhdcpaaGreatDoor
namespace Go
open Go.RowKit
theorem RowAt.setCell {w:World} {n:Nat} {c:Array Value} (h:RowAt w n c) (i:Nat) (v:Value):RowAt (w.setCell ⟨n,i,none⟩ v) n (c.setIfInBounds i v):=by
 obtain⟨t,ht⟩:=h.block
 refine RowAt.of (t:=t) ?_
 unfold World.setCell
 simp only[Array.getElem?_modify,if_pos,ht,Option.map_some]
 rfl
theorem RowAt.keep {w w':World} {n B:Nat} {c:Array Value} (h:RowAt w n c) (hb:Below B w w') (hn:n<B):RowAt w' n c:=by
 obtain⟨t,ht⟩:=h.block
 exact RowAt.of (t:=t) (by rw[hb.block n hn];exact ht)
theorem RowAt.frozenAt {w:World} {n:Nat} {c:Array Value} (h:RowAt w n c) (i:Nat):w.frozen? ⟨n,i,none⟩=false:=by
 obtain⟨t,ht⟩:=h.block
 simp[World.frozen?,ht]
end Go
namespace Go.Proofs.YtddmjddlbhdcpaaGreatDoor
open Go.RowKit Go.Hold Go.Sh
theorem ZcZ {w:World} {n:Nat} {c0:Array Value} (h:RowAt w n c0) (c:Array Value) (i:Nat) (v:Value):(w.setRow n c).setCell ⟨n,i,none⟩ v=w.setRow n (c.setIfInBounds i v):=by
 obtain⟨t,ht⟩:=h.block
 simp only[World.setCell,World.setRow]
 congr 1
 apply Array.ext_getElem?
 intro k
 simp only[Array.getElem?_modify]
 by_cases e:n=k
 ·subst e;simp[ht]
 ·simp[e]
theorem ZbK {w:World} {n:Nat} {c:Array Value} (h:RowAt w n c):w.setRow n c=w:=by
 obtain⟨t,ht⟩:=h.block
 cases w
 simp only[World.setRow]
 congr 1
 apply Array.ext_getElem?
 intro k
 simp only[Array.getElem?_modify]
 by_cases e:n=k
 ·subst e;simp_all
 ·simp[e]
def setL (c:Array Value):Nat→List Value→Array Value
 | _,[]=>c
 | o,v::r=>setL (c.setIfInBounds o v) (o+1) r
theorem Zer:∀(vs:List Value) (c:Array Value) (o:Nat),(setL c o vs).size=c.size
 | [],_,_=>rfl
 | v::r,c,o=>by rw[setL,Zer r];simp
theorem ZcQ:∀(vs:List Value) (c:Array Value) (o i:Nat),(setL c o vs)[i]?=if o≤i∧i<o+vs.length∧i<c.size then vs[i-o]? else c[i]?
 | [],c,o,i=>by rw[setL,if_neg (by simp;omega)]
 | v::r,c,o,i=>by
  rw[setL,ZcQ r]
  simp only[Array.size_setIfInBounds,Array.getElem?_setIfInBounds,List.length_cons]
  by_cases h1:o+1≤i∧i<o+1+r.length∧i<c.size
  ·rw[if_pos h1,if_pos (by omega),show i-o=i-(o+1)+1 by omega,List.getElem?_cons_succ]
  ·rw[if_neg h1]
   by_cases h2:o=i
   ·subst h2
    by_cases h3:o<c.size
    ·rw[if_pos rfl,if_pos h3,if_pos (by omega),Nat.sub_self];rfl
    ·rw[if_pos rfl,if_neg h3,if_neg (by omega),Array.getElem?_eq_none (by omega)]
   ·rw[if_neg h2,if_neg (by omega)]
theorem ZbC (w:World) (n:Nat) (c c':Array Value):(w.setRow n c).setRow n c'=w.setRow n c':=by
 simp only[World.setRow]
 congr 1
 apply Array.ext_getElem?
 intro k
 simp only[Array.getElem?_modify]
 by_cases e:n=k
 ·subst e
  cases hx:w.heap[n]? with
  | none=>simp
  | some o=>cases o<;>simp
 ·simp[e]
theorem Zbm {w:World} {n:Nat} {c:Array Value} (h:RowAt w n c) (i:Nat) (v:Value):w.setCell ⟨n,i,none⟩ v=w.setRow n (c.setIfInBounds i v):=by
 have:=ZcZ h c i v
 rwa [ZbK h] at this
theorem ZbP:∀(vs:List Value) (o:Nat) {w:World} {n:Nat} {c:Array Value},RowAt w n c→w.setCells n o vs=w.setRow n (setL c o vs)
 | [],_,_,_,_,h=>(ZbK h).symm
 | v::r,o,w,n,c,h=>by
  rw[World.setCells,ZbP r (o+1) (RowAt.setCell h o v),setL,Zbm h,ZbC]
theorem ZlU {w:World} {n:Nat} {c:Array Value} (h:RowAt w n c) (o k:Nat):w.rangeAt n o (c.extract o (o+k)).toList:=by
 obtain⟨t,ht⟩:=h.block
 exact World.rangeAt_of_block ht o k
theorem ZeJ {w:World} {n:Nat} {c:Array Value} (h:RowAt w n c) (o:Nat) (cs:Array Value) (h2:o+cs.size≤c.size) (h3:Zbg cs=true):(storeCells ⟨n,o,none⟩ cs.toList 0).run Tryz.prog w=.ok () (w.setRow n (setL c o cs.toList)):=by
 have:=run_storeCells_cells (P:=Tryz.prog) n o cs.toList 0 w (fun j hj=>by
   have hj':j<cs.size:=by simpa using hj
   rw[show o+0+j=o+j by omega,RowAt.cellAt h (o+j) (Array.getElem?_eq_getElem (by omega))];rfl)
  (fun j _=>RowAt.frozenAt h _) (fun v hv=>(Array.all_eq_true_iff_forall_mem.1 h3) v (by simpa using hv))
 rw[this,Nat.add_zero,ZbP _ _ h]
def BytesAt (w:World) (b o:Nat) (l:List Nat):Prop:=b<w.heap.size∧∀ i,i<l.length→w.cell? ⟨b,o+i,none⟩=some (.int .u8 ((l.getD i 0:Nat):Int))
theorem BytesAt.grow {w w':World} {b o:Nat} {l:List Nat} (h:BytesAt w b o l) (hb:Below w.heap.size w w'):BytesAt w' b o l :=
 ⟨Nat.lt_of_lt_of_le h.1 hb.size,fun i hi=>by rw[hb.cell h.1];exact h.2 i hi⟩
theorem BytesAt.other {w:World} {b o g:Nat} {l:List Nat} (h:BytesAt w b o l) (hg:b≠g) (c:Array Value):BytesAt (w.setRow g c) b o l :=
 ⟨by rw[size_setRow];exact h.1,fun i hi=>by rw[World.cell?_of_block (w:=w) (setRow_other w g b c hg)];exact h.2 i hi⟩
theorem Zaz (l:List Nat):(bys l).length=l.length:=by simp[bys]
theorem Zef (W:World) (d a:Option Addr) (dl dc cap:Nat):(Builtin.copy_ #[38,38] 3 #[.slice d dl dc,.slice a 0 cap]).run Tryz.prog W=.ok (.int .i64 0) W :=
 run_copy_none W _ _ _ 5 _ _ _ _ _ _ Tryz.underlying38 (by kernel_rfl) (by simp)
theorem ZeB (w:World):w=w.plus #[] w.drawn:=by unfold World.plus;rw[Array.append_empty]
def slB (v:Value) (lo hi mx:Option Value):Sem Value:=Instr.sliceAt 38 v lo hi mx
@[go_sem ↓ high] theorem Zwr (v:Value) (lo hi mx:Option Value):Instr.sliceAt 38 v lo hi mx=slB v lo hi mx:=rfl
@[irreducible] def adv (o n cap:Nat):Nat:=if cap=n then o else o+n
theorem ZeV:Tryz.prog.underlying 38=some (.slice (Tryz.prog.elem 38)):=by kernel_rfl
theorem Zlk (w:World):(sizeOf (Tryz.prog.elem 38)).run Tryz.prog w=.ok 1 w:=by kernel_rfl
theorem ZhJ (b o len cap n:Nat) (h:n≤len) (w:World):(slB (.slice (some ⟨b,o,none⟩) len cap) (some (.int .i64 (n:Int))) none none).run Tryz.prog w=.ok (.slice (some ⟨b,adv o n cap,none⟩) (len-n) (cap-n)) w:=by
 unfold slB
 rw[run_sliceAt_slice _ _ _ _ _ _ ZeV,run_slice_l _ _ _ _ _ ZeV _ _ (by omega) (by omega),Zlk]
 unfold adv
 by_cases e:cap=n
 ·simp[sliced,Result.andThen,e]
 ·simp[sliced,Result.andThen,e,Addr.add_mid]
theorem ZkN (b o len cap:Nat) (h:64≤len) (w:World):(slB (.slice (some ⟨b,o,none⟩) len cap) (some (.int .i64 64)) none none).run Tryz.prog w=.ok (.slice (some ⟨b,adv o 64 cap,none⟩) (len-64) (cap-64)) w:=ZhJ b o len cap 64 h w
theorem ZqR (a:Option Addr) (len cap:Nat) (h:64≤cap) (w:World):(slB (.slice a len cap) none (some (.int .i64 64)) none).run Tryz.prog w=.ok (.slice a 64 cap) w:=by
 unfold slB
 rw[run_sliceAt_slice _ _ _ _ _ _ ZeV,run_slice_h _ _ _ _ _ ZeV _ _ (by omega) (by omega),Zlk]
 cases a<;>simp[sliced,Result.andThen,Addr.add]
theorem BytesAt.adv {w:World} {b o n cap:Nat} {l:List Nat} (h:BytesAt w b o l) (hc:l.length≤cap):BytesAt w b (adv o n cap) (l.drop n):=by
 refine⟨h.1,fun i hi=>?_⟩
 rw[List.length_drop] at hi
 unfold Go.Proofs.YtddmjddlbhdcpaaGreatDoor.adv
 rw[if_neg (by omega),Nat.add_assoc,h.2 (n+i) (by omega)]
 simp[List.getD,List.getElem?_drop]
theorem ZnH (w:World):w.plus #[] w.drawn=w:=by unfold World.plus;rw[Array.append_empty]
theorem Za8 {w:World} {g:Nat} {c0:Array Value} (h:RowAt w g c0) {X Y:Array Value} {os:Array Obj} {d:Nat}:((w.setRow g X).plus os d).setRow g Y=(w.setRow g Y).plus os d:=by
 rw[World.setRow_plus _ _ _ _ _ (by rw[size_setRow];exact h.2.2),ZbC]
def Bs (w:World) (p:Option Addr) (l:List Nat) (g:Nat):Prop:=l=[]∨∃ b o,p=some ⟨b,o,none⟩∧BytesAt w b o l∧b≠g
theorem Bs.grow {w w':World} {p:Option Addr} {l:List Nat} {g:Nat} (h:Bs w p l g) (hb:Below w.heap.size w w'):Bs w' p l g:=by
 rcases h with h | ⟨b,o,e,h,n⟩
 ·exact .inl h
 ·exact .inr ⟨b,o,e,h.grow hb,n⟩
theorem Bs.set {w:World} {p:Option Addr} {l:List Nat} {g:Nat} (h:Bs w p l g) (c:Array Value):Bs (w.setRow g c) p l g:=by
 rcases h with h | ⟨b,o,e,h,n⟩
 ·exact .inl h
 ·exact .inr ⟨b,o,e,h.other n c,n⟩
def Bs0 (w:World) (p:Option Addr) (l:List Nat):Prop:=l=[]∨∃ b o,p=some ⟨b,o,none⟩∧BytesAt w b o l
theorem Bs.any {w:World} {p:Option Addr} {l:List Nat} {g:Nat} (h:Bs w p l g):Bs0 w p l:=by
 rcases h with h | ⟨b,o,e,h,_⟩
 ·exact .inl h
 ·exact .inr ⟨b,o,e,h⟩
theorem Bs0.grow {w w':World} {p:Option Addr} {l:List Nat} (h:Bs0 w p l) (hb:Below w.heap.size w w'):Bs0 w' p l:=by
 rcases h with h | ⟨b,o,e,h⟩
 ·exact .inl h
 ·exact .inr ⟨b,o,e,h.grow hb⟩
theorem Bs0.new {w w':World} {p:Option Addr} {l:List Nat} {g':Nat} (h:Bs0 w p l) (hb:Below w.heap.size w w') (hg:w.heap.size≤g'):Bs w' p l g':=by
 rcases h with h | ⟨b,o,e,h⟩
 ·exact .inl h
 ·exact .inr ⟨b,o,e,h.grow hb,by have:=h.1;omega⟩
theorem Zbj {P:Program} {e:TypeId} {k k':IntKind} (d:Nat) (he:P.underlying e=some (.int k')) (xs ys:Array Value) (f g:Nat→Int) (w:World):∀is:List Nat,
  (∀ i∈is,xs[i]?=some (.int k (f i))∧ys[i]?=some (.int k (g i)))→(Op.eqItems (d+1) e 1 xs ys is).run P w=.ok (is.all fun i=>f i==g i) w
 | [],_=>by simp[Op.eqItems]
 | i::is,h=>by
  obtain⟨h1,h2⟩:=h i (by simp)
  have hag:(isAgg e).run P w=.ok false w:=by unfold isAgg;rw[Sem.run_bind,run_underlying he w];simp
  have hp:∀(cs:Array Value) (v:Value),cs[i]?=some v→(part e cs (i*1)).run P w=.ok v w:=fun cs v hv=>by
   unfold part;rw[Sem.run_bind,hag];simp[hv]
  have ih:=Zbj d he xs ys f g w is fun j hj=>h j (by simp[hj])
  simp only[Op.eqItems,Sem.run_bind,hp xs _ h1,hp ys _ h2,Result.andThen_ok,run_equalIn_int w d e k k' (f i) (g i) he]
  cases hfg:(f i==g i)
  ·simp[hfg]
  ·simp[hfg,ih]
@[go_sem] theorem ZvV (w:World) (C:Array Value) (n c:Nat):(convert 38 38 (.slice (some ⟨w.heap.size,0,none⟩) n c)).run Tryz.prog (w.alloc (.cells C 5))=.ok (.slice (some ⟨w.heap.size,0,none⟩) n c) (w.alloc (.cells C 5 (C.size,C.size+1))) :=
 Lib.run_convert_bytes_const w _ _ C n c Tryz.underlying38 Tryz.underlying5
theorem Zbr (w:World) (l:List Nat) (t:TypeId) (fr:Nat×Nat):BytesAt (w.alloc (.cells (bysA l) t fr)) w.heap.size 0 l :=
 ⟨by simp,fun i hi=>by rw[Nat.zero_add,cell_of_row _ _ i _ _ _ (Zaq w _)];exact ZaB l i hi⟩
theorem ZaH {w:World} {b:Nat} {l:List Nat} (h:RowAt w b (bysA l)):BytesAt w b 0 l :=
 ⟨h.2.2,fun i hi=>by rw[Nat.zero_add];exact h.cellAt i (ZaB l i hi)⟩
theorem ZvI (a:Nat) (ha:a<256):∀i,[a].getD i 0<256:=Zbp fun x hx=>by simp at hx;omega
@[go_sem ↓] theorem Zlm (v:Value):Instr.loadAt 23 v=Zam 23 v:=rfl
@[go_sem] theorem Zjd (w:World) (n:Nat) (h1:w.isRow n=true) (h2:(w.rowOf n).size=32):(Zam 23 (.pointer (some ⟨n,0,none⟩))).run Tryz.prog w=.ok (.agg (w.rowOf n)) w:=ZaF w Tryz.underlying23 rfl (by kernel_rfl) n h1 h2
theorem Zav {fn:Func} {p:Tmp} {cs:Array Value} (h:fn.results=#[.cell p 23]) (hc:cs.size=32) (w:World) (tmps:Array Value) (n:Nat) (hp:tmps.getD p undef=.pointer (some ⟨n,0,none⟩)) (h1:w.isRow n=true) (h2:w.rowOf n=cs):(results fn tmps).run Tryz.prog w=.ok (.agg cs) w :=
 ZaW w h Tryz.underlying23 rfl (by rw[hc];kernel_rfl) tmps n hp h1 h2
@[go_sem ↓] theorem ZmN (ps:Array (Nat×Value)):Instr.build 23 ps=bldA 23 ps:=rfl
@[go_sem] theorem ZtR (w:World):(bldA 23 #[]).run Tryz.prog w=.ok (.agg (bysA (zs 32))) w:=run_build w _ _ _ (by kernel_rfl)
@[go_sem] theorem Zjr (op:BinOp) (x y:Operand) (xs ys:Array Value) (w:World):(eqGuard op 23 x y (.agg xs) (.agg ys)).run Tryz.prog w=.ok () w:=run_eqGuard_agg w op 23 x y xs ys (by kernel_rfl)
def stA (s:St):Array Value:=#[.int .u32 s.a,.int .u32 s.b,.int .u32 s.c,.int .u32 s.d,.int .u32 s.e,.int .u32 s.f,.int .u32 s.g,.int .u32 s.h]
def keA (s:St):Array Value:=byI (keyL s)
theorem Znj (s:St) (j:Nat) (h:j<8):(stA s)[j]?=some (.int .u32 (Zhh s j)):=by
 have:j=0∨j=1∨j=2∨j=3∨j=4∨j=5∨j=6∨j=7:=by omega
 rcases this with rfl | rfl | rfl | rfl | rfl | rfl | rfl | rfl<;>rfl
@[go_sem] theorem Zn7 (s:St):(stA s).size=8:=by simp[stA]
@[go_sem] theorem ZbI (s:St):(keA s).size=32:=by simp[keA,byI,keyL]
@[go_sem] theorem ZsS (s:St):Zbg (stA s)=true:=by simp[Zbg,stA,Value.oneCell']
@[go_sem] theorem ZwU (s:St):Zbg (keA s)=true:=by simp[Zbg,keA,byI,keyL,Value.oneCell']
@[go_sem ↓] theorem ZqQ (v:Value):Instr.loadAt 172 v=Zam 172 v:=rfl
@[go_sem ↓] theorem Zqm (v:Value):Instr.loadAt 173 v=Zam 173 v:=rfl
@[go_sem ↓] theorem Zr5 (v:Value):Instr.loadAt 175 v=Zam 175 v:=rfl
@[go_sem ↓] theorem ZtA (v:Value):Instr.loadAt 221 v=Zam 221 v:=rfl
section
variable (w:World) (n:Nat)
@[go_sem] theorem Zob (h1:w.isRow n=true) (h2:(w.rowOf n).size=8):(Zam 172 (.pointer (some ⟨n,0,none⟩))).run Tryz.prog w=.ok (.agg (w.rowOf n)) w:=ZaF w Tryz.underlying172 rfl (by kernel_rfl) n h1 h2
@[go_sem] theorem Zpp (h1:w.isRow n=true) (h2:(w.rowOf n).size=64):(Zam 173 (.pointer (some ⟨n,0,none⟩))).run Tryz.prog w=.ok (.agg (w.rowOf n)) w:=ZaF w Tryz.underlying173 rfl (by kernel_rfl) n h1 h2
@[go_sem] theorem Zqx (h1:w.isRow n=true) (h2:(w.rowOf n).size=74):(Zam 175 (.pointer (some ⟨n,0,none⟩))).run Tryz.prog w=.ok (.agg (w.rowOf n)) w:=ZaF w Tryz.underlying175 rfl (by kernel_rfl) n h1 h2
@[go_sem] theorem Zr4 (h1:w.isRow n=true) (h2:(w.rowOf n).size=64):(Zam 221 (.pointer (some ⟨n,0,none⟩))).run Tryz.prog w=.ok (.agg (w.rowOf n)) w:=ZaF w Tryz.underlying221 rfl (by kernel_rfl) n h1 h2
end
theorem ZiW {fn:Func} {p:Tmp} {cs:Array Value} (h:fn.results=#[.cell p 221]) (hc:cs.size=64) (w:World) (tmps:Array Value) (n:Nat) (hp:tmps.getD p undef=.pointer (some ⟨n,0,none⟩)) (h1:w.isRow n=true) (h2:w.rowOf n=cs):(results fn tmps).run Tryz.prog w=.ok (.agg cs) w :=
 ZaW w h Tryz.underlying221 rfl (by rw[hc];kernel_rfl) tmps n hp h1 h2
theorem Zg4 {fn:Func} {p:Tmp} {cs:Array Value} (h:fn.results=#[.cell p 172]) (hc:cs.size=8) (w:World) (tmps:Array Value) (n:Nat) (hp:tmps.getD p undef=.pointer (some ⟨n,0,none⟩)) (h1:w.isRow n=true) (h2:w.rowOf n=cs):(results fn tmps).run Tryz.prog w=.ok (.agg cs) w :=
 ZaW w h Tryz.underlying172 rfl (by rw[hc];kernel_rfl) tmps n hp h1 h2
theorem Zir {fn:Func} {p:Tmp} {cs:Array Value} (h:fn.results=#[.cell p 175]) (hc:cs.size=74) (w:World) (tmps:Array Value) (n:Nat) (hp:tmps.getD p undef=.pointer (some ⟨n,0,none⟩)) (h1:w.isRow n=true) (h2:w.rowOf n=cs):(results fn tmps).run Tryz.prog w=.ok (.agg cs) w :=
 ZaW w h Tryz.underlying175 rfl (by rw[hc];kernel_rfl) tmps n hp h1 h2
def hasA (m:Bool) (n:Int) (s:St) (r:List Nat):Array Value:=(Value.bool m::.int .i64 n::((stA s).toList++bys r)).toArray
theorem Zbl (m:Bool) (n:Int) (s:St) (r:List Nat):(hasA m n s r).size=10+r.length:=by simp[hasA,bys,stA];omega
@[go_sem] theorem Zpt (m:Bool) (n:Int) (s:St) (r:List Nat):Zbg (hasA m n s r)=true:=by simp[Zbg,hasA,bys,stA,Value.oneCell']
def stz:St:=⟨0,0,0,0,0,0,0,0⟩
@[go_sem ↓] theorem ZsB (ps:Array (Nat×Value)):Instr.build 172 ps=bldA 172 ps:=rfl
@[go_sem ↓] theorem ZrN (ps:Array (Nat×Value)):Instr.build 173 ps=bldA 173 ps:=rfl
@[go_sem ↓] theorem ZtK (ps:Array (Nat×Value)):Instr.build 175 ps=bldA 175 ps:=rfl
@[go_sem] theorem Zqg (a b c d e f g h:Int) (w:World):(bldA 172 #[(0,.int .u32 a),(1,.int .u32 b),(2,.int .u32 c),(3,.int .u32 d),(4,.int .u32 e),(5,.int .u32 f),(6,.int .u32 g),(7,.int .u32 h)]).run Tryz.prog w=.ok (.agg (stA ⟨a,b,c,d,e,f,g,h⟩)) w:=run_build w _ _ _ (by kernel_rfl)
@[go_sem] theorem Zq2 (w:World):(bldA 173 #[]).run Tryz.prog w=.ok (.agg (bysA (zs 64))) w:=run_build w _ _ _ (by kernel_rfl)
@[go_sem] theorem Zrh (w:World):(bldA 175 #[]).run Tryz.prog w=.ok (.agg (hasA false 0 stz (zs 64))) w:=run_build w _ _ _ (by kernel_rfl)
@[go_sem] theorem Ztn (s:St) (w:World):(bldA 175 #[(0,.bool true),(2,.agg (stA s))]).run Tryz.prog w=.ok (.agg (hasA true 0 s (zs 64))) w:=run_build w _ _ _ (by kernel_rfl)
theorem Zg1 {A:Array Value} {k:Nat} {v:Value} (hk:k<64) (hv:A[k]?=some v) (w:World):(Instr.index 173 (.agg A) (.int .i64 (k:Int))).run Tryz.prog w=.ok v w:=by
 have hu:=Tryz.underlying173
 have hi:(Tryz.prog.info? 5).map (fun i=>(i.zero,i.size,i.bytes))=some (some (.int .u8 0),1,1):=by kernel_rfl
 obtain⟨i0,hi,hz0,hz1,hz2⟩:=info_parts hi
 have hu8:=Tryz.underlying5
 simp[Instr.index,asIntOf,run_underlying hu,sizeOf,typeInfo,hi,hz1,part,isAgg,run_underlying hu8,hv,hk,Sem.run_bind]
end Go.Proofs.YtddmjddlbhdcpaaGreatDoor
namespace Go
open Go.RowKit
end Go
namespace Go.Proofs.YtddmjddlbhdcpaaGreatDoor
open Go.RowKit Go.Hold Go.Sh
theorem ZoI (b:List Nat) (hl:b.length=64) (hb:∀i,b.getD i 0<256) (w:World) :
  Calls Tryz.prog 167 #[.agg (bysA b)] w fun e w'=>e=.returned (.agg (wosA (sch b)))∧Below w.heap.size w w':=by
 have hs:(bysA b).size=64:=by rw[Zaj,hl]
 go_enter Tryz.func167,Tryz.ntmps167
 go_wp2_with fail
 generalize hW:World.alloc _ _=W1
 have R0:=Zq (show RowAt W1 (w.heap.size+1+1) (wosA (Zex b 0)) by rw[←hW,ZgM];clear hW;exact⟨by go_simp,by go_simp;rfl,by go_simp⟩)
 have Q0:=Zq (show RowAt W1 (w.heap.size+1) (wosA (Zex b 0)) by rw[←hW,ZgM];clear hW;exact⟨by go_simp,by go_simp;rfl,by go_simp⟩)
 have B0:=Zq (show Below w.heap.size w W1 by rw[←hW];repeat (first | apply Zag | apply Zab | apply Below.drew | exact Below.refl _ _))
 have z0:=B0.out.size
 clear hW
 go_loopw [8] (fun i wr=>∃ k:Nat,k≤64∧i=.int .i64 k∧RowAt wr (w.heap.size+1+1) (wosA (Zex b k))∧Below (w.heap.size+1+1) W1 wr) (fun i _=>64-(intOf i).toNat)
 case atStart=>exact⟨0,by decide,rfl,R0.out,Below.refl _ _⟩
 case round =>
  obtain⟨k,hk,rfl,hrow,hbel⟩:=hrel
  by_cases hk64:k<64
  ·have hx:=ZaB b k (by omega)
   have hk0:(0:Int)≤(k:Int):=by omega
   have hk1:(k:Int)<64:=by omega
   have hq:(k:Int).tdiv 4=((k/4:Nat):Int):=rfl
   have hc:=hrow.cellAt (k/4) (ZcG _ _ (Zeu b k (k/4) (by omega)))
   rw[show k-4*(k/4)=k%4 by omega] at hc
   have hz:=hrow.frozenAt (k/4)
   have hst:=Zlx b hb k
   have hym:((b.getD k 0:Nat):Int)%4294967296=((b.getD k 0:Nat):Int):=by have:=hb k;omega
   rw[ZrU] at hst
   have h0:(0:Int)≤((k/4:Nat):Int):=by omega
   have h4:((k/4:Nat):Int)<64:=by omega
   have Hset:=Zq (ZmD b k hk64)
   generalize b.getD k 0=y at hx hst hym
   generalize pkn b (k/4) (k%4)=p at hc hst
   generalize ((pkn b (k/4) (k%4+1):Nat):Int)=p' at hst Hset
   have hix:=Zg1 hk64 hx
   generalize k/4=q at *
   have Hrow:=Zq hrow
   have Hbel:=Zq hbel
   clear hrow hbel hx
   go_wp2_with fail
   go_roundw
   case rel =>
    refine⟨k+1,by omega,by go_num,?_,?_⟩
    ·rw[←Hset.out,←Zcq];exact Hrow.out.setCell _ _
    ·exact Hbel.out.setCell (Nat.le_refl _) _
   case measure=>simp[intOf];omega
  ·obtain rfl:k=64:=by omega
   have Hrow:=Zq hrow
   have Hbel:=Zq hbel
   clear hrow hbel
   go_wp2_with fail
   rw[Zm4] at Hrow
   obtain⟨W2,eW2⟩:∃x,x=wr:=⟨_,rfl⟩
   rw[←eW2] at Hrow Hbel ⊢
   clear eW2
   go_loopw [6] (fun i wr=>∃ k:Nat,16≤k∧k≤64∧i=.int .i64 k∧RowAt wr (w.heap.size+1+1) (wosA (wz b k))∧Below (w.heap.size+1+1) W2 wr) (fun i _=>64-(intOf i).toNat)
   case atStart=>exact⟨16,by decide,by decide,rfl,Hrow.out,Below.refl _ _⟩
   case round =>
    obtain⟨k,hk0,hk,rfl,hrow,hbel⟩:=hrel
    by_cases hk64:k<64
    ·have hkk:(0:Int)≤(k:Int):=by omega
     have hk1:(k:Int)<64:=by omega
     have hg:=hrow.2.2
     have Hn:=Zq (Zq8 b k hk0)
     have Hset:=Zq (ZuL b k hk0 hk64)
     have hc2:=hrow.cellAt (k-2) (ZcG _ _ (Zka b k (k-2) hk0 (by omega) hk))
     generalize (ws b (k-16)).getD (k-2) 0=x2 at hc2 Hn
     have hc7:=hrow.cellAt (k-7) (ZcG _ _ (Zka b k (k-7) hk0 (by omega) hk))
     generalize (ws b (k-16)).getD (k-7) 0=x7 at hc7 Hn
     have hc15:=hrow.cellAt (k-15) (ZcG _ _ (Zka b k (k-15) hk0 (by omega) hk))
     generalize (ws b (k-16)).getD (k-15) 0=x15 at hc15 Hn
     have hc16:=hrow.cellAt (k-16) (ZcG _ _ (Zka b k (k-16) hk0 (by omega) hk))
     generalize (ws b (k-16)).getD (k-16) 0=x16 at hc16 Hn
     obtain⟨k2,e2⟩:∃y,y=k-2:=⟨_,rfl⟩
     rw[←e2] at hc2
     have hw2:IntKind.i64.wrap ((k:Int)-2)=(k2:Int):=by rw[IntWalk.i64_in _ (by omega)];omega
     have ha2:(0:Int)≤(k2:Int):=by omega
     have hb2:(k2:Int)<64:=by omega
     obtain⟨k7,e7⟩:∃y,y=k-7:=⟨_,rfl⟩
     rw[←e7] at hc7
     have hw7:IntKind.i64.wrap ((k:Int)-7)=(k7:Int):=by rw[IntWalk.i64_in _ (by omega)];omega
     have ha7:(0:Int)≤(k7:Int):=by omega
     have hb7:(k7:Int)<64:=by omega
     obtain⟨k15,e15⟩:∃y,y=k-15:=⟨_,rfl⟩
     rw[←e15] at hc15
     have hw15:IntKind.i64.wrap ((k:Int)-15)=(k15:Int):=by rw[IntWalk.i64_in _ (by omega)];omega
     have ha15:(0:Int)≤(k15:Int):=by omega
     have hb15:(k15:Int)<64:=by omega
     obtain⟨k16,e16⟩:∃y,y=k-16:=⟨_,rfl⟩
     rw[←e16] at hc16
     have hw16:IntKind.i64.wrap ((k:Int)-16)=(k16:Int):=by rw[IntWalk.i64_in _ (by omega)];omega
     have ha16:(0:Int)≤(k16:Int):=by omega
     have hb16:(k16:Int)<64:=by omega
     clear e2 e7 e15 e16
     have Hrow:=Zq hrow
     have Hbel:=Zq hbel
     clear hrow hbel
     go_wp2_with fail
     refine Zal wr [0,1,2,3,4,5,6,7,8,9,10,11,12,13,14,15,16,17,18,19,20,21,22] [false,false,false,false,false,false,false,false,false,false,false,false,false,false,false,false,false,false,false,false,false,false,false] [] [] 23 (by kernel_rfl) rfl (by kernel_rfl) (by intro c a d v w h;cases d<;>exact h) ((Below.refl _ _).drew) ?_
     simp only[pick,List.getElem?_cons_succ,List.getElem?_cons_zero,List.drop_succ_cons,List.drop_zero]
     iterate 5 (refine Zac (Zaa rfl) (by intro K o d hK;go_simp;exact hK _ (Below.refl _ _)) ?_)
     refine Zai (v:=.int .u32 (s1 x2)) (Zaa rfl) (by intro K o d hK;go_simp;refine(Zt2 _ _).mono ?_;rintro e w' ⟨rfl,rfl⟩;exact⟨_,rfl,hK _ (Below.refl _ _)⟩) ?_
     iterate 9 (refine Zac (Zaa rfl) (by intro K o d hK;go_simp;exact hK _ (Below.refl _ _)) ?_)
     refine Zai (v:=.int .u32 (s0 x15)) (Zaa rfl) (by intro K o d hK;go_simp;refine(Zvc _ _).mono ?_;rintro e w' ⟨rfl,rfl⟩;exact⟨_,rfl,hK _ (Below.refl _ _)⟩) ?_
     iterate 7 (refine Zac (Zaa rfl) (by intro K o d hK;go_simp;exact hK _ (Below.refl _ _)) ?_)
     refine Zan ?_
     intro w2 hb2 _
     have Rw:=Hrow.out.grow hb2
     have hck:=Rw.cellAt k (Zfk _ k (by rw[Zh6 _ _ hk0 hk];exact hk64))
     have hfk:=Rw.frozenAt k
     have B2:=Zq (Hbel.out.trans (hb2.mono (Nat.le_of_lt hg)))
     have HRw:=Zq Rw
     clear Rw hb2
     go_wp2_with fail
     go_roundw
     case rel =>
      refine⟨_,_,_,_,_,_,_,_,_,_,_,_,_,_,_,_,_,_,_,_,_,_,_,_,_,_,_,_,⟨k+1,by omega,by omega,by go_num,?_,?_⟩,rfl⟩
      ·rw[←Hset.out,←Zcq,Hn.out];exact HRw.out.setCell _ _
      ·exact B2.out.setCell (p:=⟨_,_,none⟩) (Nat.le_refl _) _
     case measure=>simp[intOf];omega
    ·obtain rfl:k=64:=by omega
     rw[Zvr] at hrow
     have hsz:(wosA (sch b)).size=64:=by rw[Zc3,ZdL]
     have B2:=Zq (Hbel.out.trans hbel)
     have Q2:=RowAt.keep Q0.out B2.out (by omega)
     have hne:¬w.heap.size+1=w.heap.size+1+1:=by omega
     have hz0:(wosA (Zex b 0)).size=64:=by rw[Zc3,Zce]
     obtain⟨q1,q2,q3⟩:=Q2
     obtain⟨r1,r2,r3⟩:=hrow
     clear hbel
     go_wp2_with fail
     refine bodyPost_ret (v:=.agg (wosA (sch b))) (ZiW Tryz.results167 hsz _ _ _ rfl (by go_simp) (by go_simp)) rfl ⟨rfl,?_⟩
     exact Zad (B0.out.trans (B2.out.mono (by omega))) (by omega) _
def Tabs (w:World):Prop:=1<w.heap.size∧(∀ i,i<8→w.cell? ⟨0,i,none⟩=some (.int .u32 (Hs.getD i 0)))∧(∀ i,i<64→w.cell? ⟨1,i,none⟩=some (.int .u32 (Ks.getD i 0)))
theorem Tabs.below {w w':World} {B:Nat} (h:Tabs w) (hb:Below B w w') (hB:1<B):Tabs w' :=
 ⟨Nat.lt_of_lt_of_le h.1 hb.size,fun i hi=>by rw[hb.cell (show 0<B by omega)];exact h.2.1 i hi,fun i hi=>by rw[hb.cell (show 1<B by omega)];exact h.2.2 i hi⟩
theorem Tabs.grow {w w':World} (h:Tabs w) (hb:Below w.heap.size w w'):Tabs w':=h.below hb h.1
theorem Zco (s:St) (b:List Nat) (hl:b.length=64) (hb:∀i,b.getD i 0<256) (w:World) (hT:Tabs w) :
  Calls Tryz.prog 143 #[.agg (stA s),.agg (bysA b)] w fun e w'=>e=.returned (.agg (stA (scmp s b)))∧Below w.heap.size w w':=by
 have hs:(bysA b).size=64:=by rw[Zaj,hl]
 have hw:(wosA (sch b)).size=64:=by rw[Zc3,ZdL]
 have HT:=Zq hT
 clear hT
 go_enter Tryz.func143,Tryz.ntmps143
 go_wp2_with fail
 refine(ZoI b hl hb _).mono ?_
 rintro e w' ⟨rfl,hbw⟩
 obtain⟨oc,nc,rfl⟩:=Zaf hbw
 clear hbw
 go_wp2_with fail
 generalize hW:World.alloc _ _=W1
 have R0:=Zq (show RowAt W1 w.heap.size (stA s) by rw[←hW];clear hW;exact⟨by go_simp,by go_simp,by go_simp⟩)
 have R1:=Zq (show ∃c,c.size=8∧RowAt W1 (w.heap.size+1+1) c by rw[←hW];clear hW;exact⟨#[.int .u32 0,.int .u32 0,.int .u32 0,.int .u32 0,.int .u32 0,.int .u32 0,.int .u32 0,.int .u32 0],rfl,by go_simp,by go_simp,by go_simp⟩)
 have R2:=Zq (show RowAt W1 (w.heap.size+1+1+1+oc.size) (wosA (sch b)) by rw[←hW];clear hW;exact⟨by go_simp,by go_simp,by go_simp⟩)
 have B0:=Zq (show Below w.heap.size w W1 by rw[←hW];repeat (first | apply Zag | apply Zab | apply Below.drew | exact Below.refl _ _))
 clear hW
 have hg2:w.heap.size+1+1<w.heap.size+1+1+1+oc.size:=by omega
 generalize w.heap.size+1+1+1+oc.size=g at *
 have hlt:=R0.out.2.2
 have hc0:=R0.out.cellAt 0 (show (stA s)[0]?=some (.int .u32 s.a) from rfl)
 have hc1:=R0.out.cellAt 1 (show (stA s)[1]?=some (.int .u32 s.b) from rfl)
 have hc2:=R0.out.cellAt 2 (show (stA s)[2]?=some (.int .u32 s.c) from rfl)
 have hc3:=R0.out.cellAt 3 (show (stA s)[3]?=some (.int .u32 s.d) from rfl)
 have hc4:=R0.out.cellAt 4 (show (stA s)[4]?=some (.int .u32 s.e) from rfl)
 have hc5:=R0.out.cellAt 5 (show (stA s)[5]?=some (.int .u32 s.f) from rfl)
 have hc6:=R0.out.cellAt 6 (show (stA s)[6]?=some (.int .u32 s.g) from rfl)
 have hc7:=R0.out.cellAt 7 (show (stA s)[7]?=some (.int .u32 s.h) from rfl)
 refine ZaC (fun w'=>∃ o d,w'=W1.plus o d) (by kernel_rfl) (by kernel_rfl) ⟨#[],_,rfl⟩ ?_
 iterate 24 (refine Zat ⟨_,#[],0,rfl⟩ (Zaa rfl) (by rintro K _ ⟨o,d,rfl⟩ hK;go_simp;exact hK _ ⟨o,d,rfl⟩) ?_)
 refine Zaw ?_
 rintro _ ⟨o2,n2,rfl⟩
 clear hc0 hc1 hc2 hc3 hc4 hc5 hc6 hc7
 generalize hW:W1.plus o2 n2=W2
 have hb1:=Zq (show Below W1.heap.size W1 W2 by rw[←hW];exact Zag (Below.refl _ _) _ _)
 clear hW
 replace R0:=Zq (R0.out.grow hb1.out)
 replace R2:=Zq (R2.out.grow hb1.out)
 obtain⟨c1,hs1,r1⟩:=R1.out
 replace r1:=Zq (r1.grow hb1.out)
 replace B0:=Zq (B0.out.trans (hb1.out.mono B0.out.size))
 clear hb1 R1 hlt
 go_wp2_with fail
 go_loopw [6,7,8,9,10,11,12,13,35] (fun va vb vc vd ve vf vg vh i wr=>∃ (k:Nat) (r:St),k≤64∧i=.int .i64 k∧r=Zlh (sch b) s k∧va=.int .u32 r.a∧vb=.int .u32 r.b∧vc=.int .u32 r.c∧vd=.int .u32 r.d∧ve=.int .u32 r.e∧vf=.int .u32 r.f∧vg=.int .u32 r.g∧vh=.int .u32 r.h∧Below W2.heap.size W2 wr) (fun _ _ _ _ _ _ _ _ i _=>64-(intOf i).toNat)
 case atStart=>exact⟨0,s,by decide,rfl,rfl,rfl,rfl,rfl,rfl,rfl,rfl,rfl,rfl,Below.refl _ _⟩
 case round =>
  obtain⟨k,r,hk,rfl,hr,rfl,rfl,rfl,rfl,rfl,rfl,rfl,rfl,hbel⟩:=hrel
  by_cases hk64:k<64
  ·have hk0:(0:Int)≤(k:Int):=by omega
   have hk1:(k:Int)<64:=by omega
   have Hr:=Zq hr
   have Hbel:=Zq hbel
   have hT:=HT.out.grow (B0.out.trans (hbel.mono B0.out.size))
   have ht1:=hT.1
   have hck:=hT.2.2 k hk64
   have hrow:=R2.out.grow hbel
   have hg:=hrow.2.2
   have hcw:=hrow.cellAt k (Zfk _ k (by rw[ZdL];exact hk64))
   generalize eK:Ks.getD k 0=kk at hck
   generalize eW:(sch b).getD k 0=ww at hcw
   have HeK:=Zq eK
   have HeW:=Zq eW
   clear eK eW hrow hT hbel hr
   go_wp2_with fail
   refine ZaC (fun w'=>∃ o d,w'=wr.plus o d) (by kernel_rfl) (by kernel_rfl) ⟨#[],_,rfl⟩ ?_
   iterate 2 (refine Zat ⟨_,#[],0,rfl⟩ (Zaa rfl) (by rintro K _ ⟨o,d,rfl⟩ hK;go_simp;exact hK _ ⟨o,d,rfl⟩) ?_)
   refine Zap (v:=.int .u32 (S1 r.e)) (Zaa rfl) (by rintro K _ ⟨o,d,rfl⟩ hK;go_simp;refine(Zvf _ _).mono ?_;rintro e w' ⟨rfl,rfl⟩;exact⟨_,rfl,hK _ ⟨o,d,rfl⟩⟩) ?_
   iterate 19 (refine Zat ⟨_,#[],0,rfl⟩ (Zaa rfl) (by rintro K _ ⟨o,d,rfl⟩ hK;go_simp;exact hK _ ⟨o,d,rfl⟩) ?_)
   refine Zaw ?_
   rintro _ ⟨o3,n3,rfl⟩
   generalize e1:ZaP (ZaP (ZaP (ZaP r.h (S1 r.e)) (x32 (a32 r.e r.f) (a32 (n32 r.e) r.g))) kk) ww=t1
   have He1:=Zq e1
   clear e1
   go_wp2_with fail
   refine(Zvh _ _).mono ?_
   rintro e w' ⟨rfl,rfl⟩
   go_wp2_with fail
   obtain rfl:=He1.out
   refine⟨⟨k+1,srnd r kk ww,by omega,by go_num,?_,rfl,rfl,rfl,rfl,rfl,rfl,rfl,rfl,?_⟩,by simp[intOf];omega⟩
   ·show srnd r kk ww=srnd (Zlh (sch b) s k) (Ks.getD k 0) ((sch b).getD k 0)
    rw[←Hr.out,HeK.out,HeW.out]
   ·exact Zag Hbel.out _ _
  ·obtain rfl:k=64:=by omega
   have R3:=R0.out.grow hbel
   have hlt:=R3.2.2
   have hc0:=R3.cellAt 0 (show (stA s)[0]?=some (.int .u32 s.a) from rfl)
   have hc1:=R3.cellAt 1 (show (stA s)[1]?=some (.int .u32 s.b) from rfl)
   have hc2:=R3.cellAt 2 (show (stA s)[2]?=some (.int .u32 s.c) from rfl)
   have hc3:=R3.cellAt 3 (show (stA s)[3]?=some (.int .u32 s.d) from rfl)
   have hc4:=R3.cellAt 4 (show (stA s)[4]?=some (.int .u32 s.e) from rfl)
   have hc5:=R3.cellAt 5 (show (stA s)[5]?=some (.int .u32 s.f) from rfl)
   have hc6:=R3.cellAt 6 (show (stA s)[6]?=some (.int .u32 s.g) from rfl)
   have hc7:=R3.cellAt 7 (show (stA s)[7]?=some (.int .u32 s.h) from rfl)
   obtain⟨q1,q2,q3⟩:=r1.out.grow hbel
   have B1:=Zq (B0.out.trans (hbel.mono B0.out.size))
   have Hr:=Zq hr
   clear R3 hbel hr
   go_wp2_with fail
   refine bodyPost_ret (v:=.agg (stA (scmp s b))) (Zg4 Tryz.results143 rfl _ _ _ rfl (by go_simp) (by go_simp;rw[Hr.out];rfl)) rfl ⟨rfl,?_⟩
   exact Zad B1.out (by omega) _
theorem ZhC (k:Nat):(k:Int).tmod 4=((k%4:Nat):Int):=rfl
theorem Zoy (s:St) (w:World) :
  Calls Tryz.prog 145 #[.agg (stA s)] w fun e w'=>e=.returned (.agg (keA s))∧Below w.heap.size w w':=by
 go_enter Tryz.func145,Tryz.ntmps145
 go_wp2_with fail
 generalize hW:World.alloc _ _=W1
 have R0:=Zq (show RowAt W1 w.heap.size (stA s) by rw[←hW];clear hW;exact⟨by go_simp,by go_simp,by go_simp⟩)
 have Q0:=Zq (show RowAt W1 (w.heap.size+1) (byI (keyZ s 0)) by rw[←hW];clear hW;exact⟨by go_simp,by go_simp;rfl,by go_simp⟩)
 have K0:=Zq (show RowAt W1 (w.heap.size+1+1) (byI (keyZ s 0)) by rw[←hW];clear hW;exact⟨by go_simp,by go_simp;rfl,by go_simp⟩)
 have B0:=Zq (show Below w.heap.size w W1 by rw[←hW];repeat (first | apply Zag | apply Zab | apply Below.drew | exact Below.refl _ _))
 clear hW
 go_loopw [5] (fun i wr=>∃ k:Nat,k≤32∧i=.int .i64 k∧RowAt wr (w.heap.size+1+1) (byI (keyZ s k))∧Below (w.heap.size+1+1) W1 wr) (fun i _=>32-(intOf i).toNat)
 case atStart=>exact⟨0,by decide,rfl,K0.out,Below.refl _ _⟩
 case round =>
  obtain⟨k,hk,rfl,hrow,hbel⟩:=hrel
  by_cases hk32:k<32
  ·have hk0:(0:Int)≤(k:Int):=by omega
   have hk1:(k:Int)<32:=by omega
   have hq:(k:Int).tdiv 4=((k/4:Nat):Int):=rfl
   have hm:=ZhC k
   have hc:=(R0.out.keep hbel (by omega)).cellAt (k/4) (Znj s (k/4) (by omega))
   have hck:=hrow.cellAt k (ZmA _ _ (Zfa s k k hk32))
   have hfk:=hrow.frozenAt k
   have Hset:=Zq (Zkf s k hk32)
   have h0:(0:Int)≤((k/4:Nat):Int):=by omega
   have h8:((k/4:Nat):Int)<8:=by omega
   obtain⟨m,em⟩:∃y,y=k%4*8:=⟨_,rfl⟩
   obtain⟨y,ey⟩:∃y,y=24-k%4*8:=⟨_,rfl⟩
   have h1:IntKind.i64.wrap (((k%4:Nat):Int)*8)=(m:Int):=by rw[IntWalk.i64_in _ (by omega)];omega
   have h2:IntKind.i64.wrap (24-(m:Int))=(y:Int):=by rw[IntWalk.i64_in _ (by omega)];omega
   have hy0:(0:Int)≤(y:Int):=by omega
   have hy1:(y:Int)≤32:=by omega
   obtain⟨v,ev⟩:∃v,v=Zdc s k:=⟨_,rfl⟩
   rw[←ev] at Hset
   unfold Zdc at ev
   rw[←ey] at ev
   have hv:=ev.symm
   clear em ey ev
   generalize Zhh s (k/4)=x at hc hv
   generalize k/4=q at *
   generalize k%4=r4 at *
   have Hrow:=Zq hrow
   have Hbel:=Zq hbel
   clear hrow hbel
   go_wp2_with fail
   go_roundw
   case rel =>
    refine⟨k+1,by omega,by go_num,?_,?_⟩
    ·rw[←Hset.out,←Zmi];exact Hrow.out.setCell _ _
    ·exact Hbel.out.setCell (p:=⟨_,_,none⟩) (Nat.le_refl _) _
   case measure=>simp[intOf];omega
  ·obtain rfl:k=32:=by omega
   rw[Zj2] at hrow
   have hr:RowAt wr (w.heap.size+1+1) (keA s):=hrow
   obtain⟨q1,q2,q3⟩:=Q0.out.keep hbel (by omega)
   obtain⟨r1,r2,r3⟩:=hr
   have hz:(byI (keyZ s 0)).size=32:=by rw[Zki,ZcC]
   have Hbel:=Zq hbel
   clear hrow hbel
   go_wp2_with fail
   refine bodyPost_ret (v:=.agg (keA s)) (Zav Tryz.results145 (ZbI s) _ _ _ rfl (by go_simp) (by go_simp)) rfl ⟨rfl,?_⟩
   exact Zad (B0.out.trans (Hbel.out.mono (by omega))) (by omega) _
theorem Zdk (g n:Nat) (r:List Nat) (hr:r.length=64) (hn:n<1152921504606846976) (w:World) (h:RowAt w g (bysA r)) :
  Calls Tryz.prog 144 #[.pointer (some ⟨g,0,none⟩),.int .i64 (n:Int)] w fun e w'=>e=.returned (.tuple #[])∧w'=w.setRow g (bysA (r.take 56++len8 n)):=by
 have H:=Zq h
 have h1:IntKind.u64.wrap (n:Int)=(n:Int):=by rw[IntWalk.u64_in _ (by omega)]
 obtain⟨N,eN⟩:∃N,N=n*8:=⟨_,rfl⟩
 have h2:IntKind.u64.wrap ((n:Int)*8)=(N:Int):=by rw[IntWalk.u64_in _ (by omega),eN];omega
 have HN:=Zq eN
 clear h eN
 go_enter Tryz.func144,Tryz.ntmps144
 go_wp2_with fail
 go_loopw [4,5] (fun x i wr=>∃ (j:Nat) (k:Nat),j≤8∧k+j=63∧i=.int .i64 k∧x=.int .u64 ((N/256^j:Nat):Int)∧wr=w.setRow g (bysA (lenP r n j))) (fun _ i _=>(intOf i).toNat)
 case atStart=>exact⟨0,63,by decide,rfl,rfl,by simp,by rw[Zml r n hr];exact(ZbK H.out).symm⟩
 case round =>
  obtain⟨j,k,hj,hkj,rfl,rfl,rfl⟩:=hrel
  by_cases hj8:j<8
  ·obtain⟨x,ex⟩:∃x,x=N/256^j:=⟨_,rfl⟩
   rw[←ex]
   obtain⟨y,ey⟩:∃y,y=x%256:=⟨_,rfl⟩
   obtain⟨z,ez⟩:∃z,z=x/256:=⟨_,rfl⟩
   have hxy:(x:Int)%256=(y:Int):=by omega
   have hxz:(x:Int)/256=(z:Int):=by omega
   have hk0:(56:Int)≤(k:Int):=by omega
   have hk1:(k:Int)<64:=by omega
   have hk2:(0:Int)≤(k:Int):=by omega
   have RR:=H.out.set (bysA (lenP r n j))
   have hck:=RR.cellAt k (ZaB _ k (by rw[Zb6];omega))
   have hfk:=RR.frozenAt k
   have Hset:=Zq (show (bysA (lenP r n j)).setIfInBounds k (.int .u8 (y:Int))=bysA (lenP r n (j+1)) by
    rw[Zca,←Zo8 r n j hj8,ey,ex,HN.out,show 63-j=k by omega])
   have Hz:=Zq (show z=N/256^(j+1) by rw[ez,ex,Nat.pow_succ,Nat.div_div_eq_div_mul])
   clear ex ey ez RR
   generalize hW:w.setRow g (bysA (lenP r n j))=W at *
   have HW:=Zq hW
   clear hW
   go_wp2_with fail
   go_roundw
   case rel =>
    refine⟨j+1,k-1,by omega,by omega,by congr 1;omega,by rw[Hz.out],?_⟩
    rw[←HW.out,ZcZ H.out,Hset.out]
   case measure=>simp[intOf];omega
  ·obtain rfl:j=8:=by omega
   obtain rfl:k=55:=by omega
   rw[ZpZ r n hr]
   go_wp2_with fail
   go_end0
   exact⟨rfl,rfl⟩
theorem Zhy (m:Bool) (n:Int) (s:St) (r:List Nat) (i:Nat) (h:i<r.length):(hasA m n s r)[10+i]?=some (.int .u8 ((r.getD i 0:Nat):Int)):=by
 have:(hasA m n s r)[10+i]?=(bys r)[i]?:=by
  simp only[hasA,List.getElem?_toArray]
  rw[show 10+i=(8+i)+1+1 by omega,List.getElem?_cons_succ,List.getElem?_cons_succ,List.getElem?_append_right (by simp[stA])]
  simp[stA]
 rw[this]
 simp[bys,h]
def Zgq (c:Array Value):Array Value:=c.extract 2 10
def ZgR (c:Array Value):Array Value:=c.extract 10 74
@[go_sem] theorem ZtE (m:Bool) (n:Int) (s:St) (r:List Nat):Zgq (hasA m n s r)=stA s:=by
 apply Array.ext_getElem?
 intro i
 unfold Zgq hasA stA
 rw[Array.getElem?_extract]
 by_cases h:i<8
 ·have:i=0∨i=1∨i=2∨i=3∨i=4∨i=5∨i=6∨i=7:=by omega
  rcases this with rfl | rfl | rfl | rfl | rfl | rfl | rfl | rfl<;>simp
 ·rw[if_neg (by simp;omega),Array.getElem?_eq_none (by simp;omega)]
theorem Zgu (m:Bool) (n:Int) (s:St) (r:List Nat) (hr:r.length=64):ZgR (hasA m n s r)=bysA r:=by
 apply Array.ext_getElem?
 intro i
 unfold ZgR
 rw[Array.getElem?_extract,Zbl,hr]
 by_cases h:i<64
 ·rw[if_pos (by omega),Zhy _ _ _ _ _ (by omega),ZaB _ _ (by omega)]
 ·rw[if_neg (by omega),Array.getElem?_eq_none (by rw[Zaj];omega)]
theorem ZkW (m:Bool) (n:Int) (s s':St) (r:List Nat):setL (hasA m n s r) 2 (stA s').toList=hasA m n s' r:=by
 simp[setL,hasA,stA]
theorem Zic (m:Bool) (n:Int) (s:St) (r l:List Nat) (u:Nat) (h:u+l.length≤r.length):setL (hasA m n s r) (10+u) (bys l)=hasA m n s (r.take u++l++r.drop (u+l.length)):=by
 have hbl:(bys l).length=l.length:=by simp[bys]
 have hnew:(r.take u++l++r.drop (u+l.length)).length=r.length:=by simp;omega
 apply Array.ext_getElem?
 intro i
 rw[ZcQ,hbl,Zbl]
 by_cases h10:i<10
 ·rw[if_neg (by omega)]
  have:i=0∨i=1∨i=2∨i=3∨i=4∨i=5∨i=6∨i=7∨i=8∨i=9:=by omega
  rcases this with rfl | rfl | rfl | rfl | rfl | rfl | rfl | rfl | rfl | rfl<;>simp[hasA,stA]
 ·obtain⟨j,rfl⟩:∃j,i=10+j:=⟨i-10,by omega⟩
  by_cases hj:j<r.length
  ·rw[Zhy m n s r j hj,Zhy m n s (r.take u++l++r.drop (u+l.length)) j (by omega)]
   by_cases h1:u≤j∧j<u+l.length
   ·rw[if_pos (by omega)]
    simp only[bys,List.getElem?_map,List.getD]
    rw[show 10+j-(10+u)=j-u by omega,List.append_assoc,List.getElem?_append_right (by simp;omega),List.getElem?_append_left (by simp;omega)]
    simp only[List.length_take]
    rw[show min u r.length=u by omega,List.getElem?_eq_getElem (by omega)]
    rfl
   ·rw[if_neg (by omega)]
    congr 3
    simp only[List.getD]
    by_cases h2:j<u
    ·rw[List.append_assoc,List.getElem?_append_left (by simp;omega),List.getElem?_take,if_pos h2]
    ·rw[List.getElem?_append_right (by simp;omega),List.getElem?_drop]
     congr 2
     simp only[List.length_append,List.length_take];omega
  ·rw[if_neg (by omega),Array.getElem?_eq_none (by rw[Zbl];omega),Array.getElem?_eq_none (by rw[Zbl];omega)]
theorem Zht (m:Bool) (n n':Int) (s:St) (r:List Nat):(hasA m n s r).setIfInBounds 1 (.int .i64 n')=hasA m n' s r:=by
 simp[hasA]
section
variable (w:World) (n:Nat)
@[go_sem] theorem Zoz (h1:w.isRow n=true) (h2:(w.rowOf n).size=74):(Zam 172 (.pointer (some ⟨n,2,none⟩))).run Tryz.prog w=.ok (.agg (Zgq (w.rowOf n))) w:=by
 obtain⟨t,ht⟩:=World.isRow_spec h1
 exact run_loadAt_mid w n 2 _ (Zgq (w.rowOf n)).toList _ (World.rangeAt_of_block ht 2 8) Tryz.underlying172 rfl (by
  have:(Zgq (w.rowOf n)).toList.length=8:=by simp[Zgq,h2]
  have e:(Tryz.prog.info? 172).map (·.size)=some 8:=by kernel_rfl
  rw[this];exact e)
@[go_sem] theorem Zqi (h1:w.isRow n=true) (h2:(w.rowOf n).size=74):(Zam 173 (.pointer (some ⟨n,10,none⟩))).run Tryz.prog w=.ok (.agg (ZgR (w.rowOf n))) w:=by
 obtain⟨t,ht⟩:=World.isRow_spec h1
 exact run_loadAt_mid w n 10 _ (ZgR (w.rowOf n)).toList _ (World.rangeAt_of_block ht 10 64) Tryz.underlying173 rfl (by
  have:(ZgR (w.rowOf n)).toList.length=64:=by simp[ZgR,h2]
  have e:(Tryz.prog.info? 173).map (·.size)=some 64:=by kernel_rfl
  rw[this];exact e)
end
theorem ZvF (j:Nat) (h:j<8):Hs.getD j 0=Zhh st0 j:=by
 have:j=0∨j=1∨j=2∨j=3∨j=4∨j=5∨j=6∨j=7:=by omega
 rcases this with rfl | rfl | rfl | rfl | rfl | rfl | rfl | rfl<;>rfl
theorem Zk4 {w:World} (h:Tabs w):(Zam 172 (.pointer (some ⟨0,0,none⟩))).run Tryz.prog w=.ok (.agg (stA st0)) w:=by
 have e:(Tryz.prog.info? 172).map (·.size)=some 8:=by kernel_rfl
 refine run_loadAt_mid w 0 0 _ (stA st0).toList _ (fun j v hv=>?_) Tryz.underlying172 rfl e
 have hj:j<8:=by
  have:=(List.getElem?_eq_some_iff.1 hv).1
  simpa [stA] using this
 rw[Array.getElem?_toList,Znj st0 j hj] at hv
 rw[Nat.zero_add,h.2.1 j hj,ZvF j hj];exact hv
theorem Zu5:(hasA false 0 stz (zs 64)).size=74:=by rw[Zbl];rfl
@[go_sem ↓ high] theorem ZqD (w:World):(zeroValue 175).run Tryz.prog w=.ok (.agg (hasA false 0 stz (zs 64))) w:=by
 obtain⟨i,hi⟩:∃i,Tryz.prog.info? 175=some i:=Option.isSome_iff_exists.1 (by kernel_rfl)
 have hz:(Tryz.prog.info? 175).bind (·.zero)=some (.agg (hasA false 0 stz (zs 64))):=by kernel_rfl
 rw[hi] at hz
 have hz':i.zero=some (.agg (hasA false 0 stz (zs 64))):=hz
 simp[zeroValue,typeInfo,hi,hz',Sem.run_bind]
theorem ZrQ (w:World) (hT:Tabs w):Calls Tryz.prog 115 #[] w fun e w'=>e=.returned (.agg (hasA true 0 st0 (zs 64)))∧Below w.heap.size w w':=by
 have hl:∀ob,(Zam 172 (.pointer (some ⟨0,0,none⟩))).run Tryz.prog (w.alloc ob)=.ok (.agg (stA st0)) (w.alloc ob):=fun ob=>Zk4 (hT.grow (Zab (Below.refl _ _) _))
 have hs:(hasA true 0 st0 (zs 64)).size=74:=by rw[Zbl];rfl
 have hz:=Zu5
 clear hT
 go_enter Tryz.func115,Tryz.ntmps115
 go_wp2_with fail
 refine bodyPost_ret (v:=.agg (hasA true 0 st0 (zs 64))) (Zir Tryz.results115 hs _ _ _ rfl (by go_simp) (by go_simp)) rfl ⟨rfl,?_⟩
 repeat (first | apply Zag | apply Zab | apply Below.drew | refine Zad ?_ (by omega) _ | exact Below.refl _ _)
theorem ZcD (k:Nat):(k:Int).tmod 64=((k%64:Nat):Int):=rfl
theorem ZpM (g n:Nat) (s:St) (r:List Nat) (w:World) (hT:Tabs w) (h:RowAt w g (hasA true n s r)) (hr:r.length=64) (hrb:∀i,r.getD i 0<256) (hn:n<1152921504606846976) :
  Calls Tryz.prog 117 #[.pointer (some ⟨g,0,none⟩)] w fun e w'=>e=.returned (.agg (keA (digF n s r)))∧Below w.heap.size w w':=by
 have HT:=Zq hT
 obtain⟨h1,h2,h3⟩:=h
 have hs:(hasA true n s r).size=74:=by rw[Zbl,hr]
 have hrs:=Zgu true n s r hr
 have hbr:(bysA r).size=64:=by rw[Zaj,hr]
 have h4:g<w.heap.size+1:=by omega
 have h5:g<w.heap.size+1+1:=by omega
 have h6:g<w.heap.size+1+1+1:=by omega
 have hgw:=h3
 clear hT
 go_enter Tryz.func117,Tryz.ntmps117
 go_wp2_with fail
 go_region
 ·generalize hW:World.drew _=W1
  have hR0:=Zq (show ∃c,c.size=32∧RowAt W1 w.heap.size c by rw[←hW];clear hW;exact⟨byI (List.replicate 32 0),by simp[byI],by go_simp,by go_simp;rfl,by go_simp⟩)
  have hP0:=Zq (show RowAt W1 (w.heap.size+1) (stA s) by rw[←hW];clear hW;exact⟨by go_simp,by go_simp,by go_simp⟩)
  have hQ0:=Zq (show RowAt W1 (w.heap.size+1+1) (bysA r) by rw[←hW];clear hW;exact⟨by go_simp,by go_simp,by go_simp⟩)
  have hG0:=Zq (show RowAt W1 g (hasA true n s r) by rw[←hW];clear hW;exact⟨by go_simp,by go_simp,by go_simp⟩)
  have B0:=Zq (show Below w.heap.size w W1 by rw[←hW];repeat (first | apply Zag | apply Zab | apply Below.drew | exact Below.refl _ _))
  clear hW
  obtain⟨p,ep⟩:∃p,p=w.heap.size+1:=⟨_,rfl⟩
  obtain⟨q,eq⟩:∃q,q=w.heap.size+1+1:=⟨_,rfl⟩
  have npq:¬p=q:=by omega
  have nqp:¬q=p:=by omega
  have lp:w.heap.size<p:=by omega
  have lq:w.heap.size<q:=by omega
  rw[←eq] at hQ0 ⊢
  rw[←ep] at hP0 ⊢
  clear ep eq h1 h2 h3 h4 h5 h6
  have hcn:=hG0.out.cellAt 1 (show (hasA true n s r)[1]?=some (.int .i64 n) from rfl)
  have hu:=ZcD n
  obtain⟨u,eu⟩:∃u,u=n%64:=⟨_,rfl⟩
  rw[←eu] at hu
  have hu0:(0:Int)≤(u:Int):=by omega
  have hu1:(u:Int)<64:=by omega
  have hul:u<r.length:=by omega
  have hqu:=hQ0.out.cellAt u (ZaB r u hul)
  have hqf:=hQ0.out.frozenAt u
  have HE:=Zq eu
  clear eu
  have hQ1:=Zq (show RowAt (W1.setCell ⟨q,u,none⟩ (.int .u8 128)) q (bysA (r.set u 128)) from (by rw[←Zca];exact hQ0.out.setCell u _))
  have hset:=Zbm hQ0.out u (.int .u8 128)
  have hP1:=Zq (hP0.out.other npq ((bysA r).setIfInBounds u (.int .u8 128)))
  have hG1:=Zq (hG0.out.other (show g≠q by omega) ((bysA r).setIfInBounds u (.int .u8 128)))
  obtain⟨c0,hc0,hR1⟩:=hR0.out
  replace hR1:=Zq (show ∃c,c.size=32∧RowAt _ w.heap.size c from ⟨c0,hc0,hR1.other (show w.heap.size≠q by omega) ((bysA r).setIfInBounds u (.int .u8 128))⟩)
  have B1:=Zq (Zad B0.out (show w.heap.size≤q by omega) ((bysA r).setIfInBounds u (.int .u8 128)))
  rw[←hset] at hP1 hG1 hR1 B1
  have hl1:(r.set u 128).length=64:=by rw[List.length_set,hr]
  have hs1:(bysA (r.set u 128)).size=64:=by rw[Zaj,hl1]
  have hb1:=Znk hrb (show 128<256 by decide) u
  clear hset hc0 c0
  by_cases h56:56≤u
  ·have h56':(56:Int)≤(u:Int):=by omega
   obtain⟨a1,a2,a3⟩:=hP1.out
   obtain⟨b1,b2,b3⟩:=hQ1.out
   go_wp2_with fail
   clear hcn hqu hqf hQ0 hP0 hG0 hR0 B0
   generalize W1.setCell ⟨q,u,none⟩ (.int .u8 128)=W2 at *
   refine(Zco _ _ hl1 hb1 _ (HT.out.grow B1.out)).mono ?_
   rintro e w' ⟨rfl,hbw⟩
   have hzz:(bysA (zs 64)).size=64:=by rw[Zaj];rfl
   have hP2:=Zq (((hP1.out.grow hbw).set (stA (scmp s (r.set u 128)))).other npq (bysA (zs 64)))
   have hQ2:=Zq (((hQ1.out.grow hbw).other nqp (stA (scmp s (r.set u 128)))).set (bysA (zs 64)))
   have hG2:=Zq (((hG1.out.grow hbw).other (show g≠p by omega) (stA (scmp s (r.set u 128)))).other (show g≠q by omega) (bysA (zs 64)))
   obtain⟨c0,hc0,hR2⟩:=hR1.out
   replace hR2:=Zq (show ∃c,c.size=32∧RowAt _ w.heap.size c from ⟨c0,hc0,((hR2.grow hbw).other (show w.heap.size≠p by omega) (stA (scmp s (r.set u 128)))).other (show w.heap.size≠q by omega) (bysA (zs 64))⟩)
   have B2:=Zq (Zad (Zad (B1.out.trans (hbw.mono B1.out.size)) (show w.heap.size≤p by omega) (stA (scmp s (r.set u 128)))) (show w.heap.size≤q by omega) (bysA (zs 64)))
   have A1:=hP1.out.grow hbw
   have A2:=hQ1.out.grow hbw
   clear a1 a2 a3 b1 b2 b3
   obtain⟨a1,a2,a3⟩:=A1
   obtain⟨b1,b2,b3⟩:=A2
   have hcm:=hG2.out.cellAt 1 (show (hasA true n s r)[1]?=some (.int .i64 n) from rfl)
   clear hbw
   go_wp2_with fail
   generalize (w'.setRow p (stA (scmp s (r.set u 128)))).setRow q (bysA (zs 64))=W3 at *
   clear a1 a2 a3 b1 b2 b3 hP1 hQ1 hG1 hR1 B1 hc0 c0 hcm
   refine(Zdk q n _ rfl hn _ hQ2.out).mono ?_
   rintro e w' ⟨rfl,rfl⟩
   have hP9:=Zq (hP2.out.other npq (bysA ((zs 64).take 56++len8 n)))
   have hQ9:=Zq (hQ2.out.set (bysA ((zs 64).take 56++len8 n)))
   obtain⟨c0,hc0,hR9⟩:=hR2.out
   replace hR9:=Zq (hR9.other (show w.heap.size≠q by omega) (bysA ((zs 64).take 56++len8 n)))
   have B9:=Zq (Zad B2.out (show w.heap.size≤q by omega) (bysA ((zs 64).take 56++len8 n)))
   generalize W3.setRow q (bysA ((zs 64).take 56++len8 n))=W9 at *
   have hs9:(bysA ((zs 64).take 56++len8 n)).size=64:=by rw[Zaj];exact rfl
   obtain⟨a1,a2,a3⟩:=hP9.out
   obtain⟨b1,b2,b3⟩:=hQ9.out
   obtain⟨r1,r2,r3⟩:=hR9.out
   go_wp2_with fail
   refine(Zco _ _ rfl (ZaN (Zbc (Zbs 64) 56) (Zek n)) _ (HT.out.grow B9.out)).mono ?_
   rintro e w' ⟨rfl,hbw⟩
   obtain⟨oc1,nc1,rfl⟩:=Zaf hbw
   clear hbw
   go_wp2_with fail
   refine(Zoy _ _).mono ?_
   rintro e w' ⟨rfl,hbw⟩
   obtain⟨oc2,nc2,rfl⟩:=Zaf hbw
   clear hbw
   have hlt:w.heap.size<W9.heap.size+oc1.size:=by omega
   go_wp2_with fail
   refine bodyPost_ret (v:=.agg (keA (digF n s r))) (Zav Tryz.results117 (ZbI _) _ _ _ rfl (by go_simp) (by go_simp;unfold digF;rw[←HE.out,if_pos h56])) rfl ⟨rfl,?_⟩
   repeat (first | apply Zag | refine Zad ?_ (Nat.le_refl _) _ | exact B9.out)
  ·have h56':¬(56:Int)≤(u:Int):=by omega
   have hcm:=hG1.out.cellAt 1 (show (hasA true n s r)[1]?=some (.int .i64 n) from rfl)
   go_wp2_with fail
   clear hcn hqu hqf hQ0 hP0 hG0 hR0 B0 hcm
   generalize W1.setCell ⟨q,u,none⟩ (.int .u8 128)=W2 at *
   refine(Zdk q n _ hl1 hn _ hQ1.out).mono ?_
   rintro e w' ⟨rfl,rfl⟩
   have hP9:=Zq (hP1.out.other npq (bysA ((r.set u 128).take 56++len8 n)))
   have hQ9:=Zq (hQ1.out.set (bysA ((r.set u 128).take 56++len8 n)))
   obtain⟨c0,hc0,hR9⟩:=hR1.out
   replace hR9:=Zq (hR9.other (show w.heap.size≠q by omega) (bysA ((r.set u 128).take 56++len8 n)))
   have B9:=Zq (Zad B1.out (show w.heap.size≤q by omega) (bysA ((r.set u 128).take 56++len8 n)))
   generalize W2.setRow q (bysA ((r.set u 128).take 56++len8 n))=W9 at *
   have hs9:(bysA ((r.set u 128).take 56++len8 n)).size=64:=by rw[Zaj];exact(by rw[List.length_append,List.length_take,hl1];rfl)
   obtain⟨a1,a2,a3⟩:=hP9.out
   obtain⟨b1,b2,b3⟩:=hQ9.out
   obtain⟨r1,r2,r3⟩:=hR9.out
   go_wp2_with fail
   refine(Zco _ _ (by rw[List.length_append,List.length_take,hl1];rfl) (ZaN (Zbc hb1 56) (Zek n)) _ (HT.out.grow B9.out)).mono ?_
   rintro e w' ⟨rfl,hbw⟩
   obtain⟨oc1,nc1,rfl⟩:=Zaf hbw
   clear hbw
   go_wp2_with fail
   refine(Zoy _ _).mono ?_
   rintro e w' ⟨rfl,hbw⟩
   obtain⟨oc2,nc2,rfl⟩:=Zaf hbw
   clear hbw
   have hlt:w.heap.size<W9.heap.size+oc1.size:=by omega
   go_wp2_with fail
   refine bodyPost_ret (v:=.agg (keA (digF n s r))) (Zav Tryz.results117 (ZbI _) _ _ _ rfl (by go_simp) (by go_simp;unfold digF;rw[←HE.out,if_neg h56])) rfl ⟨rfl,?_⟩
   repeat (first | apply Zag | refine Zad ?_ (Nat.le_refl _) _ | exact B9.out)
 ·generalize hW:World.drew _=W1
  have hR0:=Zq (show ∃c,c.size=32∧RowAt W1 w.heap.size c by rw[←hW];clear hW;exact⟨byI (List.replicate 32 0),by simp[byI],by go_simp,by go_simp;rfl,by go_simp⟩)
  have hP0:=Zq (show RowAt W1 (w.heap.size+1+1) (stA s) by rw[←hW];clear hW;exact⟨by go_simp,by go_simp,by go_simp⟩)
  have hQ0:=Zq (show RowAt W1 (w.heap.size+1) (bysA r) by rw[←hW];clear hW;exact⟨by go_simp,by go_simp,by go_simp⟩)
  have hG0:=Zq (show RowAt W1 g (hasA true n s r) by rw[←hW];clear hW;exact⟨by go_simp,by go_simp,by go_simp⟩)
  have B0:=Zq (show Below w.heap.size w W1 by rw[←hW];repeat (first | apply Zag | apply Zab | apply Below.drew | exact Below.refl _ _))
  clear hW
  obtain⟨p,ep⟩:∃p,p=w.heap.size+1+1:=⟨_,rfl⟩
  obtain⟨q,eq⟩:∃q,q=w.heap.size+1:=⟨_,rfl⟩
  have npq:¬p=q:=by omega
  have nqp:¬q=p:=by omega
  have lp:w.heap.size<p:=by omega
  have lq:w.heap.size<q:=by omega
  rw[←ep] at hP0 ⊢
  rw[←eq] at hQ0 ⊢
  clear ep eq h1 h2 h3 h4 h5 h6
  have hcn:=hG0.out.cellAt 1 (show (hasA true n s r)[1]?=some (.int .i64 n) from rfl)
  have hu:=ZcD n
  obtain⟨u,eu⟩:∃u,u=n%64:=⟨_,rfl⟩
  rw[←eu] at hu
  have hu0:(0:Int)≤(u:Int):=by omega
  have hu1:(u:Int)<64:=by omega
  have hul:u<r.length:=by omega
  have hqu:=hQ0.out.cellAt u (ZaB r u hul)
  have hqf:=hQ0.out.frozenAt u
  have HE:=Zq eu
  clear eu
  have hQ1:=Zq (show RowAt (W1.setCell ⟨q,u,none⟩ (.int .u8 128)) q (bysA (r.set u 128)) from (by rw[←Zca];exact hQ0.out.setCell u _))
  have hset:=Zbm hQ0.out u (.int .u8 128)
  have hP1:=Zq (hP0.out.other npq ((bysA r).setIfInBounds u (.int .u8 128)))
  have hG1:=Zq (hG0.out.other (show g≠q by omega) ((bysA r).setIfInBounds u (.int .u8 128)))
  obtain⟨c0,hc0,hR1⟩:=hR0.out
  replace hR1:=Zq (show ∃c,c.size=32∧RowAt _ w.heap.size c from ⟨c0,hc0,hR1.other (show w.heap.size≠q by omega) ((bysA r).setIfInBounds u (.int .u8 128))⟩)
  have B1:=Zq (Zad B0.out (show w.heap.size≤q by omega) ((bysA r).setIfInBounds u (.int .u8 128)))
  rw[←hset] at hP1 hG1 hR1 B1
  have hl1:(r.set u 128).length=64:=by rw[List.length_set,hr]
  have hs1:(bysA (r.set u 128)).size=64:=by rw[Zaj,hl1]
  have hb1:=Znk hrb (show 128<256 by decide) u
  clear hset hc0 c0
  by_cases h56:56≤u
  ·have h56':(56:Int)≤(u:Int):=by omega
   obtain⟨a1,a2,a3⟩:=hP1.out
   obtain⟨b1,b2,b3⟩:=hQ1.out
   go_wp2_with fail
   clear hcn hqu hqf hQ0 hP0 hG0 hR0 B0
   generalize W1.setCell ⟨q,u,none⟩ (.int .u8 128)=W2 at *
   refine(Zco _ _ hl1 hb1 _ (HT.out.grow B1.out)).mono ?_
   rintro e w' ⟨rfl,hbw⟩
   have hzz:(bysA (zs 64)).size=64:=by rw[Zaj];rfl
   have hP2:=Zq (((hP1.out.grow hbw).set (stA (scmp s (r.set u 128)))).other npq (bysA (zs 64)))
   have hQ2:=Zq (((hQ1.out.grow hbw).other nqp (stA (scmp s (r.set u 128)))).set (bysA (zs 64)))
   have hG2:=Zq (((hG1.out.grow hbw).other (show g≠p by omega) (stA (scmp s (r.set u 128)))).other (show g≠q by omega) (bysA (zs 64)))
   obtain⟨c0,hc0,hR2⟩:=hR1.out
   replace hR2:=Zq (show ∃c,c.size=32∧RowAt _ w.heap.size c from ⟨c0,hc0,((hR2.grow hbw).other (show w.heap.size≠p by omega) (stA (scmp s (r.set u 128)))).other (show w.heap.size≠q by omega) (bysA (zs 64))⟩)
   have B2:=Zq (Zad (Zad (B1.out.trans (hbw.mono B1.out.size)) (show w.heap.size≤p by omega) (stA (scmp s (r.set u 128)))) (show w.heap.size≤q by omega) (bysA (zs 64)))
   have A1:=hP1.out.grow hbw
   have A2:=hQ1.out.grow hbw
   clear a1 a2 a3 b1 b2 b3
   obtain⟨a1,a2,a3⟩:=A1
   obtain⟨b1,b2,b3⟩:=A2
   have hcm:=hG2.out.cellAt 1 (show (hasA true n s r)[1]?=some (.int .i64 n) from rfl)
   clear hbw
   go_wp2_with fail
   generalize (w'.setRow p (stA (scmp s (r.set u 128)))).setRow q (bysA (zs 64))=W3 at *
   clear a1 a2 a3 b1 b2 b3 hP1 hQ1 hG1 hR1 B1 hc0 c0 hcm
   refine(Zdk q n _ rfl hn _ hQ2.out).mono ?_
   rintro e w' ⟨rfl,rfl⟩
   have hP9:=Zq (hP2.out.other npq (bysA ((zs 64).take 56++len8 n)))
   have hQ9:=Zq (hQ2.out.set (bysA ((zs 64).take 56++len8 n)))
   obtain⟨c0,hc0,hR9⟩:=hR2.out
   replace hR9:=Zq (hR9.other (show w.heap.size≠q by omega) (bysA ((zs 64).take 56++len8 n)))
   have B9:=Zq (Zad B2.out (show w.heap.size≤q by omega) (bysA ((zs 64).take 56++len8 n)))
   generalize W3.setRow q (bysA ((zs 64).take 56++len8 n))=W9 at *
   have hs9:(bysA ((zs 64).take 56++len8 n)).size=64:=by rw[Zaj];exact rfl
   obtain⟨a1,a2,a3⟩:=hP9.out
   obtain⟨b1,b2,b3⟩:=hQ9.out
   obtain⟨r1,r2,r3⟩:=hR9.out
   go_wp2_with fail
   refine(Zco _ _ rfl (ZaN (Zbc (Zbs 64) 56) (Zek n)) _ (HT.out.grow B9.out)).mono ?_
   rintro e w' ⟨rfl,hbw⟩
   obtain⟨oc1,nc1,rfl⟩:=Zaf hbw
   clear hbw
   go_wp2_with fail
   refine(Zoy _ _).mono ?_
   rintro e w' ⟨rfl,hbw⟩
   obtain⟨oc2,nc2,rfl⟩:=Zaf hbw
   clear hbw
   have hlt:w.heap.size<W9.heap.size+oc1.size:=by omega
   go_wp2_with fail
   refine bodyPost_ret (v:=.agg (keA (digF n s r))) (Zav Tryz.results117 (ZbI _) _ _ _ rfl (by go_simp) (by go_simp;unfold digF;rw[←HE.out,if_pos h56])) rfl ⟨rfl,?_⟩
   repeat (first | apply Zag | refine Zad ?_ (Nat.le_refl _) _ | exact B9.out)
  ·have h56':¬(56:Int)≤(u:Int):=by omega
   have hcm:=hG1.out.cellAt 1 (show (hasA true n s r)[1]?=some (.int .i64 n) from rfl)
   go_wp2_with fail
   clear hcn hqu hqf hQ0 hP0 hG0 hR0 B0 hcm
   generalize W1.setCell ⟨q,u,none⟩ (.int .u8 128)=W2 at *
   refine(Zdk q n _ hl1 hn _ hQ1.out).mono ?_
   rintro e w' ⟨rfl,rfl⟩
   have hP9:=Zq (hP1.out.other npq (bysA ((r.set u 128).take 56++len8 n)))
   have hQ9:=Zq (hQ1.out.set (bysA ((r.set u 128).take 56++len8 n)))
   obtain⟨c0,hc0,hR9⟩:=hR1.out
   replace hR9:=Zq (hR9.other (show w.heap.size≠q by omega) (bysA ((r.set u 128).take 56++len8 n)))
   have B9:=Zq (Zad B1.out (show w.heap.size≤q by omega) (bysA ((r.set u 128).take 56++len8 n)))
   generalize W2.setRow q (bysA ((r.set u 128).take 56++len8 n))=W9 at *
   have hs9:(bysA ((r.set u 128).take 56++len8 n)).size=64:=by rw[Zaj];exact(by rw[List.length_append,List.length_take,hl1];rfl)
   obtain⟨a1,a2,a3⟩:=hP9.out
   obtain⟨b1,b2,b3⟩:=hQ9.out
   obtain⟨r1,r2,r3⟩:=hR9.out
   go_wp2_with fail
   refine(Zco _ _ (by rw[List.length_append,List.length_take,hl1];rfl) (ZaN (Zbc hb1 56) (Zek n)) _ (HT.out.grow B9.out)).mono ?_
   rintro e w' ⟨rfl,hbw⟩
   obtain⟨oc1,nc1,rfl⟩:=Zaf hbw
   clear hbw
   go_wp2_with fail
   refine(Zoy _ _).mono ?_
   rintro e w' ⟨rfl,hbw⟩
   obtain⟨oc2,nc2,rfl⟩:=Zaf hbw
   clear hbw
   have hlt:w.heap.size<W9.heap.size+oc1.size:=by omega
   go_wp2_with fail
   refine bodyPost_ret (v:=.agg (keA (digF n s r))) (Zav Tryz.results117 (ZbI _) _ _ _ rfl (by go_simp) (by go_simp;unfold digF;rw[←HE.out,if_neg h56])) rfl ⟨rfl,?_⟩
   repeat (first | apply Zag | refine Zad ?_ (Nat.le_refl _) _ | exact B9.out)
def hshA (m:List Nat):Array Value:=hasA true m.length (hrun st0 m) (rst m)
theorem Zel {W:World} {g u b o cap c2 len k:Nat} {N:Int} {s:St} {r l:List Nat} (hr:r.length=64) (h:RowAt W g (hasA true N s r)) (hu:u≤64) (hlen:len=l.length) (hk:k=min l.length (64-u)) (hB:BytesAt W b o l) :
  (Builtin.copy_ #[38,38] 3 #[.slice (some ⟨g,10+u,none⟩) (64-u) c2,.slice (some ⟨b,o,none⟩) len cap]).run Tryz.prog W=.ok (.int .i64 (k:Int)) (W.setRow g (hasA true N s (r.take u++l.take k++r.drop (u+k)))):=by
 subst hlen
 have hl:(bys (l.take k)).length=k:=by rw[Zaz,List.length_take];omega
 have hi:(Tryz.prog.info? 5).map (·.size)=some 1:=by kernel_rfl
 have hsz:(hasA true N s r).size=74:=by rw[Zbl,hr]
 have:=run_copy_cells (P:=Tryz.prog) W 38 38 3 5 g (10+u) (64-u) c2 ⟨b,o,none⟩ l.length cap (bys (l.take k)) Tryz.underlying38 hi (by rw[hl,hk])
  (fun j v hv=>by
   have hj:j<k:=by have:=(List.getElem?_eq_some_iff.1 hv).1;omega
   rw[Addr.add_mid,hB.2 j (by omega),←hv]
   simp only[bys,List.getElem?_map,List.getElem?_take,if_pos hj,List.getD]
   rw[List.getElem?_eq_getElem (by omega)];rfl)
  (fun j hj=>by rw[h.cellAt (10+u+j) (Array.getElem?_eq_getElem (by omega))];rfl)
  (fun j _=>h.frozenAt _) (fun v hv=>by simp only[bys,List.mem_map] at hv;obtain⟨x,_,rfl⟩:=hv;rfl)
 rw[this,hl,ZbP _ _ h,Zic _ _ _ _ _ _ (by rw[List.length_take];omega)]
 rw[show (l.take k).length=k by rw[List.length_take];omega]
 rfl
theorem ZiF (g b o cap:Nat) (m l:List Nat) (w:World) (h:RowAt w g (hshA m)) (hm:m.length<1152921504606846976) (hsm:m.length%64+l.length<64) (hB:BytesAt w b o l) (hbg:b≠g) :
  Calls Tryz.prog 116 #[.pointer (some ⟨g,0,none⟩),.slice (some ⟨b,o,none⟩) l.length cap] w fun e w'=>e=.returned (.tuple #[])∧∃ os d,w'=(w.setRow g (hshA (m++l))).plus os d:=by
 have H:=Zq h
 have HB:=Zq hB
 obtain⟨h1,h2,h3⟩:=h
 have hcn:=H.out.cellAt 1 (show (hshA m)[1]?=some (.int .i64 m.length) from rfl)
 have hcf:=H.out.frozenAt 1
 have hu:=ZcD m.length
 obtain⟨n,en⟩:∃n,n=m.length:=⟨_,rfl⟩
 obtain⟨k,ek⟩:∃k,k=l.length:=⟨_,rfl⟩
 obtain⟨u,eu⟩:∃u,u=m.length%64:=⟨_,rfl⟩
 rw[←eu] at hu
 rw[←en] at hcn hu
 have hk:IntKind.i64.wrap ((n:Int)+(k:Int))=((n+k:Nat):Int):=by rw[IntWalk.i64_in _ (by omega)];omega
 have hs:IntKind.i64.wrap ((u:Int)+(k:Int))=((u+k:Nat):Int):=by rw[IntWalk.i64_in _ (by omega)];omega
 have hlt:(u:Int)+(k:Int)<64:=by omega
 have hu0:(0:Int)≤(u:Int):=by omega
 have hu1:(u:Int)≤64:=by omega
 clear hB
 rw[←ek]
 have hset:w.setCell ⟨g,1,none⟩ (.int .i64 ((n+k:Nat):Int))=w.setRow g (hasA true ((n+k:Nat):Int) (hrun st0 m) (rst m)):=by
  rw[Zbm H.out,hshA,Zht]
 have hfin:(hasA true ((n+k:Nat):Int) (hrun st0 m) ((rst m).take u++l.take k++(rst m).drop (u+k)))=hshA (m++l):=by
  obtain⟨e1,e2⟩:=Zld m l u eu (by omega)
  unfold hshA
  rw[e1,e2,List.length_append,en,ek,List.take_length]
 generalize ((n+k:Nat):Int)=nk at hk hset hfin
 have hcp:=Zel (c2:=64-u) (cap:=cap) (len:=k) (k:=k) (ZbO m) (H.out.set (hasA true nk (hrun st0 m) (rst m))) (show u≤64 by omega) ek (by omega) (HB.out.other hbg _)
 rw[ZbC,hfin] at hcp
 have En:=Zq en
 have Ek:=Zq ek
 have Eu:=Zq eu
 clear en ek eu hfin
 go_enter Tryz.func116,Tryz.ntmps116
 go_wp2_with fail
 refine bodyPost_ret (v:=.tuple #[]) (results_none Tryz.results116 _ _ _) rfl ⟨rfl,#[],(w.setRow g (hshA (m++l))).drawn,ZeB _⟩
theorem Zrg (b o cap:Nat) (w:World):(Instr.arrayAt 173 (.slice (some ⟨b,o,none⟩) 64 cap)).run Tryz.prog w=.ok (.pointer (some ⟨b,o,none⟩)) w:=by
 simp[Instr.arrayAt,run_underlying Tryz.underlying173]
theorem Zgz {w:World} {b o:Nat} {l:List Nat} (h:BytesAt w b o l) (hl:64≤l.length):(Zam 173 (.pointer (some ⟨b,o,none⟩))).run Tryz.prog w=.ok (.agg (bysA (l.take 64))) w:=by
 have e:(Tryz.prog.info? 173).map (·.size)=some 64:=by kernel_rfl
 have hbl:(bys (l.take 64)).length=64:=by rw[Zaz,List.length_take];omega
 refine run_loadAt_mid w b o _ (bys (l.take 64)) _ (fun j v hv=>?_) Tryz.underlying173 rfl (by rw[hbl];exact e)
 have hj:j<64:=by have:=(List.getElem?_eq_some_iff.1 hv).1;omega
 rw[h.2 j (by omega),←hv]
 simp only[bys,List.getElem?_map,List.getElem?_take,if_pos hj,List.getD]
 rw[List.getElem?_eq_getElem (by omega)];rfl
theorem Tabs.setRow {w:World} (h:Tabs w) {g:Nat} (hg:1<g) (c:Array Value):Tabs (w.setRow g c):=by
 refine⟨by rw[size_setRow];exact h.1,fun i hi=>?_,fun i hi=>?_⟩
 ·rw[World.cell?_of_block (w:=w) (setRow_other w g 0 c (by omega))];exact h.2.1 i hi
 ·rw[World.cell?_of_block (w:=w) (setRow_other w g 1 c (by omega))];exact h.2.2 i hi
theorem ZdZ {w:World} {g:Nat} {m:Bool} {n:Int} {s:St} {r:List Nat} (h:RowAt w g (hasA m n s r)) (s':St):(storeCells ⟨g,2,none⟩ (stA s').toList 0).run Tryz.prog w=.ok () (w.setRow g (hasA m n s' r)):=by
 rw[ZeJ h 2 (stA s') (by rw[Zn7,Zbl];omega) (ZsS s'),ZkW]
theorem Zgc {w:World} {g:Nat} {m:Bool} {n:Int} {s:St} {r:List Nat} (h:RowAt w g (hasA m n s r)) (hr:r.length=64) (r':List Nat) (hr':r'.length=64):(storeCells ⟨g,10,none⟩ (bysA r').toList 0).run Tryz.prog w=.ok () (w.setRow g (hasA m n s r')):=by
 rw[ZeJ h 10 (bysA r') (by rw[Zaj,Zbl];omega) (ZcL r')]
 have:=Zic m n s r r' 0 (by omega)
 rw[List.take_zero,List.nil_append,List.drop_eq_nil_of_le (by omega),List.append_nil] at this
 rw[show (bysA r').toList=bys r' from rfl]
 exact congrArg _ (congrArg _ this)
theorem Zlq (g b o cap:Nat) (m l:List Nat) (w:World) (hT:Tabs w) (hg:1<g) (h:RowAt w g (hshA m)) (hm:m.length+l.length<1152921504606846976) (hmb:∀i,m.getD i 0<256) (hlb:∀i,l.getD i 0<256)
  (hbig:64≤m.length%64+l.length) (hB:BytesAt w b o l) (hcapl:l.length≤cap) (hbg:b≠g) :
  Calls Tryz.prog 116 #[.pointer (some ⟨g,0,none⟩),.slice (some ⟨b,o,none⟩) l.length cap] w fun e w'=>e=.returned (.tuple #[])∧∃ os d,w'=(w.setRow g (hshA (m++l))).plus os d:=by
 have H:=Zq h
 have HB:=Zq hB
 have HT:=Zq hT
 obtain⟨h1,h2,h3⟩:=h
 have hcn:=H.out.cellAt 1 (show (hshA m)[1]?=some (.int .i64 m.length) from rfl)
 have hcf:=H.out.frozenAt 1
 have hu:=ZcD m.length
 obtain⟨n,en⟩:∃n,n=m.length:=⟨_,rfl⟩
 obtain⟨k,ek⟩:∃k,k=l.length:=⟨_,rfl⟩
 obtain⟨u,eu⟩:∃u,u=m.length%64:=⟨_,rfl⟩
 rw[←eu] at hu
 rw[←en] at hcn hu
 have hk:IntKind.i64.wrap ((n:Int)+(k:Int))=((n+k:Nat):Int):=by rw[IntWalk.i64_in _ (by omega)];omega
 obtain⟨uk,euk⟩:∃y,y=u+k:=⟨_,rfl⟩
 have hs:IntKind.i64.wrap ((u:Int)+(k:Int))=(uk:Int):=by rw[IntWalk.i64_in _ (by omega)];omega
 have hlt:¬(uk:Int)<64:=by omega
 have huk:64≤u+k:=by omega
 have hu0:(0:Int)≤(u:Int):=by omega
 have hu1:(u:Int)≤64:=by omega
 have hu2:u<64:=by omega
 clear hB hT
 rw[←ek] at hcapl ⊢
 have hset:w.setCell ⟨g,1,none⟩ (.int .i64 ((n+k:Nat):Int))=w.setRow g (hasA true ((n+k:Nat):Int) (hrun st0 m) (rst m)):=by
  rw[Zbm H.out,hshA,Zht]
 have Enk:=Zq (show ((n+k:Nat):Int)=(((m++l).length:Nat):Int) by rw[List.length_append,en,ek])
 generalize ((n+k:Nat):Int)=nk at hk hset Enk
 have En:=Zq en
 have Ek:=Zq ek
 have Eu:=Zq eu
 clear en ek eu hm hbig euk
 by_cases hz:u=0
 ·
  have hup:¬(0:Int)<(u:Int):=by omega
  have hset':=hset
  have HB0:=Zq (HB.out.other hbg (hasA true nk (hrun st0 m) (rst m)))
  obtain⟨f1,f2⟩:=ZlB m l (by rw[←Eu.out];exact hz)
  have F1:=Zq f1
  have F2:=Zq f2
  clear f1 f2 hz
  go_enter Tryz.func116,Tryz.ntmps116
  go_wp2_with fail
  obtain⟨W1,eW1⟩:∃W1,W1=w.setRow g (hasA true nk (hrun st0 m) (rst m)):=⟨_,rfl⟩
  have eW2:W1=(w.setRow g (hasA true nk (hrun st0 m) (rst m))).plus #[] W1.drawn:=by rw[←eW1];exact(ZnH _).symm
  rw[←eW1] at HB0 ⊢
  rw[eW2] at HB0 ⊢
  generalize W1.drawn=dd at *
  have E0:=Ek
  clear hset hset' hcn hcf h1 h2 h3
  go_loopw [1] (fun v wr=>∃ (j n1 o' cap':Nat) (os:Array Obj) (d:Nat),64*j+n1=(l).length∧v=.slice (some ⟨b,o',none⟩) n1 cap'∧n1≤cap'∧BytesAt wr b o' ((l).drop (64*j))∧wr=(w.setRow g (hasA true nk (Zbt (hrun st0 m) (l) j) (rst m))).plus os d) (fun v _=>match v with | .slice _ n _=>n | _=>0)
  case atStart=>exact⟨0,_,_,_,_,_,by rw[Nat.mul_zero,Nat.zero_add];exact E0.out,rfl,hcapl,by rw[Nat.mul_zero,List.drop_zero];exact HB0.out,rfl⟩
  case round =>
   obtain⟨j,n1,o',cap',os,d,hjn,rfl,hcap,hby,rfl⟩:=hrel
   have HR:=Zq ((H.out.set (hasA true nk (Zbt (hrun st0 m) (l) j) (rst m))).grow (Zag (Below.refl _ _) os d))
   have HBy:=Zq hby
   have HTb:=Zq ((HT.out.setRow (show 1<g by omega) (hasA true nk (Zbt (hrun st0 m) (l) j) (rst m))).grow (Zag (Below.refl _ _) os d))
   have hgl:(hasA true nk (Zbt (hrun st0 m) (l) j) (rst m)).size=74:=by rw[Zbl,(ZbO m)]
   obtain⟨W,eW⟩:∃W,W=(w.setRow g (hasA true nk (Zbt (hrun st0 m) (l) j) (rst m))).plus os d:=⟨_,rfl⟩
   rw[←eW] at HR HBy HTb ⊢
   have HW:=Zq eW
   clear eW hby
   by_cases h64:64≤n1
   ·have h64':(64:Int)≤(n1:Int):=by omega
    have hcap64:64≤cap':=by omega
    have hcl:(((l).drop (64*j)).take 64).length=64:=by rw[List.length_take,List.length_drop];omega
    have hcb:=Zbc (ZbB hlb (64*j)) 64
    have Hrun:=Zq (show scmp (Zbt (hrun st0 m) (l) j) (((l).drop (64*j)).take 64)=Zbt (hrun st0 m) (l) (j+1) from rfl)
    have hcs:(bysA (((l).drop (64*j)).take 64)).size=64:=by rw[Zaj,hcl]
    have hload:∀o d,(Zam 173 (.pointer (some ⟨b,o',none⟩))).run Tryz.prog (W.plus o d)=.ok (.agg (bysA (((l).drop (64*j)).take 64))) (W.plus o d):=fun o d=>Zgz (HBy.out.grow (Zag (Below.refl _ _) o d)) (by rw[List.length_drop];omega)
    have hTab:∀o d,Tabs (W.plus o d):=fun o d=>HTb.out.grow (Zag (Below.refl _ _) o d)
    have harr:=Zrg b o' cap'
    have hhi:=ZqR (some ⟨b,o',none⟩) n1 cap' hcap64
    have hlo:=ZkN b o' n1 cap' h64
    obtain⟨r1,r2,r3⟩:=HR.out
    generalize eC:((l).drop (64*j)).take 64=C at *
    generalize eS:Zbt (hrun st0 m) (l) j=S at *
    go_wp2_with fail
    refine Zal W [0,1,2,3,4,5,6,7,8,9,10,11] [false,false,false,false,false,false,false,false,false,false,false,false] [] [] 12 (by kernel_rfl) rfl (by kernel_rfl) (by intro c a d v w h;cases d<;>exact h) ((Below.refl _ _).drew) ?_
    simp only[pick,List.getElem?_cons_succ,List.getElem?_cons_zero,List.drop_succ_cons,List.drop_zero]
    iterate 9 (refine Zac (Zaa rfl) (by intro K o d hK;go_simp;exact hK _ (Below.refl _ _)) ?_)
    refine Zai (v:=.agg (stA (scmp S C))) (Zaa rfl) (by intro K o d hK;go_simp;refine(Zco _ _ hcl hcb _ (hTab o d)).mono ?_;rintro e w' ⟨rfl,hbw⟩;exact⟨_,rfl,hK _ hbw⟩) ?_
    iterate 2 (refine Zac (Zaa rfl) (by intro K o d hK;go_simp;exact hK _ (Below.refl _ _)) ?_)
    refine Zan ?_
    intro w2 hb2 _
    have hst:=ZdZ (HR.out.grow hb2) (scmp S C)
    skip
    obtain⟨o2,d2,rfl⟩:=Zaf hb2
    have HB2:=Zq ((HBy.out.grow hb2).other hbg (hasA true nk (scmp S C) (rst m)))
    clear hb2 hload hTab harr hhi r1 r2 r3
    go_wp2_with fail
    go_roundw
    case rel =>
     refine⟨j+1,n1-64,adv o' 64 cap',cap'-64,os++o2,d2,by omega,rfl,by omega,?_,?_⟩
     ·have:=HB2.out.adv (n:=64) (cap:=cap') (by rw[List.length_drop];omega)
      rw[List.drop_drop,show 64*j+64=64*(j+1) by omega] at this
      exact this
     ·rw[←Hrun.out,HW.out,World.plus_plus,Za8 H.out]
    case measure=>simp;omega
   ·have h64':¬(64:Int)≤(n1:Int):=by omega
    have hj:(l).length/64=j:=by omega
    have hstz:=Zgc HR.out (ZbO m) (zs 64) (Zah 64)
    have HR2:=HR.out.set (hasA true nk (Zbt (hrun st0 m) (l) j) (zs 64))
    have hcp:=Zel (u:=0) (c2:=64) (cap:=cap') (len:=n1) (k:=n1) (Zah 64) HR2 (by omega) (by rw[List.length_drop];omega) (by rw[List.length_drop];omega) (HBy.out.other hbg _)
    rw[ZbC] at hcp
    simp only[Nat.add_zero,Nat.sub_zero,Nat.zero_add] at hcp
    have hfin:hasA true nk (Zbt (hrun st0 m) (l) j) ((zs 64).take 0++((l).drop (64*j)).take n1++(zs 64).drop n1)=hshA (m++l):=by
     rw[List.take_zero,List.nil_append,List.take_of_length_le (by rw[List.length_drop];omega),ZcI]
     have e3:Zbt (hrun st0 m) (l) j=hrun (hrun st0 m) (l):=by unfold hrun;rw[hj]
     have e4:(l).drop (64*j)++zs (64-n1)=rst (l):=by unfold rst;rw[hj,show (l).length%64=n1 by omega]
     rw[e3,e4,F1.out,F2.out]
     unfold hshA;rw[Enk.out]
    rw[hfin] at hcp
    obtain⟨r1,r2,r3⟩:=HR.out
    clear hfin HR2
    go_wp2_with fail
    go_end0
    exact⟨rfl,os,d,by rw[HW.out,Za8 H.out]⟩
 ·
  have hup:(0:Int)<(u:Int):=by omega
  obtain⟨k1,ek1⟩:∃k1,k1=64-u:=⟨_,rfl⟩
  obtain⟨f1,f2⟩:=Zl1 m l u k1 Eu.out (by omega) ek1 (by have:=Ek.out;omega)
  have F1:=Zq f1
  have F2:=Zq f2
  clear f1 f2
  have hcp:=Zel (c2:=64-u) (cap:=cap) (len:=k) (k:=k1) (ZbO m) (H.out.set (hasA true nk (hrun st0 m) (rst m))) (show u≤64 by omega) Ek.out (by have:=Ek.out;omega) (HB.out.other hbg _)
  rw[ZbC] at hcp
  have erB:(rst m).take u++l.take k1++(rst m).drop (u+k1)=(rst m).take u++l.take k1:=by
   rw[List.drop_eq_nil_of_le (by rw[ZbO];omega),List.append_nil]
  rw[erB] at hcp
  have hlB:((rst m).take u++l.take k1).length=64:=by
   rw[List.length_append,List.length_take,List.length_take,ZbO];have:=Ek.out;omega
  have hbB:=ZaN (Zbc (Znb hmb) u) (Zbc hlb k1)
  obtain⟨rB,eB⟩:∃rB,rB=(rst m).take u++l.take k1:=⟨_,rfl⟩
  rw[←eB] at hcp hlB hbB F1
  have hrB:rB.length=64:=hlB
  have hk1:k1≤k:=by have:=Ek.out;omega
  have hk1':(0:Int)≤(k1:Int):=by omega
  have hlo:=ZhJ b o k cap k1 hk1
  clear erB eB ek1
  obtain⟨W1,eW1⟩:∃W1,W1=w.setRow g (hasA true nk (hrun st0 m) rB):=⟨_,rfl⟩
  rw[←eW1] at hcp
  have HR1:=Zq (show RowAt W1 g (hasA true nk (hrun st0 m) rB) by rw[eW1];exact H.out.set _)
  have HBy:=Zq (show BytesAt W1 b o l by rw[eW1];exact HB.out.other hbg _)
  have HTb:=Zq (show Tabs W1 by rw[eW1];exact HT.out.setRow (show 1<g by omega) _)
  have HW1:=Zq eW1
  have hgl:(hasA true nk (hrun st0 m) rB).size=74:=by rw[Zbl,hrB]
  have hrs:=Zgu true nk (hrun st0 m) rB hrB
  have hTab:∀o d,Tabs (W1.plus o d):=fun o d=>HTb.out.grow (Zag (Below.refl _ _) o d)
  clear eW1
  go_enter Tryz.func116,Tryz.ntmps116
  go_wp2_with fail
  clear hset hcn hcf h1 h2 h3 hcp
  obtain⟨r1,r2,r3⟩:=HR1.out
  refine Zal W1 [0,1,2,3,4,5,6,7,8,9,10,11] [false,false,false,false,false,false,false,false,false,false,false,false] [] [] 12 (by kernel_rfl) rfl (by kernel_rfl) (by intro c a d v w h;cases d<;>exact h) ((Below.refl _ _).drew) ?_
  simp only[pick,List.getElem?_cons_succ,List.getElem?_cons_zero,List.drop_succ_cons,List.drop_zero]
  iterate 9 (refine Zac (Zaa rfl) (by intro K o d hK;go_simp;exact hK _ (Below.refl _ _)) ?_)
  refine Zai (v:=.agg (stA (scmp (hrun st0 m) rB))) (Zaa rfl) (by intro K o d hK;go_simp;refine(Zco _ _ hlB hbB _ (hTab o d)).mono ?_;rintro e w' ⟨rfl,hbw⟩;exact⟨_,rfl,hK _ hbw⟩) ?_
  iterate 2 (refine Zac (Zaa rfl) (by intro K o d hK;go_simp;exact hK _ (Below.refl _ _)) ?_)
  refine Zan ?_
  intro w2 hb2 _
  have hst:=ZdZ (HR1.out.grow hb2) (scmp (hrun st0 m) rB)
  obtain⟨o2,d2,rfl⟩:=Zaf hb2
  have hBk:BytesAt ((W1.plus o2 d2).setRow g (hasA true nk (scmp (hrun st0 m) rB) rB)) b (adv o k1 cap) (l.drop k1):=((HBy.out.grow hb2).other hbg _).adv (by have:=Ek.out;omega)
  rw[HW1.out,Za8 H.out] at hBk
  have HB0:=Zq hBk
  clear hb2 hTab r1 r2 r3 hBk
  go_wp2_with fail
  rw[HW1.out,Za8 H.out]
  obtain⟨n0,en0⟩:∃n0,n0=k-k1:=⟨_,rfl⟩
  rw[←en0]
  have E0:=Zq (show n0=(l.drop k1).length by rw[en0,List.length_drop,←Ek.out])
  have hcap0:n0≤cap-k1:=by omega
  generalize cap-k1=cap1 at *
  clear hst en0
  go_loopw [1] (fun v wr=>∃ (j n1 o' cap':Nat) (os:Array Obj) (d:Nat),64*j+n1=(l.drop k1).length∧v=.slice (some ⟨b,o',none⟩) n1 cap'∧n1≤cap'∧BytesAt wr b o' ((l.drop k1).drop (64*j))∧wr=(w.setRow g (hasA true nk (Zbt (scmp (hrun st0 m) rB) (l.drop k1) j) (rB))).plus os d) (fun v _=>match v with | .slice _ n _=>n | _=>0)
  case atStart=>exact⟨0,_,_,_,_,_,by rw[Nat.mul_zero,Nat.zero_add];exact E0.out,rfl,hcap0,by rw[Nat.mul_zero,List.drop_zero];exact HB0.out,rfl⟩
  case round =>
   obtain⟨j,n1,o',cap',os,d,hjn,rfl,hcap,hby,rfl⟩:=hrel
   have HR:=Zq ((H.out.set (hasA true nk (Zbt (scmp (hrun st0 m) rB) (l.drop k1) j) (rB))).grow (Zag (Below.refl _ _) os d))
   have HBy:=Zq hby
   have HTb:=Zq ((HT.out.setRow (show 1<g by omega) (hasA true nk (Zbt (scmp (hrun st0 m) rB) (l.drop k1) j) (rB))).grow (Zag (Below.refl _ _) os d))
   have hgl:(hasA true nk (Zbt (scmp (hrun st0 m) rB) (l.drop k1) j) (rB)).size=74:=by rw[Zbl,hrB]
   obtain⟨W,eW⟩:∃W,W=(w.setRow g (hasA true nk (Zbt (scmp (hrun st0 m) rB) (l.drop k1) j) (rB))).plus os d:=⟨_,rfl⟩
   rw[←eW] at HR HBy HTb ⊢
   have HW:=Zq eW
   clear eW hby
   by_cases h64:64≤n1
   ·have h64':(64:Int)≤(n1:Int):=by omega
    have hcap64:64≤cap':=by omega
    have hcl:(((l.drop k1).drop (64*j)).take 64).length=64:=by rw[List.length_take,List.length_drop];omega
    have hcb:=Zbc (ZbB (ZbB hlb k1) (64*j)) 64
    have Hrun:=Zq (show scmp (Zbt (scmp (hrun st0 m) rB) (l.drop k1) j) (((l.drop k1).drop (64*j)).take 64)=Zbt (scmp (hrun st0 m) rB) (l.drop k1) (j+1) from rfl)
    have hcs:(bysA (((l.drop k1).drop (64*j)).take 64)).size=64:=by rw[Zaj,hcl]
    have hload:∀o d,(Zam 173 (.pointer (some ⟨b,o',none⟩))).run Tryz.prog (W.plus o d)=.ok (.agg (bysA (((l.drop k1).drop (64*j)).take 64))) (W.plus o d):=fun o d=>Zgz (HBy.out.grow (Zag (Below.refl _ _) o d)) (by rw[List.length_drop];omega)
    have hTab:∀o d,Tabs (W.plus o d):=fun o d=>HTb.out.grow (Zag (Below.refl _ _) o d)
    have harr:=Zrg b o' cap'
    have hhi:=ZqR (some ⟨b,o',none⟩) n1 cap' hcap64
    have hlo:=ZkN b o' n1 cap' h64
    obtain⟨r1,r2,r3⟩:=HR.out
    generalize eC:((l.drop k1).drop (64*j)).take 64=C at *
    generalize eS:Zbt (scmp (hrun st0 m) rB) (l.drop k1) j=S at *
    go_wp2_with fail
    refine Zal W [0,1,2,3,4,5,6,7,8,9,10,11] [false,false,false,false,false,false,false,false,false,false,false,false] [] [] 12 (by kernel_rfl) rfl (by kernel_rfl) (by intro c a d v w h;cases d<;>exact h) ((Below.refl _ _).drew) ?_
    simp only[pick,List.getElem?_cons_succ,List.getElem?_cons_zero,List.drop_succ_cons,List.drop_zero]
    iterate 9 (refine Zac (Zaa rfl) (by intro K o d hK;go_simp;exact hK _ (Below.refl _ _)) ?_)
    refine Zai (v:=.agg (stA (scmp S C))) (Zaa rfl) (by intro K o d hK;go_simp;refine(Zco _ _ hcl hcb _ (hTab o d)).mono ?_;rintro e w' ⟨rfl,hbw⟩;exact⟨_,rfl,hK _ hbw⟩) ?_
    iterate 2 (refine Zac (Zaa rfl) (by intro K o d hK;go_simp;exact hK _ (Below.refl _ _)) ?_)
    refine Zan ?_
    intro w2 hb2 _
    have hst:=ZdZ (HR.out.grow hb2) (scmp S C)
    skip
    obtain⟨o2,d2,rfl⟩:=Zaf hb2
    have HB2:=Zq ((HBy.out.grow hb2).other hbg (hasA true nk (scmp S C) (rB)))
    clear hb2 hload hTab harr hhi r1 r2 r3
    go_wp2_with fail
    go_roundw
    case rel =>
     refine⟨j+1,n1-64,adv o' 64 cap',cap'-64,os++o2,d2,by omega,rfl,by omega,?_,?_⟩
     ·have:=HB2.out.adv (n:=64) (cap:=cap') (by rw[List.length_drop];omega)
      rw[List.drop_drop,show 64*j+64=64*(j+1) by omega] at this
      exact this
     ·rw[←Hrun.out,HW.out,World.plus_plus,Za8 H.out]
    case measure=>simp;omega
   ·have h64':¬(64:Int)≤(n1:Int):=by omega
    have hj:(l.drop k1).length/64=j:=by omega
    have hstz:=Zgc HR.out hrB (zs 64) (Zah 64)
    have HR2:=HR.out.set (hasA true nk (Zbt (scmp (hrun st0 m) rB) (l.drop k1) j) (zs 64))
    have hcp:=Zel (u:=0) (c2:=64) (cap:=cap') (len:=n1) (k:=n1) (Zah 64) HR2 (by omega) (by rw[List.length_drop];omega) (by rw[List.length_drop];omega) (HBy.out.other hbg _)
    rw[ZbC] at hcp
    simp only[Nat.add_zero,Nat.sub_zero,Nat.zero_add] at hcp
    have hfin:hasA true nk (Zbt (scmp (hrun st0 m) rB) (l.drop k1) j) ((zs 64).take 0++((l.drop k1).drop (64*j)).take n1++(zs 64).drop n1)=hshA (m++l):=by
     rw[List.take_zero,List.nil_append,List.take_of_length_le (by rw[List.length_drop];omega),ZcI]
     have e3:Zbt (scmp (hrun st0 m) rB) (l.drop k1) j=hrun (scmp (hrun st0 m) rB) (l.drop k1):=by unfold hrun;rw[hj]
     have e4:(l.drop k1).drop (64*j)++zs (64-n1)=rst (l.drop k1):=by unfold rst;rw[hj,show (l.drop k1).length%64=n1 by omega]
     rw[e3,e4,F1.out,F2.out]
     unfold hshA;rw[Enk.out]
    rw[hfin] at hcp
    obtain⟨r1,r2,r3⟩:=HR.out
    clear hfin HR2
    go_wp2_with fail
    go_end0
    exact⟨rfl,os,d,by rw[HW.out,Za8 H.out]⟩
theorem ZoK:hshA []=hasA true 0 st0 (zs 64):=rfl
theorem ZmE (m:List Nat):(hshA m).size=74:=by unfold hshA;rw[Zbl,ZbO]
@[go_sem] theorem ZvS (m:List Nat):Zbg (hshA m)=true:=Zpt _ _ _ _
theorem ZlC (g cap:Nat) (p:Option Addr) (m:List Nat) (w:World) (h:RowAt w g (hshA m)) (hm:m.length<1152921504606846976) :
  Calls Tryz.prog 116 #[.pointer (some ⟨g,0,none⟩),.slice p 0 cap] w fun e w'=>e=.returned (.tuple #[])∧∃ os d,w'=(w.setRow g (hshA m)).plus os d:=by
 have H:=Zq h
 obtain⟨h1,h2,h3⟩:=h
 have hcn:=H.out.cellAt 1 (show (hshA m)[1]?=some (.int .i64 m.length) from rfl)
 have hcf:=H.out.frozenAt 1
 have hu:=ZcD m.length
 obtain⟨n,en⟩:∃n,n=m.length:=⟨_,rfl⟩
 obtain⟨u,eu⟩:∃u,u=m.length%64:=⟨_,rfl⟩
 rw[←eu] at hu
 rw[←en] at hcn hu
 have hk:IntKind.i64.wrap (n:Int)=(n:Int):=by rw[IntWalk.i64_in _ (by omega)]
 have hku:IntKind.i64.wrap (u:Int)=(u:Int):=by rw[IntWalk.i64_in _ (by omega)]
 have hu0:(0:Int)≤(u:Int):=by omega
 have hu1:(u:Int)≤64:=by omega
 have hu2:(u:Int)<64:=by omega
 have hset:w.setCell ⟨g,1,none⟩ (.int .i64 (n:Int))=w.setRow g (hshA m):=by
  rw[Zbm H.out,hshA,Zht,en]
 have hcp:∀W:World,(Builtin.copy_ #[38,38] 3 #[.slice (some ⟨g,10+u,none⟩) (64-u) (64-u),.slice p 0 cap]).run Tryz.prog W=.ok (.int .i64 0) W:=fun W=>Zef W _ _ _ _ _
 have En:=Zq en
 have Eu:=Zq eu
 clear en eu hm
 go_enter Tryz.func116,Tryz.ntmps116
 go_wp2_with fail
 refine bodyPost_ret (v:=.tuple #[]) (results_none Tryz.results116 _ _ _) rfl ⟨rfl,#[],_,ZeB _⟩
theorem ZvB (g cap:Nat) (p:Option Addr) (m l:List Nat) (w:World) (hT:Tabs w) (hg:1<g) (h:RowAt w g (hshA m)) (hm:m.length+l.length<1152921504606846976) (hmb:∀i,m.getD i 0<256) (hlb:∀i,l.getD i 0<256)
  (hB:Bs w p l g) (hc:l.length≤cap) :
  Calls Tryz.prog 116 #[.pointer (some ⟨g,0,none⟩),.slice p l.length cap] w fun e w'=>e=.returned (.tuple #[])∧∃ os d,w'=(w.setRow g (hshA (m++l))).plus os d:=by
 rcases hB with rfl | ⟨b,o,rfl,hB,hbg⟩
 ·rw[List.append_nil];exact ZlC g cap p m w h (by simp at hm;exact hm)
 ·by_cases hs:m.length%64+l.length<64
  ·exact ZiF g b o cap m l w h (by omega) hs hB hbg
  ·exact Zlq g b o cap m l w hT hg h hm hmb hlb (by omega) hB hc hbg
theorem ZpD (g:Nat) (m:List Nat) (w:World) (hT:Tabs w) (h:RowAt w g (hshA m)) (hm:m.length<1152921504606846976) (hmb:∀i,m.getD i 0<256) :
  Calls Tryz.prog 117 #[.pointer (some ⟨g,0,none⟩)] w fun e w'=>e=.returned (.agg (keA (dig m)))∧Below w.heap.size w w':=by
 have:=ZpM g m.length (hrun st0 m) (rst m) w hT h (ZbO m) (Znb hmb) hm
 rw[ZoY] at this;exact this
theorem Zsa (cap:Nat) (p:Option Addr) (l:List Nat) (w:World) (hT:Tabs w) (hl:l.length<1152921504606846976) (hlb:∀i,l.getD i 0<256) (hB:Bs0 w p l) (hc:l.length≤cap) :
  Calls Tryz.prog 91 #[.slice p l.length cap] w fun e w'=>e=.returned (.agg (keA (dig l)))∧Below w.heap.size w w':=by
 have HT:=Zq hT
 have HB:=Zq hB
 have hz:=Zu5
 have hz1:(hasA true 0 st0 (zs 64)).size=74:=ZmE []
 have hT1:=hT.1
 clear hT hB
 go_enter Tryz.func91,Tryz.ntmps91
 go_wp2_with fail
 refine(ZrQ _ (HT.out.grow (Zab (Below.refl _ _) _))).mono ?_
 rintro e w' ⟨rfl,hbw⟩
 obtain⟨oc1,nc1,rfl⟩:=Zaf hbw
 clear hbw
 go_wp2_with fail
 generalize hW:World.alloc _ _=W1
 have hR0:=Zq (show ∃c,c.size=32∧RowAt W1 w.heap.size c by rw[←hW];clear hW;exact⟨byI (List.replicate 32 0),by simp[byI],by go_simp,by go_simp;rfl,by go_simp⟩)
 have hG0:=Zq (show RowAt W1 (w.heap.size+1+oc1.size) (hshA []) by rw[←hW,ZoK];clear hW;exact⟨by go_simp,by go_simp,by go_simp⟩)
 have B0:=Zq (show Below w.heap.size w W1 by rw[←hW];repeat (first | apply Zag | apply Zab | apply Below.drew | exact Below.refl _ _))
 clear hW
 have hgw:w.heap.size<w.heap.size+1+oc1.size:=by omega
 generalize w.heap.size+1+oc1.size=g at *
 refine(ZvB g cap p [] l W1 (HT.out.grow B0.out) (by omega) hG0.out (by simpa using hl) (by intro i;simp) hlb (HB.out.new B0.out (by omega)) hc).mono ?_
 rintro e w' ⟨rfl,os,d,rfl⟩
 rw[List.nil_append]
 have hG1:=Zq ((hG0.out.set (hshA l)).grow (Zag (Below.refl _ _) os d))
 obtain⟨c0,hc0,hR1⟩:=hR0.out
 replace hR1:=Zq ((hR1.other (show w.heap.size≠g by omega) (hshA l)).grow (Zag (Below.refl _ _) os d))
 have B1:=Zq (Zag (Zad B0.out (show w.heap.size≤g by omega) (hshA l)) os d)
 generalize (W1.setRow g (hshA l)).plus os d=W2 at *
 go_wp2_with fail
 refine(ZpD g l W2 (HT.out.grow B1.out) hG1.out hl hlb).mono ?_
 rintro e w' ⟨rfl,hbw⟩
 obtain⟨r1,r2,r3⟩:=hR1.out.grow hbw
 have B2:=Zq (B1.out.trans (hbw.mono B1.out.size))
 clear hbw
 go_wp2_with fail
 refine bodyPost_ret (v:=.agg (keA (dig l))) (Zav Tryz.results91 (ZbI _) _ _ _ rfl (by go_simp) (by go_simp)) rfl ⟨rfl,?_⟩
 exact Zad B2.out (Nat.le_refl _) _
def keqs (s t:St):Bool:=(List.range 32).all fun i=>Zdc s i==Zdc t i
@[go_sem] theorem Zut (s:St):keqs s s=true:=by simp[keqs]
theorem ZmH (s:St) (i:Nat) (h:i<32):(keA s)[i]?=some (.int .u8 (Zdc s i)):=by simp[keA,byI,keyL,h]
@[go_sem] theorem ZmJ (s t:St) (w:World):(Op.equalIn 10000 23 (.agg (keA s)) (.agg (keA t))).run Tryz.prog w=.ok (keqs s t) w:=by
 obtain⟨i,hi⟩:∃i,Tryz.prog.info? 5=some i:=Option.isSome_iff_exists.1 (by kernel_rfl)
 rw[run_equalIn_array w 9999 (keA s) (keA t) Tryz.underlying23 hi,show Tryz.prog.cellsOf 5=1 from by kernel_rfl]
 exact Zbj 9998 Tryz.underlying5 _ _ (Zdc s) (Zdc t) w _ fun j hj=>⟨ZmH s j (List.mem_range.1 hj),ZmH t j (List.mem_range.1 hj)⟩
@[go_sem] theorem Zn3 (w:World):(Op.equalIn 10000 23 (.agg (bysA (zs 32))) (.agg (bysA (zs 32)))).run Tryz.prog w=.ok true w:=by
 obtain⟨i,hi⟩:∃i,Tryz.prog.info? 5=some i:=Option.isSome_iff_exists.1 (by kernel_rfl)
 rw[run_equalIn_array w 9999 (bysA (zs 32)) (bysA (zs 32)) Tryz.underlying23 hi,show Tryz.prog.cellsOf 5=1 from by kernel_rfl]
 have:=Zbj (P:=Tryz.prog) (k:=.u8) 9998 Tryz.underlying5 (bysA (zs 32)) (bysA (zs 32)) (fun _=>0) (fun _=>0) w (List.range 32) fun j hj=>by
  have hj':j<32:=List.mem_range.1 hj
  have h0:(bysA (zs 32))[j]?=some (.int .u8 0):=by
   rw[ZaB _ j (by rw[Zah];exact hj')]
   unfold zs List.getD
   rw[List.getElem?_replicate,if_pos hj'];rfl
  exact⟨h0,h0⟩
 rw[this]
 have e:((List.range 32).all fun _=>(0:Int)==0)=true:=by decide
 rw[e]
open Go.ChangeShapes Go.WideShapes Go.ChangeAt Go.RowKit Go.Sh
theorem own:ownKnob Tryz.prog.godebug=none:=by kernel_rfl
theorem Zjb:laidOutB Tryz.prog=true:=by kernel_rfl
theorem Zkn {H:Type} {enc:TypeId×Value→H} {w:World} {r:Reach} {b0 base:Nat} {spare:Nat→Bool} {held:Bool} {v:Value} {d:DataW H} {p:List MemPlace}
  (hv:Value.okWide Tryz.prog w r b0 23 v) (h:DataW.Trod enc Tryz.prog w base spare held 23 v d p) :
  ∃ s:List Nat,v=.agg (bysA s)∧s.length=32∧∀ i,s.getD i 0<256:=by
 have hv':∃cs,v=.agg cs∧cs.size=Tryz.prog.cellsOf 23:=by
  unfold Value.okWide at hv
  rw[Tryz.underlying23] at hv
  obtain⟨cs,h1,h2,_⟩:=hv
  exact⟨cs,h1,h2⟩
 obtain⟨cs,rfl,hsz⟩:=hv'
 obtain⟨fuel,hf⟩:=h
 have hc1:Tryz.prog.cellsOf 5=1:=by kernel_rfl
 have hcn:Tryz.prog.cellsOf 23=32:=by kernel_rfl
 obtain⟨xs,m,_,_,hl,hxl,hx⟩:=DataW.trod_array Tryz.underlying23 hf
 have hget:∀i,i<32→∃ z:Nat,z<256∧cs[i]?=some (.int .u8 z):=fun i hi=>by
  have h1:=hx i hi
  rw[hc1,Nat.mul_one] at h1
  have hlt:i<xs.length:=by omega
  rw[List.getElem?_eq_getElem hlt] at h1
  obtain⟨a,e0,_,wa⟩:=DataW.trod_int Tryz.underlying5 h1
  have hcs:cs[i]?=some (.int .u8 a):=by
   have:((Value.agg cs).cells.toList.drop i)[0]?=some (Value.int .u8 a):=by
    have h2:=congrArg (fun l=>l[0]?) e0
    simpa [List.getElem?_take] using h2
   simpa [Value.cells] using this
  have hb:=bounds_u8 wa
  obtain⟨z,rfl⟩:=Int.eq_ofNat_of_zero_le hb.1
  exact⟨z,by omega,hcs⟩
 have hch:∃f:Nat→Nat,∀ i,i<32→f i<256∧cs[i]?=some (.int .u8 (f i)) :=
  ⟨fun i=>if h:i<32 then Classical.choose (hget i h) else 0,fun i hi=>by simp only[hi,dif_pos];exact Classical.choose_spec (hget i hi)⟩
 obtain⟨f,hf'⟩:=hch
 refine⟨(List.range 32).map f,?_,by simp,Zbp fun x hx=>?_⟩
 ·congr 1
  apply Array.ext_getElem?
  intro i
  by_cases hi:i<32
  ·rw[(hf' i hi).2,ZaB _ i (by simpa using hi)]
   simp[List.getD,hi]
  ·rw[Array.getElem?_eq_none (by omega),Array.getElem?_eq_none (by rw[Zaj];simp;omega)]
 ·obtain⟨i,hi,rfl⟩:=List.mem_map.1 hx
  exact(hf' i (List.mem_range.1 hi)).1
end Go.Proofs.YtddmjddlbhdcpaaGreatDoor
