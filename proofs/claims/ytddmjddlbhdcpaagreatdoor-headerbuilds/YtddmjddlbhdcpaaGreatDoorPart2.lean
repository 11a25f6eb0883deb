/-
  Part 2 of the texts behind the theorem.
-/
import Derived.Test.YtddmjddlbhdcpaaGreatDoorRows
import Derived.WalkKit
import Derived.WalkSpells
import Derived.WalkLawsBesides
import Derived.Laws.Bits64b
import Derived.Lib.Hide
import Derived.Shelf.Bits.Mul64
import Derived.Shelf.Spec.BitsCarry
import Derived.Test.YtddmjddlbhdcpaaGreatDoorPart1
import Derived.LoopTactic
import Derived.Laws.Rows
import Derived.ChangeKeysEq
import Derived.Deep.MidRow
set_option maxHeartbeats 8000000
set_option maxRecDepth 100000
namespace Go.Proofs.YtddmjddlbhdcpaaGreatDoor.F
open Go.RowKit Go.Shelf
def ren:Ren:=⟨fun n=>if n=264 then 182 else if n=25 then 180 else 181,fun n=>if n=46 then 159 else 133,fun n=>n⟩
theorem Zsb:Lays.n264 Tryz.prog ren:=⟨by kernel_rfl,by kernel_rfl,by kernel_rfl,fun _=>by kernel_rfl,fun _=>by kernel_rfl,fun _=>by kernel_rfl,by kernel_rfl,fun _=>by kernel_rfl,fun _=>by kernel_rfl,fun _=>by kernel_rfl⟩
theorem Ztf:Lays7.n25 Tryz.prog ren:=⟨by kernel_rfl,by kernel_rfl,by kernel_rfl,fun _=>by kernel_rfl,fun _=>by kernel_rfl,fun _=>by kernel_rfl,by kernel_rfl⟩
theorem Zrq:Lays7.n26 Tryz.prog ren:=⟨by kernel_rfl,by kernel_rfl,by kernel_rfl,fun _=>by kernel_rfl,fun _=>by kernel_rfl,fun _=>by kernel_rfl,by kernel_rfl⟩
def bor (x y:Int):Int:=if x<y then 1 else 0
theorem Zwz (x y c:Int) (hx:0≤x) (hy:0≤y) (hc0:0≤c) (hc:c≤1) (w:World):(callFunc 180 #[.int .u64 x,.int .u64 y,.int .u64 c]).run Tryz.prog w =
  .ok (.value (.tuple #[.int .u64 ((x+y+c)%18446744073709551616),.int .u64 ((x+y+c)/18446744073709551616)])) w:=by
 obtain⟨x,rfl⟩:=Int.eq_ofNat_of_zero_le hx
 obtain⟨y,rfl⟩:=Int.eq_ofNat_of_zero_le hy
 obtain⟨c,rfl⟩:=Int.eq_ofNat_of_zero_le hc0
 refine(Any7.bits_Add64 Ztf x y c (by omega) w).trans ?_
 congr 5<;>omega
theorem ZwR (x y b:Int) (hx:0≤x) (hy:0≤y) (hy':y<18446744073709551616) (hb0:0≤b) (hb:b≤1) (w:World):(callFunc 181 #[.int .u64 x,.int .u64 y,.int .u64 b]).run Tryz.prog w =
  .ok (.value (.tuple #[.int .u64 ((x-y-b)%18446744073709551616),.int .u64 (bor x (y+b))])) w:=by
 obtain⟨x,rfl⟩:=Int.eq_ofNat_of_zero_le hx
 obtain⟨y,rfl⟩:=Int.eq_ofNat_of_zero_le hy
 obtain⟨b,rfl⟩:=Int.eq_ofNat_of_zero_le hb0
 have e1:(((x+18446744073709551616-y-b)%18446744073709551616:Nat):Int)=((x:Int)-y-b)%18446744073709551616:=by omega
 have e2:((if x<y+b then 1 else 0:Nat):Int)=bor x (y+b):=by unfold bor;split<;>split<;>omega
 rw[←e1,←e2]
 exact Any7.bits_Sub64 Zrq x y b (by omega) w
def Word (x:Int):Prop:=0≤x∧x<18446744073709551616
def W4 (a b c d:Int):Prop:=Word a∧Word b∧Word c∧Word d
def V (a b c d:Int):Int:=a+b*18446744073709551616+c*340282366920938463463374607431768211456+d*6277101735386680763835789423207666416102355444464034512896
abbrev nv (a b c d:Int):Value:=.agg #[.int .u64 a,.int .u64 b,.int .u64 c,.int .u64 d]
def Ret4 (R:Int→Int→Int→Int→Prop) (w:World) (e:Ending) (w':World):Prop:=∃ a b c d,R a b c d∧e=.returned (nv a b c d)∧Below w.heap.size w w'
def Ret5 (R:Int→Int→Int→Int→Int→Prop) (w:World) (e:Ending) (w':World):Prop:=∃ a b c d h,R a b c d h∧e=.returned (.tuple #[nv a b c d,.int .u64 h])∧Below w.heap.size w w'
theorem Zoa (x y:Int) (hx:Word x) (hy:Word y):0≤x*y∧x*y≤340282366920938463426481119284349108225:=by
 obtain⟨a,b⟩:=hx;obtain⟨c,d⟩:=hy
 refine⟨Int.mul_nonneg a c,?_⟩
 have h1:x*y≤18446744073709551615*y:=Int.mul_le_mul_of_nonneg_right (by omega) c
 omega
def AddF (x y c s d:Int):Prop:=0≤s∧s<18446744073709551616∧0≤d∧d≤1∧s+d*18446744073709551616=x+y+c
theorem ZdE (x y c:Int) (hx:Word x) (hy:Word y) (hc0:0≤c) (hc:c≤1):∃s d,AddF x y c s d∧∀ w,(callFunc 180 #[.int .u64 x,.int .u64 y,.int .u64 c]).run Tryz.prog w=.ok (.value (.tuple #[.int .u64 s,.int .u64 d])) w:=by
 refine⟨_,_,?_,fun w=>Zwz x y c hx.1 hy.1 hc0 hc w⟩
 obtain⟨_,_⟩:=hx;obtain⟨_,_⟩:=hy
 unfold AddF;omega
def SubF (x y c s d:Int):Prop:=0≤s∧s<18446744073709551616∧0≤d∧d≤1∧s-d*18446744073709551616=x-y-c
theorem Zfi (x y c:Int) (hx:Word x) (hy:Word y) (hc0:0≤c) (hc:c≤1):∃s d,SubF x y c s d∧∀ w,(callFunc 181 #[.int .u64 x,.int .u64 y,.int .u64 c]).run Tryz.prog w=.ok (.value (.tuple #[.int .u64 s,.int .u64 d])) w:=by
 refine⟨_,_,?_,fun w=>ZwR x y c hx.1 hy.1 hy.2 hc0 hc w⟩
 obtain⟨_,_⟩:=hx;obtain⟨_,_⟩:=hy
 unfold SubF bor;split<;>omega
def MulF (x y l h:Int):Prop:=0≤l∧l<18446744073709551616∧0≤h∧h<18446744073709551615∧l+h*18446744073709551616=x*y∧x*y≤340282366920938463426481119284349108225
theorem ZwC (x y:Int) (hx:Word x) (hy:Word y):∃l h,MulF x y l h∧∀ w,
  Calls Tryz.prog 182 #[.int .u64 x,.int .u64 y] w fun e w'=>e=.returned (.tuple #[.int .u64 h,.int .u64 l])∧w=w':=by
 have hm:=Zoa x y hx hy
 obtain⟨hx0,hx1⟩:=hx;obtain⟨hy0,hy1⟩:=hy
 refine⟨x*y%18446744073709551616,x*y/18446744073709551616,?_,fun w=>?_⟩
 ·unfold MulF
  generalize x*y=m at *
  omega
 obtain⟨x,rfl⟩:=Int.eq_ofNat_of_zero_le hx0
 obtain⟨y,rfl⟩:=Int.eq_ofNat_of_zero_le hy0
 refine(Any.bits_Mul64 Zsb x y (by omega) (by omega) w).mono ?_
 rintro e w' ⟨rfl,rfl⟩
 exact⟨rfl,rfl⟩
def MwR (x y z c l h:Int):Prop:=Word l∧Word h∧l+h*18446744073709551616=x*y+z+c
def Zwv (x y z c:Int) (w:World) (e:Ending) (w':World):Prop:=∃ l h,MwR x y z c l h∧e=.returned (.tuple #[.int .u64 l,.int .u64 h])∧w=w'
theorem Zvn {x y z c l h s1 d1 s2 d2:Int} (hm:MulF x y l h) (a1:AddF l z 0 s1 d1) (a2:AddF s1 c 0 s2 d2) (hz:Word z) (hc:Word c):h+d1+d2<18446744073709551616∧MwR x y z c s2 (h+d1+d2):=by
 obtain⟨_,_⟩:=hz;obtain⟨_,_⟩:=hc
 unfold MulF at hm;unfold AddF at a1 a2;unfold MwR Word
 generalize x*y=m at *
 omega
theorem ZbG (x y z c:Int) (hx:Word x) (hy:Word y) (hz:Word z) (hc:Word c) (w:World) :
  Calls Tryz.prog 173 #[.int .u64 x,.int .u64 y,.int .u64 z,.int .u64 c] w (Zwv x y z c w):=by
 obtain⟨l,h,fm,M1⟩:=ZwC x y hx hy
 obtain⟨s1,d1,f1,A1⟩:=ZdE l z 0 ⟨fm.1,fm.2.1⟩ hz (by decide) (by decide)
 obtain⟨s2,d2,f2,A2⟩:=ZdE s1 c 0 ⟨f1.1,f1.2.1⟩ hc (by decide) (by decide)
 obtain⟨hlt,hr⟩:=Zvn fm f1 f2 hz hc
 have g1:0≤h:=fm.2.2.1
 have g2:0≤d1:=f1.2.2.1
 have g3:0≤d2:=f2.2.2.1
 clear hx hy hz hc fm f1 f2
 have M2:=Zq M1
 clear M1
 go_enter Tryz.func173,Tryz.ntmps173
 go_wp2_with (go_at_call 182;refine(M2.out _).mono ?_;rintro e w' ⟨rfl,rfl⟩)
 go_ret2
 exact⟨s2,_,hr,rfl,rfl⟩
def AddR (a0 a1 a2 a3 b0 b1 b2 b3 r0 r1 r2 r3 c:Int):Prop:=W4 r0 r1 r2 r3∧0≤c∧c≤1∧V r0 r1 r2 r3+c*115792089237316195423570985008687907853269984665640564039457584007913129639936=V a0 a1 a2 a3+V b0 b1 b2 b3
theorem Ztp {a0 a1 a2 a3 b0 b1 b2 b3 r0 r1 r2 r3 c0 c1 c2 c3:Int} (f0:AddF a0 b0 0 r0 c0) (f1:AddF a1 b1 c0 r1 c1) (f2:AddF a2 b2 c1 r2 c2) (f3:AddF a3 b3 c2 r3 c3):AddR a0 a1 a2 a3 b0 b1 b2 b3 r0 r1 r2 r3 c3:=by
 unfold AddF at *;unfold AddR W4 Word V;omega
theorem Zhj (a0 a1 a2 a3 b0 b1 b2 b3:Int) (ha:W4 a0 a1 a2 a3) (hb:W4 b0 b1 b2 b3) (w:World) :
  Calls Tryz.prog 170 #[nv a0 a1 a2 a3,nv b0 b1 b2 b3] w (Ret5 (AddR a0 a1 a2 a3 b0 b1 b2 b3) w):=by
 obtain⟨ha0,ha1,ha2,ha3⟩:=ha
 obtain⟨hb0,hb1,hb2,hb3⟩:=hb
 obtain⟨r0,c0,f0,A0⟩:=ZdE a0 b0 0 ha0 hb0 (by decide) (by decide)
 obtain⟨r1,c1,f1,A1⟩:=ZdE a1 b1 c0 ha1 hb1 f0.2.2.1 f0.2.2.2.1
 obtain⟨r2,c2,f2,A2⟩:=ZdE a2 b2 c1 ha2 hb2 f1.2.2.1 f1.2.2.2.1
 obtain⟨r3,c3,f3,A3⟩:=ZdE a3 b3 c2 ha3 hb3 f2.2.2.1 f2.2.2.2.1
 have hr:=Ztp f0 f1 f2 f3
 clear ha0 ha1 ha2 ha3 hb0 hb1 hb2 hb3 f0 f1 f2 f3
 go_enter Tryz.func170,Tryz.ntmps170
 go_wp2
 refine bodyPost_ret (v:=.tuple #[nv r0 r1 r2 r3,.int .u64 c3]) (by simp[results,Tryz.results170,go_sem]) rfl ⟨r0,r1,r2,r3,c3,hr,rfl,?_⟩
 exact(((Below.refl _ _).alloc (Nat.le_refl _) _).alloc (by simp) _).alloc (by simp;omega) _
def SubR (a0 a1 a2 a3 b0 b1 b2 b3 r0 r1 r2 r3:Int):Prop:=W4 r0 r1 r2 r3∧(V b0 b1 b2 b3≤V a0 a1 a2 a3→V r0 r1 r2 r3=V a0 a1 a2 a3-V b0 b1 b2 b3)
theorem ZsR {a0 a1 a2 a3 b0 b1 b2 b3 r0 r1 r2 r3 c0 c1 c2 c3:Int} (f0:SubF a0 b0 0 r0 c0) (f1:SubF a1 b1 c0 r1 c1) (f2:SubF a2 b2 c1 r2 c2) (f3:SubF a3 b3 c2 r3 c3):SubR a0 a1 a2 a3 b0 b1 b2 b3 r0 r1 r2 r3:=by
 unfold SubF at *;unfold SubR W4 Word V;omega
theorem ZhH (a0 a1 a2 a3 b0 b1 b2 b3:Int) (ha:W4 a0 a1 a2 a3) (hb:W4 b0 b1 b2 b3) (w:World) :
  Calls Tryz.prog 171 #[nv a0 a1 a2 a3,nv b0 b1 b2 b3] w (Ret4 (SubR a0 a1 a2 a3 b0 b1 b2 b3) w):=by
 obtain⟨ha0,ha1,ha2,ha3⟩:=ha
 obtain⟨hb0,hb1,hb2,hb3⟩:=hb
 obtain⟨r0,c0,f0,A0⟩:=Zfi a0 b0 0 ha0 hb0 (by decide) (by decide)
 obtain⟨r1,c1,f1,A1⟩:=Zfi a1 b1 c0 ha1 hb1 f0.2.2.1 f0.2.2.2.1
 obtain⟨r2,c2,f2,A2⟩:=Zfi a2 b2 c1 ha2 hb2 f1.2.2.1 f1.2.2.2.1
 obtain⟨r3,c3,f3,A3⟩:=Zfi a3 b3 c2 ha3 hb3 f2.2.2.1 f2.2.2.2.1
 have hr:=ZsR f0 f1 f2 f3
 clear ha0 ha1 ha2 ha3 hb0 hb1 hb2 hb3 f0 f1 f2 f3
 go_enter Tryz.func171,Tryz.ntmps171
 go_wp2
 refine bodyPost_ret (v:=nv r0 r1 r2 r3) (by simp[results,Tryz.results171,go_sem]) rfl ⟨r0,r1,r2,r3,hr,rfl,?_⟩
 exact(((Below.refl _ _).alloc (Nat.le_refl _) _).alloc (by simp) _).alloc (by simp;omega) _
theorem Zsj (d:Int) (h:Word d):bits .and .u64 d 9223372036854775807=d%9223372036854775808:=by
 obtain⟨h0,h1⟩:=h
 obtain⟨n,rfl⟩:=Int.eq_ofNat_of_zero_le h0
 have h:=bits_and_u64_nat n 9223372036854775807 (by omega) (by omega)
 have e:n &&& 9223372036854775807=n%9223372036854775808:=Nat.and_two_pow_sub_one_eq_mod n 63
 rw[e] at h
 exact h
theorem ZdT (a b c d:Int) (ha:W4 a b c d) (w:World) :
  Calls Tryz.prog 174 #[nv a b c d] w fun e w'=>e=.returned (nv a b c (d%9223372036854775808))∧Below w.heap.size w w':=by
 have h:=Zsj d ha.2.2.2
 clear ha
 go_enter Tryz.func174,Tryz.ntmps174
 go_wp2
 refine bodyPost_ret (v:=nv a b c (d%9223372036854775808)) (by simp[results,Tryz.results174,go_sem]) rfl ⟨rfl,?_⟩
 exact((Below.refl _ _).alloc (Nat.le_refl _) _).alloc (by simp) _
theorem Zeg (a b c d h:Int) (w:World) :
  Calls Tryz.prog 153 #[nv a b c d,.int .u64 h] w fun e w'=>e=.returned (nv b c d h)∧Below w.heap.size w w':=by
 go_enter Tryz.func153,Tryz.ntmps153
 go_wp2
 refine bodyPost_ret (v:=nv b c d h) (by simp[results,Tryz.results153,go_sem]) rfl ⟨rfl,?_⟩
 exact((Below.refl _ _).alloc (Nat.le_refl _) _).alloc (by simp) _
theorem Zmd (w:World) :
  Calls Tryz.prog 172 #[] w fun e w'=>e=.returned (nv 18446744073709551597 18446744073709551615 18446744073709551615 9223372036854775807)∧Below w.heap.size w w':=by
 go_enter Tryz.func172,Tryz.ntmps172
 go_wp2
 refine bodyPost_ret (v:=nv 18446744073709551597 18446744073709551615 18446744073709551615 9223372036854775807) (by simp[results,Tryz.results172,go_sem]) rfl ⟨rfl,?_⟩
 exact(Below.refl _ _).alloc (Nat.le_refl _) _
def MaR (a0 a1 a2 a3 y m0 m1 m2 m3 r0 r1 r2 r3 h:Int):Prop:=W4 r0 r1 r2 r3∧Word h∧V r0 r1 r2 r3+h*115792089237316195423570985008687907853269984665640564039457584007913129639936=V a0 a1 a2 a3*y+V m0 m1 m2 m3
theorem Zu4 {a0 a1 a2 a3 y m0 m1 m2 m3 r0 r1 r2 r3 h0 h1 h2 h3:Int} (f0:MwR a0 y m0 0 r0 h0) (f1:MwR a1 y m1 h0 r1 h1) (f2:MwR a2 y m2 h1 r2 h2) (f3:MwR a3 y m3 h2 r3 h3):MaR a0 a1 a2 a3 y m0 m1 m2 m3 r0 r1 r2 r3 h3:=by
 obtain⟨w0,_,e0⟩:=f0;obtain⟨w1,_,e1⟩:=f1;obtain⟨w2,_,e2⟩:=f2;obtain⟨w3,wh,e3⟩:=f3
 refine⟨⟨w0,w1,w2,w3⟩,wh,?_⟩
 unfold V
 rw[Int.add_mul,Int.add_mul,Int.add_mul,Int.mul_right_comm a1,Int.mul_right_comm a2,Int.mul_right_comm a3]
 generalize a0*y=p0 at *;generalize a1*y=p1 at *;generalize a2*y=p2 at *;generalize a3*y=p3 at *
 omega
theorem Zdx:Word 0:=⟨by decide,by decide⟩
theorem ZfS (a0 a1 a2 a3 y m0 m1 m2 m3:Int) (ha:W4 a0 a1 a2 a3) (hy:Word y) (hm:W4 m0 m1 m2 m3) (w:World) :
  Calls Tryz.prog 152 #[nv a0 a1 a2 a3,.int .u64 y,nv m0 m1 m2 m3] w (Ret5 (MaR a0 a1 a2 a3 y m0 m1 m2 m3) w):=by
 obtain⟨ha0,ha1,ha2,ha3⟩:=ha
 obtain⟨hm0,hm1,hm2,hm3⟩:=hm
 go_enter Tryz.func152,Tryz.ntmps152
 go_wp2_with fail
 refine(ZbG a0 y m0 0 ha0 hy hm0 Zdx _).mono ?_
 rintro e w' ⟨r0,h0,f0,rfl,rfl⟩
 go_wp2_with fail
 refine(ZbG a1 y m1 h0 ha1 hy hm1 f0.2.1 _).mono ?_
 rintro e w' ⟨r1,h1,f1,rfl,rfl⟩
 go_wp2_with fail
 refine(ZbG a2 y m2 h1 ha2 hy hm2 f1.2.1 _).mono ?_
 rintro e w' ⟨r2,h2,f2,rfl,rfl⟩
 go_wp2_with fail
 refine(ZbG a3 y m3 h2 ha3 hy hm3 f2.2.1 _).mono ?_
 rintro e w' ⟨r3,h3,f3,rfl,rfl⟩
 have hr:=Zu4 f0 f1 f2 f3
 clear ha0 ha1 ha2 ha3 hm0 hm1 hm2 hm3 f0 f1 f2 f3 hy
 go_wp2_with fail
 refine bodyPost_ret (v:=.tuple #[nv r0 r1 r2 r3,.int .u64 h3]) (by simp[results,Tryz.results152,go_sem]) rfl ⟨r0,r1,r2,r3,h3,hr,rfl,?_⟩
 exact(((Below.refl _ _).alloc (Nat.le_refl _) _).alloc (by simp) _).alloc (by simp;omega) _
theorem Zuy (h d:Int) (h0:0≤h) (h1:h≤38) (hd:Word d):bits .or .u64 (h*2) (d/9223372036854775808)=h*2+d/9223372036854775808:=by
 obtain⟨d0,d1⟩:=hd
 obtain⟨n,rfl⟩:=Int.eq_ofNat_of_zero_le h0
 obtain⟨m,hm⟩:=Int.eq_ofNat_of_zero_le (a:=d/9223372036854775808) (by omega)
 rw[hm]
 have h:=bits_or_u64_nat (n*2) m (by omega) (by omega)
 have hm1:m<2^1:=by omega
 have e:n*2 ||| m=n*2+m:=by
  have:=Nat.two_pow_add_eq_or_of_lt hm1 n
  rw[Nat.mul_comm n 2];simpa using this.symm
 rw[e] at h
 exact_mod_cast h
theorem topV {a b c d:Int} (h:W4 a b c d):V a b c d=V a b c (d%9223372036854775808)+d/9223372036854775808*57896044618658097711785492504343953926634992332820282019728792003956564819968 ∧
  0≤V a b c (d%9223372036854775808)∧V a b c (d%9223372036854775808)<57896044618658097711785492504343953926634992332820282019728792003956564819968∧0≤d/9223372036854775808∧d/9223372036854775808≤1∧W4 a b c (d%9223372036854775808):=by
 unfold W4 Word V at *;omega
theorem Zjt {lo t x g n:Int} (h1:0≤lo) (h2:lo<57896044618658097711785492504343953926634992332820282019728792003956564819968) (h3:0≤t) (h4:t≤77) (hx:x=lo+19*t)
  (hn:n=lo+t*57896044618658097711785492504343953926634992332820282019728792003956564819968) (hg:g=0∧x+19<57896044618658097711785492504343953926634992332820282019728792003956564819968∨g=1∧57896044618658097711785492504343953926634992332820282019728792003956564819968≤x+19) :
  x+19*g-g*57896044618658097711785492504343953926634992332820282019728792003956564819968=n%57896044618658097711785492504343953926634992332820282019728792003956564819949:=by
 rcases hg with ⟨rfl,h⟩ | ⟨rfl,h⟩
 ·have e:n=x+57896044618658097711785492504343953926634992332820282019728792003956564819949*t:=by omega
  rw[e,Int.add_mul_emod_self_left,Int.emod_eq_of_lt (by omega) (by omega)];omega
 ·have e:n=(x-57896044618658097711785492504343953926634992332820282019728792003956564819949)+57896044618658097711785492504343953926634992332820282019728792003956564819949*(t+1):=by omega
  rw[e,Int.add_mul_emod_self_left,Int.emod_eq_of_lt (by omega) (by omega)];omega
theorem ZsO (x:Int):V x 0 0 0=x:=by unfold V;omega
theorem V_bd {a b c d:Int} (h:W4 a b c d):0≤V a b c d∧V a b c d<115792089237316195423570985008687907853269984665640564039457584007913129639936:=by
 unfold W4 Word V at *;omega
theorem ZjI {a b c d h t l0 l1 l2 l3 k m0 m1 m2 m3 k' s0 s1 s2 s3 k'':Int} (ha:W4 a b c d) (h0:0≤h) (h1:h≤38) (ht:t=h*2+d/9223372036854775808)
  (F1:AddR a b c (d%9223372036854775808) (19*t) 0 0 0 l0 l1 l2 l3 k) (F2:AddR l0 l1 l2 l3 19 0 0 0 m0 m1 m2 m3 k') (F3:AddR l0 l1 l2 l3 (19*(m3/9223372036854775808)) 0 0 0 s0 s1 s2 s3 k'') :
  W4 s0 s1 s2 (s3%9223372036854775808)∧V s0 s1 s2 (s3%9223372036854775808)=(V a b c d+h*115792089237316195423570985008687907853269984665640564039457584007913129639936)%57896044618658097711785492504343953926634992332820282019728792003956564819949:=by
 obtain⟨a1,a2,a3,a4,a5,_⟩:=topV ha
 obtain⟨W1,k0,k1,e1⟩:=F1
 obtain⟨W2,k0',k1',e2⟩:=F2
 obtain⟨W3,k0'',k1'',e3⟩:=F3
 obtain⟨b1,b2,b3,b4,b5,_⟩:=topV W2
 obtain⟨c1,c2,c3,c4,c5,c6⟩:=topV W3
 have v1:=V_bd W1;have v2:=V_bd W2;have v3:=V_bd W3
 refine⟨c6,?_⟩
 rw[ZsO] at e1 e2 e3
 generalize V a b c d=A at *;generalize V a b c (d%9223372036854775808)=lo at *
 generalize V l0 l1 l2 l3=x at *;generalize V m0 m1 m2 m3=y at *;generalize V m0 m1 m2 (m3%9223372036854775808)=ylo at *
 generalize V s0 s1 s2 s3=z at *;generalize V s0 s1 s2 (s3%9223372036854775808)=r at *
 generalize m3/9223372036854775808=g at *;generalize s3/9223372036854775808=g' at *;generalize d/9223372036854775808=q at *
 clear W1 W2 W3 ha
 have hk:k=0:=by omega
 subst hk
 have hk':k'=0:=by omega
 subst hk'
 have hk'':k''=0:=by omega
 subst hk''
 have hx:x=lo+19*t:=by omega
 have hn:A+h*115792089237316195423570985008687907853269984665640564039457584007913129639936=lo+t*57896044618658097711785492504343953926634992332820282019728792003956564819968:=by omega
 have hg:g=0∧x+19<57896044618658097711785492504343953926634992332820282019728792003956564819968∨g=1∧57896044618658097711785492504343953926634992332820282019728792003956564819968≤x+19:=by omega
 have hr:r=x+19*g-g*57896044618658097711785492504343953926634992332820282019728792003956564819968:=by omega
 rw[hr]
 exact Zjt a2 a3 (by omega) (by omega) hx hn hg
theorem Zk7 (a b c d h:Int) (ha:W4 a b c d) (h0:0≤h) (h1:h≤38) (w:World) :
  Calls Tryz.prog 154 #[nv a b c d,.int .u64 h] w (Ret4 (fun r0 r1 r2 r3=>W4 r0 r1 r2 r3∧V r0 r1 r2 r3=(V a b c d+h*115792089237316195423570985008687907853269984665640564039457584007913129639936)%57896044618658097711785492504343953926634992332820282019728792003956564819949) w):=by
 have hor:=Zuy h d h0 h1 ha.2.2.2
 have d0:0≤d:=ha.2.2.2.1
 have d1:d<18446744073709551616:=ha.2.2.2.2
 go_enter Tryz.func154,Tryz.ntmps154
 go_wp2_with fail
 refine(ZdT a b c d ha _).mono ?_
 rintro e w1 ⟨rfl,hb1⟩
 obtain⟨o1,n1,rfl⟩:=Zaf hb1
 clear hb1
 go_wp2_with fail
 obtain⟨t,ht⟩:∃t,t=h*2+d/9223372036854775808:=⟨_,rfl⟩
 have t0:0≤t:=by omega
 have t1:t≤77:=by omega
 rw[←ht]
 have Ht:=Zq ht
 clear ht hor
 refine(Zhj a b c (d%9223372036854775808) (19*t) 0 0 0 ⟨ha.1,ha.2.1,ha.2.2.1,by omega,by omega⟩ ⟨⟨by omega,by omega⟩,Zdx,Zdx,Zdx⟩ _).mono ?_
 rintro e w2 ⟨l0,l1,l2,l3,k,F1,rfl,hb2⟩
 obtain⟨o2,n2,rfl⟩:=Zaf hb2
 clear hb2
 go_wp2_with fail
 have L:W4 l0 l1 l2 l3:=F1.1
 refine(Zhj l0 l1 l2 l3 19 0 0 0 L ⟨⟨by decide,by decide⟩,Zdx,Zdx,Zdx⟩ _).mono ?_
 rintro e w3 ⟨m0,m1,m2,m3,k',F2,rfl,hb3⟩
 obtain⟨o3,n3,rfl⟩:=Zaf hb3
 clear hb3
 have m3a:0≤m3:=F2.1.2.2.2.1
 have m3b:m3<18446744073709551616:=F2.1.2.2.2.2
 go_wp2_with fail
 refine(Zhj l0 l1 l2 l3 (19*(m3/9223372036854775808)) 0 0 0 L ⟨⟨by omega,by omega⟩,Zdx,Zdx,Zdx⟩ _).mono ?_
 rintro e w4 ⟨s0,s1,s2,s3,k'',F3,rfl,hb4⟩
 obtain⟨o4,n4,rfl⟩:=Zaf hb4
 clear hb4
 go_wp2_with fail
 refine(ZdT s0 s1 s2 s3 F3.1 _).mono ?_
 rintro e w5 ⟨rfl,hb5⟩
 obtain⟨o5,n5,rfl⟩:=Zaf hb5
 clear hb5
 go_wp2_with fail
 refine bodyPost_ret (v:=nv s0 s1 s2 (s3%9223372036854775808)) (by simp[results,Tryz.results154,go_sem]) rfl ⟨s0,s1,s2,s3%9223372036854775808,ZjI ha h0 h1 Ht.out F1 F2 F3,rfl,?_⟩
 repeat (first | apply Zag | apply Zab | exact Below.refl _ _)
open Go.RowKit Go.Shelf Go.Hold
theorem ZsD {a b c d a' b' c' d':Int} (h:W4 a b c d) (h':W4 a' b' c' d') (e:V a b c d=V a' b' c' d'):a=a'∧b=b'∧c=c'∧d=d':=by
 unfold W4 Word V at *;omega
theorem Znr (n:Int) (h0:0≤n) (h1:n<115792089237316195423570985008687907853269984665640564039457584007913129639936):∃a b c d,W4 a b c d∧V a b c d=n:=by
 refine⟨n%18446744073709551616,n/18446744073709551616%18446744073709551616,n/340282366920938463463374607431768211456%18446744073709551616,n/6277101735386680763835789423207666416102355444464034512896,?_⟩
 unfold W4 Word V;omega
theorem fix4 {f:FuncId} {args:Array Value} {R:Int→Int→Int→Int→Prop} {n:Int} (h0:0≤n) (h1:n<115792089237316195423570985008687907853269984665640564039457584007913129639936)
  (hR:∀a b c d,R a b c d→W4 a b c d∧V a b c d=n) (h:∀w,Calls Tryz.prog f args w (Ret4 R w)) :
  ∃ a b c d,W4 a b c d∧V a b c d=n∧∀ w,Calls Tryz.prog f args w fun e w'=>e=.returned (nv a b c d)∧Below w.heap.size w w':=by
 obtain⟨a,b,c,d,hw,hv⟩:=Znr n h0 h1
 refine⟨a,b,c,d,hw,hv,fun w=>(h w).mono ?_⟩
 rintro e w' ⟨a',b',c',d',hr,rfl,hb⟩
 obtain⟨hw',hv'⟩:=hR _ _ _ _ hr
 obtain⟨rfl,rfl,rfl,rfl⟩:=ZsD hw hw' (hv.trans hv'.symm)
 exact⟨rfl,hb⟩
theorem fix5 {f:FuncId} {args:Array Value} {R:Int→Int→Int→Int→Int→Prop} {n:Int}
  (hR:∀a b c d h,R a b c d h→W4 a b c d∧V a b c d+h*115792089237316195423570985008687907853269984665640564039457584007913129639936=n) (h:∀w,Calls Tryz.prog f args w (Ret5 R w)) :
  ∃ a b c d h,W4 a b c d∧V a b c d+h*115792089237316195423570985008687907853269984665640564039457584007913129639936=n∧∀ w,Calls Tryz.prog f args w fun e w'=>e=.returned (.tuple #[nv a b c d,.int .u64 h])∧Below w.heap.size w w':=by
 obtain⟨a,b,c,d,hw,hv⟩:=Znr (n%115792089237316195423570985008687907853269984665640564039457584007913129639936) (by omega) (by omega)
 refine⟨a,b,c,d,n/115792089237316195423570985008687907853269984665640564039457584007913129639936,hw,by omega,fun w=>(h w).mono ?_⟩
 rintro e w' ⟨a',b',c',d',k,hr,rfl,hb⟩
 obtain⟨hw',hv'⟩:=hR _ _ _ _ _ hr
 have hbd:=V_bd hw'
 obtain⟨rfl,rfl,rfl,rfl⟩:=ZsD hw hw' (by omega)
 have:k=n/115792089237316195423570985008687907853269984665640564039457584007913129639936:=by omega
 exact⟨by rw[this],hb⟩
theorem Zo6 {a b c d y:Int} (h:W4 a b c d) (hy:Word y):0≤V a b c d*y∧V a b c d*y≤115792089237316195423570985008687907853269984665640564039457584007913129639935*y:=by
 have:=V_bd h
 exact⟨Int.mul_nonneg this.1 hy.1,Int.mul_le_mul_of_nonneg_right (by omega) hy.1⟩
theorem Zbw {a0 a1 a2 a3 y m0 m1 m2 m3:Int} (ha:W4 a0 a1 a2 a3) (hy:Word y) (hm:W4 m0 m1 m2 m3) :
  ∃ r0 r1 r2 r3 h,W4 r0 r1 r2 r3∧Word h∧V r0 r1 r2 r3+h*115792089237316195423570985008687907853269984665640564039457584007913129639936=V a0 a1 a2 a3*y+V m0 m1 m2 m3 ∧
   Hid (∀ w,Calls Tryz.prog 152 #[nv a0 a1 a2 a3,.int .u64 y,nv m0 m1 m2 m3] w fun e w'=>e=.returned (.tuple #[nv r0 r1 r2 r3,.int .u64 h])∧Below w.heap.size w w'):=by
 have b1:=Zo6 ha hy
 have b2:=V_bd hm
 obtain⟨r0,r1,r2,r3,h,hw,hv,hc⟩:=fix5 (n:=V a0 a1 a2 a3*y+V m0 m1 m2 m3) (fun _ _ _ _ _ hr=>⟨hr.1,hr.2.2⟩) (fun w=>ZfS a0 a1 a2 a3 y m0 m1 m2 m3 ha hy hm w)
 have b3:=V_bd hw
 refine⟨r0,r1,r2,r3,h,hw,?_,hv,hc⟩
 obtain⟨y0,y1⟩:=hy
 generalize V a0 a1 a2 a3*y=t at *
 unfold Word;omega
theorem ZdH {a b c d h:Int} (ha:W4 a b c d) (h0:0≤h) (h1:h≤38) :
  ∃ r0 r1 r2 r3,W4 r0 r1 r2 r3∧V r0 r1 r2 r3=(V a b c d+h*115792089237316195423570985008687907853269984665640564039457584007913129639936)%57896044618658097711785492504343953926634992332820282019728792003956564819949 ∧
   Hid (∀ w,Calls Tryz.prog 154 #[nv a b c d,.int .u64 h] w fun e w'=>e=.returned (nv r0 r1 r2 r3)∧Below w.heap.size w w') :=
 fix4 (by omega) (by omega) (fun _ _ _ _ hr=>hr) (fun w=>Zk7 a b c d h ha h0 h1 w)
theorem Zin {a0 a1 a2 a3 b0 b1 b2 b3 p0 p1 p2 p3 hp q0 q1 q2 q3 hq r0 r1 r2 r3 hr s0 s1 s2 s3 hs:Int}
  (P1:V p0 p1 p2 p3+hp*115792089237316195423570985008687907853269984665640564039457584007913129639936=V a0 a1 a2 a3*b0+V 0 0 0 0)
  (Q1:V q0 q1 q2 q3+hq*115792089237316195423570985008687907853269984665640564039457584007913129639936=V a0 a1 a2 a3*b1+V p1 p2 p3 hp)
  (R1:V r0 r1 r2 r3+hr*115792089237316195423570985008687907853269984665640564039457584007913129639936=V a0 a1 a2 a3*b2+V q1 q2 q3 hq)
  (S1:V s0 s1 s2 s3+hs*115792089237316195423570985008687907853269984665640564039457584007913129639936=V a0 a1 a2 a3*b3+V r1 r2 r3 hr) :
  V a0 a1 a2 a3*V b0 b1 b2 b3=V p0 q0 r0 s0+V s1 s2 s3 hs*115792089237316195423570985008687907853269984665640564039457584007913129639936:=by
 have e:V a0 a1 a2 a3*V b0 b1 b2 b3=V a0 a1 a2 a3*b0+V a0 a1 a2 a3*b1*18446744073709551616+V a0 a1 a2 a3*b2*340282366920938463463374607431768211456+V a0 a1 a2 a3*b3*6277101735386680763835789423207666416102355444464034512896:=by
  conv=>lhs;rhs;unfold V
  rw[Int.mul_add,Int.mul_add,Int.mul_add,Int.mul_assoc,Int.mul_assoc,Int.mul_assoc]
 rw[e]
 generalize V a0 a1 a2 a3*b0=x0 at *;generalize V a0 a1 a2 a3*b1=x1 at *;generalize V a0 a1 a2 a3*b2=x2 at *;generalize V a0 a1 a2 a3*b3=x3 at *
 unfold V at *;omega
theorem ZnW {s1 s2 s3 hs p0 q0 r0 s0 f0 f1 f2 f3 hf:Int} (F0:W4 f0 f1 f2 f3) (F1:V f0 f1 f2 f3+hf*115792089237316195423570985008687907853269984665640564039457584007913129639936=V s1 s2 s3 hs*38+V p0 q0 r0 s0)
  (h1:W4 s1 s2 s3 hs) (h2:W4 p0 q0 r0 s0):hf≤38:=by
 have a:=V_bd F0;have b:=V_bd h1;have c:=V_bd h2
 omega
theorem Zno {s1 s2 s3 hs p0 q0 r0 s0 f0 f1 f2 f3 hf m:Int} (F1:V f0 f1 f2 f3+hf*115792089237316195423570985008687907853269984665640564039457584007913129639936=V s1 s2 s3 hs*38+V p0 q0 r0 s0)
  (hm:m=V p0 q0 r0 s0+V s1 s2 s3 hs*115792089237316195423570985008687907853269984665640564039457584007913129639936) :
  (V f0 f1 f2 f3+hf*115792089237316195423570985008687907853269984665640564039457584007913129639936)%57896044618658097711785492504343953926634992332820282019728792003956564819949=m%57896044618658097711785492504343953926634992332820282019728792003956564819949:=by
 rw[F1,hm]
 have e:V p0 q0 r0 s0+V s1 s2 s3 hs*115792089237316195423570985008687907853269984665640564039457584007913129639936=(V s1 s2 s3 hs*38+V p0 q0 r0 s0)+57896044618658097711785492504343953926634992332820282019728792003956564819949*(2*V s1 s2 s3 hs):=by omega
 rw[e,Int.add_mul_emod_self_left]
theorem w4_0:W4 0 0 0 0:=⟨Zdx,Zdx,Zdx,Zdx⟩
theorem Zjc (a0 a1 a2 a3 b0 b1 b2 b3:Int) (ha:W4 a0 a1 a2 a3) (hb:W4 b0 b1 b2 b3) (w:World) :
  Calls Tryz.prog 125 #[nv a0 a1 a2 a3,nv b0 b1 b2 b3] w (Ret4 (fun r0 r1 r2 r3=>W4 r0 r1 r2 r3∧V r0 r1 r2 r3=V a0 a1 a2 a3*V b0 b1 b2 b3%57896044618658097711785492504343953926634992332820282019728792003956564819949) w):=by
 obtain⟨hb0,hb1,hb2,hb3⟩:=hb
 obtain⟨p0,p1,p2,p3,hp,P0,Ph,P1,PC⟩:=Zbw ha hb0 w4_0
 obtain⟨q0,q1,q2,q3,hq,Q0,Qh,Q1,QC⟩:=Zbw ha hb1 ⟨P0.2.1,P0.2.2.1,P0.2.2.2,Ph⟩
 obtain⟨r0,r1,r2,r3,hr,R0,Rh,R1,RC⟩:=Zbw ha hb2 ⟨Q0.2.1,Q0.2.2.1,Q0.2.2.2,Qh⟩
 obtain⟨s0,s1,s2,s3,hs,S0,Sh,S1,SC⟩:=Zbw ha hb3 ⟨R0.2.1,R0.2.2.1,R0.2.2.2,Rh⟩
 have hfact:=Zin P1 Q1 R1 S1
 have Hfact:=Zq hfact
 clear hfact P1 Q1 R1 S1
 go_enter Tryz.func125,Tryz.ntmps125
 go_wp2_with (go_at_call 152;refine(PC.out _).mono ?_;rintro e w' ⟨rfl,hb⟩;obtain⟨o1,n1,rfl⟩:=Zaf hb;clear hb)
 generalize hW:World.alloc (World.plus _ o1 n1) _=W1
 refine Za9 (fun w'=>∃ o d,w'=W1.plus o d) 8 2 (by kernel_rfl) (by kernel_rfl) (by intro c a d v w h;cases d<;>exact h) ⟨#[],_,rfl⟩ ?_
 subst hW
 simp only[List.take_succ_cons,List.take_zero,List.drop_succ_cons,List.drop_zero]
 iterate 5 (refine ZaA ⟨_,#[],0,rfl⟩ (by rintro K _ ⟨o,d,rfl⟩ hK;go_simp;exact hK _ ⟨o,d,rfl⟩) ?_)
 refine Zap (v:=nv p1 p2 p3 hp) (by go_simp) (by rintro K _ ⟨o,d,rfl⟩ hK;go_simp;refine(Zeg p0 p1 p2 p3 hp _).mono ?_;rintro e w' ⟨rfl,hb⟩;obtain⟨o',n',rfl⟩:=Zaf hb;exact⟨_,rfl,hK _ ⟨_,_,World.plus_plus _ _ _ _ _⟩⟩) ?_
 refine Zap (v:=.tuple #[nv q0 q1 q2 q3,.int .u64 hq]) (by go_simp) (by rintro K _ ⟨o,d,rfl⟩ hK;go_simp;refine(QC.out _).mono ?_;rintro e w' ⟨rfl,hb⟩;obtain⟨o',n',rfl⟩:=Zaf hb;exact⟨_,rfl,hK _ ⟨_,_,World.plus_plus _ _ _ _ _⟩⟩) ?_
 refine ZaA ⟨_,#[],0,rfl⟩ (by rintro K _ ⟨o,d,rfl⟩ hK;go_simp;exact hK _ ⟨o,d,rfl⟩) ?_
 refine Zaw ?_
 rintro _ ⟨o2,n2,rfl⟩
 iterate 2 (refine Zd0 (by intro K w' hK;go_simp;exact hK _) (by intro w' _;go_simp) ?_)
 refine ZbR ?_
 go_wp2_with fail
 generalize hW:World.alloc (World.plus _ o1 n1) _=W1
 refine Za9 (fun w'=>∃ o d,w'=W1.plus o d) 8 2 (by kernel_rfl) (by kernel_rfl) (by intro c a d v w h;cases d<;>exact h) ⟨_,_,rfl⟩ ?_
 subst hW
 simp only[List.take_succ_cons,List.take_zero,List.drop_succ_cons,List.drop_zero]
 iterate 5 (refine ZaA ⟨_,#[],0,rfl⟩ (by rintro K _ ⟨o,d,rfl⟩ hK;go_simp;exact hK _ ⟨o,d,rfl⟩) ?_)
 refine Zap (v:=nv q1 q2 q3 hq) (by go_simp) (by rintro K _ ⟨o,d,rfl⟩ hK;go_simp;refine(Zeg q0 q1 q2 q3 hq _).mono ?_;rintro e w' ⟨rfl,hb⟩;obtain⟨o',n',rfl⟩:=Zaf hb;exact⟨_,rfl,hK _ ⟨_,_,World.plus_plus _ _ _ _ _⟩⟩) ?_
 refine Zap (v:=.tuple #[nv r0 r1 r2 r3,.int .u64 hr]) (by go_simp) (by rintro K _ ⟨o,d,rfl⟩ hK;go_simp;refine(RC.out _).mono ?_;rintro e w' ⟨rfl,hb⟩;obtain⟨o',n',rfl⟩:=Zaf hb;exact⟨_,rfl,hK _ ⟨_,_,World.plus_plus _ _ _ _ _⟩⟩) ?_
 refine ZaA ⟨_,#[],0,rfl⟩ (by rintro K _ ⟨o,d,rfl⟩ hK;go_simp;exact hK _ ⟨o,d,rfl⟩) ?_
 refine Zaw ?_
 rintro _ ⟨o3,n3,rfl⟩
 iterate 2 (refine Zd0 (by intro K w' hK;go_simp;exact hK _) (by intro w' _;go_simp) ?_)
 refine ZbR ?_
 go_wp2_with fail
 generalize hW:World.alloc (World.plus _ o1 n1) _=W1
 refine Za9 (fun w'=>∃ o d,w'=W1.plus o d) 8 2 (by kernel_rfl) (by kernel_rfl) (by intro c a d v w h;cases d<;>exact h) ⟨_,_,rfl⟩ ?_
 subst hW
 simp only[List.take_succ_cons,List.take_zero,List.drop_succ_cons,List.drop_zero]
 iterate 5 (refine ZaA ⟨_,#[],0,rfl⟩ (by rintro K _ ⟨o,d,rfl⟩ hK;go_simp;exact hK _ ⟨o,d,rfl⟩) ?_)
 refine Zap (v:=nv r1 r2 r3 hr) (by go_simp) (by rintro K _ ⟨o,d,rfl⟩ hK;go_simp;refine(Zeg r0 r1 r2 r3 hr _).mono ?_;rintro e w' ⟨rfl,hb⟩;obtain⟨o',n',rfl⟩:=Zaf hb;exact⟨_,rfl,hK _ ⟨_,_,World.plus_plus _ _ _ _ _⟩⟩) ?_
 refine Zap (v:=.tuple #[nv s0 s1 s2 s3,.int .u64 hs]) (by go_simp) (by rintro K _ ⟨o,d,rfl⟩ hK;go_simp;refine(SC.out _).mono ?_;rintro e w' ⟨rfl,hb⟩;obtain⟨o',n',rfl⟩:=Zaf hb;exact⟨_,rfl,hK _ ⟨_,_,World.plus_plus _ _ _ _ _⟩⟩) ?_
 refine ZaA ⟨_,#[],0,rfl⟩ (by rintro K _ ⟨o,d,rfl⟩ hK;go_simp;exact hK _ ⟨o,d,rfl⟩) ?_
 refine Zaw ?_
 rintro _ ⟨o4,n4,rfl⟩
 iterate 2 (refine Zd0 (by intro K w' hK;go_simp;exact hK _) (by intro w' _;go_simp) ?_)
 refine ZbR ?_
 go_wp2_with fail
 refine(Zeg s0 s1 s2 s3 hs _).mono ?_
 rintro e w' ⟨rfl,hb⟩
 obtain⟨o5,n5,rfl⟩:=Zaf hb
 clear hb
 obtain⟨f0,f1,f2,f3,hf,F0,Fh,F1,FC⟩:=Zbw (y:=38) ⟨S0.2.1,S0.2.2.1,S0.2.2.2,Sh⟩ ⟨by decide,by decide⟩ ⟨P0.1,Q0.1,R0.1,S0.1⟩
 have hf38:=ZnW F0 F1 ⟨S0.2.1,S0.2.2.1,S0.2.2.2,Sh⟩ ⟨P0.1,Q0.1,R0.1,S0.1⟩
 obtain⟨g0,g1,g2,g3,G0,G1,GC⟩:=ZdH F0 Fh.1 hf38
 have HG:=Zq (G1.trans (Zno F1 Hfact.out))
 clear F1 G1 Hfact P0 Q0 R0 S0 Ph Qh Rh Sh F0 Fh hf38 ha hb0 hb1 hb2 hb3 PC QC RC SC
 go_wp2_with fail
 refine(FC.out _).mono ?_
 rintro e w' ⟨rfl,hb⟩
 obtain⟨o6,n6,rfl⟩:=Zaf hb
 clear hb
 go_wp2_with fail
 refine(GC.out _).mono ?_
 rintro e w' ⟨rfl,hb⟩
 obtain⟨o7,n7,rfl⟩:=Zaf hb
 clear hb
 go_wp2_with fail
 refine bodyPost_ret (v:=nv g0 g1 g2 g3) (by simp[results,Tryz.results125,go_sem]) rfl ⟨g0,g1,g2,g3,⟨G0,HG.out⟩,rfl,?_⟩
 repeat (first | apply Zag | apply Zab | exact Below.refl _ _)
def RedR (n:Int) (a b c d:Int):Prop:=W4 a b c d∧V a b c d=n%57896044618658097711785492504343953926634992332820282019728792003956564819949
theorem ZlR {a0 a1 a2 a3 b0 b1 b2 b3:Int} (ha:W4 a0 a1 a2 a3) (hb:W4 b0 b1 b2 b3) :
  ∃ r0 r1 r2 r3 h,W4 r0 r1 r2 r3∧0≤h∧h≤1∧V r0 r1 r2 r3+h*115792089237316195423570985008687907853269984665640564039457584007913129639936=V a0 a1 a2 a3+V b0 b1 b2 b3 ∧
   Hid (∀ w,Calls Tryz.prog 170 #[nv a0 a1 a2 a3,nv b0 b1 b2 b3] w fun e w'=>e=.returned (.tuple #[nv r0 r1 r2 r3,.int .u64 h])∧Below w.heap.size w w'):=by
 have v1:=V_bd ha
 have v2:=V_bd hb
 obtain⟨r0,r1,r2,r3,h,hw,hv,hc⟩:=fix5 (n:=V a0 a1 a2 a3+V b0 b1 b2 b3) (fun _ _ _ _ _ hr=>⟨hr.1,hr.2.2.2⟩) (fun w=>Zhj a0 a1 a2 a3 b0 b1 b2 b3 ha hb w)
 have v3:=V_bd hw
 exact⟨r0,r1,r2,r3,h,hw,by omega,by omega,hv,hc⟩
theorem Zil {a0 a1 a2 a3 b0 b1 b2 b3:Int} (ha:W4 a0 a1 a2 a3) (hb:W4 b0 b1 b2 b3) (hle:V b0 b1 b2 b3≤V a0 a1 a2 a3) :
  ∃ r0 r1 r2 r3,W4 r0 r1 r2 r3∧V r0 r1 r2 r3=V a0 a1 a2 a3-V b0 b1 b2 b3 ∧
   Hid (∀ w,Calls Tryz.prog 171 #[nv a0 a1 a2 a3,nv b0 b1 b2 b3] w fun e w'=>e=.returned (nv r0 r1 r2 r3)∧Below w.heap.size w w'):=by
 have v1:=V_bd ha
 have v2:=V_bd hb
 exact fix4 (by omega) (by omega) (fun _ _ _ _ hr=>⟨hr.1,hr.2 hle⟩) (fun w=>ZhH a0 a1 a2 a3 b0 b1 b2 b3 ha hb w)
theorem ZiY {n:Int} {f:FuncId} {args:Array Value} (h:∀w,Calls Tryz.prog f args w (Ret4 (RedR n) w)) :
  ∃ r0 r1 r2 r3,W4 r0 r1 r2 r3∧V r0 r1 r2 r3=n%57896044618658097711785492504343953926634992332820282019728792003956564819949 ∧
   Hid (∀ w,Calls Tryz.prog f args w fun e w'=>e=.returned (nv r0 r1 r2 r3)∧Below w.heap.size w w') :=
 fix4 (by omega) (by omega) (fun _ _ _ _ hr=>hr) h
theorem Zsl (a0 a1 a2 a3 b0 b1 b2 b3:Int) (ha:W4 a0 a1 a2 a3) (hb:W4 b0 b1 b2 b3) (w:World) :
  Calls Tryz.prog 149 #[nv a0 a1 a2 a3,nv b0 b1 b2 b3] w (Ret4 (RedR (V a0 a1 a2 a3+V b0 b1 b2 b3)) w):=by
 obtain⟨r0,r1,r2,r3,h,R0,h0,h1,R1,RC⟩:=ZlR ha hb
 obtain⟨g0,g1,g2,g3,G0,G1,GC⟩:=ZdH R0 h0 (by omega)
 rw[R1] at G1
 have HG:=Zq G1
 clear R1 G1 ha hb R0 h0 h1
 go_enter Tryz.func149,Tryz.ntmps149
 go_wp2_with fail
 refine(RC.out _).mono ?_
 rintro e w' ⟨rfl,hb⟩
 obtain⟨o1,n1,rfl⟩:=Zaf hb
 clear hb
 go_wp2_with fail
 refine(GC.out _).mono ?_
 rintro e w' ⟨rfl,hb⟩
 obtain⟨o2,n2,rfl⟩:=Zaf hb
 clear hb
 go_wp2_with fail
 refine bodyPost_ret (v:=nv g0 g1 g2 g3) (by simp[results,Tryz.results149,go_sem]) rfl ⟨g0,g1,g2,g3,⟨G0,HG.out⟩,rfl,?_⟩
 repeat (first | apply Zag | apply Zab | exact Below.refl _ _)
theorem w4_p:W4 18446744073709551597 18446744073709551615 18446744073709551615 9223372036854775807:=by unfold W4 Word;omega
theorem V_p:V 18446744073709551597 18446744073709551615 18446744073709551615 9223372036854775807=57896044618658097711785492504343953926634992332820282019728792003956564819949:=by unfold V;omega
theorem Zga (a0 a1 a2 a3 b0 b1 b2 b3:Int) (ha:W4 a0 a1 a2 a3) (hb:W4 b0 b1 b2 b3) (hp:V b0 b1 b2 b3≤57896044618658097711785492504343953926634992332820282019728792003956564819949) (w:World) :
  Calls Tryz.prog 150 #[nv a0 a1 a2 a3,nv b0 b1 b2 b3] w (Ret4 (RedR (V a0 a1 a2 a3-V b0 b1 b2 b3)) w):=by
 obtain⟨s0,s1,s2,s3,S0,S1,SC⟩:=Zil w4_p hb (by rw[V_p];exact hp)
 obtain⟨r0,r1,r2,r3,h,R0,h0,h1,R1,RC⟩:=ZlR ha S0
 obtain⟨g0,g1,g2,g3,G0,G1,GC⟩:=ZdH R0 h0 (by omega)
 rw[R1,S1,V_p] at G1
 have e:V a0 a1 a2 a3+(57896044618658097711785492504343953926634992332820282019728792003956564819949-V b0 b1 b2 b3)=(V a0 a1 a2 a3-V b0 b1 b2 b3)+57896044618658097711785492504343953926634992332820282019728792003956564819949:=by omega
 rw[e,Int.add_emod_right] at G1
 have HG:=Zq G1
 clear e R1 G1 ha hb R0 h0 h1 S0 S1 hp
 go_enter Tryz.func150,Tryz.ntmps150
 go_wp2_with fail
 generalize hW:World.alloc _ _=W1
 refine Za9 (fun w'=>∃ o d,w'=W1.plus o d) 8 0 (by kernel_rfl) (by kernel_rfl) (by intro c a d v w h;cases d<;>exact h) ⟨#[],_,rfl⟩ ?_
 subst hW
 simp only[List.take_succ_cons,List.take_zero,List.drop_succ_cons,List.drop_zero]
 refine ZaA ⟨_,#[],0,rfl⟩ (by rintro K _ ⟨o,d,rfl⟩ hK;go_simp;exact hK _ ⟨o,d,rfl⟩) ?_
 refine Zap (v:=nv 18446744073709551597 18446744073709551615 18446744073709551615 9223372036854775807) (by go_simp) (by rintro K _ ⟨o,d,rfl⟩ hK;go_simp;refine(Zmd _).mono ?_;rintro e w' ⟨rfl,hb⟩;obtain⟨o',n',rfl⟩:=Zaf hb;exact⟨_,rfl,hK _ ⟨_,_,World.plus_plus _ _ _ _ _⟩⟩) ?_
 refine ZaA ⟨_,#[],0,rfl⟩ (by rintro K _ ⟨o,d,rfl⟩ hK;go_simp;exact hK _ ⟨o,d,rfl⟩) ?_
 refine Zap (v:=nv s0 s1 s2 s3) (by go_simp) (by rintro K _ ⟨o,d,rfl⟩ hK;go_simp;refine(SC.out _).mono ?_;rintro e w' ⟨rfl,hb⟩;obtain⟨o',n',rfl⟩:=Zaf hb;exact⟨_,rfl,hK _ ⟨_,_,World.plus_plus _ _ _ _ _⟩⟩) ?_
 refine Zap (v:=.tuple #[nv r0 r1 r2 r3,.int .u64 h]) (by go_simp) (by rintro K _ ⟨o,d,rfl⟩ hK;go_simp;refine(RC.out _).mono ?_;rintro e w' ⟨rfl,hb⟩;obtain⟨o',n',rfl⟩:=Zaf hb;exact⟨_,rfl,hK _ ⟨_,_,World.plus_plus _ _ _ _ _⟩⟩) ?_
 iterate 2 (refine ZaA ⟨_,#[],0,rfl⟩ (by rintro K _ ⟨o,d,rfl⟩ hK;go_simp;exact hK _ ⟨o,d,rfl⟩) ?_)
 refine Zap (v:=nv g0 g1 g2 g3) (by go_simp) (by rintro K _ ⟨o,d,rfl⟩ hK;go_simp;refine(GC.out _).mono ?_;rintro e w' ⟨rfl,hb⟩;obtain⟨o',n',rfl⟩:=Zaf hb;exact⟨_,rfl,hK _ ⟨_,_,World.plus_plus _ _ _ _ _⟩⟩) ?_
 refine Zaw ?_
 rintro _ ⟨o2,n2,rfl⟩
 refine ZbR ?_
 go_wp2_with fail
 refine bodyPost_ret (v:=nv g0 g1 g2 g3) (by simp[results,Tryz.results150,go_sem]) rfl ⟨g0,g1,g2,g3,⟨G0,HG.out⟩,rfl,?_⟩
 repeat (first | apply Zag | apply Zab | exact Below.refl _ _)
def IsN (n:Nat) (a b c d:Int):Prop:=W4 a b c d∧V a b c d=n
theorem pint:(57896044618658097711785492504343953926634992332820282019728792003956564819949:Int)=((Fp.P:Nat):Int):=rfl
theorem Zhq {n:Nat} {a b c d:Int} (h:RedR n a b c d):IsN (n%Fp.P) a b c d:=⟨h.1,by rw[h.2,pint];exact(Int.natCast_emod n Fp.P).symm⟩
theorem ZfY {m n:Nat} {a0 a1 a2 a3 b0 b1 b2 b3:Int} (ha:IsN m a0 a1 a2 a3) (hb:IsN n b0 b1 b2 b3) :
  ∃ r0 r1 r2 r3,IsN (m*n%Fp.P) r0 r1 r2 r3∧Hid (∀ w,Calls Tryz.prog 125 #[nv a0 a1 a2 a3,nv b0 b1 b2 b3] w fun e w'=>e=.returned (nv r0 r1 r2 r3)∧Below w.heap.size w w'):=by
 obtain⟨r0,r1,r2,r3,h0,h1,hC⟩:=ZiY (n:=V a0 a1 a2 a3*V b0 b1 b2 b3) (fun w=>Zjc a0 a1 a2 a3 b0 b1 b2 b3 ha.1 hb.1 w)
 refine⟨r0,r1,r2,r3,Zhq ⟨h0,?_⟩,hC⟩
 rw[h1,ha.2,hb.2,Int.natCast_mul]
def InvR (A:Nat) (a0 a1 a2 a3:Int) (w:World) (bit:Value) (w':World):Prop :=
 ∃ (k:Nat) (r0 r1 r2 r3:Int) (o:Array Obj) (d:Nat),k≤255∧bit=.int .i64 ((k:Int)-1)∧IsN (Fp.pw A k) r0 r1 r2 r3 ∧
  w'=(((w.alloc (.cells #[.int .u64 a0,.int .u64 a1,.int .u64 a2,.int .u64 a3] 184)).alloc (.cells #[.int .u64 0,.int .u64 0,.int .u64 0,.int .u64 0] 184)).alloc (.cells #[.int .u64 r0,.int .u64 r1,.int .u64 r2,.int .u64 r3] 184)).plus o d
theorem ZjK (A:Nat) (a0 a1 a2 a3:Int) (ha:IsN A a0 a1 a2 a3) (w:World) :
  Calls Tryz.prog 127 #[nv a0 a1 a2 a3] w (Ret4 (IsN (A^Fp.E%Fp.P)) w):=by
 go_enter Tryz.func127,Tryz.ntmps127
 go_wp2_with fail
 go_loopw [4] (fun bit w'=>InvR A a0 a1 a2 a3 w bit w') (fun bit _=>(intOf bit+1).toNat)
 case atStart=>exact⟨255,1,0,0,0,#[],_,by decide,rfl,⟨⟨⟨by decide,by decide⟩,Zdx,Zdx,Zdx⟩,by rw[Fp.pw_top];rfl⟩,rfl⟩
 case round =>
  obtain⟨k,r0,r1,r2,r3,o,d,hk,rfl,hR,rfl⟩:=hrel
  rcases Nat.eq_zero_or_pos k with rfl | hpos
  ·rw[Fp.pw_bot] at hR
   go_wp2_with fail
   refine bodyPost_ret (v:=nv r0 r1 r2 r3) (by simp[results,Tryz.results127,go_sem]) rfl ⟨r0,r1,r2,r3,hR,rfl,?_⟩
   repeat (first | apply Zag | apply Zab | exact Below.refl _ _)
  ·obtain⟨j,rfl⟩:∃j,k=j+1:=⟨k-1,by omega⟩
   rw[show (((j+1:Nat):Int)-1)=(j:Int) by omega]
   obtain⟨s0,s1,s2,s3,S0,SC⟩:=ZfY hR hR
   obtain⟨t0,t1,t2,t3,T0,TC⟩:=ZfY S0 ha
   have hj0:(0:Int)≤j:=by omega
   have hj1:(j:Int)≤254:=by omega
   by_cases h4:j=4∨j=2
   ·rw[Fp.pw_sq A j (by omega) h4] at S0
    have HS:=Zq S0
    clear S0 T0 TC hR
    rcases h4 with rfl | rfl
    ·go_wp2_with (go_at_call 125;refine(SC.out _).mono ?_;rintro e w' ⟨rfl,hb⟩;obtain⟨o1,n1,rfl⟩:=Zaf hb;clear hb)
     go_roundw
     case rel=>exact⟨4,s0,s1,s2,s3,_,_,by decide,by go_num,HS.out,rfl⟩
     case measure=>simp[intOf]
    ·go_wp2_with (go_at_call 125;refine(SC.out _).mono ?_;rintro e w' ⟨rfl,hb⟩;obtain⟨o1,n1,rfl⟩:=Zaf hb;clear hb)
     go_roundw
     case rel=>exact⟨2,s0,s1,s2,s3,_,_,by decide,by go_num,HS.out,rfl⟩
     case measure=>simp[intOf]
   ·rw[Fp.pw_sqm A j (by omega) h4] at T0
    have HT:=Zq T0
    have e4:((j:Int) != 4)=true:=by rw[bne_iff_ne];omega
    have e2:((j:Int) != 2)=true:=by rw[bne_iff_ne];omega
    clear S0 T0 hR
    go_wp2_with fail
    refine(SC.out _).mono ?_
    rintro e w' ⟨rfl,hb⟩
    obtain⟨o1,n1,rfl⟩:=Zaf hb
    clear hb
    go_wp2_with fail
    refine(TC.out _).mono ?_
    rintro e w' ⟨rfl,hb⟩
    obtain⟨o2,n2,rfl⟩:=Zaf hb
    clear hb
    go_wp2_with fail
    go_roundw
    case rel=>exact⟨j,t0,t1,t2,t3,_,_,by omega,by go_num,HT.out,rfl⟩
    case measure=>simp[intOf]
def Byte (x:Int):Prop:=0≤x∧x<256
theorem Zdh (a b:Int) (k K:Nat) (hK:K=2^k) (ha:0≤a) (ha':a<K) (hb:0≤b) (hs:b*K<18446744073709551616) (hk:K<18446744073709551616):bits .or .u64 a (b*K)=a+b*K:=by
 obtain⟨n,rfl⟩:=Int.eq_ofNat_of_zero_le ha
 obtain⟨m,rfl⟩:=Int.eq_ofNat_of_zero_le hb
 have hn:n<K:=by omega
 have hm:m*K<18446744073709551616:=by rw[←Int.natCast_mul] at hs;omega
 have h:=bits_or_u64_nat n (m*K) (by omega) hm
 have e:n ||| m*K=n+m*K:=by
  subst hK
  rw[Nat.or_comm,Nat.mul_comm m,←Nat.two_pow_add_eq_or_of_lt hn,Nat.add_comm]
 rw[e] at h
 rw[←Int.natCast_mul,h];omega
theorem ZcV (x:Int) (h:Byte x):IntKind.u64.wrap x=x:=IntWalk.u64_in x ⟨h.1,by have:=h.2;omega⟩
theorem Ze3 (b off cap:Nat) (x0 x1 x2 x3 x4 x5 x6 x7:Int) (g0:Byte x0) (g1:Byte x1) (g2:Byte x2) (g3:Byte x3) (g4:Byte x4) (g5:Byte x5) (g6:Byte x6) (g7:Byte x7) (w:World)
  (c0:w.cell? ⟨b,off,none⟩=some (.int .u8 x0)) (c1:w.cell? ⟨b,off+1,none⟩=some (.int .u8 x1)) (c2:w.cell? ⟨b,off+2,none⟩=some (.int .u8 x2)) (c3:w.cell? ⟨b,off+3,none⟩=some (.int .u8 x3))
  (c4:w.cell? ⟨b,off+4,none⟩=some (.int .u8 x4)) (c5:w.cell? ⟨b,off+5,none⟩=some (.int .u8 x5)) (c6:w.cell? ⟨b,off+6,none⟩=some (.int .u8 x6)) (c7:w.cell? ⟨b,off+7,none⟩=some (.int .u8 x7)) :
  Calls Tryz.prog 155 #[.slice (some ⟨b,off,none⟩) 8 cap] w fun e w'=>e=.returned (.int .u64 (x0+x1*256+x2*65536+x3*16777216+x4*4294967296+x5*1099511627776+x6*281474976710656+x7*72057594037927936))∧Below w.heap.size w w':=by
 have k0:=ZcV x0 g0
 have k1:=ZcV x1 g1
 have k2:=ZcV x2 g2
 have k3:=ZcV x3 g3
 have k4:=ZcV x4 g4
 have k5:=ZcV x5 g5
 have k6:=ZcV x6 g6
 have k7:=ZcV x7 g7
 obtain⟨g0a,g0b⟩:=g0
 obtain⟨g1a,g1b⟩:=g1
 obtain⟨g2a,g2b⟩:=g2
 obtain⟨g3a,g3b⟩:=g3
 obtain⟨g4a,g4b⟩:=g4
 obtain⟨g5a,g5b⟩:=g5
 obtain⟨g6a,g6b⟩:=g6
 obtain⟨g7a,g7b⟩:=g7
 obtain⟨y0,hy0⟩:∃y,y=x0:=⟨_,rfl⟩
 obtain⟨z1,hz1⟩:∃z,z=x1*256:=⟨_,rfl⟩
 have s1:IntKind.u64.wrap (x1*256)=z1:=by rw[hz1];exact IntWalk.u64_in _ (by omega)
 obtain⟨y1,hy1⟩:∃y,y=x0+z1:=⟨_,rfl⟩
 have o1:bits .or .u64 x0 z1=y1:=by rw[hy1,hz1];exact Zdh x0 x1 8 256 (by decide) (by omega) (by omega) (by omega) (by omega) (by decide)
 obtain⟨z2,hz2⟩:∃z,z=x2*65536:=⟨_,rfl⟩
 have s2:IntKind.u64.wrap (x2*65536)=z2:=by rw[hz2];exact IntWalk.u64_in _ (by omega)
 obtain⟨y2,hy2⟩:∃y,y=y1+z2:=⟨_,rfl⟩
 have o2:bits .or .u64 y1 z2=y2:=by rw[hy2,hz2];exact Zdh y1 x2 16 65536 (by decide) (by omega) (by omega) (by omega) (by omega) (by decide)
 obtain⟨z3,hz3⟩:∃z,z=x3*16777216:=⟨_,rfl⟩
 have s3:IntKind.u64.wrap (x3*16777216)=z3:=by rw[hz3];exact IntWalk.u64_in _ (by omega)
 obtain⟨y3,hy3⟩:∃y,y=y2+z3:=⟨_,rfl⟩
 have o3:bits .or .u64 y2 z3=y3:=by rw[hy3,hz3];exact Zdh y2 x3 24 16777216 (by decide) (by omega) (by omega) (by omega) (by omega) (by decide)
 obtain⟨z4,hz4⟩:∃z,z=x4*4294967296:=⟨_,rfl⟩
 have s4:IntKind.u64.wrap (x4*4294967296)=z4:=by rw[hz4];exact IntWalk.u64_in _ (by omega)
 obtain⟨y4,hy4⟩:∃y,y=y3+z4:=⟨_,rfl⟩
 have o4:bits .or .u64 y3 z4=y4:=by rw[hy4,hz4];exact Zdh y3 x4 32 4294967296 (by decide) (by omega) (by omega) (by omega) (by omega) (by decide)
 obtain⟨z5,hz5⟩:∃z,z=x5*1099511627776:=⟨_,rfl⟩
 have s5:IntKind.u64.wrap (x5*1099511627776)=z5:=by rw[hz5];exact IntWalk.u64_in _ (by omega)
 obtain⟨y5,hy5⟩:∃y,y=y4+z5:=⟨_,rfl⟩
 have o5:bits .or .u64 y4 z5=y5:=by rw[hy5,hz5];exact Zdh y4 x5 40 1099511627776 (by decide) (by omega) (by omega) (by omega) (by omega) (by decide)
 obtain⟨z6,hz6⟩:∃z,z=x6*281474976710656:=⟨_,rfl⟩
 have s6:IntKind.u64.wrap (x6*281474976710656)=z6:=by rw[hz6];exact IntWalk.u64_in _ (by omega)
 obtain⟨y6,hy6⟩:∃y,y=y5+z6:=⟨_,rfl⟩
 have o6:bits .or .u64 y5 z6=y6:=by rw[hy6,hz6];exact Zdh y5 x6 48 281474976710656 (by decide) (by omega) (by omega) (by omega) (by omega) (by decide)
 obtain⟨z7,hz7⟩:∃z,z=x7*72057594037927936:=⟨_,rfl⟩
 have s7:IntKind.u64.wrap (x7*72057594037927936)=z7:=by rw[hz7];exact IntWalk.u64_in _ (by omega)
 obtain⟨y7,hy7⟩:∃y,y=y6+z7:=⟨_,rfl⟩
 have o7:bits .or .u64 y6 z7=y7:=by rw[hy7,hz7];exact Zdh y6 x7 56 72057594037927936 (by decide) (by omega) (by omega) (by omega) (by omega) (by decide)
 have Hy:Hid (y7=x0+x1*256+x2*65536+x3*16777216+x4*4294967296+x5*1099511627776+x6*281474976710656+x7*72057594037927936):=by show _=_;omega
 clear hz1 hy1 hz2 hy2 hz3 hy3 hz4 hy4 hz5 hy5 hz6 hy6 hz7 hy7 hy0 g0a g0b g1a g1b g2a g2b g3a g3b g4a g4b g5a g5b g6a g6b g7a g7b
 go_enter Tryz.func155,Tryz.ntmps155
 go_wp2_with fail
 refine Zet (fun w'=>w'=w.drew) (by kernel_rfl) (by kernel_rfl) rfl ?_
 iterate 47 (refine ZaA ⟨_,rfl⟩ (by rintro K _ rfl hK;go_simp;exact hK _ rfl) ?_)
 refine Zaw ?_
 rintro _ rfl
 go_wp2_with fail
 go_ret
 exact⟨congrArg (fun y=>Ending.returned (.int .u64 y)) Hy.out,(Below.refl _ _).drew⟩
def by8 (x:Int) (i:Nat):Int:=x/256^i%256
theorem Zes (b off cap:Nat) (x:Int) (u0 u1 u2 u3 u4 u5 u6 u7:Value) (w:World)
  (c0:w.cell? ⟨b,off,none⟩=some u0) (f0:w.frozen? ⟨b,off,none⟩=false)
  (c1:w.cell? ⟨b,off+1,none⟩=some u1) (f1:w.frozen? ⟨b,off+1,none⟩=false)
  (c2:w.cell? ⟨b,off+2,none⟩=some u2) (f2:w.frozen? ⟨b,off+2,none⟩=false)
  (c3:w.cell? ⟨b,off+3,none⟩=some u3) (f3:w.frozen? ⟨b,off+3,none⟩=false)
  (c4:w.cell? ⟨b,off+4,none⟩=some u4) (f4:w.frozen? ⟨b,off+4,none⟩=false)
  (c5:w.cell? ⟨b,off+5,none⟩=some u5) (f5:w.frozen? ⟨b,off+5,none⟩=false)
  (c6:w.cell? ⟨b,off+6,none⟩=some u6) (f6:w.frozen? ⟨b,off+6,none⟩=false)
  (c7:w.cell? ⟨b,off+7,none⟩=some u7) (f7:w.frozen? ⟨b,off+7,none⟩=false) :
  Calls Tryz.prog 151 #[.slice (some ⟨b,off,none⟩) 8 cap,.int .u64 x] w fun e w'=>e=.returned (.tuple #[])∧((((((((w.setCell ⟨b,off,none⟩ (.int .u8 (by8 x 0))).setCell ⟨b,off+1,none⟩ (.int .u8 (by8 x 1))).setCell ⟨b,off+2,none⟩ (.int .u8 (by8 x 2))).setCell ⟨b,off+3,none⟩ (.int .u8 (by8 x 3))).setCell ⟨b,off+4,none⟩ (.int .u8 (by8 x 4))).setCell ⟨b,off+5,none⟩ (.int .u8 (by8 x 5))).setCell ⟨b,off+6,none⟩ (.int .u8 (by8 x 6))).setCell ⟨b,off+7,none⟩ (.int .u8 (by8 x 7)))=w':=by
 have e0:IntKind.u8.wrap x=by8 x 0:=by rw[IntKind.wrap_u8];unfold by8;omega
 have e1:IntKind.u8.wrap (x/256)=by8 x 1:=by rw[IntKind.wrap_u8];unfold by8;omega
 have e2:IntKind.u8.wrap (x/65536)=by8 x 2:=by rw[IntKind.wrap_u8];unfold by8;omega
 have e3:IntKind.u8.wrap (x/16777216)=by8 x 3:=by rw[IntKind.wrap_u8];unfold by8;omega
 have e4:IntKind.u8.wrap (x/4294967296)=by8 x 4:=by rw[IntKind.wrap_u8];unfold by8;omega
 have e5:IntKind.u8.wrap (x/1099511627776)=by8 x 5:=by rw[IntKind.wrap_u8];unfold by8;omega
 have e6:IntKind.u8.wrap (x/281474976710656)=by8 x 6:=by rw[IntKind.wrap_u8];unfold by8;omega
 have e7:IntKind.u8.wrap (x/72057594037927936)=by8 x 7:=by rw[IntKind.wrap_u8];unfold by8;omega
 go_enter Tryz.func151,Tryz.ntmps151
 go_wp2
 go_end0
 exact⟨rfl,rfl⟩
def bt (n i:Nat):Int:=((n/256^i%256:Nat):Int)
def keyA (n:Nat):Array Value:=#[.int .u8 (bt n 0),.int .u8 (bt n 1),.int .u8 (bt n 2),.int .u8 (bt n 3),.int .u8 (bt n 4),.int .u8 (bt n 5),.int .u8 (bt n 6),.int .u8 (bt n 7),.int .u8 (bt n 8),.int .u8 (bt n 9),.int .u8 (bt n 10),.int .u8 (bt n 11),.int .u8 (bt n 12),.int .u8 (bt n 13),.int .u8 (bt n 14),.int .u8 (bt n 15),.int .u8 (bt n 16),.int .u8 (bt n 17),.int .u8 (bt n 18),.int .u8 (bt n 19),.int .u8 (bt n 20),.int .u8 (bt n 21),.int .u8 (bt n 22),.int .u8 (bt n 23),.int .u8 (bt n 24),.int .u8 (bt n 25),.int .u8 (bt n 26),.int .u8 (bt n 27),.int .u8 (bt n 28),.int .u8 (bt n 29),.int .u8 (bt n 30),.int .u8 (bt n 31)]
abbrev kv (n:Nat):Value:=.agg (keyA n)
@[go_sem] theorem keyA_size (n:Nat):(keyA n).size=32:=by simp[keyA]
@[go_sem] theorem ZkC (n:Nat):Zbg (keyA n)=true:=by simp[Zbg,keyA,Value.oneCell']
@[go_sem ↓] theorem Zlm (v:Value):Instr.loadAt 23 v=Zam 23 v:=rfl
@[go_sem] theorem Zjd (w:World) (n:Nat) (h1:w.isRow n=true) (h2:(w.rowOf n).size=32):(Zam 23 (.pointer (some ⟨n,0,none⟩))).run Tryz.prog w=.ok (.agg (w.rowOf n)) w:=ZaF w Tryz.underlying23 rfl (by kernel_rfl) n h1 h2
theorem Zav {fn:Func} {p:Tmp} {m:Nat} (h:fn.results=#[.cell p 23]) (w:World) (tmps:Array Value) (n:Nat) (hp:tmps.getD p undef=.pointer (some ⟨n,0,none⟩)) (h1:w.isRow n=true) (h2:w.rowOf n=keyA m):(results fn tmps).run Tryz.prog w=.ok (kv m) w :=
 ZaW w h Tryz.underlying23 rfl (by rw[keyA_size];kernel_rfl) tmps n hp h1 h2
theorem keyA_get (n i:Nat) (h:i<32):(keyA n)[i]?=some (.int .u8 (bt n i)):=by
 have:i=0∨i=1∨i=2∨i=3∨i=4∨i=5∨i=6∨i=7∨i=8∨i=9∨i=10∨i=11∨i=12∨i=13∨i=14∨i=15∨i=16∨i=17∨i=18∨i=19∨i=20∨i=21∨i=22∨i=23∨i=24∨i=25∨i=26∨i=27∨i=28∨i=29∨i=30∨i=31:=by omega
 rcases this with rfl | rfl | rfl | rfl | rfl | rfl | rfl | rfl | rfl | rfl | rfl | rfl | rfl | rfl | rfl | rfl | rfl | rfl | rfl | rfl | rfl | rfl | rfl | rfl | rfl | rfl | rfl | rfl | rfl | rfl | rfl | rfl<;>rfl
theorem ZaO (n i:Nat):Byte (bt n i):=by unfold Byte bt;omega
def wd (n k:Nat):Int:=((n/18446744073709551616^k%18446744073709551616:Nat):Int)
theorem wd_V (n:Nat) (h:n<115792089237316195423570985008687907853269984665640564039457584007913129639936):IsN n (wd n 0) (wd n 1) (wd n 2) (wd n 3):=by
 unfold IsN W4 Word V wd
 simp only[Nat.reducePow]
 omega
theorem Zji (n:Nat):bt n 0+bt n 1*256+bt n 2*65536+bt n 3*16777216+bt n 4*4294967296+bt n 5*1099511627776+bt n 6*281474976710656+bt n 7*72057594037927936=wd n 0:=by
 unfold bt wd
 simp only[Nat.reducePow]
 omega
theorem Zi6 (n:Nat):bt n 8+bt n 9*256+bt n 10*65536+bt n 11*16777216+bt n 12*4294967296+bt n 13*1099511627776+bt n 14*281474976710656+bt n 15*72057594037927936=wd n 1:=by
 unfold bt wd
 simp only[Nat.reducePow]
 omega
theorem Zjj (n:Nat):bt n 16+bt n 17*256+bt n 18*65536+bt n 19*16777216+bt n 20*4294967296+bt n 21*1099511627776+bt n 22*281474976710656+bt n 23*72057594037927936=wd n 2:=by
 unfold bt wd
 simp only[Nat.reducePow]
 omega
theorem Zjk (n:Nat):bt n 24+bt n 25*256+bt n 26*65536+bt n 27*16777216+bt n 28*4294967296+bt n 29*1099511627776+bt n 30*281474976710656+bt n 31*72057594037927936=wd n 3:=by
 unfold bt wd
 simp only[Nat.reducePow]
 omega
theorem Zoc (w:World) (C:Array Value) (t:TypeId) (ob:Obj) (o:Array Obj) (d i:Nat):(((w.alloc (.cells C t)).alloc ob).plus o d).cell? ⟨w.heap.size,i,none⟩=C[i]?:=by
 rw[World.cell?_plus _ _ _ _ _ (by simp;omega),World.cell?_alloc_past _ _ _ (by simp),World.cell?_alloc_at _ _ _ _ rfl]
theorem ZbQ (n:Nat) (hn:n<115792089237316195423570985008687907853269984665640564039457584007913129639936) :
  ∃ r0 r1 r2 r3,IsN (n%Fp.P) r0 r1 r2 r3∧Hid (∀ w,Calls Tryz.prog 126 #[kv n] w fun e w'=>e=.returned (nv r0 r1 r2 r3)∧Below w.heap.size w w'):=by
 have hw:=wd_V n hn
 obtain⟨g0,g1,g2,g3,G0,G1,GC⟩:=ZdH (h:=0) hw.1 (by decide) (by decide)
 refine⟨g0,g1,g2,g3,Zhq ⟨G0,by rw[G1,hw.2,Int.zero_mul,Int.add_zero]⟩,fun w=>?_⟩
 clear G0 G1 hw hn
 have hcell:∀(d:Nat) (o:Array Obj) (i:Nat),i<32→(((w.alloc (.cells (keyA n) 23)).alloc (.cells #[.int .u64 0,.int .u64 0,.int .u64 0,.int .u64 0] 184)).plus o d).cell? ⟨w.heap.size,i,none⟩=some (.int .u8 (bt n i)) :=
  fun d o i hi=>by rw[Zoc,keyA_get n i hi]
 have Hcell:=Zq hcell
 clear hcell
 go_enter Tryz.func126,Tryz.ntmps126
 go_wp2_with fail
 generalize hW:World.alloc _ _=W1
 refine Za9 (fun w'=>∃ o d,w'=W1.plus o d) 10 0 (by kernel_rfl) (by kernel_rfl) (by intro c a d v w h;cases d<;>exact h) ⟨#[],_,rfl⟩ ?_
 subst hW
 simp only[List.take_succ_cons,List.take_zero,List.drop_succ_cons,List.drop_zero]
 refine ZaA ⟨_,#[],0,rfl⟩ (by rintro K _ ⟨o,d,rfl⟩ hK;go_simp;exact hK _ ⟨o,d,rfl⟩) ?_
 refine Zap (v:=.int .u64 (wd n 0)) (by go_simp) (by
  rintro K _ ⟨o,d,rfl⟩ hK
  go_simp
  refine(Ze3 w.heap.size 0 _ (bt n 0) (bt n 1) (bt n 2) (bt n 3) (bt n 4) (bt n 5) (bt n 6) (bt n 7) (ZaO n 0) (ZaO n 1) (ZaO n 2) (ZaO n 3) (ZaO n 4) (ZaO n 5) (ZaO n 6) (ZaO n 7) _ (Hcell.out d o 0 (by decide)) (Hcell.out d o 1 (by decide)) (Hcell.out d o 2 (by decide)) (Hcell.out d o 3 (by decide)) (Hcell.out d o 4 (by decide)) (Hcell.out d o 5 (by decide)) (Hcell.out d o 6 (by decide)) (Hcell.out d o 7 (by decide))).mono ?_
  rintro e w' ⟨rfl,hb⟩
  rw[Zji]
  obtain⟨o',n',rfl⟩:=Zaf hb
  exact⟨_,rfl,hK _ ⟨_,_,World.plus_plus _ _ _ _ _⟩⟩) ?_
 refine ZaA ⟨_,#[],0,rfl⟩ (by rintro K _ ⟨o,d,rfl⟩ hK;go_simp;exact hK _ ⟨o,d,rfl⟩) ?_
 refine Zap (v:=.int .u64 (wd n 1)) (by go_simp) (by
  rintro K _ ⟨o,d,rfl⟩ hK
  go_simp
  refine(Ze3 w.heap.size 8 _ (bt n 8) (bt n 9) (bt n 10) (bt n 11) (bt n 12) (bt n 13) (bt n 14) (bt n 15) (ZaO n 8) (ZaO n 9) (ZaO n 10) (ZaO n 11) (ZaO n 12) (ZaO n 13) (ZaO n 14) (ZaO n 15) _ (Hcell.out d o 8 (by decide)) (Hcell.out d o 9 (by decide)) (Hcell.out d o 10 (by decide)) (Hcell.out d o 11 (by decide)) (Hcell.out d o 12 (by decide)) (Hcell.out d o 13 (by decide)) (Hcell.out d o 14 (by decide)) (Hcell.out d o 15 (by decide))).mono ?_
  rintro e w' ⟨rfl,hb⟩
  rw[Zi6]
  obtain⟨o',n',rfl⟩:=Zaf hb
  exact⟨_,rfl,hK _ ⟨_,_,World.plus_plus _ _ _ _ _⟩⟩) ?_
 refine ZaA ⟨_,#[],0,rfl⟩ (by rintro K _ ⟨o,d,rfl⟩ hK;go_simp;exact hK _ ⟨o,d,rfl⟩) ?_
 refine Zap (v:=.int .u64 (wd n 2)) (by go_simp) (by
  rintro K _ ⟨o,d,rfl⟩ hK
  go_simp
  refine(Ze3 w.heap.size 16 _ (bt n 16) (bt n 17) (bt n 18) (bt n 19) (bt n 20) (bt n 21) (bt n 22) (bt n 23) (ZaO n 16) (ZaO n 17) (ZaO n 18) (ZaO n 19) (ZaO n 20) (ZaO n 21) (ZaO n 22) (ZaO n 23) _ (Hcell.out d o 16 (by decide)) (Hcell.out d o 17 (by decide)) (Hcell.out d o 18 (by decide)) (Hcell.out d o 19 (by decide)) (Hcell.out d o 20 (by decide)) (Hcell.out d o 21 (by decide)) (Hcell.out d o 22 (by decide)) (Hcell.out d o 23 (by decide))).mono ?_
  rintro e w' ⟨rfl,hb⟩
  rw[Zjj]
  obtain⟨o',n',rfl⟩:=Zaf hb
  exact⟨_,rfl,hK _ ⟨_,_,World.plus_plus _ _ _ _ _⟩⟩) ?_
 refine ZaA ⟨_,#[],0,rfl⟩ (by rintro K _ ⟨o,d,rfl⟩ hK;go_simp;exact hK _ ⟨o,d,rfl⟩) ?_
 refine Zap (v:=.int .u64 (wd n 3)) (by go_simp) (by
  rintro K _ ⟨o,d,rfl⟩ hK
  go_simp
  refine(Ze3 w.heap.size 24 _ (bt n 24) (bt n 25) (bt n 26) (bt n 27) (bt n 28) (bt n 29) (bt n 30) (bt n 31) (ZaO n 24) (ZaO n 25) (ZaO n 26) (ZaO n 27) (ZaO n 28) (ZaO n 29) (ZaO n 30) (ZaO n 31) _ (Hcell.out d o 24 (by decide)) (Hcell.out d o 25 (by decide)) (Hcell.out d o 26 (by decide)) (Hcell.out d o 27 (by decide)) (Hcell.out d o 28 (by decide)) (Hcell.out d o 29 (by decide)) (Hcell.out d o 30 (by decide)) (Hcell.out d o 31 (by decide))).mono ?_
  rintro e w' ⟨rfl,hb⟩
  rw[Zjk]
  obtain⟨o',n',rfl⟩:=Zaf hb
  exact⟨_,rfl,hK _ ⟨_,_,World.plus_plus _ _ _ _ _⟩⟩) ?_
 refine ZaA ⟨_,#[],0,rfl⟩ (by rintro K _ ⟨o,d,rfl⟩ hK;go_simp;exact hK _ ⟨o,d,rfl⟩) ?_
 refine Zap (v:=nv g0 g1 g2 g3) (by go_simp) (by rintro K _ ⟨o,d,rfl⟩ hK;go_simp;refine(GC.out _).mono ?_;rintro e w' ⟨rfl,hb⟩;obtain⟨o',n',rfl⟩:=Zaf hb;exact⟨_,rfl,hK _ ⟨_,_,World.plus_plus _ _ _ _ _⟩⟩) ?_
 refine Zaw ?_
 rintro _ ⟨o2,n2,rfl⟩
 refine ZbR ?_
 go_wp2_with fail
 refine bodyPost_ret (v:=nv g0 g1 g2 g3) (by simp[results,Tryz.results126,go_sem]) rfl ⟨rfl,?_⟩
 repeat (first | apply Zag | apply Zab | exact Below.refl _ _)
theorem Zrl {n:Nat} {a b c d:Int} (h:IsN n a b c d):#[.int .u8 (by8 a 0),.int .u8 (by8 a 1),.int .u8 (by8 a 2),.int .u8 (by8 a 3),.int .u8 (by8 a 4),.int .u8 (by8 a 5),.int .u8 (by8 a 6),.int .u8 (by8 a 7),.int .u8 (by8 b 0),.int .u8 (by8 b 1),.int .u8 (by8 b 2),.int .u8 (by8 b 3),.int .u8 (by8 b 4),.int .u8 (by8 b 5),.int .u8 (by8 b 6),.int .u8 (by8 b 7),.int .u8 (by8 c 0),.int .u8 (by8 c 1),.int .u8 (by8 c 2),.int .u8 (by8 c 3),.int .u8 (by8 c 4),.int .u8 (by8 c 5),.int .u8 (by8 c 6),.int .u8 (by8 c 7),.int .u8 (by8 d 0),.int .u8 (by8 d 1),.int .u8 (by8 d 2),.int .u8 (by8 d 3),.int .u8 (by8 d 4),.int .u8 (by8 d 5),.int .u8 (by8 d 6),.int .u8 (by8 d 7)]=keyA n:=by
 have hlt:=V_bd h.1
 rw[h.2] at hlt
 obtain⟨hw0,hw1,hw2,hw3⟩:=ZsD h.1 (wd_V n (by omega)).1 (h.2.trans (wd_V n (by omega)).2.symm)
 have e0:by8 a 0=bt n 0:=by rw[hw0];unfold by8 bt wd;simp only[Int.reducePow,Nat.reducePow];omega
 have e1:by8 a 1=bt n 1:=by rw[hw0];unfold by8 bt wd;simp only[Int.reducePow,Nat.reducePow];omega
 have e2:by8 a 2=bt n 2:=by rw[hw0];unfold by8 bt wd;simp only[Int.reducePow,Nat.reducePow];omega
 have e3:by8 a 3=bt n 3:=by rw[hw0];unfold by8 bt wd;simp only[Int.reducePow,Nat.reducePow];omega
 have e4:by8 a 4=bt n 4:=by rw[hw0];unfold by8 bt wd;simp only[Int.reducePow,Nat.reducePow];omega
 have e5:by8 a 5=bt n 5:=by rw[hw0];unfold by8 bt wd;simp only[Int.reducePow,Nat.reducePow];omega
 have e6:by8 a 6=bt n 6:=by rw[hw0];unfold by8 bt wd;simp only[Int.reducePow,Nat.reducePow];omega
 have e7:by8 a 7=bt n 7:=by rw[hw0];unfold by8 bt wd;simp only[Int.reducePow,Nat.reducePow];omega
 have e8:by8 b 0=bt n 8:=by rw[hw1];unfold by8 bt wd;simp only[Int.reducePow,Nat.reducePow];omega
 have e9:by8 b 1=bt n 9:=by rw[hw1];unfold by8 bt wd;simp only[Int.reducePow,Nat.reducePow];omega
 have e10:by8 b 2=bt n 10:=by rw[hw1];unfold by8 bt wd;simp only[Int.reducePow,Nat.reducePow];omega
 have e11:by8 b 3=bt n 11:=by rw[hw1];unfold by8 bt wd;simp only[Int.reducePow,Nat.reducePow];omega
 have e12:by8 b 4=bt n 12:=by rw[hw1];unfold by8 bt wd;simp only[Int.reducePow,Nat.reducePow];omega
 have e13:by8 b 5=bt n 13:=by rw[hw1];unfold by8 bt wd;simp only[Int.reducePow,Nat.reducePow];omega
 have e14:by8 b 6=bt n 14:=by rw[hw1];unfold by8 bt wd;simp only[Int.reducePow,Nat.reducePow];omega
 have e15:by8 b 7=bt n 15:=by rw[hw1];unfold by8 bt wd;simp only[Int.reducePow,Nat.reducePow];omega
 have e16:by8 c 0=bt n 16:=by rw[hw2];unfold by8 bt wd;simp only[Int.reducePow,Nat.reducePow];omega
 have e17:by8 c 1=bt n 17:=by rw[hw2];unfold by8 bt wd;simp only[Int.reducePow,Nat.reducePow];omega
 have e18:by8 c 2=bt n 18:=by rw[hw2];unfold by8 bt wd;simp only[Int.reducePow,Nat.reducePow];omega
 have e19:by8 c 3=bt n 19:=by rw[hw2];unfold by8 bt wd;simp only[Int.reducePow,Nat.reducePow];omega
 have e20:by8 c 4=bt n 20:=by rw[hw2];unfold by8 bt wd;simp only[Int.reducePow,Nat.reducePow];omega
 have e21:by8 c 5=bt n 21:=by rw[hw2];unfold by8 bt wd;simp only[Int.reducePow,Nat.reducePow];omega
 have e22:by8 c 6=bt n 22:=by rw[hw2];unfold by8 bt wd;simp only[Int.reducePow,Nat.reducePow];omega
 have e23:by8 c 7=bt n 23:=by rw[hw2];unfold by8 bt wd;simp only[Int.reducePow,Nat.reducePow];omega
 have e24:by8 d 0=bt n 24:=by rw[hw3];unfold by8 bt wd;simp only[Int.reducePow,Nat.reducePow];omega
 have e25:by8 d 1=bt n 25:=by rw[hw3];unfold by8 bt wd;simp only[Int.reducePow,Nat.reducePow];omega
 have e26:by8 d 2=bt n 26:=by rw[hw3];unfold by8 bt wd;simp only[Int.reducePow,Nat.reducePow];omega
 have e27:by8 d 3=bt n 27:=by rw[hw3];unfold by8 bt wd;simp only[Int.reducePow,Nat.reducePow];omega
 have e28:by8 d 4=bt n 28:=by rw[hw3];unfold by8 bt wd;simp only[Int.reducePow,Nat.reducePow];omega
 have e29:by8 d 5=bt n 29:=by rw[hw3];unfold by8 bt wd;simp only[Int.reducePow,Nat.reducePow];omega
 have e30:by8 d 6=bt n 30:=by rw[hw3];unfold by8 bt wd;simp only[Int.reducePow,Nat.reducePow];omega
 have e31:by8 d 7=bt n 31:=by rw[hw3];unfold by8 bt wd;simp only[Int.reducePow,Nat.reducePow];omega
 unfold keyA
 rw[e0,e1,e2,e3,e4,e5,e6,e7,e8,e9,e10,e11,e12,e13,e14,e15,e16,e17,e18,e19,e20,e21,e22,e23,e24,e25,e26,e27,e28,e29,e30,e31]
theorem ZfP (n:Nat) (a b c d:Int) (h:IsN n a b c d) (w:World) :
  Calls Tryz.prog 124 #[nv a b c d] w fun e w'=>e=.returned (kv n)∧Below w.heap.size w w':=by
 have hk:=Zq (Zrl h)
 clear h
 go_enter Tryz.func124,Tryz.ntmps124
 go_wp2_with fail
 generalize hW:World.alloc _ _=W1
 refine ZaY (fun w'=>∃ o d,w'=W1.plus o d) 3 (by kernel_rfl) (by kernel_rfl) ⟨#[],_,rfl⟩ ?_
 subst hW
 simp only[List.take_succ_cons,List.take_zero,List.drop_succ_cons,List.drop_zero]
 iterate 3 (refine ZaA ⟨_,#[],0,rfl⟩ (by rintro K _ ⟨o,d,rfl⟩ hK;go_simp;exact hK _ ⟨o,d,rfl⟩) ?_)
 refine Zaw ?_
 rintro _ ⟨o2,n2,rfl⟩
 go_wp2_with fail
 refine(Zes _ 0 _ a _ _ _ _ _ _ _ _ _ (by go_simp;rfl) (by go_simp) (by go_simp;rfl) (by go_simp) (by go_simp;rfl) (by go_simp) (by go_simp;rfl) (by go_simp) (by go_simp;rfl) (by go_simp) (by go_simp;rfl) (by go_simp) (by go_simp;rfl) (by go_simp) (by go_simp;rfl) (by go_simp)).mono ?_
 rintro e w' ⟨rfl,rfl⟩
 go_wp2_with fail
 generalize hW:World.alloc (World.alloc _ _) _=W1
 refine ZaY (fun w'=>∃ o d,w'=W1.plus o d) 3 (by kernel_rfl) (by kernel_rfl) ⟨_,_,rfl⟩ ?_
 subst hW
 simp only[List.take_succ_cons,List.take_zero,List.drop_succ_cons,List.drop_zero]
 iterate 3 (refine ZaA ⟨_,#[],0,rfl⟩ (by rintro K _ ⟨o,d,rfl⟩ hK;go_simp;exact hK _ ⟨o,d,rfl⟩) ?_)
 refine Zaw ?_
 rintro _ ⟨o3,n3,rfl⟩
 go_wp2_with fail
 refine(Zes _ 8 _ b _ _ _ _ _ _ _ _ _ (by go_simp;rfl) (by go_simp) (by go_simp;rfl) (by go_simp) (by go_simp;rfl) (by go_simp) (by go_simp;rfl) (by go_simp) (by go_simp;rfl) (by go_simp) (by go_simp;rfl) (by go_simp) (by go_simp;rfl) (by go_simp) (by go_simp;rfl) (by go_simp)).mono ?_
 rintro e w' ⟨rfl,rfl⟩
 go_wp2_with fail
 generalize hW:World.alloc (World.alloc _ _) _=W1
 refine ZaY (fun w'=>∃ o d,w'=W1.plus o d) 3 (by kernel_rfl) (by kernel_rfl) ⟨_,_,rfl⟩ ?_
 subst hW
 simp only[List.take_succ_cons,List.take_zero,List.drop_succ_cons,List.drop_zero]
 iterate 3 (refine ZaA ⟨_,#[],0,rfl⟩ (by rintro K _ ⟨o,d,rfl⟩ hK;go_simp;exact hK _ ⟨o,d,rfl⟩) ?_)
 refine Zaw ?_
 rintro _ ⟨o4,n4,rfl⟩
 go_wp2_with fail
 refine(Zes _ 16 _ c _ _ _ _ _ _ _ _ _ (by go_simp;rfl) (by go_simp) (by go_simp;rfl) (by go_simp) (by go_simp;rfl) (by go_simp) (by go_simp;rfl) (by go_simp) (by go_simp;rfl) (by go_simp) (by go_simp;rfl) (by go_simp) (by go_simp;rfl) (by go_simp) (by go_simp;rfl) (by go_simp)).mono ?_
 rintro e w' ⟨rfl,rfl⟩
 go_wp2_with fail
 generalize hW:World.alloc (World.alloc _ _) _=W1
 refine ZaY (fun w'=>∃ o d,w'=W1.plus o d) 3 (by kernel_rfl) (by kernel_rfl) ⟨_,_,rfl⟩ ?_
 subst hW
 simp only[List.take_succ_cons,List.take_zero,List.drop_succ_cons,List.drop_zero]
 iterate 3 (refine ZaA ⟨_,#[],0,rfl⟩ (by rintro K _ ⟨o,d,rfl⟩ hK;go_simp;exact hK _ ⟨o,d,rfl⟩) ?_)
 refine Zaw ?_
 rintro _ ⟨o5,n5,rfl⟩
 go_wp2_with fail
 refine(Zes _ 24 _ d _ _ _ _ _ _ _ _ _ (by go_simp;rfl) (by go_simp) (by go_simp;rfl) (by go_simp) (by go_simp;rfl) (by go_simp) (by go_simp;rfl) (by go_simp) (by go_simp;rfl) (by go_simp) (by go_simp;rfl) (by go_simp) (by go_simp;rfl) (by go_simp) (by go_simp;rfl) (by go_simp)).mono ?_
 rintro e w' ⟨rfl,rfl⟩
 have hk':=hk.out
 go_wp2_with fail
 refine bodyPost_ret (v:=kv n) (Zav Tryz.results124 _ _ _ rfl (by go_simp) (by go_simp)) rfl ⟨rfl,?_⟩
 repeat (first | apply Zag | apply Zab | exact Below.refl _ _)
def keq (m n:Nat):Bool:=(List.range 32).all fun i=>bt m i==bt n i
@[go_sem] theorem ZkH (n:Nat):keq n n=true:=by simp[keq]
theorem ZvA {m n:Nat} (hm:m<115792089237316195423570985008687907853269984665640564039457584007913129639936) (hn:n<115792089237316195423570985008687907853269984665640564039457584007913129639936) (h:∀i,i<32→bt m i=bt n i):m=n:=by
 have e0:=Zji m;have e1:=Zi6 m;have e2:=Zjj m;have e3:=Zjk m
 rw[h 0 (by decide),h 1 (by decide),h 2 (by decide),h 3 (by decide),h 4 (by decide),h 5 (by decide),h 6 (by decide),h 7 (by decide),Zji] at e0
 rw[h 8 (by decide),h 9 (by decide),h 10 (by decide),h 11 (by decide),h 12 (by decide),h 13 (by decide),h 14 (by decide),h 15 (by decide),Zi6] at e1
 rw[h 16 (by decide),h 17 (by decide),h 18 (by decide),h 19 (by decide),h 20 (by decide),h 21 (by decide),h 22 (by decide),h 23 (by decide),Zjj] at e2
 rw[h 24 (by decide),h 25 (by decide),h 26 (by decide),h 27 (by decide),h 28 (by decide),h 29 (by decide),h 30 (by decide),h 31 (by decide),Zjk] at e3
 have a:=(wd_V m hm).2
 have b:=(wd_V n hn).2
 rw[←e0,←e1,←e2,←e3] at a
 omega
theorem ZrZ {m n:Nat} (hm:m<115792089237316195423570985008687907853269984665640564039457584007913129639936) (hn:n<115792089237316195423570985008687907853269984665640564039457584007913129639936):keq m n=true↔m=n:=by
 constructor
 ·intro h
  refine ZvA hm hn fun i hi=>?_
  have:=List.all_eq_true.1 h i (List.mem_range.2 hi)
  simpa using this
 ·rintro rfl;exact ZkH m
theorem Zie {m n:Nat} (hm:m<115792089237316195423570985008687907853269984665640564039457584007913129639936) (hn:n<115792089237316195423570985008687907853269984665640564039457584007913129639936) (h:m≠n):keq m n=false:=by
 rw[←Bool.not_eq_true];exact fun e=>h ((ZrZ hm hn).1 e)
theorem Zbj {P:Program} {e:TypeId} {k k':IntKind} (d:Nat) (he:P.underlying e=some (.int k')) (xs ys:Array Value) (f g:Nat→Int) (w:World):∀is:List Nat,
  (∀ i∈is,xs[i]?=some (.int k (f i))∧ys[i]?=some (.int k (g i)))→(Op.eqItems (d+1) e 1 xs ys is).run P w=.ok (is.all fun i=>f i==g i) w
 | [],_=>by simp[Op.eqItems]
 | i::is,h=>by
  obtain⟨h1,h2⟩:=h i (by simp)
  have hag:(isAgg e).run P w=.ok false w:=by unfold isAgg;rw[Sem.run_bind,run_underlying he w];simp
  have hp:∀(cs:Array Value) (v:Value),cs[i]?=some v→(part e cs (i*1)).run P w=.ok v w:=fun cs v hv=>by
   unfold part;rw[Sem.run_bind,hag];simp[hv]
  have ih:=Zbj d he xs ys f g w is fun j hj=>h j (by simp[hj])
  simp only[Op.eqItems,Sem.run_bind,hp xs _ h1,hp ys _ h2,Result.andThen_ok,run_equalIn_int w d e k k' (f i) (g i) he]
  cases hfg:(f i==g i)
  ·simp[hfg]
  ·simp[hfg,ih]
@[go_sem] theorem ZlT (m n:Nat) (w:World):(Op.equalIn 10000 23 (.agg (keyA m)) (.agg (keyA n))).run Tryz.prog w=.ok (keq m n) w:=by
 obtain⟨i,hi⟩:∃i,Tryz.prog.info? 5=some i:=Option.isSome_iff_exists.1 (by kernel_rfl)
 rw[run_equalIn_array w 9999 (keyA m) (keyA n) Tryz.underlying23 hi,show Tryz.prog.cellsOf 5=1 from by kernel_rfl]
 exact Zbj 9998 Tryz.underlying5 _ _ (bt m) (bt n) w _ fun j hj=>⟨keyA_get m j (List.mem_range.1 hj),keyA_get n j (List.mem_range.1 hj)⟩
@[go_sem] theorem Zjr (op:BinOp) (x y:Operand) (xs ys:Array Value) (w:World):(eqGuard op 23 x y (.agg xs) (.agg ys)).run Tryz.prog w=.ok () w:=run_eqGuard_agg w op 23 x y xs ys (by kernel_rfl)
theorem P_lt:Fp.P<115792089237316195423570985008687907853269984665640564039457584007913129639936:=by decide +kernel
theorem mod_lt (n:Nat):n%Fp.P<115792089237316195423570985008687907853269984665640564039457584007913129639936:=Nat.lt_trans (Nat.mod_lt _ Fp.P_pos) P_lt
theorem Zsx {n:Nat} {f:FuncId} {args:Array Value} (hn:n<115792089237316195423570985008687907853269984665640564039457584007913129639936) (h:∀w,Calls Tryz.prog f args w (Ret4 (IsN n) w)) :
  ∃ r0 r1 r2 r3,IsN n r0 r1 r2 r3∧Hid (∀ w,Calls Tryz.prog f args w fun e w'=>e=.returned (nv r0 r1 r2 r3)∧Below w.heap.size w w'):=by
 obtain⟨a,b,c,d,h0,h1,hC⟩:=fix4 (n:=n) (by omega) (by omega) (fun _ _ _ _ hr=>hr) h
 exact⟨a,b,c,d,⟨h0,h1⟩,hC⟩
theorem ZwG {m n:Nat} {a0 a1 a2 a3 b0 b1 b2 b3:Int} (ha:IsN m a0 a1 a2 a3) (hb:IsN n b0 b1 b2 b3) :
  ∃ r0 r1 r2 r3,IsN ((m+n)%Fp.P) r0 r1 r2 r3∧Hid (∀ w,Calls Tryz.prog 149 #[nv a0 a1 a2 a3,nv b0 b1 b2 b3] w fun e w'=>e=.returned (nv r0 r1 r2 r3)∧Below w.heap.size w w'):=by
 obtain⟨r0,r1,r2,r3,h0,h1,hC⟩:=ZiY (n:=V a0 a1 a2 a3+V b0 b1 b2 b3) (fun w=>Zsl a0 a1 a2 a3 b0 b1 b2 b3 ha.1 hb.1 w)
 refine⟨r0,r1,r2,r3,Zhq ⟨h0,?_⟩,hC⟩
 rw[h1,ha.2,hb.2,Int.natCast_add]
theorem ZhX {m n:Nat} {a0 a1 a2 a3 b0 b1 b2 b3:Int} (ha:IsN m a0 a1 a2 a3) (hb:IsN n b0 b1 b2 b3) (hn:n≤Fp.P) :
  ∃ r0 r1 r2 r3,IsN ((m+(Fp.P-n))%Fp.P) r0 r1 r2 r3∧Hid (∀ w,Calls Tryz.prog 150 #[nv a0 a1 a2 a3,nv b0 b1 b2 b3] w fun e w'=>e=.returned (nv r0 r1 r2 r3)∧Below w.heap.size w w'):=by
 obtain⟨r0,r1,r2,r3,h0,h1,hC⟩:=ZiY (n:=V a0 a1 a2 a3-V b0 b1 b2 b3) (fun w=>Zga a0 a1 a2 a3 b0 b1 b2 b3 ha.1 hb.1 (by rw[hb.2,pint];omega) w)
 refine⟨r0,r1,r2,r3,Zhq ⟨h0,?_⟩,hC⟩
 rw[h1,ha.2,hb.2,pint,show ((m+(Fp.P-n):Nat):Int)=((m:Int)-n)+(Fp.P:Nat) by omega,Int.add_emod_right]
theorem Zr8 (n:Nat) (hn:n<115792089237316195423570985008687907853269984665640564039457584007913129639936) (w:World) :
  Calls Tryz.prog 100 #[kv n] w fun e w'=>e=.returned (kv (n%Fp.P))∧Below w.heap.size w w':=by
 obtain⟨r0,r1,r2,r3,R,RC⟩:=ZbQ n hn
 clear hn
 go_enter Tryz.func100,Tryz.ntmps100
 go_wp2_with fail
 refine(RC.out _).mono ?_
 rintro e w' ⟨rfl,hb⟩
 obtain⟨o1,n1,rfl⟩:=Zaf hb
 clear hb
 go_wp2_with fail
 refine(ZfP _ r0 r1 r2 r3 R _).mono ?_
 rintro e w' ⟨rfl,hb⟩
 obtain⟨o2,n2,rfl⟩:=Zaf hb
 clear hb
 go_wp2_with fail
 refine bodyPost_ret (v:=kv (n%Fp.P)) (Zav Tryz.results100 _ _ _ rfl (by go_simp) (by go_simp)) rfl ⟨rfl,?_⟩
 repeat (first | apply Zag | apply Zab | exact Below.refl _ _)
theorem Zw8 (n:Nat) (hn:n<115792089237316195423570985008687907853269984665640564039457584007913129639936) (w:World) :
  Calls Tryz.prog 99 #[kv n] w fun e w'=>e=.returned (kv ((n%Fp.P)^Fp.E%Fp.P))∧Below w.heap.size w w':=by
 obtain⟨r0,r1,r2,r3,R,RC⟩:=ZbQ n hn
 obtain⟨s0,s1,s2,s3,S,SC⟩:=Zsx (mod_lt _) (fun w=>ZjK (n%Fp.P) r0 r1 r2 r3 R w)
 clear hn
 generalize hm:(n%Fp.P)^Fp.E%Fp.P=m at *
 clear hm
 go_enter Tryz.func99,Tryz.ntmps99
 go_wp2_with fail
 refine(RC.out _).mono ?_
 rintro e w' ⟨rfl,hb⟩
 obtain⟨o1,n1,rfl⟩:=Zaf hb
 clear hb
 go_wp2_with fail
 refine(SC.out _).mono ?_
 rintro e w' ⟨rfl,hb⟩
 obtain⟨o2,n2,rfl⟩:=Zaf hb
 clear hb
 go_wp2_with fail
 refine(ZfP _ s0 s1 s2 s3 S _).mono ?_
 rintro e w' ⟨rfl,hb⟩
 obtain⟨o3,n3,rfl⟩:=Zaf hb
 clear hb
 go_wp2_with fail
 refine bodyPost_ret (v:=kv (m)) (Zav Tryz.results99 _ _ _ rfl (by go_simp) (by go_simp)) rfl ⟨rfl,?_⟩
 repeat (first | apply Zag | apply Zab | exact Below.refl _ _)
theorem Zw3 (m n:Nat) (hm:m<115792089237316195423570985008687907853269984665640564039457584007913129639936) (hn:n<115792089237316195423570985008687907853269984665640564039457584007913129639936) (w:World) :
  Calls Tryz.prog 122 #[kv m,kv n] w fun e w'=>e=.returned (kv ((m%Fp.P+n%Fp.P)%Fp.P))∧Below w.heap.size w w':=by
 obtain⟨r0,r1,r2,r3,R,RC⟩:=ZbQ m hm
 obtain⟨s0,s1,s2,s3,S,SC⟩:=ZbQ n hn
 obtain⟨t0,t1,t2,t3,T,TC⟩:=ZwG R S
 clear hm hn
 generalize hk:(m%Fp.P+n%Fp.P)%Fp.P=k at *
 clear hk
 go_enter Tryz.func122,Tryz.ntmps122
 go_wp2_with fail
 generalize hW:World.alloc _ _=W1
 refine Za9 (fun w'=>∃ o d,w'=W1.plus o d) 6 0 (by kernel_rfl) (by kernel_rfl) (by intro c a d v w h;cases d<;>exact h) ⟨#[],_,rfl⟩ ?_
 subst hW
 simp only[List.take_succ_cons,List.take_zero,List.drop_succ_cons,List.drop_zero]
 refine ZaA ⟨_,#[],0,rfl⟩ (by rintro K _ ⟨o,d,rfl⟩ hK;go_simp;exact hK _ ⟨o,d,rfl⟩) ?_
 refine Zap (v:=nv r0 r1 r2 r3) (by go_simp) (by rintro K _ ⟨o,d,rfl⟩ hK;go_simp;refine(RC.out _).mono ?_;rintro e w' ⟨rfl,hb⟩;obtain⟨o',n',rfl⟩:=Zaf hb;exact⟨_,rfl,hK _ ⟨_,_,World.plus_plus _ _ _ _ _⟩⟩) ?_
 refine ZaA ⟨_,#[],0,rfl⟩ (by rintro K _ ⟨o,d,rfl⟩ hK;go_simp;exact hK _ ⟨o,d,rfl⟩) ?_
 refine Zap (v:=nv s0 s1 s2 s3) (by go_simp) (by rintro K _ ⟨o,d,rfl⟩ hK;go_simp;refine(SC.out _).mono ?_;rintro e w' ⟨rfl,hb⟩;obtain⟨o',n',rfl⟩:=Zaf hb;exact⟨_,rfl,hK _ ⟨_,_,World.plus_plus _ _ _ _ _⟩⟩) ?_
 refine Zap (v:=nv t0 t1 t2 t3) (by go_simp) (by rintro K _ ⟨o,d,rfl⟩ hK;go_simp;refine(TC.out _).mono ?_;rintro e w' ⟨rfl,hb⟩;obtain⟨o',n',rfl⟩:=Zaf hb;exact⟨_,rfl,hK _ ⟨_,_,World.plus_plus _ _ _ _ _⟩⟩) ?_
 refine Zap (v:=kv k) (by go_simp) (by rintro K _ ⟨o,d,rfl⟩ hK;go_simp;refine(ZfP _ t0 t1 t2 t3 T _).mono ?_;rintro e w' ⟨rfl,hb⟩;obtain⟨o',n',rfl⟩:=Zaf hb;exact⟨_,rfl,hK _ ⟨_,_,World.plus_plus _ _ _ _ _⟩⟩) ?_
 refine Zaw ?_
 rintro _ ⟨o2,n2,rfl⟩
 refine ZbR ?_
 go_wp2_with fail
 refine bodyPost_ret (v:=kv (k)) (Zav Tryz.results122 _ _ _ rfl (by go_simp) (by go_simp)) rfl ⟨rfl,?_⟩
 repeat (first | apply Zag | apply Zab | exact Below.refl _ _)
theorem ZwH (m n:Nat) (hm:m<115792089237316195423570985008687907853269984665640564039457584007913129639936) (hn:n<115792089237316195423570985008687907853269984665640564039457584007913129639936) (w:World) :
  Calls Tryz.prog 123 #[kv m,kv n] w fun e w'=>e=.returned (kv ((m%Fp.P+(Fp.P-n%Fp.P))%Fp.P))∧Below w.heap.size w w':=by
 obtain⟨r0,r1,r2,r3,R,RC⟩:=ZbQ m hm
 obtain⟨s0,s1,s2,s3,S,SC⟩:=ZbQ n hn
 obtain⟨t0,t1,t2,t3,T,TC⟩:=ZhX R S (Nat.le_of_lt (Nat.mod_lt _ Fp.P_pos))
 clear hm hn
 generalize hk:(m%Fp.P+(Fp.P-n%Fp.P))%Fp.P=k at *
 clear hk
 go_enter Tryz.func123,Tryz.ntmps123
 go_wp2_with fail
 generalize hW:World.alloc _ _=W1
 refine Za9 (fun w'=>∃ o d,w'=W1.plus o d) 6 0 (by kernel_rfl) (by kernel_rfl) (by intro c a d v w h;cases d<;>exact h) ⟨#[],_,rfl⟩ ?_
 subst hW
 simp only[List.take_succ_cons,List.take_zero,List.drop_succ_cons,List.drop_zero]
 refine ZaA ⟨_,#[],0,rfl⟩ (by rintro K _ ⟨o,d,rfl⟩ hK;go_simp;exact hK _ ⟨o,d,rfl⟩) ?_
 refine Zap (v:=nv r0 r1 r2 r3) (by go_simp) (by rintro K _ ⟨o,d,rfl⟩ hK;go_simp;refine(RC.out _).mono ?_;rintro e w' ⟨rfl,hb⟩;obtain⟨o',n',rfl⟩:=Zaf hb;exact⟨_,rfl,hK _ ⟨_,_,World.plus_plus _ _ _ _ _⟩⟩) ?_
 refine ZaA ⟨_,#[],0,rfl⟩ (by rintro K _ ⟨o,d,rfl⟩ hK;go_simp;exact hK _ ⟨o,d,rfl⟩) ?_
 refine Zap (v:=nv s0 s1 s2 s3) (by go_simp) (by rintro K _ ⟨o,d,rfl⟩ hK;go_simp;refine(SC.out _).mono ?_;rintro e w' ⟨rfl,hb⟩;obtain⟨o',n',rfl⟩:=Zaf hb;exact⟨_,rfl,hK _ ⟨_,_,World.plus_plus _ _ _ _ _⟩⟩) ?_
 refine Zap (v:=nv t0 t1 t2 t3) (by go_simp) (by rintro K _ ⟨o,d,rfl⟩ hK;go_simp;refine(TC.out _).mono ?_;rintro e w' ⟨rfl,hb⟩;obtain⟨o',n',rfl⟩:=Zaf hb;exact⟨_,rfl,hK _ ⟨_,_,World.plus_plus _ _ _ _ _⟩⟩) ?_
 refine Zap (v:=kv k) (by go_simp) (by rintro K _ ⟨o,d,rfl⟩ hK;go_simp;refine(ZfP _ t0 t1 t2 t3 T _).mono ?_;rintro e w' ⟨rfl,hb⟩;obtain⟨o',n',rfl⟩:=Zaf hb;exact⟨_,rfl,hK _ ⟨_,_,World.plus_plus _ _ _ _ _⟩⟩) ?_
 refine Zaw ?_
 rintro _ ⟨o2,n2,rfl⟩
 refine ZbR ?_
 go_wp2_with fail
 refine bodyPost_ret (v:=kv (k)) (Zav Tryz.results123 _ _ _ rfl (by go_simp) (by go_simp)) rfl ⟨rfl,?_⟩
 repeat (first | apply Zag | apply Zab | exact Below.refl _ _)
theorem ZwO (m n:Nat) (hm:m<115792089237316195423570985008687907853269984665640564039457584007913129639936) (hn:n<115792089237316195423570985008687907853269984665640564039457584007913129639936) (w:World) :
  Calls Tryz.prog 98 #[kv m,kv n] w fun e w'=>e=.returned (kv ((m%Fp.P)*(n%Fp.P)%Fp.P))∧Below w.heap.size w w':=by
 obtain⟨r0,r1,r2,r3,R,RC⟩:=ZbQ m hm
 obtain⟨s0,s1,s2,s3,S,SC⟩:=ZbQ n hn
 obtain⟨t0,t1,t2,t3,T,TC⟩:=ZfY R S
 clear hm hn
 generalize hk:(m%Fp.P)*(n%Fp.P)%Fp.P=k at *
 clear hk
 go_enter Tryz.func98,Tryz.ntmps98
 go_wp2_with fail
 generalize hW:World.alloc _ _=W1
 refine Za9 (fun w'=>∃ o d,w'=W1.plus o d) 6 0 (by kernel_rfl) (by kernel_rfl) (by intro c a d v w h;cases d<;>exact h) ⟨#[],_,rfl⟩ ?_
 subst hW
 simp only[List.take_succ_cons,List.take_zero,List.drop_succ_cons,List.drop_zero]
 refine ZaA ⟨_,#[],0,rfl⟩ (by rintro K _ ⟨o,d,rfl⟩ hK;go_simp;exact hK _ ⟨o,d,rfl⟩) ?_
 refine Zap (v:=nv r0 r1 r2 r3) (by go_simp) (by rintro K _ ⟨o,d,rfl⟩ hK;go_simp;refine(RC.out _).mono ?_;rintro e w' ⟨rfl,hb⟩;obtain⟨o',n',rfl⟩:=Zaf hb;exact⟨_,rfl,hK _ ⟨_,_,World.plus_plus _ _ _ _ _⟩⟩) ?_
 refine ZaA ⟨_,#[],0,rfl⟩ (by rintro K _ ⟨o,d,rfl⟩ hK;go_simp;exact hK _ ⟨o,d,rfl⟩) ?_
 refine Zap (v:=nv s0 s1 s2 s3) (by go_simp) (by rintro K _ ⟨o,d,rfl⟩ hK;go_simp;refine(SC.out _).mono ?_;rintro e w' ⟨rfl,hb⟩;obtain⟨o',n',rfl⟩:=Zaf hb;exact⟨_,rfl,hK _ ⟨_,_,World.plus_plus _ _ _ _ _⟩⟩) ?_
 refine Zap (v:=nv t0 t1 t2 t3) (by go_simp) (by rintro K _ ⟨o,d,rfl⟩ hK;go_simp;refine(TC.out _).mono ?_;rintro e w' ⟨rfl,hb⟩;obtain⟨o',n',rfl⟩:=Zaf hb;exact⟨_,rfl,hK _ ⟨_,_,World.plus_plus _ _ _ _ _⟩⟩) ?_
 refine Zap (v:=kv k) (by go_simp) (by rintro K _ ⟨o,d,rfl⟩ hK;go_simp;refine(ZfP _ t0 t1 t2 t3 T _).mono ?_;rintro e w' ⟨rfl,hb⟩;obtain⟨o',n',rfl⟩:=Zaf hb;exact⟨_,rfl,hK _ ⟨_,_,World.plus_plus _ _ _ _ _⟩⟩) ?_
 refine Zaw ?_
 rintro _ ⟨o2,n2,rfl⟩
 refine ZbR ?_
 go_wp2_with fail
 refine bodyPost_ret (v:=kv (k)) (Zav Tryz.results98 _ _ _ rfl (by go_simp) (by go_simp)) rfl ⟨rfl,?_⟩
 repeat (first | apply Zag | apply Zab | exact Below.refl _ _)
theorem Za3 (x:Nat) (h:x<256):#[.int .u8 (x:Int),.int .u8 0,.int .u8 0,.int .u8 0,.int .u8 0,.int .u8 0,.int .u8 0,.int .u8 0,.int .u8 0,.int .u8 0,.int .u8 0,.int .u8 0,.int .u8 0,.int .u8 0,.int .u8 0,.int .u8 0,.int .u8 0,.int .u8 0,.int .u8 0,.int .u8 0,.int .u8 0,.int .u8 0,.int .u8 0,.int .u8 0,.int .u8 0,.int .u8 0,.int .u8 0,.int .u8 0,.int .u8 0,.int .u8 0,.int .u8 0,.int .u8 0]=keyA x:=by
 have e0:bt x 0=x:=by unfold bt;omega
 have e1:bt x 1=0:=by unfold bt;simp only[Nat.reducePow];omega
 have e2:bt x 2=0:=by unfold bt;simp only[Nat.reducePow];omega
 have e3:bt x 3=0:=by unfold bt;simp only[Nat.reducePow];omega
 have e4:bt x 4=0:=by unfold bt;simp only[Nat.reducePow];omega
 have e5:bt x 5=0:=by unfold bt;simp only[Nat.reducePow];omega
 have e6:bt x 6=0:=by unfold bt;simp only[Nat.reducePow];omega
 have e7:bt x 7=0:=by unfold bt;simp only[Nat.reducePow];omega
 have e8:bt x 8=0:=by unfold bt;simp only[Nat.reducePow];omega
 have e9:bt x 9=0:=by unfold bt;simp only[Nat.reducePow];omega
 have e10:bt x 10=0:=by unfold bt;simp only[Nat.reducePow];omega
 have e11:bt x 11=0:=by unfold bt;simp only[Nat.reducePow];omega
 have e12:bt x 12=0:=by unfold bt;simp only[Nat.reducePow];omega
 have e13:bt x 13=0:=by unfold bt;simp only[Nat.reducePow];omega
 have e14:bt x 14=0:=by unfold bt;simp only[Nat.reducePow];omega
 have e15:bt x 15=0:=by unfold bt;simp only[Nat.reducePow];omega
 have e16:bt x 16=0:=by unfold bt;simp only[Nat.reducePow];omega
 have e17:bt x 17=0:=by unfold bt;simp only[Nat.reducePow];omega
 have e18:bt x 18=0:=by unfold bt;simp only[Nat.reducePow];omega
 have e19:bt x 19=0:=by unfold bt;simp only[Nat.reducePow];omega
 have e20:bt x 20=0:=by unfold bt;simp only[Nat.reducePow];omega
 have e21:bt x 21=0:=by unfold bt;simp only[Nat.reducePow];omega
 have e22:bt x 22=0:=by unfold bt;simp only[Nat.reducePow];omega
 have e23:bt x 23=0:=by unfold bt;simp only[Nat.reducePow];omega
 have e24:bt x 24=0:=by unfold bt;simp only[Nat.reducePow];omega
 have e25:bt x 25=0:=by unfold bt;simp only[Nat.reducePow];omega
 have e26:bt x 26=0:=by unfold bt;simp only[Nat.reducePow];omega
 have e27:bt x 27=0:=by unfold bt;simp only[Nat.reducePow];omega
 have e28:bt x 28=0:=by unfold bt;simp only[Nat.reducePow];omega
 have e29:bt x 29=0:=by unfold bt;simp only[Nat.reducePow];omega
 have e30:bt x 30=0:=by unfold bt;simp only[Nat.reducePow];omega
 have e31:bt x 31=0:=by unfold bt;simp only[Nat.reducePow];omega
 unfold keyA
 rw[e0,e1,e2,e3,e4,e5,e6,e7,e8,e9,e10,e11,e12,e13,e14,e15,e16,e17,e18,e19,e20,e21,e22,e23,e24,e25,e26,e27,e28,e29,e30,e31]
theorem ZwK (m n:Nat) (hm:m<115792089237316195423570985008687907853269984665640564039457584007913129639936) (hn:n<115792089237316195423570985008687907853269984665640564039457584007913129639936) (w:World):Calls Tryz.prog 122 #[kv m,kv n] w fun e w'=>e=.returned (kv ((m+n)%Fp.P))∧Below w.heap.size w w':=by
 rw[Nat.add_mod];exact Zw3 m n hm hn w
theorem ZwL (m n:Nat) (hm:m<115792089237316195423570985008687907853269984665640564039457584007913129639936) (hn:n<115792089237316195423570985008687907853269984665640564039457584007913129639936) (w:World):Calls Tryz.prog 98 #[kv m,kv n] w fun e w'=>e=.returned (kv (m*n%Fp.P))∧Below w.heap.size w w':=by
 rw[Nat.mul_mod];exact ZwO m n hm hn w
theorem Zw1 (n:Nat) (hn:n<115792089237316195423570985008687907853269984665640564039457584007913129639936) (w:World):Calls Tryz.prog 99 #[kv n] w fun e w'=>e=.returned (kv (n^Fp.E%Fp.P))∧Below w.heap.size w w':=by
 rw[←Fp.pow_mod];exact Zw8 n hn w
theorem ZmR (m n k:Nat) (hm:m<115792089237316195423570985008687907853269984665640564039457584007913129639936) (hn:n<115792089237316195423570985008687907853269984665640564039457584007913129639936) (hk:(m+n)%Fp.P=k) (w:World):Calls Tryz.prog 122 #[kv m,kv n] w fun e w'=>e=.returned (kv k)∧Below w.heap.size w w':=by
 subst hk;exact ZwK m n hm hn w
theorem Zhv (m n k:Nat) (hm:m<115792089237316195423570985008687907853269984665640564039457584007913129639936) (hn:n<115792089237316195423570985008687907853269984665640564039457584007913129639936) (hk:m*n%Fp.P=k) (w:World):Calls Tryz.prog 98 #[kv m,kv n] w fun e w'=>e=.returned (kv k)∧Below w.heap.size w w':=by
 subst hk;exact ZwL m n hm hn w
theorem ZmU (m n k:Nat) (hm:m<115792089237316195423570985008687907853269984665640564039457584007913129639936) (hn:n<115792089237316195423570985008687907853269984665640564039457584007913129639936) (hk:(m%Fp.P+(Fp.P-n%Fp.P))%Fp.P=k) (w:World):Calls Tryz.prog 123 #[kv m,kv n] w fun e w'=>e=.returned (kv k)∧Below w.heap.size w w':=by
 subst hk;exact ZwH m n hm hn w
theorem Zvz (n k:Nat) (hn:n<115792089237316195423570985008687907853269984665640564039457584007913129639936) (hk:n^Fp.E%Fp.P=k) (w:World):Calls Tryz.prog 99 #[kv n] w fun e w'=>e=.returned (kv k)∧Below w.heap.size w w':=by
 subst hk;exact Zw1 n hn w
theorem Zrn (n k:Nat) (hn:n<115792089237316195423570985008687907853269984665640564039457584007913129639936) (hk:n%Fp.P=k) (w:World):Calls Tryz.prog 100 #[kv n] w fun e w'=>e=.returned (kv k)∧Below w.heap.size w w':=by
 subst hk;exact Zr8 n hn w
def ZaD (x z:Nat):Array Value:=keyA x++keyA z
abbrev fv (x z:Nat):Value:=.agg (ZaD x z)
@[go_sem] theorem Zc7 (x z:Nat):(ZaD x z).size=64:=by simp[ZaD,keyA_size]
theorem Zk6 (x z i:Nat) (h:i<32):(ZaD x z)[i]?=some (.int .u8 (bt x i)):=by
 unfold ZaD;rw[Array.getElem?_append_left (by rw[keyA_size];exact h),keyA_get x i h]
theorem Zly (x z i:Nat) (h:i<32):(ZaD x z)[32+i]?=some (.int .u8 (bt z i)):=by
 unfold ZaD;rw[Array.getElem?_append_right (by rw[keyA_size];omega),keyA_size,Nat.add_sub_cancel_left,keyA_get z i h]
@[go_sem] theorem ZuX (x z:Nat):Zbg (ZaD x z)=true:=by
 have h1:=ZkC x;have h2:=ZkC z
 unfold Zbg at *
 unfold ZaD
 rw[Array.all_append,h1,h2];rfl
def lo (a:Array Value):Array Value:=a.extract 0 32
def hi (a:Array Value):Array Value:=a.extract 32 64
@[go_sem] theorem Zwx (x z:Nat):lo (ZaD x z)=keyA x:=by
 unfold lo ZaD
 rw[Array.extract_append,keyA_size]
 have:(keyA x).extract 0 32=keyA x:=by
  have h:=Array.extract_size (xs:=keyA x);rwa [keyA_size] at h
 rw[this];simp
@[go_sem] theorem Zxc (x z:Nat):hi (ZaD x z)=keyA z:=by
 unfold hi ZaD
 rw[Array.extract_append,keyA_size]
 have:(keyA z).extract 0 32=keyA z:=by
  have h:=Array.extract_size (xs:=keyA z);rwa [keyA_size] at h
 simp[this,keyA_size]
theorem ZkP {c:Array Value} {x z:Nat} (hs:c.size=64) (h0:∀i,i<32→c[i]?=some (.int .u8 (bt x i))) (h1:∀i,i<32→c[32+i]?=some (.int .u8 (bt z i))):c=ZaD x z:=by
 apply Array.ext_getElem?
 intro i
 by_cases hi:i<32
 ·rw[h0 i hi,Zk6 x z i hi]
 ·by_cases hj:i<64
  ·obtain⟨j,rfl⟩:∃j,i=32+j:=⟨i-32,by omega⟩
   rw[h1 j (by omega),Zly x z j (by omega)]
  ·rw[Array.getElem?_eq_none (by omega),Array.getElem?_eq_none (by rw[Zc7];omega)]
theorem Zi1 {w:World} {n:Nat} {c:Array Value} {t:TypeId} (h:w.heap[n]?=some (.cells c t (0,0))) (o k:Nat):w.rangeAt n o (c.extract o (o+k)).toList:=fun j v hv=>by
 rw[cell_of_row w n (o+j) c t _ h]
 simp only[Array.getElem?_toList,Array.getElem?_extract] at hv
 split at hv
 ·exact hv
 ·cases hv
theorem ZdW (w:World) (n o:Nat) (h1:w.isRow n=true) (h2:(w.rowOf n).size=64) (ho:o+32≤64):(Zam 23 (.pointer (some ⟨n,o,none⟩))).run Tryz.prog w=.ok (.agg ((w.rowOf n).extract o (o+32))) w:=by
 obtain⟨t,ht⟩:=World.isRow_spec h1
 have:=run_loadAt_mid (P:=Tryz.prog) w n o 23 _ _ (Zi1 ht o 32) Tryz.underlying23 rfl (by
  rw[show ((w.rowOf n).extract o (o+32)).toList.length=32 by simp;omega];kernel_rfl)
 rw[Array.toArray_toList] at this
 exact this
@[go_sem] theorem Zn1 (w:World) (n:Nat) (h1:w.isRow n=true) (h2:(w.rowOf n).size=64):(Zam 23 (.pointer (some ⟨n,0,none⟩))).run Tryz.prog w=.ok (.agg (lo (w.rowOf n))) w:=ZdW w n 0 h1 h2 (by decide)
@[go_sem] theorem Zn4 (w:World) (n:Nat) (h1:w.isRow n=true) (h2:(w.rowOf n).size=64):(Zam 23 (.pointer (some ⟨n,32,none⟩))).run Tryz.prog w=.ok (.agg (hi (w.rowOf n))) w:=ZdW w n 32 h1 h2 (by decide)
@[go_sem ↓] theorem ZrH (v:Value):Instr.loadAt 148 v=Zam 148 v:=rfl
@[go_sem] theorem Zqj (w:World) (n:Nat) (h1:w.isRow n=true) (h2:(w.rowOf n).size=64):(Zam 148 (.pointer (some ⟨n,0,none⟩))).run Tryz.prog w=.ok (.agg (w.rowOf n)) w:=ZaF w Tryz.underlying148 rfl (by kernel_rfl) n h1 h2
theorem ZeN {fn:Func} {p:Tmp} {x z:Nat} (h:fn.results=#[.cell p 148]) (w:World) (tmps:Array Value) (n:Nat) (hp:tmps.getD p undef=.pointer (some ⟨n,0,none⟩)) (h1:w.isRow n=true) (h2:w.rowOf n=ZaD x z):(results fn tmps).run Tryz.prog w=.ok (fv x z) w :=
 ZaW w h Tryz.underlying148 rfl (by rw[Zc7];kernel_rfl) tmps n hp h1 h2
theorem ZaR {fn:Func} {p p':Tmp} {m:Nat} {v:Value} (h:fn.results=#[.cell p 23,.tmp p']) (w:World) (tmps:Array Value) (n:Nat) (hp:tmps.getD p undef=.pointer (some ⟨n,0,none⟩)) (h1:w.isRow n=true) (h2:w.rowOf n=keyA m) (hp':tmps.getD p' undef=v) :
  (results fn tmps).run Tryz.prog w=.ok (.tuple #[kv m,v]) w :=
 ZbH w h Tryz.underlying23 rfl (by rw[keyA_size];kernel_rfl) tmps n hp h1 h2 hp'
def bld (t:TypeId) (ps:Array (Nat×Value)):Sem Value:=Instr.build t ps
@[go_sem ↓] theorem ZmN (ps:Array (Nat×Value)):Instr.build 23 ps=bld 23 ps:=rfl
@[go_sem ↓] theorem Zt1 (ps:Array (Nat×Value)):Instr.build 148 ps=bld 148 ps:=rfl
theorem ZeR {c:Array Value} {n:Nat} (hs:c.size=32) (h:∀i,i<32→c[i]?=some (.int .u8 (bt n i))):c=keyA n:=by
 apply Array.ext_getElem?
 intro i
 by_cases hi:i<32
 ·rw[h i hi,keyA_get n i hi]
 ·rw[Array.getElem?_eq_none (by omega),Array.getElem?_eq_none (by rw[keyA_size];omega)]
@[go_sem] theorem Zrf (w:World):(bld 23 #[]).run Tryz.prog w=.ok (kv 0) w:=by
 refine run_build w _ _ _ ?_
 rw[←Za3 0 (by decide)];kernel_rfl
@[go_sem] theorem Zqo (w:World):(bld 23 #[(0,.int .u8 1)]).run Tryz.prog w=.ok (kv 1) w:=by
 refine run_build w _ _ _ ?_
 rw[←Za3 1 (by decide)];kernel_rfl
@[go_sem] theorem Zq7 (w:World):(bld 23 #[(0,.int .u8 9)]).run Tryz.prog w=.ok (kv 9) w:=by
 refine run_build w _ _ _ ?_
 rw[←Za3 9 (by decide)];kernel_rfl
@[go_sem] theorem Zn2 (w:World):(bld 23 #[(0,.int .u8 255)]).run Tryz.prog w=.ok (kv 255) w:=by
 refine run_build w _ _ _ ?_
 rw[←Za3 255 (by decide)];kernel_rfl
@[go_sem] theorem ZsT (w:World):(bld 23 #[(0,.int .u8 65),(1,.int .u8 219),(2,.int .u8 1)]).run Tryz.prog w=.ok (kv 121665) w :=
 run_build w _ _ (keyA 121665) (by kernel_rfl)
@[go_sem] theorem ZrC (w:World):(bld 23 #[(0,.int .u8 1),(1,.int .u8 2),(2,.int .u8 3)]).run Tryz.prog w=.ok (kv 197121) w :=
 run_build w _ _ (keyA 197121) (by kernel_rfl)
@[go_sem] theorem ZrO (w:World):(bld 23 #[(0,.int .u8 4),(1,.int .u8 5),(2,.int .u8 6)]).run Tryz.prog w=.ok (kv 394500) w :=
 run_build w _ _ (keyA 394500) (by kernel_rfl)
@[go_sem] theorem Zow (w:World) (x:Nat):(bld 148 #[(0,.agg (keyA x))]).run Tryz.prog w=.ok (fv x 0) w:=by
 refine run_build w _ _ _ ?_
 have e:ZaD x 0=keyA x++#[.int .u8 0,.int .u8 0,.int .u8 0,.int .u8 0,.int .u8 0,.int .u8 0,.int .u8 0,.int .u8 0,.int .u8 0,.int .u8 0,.int .u8 0,.int .u8 0,.int .u8 0,.int .u8 0,.int .u8 0,.int .u8 0,.int .u8 0,.int .u8 0,.int .u8 0,.int .u8 0,.int .u8 0,.int .u8 0,.int .u8 0,.int .u8 0,.int .u8 0,.int .u8 0,.int .u8 0,.int .u8 0,.int .u8 0,.int .u8 0,.int .u8 0,.int .u8 0]:=by
  unfold ZaD;rw[←Za3 0 (by decide)];rfl
 have h2:Tryz.prog.built 148 [(0,.agg (keyA x))]=some (keyA x++#[.int .u8 0,.int .u8 0,.int .u8 0,.int .u8 0,.int .u8 0,.int .u8 0,.int .u8 0,.int .u8 0,.int .u8 0,.int .u8 0,.int .u8 0,.int .u8 0,.int .u8 0,.int .u8 0,.int .u8 0,.int .u8 0,.int .u8 0,.int .u8 0,.int .u8 0,.int .u8 0,.int .u8 0,.int .u8 0,.int .u8 0,.int .u8 0,.int .u8 0,.int .u8 0,.int .u8 0,.int .u8 0,.int .u8 0,.int .u8 0,.int .u8 0,.int .u8 0]):=by kernel_rfl
 rw[e];exact h2
@[go_sem] theorem Zop (w:World) (x z:Nat):(bld 148 #[(0,.agg (keyA x)),(1,.agg (keyA z))]).run Tryz.prog w=.ok (fv x z) w :=
 run_build w _ _ (ZaD x z) (by kernel_rfl)
theorem Zba (o:Oper) (h:o.op=.alloc 23) (hg:o.guard=none):Lays Tryz.prog o 23 #[.int .u8 0,.int .u8 0,.int .u8 0,.int .u8 0,.int .u8 0,.int .u8 0,.int .u8 0,.int .u8 0,.int .u8 0,.int .u8 0,.int .u8 0,.int .u8 0,.int .u8 0,.int .u8 0,.int .u8 0,.int .u8 0,.int .u8 0,.int .u8 0,.int .u8 0,.int .u8 0,.int .u8 0,.int .u8 0,.int .u8 0,.int .u8 0,.int .u8 0,.int .u8 0,.int .u8 0,.int .u8 0,.int .u8 0,.int .u8 0,.int .u8 0,.int .u8 0]:=by
 refine⟨hg,fun a w=>?_⟩
 obtain⟨dst,op,ty,pos,after,guard⟩:=o
 simp only at h hg
 subst h;subst hg
 go_simp
theorem ZkI (a:Nat) (h:a<256):(BitVec.ofInt 8 (a:Int)).toNat=a:=by
 rw[BitVec.ofInt_natCast,BitVec.toNat_ofNat];exact Nat.mod_eq_of_lt (by omega)
theorem xor8 (a b:Nat) (ha:a<256) (hb:b<256):bits .xor .u8 (a:Int) (b:Int)=((a ^^^ b:Nat):Int):=by
 have hx:a ^^^ b<2^8:=Nat.xor_lt_two_pow (by omega) (by omega)
 show IntKind.u8.wrap ((BitVec.ofInt 8 (a:Int) ^^^ BitVec.ofInt 8 (b:Int)).toNat:Int)=_
 rw[BitVec.toNat_xor,ZkI a ha,ZkI b hb,IntKind.wrap_u8]
 omega
theorem and8 (a b:Nat) (ha:a<256) (hb:b<256):bits .and .u8 (a:Int) (b:Int)=((a &&& b:Nat):Int):=by
 have hx:a &&& b<2^8:=Nat.and_lt_two_pow _ (by omega)
 show IntKind.u8.wrap ((BitVec.ofInt 8 (a:Int) &&& BitVec.ofInt 8 (b:Int)).toNat:Int)=_
 rw[BitVec.toNat_and,ZkI a ha,ZkI b hb,IntKind.wrap_u8]
 omega
theorem ZmT (s:Bool) (a b:Nat) (ha:a<256) (hb:b<256) :
  bits .xor .u8 (a:Int) (bits .and .u8 (bits .xor .u8 (a:Int) (b:Int)) (if s then 255 else 0))=((if s then b else a:Nat):Int) ∧
  bits .xor .u8 (b:Int) (bits .and .u8 (bits .xor .u8 (a:Int) (b:Int)) (if s then 255 else 0))=((if s then a else b:Nat):Int):=by
 have hx:a ^^^ b<2^8:=Nat.xor_lt_two_pow (by omega) (by omega)
 have hx':a ^^^ b<256:=by simpa using hx
 cases s
 ·simp only[Bool.false_eq_true,if_false]
  rw[xor8 a b ha hb,show (0:Int)=((0:Nat):Int) from rfl,and8 _ 0 hx' (by decide),Nat.and_zero,xor8 a 0 ha (by decide),xor8 b 0 hb (by decide),Nat.xor_zero,Nat.xor_zero]
  exact⟨rfl,rfl⟩
 ·simp only[if_true]
  have h255:(a ^^^ b) &&& 255=a ^^^ b:=by
   rw[show (255:Nat)=2^8-1 from rfl,Nat.and_two_pow_sub_one_eq_mod,Nat.mod_eq_of_lt hx]
  rw[xor8 a b ha hb,show (255:Int)=((255:Nat):Int) from rfl,and8 _ 255 hx' (by decide),h255,xor8 a _ ha hx',xor8 b _ hb hx']
  refine⟨?_,?_⟩
  ·rw[←Nat.xor_assoc,Nat.xor_self,Nat.zero_xor]
  ·rw[Nat.xor_comm a b,←Nat.xor_assoc,Nat.xor_self,Nat.zero_xor]
def mixF (x z X Z k j:Nat):Array Value:=((List.range 64).map fun i=>Value.int .u8 (if i<32 then (if i<k then bt X i else bt x i) else (if i-32<j then bt Z (i-32) else bt z (i-32)))).toArray
@[go_sem] theorem Zcd (x z X Z k j:Nat):(mixF x z X Z k j).size=64:=by simp[mixF]
theorem Zb9 (x z X Z k j i:Nat) (h:i<64):(mixF x z X Z k j)[i]?=some (.int .u8 (if i<32 then (if i<k then bt X i else bt x i) else (if i-32<j then bt Z (i-32) else bt z (i-32)))):=by simp[mixF,h]
theorem ZqH (x z X Z:Nat):mixF x z X Z 0 0=ZaD x z:=by
 refine ZkP (Zcd _ _ _ _ _ _) (fun i hi=>?_) (fun i hi=>?_)
 ·rw[Zb9 _ _ _ _ _ _ _ (by omega)];simp[hi]
 ·rw[Zb9 _ _ _ _ _ _ _ (by omega)];simp[show ¬32+i<32 by omega]
theorem ZnY (x z X Z:Nat):mixF x z X Z 32 32=ZaD X Z:=by
 refine ZkP (Zcd _ _ _ _ _ _) (fun i hi=>?_) (fun i hi=>?_)
 ·rw[Zb9 _ _ _ _ _ _ _ (by omega)];simp[hi]
 ·rw[Zb9 _ _ _ _ _ _ _ (by omega)];simp[hi,show ¬32+i<32 by omega]
theorem Zks (x z X Z k j:Nat) (hk:k<32):(mixF x z X Z k j)[k]?=some (.int .u8 (bt x k)):=by
 have:=Zb9 x z X Z k j k (by omega)
 simpa [hk] using this
theorem Zfm (x z X Z k j:Nat) (hj:j<32):(mixF x z X Z k j)[32+j]?=some (.int .u8 (bt z j)):=by
 have:=Zb9 x z X Z k j (32+j) (by omega)
 simpa [show ¬32+j<32 by omega] using this
theorem ZiE (x z X Z k j:Nat) (hk:k<32):(mixF x z X Z k j).setIfInBounds k (.int .u8 (bt X k))=mixF x z X Z (k+1) j:=by
 apply Array.ext_getElem?
 intro i
 rw[Array.getElem?_setIfInBounds]
 by_cases h:i<64
 ·rw[Zb9 _ _ _ _ _ _ _ h,Zb9 _ _ _ _ _ _ _ h]
  by_cases e:k=i
  ·subst e;simp[Zcd,h,hk]
  ·rw[if_neg e]
   by_cases h1:i<k
   ·simp[h1,show i<k+1 by omega]
   ·simp[h1,show ¬i<k+1 by omega]
 ·rw[Array.getElem?_eq_none (by rw[Zcd];omega),Array.getElem?_eq_none (by rw[Zcd];omega),if_neg (by omega)]
theorem ZiB (x z X Z k j:Nat) (hj:j<32):(mixF x z X Z k j).setIfInBounds (32+j) (.int .u8 (bt Z j))=mixF x z X Z k (j+1):=by
 apply Array.ext_getElem?
 intro i
 rw[Array.getElem?_setIfInBounds]
 by_cases h:i<64
 ·rw[Zb9 _ _ _ _ _ _ _ h,Zb9 _ _ _ _ _ _ _ h]
  by_cases e:32+j=i
  ·subst e;simp[Zcd,show ¬32+j<32 by omega,h]
  ·rw[if_neg e]
   by_cases h0:i<32
   ·simp[h0]
   ·by_cases h1:i-32<j
    ·simp[h0,h1,show i-32<j+1 by omega]
    ·simp[h0,h1,show ¬i-32<j+1 by omega]
 ·rw[Array.getElem?_eq_none (by rw[Zcd];omega),Array.getElem?_eq_none (by rw[Zcd];omega),if_neg (by omega)]
theorem ZkO (s:Bool) (x x' k:Nat):((if s then x'/256^k%256 else x/256^k%256:Nat):Int)=bt (if s then x' else x) k:=by cases s<;>rfl
theorem Zgd (s:Bool) (x z x' z':Nat) (w:World) :
  Calls Tryz.prog 95 #[.int .u8 (if s then 1 else 0),fv x z,fv x' z'] w fun e w'=>e=.returned (.tuple #[fv (if s then x' else x) (if s then z' else z),fv (if s then x else x') (if s then z else z')])∧Below w.heap.size w w':=by
 obtain⟨X,eX⟩:∃y,y=if s then x' else x:=⟨_,rfl⟩
 obtain⟨Z,eZ⟩:∃y,y=if s then z' else z:=⟨_,rfl⟩
 obtain⟨X',eX'⟩:∃y,y=if s then x else x':=⟨_,rfl⟩
 obtain⟨Z',eZ'⟩:∃y,y=if s then z else z':=⟨_,rfl⟩
 obtain⟨m,em⟩:∃y:Int,y=if s then 255 else 0:=⟨_,rfl⟩
 have hm:IntKind.u8.wrap (-(if s then 1 else 0))=m:=by rw[em];cases s<;>rfl
 obtain⟨sv,es⟩:∃y:Int,y=if s then 1 else 0:=⟨_,rfl⟩
 rw[←es] at hm
 have hbyte:∀a b:Nat,a<256→b<256→bits .xor .u8 (a:Int) (bits .and .u8 (bits .xor .u8 (a:Int) (b:Int)) m)=((if s then b else a:Nat):Int)∧bits .xor .u8 (b:Int) (bits .and .u8 (bits .xor .u8 (a:Int) (b:Int)) m)=((if s then a else b:Nat):Int):=by
  rw[em];exact ZmT s
 have hx:∀k,bits .xor .u8 (bt x k) (bits .and .u8 (bits .xor .u8 (bt x k) (bt x' k)) m)=bt X k∧bits .xor .u8 (bt x' k) (bits .and .u8 (bits .xor .u8 (bt x k) (bt x' k)) m)=bt X' k:=fun k=>by
  have:=hbyte _ _ (Nat.mod_lt (x/256^k) (show 0<256 by decide)) (Nat.mod_lt (x'/256^k) (show 0<256 by decide))
  rw[ZkO,ZkO] at this
  rw[eX,eX'];exact this
 have hz:∀k,bits .xor .u8 (bt z k) (bits .and .u8 (bits .xor .u8 (bt z k) (bt z' k)) m)=bt Z k∧bits .xor .u8 (bt z' k) (bits .and .u8 (bits .xor .u8 (bt z k) (bt z' k)) m)=bt Z' k:=fun k=>by
  have:=hbyte _ _ (Nat.mod_lt (z/256^k) (show 0<256 by decide)) (Nat.mod_lt (z'/256^k) (show 0<256 by decide))
  rw[ZkO,ZkO] at this
  rw[eZ,eZ'];exact this
 rw[←es,←eX,←eZ,←eX',←eZ']
 clear es eX eZ eX' eZ' em hbyte
 have HX:=Zq hx
 have HZ:=Zq hz
 clear hx hz
 go_enter Tryz.func95,Tryz.ntmps95
 go_wp2_with fail
 go_loopw [14] (fun i w'=>∃ (k:Nat) (o:Array Obj) (d:Nat),k≤32∧i=.int .i64 k ∧
  w'=((((w.alloc (.cells (mixF x z X Z k k) 148)).alloc (.cells (mixF x' z' X' Z' k k) 148)).alloc (.cells #[.int .u8 0,.int .u8 0,.int .u8 0,.int .u8 0,.int .u8 0,.int .u8 0,.int .u8 0,.int .u8 0,.int .u8 0,.int .u8 0,.int .u8 0,.int .u8 0,.int .u8 0,.int .u8 0,.int .u8 0,.int .u8 0,.int .u8 0,.int .u8 0,.int .u8 0,.int .u8 0,.int .u8 0,.int .u8 0,.int .u8 0,.int .u8 0,.int .u8 0,.int .u8 0,.int .u8 0,.int .u8 0,.int .u8 0,.int .u8 0,.int .u8 0,.int .u8 0,.int .u8 0,.int .u8 0,.int .u8 0,.int .u8 0,.int .u8 0,.int .u8 0,.int .u8 0,.int .u8 0,.int .u8 0,.int .u8 0,.int .u8 0,.int .u8 0,.int .u8 0,.int .u8 0,.int .u8 0,.int .u8 0,.int .u8 0,.int .u8 0,.int .u8 0,.int .u8 0,.int .u8 0,.int .u8 0,.int .u8 0,.int .u8 0,.int .u8 0,.int .u8 0,.int .u8 0,.int .u8 0,.int .u8 0,.int .u8 0,.int .u8 0,.int .u8 0] 148)).alloc (.cells #[.int .u8 0,.int .u8 0,.int .u8 0,.int .u8 0,.int .u8 0,.int .u8 0,.int .u8 0,.int .u8 0,.int .u8 0,.int .u8 0,.int .u8 0,.int .u8 0,.int .u8 0,.int .u8 0,.int .u8 0,.int .u8 0,.int .u8 0,.int .u8 0,.int .u8 0,.int .u8 0,.int .u8 0,.int .u8 0,.int .u8 0,.int .u8 0,.int .u8 0,.int .u8 0,.int .u8 0,.int .u8 0,.int .u8 0,.int .u8 0,.int .u8 0,.int .u8 0,.int .u8 0,.int .u8 0,.int .u8 0,.int .u8 0,.int .u8 0,.int .u8 0,.int .u8 0,.int .u8 0,.int .u8 0,.int .u8 0,.int .u8 0,.int .u8 0,.int .u8 0,.int .u8 0,.int .u8 0,.int .u8 0,.int .u8 0,.int .u8 0,.int .u8 0,.int .u8 0,.int .u8 0,.int .u8 0,.int .u8 0,.int .u8 0,.int .u8 0,.int .u8 0,.int .u8 0,.int .u8 0,.int .u8 0,.int .u8 0,.int .u8 0,.int .u8 0] 148)).plus o d) (fun i _=>32-(intOf i).toNat)
 case atStart =>
  refine⟨0,#[],w.drawn,by decide,rfl,?_⟩
  rw[ZqH,ZqH];rfl
 case round =>
  obtain⟨k,o,d,hk,rfl,rfl⟩:=hrel
  by_cases hk32:k<32
  ·have hk0:(0:Int)≤(k:Int):=by omega
   have hk1:(k:Int)<32:=by omega
   have a1:=Zks x z X Z k k hk32
   have a2:=Zks x' z' X' Z' k k hk32
   have a3:=Zfm x z X Z k k hk32
   have a4:=Zfm x' z' X' Z' k k hk32
   have b3:=Zfm x z X Z (k+1) k hk32
   have b4:=Zfm x' z' X' Z' (k+1) k hk32
   have c1:=ZiE x z X Z k k hk32
   have c2:=ZiE x' z' X' Z' k k hk32
   have c3:=ZiB x z X Z (k+1) k hk32
   have c4:=ZiB x' z' X' Z' (k+1) k hk32
   obtain⟨d1,d2⟩:=HX.out k
   obtain⟨d3,d4⟩:=HZ.out k
   generalize et:bits .and .u8 (bits .xor .u8 (bt x k) (bt x' k)) m=tx at d1 d2
   generalize et':bits .and .u8 (bits .xor .u8 (bt z k) (bt z' k)) m=tz at d3 d4
   clear HX HZ
   go_wp2_with fail
   generalize hW:World.alloc _ _=W1
   refine ZaC (fun w'=>∃ o d,w'=W1.plus o d) (by kernel_rfl) (by kernel_rfl) ⟨_,_,rfl⟩ ?_
   subst hW
   iterate 24 (refine Zat ⟨_,#[],0,rfl⟩ (Zaa rfl) (by rintro K _ ⟨o,d,rfl⟩ hK;go_simp;exact hK _ ⟨o,d,rfl⟩) ?_)
   refine Zaw ?_
   rintro _ ⟨o2,n2,rfl⟩
   go_wp2_with fail
   go_roundw
   case rel=>exact⟨k+1,_,_,by omega,by go_num,rfl⟩
   case measure=>simp[intOf];omega
  ·obtain rfl:k=32:=by omega
   rw[ZnY,ZnY]
   go_wp2_with fail
   go_region
   all_goals
    go_wp2_with fail
    refine bodyPost_ret (v:=.tuple #[fv X Z,fv X' Z']) (Zib _ Tryz.results95 Tryz.underlying148 rfl (by rw[Zc7];kernel_rfl) Tryz.underlying148 rfl (by rw[Zc7];kernel_rfl) _ _ _ rfl (by go_simp) (by go_simp) rfl (by go_simp) (by go_simp)) rfl ⟨rfl,?_⟩
    repeat (first | apply Zag | apply Zab | exact Below.refl _ _)
end Go.Proofs.YtddmjddlbhdcpaaGreatDoor.F
namespace Go.Proofs.YtddmjddlbhdcpaaGreatDoor.F
open Fp
namespace Cv
def nadd (x y:Nat):Nat:=(x+y)%P
def nsub (x y:Nat):Nat:=(x%P+(P-y%P))%P
def nmul (x y:Nat):Nat:=x*y%P
theorem nadd_lt (x y:Nat):nadd x y<P:=Nat.mod_lt _ P_pos
theorem nsub_lt (x y:Nat):nsub x y<P:=Nat.mod_lt _ P_pos
theorem nmul_lt (x y:Nat):nmul x y<P:=Nat.mod_lt _ P_pos
def ntw2 (aa bb e:Nat):Nat×Nat:=(nmul aa bb,nmul e (nadd aa (nmul 121665 e)))
def ntw1 (aa bb:Nat):Nat×Nat:=ntw2 aa bb (nsub aa bb)
def ntw (p:Nat×Nat):Nat×Nat:=ntw1 (nmul (nadd p.1 p.2) (nadd p.1 p.2)) (nmul (nsub p.1 p.2) (nsub p.1 p.2))
def nsm1 (x1 d c:Nat):Nat×Nat:=(nmul (nadd d c) (nadd d c),nmul x1 (nmul (nsub d c) (nsub d c)))
def nsm (x1:Nat) (p r:Nat×Nat):Nat×Nat:=nsm1 x1 (nmul (nsub r.1 r.2) (nadd p.1 p.2)) (nmul (nadd r.1 r.2) (nsub p.1 p.2))
def nstp (x1:Nat) (b:Bool) (s:(Nat×Nat)×(Nat×Nat)):(Nat×Nat)×(Nat×Nat) :=
 if b then (nsm x1 s.2 s.1,ntw s.2) else (ntw s.1,nsm x1 s.1 s.2)
def nlad (x1 m:Nat):Nat→(Nat×Nat)×(Nat×Nat)
 | 0=>((1,0),(x1,1))
 | j+1=>nstp x1 (m/2^(254-j)%2==1) (nlad x1 m j)
def nT (m x1:Nat):Nat:=nmul (nlad x1 m 255).1.1 ((nlad x1 m 255).1.2^E%P)
theorem nT_lt (m x1:Nat):nT m x1<P:=nmul_lt _ _
open Ed
def qq (p:Nat×Nat):Fin P×Fin P:=(q p.1,q p.2)
theorem Zq4 (x y:Nat):q (nadd x y)=q x+q y:=ZwI x y
theorem ZqK (x y:Nat):q (nsub x y)=q x-q y:=ZwX x y
theorem Zq6 (x y:Nat):q (nmul x y)=q x*q y:=ZwY x y
theorem Zw5 (p:Nat×Nat):qq (ntw p)=tw kk (qq p):=by
 simp only[qq,ntw,ntw1,ntw2,tw,Zq4,ZqK,Zq6];rfl
theorem ZwD (x1:Nat) (p r:Nat×Nat):qq (nsm x1 p r)=sm (q x1) (qq p) (qq r):=by
 simp only[qq,nsm,nsm1,sm,Zq4,ZqK,Zq6]
theorem Zq1 (x1 m:Nat):∀j,(qq (nlad x1 m j).1,qq (nlad x1 m j).2)=lad kk (q x1) m j
 | 0=>rfl
 | j+1=>by
  show _=stp kk (q x1) (m/2^(254-j)%2==1) (lad kk (q x1) m j)
  rw[←Zq1 x1 m j]
  show (qq (nstp x1 (m/2^(254-j)%2==1) (nlad x1 m j)).1,qq (nstp x1 (m/2^(254-j)%2==1) (nlad x1 m j)).2)=_
  cases (m/2^(254-j)%2==1)<;>simp only[nstp,stp,if_true,if_false,Bool.false_eq_true,Zw5,ZwD]
theorem nT_zero (m:Nat):nT m 0=0:=by
 have h:=(Zkq kk m 255 (by decide)).1
 rw[←q_0,←Zq1] at h
 have e:(nlad 0 m 255).1.2%P=0:=Zud.1 h
 unfold nT
 rw[Nat.pow_mod,e,Zqb];rfl
def clampN (k:Nat):Nat:=k%2^254/8*8+2^254
def L:Nat:=7237005577332262213973186563042994240857116359379907606001950938285454250989
end Cv
end Go.Proofs.YtddmjddlbhdcpaaGreatDoor.F
