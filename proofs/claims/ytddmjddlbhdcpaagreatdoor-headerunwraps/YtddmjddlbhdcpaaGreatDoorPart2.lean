/-
  Part 2 of the texts behind the theorem.
-/
import Derived.Test.YtddmjddlbhdcpaaGreatDoorPart1
namespace Go.Proofs.YtddmjddlbhdcpaaGreatDoor.Ed
variable {n:Nat} [NeZero n]
def ed (a d u v:Fin n):Fin n:=a*u*u+v*v-1-d*u*u*v*v
set_option maxRecDepth 100000 in
set_option maxHeartbeats 4000000 in
theorem closed (a d u1 v1 u2 v2:Fin n):a*((u1*v2+v1*u2)*(1-(d*(u1*u2*v1*v2))))*((u1*v2+v1*u2)*(1-(d*(u1*u2*v1*v2))))+((v1*v2-a*(u1*u2))*(1+(d*(u1*u2*v1*v2))))*((v1*v2-a*(u1*u2))*(1+(d*(u1*u2*v1*v2))))-(1-(d*(u1*u2*v1*v2))*(d*(u1*u2*v1*v2)))*(1-(d*(u1*u2*v1*v2))*(d*(u1*u2*v1*v2)))-d*((u1*v2+v1*u2)*(v1*v2-a*(u1*u2)))*((u1*v2+v1*u2)*(v1*v2-a*(u1*u2))) =
 (1*v2*v2*v2*v2+4*u2*u2*v2*v2*a+(-2)*u2*u2*v2*v2*d+(-2)*u2*u2*v2*v2*v2*v2*a+1*u2*u2*u2*u2*a*a+(-2)*u2*u2*u2*u2*v2*v2*a*a+2*u2*u2*u2*u2*v2*v2*v2*v2*d*a+(-1)*u2*u2*u2*u2*v2*v2*v2*v2*d*d+(-1)*v1*v1*u2*u2*v2*v2*v2*v2*d+(-1)*v1*v1*u2*u2*u2*u2*v2*v2*d*a+1*v1*v1*u2*u2*u2*u2*v2*v2*v2*v2*d*d+(-1)*u1*u1*u2*u2*v2*v2*v2*v2*d*a+(-1)*u1*u1*u2*u2*u2*u2*v2*v2*d*a*a+1*u1*u1*u2*u2*u2*u2*v2*v2*v2*v2*d*d*a+1*u1*u1*v1*v1*u2*u2*u2*u2*v2*v2*v2*v2*d*d*d)*ed a d u1 v1+(1+1*v2*v2+1*u2*u2*a+(-2)*u2*u2*v2*v2*a+1*u2*u2*v2*v2*d+(-1)*v1*v1*v2*v2+(-1)*v1*v1*u2*u2*a+2*v1*v1*u2*u2*v2*v2*a+(-2)*v1*v1*u2*u2*v2*v2*d+1*v1*v1*v1*v1*u2*u2*v2*v2*d+(-1)*u1*u1*v2*v2*a+(-1)*u1*u1*u2*u2*a*a+2*u1*u1*u2*u2*v2*v2*a*a+(-2)*u1*u1*u2*u2*v2*v2*d*a+1*u1*u1*u1*u1*u2*u2*v2*v2*d*a*a)*ed a d u2 v2:=by
 unfold ed;grind -splitMatch -splitIte -splitIndPred -funext -lia -linarith (splits:=0) (ematch:=0)
structure Fld (n:Nat) [NeZero n] where
 inv:Fin n→Fin n
 inv_mul:∀x,x≠0→x*inv x=1
 inv_zero:inv 0=0
 one_ne:(1:Fin n)≠0
 two_ne:(2:Fin n)≠0
section
variable {n:Nat} [NeZero n]
theorem Fld.zero_of (F:Fld n) {x y:Fin n} (h:x*y=0) (hx:x≠0):y=0:=by
 have h1:=F.inv_mul x hx
 have h2:y=(x*F.inv x)*y:=by rw[h1];grind
 rw[h2,show x*F.inv x*y=F.inv x*(x*y) by grind,h];grind
theorem Fld.cancel (F:Fld n) {c x y:Fin n} (hc:c≠0) (h:c*x=c*y):x=y:=by
 have:x-y=0:=F.zero_of (x:=c) (by grind) hc
 grind
structure Crv (n:Nat) [NeZero n] where
 a:Fin n
 d:Fin n
 s:Fin n
 ha:a=s*s
 hs:s≠0
 hd:∀t,d≠t*t
def Crv.On (C:Crv n) (p:Fin n×Fin n):Prop:=C.a*(p.1*p.1)+p.2*p.2=1+C.d*(p.1*p.1)*(p.2*p.2)
def Crv.dl (C:Crv n) (p q:Fin n×Fin n):Fin n:=C.d*(p.1*q.1*p.2*q.2)
def add (F:Fld n) (C:Crv n) (p q:Fin n×Fin n):Fin n×Fin n:=((p.1*q.2+p.2*q.1)*F.inv (1+C.dl p q),(p.2*q.2-C.a*(p.1*q.1))*F.inv (1-C.dl p q))
def O:Fin n×Fin n:=(0,1)
end
section
variable {n:Nat} [NeZero n]
def tw (k:Fin n) (p:Fin n×Fin n):Fin n×Fin n :=
 (((p.1+p.2)*(p.1+p.2))*((p.1-p.2)*(p.1-p.2)),
  ((p.1+p.2)*(p.1+p.2)-(p.1-p.2)*(p.1-p.2))*((p.1+p.2)*(p.1+p.2)+k*((p.1+p.2)*(p.1+p.2)-(p.1-p.2)*(p.1-p.2))))
def sm (x1:Fin n) (p q:Fin n×Fin n):Fin n×Fin n :=
 (((q.1-q.2)*(p.1+p.2)+(q.1+q.2)*(p.1-p.2))*((q.1-q.2)*(p.1+p.2)+(q.1+q.2)*(p.1-p.2)),
  x1*(((q.1-q.2)*(p.1+p.2)-(q.1+q.2)*(p.1-p.2))*((q.1-q.2)*(p.1+p.2)-(q.1+q.2)*(p.1-p.2))))
theorem l_x {e c2 c3 v2 v3:Fin n} (he:e*e=1):(e*c2*(1+v2))*(e*c3*(1+v3))-(c2*(1-v2))*(c3*(1-v3))=2*(c2*c3)*(v2+v3):=by
 rw[show (e*c2*(1+v2))*(e*c3*(1+v3))=(e*e)*((c2*c3)*((1+v2)*(1+v3))) by clear he;grind -splitMatch -splitIte -splitIndPred -funext -lia -linarith (splits:=0) (ematch:=0),he];clear he;grind -splitMatch -splitIte -splitIndPred -funext -lia -linarith (splits:=0) (ematch:=0)
end
section
variable {n:Nat} [NeZero n]
def stp (k x1:Fin n) (b:Bool) (s:(Fin n×Fin n)×(Fin n×Fin n)):(Fin n×Fin n)×(Fin n×Fin n) :=
 if b then (sm x1 s.2 s.1,tw k s.2) else (tw k s.1,sm x1 s.1 s.2)
def lad (k x1:Fin n) (m:Nat):Nat→(Fin n×Fin n)×(Fin n×Fin n)
 | 0=>((1,0),(x1,1))
 | j+1=>stp k x1 (m/2^(254-j)%2==1) (lad k x1 m j)
def T (F:Fld n) (k:Fin n) (m:Nat) (x1:Fin n):Fin n:=(lad k x1 m 255).1.1*F.inv (lad k x1 m 255).1.2
theorem ZkD (k:Fin n) (m:Nat):∀j,0<j→(lad k 0 m j).1.2=0∧(lad k 0 m j).2.2=0
 | 0,h=>by omega
 | 1,_=>by
  show (stp k 0 (m/2^(254-0)%2==1) ((1,0),(0,1))).1.2=0∧(stp k 0 (m/2^(254-0)%2==1) ((1,0),(0,1))).2.2=0
  generalize (m/2^(254-0)%2==1)=b
  cases b<;>simp only[stp,tw,sm,if_true,if_false,Bool.false_eq_true]<;>constructor<;>grind -splitMatch -splitIte -splitIndPred -funext -lia -linarith (splits:=0) (ematch:=0)
 | j+2,_=>by
  obtain⟨h1,h2⟩:=ZkD k m (j+1) (by omega)
  show (stp k 0 (m/2^(254-(j+1))%2==1) (lad k 0 m (j+1))).1.2=0∧(stp k 0 (m/2^(254-(j+1))%2==1) (lad k 0 m (j+1))).2.2=0
  generalize (m/2^(254-(j+1))%2==1)=b
  generalize lad k 0 m (j+1)=s at *
  obtain⟨⟨a,b'⟩,⟨c,d⟩⟩:=s
  simp only at h1 h2
  subst h1;subst h2
  cases b<;>simp only[stp,tw,sm,if_true,if_false,Bool.false_eq_true]<;>constructor<;>grind -splitMatch -splitIte -splitIndPred -funext -lia -linarith (splits:=0) (ematch:=0)
theorem Zt0 (F:Fld n) (k:Fin n) (m:Nat):T F k m 0=0:=by
 unfold T
 rw[(ZkD k m 255 (by decide)).1,F.inv_zero]
 generalize (lad k 0 m 255).1.1=x;grind -splitMatch -splitIte -splitIndPred -funext -lia -linarith (splits:=0) (ematch:=0)
end
open Fp
instance neP:NeZero P:=⟨by decide +kernel⟩
def q (x:Nat):Fin P:=Fin.ofNat P x
theorem Zee (x:Nat):(q x).val=x%P:=rfl
theorem q_of (x:Fin P):q x.val=x:=Fin.ext (by rw[Zee,Nat.mod_eq_of_lt x.isLt])
theorem q_eq {x y:Nat}:q x=q y↔x%P=y%P:=by
 constructor
 ·intro h;have:=congrArg Fin.val h;simpa [Zee] using this
 ·intro h;exact Fin.ext (by rw[Zee,Zee,h])
theorem ZwW (x y:Nat):q ((x+y)%P)=q x+q y:=Fin.ext (by rw[Fin.val_add,Zee,Zee,Zee,Nat.mod_mod,←Nat.add_mod])
theorem Zuq (x y:Nat):q (x*y%P)=q x*q y:=Fin.ext (by rw[Fin.val_mul,Zee,Zee,Zee,Nat.mod_mod,←Nat.mul_mod])
theorem Zxf (x y:Nat):q ((x%P+(P-y%P))%P)=q x-q y:=Fin.ext (by
 rw[Fin.val_sub,Zee,Zee,Zee,Nat.mod_mod,Nat.add_comm])
theorem q_0:q 0=0:=rfl
theorem Zvw {x:Nat}:q x=0↔x%P=0:=by rw[←q_0,q_eq,Nat.zero_mod]
theorem Zwz {x y:Nat} (hx:x<P) (hy:y<P) (h:q x=q y):x=y:=by
 have:=q_eq.1 h
 rwa [Nat.mod_eq_of_lt hx,Nat.mod_eq_of_lt hy] at this
def fld:Fld P where
 inv x:=q (x.val^E%P)
 inv_mul x h:=by
  have hx:x.val%P≠0:=fun e=>h (by rw[←q_of x];exact Zvw.2 e)
  have:=inv_mul x.val hx
  conv=>lhs;rw[←q_of x]
  rw[←Zuq,q_of,this];rfl
 inv_zero:=by
  show q ((0:Fin P).val^E%P)=0
  rw[show (0:Fin P).val=0 from rfl,Fp.inv_zero];rfl
 one_ne:=fun h=>by
  have:=congrArg Fin.val h
  have h1:(1:Fin P).val=1:=rfl
  rw[h1] at this
  exact absurd this (by decide)
 two_ne:=fun h=>by
  have:=congrArg Fin.val h
  have h1:(2:Fin P).val=2:=rfl
  rw[h1] at this
  exact absurd this (by decide)
theorem ZwO (x:Nat):q (x^E%P)=fld.inv (q x):=by
 show q (x^E%P)=q ((q x).val^E%P)
 rw[Zee,Fp.pow_mod]
def H:Nat:=28948022309329048855892746252171976963317496166410141009864396001978282409974
def G:Nat:=14474011154664524427946373126085988481658748083205070504932198000989141204987
def K:Nat:=7237005577332262213973186563042994240829374041602535252466099000494570602494
def A:Fin P:=q 486662
def kk:Fin P:=q 121665
end Go.Proofs.YtddmjddlbhdcpaaGreatDoor.Ed
