/-
  Part 1 of the texts behind the theorem.
-/
import Derived.StillTail
import Derived.WalkKit
import Derived.Laws.Rows
namespace Go.Hold
open Go
section
variable {P:Program} {ops:Array Oper} {md:Region.Mode} {S:World→Prop}
def Zdu (P:Program) (o:Oper) (a:Act) (K:Value→Act→World→Prop):Result Next→Prop
 | .ok (.value v) w'=>K v (a.put o.dst v) w'
 | .ok .skip w'=>K undef (a.put o.dst undef) w'
 | .ok (.enter f args) w'=>Calls P f args w' fun e w''=>∃ v,e=.returned v∧K v (a.put o.dst v) w''
 | _=>False
theorem Zgg {o:Oper} {a a':Act} {K K':Value→Act→World→Prop} (h:∀v w,K v (a.put o.dst v) w→K' v (a'.put o.dst v) w) (r:Result Next) (hh:Zdu P o a K r):Zdu P o a' K' r:=by
 cases r with
 | halt x w=>exact False.elim hh
 | ok n w =>
  cases n<;>try exact False.elim hh
  case value v=>exact h _ _ hh
  case skip=>exact h _ _ hh
  case enter f args=>exact Calls.mono (P:=P) hh fun _ _ ⟨v,he,hk⟩=>⟨v,he,h _ _ hk⟩
def Gives (P:Program) (ops:Array Oper) (S:World→Prop) (o:Oper) (v:Value) (a:Act):Prop :=
 (Region.wanted o (yielded ops a.tmps)=true∧∀ w,S w→Zdu P o a (fun u _ w'=>u=v∧S w') ((execOp a.eval o).run P w)) ∨
 (Region.wanted o (yielded ops a.tmps)=false∧v=undef)
theorem Gives.like {o:Oper} {v:Value} {a a':Act} (h:Gives P ops S o v a) (he:execOp a'.eval o=execOp a.eval o)
  (hw:Region.wanted o (yielded ops a'.tmps)=Region.wanted o (yielded ops a.tmps)):Gives P ops S o v a':=by
 rcases h with ⟨h1,h2⟩ | ⟨h1,h2⟩
 ·exact .inl ⟨hw▸h1,fun w hS=>by rw[he];exact Zgg (fun _ _ h=>h) _ (h2 w hS)⟩
 ·exact .inr ⟨hw▸h1,h2⟩
theorem Gives.wpOp {i:Nat} {o:Oper} {v:Value} {a:Act} {Q:Exit→Act→World→Prop} (hi:ops[i]?=some o) (hg:Gives P ops S o v a) {K:Act→World→Prop} {w:World} (hS:S w)
  (h:∀w',S w'→K (a.put o.dst v) w'):wpOp P ops Q i K a w:=by
 unfold Go.wpOp
 simp only[hi]
 rcases hg with ⟨hw,hv⟩ | ⟨hw,rfl⟩
 ·simp only[hw,if_true]
  refine .inl ?_
  have hv:=hv w hS
  unfold Oper.wp
  generalize (execOp a.eval o).run P w=r at hv
  cases r with
  | halt x w=>exact False.elim hv
  | ok n w =>
   cases n<;>try exact False.elim hv
   case value u=>obtain⟨rfl,hs⟩:=hv;exact h _ hs
   case skip=>obtain⟨rfl,hs⟩:=hv;exact h _ hs
   case enter f args =>
    refine Calls.mono (P:=P) hv ?_
    rintro e w'' ⟨u,rfl,rfl,hs⟩
    exact h _ hs
 ·simp only[hw,Bool.false_eq_true,if_false]
  exact h w hS
def anyG (P:Program) (md:Region.Mode) (ops:Array Oper) (S:World→Prop) (n:Nat) (L:Array Bool→Act→Prop):Nat→Array Bool→Act→Prop
 | 0,listed,a=>L listed a
 | f+1,listed,a=>Region.ready md ops listed≠[]∧∀ i∈Region.ready md ops listed,i<n∧∃ o v,ops[i]?=some o∧Gives P ops S o v a∧anyG P md ops S n L f (listed.setIfInBounds i true) (a.put o.dst v)
theorem ZbT {n g:Nat} {L:Array Bool→Act→Prop} {Q:Exit→Act→World→Prop} (hL:∀listed a w,L listed a→S w→wpAny P md ops Q g listed a w) :
  ∀ (f:Nat) (listed:Array Bool) (a:Act) (w:World),S w→anyG P md ops S n L f listed a→wpAny P md ops Q (f+g) listed a w
 | 0,listed,a,w,hS,h=>by rw[Nat.zero_add];exact hL _ _ _ h hS
 | f+1,listed,a,w,hS,h=>by
  rw[show f+1+g=(f+g)+1 by omega]
  refine⟨fun h0=>absurd h0 h.1,fun i hi=>?_⟩
  obtain⟨_,o,v,ho,hg,hn⟩:=h.2 i hi
  exact hg.wpOp ho hS fun w' hS'=>ZbT hL f _ _ w' hS' hn
theorem Zed {n i:Nat} {oi:Oper} {v:Value} {L:Array Bool→Act→Prop} (hi:ops[i]?=some oi) (hsel:∀(j:Nat) (o:Oper) cs b,ops[j]?=some o→o.op≠.select cs b) (hin:i<n)
  (hwait:∀listed,HeadInv md ops n listed→listed.getD i true=false→∀ t,n≤t→t∉Region.ready md ops listed) (hdone:∀listed a,L listed a→∀ j∈Region.ready md ops listed,n≤j) :
  ∀ (f:Nat) (listed:Array Bool) (a:Act),HeadInv md ops n listed →
   (∀ j oj,ops[j]?=some oj→j≠i→listed.getD j true=false→(∀ e∈oj.after,Region.binds md e=true→e.on≠i)→oi.apart ops oj=true) →
   i∈Region.ready md ops listed→Gives P ops S oi v a →
   anyG P md ops S n L f (listed.setIfInBounds i true) (a.put oi.dst v)→anyG P md ops S n L (f+1) listed a:=by
 intro f
 induction f with
 | zero =>
  intro listed a inv _ hr hg H
  refine⟨fun h=>(by rw[h] at hr;cases hr),fun j hj=>?_⟩
  have hjn:j<n:=Nat.lt_of_not_le fun h=>hwait listed inv (mem_ready.1 hr).1 j h hj
  by_cases hji:j=i
  ·subst hji;exact⟨hjn,oi,v,hi,hg,H⟩
  ·have:=hdone _ _ H j (ready_mono hj hji);omega
 | succ f ih =>
  intro listed a inv hfree hr hg H
  have hun:=(mem_ready.1 hr).1
  refine⟨fun h=>(by rw[h] at hr;cases hr),fun j hj=>?_⟩
  have hjn:j<n:=Nat.lt_of_not_le fun h=>hwait listed inv hun j h hj
  by_cases hji:j=i
  ·subst hji;exact⟨hjn,oi,v,hi,hg,H⟩
  ·obtain⟨_,oj,u,hoj,hgj,hn⟩:=H.2 j (ready_mono hj hji)
   obtain⟨hjun,oj',hoj',hall⟩:=mem_ready.1 hj
   obtain rfl:oj'=oj:=Option.some.inj (hoj'.symm.trans hoj)
   have hnot:∀e∈oj'.after,Region.binds md e=true→e.on≠i:=fun e he hb heq=>by
    have h1:=hall e he hb
    rw[heq,getD_both hun] at h1
    cases h1
   obtain⟨p1,p2,p3⟩:=Oper.apart_spec (hfree j oj' hoj hji hjun hnot)
   refine⟨hjn,oj',u,hoj,hgj.like (execOp_put oj' (fun cs b=>hsel j oj' cs b hoj) a oi.dst v p1).symm (wanted_put oj' a oi.dst v p1).symm,?_⟩
   refine ih (listed.setIfInBounds j true) (a.put oj'.dst u) (inv.set hj hjn) ?_ (ready_mono hr (Ne.symm hji)) ?_ ?_
   ·intro k ok hk hki hkun hno
    refine hfree k ok hk hki ?_ hno
    by_cases hjk:j=k
    ·subst hjk;exact hjun
    ·rw[getD_set_ne true hjk] at hkun;exact hkun
   ·exact hg.like (execOp_put oi (fun cs b=>hsel i oi cs b hi) a oj'.dst u p3) (wanted_put oi a oj'.dst u p3)
   ·rw[Array.setIfInBounds_comm _ _ hji,Act.put_comm a u v fun d hd=>fun e=>p2 d e hd]
    exact hn
def Zb0 (P:Program) (ops:Array Oper) (S:World→Prop) (Q:Act→Prop):List Oper→Act→Prop
 | [],a=>Q a
 | o::rest,a=>∃ v,Gives P ops S o v a∧Zb0 P ops S Q rest (a.put o.dst v)
theorem Zaw {Q:Act→Prop} {a:Act} (h:Q a):Zb0 P ops S Q [] a:=h
def Zea (o:Oper) (a:Act) (K:Value→Act→World→Prop):Result Next→Prop
 | .ok (.value v) w'=>K v (a.put o.dst v) w'
 | .ok .skip w'=>K undef (a.put o.dst undef) w'
 | _=>False
@[go_sem] theorem Zq0 (o:Oper) (a:Act) (K:Value→Act→World→Prop) (v:Value) (w:World):Zea o a K (.ok (.value v) w)=K v (a.put o.dst v) w:=rfl
@[go_sem] theorem Zrv (o:Oper) (a:Act) (K:Value→Act→World→Prop) (w:World):Zea o a K (.ok .skip w)=K undef (a.put o.dst undef) w:=rfl
def ZgI (P:Program) (K:Value→World→Prop):Result Next→Prop
 | .ok (.enter f args) w'=>Calls P f args w' fun e w''=>∃ v,e=.returned v∧K v w''
 | _=>False
@[go_sem] theorem Zqn (K:Value→World→Prop) (f:FuncId) (args:Array Value) (w:World):ZgI P K (.ok (.enter f args) w)=Calls P f args w fun e w''=>∃ v,e=.returned v∧K v w'':=rfl
theorem ZaC {Q:Act→Prop} {a a':Act} {o:Oper} {rest:List Oper} {v:Value} (hw0:∃w,S w)
  (h:∀(K:Value→Act→World→Prop) (w:World),S w→(∀ w',S w'→K v a' w')→if Region.wanted o (yielded ops a.tmps) then Zea o a K ((execOp a.eval o).run P w) else K undef (a.put o.dst undef) w)
  (next:Zb0 P ops S Q rest a'):Zb0 P ops S Q (o::rest) a:=by
 by_cases hw:Region.wanted o (yielded ops a.tmps)=true
 ·simp only[hw,if_true] at h
  have hput:a.put o.dst v=a':=by
   obtain⟨w,hS⟩:=hw0
   have:=h (fun u b _=>u=v∧b=a') w hS fun _ _=>⟨rfl,rfl⟩
   revert this
   generalize (execOp a.eval o).run P w=r
   cases r with
   | halt x w=>exact fun h=>False.elim h
   | ok n w =>
    cases n<;>try exact fun h=>False.elim h
    case value u=>rintro⟨rfl,hb⟩;exact hb
    case skip=>rintro⟨rfl,hb⟩;exact hb
  refine⟨v,.inl ⟨hw,fun w hS=>?_⟩,hput▸next⟩
  have:=h (fun u _ w'=>u=v∧S w') w hS fun w' hw'=>⟨rfl,hw'⟩
  revert this
  generalize (execOp a.eval o).run P w=r
  cases r with
  | halt x w=>exact fun h=>False.elim h
  | ok n w =>
   cases n<;>first | exact fun h=>False.elim h | exact fun h=>h
 ·simp only[hw] at h
  obtain⟨w,hS⟩:=hw0
  have hu:undef=v∧a.put o.dst undef=a':=by
   have:=h (fun u b _=>u=v∧b=a') w hS fun _ _=>⟨rfl,rfl⟩
   simpa using this
  exact⟨v,.inr ⟨by simpa using hw,hu.1.symm⟩,by rw[←hu.1,hu.2];exact next⟩
theorem Zam {Q:Act→Prop} {a:Act} {o:Oper} {rest:List Oper} {v:Value} (hw:Region.wanted o (yielded ops a.tmps)=true)
  (h:∀(K:Value→World→Prop) (w:World),S w→(∀ w',S w'→K v w')→ZgI P K ((execOp a.eval o).run P w))
  (next:Zb0 P ops S Q rest (a.put o.dst v)):Zb0 P ops S Q (o::rest) a:=by
 refine⟨v,.inl ⟨hw,fun w hS=>?_⟩,next⟩
 have:=h (fun u w'=>u=v∧S w') w hS fun w' hw'=>⟨rfl,hw'⟩
 revert this
 generalize (execOp a.eval o).run P w=r
 cases r with
 | halt x w=>exact fun h=>False.elim h
 | ok n w =>
  cases n<;>first | exact fun h=>False.elim h | exact fun h=>h
theorem ZjT {n g:Nat} {Lq:Act→Prop} (hsel:Region.noSelect ops=true) (hs:Region.sinkB md ops n=true) (hc:Region.chainB md ops n=true) (hn:n<ops.size) :
  ∀ (l:List Oper) (k:Nat) (listed:Array Bool) (a:Act),(∀ j,j<l.length→l[j]?=ops[k+j]?)→k+l.length=n→HeadInv md ops n listed →
  Region.lexHead md ops g l.length k listed=true→Zb0 P ops S Lq l a →
  anyG P md ops S n (fun listed' a'=>Region.seqB md ops g n listed'=true∧Lq a') l.length listed a
 | [],k,listed,a,_,hk,_,hB,h=>by
  obtain rfl:k=n:=by simpa using hk
  exact⟨by simpa [Region.lexHead] using hB,h⟩
 | o::l,k,listed,a,hl,hk,inv,hB,h=>by
  have h0:ops[k]?=some o:=by simpa using (hl 0 (by simp)).symm
  simp only[List.length_cons,Region.lexHead,Bool.and_eq_true] at hB
  obtain⟨⟨hr,hf⟩,hB'⟩:=hB
  have hkn:k<n:=by simp only[List.length_cons] at hk;omega
  have hr':k∈Region.ready md ops listed:=by simpa using hr
  obtain⟨v,hg,hK⟩:=h
  exact Zed h0 (Region.noSelect_spec hsel) hkn (fun listed' inv' hun=>tail_waits hs hc hn inv' _ k rfl hkn hun) (fun listed' a' hL=>seqB_ready hL.1) l.length listed a inv (Region.free_spec h0 hf) hr' hg
   (ZjT hsel hs hc hn l (k+1) _ _ (fun j hj=>by have:=hl (j+1) (by simp;omega);simpa [Nat.add_assoc,Nat.add_comm 1 j] using this) (by simp only[List.length_cons] at hk;omega) (inv.set hr' hkn) hB' hK)
theorem ZaV {id:Nat} {Q:Exit→Act→World→Prop} {a:Act} {w:World} {l:List Oper} (S:World→Prop) (n:Nat) (hm:P.follows .mixedOrders=true) (hB:Region.lexTailB .any l.toArray n=true)
  (hS:S { w with drawn:=w.drawn+1 }) (h:Zb0 P l.toArray S (fun a'=>∀ w',S w'→wpList P l.toArray Q (l.drop n) a' w') (l.take n) a):(Code.region id l.toArray true).wp P Q a w:=by
 simp only[Region.lexTailB,Bool.and_eq_true,decide_eq_true_eq] at hB
 obtain⟨⟨⟨⟨hsel,hn⟩,hs⟩,hc⟩,hlex⟩:=hB
 have hn':n<l.length:=by simpa using hn
 have htl:(l.take n).length=n:=by simp;omega
 have hdl:(l.drop n).length=l.toArray.size-n:=by simp
 have inv0:HeadInv .any l.toArray n (Array.replicate l.toArray.size false) :=
  ⟨by simp,fun j oj _ hl=>(by rw[getD_replicate_false] at hl;cases hl),fun t _ ht=>getD_in (by simpa using ht) (getD_replicate_false _ _)⟩
 have H:=ZjT (md:=.any) (g:=l.toArray.size-n) hsel hs hc hn (l.take n) 0 _ a (fun j hj=>by
  have hj':j<n:=by rw[htl] at hj;exact hj
  simp[hj']) (by simpa using htl) inv0 (by rw[htl];exact hlex) h
 refine wp_region_any hm ?_
 have:=ZbT (Q:=Q) (g:=l.toArray.size-n) (fun listed a' w' hL hS'=>by
  have:=wpAny_of_seq (md:=.any) (Q':=Q) (l.drop n) n listed a' w' (fun j=>by simp[List.getElem?_drop]) (by rw[hdl];exact hL.1) (hL.2 w' hS')
  rwa [hdl] at this) _ _ _ _ hS H
 rw[htl,show n+(l.toArray.size-n)=l.toArray.size by omega] at this
 exact this
theorem ZeT {listed:Array Bool} (_:HeadInv md ops ops.size listed):∀t,ops.size≤t→t∉Region.ready md ops listed:=fun t ht hr=>by
 obtain⟨_,o,ho,_⟩:=mem_ready.1 hr
 have:=(Array.getElem?_eq_some_iff.1 ho).1
 omega
theorem ZhQ {Lq:Act→Prop} (hsel:Region.noSelect ops=true) :
  ∀ (l:List Oper) (k:Nat) (listed:Array Bool) (a:Act),(∀ j,l[j]?=ops[k+j]?)→k+l.length=ops.size→HeadInv md ops ops.size listed →
  Region.lexFrom md ops l.length k listed=true→Zb0 P ops S Lq l a →
  anyG P md ops S ops.size (fun listed' a'=>Region.ready md ops listed'=[]∧Lq a') l.length listed a
 | [],k,listed,a,_,_,_,hB,h=>⟨by simpa [Region.lexFrom] using hB,h⟩
 | o::l,k,listed,a,hl,hk,inv,hB,h=>by
  have h0:ops[k]?=some o:=by simpa using (hl 0).symm
  simp only[List.length_cons,Region.lexFrom,Bool.and_eq_true] at hB
  obtain⟨⟨hr,hf⟩,hB'⟩:=hB
  have hkn:k<ops.size:=(Array.getElem?_eq_some_iff.1 h0).1
  have hr':k∈Region.ready md ops listed:=by simpa using hr
  obtain⟨v,hg,hK⟩:=h
  exact Zed h0 (Region.noSelect_spec hsel) hkn (fun listed' inv' _=>ZeT inv') (fun listed' a' hL j hj=>by rw[hL.1] at hj;cases hj) l.length listed a inv (Region.free_spec h0 hf) hr' hg
   (ZhQ hsel l (k+1) _ _ (fun j=>by have:=hl (j+1);simpa [Nat.add_assoc,Nat.add_comm 1 j] using this) (by simp only[List.length_cons] at hk;omega) (inv.set hr' hkn) hB' hK)
theorem Zep {id:Nat} {Q:Exit→Act→World→Prop} {a:Act} {w:World} {l:List Oper} (S:World→Prop) (hm:P.follows .mixedOrders=true) (hB:Region.lexB .any l.toArray=true)
  (hS:S { w with drawn:=w.drawn+1 }) (h:Zb0 P l.toArray S (fun a'=>∀ w',S w'→Q .normal a' w') l a):(Code.region id l.toArray true).wp P Q a w:=by
 simp only[Region.lexB,Bool.and_eq_true] at hB
 have inv0:HeadInv .any l.toArray l.toArray.size (Array.replicate l.toArray.size false) :=
  ⟨by simp,fun j oj _ hl=>(by rw[getD_replicate_false] at hl;cases hl),fun t _ ht=>getD_in (by simpa using ht) (getD_replicate_false _ _)⟩
 have H:=ZhQ (md:=.any) hB.1 l 0 _ a (fun j=>by simp) (by simp) inv0 (by simpa using hB.2) h
 refine wp_region_any hm ?_
 have:=ZbT (Q:=Q) (g:=0) (fun listed a' w' hL hS'=>⟨hL.1,hL.2 w' hS'⟩) _ _ _ _ hS H
 simpa using this
def Zs4 (md:Region.Mode) (ops:Array Oper) (n:Nat):Bool :=
 (List.range ops.size).all fun t=>decide (t<n)||Region.waitsFor md ops t (n-1)||(List.range ops.size).any fun u=>decide (n≤u)&&Region.waitsFor md ops t u
def midB (md:Region.Mode) (ops:Array Oper) (g:Nat):Nat→Nat→Array Bool→Bool
 | 0,k,listed=>Region.seqB md ops g k listed
 | m+1,k,listed=>(Region.ready md ops listed).contains k&&Region.free md ops listed k&&midB md ops g m (k+1) (listed.setIfInBounds k true)
def ZlW (md:Region.Mode) (ops:Array Oper) (g m:Nat):Nat→Nat→Array Bool→Bool
 | 0,k,listed=>midB md ops g m k listed
 | f+1,k,listed=>(Region.ready md ops listed).contains k&&Region.free md ops listed k&&ZlW md ops g m f (k+1) (listed.setIfInBounds k true)
def Zqb (md:Region.Mode) (ops:Array Oper) (n m:Nat):Bool :=
 Region.noSelect ops&&decide (1≤n)&&decide (n+m≤ops.size)&&Region.sinkB md ops (n-1)&&Zs4 md ops n&&ZlW md ops (ops.size-(n+m)) m n 0 (Array.replicate ops.size false)
theorem ZjD {n:Nat} {listed:Array Bool} (hs:Region.sinkB md ops (n-1)=true) (inv:HeadInv md ops n listed) (hl:listed.getD (n-1) false=true) :
  ∀ (d i:Nat),n-1-i=d→i≤n-1→listed.getD i false=true:=by
 intro d
 induction d using Nat.strongRecOn with
 | _ d ih =>
  intro i hd hi
  rcases Nat.lt_or_ge i (n-1) with h | h
  ·obtain⟨j,hj,hj2⟩:=List.any_eq_true.1 (List.all_eq_true.1 hs i (List.mem_range.2 h))
   simp only[Bool.and_eq_true,decide_eq_true_eq] at hj2
   obtain⟨oj,hoj,e,he,hb,hon⟩:=Region.waitsFor_spec hj2.2
   have hjle:j≤n-1:=by have:=List.mem_range.1 hj;omega
   have hjl:=ih (n-1-j) (by omega) j rfl hjle
   have:=inv.closed j oj hoj hjl e he hb
   rwa [hon] at this
  ·obtain rfl:i=n-1:=by omega
   exact hl
theorem Zjj {n:Nat} (hs:Region.sinkB md ops (n-1)=true) (ht:Zs4 md ops n=true) {i:Nat} (hi:i<n) (listed:Array Bool) (inv:HeadInv md ops n listed) (hun:listed.getD i true=false) :
  ∀ t,n≤t→t∉Region.ready md ops listed:=fun t hnt hr=>by
 obtain⟨_,ot,hot,hall⟩:=mem_ready.1 hr
 have htl:t<ops.size:=(Array.getElem?_eq_some_iff.1 hot).1
 have h1:=List.all_eq_true.1 ht t (List.mem_range.2 htl)
 simp only[Bool.or_eq_true,decide_eq_true_eq] at h1
 have key:∀u,Region.waitsFor md ops t u=true→listed.getD u false=true:=fun u hu=>by
  obtain⟨o',ho',e,he,hb,hon⟩:=Region.waitsFor_spec hu
  obtain rfl:o'=ot:=Option.some.inj (ho'.symm.trans hot)
  have:=hall e he hb
  rwa [hon] at this
 rcases h1 with (h1 | h1) | h1
 ·omega
 ·have h2:=ZjD hs inv (key _ h1) _ i rfl (by omega)
  rw[getD_both hun] at h2;cases h2
 ·obtain⟨u,hu,hu2⟩:=List.any_eq_true.1 h1
  simp only[Bool.and_eq_true,decide_eq_true_eq] at hu2
  have h2:=key u hu2.2
  rw[getD_both (inv.tail u hu2.1 (List.mem_range.1 hu))] at h2;cases h2
def ZeP (P:Program) (ops:Array Oper) (Q:Act→Prop):List Oper→Act→Prop
 | [],a=>Q a
 | o::rest,a=>∃ v,Yields P ops o v a∧ZeP P ops Q rest (a.put o.dst v)
theorem ZbN {Q:Act→Prop} {a:Act} (h:Q a):ZeP P ops Q [] a:=h
theorem ZdZ {Q:Act→Prop} {a a':Act} {o:Oper} {rest:List Oper} {v:Value}
  (h:∀(K:Value→Act→World→Prop) (w:World),(∀ w',K v a' w')→if Region.wanted o (yielded ops a.tmps) then Zea o a K ((execOp a.eval o).run P w) else K undef (a.put o.dst undef) w)
  (hw':∀w,Region.wanted o (yielded ops a.tmps)=true→(execOp a.eval o).run P w=.ok (.value v) w)
  (next:ZeP P ops Q rest a'):ZeP P ops Q (o::rest) a:=by
 by_cases hw:Region.wanted o (yielded ops a.tmps)=true
 ·simp only[hw,if_true] at h
  refine⟨v,.inl ⟨hw,fun w=>hw' w hw⟩,?_⟩
  have:=h (fun _ b _=>b=a') default fun _=>rfl
  rw[hw' default hw] at this
  exact this▸next
 ·simp only[hw] at h
  have:=h (fun u b _=>u=v∧b=a') default fun _=>⟨rfl,rfl⟩
  obtain⟨rfl,hb⟩:undef=v∧a.put o.dst undef=a':=by simpa using this
  exact⟨_,.inr ⟨by simpa using hw,rfl⟩,hb▸next⟩
theorem Zii {Q:Exit→Act→World→Prop} (hsel:Region.noSelect ops=true) (hQ:∀c a d v w,Q (.panic c) (Act.put a d v) w→Q (.panic c) a w) (w:World) :
  ∀ (m:Nat) (l:List Oper) (k:Nat) (listed:Array Bool) (a:Act),m≤l.length→(∀ j,l[j]?=ops[k+j]?)→midB md ops (l.length-m) m k listed=true →
  ZeP P ops (fun a'=>wpList P ops Q (l.drop m) a' w) (l.take m) a→wpAny P md ops Q l.length listed a w
 | 0,l,k,listed,a,_,hl,hB,h=>wpAny_of_seq l k listed a w hl (by simpa [midB] using hB) (by simpa [ZeP] using h)
 | m+1,[],k,listed,a,hm,_,_,_=>by simp at hm
 | m+1,o::l,k,listed,a,hm,hl,hB,h=>by
  have h0:ops[k]?=some o:=by simpa using (hl 0).symm
  simp only[List.length_cons,Nat.add_sub_add_right,midB,Bool.and_eq_true] at hB
  obtain⟨⟨hr,hf⟩,hB'⟩:=hB
  simp only[List.take_succ_cons,List.drop_succ_cons,ZeP] at h
  obtain⟨v,hy,hn⟩:=h
  exact wpAny_take h0 hsel hf hr (fun c a w=>hQ c a _ _ w) hy (Zii hsel hQ w m l (k+1) _ _ (by simpa using hm) (fun j=>by have:=hl (j+1);simpa [Nat.add_assoc,Nat.add_comm 1 j] using this) hB' hn)
theorem Zgn {n m g:Nat} {Lq:Act→Prop} (hsel:Region.noSelect ops=true) (hs:Region.sinkB md ops (n-1)=true) (ht:Zs4 md ops n=true) :
  ∀ (l:List Oper) (k:Nat) (listed:Array Bool) (a:Act),(∀ j,j<l.length→l[j]?=ops[k+j]?)→k+l.length=n→n≤ops.size→HeadInv md ops n listed→(∀ j,j<k→listed.getD j false=true) →
  ZlW md ops g m l.length k listed=true→Zb0 P ops S Lq l a →
  anyG P md ops S n (fun listed' a'=>midB md ops g m n listed'=true∧(∀ j,j<n→listed'.getD j false=true)∧Lq a') l.length listed a
 | [],k,listed,a,_,hk,_,_,hdn,hB,h=>by
  obtain rfl:k=n:=by simpa using hk
  exact⟨by simpa [ZlW] using hB,hdn,h⟩
 | o::l,k,listed,a,hl,hk,hns,inv,hdn,hB,h=>by
  have h0:ops[k]?=some o:=by simpa using (hl 0 (by simp)).symm
  simp only[List.length_cons,ZlW,Bool.and_eq_true] at hB
  obtain⟨⟨hr,hf⟩,hB'⟩:=hB
  have hkn:k<n:=by simp only[List.length_cons] at hk;omega
  have hr':k∈Region.ready md ops listed:=by simpa using hr
  obtain⟨v,hg,hK⟩:=h
  refine Zed h0 (Region.noSelect_spec hsel) hkn (fun listed' inv' hun=>Zjj hs ht hkn listed' inv' hun) (fun listed' a' hL j hj=>?_) l.length listed a inv (Region.free_spec h0 hf) hr' hg
   (Zgn hsel hs ht l (k+1) _ _ (fun j hj=>by have:=hl (j+1) (by simp;omega);simpa [Nat.add_assoc,Nat.add_comm 1 j] using this) (by simp only[List.length_cons] at hk;omega) hns (inv.set hr' hkn) (fun j hj=>?_) hB' hK)
  ·refine Nat.le_of_not_lt fun hjn=>?_
   have h1:=(mem_ready.1 hj).1
   have h2:=hL.2.1 j hjn
   rw[getD_both h1] at h2;cases h2
  ·by_cases hjk:j=k
   ·subst hjk
    have hlt:j<listed.size:=by rw[inv.size];exact(Array.getElem?_eq_some_iff.1 h0).1
    simp[hlt]
   ·exact getD_set_true (hdn j (by omega))
theorem Za3 {id:Nat} {Q:Exit→Act→World→Prop} {a:Act} {w:World} {l:List Oper} (S:World→Prop) (n m:Nat) (hm:P.follows .mixedOrders=true) (hB:Zqb .any l.toArray n m=true)
  (hQ:∀c a d v w,Q (.panic c) (Act.put a d v) w→Q (.panic c) a w) (hS:S { w with drawn:=w.drawn+1 })
  (h:Zb0 P l.toArray S (fun a'=>∀ w',S w'→ZeP P l.toArray (fun a''=>wpList P l.toArray Q ((l.drop n).drop m) a'' w') ((l.drop n).take m) a') (l.take n) a):(Code.region id l.toArray true).wp P Q a w:=by
 simp only[Zqb,Bool.and_eq_true,decide_eq_true_eq] at hB
 obtain⟨⟨⟨⟨⟨hsel,h1n⟩,hnm⟩,hs⟩,ht⟩,hhead⟩:=hB
 have hsz:l.toArray.size=l.length:=by simp
 have htl:(l.take n).length=n:=by simp;omega
 have hdl:(l.drop n).length=l.toArray.size-n:=by simp
 have inv0:HeadInv .any l.toArray n (Array.replicate l.toArray.size false) :=
  ⟨by simp,fun j oj _ hl=>(by rw[getD_replicate_false] at hl;cases hl),fun t _ ht=>getD_in (by simpa using ht) (getD_replicate_false _ _)⟩
 have H:=Zgn (md:=.any) (g:=l.toArray.size-(n+m)) (m:=m) hsel hs ht (l.take n) 0 _ a (fun j hj=>by
  have hj':j<n:=by rw[htl] at hj;exact hj
  simp[hj']) (by simpa using htl) (by omega) inv0 (fun j hj=>by omega) (by rw[htl];exact hhead) h
 refine wp_region_any hm ?_
 have:=ZbT (Q:=Q) (g:=l.toArray.size-n) (fun listed a' w' hL hS'=>by
  have:=Zii (md:=.any) (Q:=Q) hsel hQ w' m (l.drop n) n listed a' (by rw[hdl];omega) (fun j=>by simp[List.getElem?_drop]) (by rw[hdl,show l.toArray.size-n-m=l.toArray.size-(n+m) by omega];exact hL.1) (hL.2.2 w' hS')
  rwa [hdl] at this) _ _ _ _ hS H
 rw[htl,show n+(l.toArray.size-n)=l.toArray.size by omega] at this
 exact this
end
section
variable {P:Program} {ops:Array Oper} {S:World→Prop}
theorem Zaa {o:Oper} {y:Nat→Option Bool} (h:o.guard=none):Region.wanted o y=true:=by simp[Region.wanted,h]
theorem Zan {o:Oper} {tmps:Array Value} {g t:Nat} {b:Bool} (h:o.guard=some (g,b)) (hd:((ops[g]?).bind (·.dst))=some t) (hv:tmps[t]?=some (.bool b)):Region.wanted o (yielded ops tmps)=true:=by
 simp[Region.wanted,h,yielded,hd,hv]
theorem Zfa {o:Oper} {tmps:Array Value} {g t:Nat} {b:Bool} (h:o.guard=some (g,b)) (hd:((ops[g]?).bind (·.dst))=some t) (hv:tmps[t]?=some (.bool !b)):Region.wanted o (yielded ops tmps)=false:=by
 simp[Region.wanted,h,yielded,hd,hv]
theorem Zau {Q:Act→Prop} {a a':Act} {o:Oper} {rest:List Oper} {v:Value} (hw0:∃w,S w) (hw:Region.wanted o (yielded ops a.tmps)=true)
  (h:∀(K:Value→Act→World→Prop) (w:World),S w→(∀ w',S w'→K v a' w')→Zea o a K ((execOp a.eval o).run P w))
  (next:Zb0 P ops S Q rest a'):Zb0 P ops S Q (o::rest) a :=
 ZaC hw0 (fun K w hS hK=>by rw[if_pos hw];exact h K w hS hK) next
theorem Zc4 {Q:Act→Prop} {a:Act} {o:Oper} {rest:List Oper} (hw:Region.wanted o (yielded ops a.tmps)=false) (next:Zb0 P ops S Q rest (a.put o.dst undef)):Zb0 P ops S Q (o::rest) a :=
 ⟨undef,.inr ⟨hw,rfl⟩,next⟩
end
end Go.Hold
namespace Go
open Go.RowKit
def World.plus (w:World) (os:Array Obj) (d:Nat):World:={ w with heap:=w.heap++os,drawn:=d }
section
variable (w:World) (os:Array Obj) (d:Nat)
@[simp,go_sem] theorem World.size_plus:(w.plus os d).heap.size=w.heap.size+os.size:=by simp[World.plus]
theorem World.plus_block (k:Nat) (h:k<w.heap.size):(w.plus os d).heap[k]?=w.heap[k]?:=by
 show (w.heap++os)[k]?=w.heap[k]?
 rw[Array.getElem?_append_left h]
@[go_sem] theorem World.cell?_plus (n i:Nat) (h:n<w.heap.size):(w.plus os d).cell? ⟨n,i,none⟩=w.cell? ⟨n,i,none⟩:=World.cell?_of_block (World.plus_block w os d n h)
@[go_sem] theorem World.frozen?_plus (n i:Nat) (h:n<w.heap.size):(w.plus os d).frozen? ⟨n,i,none⟩=w.frozen? ⟨n,i,none⟩:=World.frozen?_of_block (World.plus_block w os d n h)
@[go_sem] theorem World.setCell_plus (n i:Nat) (v:Value) (h:n<w.heap.size):(w.plus os d).setCell ⟨n,i,none⟩ v=(w.setCell ⟨n,i,none⟩ v).plus os d:=by
 unfold World.setCell World.plus
 congr 1
 apply Array.ext_getElem?
 intro k
 simp only[Array.getElem?_modify]
 by_cases hk:k<w.heap.size
 ·rw[Array.getElem?_append_left hk,Array.getElem?_append_left (by simpa using hk),Array.getElem?_modify]
 ·have hk':w.heap.size≤k:=Nat.le_of_not_lt hk
  rw[if_neg (by omega),Array.getElem?_append_right hk',Array.getElem?_append_right (by simpa using hk')]
  simp
@[go_sem] theorem World.drew_plus:(w.plus os d).drew=w.plus os (d+1):=rfl
theorem ZaM {B:Nat} {a:World} (h:Below B a w) (hB:B≤w.heap.size):Below B a (w.plus os d) :=
 ⟨h.os,h.tape,h.output,by simp;have:=h.size;omega,fun k hk=>by rw[World.plus_block w os d k (by omega)];exact h.block k hk⟩
end
@[go_sem] theorem World.plus_plus (w:World) (o1 o2:Array Obj) (d1 d2:Nat):(w.plus o1 d1).plus o2 d2=w.plus (o1++o2) d2:=by
 unfold World.plus
 simp[Array.append_assoc]
@[go_sem] theorem ZvX (x s1:Nat):(x<x+1+s1)=True:=by simp only[eq_iff_iff,iff_true];omega
@[go_sem] theorem Zwv (x s1 s2:Nat):(x<x+1+s1+s2)=True:=by simp only[eq_iff_iff,iff_true];omega
@[go_sem] theorem Zwt (x s1 s2 s3:Nat):(x<x+1+s1+s2+s3)=True:=by simp only[eq_iff_iff,iff_true];omega
@[go_sem] theorem Zwg (x s1 s2 s3 s4:Nat):(x<x+1+s1+s2+s3+s4)=True:=by simp only[eq_iff_iff,iff_true];omega
@[go_sem] theorem Zv6 (x s1 s2 s3 s4 s5:Nat):(x<x+1+s1+s2+s3+s4+s5)=True:=by simp only[eq_iff_iff,iff_true];omega
@[go_sem] theorem Zwp (x s1 s2 s3 s4 s5 s6:Nat):(x<x+1+s1+s2+s3+s4+s5+s6)=True:=by simp only[eq_iff_iff,iff_true];omega
@[go_sem] theorem ZvW (x s1 s2 s3 s4 s5 s6 s7:Nat):(x<x+1+s1+s2+s3+s4+s5+s6+s7)=True:=by simp only[eq_iff_iff,iff_true];omega
@[go_sem] theorem ZvU (x s1 s2 s3 s4 s5 s6 s7 s8:Nat):(x<x+1+s1+s2+s3+s4+s5+s6+s7+s8)=True:=by simp only[eq_iff_iff,iff_true];omega
@[go_sem] theorem Zwh (x s1 s2 s3 s4 s5 s6 s7 s8 s9:Nat):(x<x+1+s1+s2+s3+s4+s5+s6+s7+s8+s9)=True:=by simp only[eq_iff_iff,iff_true];omega
@[go_sem] theorem Zvl (x s1 s2 s3 s4 s5 s6 s7 s8 s9 s10:Nat):(x<x+1+s1+s2+s3+s4+s5+s6+s7+s8+s9+s10)=True:=by simp only[eq_iff_iff,iff_true];omega
@[go_sem] theorem ZuC (x s1 s2 s3 s4 s5 s6 s7 s8 s9 s10 s11:Nat):(x<x+1+s1+s2+s3+s4+s5+s6+s7+s8+s9+s10+s11)=True:=by simp only[eq_iff_iff,iff_true];omega
@[go_sem] theorem Zt3 (x s1 s2 s3 s4 s5 s6 s7 s8 s9 s10 s11 s12:Nat):(x<x+1+s1+s2+s3+s4+s5+s6+s7+s8+s9+s10+s11+s12)=True:=by simp only[eq_iff_iff,iff_true];omega
theorem Zab {a w:World} (h:Below a.heap.size a w) (o:Obj):Below a.heap.size a (w.alloc o):=h.alloc h.size o
theorem Zag {a w:World} (h:Below a.heap.size a w) (os:Array Obj) (d:Nat):Below a.heap.size a (w.plus os d):=ZaM w os d h h.size
theorem Zac {a w:World} (h:Below a.heap.size a w) {g:Nat} (hg:a.heap.size≤g) (cs:Array Value):Below a.heap.size a (w.setRow g cs) :=
 ⟨h.os,h.tape,h.output,by rw[size_setRow];exact h.size,fun k hk=>by rw[setRow_other w g k cs (by omega)];exact h.block k hk⟩
theorem Zas (w:World) (o:Obj):(w.alloc o).heap[w.heap.size]?=some o:=heap_alloc_new w o
theorem Zfx (w:World) (o:Obj) {i:Nat} (h:i<w.heap.size):(w.alloc o).heap[i]?=w.heap[i]?:=Below.heap_alloc w o i h
theorem Zaf {w w':World} (h:Below w.heap.size w w'):∃os d,w'=w.plus os d:=by
 refine⟨w'.heap.extract w.heap.size w'.heap.size,w'.drawn,?_⟩
 obtain⟨heap,tape,drawn,wos,output⟩:=w
 obtain⟨heap',tape',drawn',wos',output'⟩:=w'
 have h1:=h.os;have h2:=h.tape;have h3:=h.output;have h4:=h.size;have h5:=h.block
 simp only at h1 h2 h3 h4 h5
 subst h1;subst h2;subst h3
 show (World.mk heap' tape' drawn' wos' output')=World.mk (heap++heap'.extract heap.size heap'.size) tape' drawn' wos' output'
 congr 1
 apply Array.ext_getElem?
 intro k
 by_cases hk:k<heap.size
 ·rw[Array.getElem?_append_left hk];exact h5 k hk
 ·rw[Array.getElem?_append_right (by omega),Array.getElem?_extract]
  by_cases hk':k<heap'.size
  ·rw[if_pos (by omega)];congr 1;omega
  ·rw[if_neg (by omega),Array.getElem?_eq_none (by omega)]
end Go
namespace Go.Hold
open Go Go.RowKit
section
variable {P:Program} {ops:Array Oper} {md:Region.Mode} {W:World} {n:Nat}
abbrev ptr (g:Nat):Value:=.pointer (some ⟨g,0,none⟩)
def GivesB (P:Program) (ops:Array Oper) (W:World) (o:Oper) (v:Value) (a:Act):Prop :=
 (Region.wanted o (yielded ops a.tmps)=true∧∀ w,Below W.heap.size W w→Zdu P o a (fun u _ w'=>u=v∧Below w.heap.size w w') ((execOp a.eval o).run P w)) ∨
 (Region.wanted o (yielded ops a.tmps)=false∧v=undef)
theorem GivesB.like {o:Oper} {v:Value} {a a':Act} (h:GivesB P ops W o v a) (he:execOp a'.eval o=execOp a.eval o)
  (hw:Region.wanted o (yielded ops a'.tmps)=Region.wanted o (yielded ops a.tmps)):GivesB P ops W o v a':=by
 rcases h with ⟨h1,h2⟩ | ⟨h1,h2⟩
 ·exact .inl ⟨hw▸h1,fun w hS=>by rw[he];exact Zgg (fun _ _ h=>h) _ (h2 w hS)⟩
 ·exact .inr ⟨hw▸h1,h2⟩
theorem GivesB.wpOp {i:Nat} {o:Oper} {v:Value} {a:Act} {Q:Exit→Act→World→Prop} (hi:ops[i]?=some o) (hg:GivesB P ops W o v a) {K:Act→World→Prop} {w:World} (hS:Below W.heap.size W w)
  (h:∀w',Below w.heap.size w w'→K (a.put o.dst v) w'):wpOp P ops Q i K a w:=by
 unfold Go.wpOp
 simp only[hi]
 rcases hg with ⟨hw,hv⟩ | ⟨hw,rfl⟩
 ·simp only[hw,if_true]
  refine .inl ?_
  have hv:=hv w hS
  unfold Oper.wp
  generalize (execOp a.eval o).run P w=r at hv
  cases r with
  | halt x w=>exact False.elim hv
  | ok n w1 =>
   cases n<;>try exact False.elim hv
   case value u=>obtain⟨rfl,hs⟩:=hv;exact h _ hs
   case skip=>obtain⟨rfl,hs⟩:=hv;exact h _ hs
   case enter f args =>
    refine Calls.mono (P:=P) hv ?_
    rintro e w'' ⟨u,rfl,rfl,hs⟩
    exact h _ hs
 ·simp only[hw,Bool.false_eq_true,if_false]
  exact h w (Below.refl _ _)
def Lays (P:Program) (o:Oper) (t:TypeId) (z:Array Value):Prop :=
 o.guard=none∧∀ (a:Act) (w:World),(execOp a.eval o).run P w=.ok (.value (ptr w.heap.size)) (w.alloc (.cells z t))
abbrev Got:=Nat→Option Nat
def Got.put (al:Got) (i g:Nat):Got:=fun j=>if j=i then some g else al j
theorem Got.put_comm (al:Got) {i j:Nat} (h:i≠j) (g g':Nat):(al.put i g).put j g'=(al.put j g').put i g:=by
 funext k
 unfold Got.put
 by_cases h1:k=j<;>by_cases h2:k=i<;>simp_all
def Got.Fresh (al:Got) (g:Nat):Prop:=∀ j,al j≠some g
def Got.Bounded (al:Got):Prop:=∃ N,∀ j g,al j=some g→g<N
theorem Got.Bounded.put {al:Got} (h:al.Bounded) (i g:Nat):(al.put i g).Bounded:=by
 obtain⟨N,hN⟩:=h
 refine⟨max N (g+1),fun j g' hj=>?_⟩
 unfold Got.put at hj
 split at hj
 ·cases hj;omega
 ·have:=hN j g' hj;omega
variable (info:Nat→Option (TypeId×Array Value)) (vals:Nat→Value)
def anyB (P:Program) (md:Region.Mode) (ops:Array Oper) (W:World) (n:Nat) (L:Got→Array Bool→Act→Prop):Nat→Got→Array Bool→Act→Prop
 | 0,al,listed,a=>L al listed a
 | f+1,al,listed,a=>Region.ready md ops listed≠[]∧∀ i∈Region.ready md ops listed,i<n∧∃ o,ops[i]?=some o ∧
  (info i=none→GivesB P ops W o (vals i) a∧anyB P md ops W n L f al (listed.setIfInBounds i true) (a.put o.dst (vals i))) ∧
  (∀ t z,info i=some (t,z)→Lays P o t z∧∀ g,W.heap.size≤g→al.Fresh g→anyB P md ops W n L f (al.put i g) (listed.setIfInBounds i true) (a.put o.dst (ptr g)))
def Facts (W:World) (al:Got) (w:World):Prop:=∀ i g,al i=some g→W.heap.size≤g∧∃ t z,info i=some (t,z)∧w.heap[g]?=some (.cells z t (0,0))
theorem Facts.grow {al:Got} {w w':World} (h:Facts info W al w) (hb:Below w.heap.size w w'):Facts info W al w':=fun i g hg=>by
 obtain⟨h1,t,z,h2,h3⟩:=h i g hg
 exact⟨h1,t,z,h2,by rw[hb.block g (Array.getElem?_eq_some_iff.1 h3).1];exact h3⟩
theorem Zc6 {r:Nat} {L:Got→Array Bool→Act→Prop} {Q:Exit→Act→World→Prop}
  (hL:∀al listed a w,L al listed a→Below W.heap.size W w→Facts info W al w→wpAny P md ops Q r listed a w) :
  ∀ (f:Nat) (al:Got) (listed:Array Bool) (a:Act) (w:World),Below W.heap.size W w→Facts info W al w→anyB info vals P md ops W n L f al listed a→wpAny P md ops Q (f+r) listed a w
 | 0,al,listed,a,w,hS,hF,h=>by rw[Nat.zero_add];exact hL _ _ _ _ h hS hF
 | f+1,al,listed,a,w,hS,hF,h=>by
  rw[show f+1+r=(f+r)+1 by omega]
  refine⟨fun h0=>absurd h0 h.1,fun i hi=>?_⟩
  obtain⟨_,o,ho,hd,hA⟩:=h.2 i hi
  cases hinf:info i with
  | none =>
   obtain⟨hg,hn⟩:=hd hinf
   exact hg.wpOp ho hS fun w' hb=>Zc6 hL f al _ _ w' (hS.trans (hb.mono hS.size)) (hF.grow info hb) hn
  | some tz =>
   obtain⟨t,z⟩:=tz
   obtain⟨⟨hgd,hrun⟩,hn⟩:=hA t z hinf
   have hfresh:al.Fresh w.heap.size:=fun j hj=>by
    obtain⟨_,t',z',_,h3⟩:=hF j _ hj
    have:=(Array.getElem?_eq_some_iff.1 h3).1
    omega
   unfold Go.wpOp
   simp only[ho,Zaa hgd,if_true,Oper.wp,hrun a w,Oper.upon]
   refine .inl (Zc6 hL f _ _ _ _ (hS.alloc hS.size _) ?_ (hn w.heap.size hS.size hfresh))
   intro j g hj
   unfold Got.put at hj
   split at hj
   ·rename_i e;cases hj;subst e;exact⟨hS.size,t,z,hinf,Zas w _⟩
   ·exact Facts.grow info hF ((Below.refl _ _).alloc (Nat.le_refl _) _) j g hj
def DoB (P:Program) (md:Region.Mode) (ops:Array Oper) (W:World) (n:Nat) (L:Got→Array Bool→Act→Prop) (i:Nat) (o:Oper) (f:Nat) (al:Got) (listed:Array Bool) (a:Act):Prop :=
 (info i=none→GivesB P ops W o (vals i) a∧anyB info vals P md ops W n L f al (listed.setIfInBounds i true) (a.put o.dst (vals i))) ∧
 (∀ t z,info i=some (t,z)→Lays P o t z∧∀ g,W.heap.size≤g→al.Fresh g→anyB info vals P md ops W n L f (al.put i g) (listed.setIfInBounds i true) (a.put o.dst (ptr g)))
theorem Zih {i:Nat} {oi:Oper} {L:Got→Array Bool→Act→Prop} (hi:ops[i]?=some oi) (hsel:∀(j:Nat) (o:Oper) cs b,ops[j]?=some o→o.op≠.select cs b) (hin:i<n)
  (hwait:∀listed,HeadInv md ops n listed→listed.getD i true=false→∀ t,n≤t→t∉Region.ready md ops listed) (hdone:∀al listed a,L al listed a→∀ j∈Region.ready md ops listed,n≤j) :
  ∀ (f:Nat) (al:Got) (listed:Array Bool) (a:Act),al.Bounded→(∀ k,listed.getD k true=false→al k=none)→HeadInv md ops n listed →
   (∀ j oj,ops[j]?=some oj→j≠i→listed.getD j true=false→(∀ e∈oj.after,Region.binds md e=true→e.on≠i)→oi.apart ops oj=true) →
   i∈Region.ready md ops listed→DoB info vals P md ops W n L i oi f al listed a→anyB info vals P md ops W n L (f+1) al listed a:=by
 intro f
 induction f with
 | zero =>
  intro al listed a hbd _ inv _ hr H
  refine⟨fun h=>(by rw[h] at hr;cases hr),fun j hj=>?_⟩
  have hjn:j<n:=Nat.lt_of_not_le fun h=>hwait listed inv (mem_ready.1 hr).1 j h hj
  by_cases hji:j=i
  ·subst hji;exact⟨hjn,oi,hi,H⟩
  ·exfalso
   obtain⟨N,hN⟩:=hbd
   cases hinf:info i with
   | none=>have:=hdone _ _ _ (H.1 hinf).2 j (ready_mono hj hji);omega
   | some tz =>
    have:=hdone _ _ _ ((H.2 tz.1 tz.2 hinf).2 (max N W.heap.size) (by omega) (fun k hk=>by have:=hN k _ hk;omega)) j (ready_mono hj hji)
    omega
 | succ f ih =>
  intro al listed a hbd hal inv hfree hr H
  have hun:=(mem_ready.1 hr).1
  refine⟨fun h=>(by rw[h] at hr;cases hr),fun j hj=>?_⟩
  have hjn:j<n:=Nat.lt_of_not_le fun h=>hwait listed inv hun j h hj
  by_cases hji:j=i
  ·subst hji;exact⟨hjn,oi,hi,H⟩
  ·obtain⟨hjun,oj,hoj,hall⟩:=mem_ready.1 hj
   have hnot:∀e∈oj.after,Region.binds md e=true→e.on≠i:=fun e he hb heq=>by
    have h1:=hall e he hb
    rw[heq,getD_both hun] at h1
    cases h1
   obtain⟨p1,p2,p3⟩:=Oper.apart_spec (hfree j oj hoj hji hjun hnot)
   have hfree':∀k ok,ops[k]?=some ok→k≠i→(listed.setIfInBounds j true).getD k true=false→(∀ e∈ok.after,Region.binds md e=true→e.on≠i)→oi.apart ops ok=true:=fun k ok hk hki hkun hno=>by
    refine hfree k ok hk hki ?_ hno
    by_cases hjk:j=k
    ·subst hjk;exact hjun
    ·rw[getD_set_ne true hjk] at hkun;exact hkun
   have hri:=ready_mono hr (Ne.symm hji)
   have hal0:∀k,(listed.setIfInBounds j true).getD k true=false→al k=none:=fun k hk=>hal k (by
    by_cases hjk:j=k
    ·subst hjk;exact hjun
    ·rw[getD_set_ne true hjk] at hk;exact hk)
   have hjs:j<listed.size:=by rw[inv.size];exact(Array.getElem?_eq_some_iff.1 hoj).1
   have hal1:∀g k,(listed.setIfInBounds j true).getD k true=false→(al.put j g) k=none:=fun g k hk=>by
    by_cases hjk:k=j
    ·subst hjk;simp[hjs] at hk
    ·unfold Got.put;rw[if_neg hjk];exact hal0 k hk
   have hset:(listed.setIfInBounds i true).setIfInBounds j true=(listed.setIfInBounds j true).setIfInBounds i true:=Array.setIfInBounds_comm _ _ (Ne.symm hji)
   have hput:∀v u,(a.put oi.dst v).put oj.dst u=(a.put oj.dst u).put oi.dst v:=fun v u=>Act.put_comm a v u fun d hd=>p2 d hd
   have back:∀v u,GivesB P ops W oj u (a.put oi.dst v)→GivesB P ops W oj u a:=fun v u h=>h.like (execOp_put oj (fun cs b=>hsel j oj cs b hoj) a oi.dst v p1).symm (wanted_put oj a oi.dst v p1).symm
   have ahead:∀u,GivesB P ops W oi (vals i) a→GivesB P ops W oi (vals i) (a.put oj.dst u):=fun u h=>h.like (execOp_put oi (fun cs b=>hsel i oi cs b hi) a oj.dst u p3) (wanted_put oi a oj.dst u p3)
   have same:∀{o':Oper},ops[j]?=some o'→o'=oj:=fun h=>Option.some.inj (h.symm.trans hoj)
   refine⟨hjn,oj,hoj,fun hnj=>?_,fun t z hsj=>?_⟩
   ·cases hinf:info i with
    | none =>
     obtain⟨hgi,Hn⟩:=H.1 hinf
     obtain⟨_,o',ho',hd,_⟩:=Hn.2 j (ready_mono hj hji)
     obtain rfl:=same ho'
     obtain⟨hgj,hn⟩:=hd hnj
     refine⟨back _ _ hgj,ih al _ _ hbd hal0 (inv.set hj hjn) hfree' hri ⟨fun _=>⟨ahead _ hgi,?_⟩,fun t z h=>by rw[hinf] at h;cases h⟩⟩
     rw[←hset,←hput];exact hn
    | some tz =>
     obtain⟨hl,Hn⟩:=H.2 tz.1 tz.2 hinf
     obtain⟨N,hN⟩:=hbd
     obtain⟨_,o0,ho0,hd0,_⟩:=(Hn (max N W.heap.size) (by omega) (fun k hk=>by have:=hN k _ hk;omega)).2 j (ready_mono hj hji)
     obtain rfl:=same ho0
     refine⟨back _ _ (hd0 hnj).1,ih al _ _ ⟨N,hN⟩ hal0 (inv.set hj hjn) hfree' hri ⟨fun h=>(by rw[hinf] at h;cases h),fun t z h=>?_⟩⟩
     obtain rfl:tz=(t,z):=Option.some.inj (hinf.symm.trans h)
     refine⟨hl,fun g hg hfr=>?_⟩
     obtain⟨_,o',ho',hd,_⟩:=(Hn g hg hfr).2 j (ready_mono hj hji)
     obtain rfl:=same ho'
     rw[←hset,←hput];exact(hd hnj).2
   ·cases hinf:info i with
    | none =>
     obtain⟨hgi,Hn⟩:=H.1 hinf
     obtain⟨_,o',ho',_,hA⟩:=Hn.2 j (ready_mono hj hji)
     obtain rfl:=same ho'
     obtain⟨hl,hn⟩:=hA t z hsj
     refine⟨hl,fun g hg hfr=>ih (al.put j g) _ _ (hbd.put j g) (hal1 g) (inv.set hj hjn) hfree' hri ⟨fun _=>⟨ahead _ hgi,?_⟩,fun t z h=>by rw[hinf] at h;cases h⟩⟩
     rw[←hset,←hput];exact hn g hg hfr
    | some tz =>
     obtain⟨hl,Hn⟩:=H.2 tz.1 tz.2 hinf
     obtain⟨N,hN⟩:=hbd
     obtain⟨_,o0,ho0,_,hA0⟩:=(Hn (max N W.heap.size) (by omega) (fun k hk=>by have:=hN k _ hk;omega)).2 j (ready_mono hj hji)
     obtain rfl:=same ho0
     refine⟨(hA0 t z hsj).1,fun g hg hfr=>ih (al.put j g) _ _ (Got.Bounded.put ⟨N,hN⟩ j g) (hal1 g) (inv.set hj hjn) hfree' hri ⟨fun h=>(by rw[hinf] at h;cases h),fun t' z' h=>?_⟩⟩
     obtain rfl:tz=(t',z'):=Option.some.inj (hinf.symm.trans h)
     refine⟨hl,fun g' hg' hfr'=>?_⟩
     have hfr1:al.Fresh g':=fun k hk=>by
      by_cases hkj:k=j
      ·subst hkj;rw[hal k hjun] at hk;cases hk
      ·have:=hfr' k;unfold Got.put at this;rw[if_neg hkj] at this;exact this hk
     have hne:g≠g':=fun e=>by
      have:=hfr' j;unfold Got.put at this;rw[if_pos rfl] at this;exact this (by rw[e])
     have hfr2:(al.put i g').Fresh g:=fun k hk=>by
      unfold Got.put at hk
      split at hk
      ·exact hne (Option.some.inj hk).symm
      ·exact hfr k hk
     obtain⟨_,o',ho',_,hA⟩:=(Hn g' hg' hfr1).2 j (ready_mono hj hji)
     obtain rfl:=same ho'
     rw[←hset,←hput,←Got.put_comm al (Ne.symm hji) g' g]
     exact(hA t z hsj).2 g hg hfr2
end
section
variable {P:Program} {ops:Array Oper} {md:Region.Mode} {W:World}
def Zdn (P:Program) (ops:Array Oper) (W:World) (Q:Act→Prop):List Oper→Act→Prop
 | [],a=>Q a
 | o::rest,a=>∃ v,GivesB P ops W o v a∧Zdn P ops W Q rest (a.put o.dst v)
theorem Zbs {Q:Act→Prop} {a:Act} (h:Q a):Zdn P ops W Q [] a:=h
theorem Za0 {Q:Act→Prop} {a a':Act} {o:Oper} {rest:List Oper} {v:Value} (hw:Region.wanted o (yielded ops a.tmps)=true)
  (h:∀(K:Value→Act→World→Prop) (os:Array Obj) (d:Nat),(∀ w',Below (W.plus os d).heap.size (W.plus os d) w'→K v a' w')→Zea o a K ((execOp a.eval o).run P (W.plus os d)))
  (next:Zdn P ops W Q rest a'):Zdn P ops W Q (o::rest) a:=by
 have hput:a.put o.dst v=a':=by
  have:=h (fun u b _=>u=v∧b=a') #[] 0 fun _ _=>⟨rfl,rfl⟩
  revert this
  generalize (execOp a.eval o).run P (W.plus #[] 0)=r
  cases r with
  | halt x w=>exact fun h=>False.elim h
  | ok n w =>
   cases n<;>try exact fun h=>False.elim h
   case value u=>rintro⟨rfl,hb⟩;exact hb
   case skip=>rintro⟨rfl,hb⟩;exact hb
 refine⟨v,.inl ⟨hw,fun w hb=>?_⟩,hput▸next⟩
 obtain⟨os,d,rfl⟩:=Zaf hb
 have:=h (fun u _ w'=>u=v∧Below (W.plus os d).heap.size (W.plus os d) w') os d fun w' hw'=>⟨rfl,hw'⟩
 revert this
 generalize (execOp a.eval o).run P (W.plus os d)=r
 cases r with
 | halt x w=>exact fun h=>False.elim h
 | ok n w=>cases n<;>first | exact fun h=>False.elim h | exact fun h=>h
theorem ZaY {Q:Act→Prop} {a:Act} {o:Oper} {rest:List Oper} {v:Value} (hw:Region.wanted o (yielded ops a.tmps)=true)
  (h:∀(K:Value→World→Prop) (os:Array Obj) (d:Nat),(∀ w',Below (W.plus os d).heap.size (W.plus os d) w'→K v w')→ZgI P K ((execOp a.eval o).run P (W.plus os d)))
  (next:Zdn P ops W Q rest (a.put o.dst v)):Zdn P ops W Q (o::rest) a:=by
 refine⟨v,.inl ⟨hw,fun w hb=>?_⟩,next⟩
 obtain⟨os,d,rfl⟩:=Zaf hb
 have:=h (fun u w'=>u=v∧Below (W.plus os d).heap.size (W.plus os d) w') os d fun w' hw'=>⟨rfl,hw'⟩
 revert this
 generalize (execOp a.eval o).run P (W.plus os d)=r
 cases r with
 | halt x w=>exact fun h=>False.elim h
 | ok n w=>cases n<;>first | exact fun h=>False.elim h | exact fun h=>h
def Zgb (P:Program) (W:World) (Q:List Nat→Act→Prop):List Oper→List (TypeId×Array Value)→List Nat→Act→Prop
 | [],[],gs,a=>Q gs a
 | o::l,(t,z)::zs,gs,a=>Lays P o t z∧∀ g,W.heap.size≤g→g∉gs→Zgb P W Q l zs (gs++[g]) (a.put o.dst (ptr g))
 | _,_,_,_=>False
def Zfg (md:Region.Mode) (ops:Array Oper) (N:Nat):Bool :=
 (List.range ops.size).all fun t=>decide (t<N)||((List.range N).all fun i=>Region.waitsFor md ops t i||(List.range N).any fun j=>decide (i<j)&&Region.waitsFor md ops j i)||(List.range ops.size).any fun u=>decide (N≤u)&&Region.waitsFor md ops t u
def ZuO (md:Region.Mode) (ops:Array Oper) (N:Nat):Bool :=
 Region.noSelect ops&&decide (N≤ops.size)&&Zfg md ops N&&Region.lexHead md ops (ops.size-N) N 0 (Array.replicate ops.size false)
theorem Zft {N:Nat} (ht:Zfg md ops N=true) {i:Nat} (hi:i<N) (listed:Array Bool) (inv:HeadInv md ops N listed) (hun:listed.getD i true=false) :
  ∀ t,N≤t→t∉Region.ready md ops listed:=fun t hnt hr=>by
 obtain⟨_,ot,hot,hall⟩:=mem_ready.1 hr
 have htl:t<ops.size:=(Array.getElem?_eq_some_iff.1 hot).1
 have h1:=List.all_eq_true.1 ht t (List.mem_range.2 htl)
 simp only[Bool.or_eq_true,decide_eq_true_eq] at h1
 have key:∀u,Region.waitsFor md ops t u=true→listed.getD u false=true:=fun u hu=>by
  obtain⟨o',ho',e,he,hb,hon⟩:=Region.waitsFor_spec hu
  obtain rfl:o'=ot:=Option.some.inj (ho'.symm.trans hot)
  have:=hall e he hb
  rwa [hon] at this
 rcases h1 with (h1 | h1) | h1
 ·omega
 ·have up:∀(d k:Nat),N-k=d→k<N→listed.getD k true=false→False:=by
   intro d
   induction d using Nat.strongRecOn with
   | _ d ih =>
    intro k hd hk hku
    have h2:=List.all_eq_true.1 h1 k (List.mem_range.2 hk)
    rcases Bool.or_eq_true_iff.1 h2 with h2 | h2
    ·have:=key k h2;rw[getD_both hku] at this;cases this
    ·obtain⟨j,hj,hj2⟩:=List.any_eq_true.1 h2
     simp only[Bool.and_eq_true,decide_eq_true_eq] at hj2
     have hjN:=List.mem_range.1 hj
     obtain⟨oj,hoj,e,he,hb,hon⟩:=Region.waitsFor_spec hj2.2
     have hjs:j<listed.size:=by rw[inv.size];exact(Array.getElem?_eq_some_iff.1 hoj).1
     cases hl:listed.getD j false with
     | true =>
      have:=inv.closed j oj hoj hl e he hb
      rw[hon,getD_both hku] at this;cases this
     | false=>exact ih (N-j) (by omega) j rfl hjN (getD_in hjs hl)
  exact up _ i rfl hi hun
 ·obtain⟨u,hu,hu2⟩:=List.any_eq_true.1 h1
  simp only[Bool.and_eq_true,decide_eq_true_eq] at hu2
  have h2:=key u hu2.2
  rw[getD_both (inv.tail u hu2.1 (List.mem_range.1 hu))] at h2;cases h2
def Zlz (P:Program) (ops:Array Oper) (W:World) (Q:Act→Prop):List Oper→List Value→Act→Prop
 | [],[],a=>Q a
 | o::l,v::vs,a=>GivesB P ops W o v a∧Zlz P ops W Q l vs (a.put o.dst v)
 | _,_,_=>False
theorem Zl6 {Q:Act→Prop}:∀(l:List Oper) (a:Act),Zdn P ops W Q l a→∃ vs,vs.length=l.length∧Zlz P ops W Q l vs a
 | [],_,h=>⟨[],rfl,h⟩
 | o::l,a,⟨v,hg,hn⟩=>by
  obtain⟨vs,hl,hc⟩:=Zl6 l _ hn
  exact⟨v::vs,by simp[hl],hg,hc⟩
section
variable {n N r:Nat} {zs:List (TypeId×Array Value)} {vs:List Value} {Qf:List Nat→Act→Prop}
def Left (md:Region.Mode) (ops:Array Oper) (n N r:Nat) (zs:List (TypeId×Array Value)) (Qf:List Nat→Act→Prop) (al:Got) (listed:Array Bool) (a:Act):Prop :=
 Region.seqB md ops r N listed=true∧∃ gs:List Nat,gs.length=zs.length∧(∀ k,al (n+k)=gs[k]?)∧Qf gs a
def ZeQ (n:Nat) (zs:List (TypeId×Array Value)) (i:Nat):Option (TypeId×Array Value):=if i<n then none else zs[i-n]?
theorem ZhY (hsel:Region.noSelect ops=true) (ht:Zfg md ops N=true) (hN:N≤ops.size) (hnm:n+zs.length=N) :
  ∀ (l:List Oper) (rest:List (TypeId×Array Value)) (gs:List Nat) (listed:Array Bool) (al:Got) (a:Act),gs.length+l.length=zs.length→(∀ j,j<l.length→l[j]?=ops[n+gs.length+j]?) →
  zs.drop gs.length=rest→(∀ k,al (n+k)=gs[k]?)→(∀ k,k<n→al k=none)→HeadInv md ops N listed→(∀ k,listed.getD k true=false→al k=none)→al.Bounded →
  Region.lexHead md ops r l.length (n+gs.length) listed=true→Zgb P W Qf l rest gs a →
  anyB (ZeQ n zs) (fun i=>vs.getD i undef) P md ops W N (Left md ops n N r zs Qf) l.length al listed a
 | [],rest,gs,listed,al,a,hlen,_,hd,hal,_,_,_,_,hB,h=>by
  have hgl:gs.length=zs.length:=by simpa using hlen
  have:rest=[]:=by rw[←hd,hgl,List.drop_length]
  subst this
  refine⟨?_,gs,hgl,hal,h⟩
  simp only[List.length_nil,Region.lexHead] at hB
  rwa [hgl,hnm] at hB
 | o::l,rest,gs,listed,al,a,hlen,hl,hd,hal,hal0,inv,halL,hbd,hB,h=>by
  have h0:ops[n+gs.length]?=some o:=by simpa using (hl 0 (by simp)).symm
  simp only[List.length_cons,Region.lexHead,Bool.and_eq_true] at hB
  obtain⟨⟨hr,hf⟩,hB'⟩:=hB
  have hr':n+gs.length∈Region.ready md ops listed:=by simpa using hr
  simp only[List.length_cons] at hlen
  have hk:n+gs.length<N:=by omega
  cases rest with
  | nil=>exact False.elim h
  | cons tz rest =>
   obtain⟨t,z⟩:=tz
   obtain⟨hlay,hn⟩:=h
   have hz:zs[gs.length]?=some (t,z):=by
    have:=congrArg (fun x=>x[0]?) hd
    simpa using this
   have hinf:ZeQ n zs (n+gs.length)=some (t,z):=by unfold ZeQ;rw[if_neg (by omega),Nat.add_sub_cancel_left];exact hz
   refine Zih _ _ h0 (Region.noSelect_spec hsel) hk (fun listed' inv' hun=>Zft ht hk listed' inv' hun) (fun al' listed' a' hL=>seqB_ready hL.1) l.length al listed a hbd halL inv (Region.free_spec h0 hf) hr'
    ⟨fun hno=>(by rw[hinf] at hno;cases hno),fun t' z' he=>?_⟩
   obtain⟨rfl,rfl⟩:t=t'∧z=z':=by rw[hinf] at he;simpa using he
   refine⟨hlay,fun g hg hfr=>?_⟩
   have hgs:g∉gs:=fun hm=>by
    obtain⟨k,hk1⟩:=List.mem_iff_getElem?.1 hm
    exact hfr (n+k) (by rw[hal k,hk1])
   have hsz:n+gs.length<listed.size:=by rw[inv.size];omega
   have hlen1:(gs++[g]).length=gs.length+1:=by simp
   refine ZhY hsel ht hN hnm l rest (gs++[g]) _ (al.put (n+gs.length) g) _ (by rw[hlen1];omega) (fun j hj=>?_) ?_ (fun k=>?_) (fun k hk'=>?_) (inv.set hr' hk) (fun k hk'=>?_) (hbd.put _ _) (by rw[hlen1];exact hB') (hn g hg hgs)
   ·rw[hlen1];have:=hl (j+1) (by simp;omega);simpa [Nat.add_assoc,Nat.add_comm 1 j] using this
   ·rw[hlen1,←List.drop_drop,hd];rfl
   ·unfold Got.put
    by_cases hkk:k=gs.length
    ·subst hkk;simp
    ·rw[if_neg (by omega),hal k]
     rcases Nat.lt_or_ge k gs.length with hlt | hge
     ·rw[List.getElem?_append_left hlt]
     ·rw[List.getElem?_eq_none hge,List.getElem?_eq_none (by rw[hlen1];omega)]
   ·unfold Got.put;rw[if_neg (by omega)];exact hal0 k hk'
   ·unfold Got.put
    by_cases hkk:k=n+gs.length
    ·subst hkk;simp[hsz] at hk'
    ·rw[if_neg hkk];exact halL k (by rw[getD_set_ne true (fun e=>hkk e.symm)] at hk';exact hk')
theorem Zip {A:List Oper} (hsel:Region.noSelect ops=true) (ht:Zfg md ops N=true) (hN:N≤ops.size) (hnm:n+zs.length=N) (hA:A.length=zs.length) (hAl:∀j,j<A.length→A[j]?=ops[n+j]?) :
  ∀ (l:List Oper) (ws:List Value) (k:Nat) (listed:Array Bool) (a:Act),k+l.length=n→vs.length=n→vs.drop k=ws→(∀ j,j<l.length→l[j]?=ops[k+j]?)→HeadInv md ops N listed →
  Region.lexHead md ops r (l.length+A.length) k listed=true→Zlz P ops W (fun a'=>Zgb P W Qf A zs [] a') l ws a →
  anyB (ZeQ n zs) (fun i=>vs.getD i undef) P md ops W N (Left md ops n N r zs Qf) (l.length+A.length) (fun _=>none) listed a
 | [],ws,k,listed,a,hk,hvl,hd,_,inv,hB,h=>by
  have hkn:k=n:=by simpa using hk
  subst hkn
  have:ws=[]:=by rw[←hd,←hvl,List.drop_length]
  subst this
  simp only[List.length_nil,Nat.zero_add] at hB ⊢
  exact ZhY hsel ht hN hnm A zs [] listed _ a (by simpa using hA) (by simpa using hAl) rfl (fun _=>rfl) (fun _ _=>rfl) inv (fun _ _=>rfl) ⟨0,fun _ _ h=>by cases h⟩ (by simpa using hB) h
 | o::l,ws,k,listed,a,hk,hvl,hd,hl,inv,hB,h=>by
  have h0:ops[k]?=some o:=by simpa using (hl 0 (by simp)).symm
  simp only[List.length_cons] at hk
  rw[List.length_cons,show l.length+1+A.length=(l.length+A.length)+1 by omega] at hB ⊢
  simp only[Region.lexHead,Bool.and_eq_true] at hB
  obtain⟨⟨hr,hf⟩,hB'⟩:=hB
  have hr':k∈Region.ready md ops listed:=by simpa using hr
  have hkN:k<N:=by omega
  cases ws with
  | nil=>exact False.elim h
  | cons v ws =>
   obtain⟨hg,hn⟩:=h
   have hv:vs.getD k undef=v:=by
    have:=congrArg (fun x=>x[0]?) hd
    simp only[List.getElem?_drop,Nat.add_zero,List.getElem?_cons_zero] at this
    simp[List.getD,this]
   have hinf:ZeQ n zs k=none:=by unfold ZeQ;rw[if_pos (by omega)]
   refine Zih _ _ h0 (Region.noSelect_spec hsel) hkN (fun listed' inv' hun=>Zft ht hkN listed' inv' hun) (fun al' listed' a' hL=>seqB_ready hL.1) (l.length+A.length) _ listed a ⟨0,fun _ _ h=>by cases h⟩ (fun _ _=>rfl) inv (Region.free_spec h0 hf) hr'
    ⟨fun _=>?_,fun t z he=>by rw[hinf] at he;cases he⟩
   simp only[hv]
   refine⟨hg,Zip hsel ht hN hnm hA hAl l ws (k+1) _ _ (by omega) hvl (by rw[←List.drop_drop,hd];rfl) (fun j hj=>by have:=hl (j+1) (by simp;omega);simpa [Nat.add_assoc,Nat.add_comm 1 j] using this) (inv.set hr' hkN) hB' hn⟩
end
theorem Zbc {id:Nat} {Q:Exit→Act→World→Prop} {a:Act} {w:World} {l:List Oper} (W:World) (n:Nat) (zs:List (TypeId×Array Value)) (hm:P.follows .mixedOrders=true) (hB:ZuO .any l.toArray (n+zs.length)=true)
  (hW:Below W.heap.size W { w with drawn:=w.drawn+1 })
  (h:Zdn P l.toArray W (fun a'=>Zgb P W (fun gs a''=>∀ w',Below W.heap.size W w'→(∀ (k g:Nat) (t:TypeId) (z:Array Value),gs[k]?=some g→zs[k]?=some (t,z)→w'.heap[g]?=some (Obj.cells z t (0,0)))→wpList P l.toArray Q (l.drop (n+zs.length)) a'' w')
   ((l.drop n).take zs.length) zs [] a') (l.take n) a):(Code.region id l.toArray true).wp P Q a w:=by
 simp only[ZuO,Bool.and_eq_true,decide_eq_true_eq] at hB
 obtain⟨⟨⟨hsel,hN⟩,ht⟩,hlex⟩:=hB
 have hsz:l.toArray.size=l.length:=by simp
 have htl:(l.take n).length=n:=by simp;omega
 have hAl:((l.drop n).take zs.length).length=zs.length:=by simp;omega
 have hdl:(l.drop (n+zs.length)).length=l.toArray.size-(n+zs.length):=by simp
 have inv0:HeadInv .any l.toArray (n+zs.length) (Array.replicate l.toArray.size false) :=
  ⟨by simp,fun j oj _ hl=>(by rw[getD_replicate_false] at hl;cases hl),fun t _ ht=>getD_in (by simpa using ht) (getD_replicate_false _ _)⟩
 obtain⟨vs,hvl,hc⟩:=Zl6 _ _ h
 have H:=Zip (md:=.any) (r:=l.toArray.size-(n+zs.length)) (vs:=vs) hsel ht hN rfl hAl (fun j hj=>by
  have hj':j<zs.length:=by rw[hAl] at hj;exact hj
  simp[hj',List.getElem?_drop]) (l.take n) vs 0 _ a (by simpa using htl) (by rw[hvl,htl]) rfl (fun j hj=>by
  have hj':j<n:=by rw[htl] at hj;exact hj
  simp[hj']) inv0 (by rw[htl,hAl];exact hlex) hc
 refine wp_region_any hm ?_
 have:=Zc6 (Q:=Q) (ZeQ n zs) (fun i=>vs.getD i undef) (r:=l.toArray.size-(n+zs.length)) (fun al listed a' w' hL hS' hF=>by
  obtain⟨hseq,gs,hgl,hal,hq⟩:=hL
  have:=wpAny_of_seq (md:=.any) (Q':=Q) (l.drop (n+zs.length)) (n+zs.length) listed a' w' (fun j=>by simp[List.getElem?_drop]) (by rw[hdl];exact hseq) (hq w' hS' fun k g t z hg hz=>by
   obtain⟨_,t',z',hi,hb⟩:=hF (n+k) g (by rw[hal k,hg])
   unfold ZeQ at hi
   rw[if_neg (by omega),Nat.add_sub_cancel_left,hz] at hi
   obtain⟨rfl,rfl⟩:t=t'∧z=z':=by simpa using hi
   exact hb)
  rwa [hdl] at this) _ _ _ _ _ hW (fun i g hg=>by cases hg) H
 rw[htl,hAl,show n+zs.length+(l.toArray.size-(n+zs.length))=l.toArray.size by omega] at this
 exact this
end
section
variable {P:Program} {ops:Array Oper} {md:Region.Mode} {W:World} {Q:Exit→Act→World→Prop} {r:Nat}
variable (info:Nat→Option (TypeId×Array Value)) (vals:Nat→Value) (hd fl:Nat→Bool)
def Done (ops:Array Oper) (hd fl:Nat→Bool) (listed:Array Bool):Prop:=∀ i,i<ops.size→hd i=true→fl i=false→listed.getD i false=true
structure PickInv (md:Region.Mode) (ops:Array Oper) (hd:Nat→Bool) (listed:Array Bool):Prop where
 size:listed.size=ops.size
 closed:∀j oj,ops[j]?=some oj→listed.getD j false=true→∀ e∈oj.after,Region.binds md e=true→listed.getD e.on false=true
 tail:∀t,hd t=false→t<ops.size→listed.getD t true=false
theorem PickInv.set {hd:Nat→Bool} {i:Nat} {listed:Array Bool} (inv:PickInv md ops hd listed) (hi:i∈Region.ready md ops listed) (hin:hd i=true):PickInv md ops hd (listed.setIfInBounds i true):=by
 obtain⟨_,oi,hoi,hall⟩:=mem_ready.1 hi
 refine⟨by simp[inv.size],fun j oj hj hl e he hb=>?_,fun t ht ht'=>by rw[getD_set_ne true (fun e=>by subst e;rw[hin] at ht;cases ht)];exact inv.tail t ht ht'⟩
 by_cases hij:i=j
 ·subst hij
  have:oj=oi:=Option.some.inj (hj.symm.trans hoi)
  subst this
  exact getD_set_true (hall e he hb)
 ·rw[getD_set_ne false hij] at hl
  exact getD_set_true (inv.closed j oj hj hl e he hb)
def anyP (P:Program) (md:Region.Mode) (ops:Array Oper) (W:World) (Q:Exit→Act→World→Prop) (r:Nat):Nat→Got→Array Bool→Act→Prop
 | 0,al,listed,a=>(∀ i∈Region.ready md ops listed,hd i=false)∧Done ops hd fl listed∧∀ w,Below W.heap.size W w→Facts info W al w→wpAny P md ops Q r listed a w
 | f+1,al,listed,a =>
  (∀ i∈Region.ready md ops listed,hd i=true→∃ o,ops[i]?=some o ∧
   (info i=none→GivesB P ops W o (vals i) a∧anyP P md ops W Q r f al (listed.setIfInBounds i true) (a.put o.dst (vals i))) ∧
   (∀ t z,info i=some (t,z)→Lays P o t z∧∀ g,W.heap.size≤g→al.Fresh g→anyP P md ops W Q r f (al.put i g) (listed.setIfInBounds i true) (a.put o.dst (ptr g)))) ∧
  (Done ops hd fl listed→∀ w,Below W.heap.size W w→Facts info W al w→wpAny P md ops Q (f+1+r) listed a w) ∧
  (¬Done ops hd fl listed→Region.ready md ops listed≠[]∧∀ i∈Region.ready md ops listed,hd i=true)
theorem ZbV:∀(f:Nat) (al:Got) (listed:Array Bool) (a:Act) (w:World),Below W.heap.size W w→Facts info W al w→anyP info vals hd fl P md ops W Q r f al listed a→wpAny P md ops Q (f+r) listed a w
 | 0,al,listed,a,w,hS,hF,h=>by rw[Nat.zero_add];exact h.2.2 w hS hF
 | f+1,al,listed,a,w,hS,hF,h=>by
  by_cases hdn:Done ops hd fl listed
  ·exact h.2.1 hdn w hS hF
  ·rw[show f+1+r=(f+r)+1 by omega]
   obtain⟨hne,hall⟩:=h.2.2 hdn
   refine⟨fun h0=>absurd h0 hne,fun i hi=>?_⟩
   obtain⟨o,ho,hd',hA⟩:=h.1 i hi (hall i hi)
   cases hinf:info i with
   | none =>
    obtain⟨hg,hn⟩:=hd' hinf
    exact hg.wpOp ho hS fun w' hb=>ZbV f al _ _ w' (hS.trans (hb.mono hS.size)) (hF.grow info hb) hn
   | some tz =>
    obtain⟨t,z⟩:=tz
    obtain⟨⟨hgd,hrun⟩,hn⟩:=hA t z hinf
    have hfresh:al.Fresh w.heap.size:=fun j hj=>by
     obtain⟨_,t',z',_,h3⟩:=hF j _ hj
     have:=(Array.getElem?_eq_some_iff.1 h3).1
     omega
    unfold Go.wpOp
    simp only[ho,Zaa hgd,if_true,Oper.wp,hrun a w,Oper.upon]
    refine .inl (ZbV f _ _ _ _ (hS.alloc hS.size _) ?_ (hn w.heap.size hS.size hfresh))
    intro j g hj
    unfold Got.put at hj
    split at hj
    ·rename_i e;cases hj;subst e;exact⟨hS.size,t,z,hinf,Zas w _⟩
    ·exact Facts.grow info hF ((Below.refl _ _).alloc (Nat.le_refl _) _) j g hj
def DoP (P:Program) (md:Region.Mode) (ops:Array Oper) (W:World) (Q:Exit→Act→World→Prop) (r:Nat) (i:Nat) (o:Oper) (f:Nat) (al:Got) (listed:Array Bool) (a:Act):Prop :=
 (info i=none→GivesB P ops W o (vals i) a∧anyP info vals hd fl P md ops W Q r f al (listed.setIfInBounds i true) (a.put o.dst (vals i))) ∧
 (∀ t z,info i=some (t,z)→Lays P o t z∧∀ g,W.heap.size≤g→al.Fresh g→anyP info vals hd fl P md ops W Q r f (al.put i g) (listed.setIfInBounds i true) (a.put o.dst (ptr g)))
theorem ZfR {i:Nat} {oi:Oper} (hi:ops[i]?=some oi) (hsel:Region.noSelect ops=true) (hin:hd i=true)
  (hwait:∀listed,PickInv md ops hd listed→¬Done ops hd fl listed→∀ t∈Region.ready md ops listed,hd t=true)
  (hQ:∀c a d v w,Q (.panic c) (Act.put a d v) w→Q (.panic c) a w) (hfl:fl i=true→info i=none) :
  ∀ (f:Nat) (al:Got) (listed:Array Bool) (a:Act),al.Bounded→(∀ k,listed.getD k true=false→al k=none)→PickInv md ops hd listed →
   (∀ j oj,ops[j]?=some oj→j≠i→listed.getD j true=false→(∀ e∈oj.after,Region.binds md e=true→e.on≠i)→oi.apart ops oj=true) →
   i∈Region.ready md ops listed→(fl i=true→Yields P ops oi (vals i) a)→DoP info vals hd fl P md ops W Q r i oi f al listed a→anyP info vals hd fl P md ops W Q r (f+1) al listed a:=by
 have hsel':=Region.noSelect_spec hsel
 have late:∀(f:Nat) (al:Got) (listed:Array Bool) (a:Act),(∀ j oj,ops[j]?=some oj→j≠i→listed.getD j true=false→(∀ e∈oj.after,Region.binds md e=true→e.on≠i)→oi.apart ops oj=true) →
   i∈Region.ready md ops listed→(fl i=true→Yields P ops oi (vals i) a)→DoP info vals hd fl P md ops W Q r i oi f al listed a →
   Done ops hd fl listed→∀ w,Below W.heap.size W w→Facts info W al w→wpAny P md ops Q (f+1+r) listed a w:=by
  intro f al listed a hfree hr hy H hdn w hS hF
  have hun:=(mem_ready.1 hr).1
  have hlt:i<ops.size:=(Array.getElem?_eq_some_iff.1 hi).1
  cases hf:fl i with
  | false =>
   have:=hdn i hlt hin hf
   rw[getD_both hun] at this;cases this
  | true =>
   obtain⟨_,Hn⟩:=H.1 (hfl hf)
   rw[show f+1+r=(f+r)+1 by omega]
   exact wpAny_first hi hsel' (fun c a w=>hQ c a _ _ w) (f+r) listed a w hfree hr (hy hf) (ZbV info vals hd fl f al _ _ w hS hF Hn)
 intro f
 induction f with
 | zero =>
  intro al listed a hbd _ inv hfree hr hy H
  have hun:=(mem_ready.1 hr).1
  refine⟨fun j hj hjd=>?_,late 0 al listed a hfree hr hy H,fun hnd=>⟨fun h=>(by rw[h] at hr;cases hr),hwait listed inv hnd⟩⟩
  by_cases hji:j=i
  ·subst hji;exact⟨oi,hi,H⟩
  ·exfalso
   obtain⟨N,hN⟩:=hbd
   cases hinf:info i with
   | none=>have:=(H.1 hinf).2.1 j (ready_mono hj hji);rw[hjd] at this;cases this
   | some tz =>
    have:=((H.2 tz.1 tz.2 hinf).2 (max N W.heap.size) (by omega) (fun k hk=>by have:=hN k _ hk;omega)).1 j (ready_mono hj hji)
    rw[hjd] at this;cases this
 | succ f ih =>
  intro al listed a hbd hal inv hfree hr hy H
  have hun:=(mem_ready.1 hr).1
  refine⟨fun j hj hjd=>?_,late (f+1) al listed a hfree hr hy H,fun hnd=>⟨fun h=>(by rw[h] at hr;cases hr),hwait listed inv hnd⟩⟩
  by_cases hji:j=i
  ·subst hji;exact⟨oi,hi,H⟩
  ·obtain⟨hjun,oj,hoj,hall⟩:=mem_ready.1 hj
   have hnot:∀e∈oj.after,Region.binds md e=true→e.on≠i:=fun e he hb heq=>by
    have h1:=hall e he hb
    rw[heq,getD_both hun] at h1
    cases h1
   obtain⟨p1,p2,p3⟩:=Oper.apart_spec (hfree j oj hoj hji hjun hnot)
   have hfree':∀k ok,ops[k]?=some ok→k≠i→(listed.setIfInBounds j true).getD k true=false→(∀ e∈ok.after,Region.binds md e=true→e.on≠i)→oi.apart ops ok=true:=fun k ok hk hki hkun hno=>by
    refine hfree k ok hk hki ?_ hno
    by_cases hjk:j=k
    ·subst hjk;exact hjun
    ·rw[getD_set_ne true hjk] at hkun;exact hkun
   have hri:=ready_mono hr (Ne.symm hji)
   have hal0:∀k,(listed.setIfInBounds j true).getD k true=false→al k=none:=fun k hk=>hal k (by
    by_cases hjk:j=k
    ·subst hjk;exact hjun
    ·rw[getD_set_ne true hjk] at hk;exact hk)
   have hjs:j<listed.size:=by rw[inv.size];exact(Array.getElem?_eq_some_iff.1 hoj).1
   have hal1:∀g k,(listed.setIfInBounds j true).getD k true=false→(al.put j g) k=none:=fun g k hk=>by
    by_cases hjk:k=j
    ·subst hjk;simp[hjs] at hk
    ·unfold Got.put;rw[if_neg hjk];exact hal0 k hk
   have hset:(listed.setIfInBounds i true).setIfInBounds j true=(listed.setIfInBounds j true).setIfInBounds i true:=Array.setIfInBounds_comm _ _ (Ne.symm hji)
   have hput:∀v u,(a.put oi.dst v).put oj.dst u=(a.put oj.dst u).put oi.dst v:=fun v u=>Act.put_comm a v u fun d hd=>p2 d hd
   have back:∀v u,GivesB P ops W oj u (a.put oi.dst v)→GivesB P ops W oj u a:=fun v u h=>h.like (execOp_put oj (fun cs b=>hsel' j oj cs b hoj) a oi.dst v p1).symm (wanted_put oj a oi.dst v p1).symm
   have ahead:∀u,GivesB P ops W oi (vals i) a→GivesB P ops W oi (vals i) (a.put oj.dst u):=fun u h=>h.like (execOp_put oi (fun cs b=>hsel' i oi cs b hi) a oj.dst u p3) (wanted_put oi a oj.dst u p3)
   have yahead:∀u,fl i=true→Yields P ops oi (vals i) (a.put oj.dst u):=fun u hf=>by
    have he:=execOp_put oi (fun cs b=>hsel' i oi cs b hi) a oj.dst u p3
    have hw:=wanted_put oi a oj.dst u p3
    rcases hy hf with ⟨h1,h2⟩ | ⟨h1,h2⟩
    ·exact .inl ⟨hw▸h1,fun w=>by rw[he];exact h2 w⟩
    ·exact .inr ⟨hw▸h1,h2⟩
   have same:∀{o':Oper},ops[j]?=some o'→o'=oj:=fun h=>Option.some.inj (h.symm.trans hoj)
   refine⟨oj,hoj,fun hnj=>?_,fun t z hsj=>?_⟩
   ·cases hinf:info i with
    | none =>
     obtain⟨hgi,Hn⟩:=H.1 hinf
     obtain⟨o',ho',hd',_⟩:=Hn.1 j (ready_mono hj hji) hjd
     obtain rfl:=same ho'
     obtain⟨hgj,hn⟩:=hd' hnj
     refine⟨back _ _ hgj,ih al _ _ hbd hal0 (inv.set hj hjd) hfree' hri (yahead _) ⟨fun _=>⟨ahead _ hgi,?_⟩,fun t z h=>by rw[hinf] at h;cases h⟩⟩
     rw[←hset,←hput];exact hn
    | some tz =>
     obtain⟨hl,Hn⟩:=H.2 tz.1 tz.2 hinf
     obtain⟨N,hN⟩:=hbd
     obtain⟨o0,ho0,hd0,_⟩:=(Hn (max N W.heap.size) (by omega) (fun k hk=>by have:=hN k _ hk;omega)).1 j (ready_mono hj hji) hjd
     obtain rfl:=same ho0
     refine⟨back _ _ (hd0 hnj).1,ih al _ _ ⟨N,hN⟩ hal0 (inv.set hj hjd) hfree' hri (yahead _) ⟨fun h=>(by rw[hinf] at h;cases h),fun t z h=>?_⟩⟩
     obtain rfl:tz=(t,z):=Option.some.inj (hinf.symm.trans h)
     refine⟨hl,fun g hg hfr=>?_⟩
     obtain⟨o',ho',hd',_⟩:=(Hn g hg hfr).1 j (ready_mono hj hji) hjd
     obtain rfl:=same ho'
     rw[←hset,←hput];exact(hd' hnj).2
   ·cases hinf:info i with
    | none =>
     obtain⟨hgi,Hn⟩:=H.1 hinf
     obtain⟨o',ho',_,hA⟩:=Hn.1 j (ready_mono hj hji) hjd
     obtain rfl:=same ho'
     obtain⟨hl,hn⟩:=hA t z hsj
     refine⟨hl,fun g hg hfr=>ih (al.put j g) _ _ (hbd.put j g) (hal1 g) (inv.set hj hjd) hfree' hri (yahead _) ⟨fun _=>⟨ahead _ hgi,?_⟩,fun t z h=>by rw[hinf] at h;cases h⟩⟩
     rw[←hset,←hput];exact hn g hg hfr
    | some tz =>
     obtain⟨hl,Hn⟩:=H.2 tz.1 tz.2 hinf
     obtain⟨N,hN⟩:=hbd
     obtain⟨o0,ho0,_,hA0⟩:=(Hn (max N W.heap.size) (by omega) (fun k hk=>by have:=hN k _ hk;omega)).1 j (ready_mono hj hji) hjd
     obtain rfl:=same ho0
     refine⟨(hA0 t z hsj).1,fun g hg hfr=>ih (al.put j g) _ _ (Got.Bounded.put ⟨N,hN⟩ j g) (hal1 g) (inv.set hj hjd) hfree' hri (yahead _) ⟨fun h=>(by rw[hinf] at h;cases h),fun t' z' h=>?_⟩⟩
     obtain rfl:tz=(t',z'):=Option.some.inj (hinf.symm.trans h)
     refine⟨hl,fun g' hg' hfr'=>?_⟩
     have hfr1:al.Fresh g':=fun k hk=>by
      by_cases hkj:k=j
      ·subst hkj;rw[hal k hjun] at hk;cases hk
      ·have:=hfr' k;unfold Got.put at this;rw[if_neg hkj] at this;exact this hk
     have hne:g≠g':=fun e=>by
      have:=hfr' j;unfold Got.put at this;rw[if_pos rfl] at this;exact this (by rw[e])
     have hfr2:(al.put i g').Fresh g:=fun k hk=>by
      unfold Got.put at hk
      split at hk
      ·exact hne (Option.some.inj hk).symm
      ·exact hfr k hk
     obtain⟨o',ho',_,hA⟩:=(Hn g' hg' hfr1).1 j (ready_mono hj hji) hjd
     obtain rfl:=same ho'
     rw[←hset,←hput,←Got.put_comm al (Ne.symm hji) g' g]
     exact(hA t z hsj).2 g hg hfr2
end
section
variable {P:Program} {ops:Array Oper} {md:Region.Mode} {W:World} {Q:Exit→Act→World→Prop}
def pick (l:List Oper):List Nat→List Oper
 | []=>[]
 | i::is=>match l[i]? with | some o=>o::pick l is | none=>pick l is
def Zct (P:Program) (ops:Array Oper) (W:World) (Q:Act→Prop):List Oper→List Bool→Act→Prop
 | [],_,a=>Q a
 | o::rest,b::bs,a=>∃ v,GivesB P ops W o v a∧(b=true→Yields P ops o v a)∧Zct P ops W Q rest bs (a.put o.dst v)
 | _::_,[],_=>False
theorem Zap {Q:Act→Prop} {a:Act} {bs:List Bool} (h:Q a):Zct P ops W Q [] bs a:=h
theorem Zad {Q:Act→Prop} {a a':Act} {o:Oper} {rest:List Oper} {bs:List Bool} {v:Value} (hw:Region.wanted o (yielded ops a.tmps)=true)
  (h:∀(K:Value→Act→World→Prop) (os:Array Obj) (d:Nat),(∀ w',Below (W.plus os d).heap.size (W.plus os d) w'→K v a' w')→Zea o a K ((execOp a.eval o).run P (W.plus os d)))
  (next:Zct P ops W Q rest bs a'):Zct P ops W Q (o::rest) (false::bs) a:=by
 obtain⟨u,hg,hn⟩:=Za0 (Q:=fun b=>b=a') (rest:=[]) hw h rfl
 have hn':a.put o.dst u=a':=hn
 exact⟨u,hg,fun h=>(by cases h),hn'.symm▸next⟩
theorem Zaj {Q:Act→Prop} {a:Act} {o:Oper} {rest:List Oper} {bs:List Bool} {v:Value} (hw:Region.wanted o (yielded ops a.tmps)=true)
  (h:∀(K:Value→World→Prop) (os:Array Obj) (d:Nat),(∀ w',Below (W.plus os d).heap.size (W.plus os d) w'→K v w')→ZgI P K ((execOp a.eval o).run P (W.plus os d)))
  (next:Zct P ops W Q rest bs (a.put o.dst v)):Zct P ops W Q (o::rest) (false::bs) a:=by
 obtain⟨u,hg,hn⟩:=ZaY (v:=v) (Q:=fun b=>b=a.put o.dst v) (rest:=[]) hw h rfl
 have hn':a.put o.dst u=a.put o.dst v:=hn
 exact⟨u,hg,fun h=>(by cases h),hn'.symm▸next⟩
theorem Zaz {Q:Act→Prop} {a:Act} {o:Oper} {rest:List Oper} {bs:List Bool} {v:Value} (hw:Region.wanted o (yielded ops a.tmps)=true) (h:∀w,(execOp a.eval o).run P w=.ok (.value v) w)
  (next:Zct P ops W Q rest bs (a.put o.dst v)):Zct P ops W Q (o::rest) (true::bs) a :=
 ⟨v,.inl ⟨hw,fun w _=>by rw[h w];exact⟨rfl,Below.refl _ _⟩⟩,fun _=>.inl ⟨hw,h⟩,next⟩
def ZiT (md:Region.Mode) (ops:Array Oper) (g n:Nat):List Nat→Array Bool→Bool
 | [],listed=>Region.seqB md ops g n listed
 | k::ks,listed=>(Region.ready md ops listed).contains k&&Region.free md ops listed k&&ZiT md ops g n ks (listed.setIfInBounds k true)
def Zm8 (md:Region.Mode) (ops:Array Oper) (t:Nat):List Nat→Bool
 | []=>true
 | i::post=>(Region.waitsFor md ops t i||post.any fun j=>Region.waitsFor md ops j i)&&Zm8 md ops t post
def late (hs:List Nat) (bs:List Bool):List Nat:=(hs.zip bs).filterMap fun p=>if p.2 then some p.1 else none
def Zvf (md:Region.Mode) (ops:Array Oper) (hs:List Nat) (bs:List Bool) (ha:List Nat) (n:Nat):Bool :=
 Region.noSelect ops&&decide (n≤ops.size)&&decide (bs.length=hs.length)&&decide (hs++ha).Nodup&&((List.range n).all fun i=>(hs++ha).contains i)&&((hs++ha).all fun i=>decide (i<n)) &&
 ((List.range ops.size).all fun t=>decide (t<n)||((List.range ops.size).any fun u=>decide (n≤u)&&Region.waitsFor md ops t u)||Zm8 md ops t ((hs++ha).filter fun i=>!(late hs bs).contains i)) &&
 ZiT md ops (ops.size-n) n (hs++ha) (Array.replicate ops.size false)
theorem Zde {hd:Nat→Bool} {listed:Array Bool} (inv:PickInv md ops hd listed) {t:Nat} (hr:t∈Region.ready md ops listed):∀l:List Nat,Zm8 md ops t l=true→∀ i∈l,listed.getD i false=true
 | [],_,i,hi=>by cases hi
 | k::post,hB,i,hi=>by
  simp only[Zm8,Bool.and_eq_true,Bool.or_eq_true] at hB
  have ih:=Zde inv hr post hB.2
  rcases List.mem_cons.1 hi with rfl | hi
  ·rcases hB.1 with h | h
   ·obtain⟨_,ot,hot,hall⟩:=mem_ready.1 hr
    obtain⟨o',ho',e,he,hb,hon⟩:=Region.waitsFor_spec h
    obtain rfl:o'=ot:=Option.some.inj (ho'.symm.trans hot)
    have:=hall e he hb
    rwa [hon] at this
   ·obtain⟨j,hj,hw⟩:=List.any_eq_true.1 h
    obtain⟨o',ho',e,he,hb,hon⟩:=Region.waitsFor_spec hw
    have:=inv.closed j o' ho' (ih j hj) e he hb
    rwa [hon] at this
  ·exact ih i hi
def look:List Nat→List Value→Nat→Value
 | k::ks,v::vs,i=>if i=k then v else look ks vs i
 | _,_,_=>undef
def ZfY:List Nat→List (TypeId×Array Value)→Nat→Option (TypeId×Array Value)
 | k::ks,z::zs,i=>if i=k then some z else ZfY ks zs i
 | _,_,_=>none
theorem Zi4:∀(ks:List Nat) (vs:List Value) (j i:Nat) (v:Value),ks.Nodup→ks[j]?=some i→vs[j]?=some v→look ks vs i=v
 | [],_,j,i,v,_,h,_=>by simp at h
 | k::ks,[],j,i,v,_,_,h=>by simp at h
 | k::ks,u::vs,0,i,v,_,h1,h2=>by
  simp only[List.getElem?_cons_zero,Option.some.injEq] at h1 h2
  subst h1;subst h2;simp[look]
 | k::ks,u::vs,j+1,i,v,hn,h1,h2=>by
  simp only[List.getElem?_cons_succ] at h1 h2
  have hne:i≠k:=fun e=>by
   subst e
   exact(List.nodup_cons.1 hn).1 (List.mem_of_getElem? h1)
  simp only[look,if_neg hne]
  exact Zi4 ks vs j i v (List.nodup_cons.1 hn).2 h1 h2
theorem Zhx:∀(ks:List Nat) (vs:List (TypeId×Array Value)) (j i:Nat) (v:TypeId×Array Value),ks.Nodup→ks[j]?=some i→vs[j]?=some v→ZfY ks vs i=some v
 | [],_,j,i,v,_,h,_=>by simp at h
 | k::ks,[],j,i,v,_,_,h=>by simp at h
 | k::ks,u::vs,0,i,v,_,h1,h2=>by
  simp only[List.getElem?_cons_zero,Option.some.injEq] at h1 h2
  subst h1;subst h2;simp[ZfY]
 | k::ks,u::vs,j+1,i,v,hn,h1,h2=>by
  simp only[List.getElem?_cons_succ] at h1 h2
  have hne:i≠k:=fun e=>by
   subst e
   exact(List.nodup_cons.1 hn).1 (List.mem_of_getElem? h1)
  simp only[ZfY,if_neg hne]
  exact Zhx ks vs j i v (List.nodup_cons.1 hn).2 h1 h2
theorem ZgU:∀(ks:List Nat) (vs:List (TypeId×Array Value)) (i:Nat),i∉ks→ZfY ks vs i=none
 | [],[],i,_=>rfl
 | [],_::_,i,_=>rfl
 | k::ks,[],i,_=>rfl
 | k::ks,u::vs,i,h=>by
  simp only[List.mem_cons,not_or] at h
  simp only[ZfY,if_neg h.1]
  exact ZgU ks vs i h.2
theorem ZiV (l:List Oper):∀is:List Nat,(∀ i∈is,i<l.length)→(pick l is).length=is.length∧∀ (j i:Nat),is[j]?=some i→(pick l is)[j]?=l[i]?
 | [],_=>⟨rfl,fun j i h=>by simp at h⟩
 | k::is,h=>by
  have hk:=h k (by simp)
  obtain⟨ih1,ih2⟩:=ZiV l is fun i hi=>h i (by simp[hi])
  rw[pick,List.getElem?_eq_getElem hk]
  refine⟨by simp[ih1],fun j i hj=>?_⟩
  cases j with
  | zero =>
   simp only[List.getElem?_cons_zero,Option.some.injEq] at hj
   subst hj
   simp[List.getElem?_eq_getElem hk]
  | succ j=>simpa using ih2 j i (by simpa using hj)
section
variable {l:List Oper} {hs ha:List Nat} {bs:List Bool} {zs:List (TypeId×Array Value)} {vs:List Value} {n:Nat}
def Qf (P:Program) (W:World) (l:List Oper) (zs:List (TypeId×Array Value)) (n:Nat) (Q:Exit→Act→World→Prop) (gs:List Nat) (a:Act):Prop :=
 ∀ w',Below W.heap.size W w'→(∀ (k g:Nat) (t:TypeId) (z:Array Value),gs[k]?=some g→zs[k]?=some (t,z)→w'.heap[g]?=some (Obj.cells z t (0,0)))→wpList P l.toArray Q (l.drop n) a w'
theorem ZhJ (hsel:Region.noSelect l.toArray=true) (hn:n≤l.length) (hnd:ha.Nodup) (hlt:∀i∈ha,i<n) (hzl:zs.length=ha.length)
  (hfla:∀i∈ha,(late hs bs).contains i=false)
  (hwait:∀listed,PickInv md l.toArray (fun i=>decide (i<n)) listed→¬Done l.toArray (fun i=>decide (i<n)) (fun i=>(late hs bs).contains i) listed→∀ t∈Region.ready md l.toArray listed,(fun i=>decide (i<n)) t=true)
  (hQ:∀c a d v w,Q (.panic c) (Act.put a d v) w→Q (.panic c) a w) :
  ∀ (ks:List Nat) (rest:List (TypeId×Array Value)) (gs:List Nat) (listed:Array Bool) (al:Got) (a:Act),ha.drop gs.length=ks→zs.drop gs.length=rest→gs.length≤ha.length →
  (∀ k i:Nat,ha[k]?=some i→al i=gs[k]?)→(∀ i,i∉ha→al i=none)→PickInv md l.toArray (fun i=>decide (i<n)) listed→(∀ k,listed.getD k true=false→al k=none)→al.Bounded →
  (∀ i,i<n→i∉ks→listed.getD i false=true)→ZiT md l.toArray (l.toArray.size-n) n ks listed=true→Zgb P W (Qf P W l zs n Q) (pick l ks) rest gs a →
  anyP (ZfY ha zs) (look hs vs) (fun i=>decide (i<n)) (fun i=>(late hs bs).contains i) P md l.toArray W Q (l.toArray.size-n) ks.length al listed a
 | [],rest,gs,listed,al,a,hd,hz,hgl,hal,hal0,inv,halL,hbd,hdn,hB,h=>by
  have hge:gs.length=ha.length:=by
   have:=congrArg List.length hd
   simp at this;omega
  have hr:rest=[]:=by rw[←hz,hge,←hzl,List.drop_length]
  subst hr
  refine⟨fun i hi=>?_,fun i hi hin hfi=>hdn i (by simpa using hin) (by simp),fun w hS hF=>?_⟩
  ·refine Bool.eq_false_iff.2 fun hlt'=>?_
   have h1:=(mem_ready.1 hi).1
   have h2:=hdn i (by simpa using hlt') (by simp)
   rw[getD_both h1] at h2;cases h2
  ·have hq:Qf P W l zs n Q gs a:=h
   have:=wpAny_of_seq (md:=md) (Q':=Q) (l.drop n) n listed a w (fun j=>by simp[List.getElem?_drop]) (by rw[show (l.drop n).length=l.toArray.size-n by simp];simpa [ZiT] using hB) (hq w hS fun k g t z hg hz'=>by
    have hk:k<ha.length:=by have:=(List.getElem?_eq_some_iff.1 hg).1;omega
    obtain⟨_,t',z',hi',hb⟩:=hF ha[k] g (by rw[hal k _ (List.getElem?_eq_getElem hk),hg])
    rw[Zhx ha zs k _ _ hnd (List.getElem?_eq_getElem hk) hz'] at hi'
    obtain⟨rfl,rfl⟩:t=t'∧z=z':=by simpa using hi'
    exact hb)
   rwa [show (l.drop n).length=l.toArray.size-n by simp] at this
 | k::ks,rest,gs,listed,al,a,hd,hz,hgl,hal,hal0,inv,halL,hbd,hdn,hB,h=>by
  have hkm:k∈ha:=List.mem_of_mem_drop (i:=gs.length) (by rw[hd];simp)
  have hkn:=hlt k hkm
  have hkl:k<l.length:=by omega
  have h0:l.toArray[k]?=some l[k]:=by simp[hkl]
  simp only[ZiT,Bool.and_eq_true] at hB
  obtain⟨⟨hr,hf⟩,hB'⟩:=hB
  have hr':k∈Region.ready md l.toArray listed:=by simpa using hr
  have hgk:ha[gs.length]?=some k:=by
   have:=congrArg (fun x=>x[0]?) hd
   simpa using this
  have hglt:gs.length<ha.length:=(List.getElem?_eq_some_iff.1 hgk).1
  rw[pick,List.getElem?_eq_getElem hkl] at h
  cases rest with
  | nil=>exact False.elim h
  | cons tz rest =>
   obtain⟨t,z⟩:=tz
   obtain⟨hlay,hn'⟩:=h
   have hzz:zs[gs.length]?=some (t,z):=by
    have:=congrArg (fun x=>x[0]?) hz
    simpa using this
   have hinf:ZfY ha zs k=some (t,z):=Zhx ha zs _ k _ hnd hgk hzz
   refine ZfR _ _ _ _ h0 hsel (by simpa using hkn) hwait hQ (fun hfk=>by rw[hfla k hkm] at hfk;cases hfk) ks.length al listed a hbd halL inv (Region.free_spec h0 hf) hr' (fun hfk=>by rw[hfla k hkm] at hfk;cases hfk)
    ⟨fun hno=>(by rw[hinf] at hno;cases hno),fun t' z' he=>?_⟩
   obtain⟨rfl,rfl⟩:t=t'∧z=z':=by rw[hinf] at he;simpa using he
   refine⟨hlay,fun g hg hfr=>?_⟩
   have hgs:g∉gs:=fun hm=>by
    obtain⟨j,hj⟩:=List.mem_iff_getElem?.1 hm
    have hjl:=(List.getElem?_eq_some_iff.1 hj).1
    exact hfr ha[j] (by rw[hal j _ (List.getElem?_eq_getElem (by omega)),hj])
   have hsz:k<listed.size:=by rw[inv.size];simpa using hkl
   have hlen1:(gs++[g]).length=gs.length+1:=by simp
   refine ZhJ hsel hn hnd hlt hzl hfla hwait hQ ks rest (gs++[g]) _ (al.put k g) _ (by rw[hlen1,←List.drop_drop,hd];rfl) (by rw[hlen1,←List.drop_drop,hz];rfl) (by rw[hlen1];omega) (fun j i hj=>?_) (fun i hi=>?_) (inv.set hr' (by simpa using hkn)) (fun j hj=>?_) (hbd.put _ _) (fun i hi hik=>?_) hB' (hn' g hg hgs)
   ·unfold Got.put
    by_cases hik:i=k
    ·subst hik
     have hjg:j=gs.length:=(List.getElem?_inj (List.getElem?_eq_some_iff.1 hj).1 hnd).1 (hj.trans hgk.symm)
     subst hjg;simp
    ·rw[if_neg hik,hal j i hj]
     have hjg:j≠gs.length:=fun e=>by subst e;rw[hgk] at hj;exact hik (Option.some.inj hj).symm
     rcases Nat.lt_or_ge j gs.length with hlt | hge
     ·rw[List.getElem?_append_left hlt]
     ·rw[List.getElem?_eq_none hge,List.getElem?_eq_none (by rw[hlen1];omega)]
   ·unfold Got.put
    have hik:i≠k:=fun e=>by subst e;exact hi hkm
    rw[if_neg hik];exact hal0 i hi
   ·unfold Got.put
    by_cases hjk:j=k
    ·subst hjk;simp[hsz] at hj
    ·rw[if_neg hjk];exact halL j (by rw[getD_set_ne true (fun e=>hjk e.symm)] at hj;exact hj)
   ·by_cases hik':i=k
    ·subst hik';simp[hsz]
    ·exact getD_set_true (hdn i hi (by simp[hik',hik]))
def ZeX (P:Program) (ops:Array Oper) (W:World) (Q:Act→Prop):List Oper→List Bool→List Value→Act→Prop
 | [],_,[],a=>Q a
 | o::l,b::bs,v::vs,a=>GivesB P ops W o v a∧(b=true→Yields P ops o v a)∧ZeX P ops W Q l bs vs (a.put o.dst v)
 | _,_,_,_=>False
theorem Zs9 {Q:Act→Prop}:∀(l:List Oper) (bs:List Bool) (a:Act),Zct P ops W Q l bs a→∃ vs,vs.length=l.length∧ZeX P ops W Q l bs vs a
 | [],_,_,h=>⟨[],rfl,h⟩
 | o::l,b::bs,a,⟨v,hg,hy,hn⟩=>by
  obtain⟨vs,hl,hc⟩:=Zs9 l bs _ hn
  exact⟨v::vs,by simp[hl],hg,hy,hc⟩
 | _::_,[],_,h=>False.elim h
theorem Zf6:∀(hs:List Nat) (bs:List Bool) (j i:Nat) (b:Bool),hs.Nodup→bs.length=hs.length→hs[j]?=some i→bs[j]?=some b→(late hs bs).contains i=b
 | [],bs,j,i,b,_,_,h,_=>by simp at h
 | k::hs,[],j,i,b,_,hl,_,_=>by simp at hl
 | k::hs,c::bs,0,i,b,hn,hl,h1,h2=>by
  simp only[List.getElem?_cons_zero,Option.some.injEq] at h1 h2
  subst h1;subst h2
  cases c with
  | true=>simp[late]
  | false =>
   have hk:=(List.nodup_cons.1 hn).1
   rw[Bool.eq_false_iff]
   intro hc
   have hm:k∈late (k::hs) (false::bs):=by simpa using hc
   simp only[late,List.zip_cons_cons,List.filterMap_cons,Bool.false_eq_true,if_false] at hm
   obtain⟨p,hp,hpe⟩:=List.mem_filterMap.1 hm
   split at hpe
   ·cases hpe;exact hk (List.of_mem_zip hp).1
   ·cases hpe
 | k::hs,c::bs,j+1,i,b,hn,hl,h1,h2=>by
  simp only[List.getElem?_cons_succ] at h1 h2
  have hne:i≠k:=fun e=>by
   subst e
   exact(List.nodup_cons.1 hn).1 (List.mem_of_getElem? h1)
  have ih:=Zf6 hs bs j i b (List.nodup_cons.1 hn).2 (by simpa using hl) h1 h2
  cases c with
  | true=>simp[late,hne];simpa [late] using ih
  | false=>simpa [late] using ih
theorem Zpj {hs:List Nat} {bs:List Bool} {i:Nat} (h:(late hs bs).contains i=true):i∈hs:=by
 have hm:i∈late hs bs:=by simpa using h
 obtain⟨p,hp,hpe⟩:=List.mem_filterMap.1 hm
 split at hpe
 ·cases hpe;exact(List.of_mem_zip hp).1
 ·cases hpe
theorem Ziu (hsel:Region.noSelect l.toArray=true) (hn:n≤l.length) (hnd:(hs++ha).Nodup) (hlt:∀i∈hs++ha,i<n) (hzl:zs.length=ha.length) (hbl:bs.length=hs.length) (hvl:vs.length=hs.length)
  (hall:∀i,i<n→i∈hs++ha)
  (hwait:∀listed,PickInv md l.toArray (fun i=>decide (i<n)) listed→¬Done l.toArray (fun i=>decide (i<n)) (fun i=>(late hs bs).contains i) listed→∀ t∈Region.ready md l.toArray listed,(fun i=>decide (i<n)) t=true)
  (hQ:∀c a d v w,Q (.panic c) (Act.put a d v) w→Q (.panic c) a w) :
  ∀ (ks:List Nat) (cs:List Bool) (ws:List Value) (p:Nat) (listed:Array Bool) (a:Act),hs.drop p=ks→bs.drop p=cs→vs.drop p=ws→p≤hs.length→PickInv md l.toArray (fun i=>decide (i<n)) listed →
  (∀ i,i<n→i∉ks++ha→listed.getD i false=true)→ZiT md l.toArray (l.toArray.size-n) n (ks++ha) listed=true →
  ZeX P l.toArray W (fun a'=>Zgb P W (Qf P W l zs n Q) (pick l ha) zs [] a') (pick l ks) cs ws a →
  anyP (ZfY ha zs) (look hs vs) (fun i=>decide (i<n)) (fun i=>(late hs bs).contains i) P md l.toArray W Q (l.toArray.size-n) (ks++ha).length (fun _=>none) listed a
 | [],cs,ws,p,listed,a,hd,hb,hw,hp,inv,hdn,hB,h=>by
  have hpe:p=hs.length:=by
   have:=congrArg List.length hd
   simp at this;omega
  have hwn:ws=[]:=by rw[←hw,hpe,←hvl,List.drop_length]
  have hcn:cs=[]:=by rw[←hb,hpe,←hbl,List.drop_length]
  subst hwn;subst hcn
  exact ZhJ hsel hn (List.nodup_append.1 hnd).2.1 (fun i hi=>hlt i (by simp[hi])) hzl (fun i hi=>by
   rw[Bool.eq_false_iff]
   intro hc
   exact(List.nodup_append.1 hnd).2.2 i (Zpj hc) i hi rfl) hwait hQ ha zs [] listed _ a rfl rfl (Nat.zero_le _) (fun k i _=>rfl) (fun _ _=>rfl) inv (fun _ _=>rfl) ⟨0,fun _ _ h=>by cases h⟩ hdn hB h
 | k::ks,cs,ws,p,listed,a,hd,hb,hw,hp,inv,hdn,hB,h=>by
  have hpk:hs[p]?=some k:=by
   have:=congrArg (fun x=>x[0]?) hd
   simpa using this
  have hkm:k∈hs:=List.mem_of_getElem? hpk
  have hpl:p<hs.length:=(List.getElem?_eq_some_iff.1 hpk).1
  have hkn:=hlt k (by simp[hkm])
  have hkl:k<l.length:=by omega
  have h0:l.toArray[k]?=some l[k]:=by simp[hkl]
  simp only[List.cons_append,ZiT,Bool.and_eq_true] at hB
  obtain⟨⟨hr,hf⟩,hB'⟩:=hB
  have hr':k∈Region.ready md l.toArray listed:=by simpa using hr
  rw[pick,List.getElem?_eq_getElem hkl] at h
  cases cs with
  | nil=>simp[ZeX] at h
  | cons c cs =>
  cases ws with
  | nil=>simp[ZeX] at h
  | cons v ws =>
   obtain⟨hg,hy,hnx⟩:=h
   have hbp:bs[p]?=some c:=by
    have:=congrArg (fun x=>x[0]?) hb
    simpa using this
   have hvp:vs[p]?=some v:=by
    have:=congrArg (fun x=>x[0]?) hw
    simpa using this
   have hval:look hs vs k=v:=Zi4 hs vs p k v (List.nodup_append.1 hnd).1 hpk hvp
   have hfl:(late hs bs).contains k=c:=Zf6 hs bs p k c (List.nodup_append.1 hnd).1 hbl hpk hbp
   have hinf:ZfY ha zs k=none:=ZgU ha zs k fun hka=>(List.nodup_append.1 hnd).2.2 k hkm k hka rfl
   have hsz:k<listed.size:=by rw[inv.size];simpa using hkl
   show anyP _ _ _ _ P md l.toArray W Q _ ((ks++ha).length+1) _ listed a
   refine ZfR _ _ _ _ h0 hsel (by simpa using hkn) hwait hQ (fun _=>hinf) (ks++ha).length _ listed a ⟨0,fun _ _ h=>by cases h⟩ (fun _ _=>rfl) inv (Region.free_spec h0 hf) hr' (fun hfk=>by rw[hval];exact hy (hfl.symm.trans hfk))
    ⟨fun _=>?_,fun t z he=>by rw[hinf] at he;cases he⟩
   rw[hval]
   refine⟨hg,Ziu hsel hn hnd hlt hzl hbl hvl hall hwait hQ ks cs ws (p+1) _ _ (by rw[←List.drop_drop,hd];rfl) (by rw[←List.drop_drop,hb];rfl) (by rw[←List.drop_drop,hw];rfl) (by omega) (inv.set hr' (by simpa using hkn)) (fun i hi hik=>?_) hB' hnx⟩
   by_cases hik':i=k
   ·subst hik';simp[hsz]
   ·exact getD_set_true (hdn i hi (by simp only[List.cons_append,List.mem_cons,not_or];exact⟨hik',hik⟩))
theorem Zao {id:Nat} {a:Act} {w:World} (W:World) (hs:List Nat) (bs:List Bool) (ha:List Nat) (zs:List (TypeId×Array Value)) (n:Nat) (hm:P.follows .mixedOrders=true) (hzl:zs.length=ha.length) (hB:Zvf .any l.toArray hs bs ha n=true)
  (hQ:∀c a d v w,Q (.panic c) (Act.put a d v) w→Q (.panic c) a w) (hW:Below W.heap.size W { w with drawn:=w.drawn+1 })
  (h:Zct P l.toArray W (fun a'=>Zgb P W (fun gs a''=>∀ w',Below W.heap.size W w'→(∀ (k g:Nat) (t:TypeId) (z:Array Value),gs[k]?=some g→zs[k]?=some (t,z)→w'.heap[g]?=some (Obj.cells z t (0,0)))→wpList P l.toArray Q (l.drop n) a'' w') (pick l ha) zs [] a') (pick l hs) bs a) :
  (Code.region id l.toArray true).wp P Q a w:=by
 simp only[Zvf,Bool.and_eq_true,decide_eq_true_eq] at hB
 obtain⟨⟨⟨⟨⟨⟨⟨hsel,hn⟩,hbl⟩,hnd⟩,hall⟩,hlt⟩,hw⟩,htk⟩:=hB
 have hn':n≤l.length:=by simpa using hn
 have hlt':∀i∈hs++ha,i<n:=fun i hi=>by simpa using List.all_eq_true.1 hlt i hi
 have hall':∀i,i<n→i∈hs++ha:=fun i hi=>by simpa using List.all_eq_true.1 hall i (List.mem_range.2 hi)
 have hwait:∀listed,PickInv .any l.toArray (fun i=>decide (i<n)) listed→¬Done l.toArray (fun i=>decide (i<n)) (fun i=>(late hs bs).contains i) listed→∀ t∈Region.ready .any l.toArray listed,(fun i=>decide (i<n)) t=true:=by
  intro listed inv hnd' t ht
  by_cases htn:t<n
  ·simpa using htn
  ·exfalso
   obtain⟨_,ot,hot,hdeps⟩:=mem_ready.1 ht
   have hts:t<l.toArray.size:=(Array.getElem?_eq_some_iff.1 hot).1
   have h1:=List.all_eq_true.1 hw t (List.mem_range.2 hts)
   simp only[Bool.or_eq_true,decide_eq_true_eq] at h1
   rcases h1 with (h1 | h1) | h1
   ·exact htn h1
   ·obtain⟨u,hu,hu2⟩:=List.any_eq_true.1 h1
    simp only[Bool.and_eq_true,decide_eq_true_eq] at hu2
    obtain⟨o',ho',e,he,hb,hon⟩:=Region.waitsFor_spec hu2.2
    obtain rfl:o'=ot:=Option.some.inj (ho'.symm.trans hot)
    have h3:=hdeps e he hb
    rw[hon,getD_both (inv.tail u (by simpa using hu2.1) (List.mem_range.1 hu))] at h3
    cases h3
   ·apply hnd'
    intro i hi hin hfi
    refine Zde inv ht _ h1 i ?_
    rw[List.mem_filter]
    refine⟨hall' i (by simpa using hin),?_⟩
    have hfi':(late hs bs).contains i=false:=hfi
    rw[hfi'];rfl
 obtain⟨vs,hvl,hc⟩:=Zs9 _ _ _ h
 have hpl:=(ZiV l hs fun i hi=>Nat.lt_of_lt_of_le (hlt' i (by simp[hi])) hn').1
 have inv0:PickInv .any l.toArray (fun i=>decide (i<n)) (Array.replicate l.toArray.size false) :=
  ⟨by simp,fun j oj _ hl=>(by rw[getD_replicate_false] at hl;cases hl),fun t _ ht=>getD_in (by simpa using ht) (getD_replicate_false _ _)⟩
 have H:=Ziu (md:=.any) (vs:=vs) hsel hn' hnd hlt' hzl hbl (by rw[hvl,hpl]) hall' hwait hQ hs bs vs 0 _ a rfl rfl rfl (Nat.zero_le _) inv0 (fun i hi hni=>absurd (hall' i hi) hni) htk hc
 have hlen:(hs++ha).length=n:=by
  have h1:(hs++ha).Perm (List.range n):=by
   rw[List.perm_iff_count]
   intro x
   rw[List.Nodup.count hnd,List.Nodup.count List.nodup_range]
   by_cases hx:x<n
   ·simp[hx,hall' x hx]
   ·have:x∉hs++ha:=fun h=>hx (hlt' x h)
    simp[hx,this]
  simpa using h1.length_eq
 refine wp_region_any hm ?_
 have:=ZbV (ZfY ha zs) (look hs vs) (fun i=>decide (i<n)) (fun i=>(late hs bs).contains i) _ _ _ _ _ hW (fun i g hg=>by cases hg) H
 rw[hlen,show n+(l.toArray.size-n)=l.toArray.size by omega] at this
 exact this
end
end
open Go
section
variable {P:Program} {ops:Array Oper} {md:Region.Mode} {S:World→Prop}
def Zfv (md:Region.Mode) (k:Nat) (o:Oper):Bool:=o.after.toList.all fun e=>!Region.binds md e||Nat.blt e.on k
def Zqz (md:Region.Mode) (ops:Array Oper) (k:Nat) (ok oj:Oper):Bool:=ok.apart ops oj||oj.after.toList.any fun e=>Region.binds md e&&Nat.beq e.on k
def Zfl (md:Region.Mode) (ops:Array Oper):Nat→List Oper→Bool
 | _,[]=>true
 | k,o::l=>Zfv md k o&&l.all (Zqz md ops k o)&&Zfl md ops (k+1) l
def Zu3 (md:Region.Mode) (l:List Oper):Bool:=Region.noSelect l.toArray&&Zfl md l.toArray 0 l
theorem Ziq {Lq:Act→Prop} (hsel:Region.noSelect ops=true) :
  ∀ (l:List Oper) (k:Nat) (listed:Array Bool) (a:Act),(∀ j,l[j]?=ops[k+j]?)→k+l.length=ops.size→HeadInv md ops ops.size listed →
  (∀ j,j<k→listed.getD j false=true)→(∀ j,k≤j→j<ops.size→listed.getD j true=false)→Zfl md ops k l=true→Zb0 P ops S Lq l a →
  anyG P md ops S ops.size (fun listed' a'=>Region.ready md ops listed'=[]∧Lq a') l.length listed a
 | [],k,listed,a,_,hk,_,hdn,_,_,h=>by
  refine⟨?_,h⟩
  rw[List.eq_nil_iff_forall_not_mem]
  intro i hi
  obtain⟨h1,o,ho,_⟩:=mem_ready.1 hi
  have:=hdn i (by have:=(Array.getElem?_eq_some_iff.1 ho).1;simp at hk;omega)
  rw[getD_both h1] at this;cases this
 | o::l,k,listed,a,hl,hk,inv,hdn,hun,hB,h=>by
  have h0:ops[k]?=some o:=by simpa using (hl 0).symm
  simp only[Zfl,Bool.and_eq_true] at hB
  obtain⟨⟨he,hp⟩,hB'⟩:=hB
  have hkn:k<ops.size:=(Array.getElem?_eq_some_iff.1 h0).1
  have hr':k∈Region.ready md ops listed:=by
   refine mem_ready.2 ⟨hun k (Nat.le_refl _) hkn,o,h0,fun e hm hb=>hdn _ ?_⟩
   have:=List.all_eq_true.1 he e (by simpa using hm)
   simpa [hb] using this
  obtain⟨v,hg,hK⟩:=h
  refine Zed h0 (Region.noSelect_spec hsel) hkn (fun listed' inv' _=>ZeT inv') (fun listed' a' hL j hj=>by rw[hL.1] at hj;cases hj) l.length listed a inv (fun j oj hj hne hju hno=>?_) hr' hg
   (Ziq hsel l (k+1) _ _ (fun j=>by have:=hl (j+1);simpa [Nat.add_assoc,Nat.add_comm 1 j] using this) (by simp only[List.length_cons] at hk;omega) (inv.set hr' hkn) (fun j hj=>?_) (fun j hj hjs=>?_) hB' hK)
  ·have hjk:k<j:=by
    rcases Nat.lt_or_ge j k with h | h
    ·have:=hdn j h;rw[getD_both hju] at this;cases this
    ·omega
   have hmem:oj∈l:=by
    have:=hl (j-k)
    rw[show k+(j-k)=j by omega,hj,show j-k=(j-k-1)+1 by omega,List.getElem?_cons_succ] at this
    exact List.mem_of_getElem? this
   have hpo:=List.all_eq_true.1 hp oj hmem
   unfold Zqz at hpo
   rcases Bool.or_eq_true_iff.1 hpo with h | h
   ·exact h
   ·obtain⟨e,hem,heb⟩:=List.any_eq_true.1 h
    rw[Bool.and_eq_true] at heb
    exact absurd (Nat.eq_of_beq_eq_true heb.2) (hno e (by simpa using hem) heb.1)
  ·by_cases hjk:j=k
   ·subst hjk
    have hlt:j<listed.size:=by rw[inv.size];exact hkn
    simp[hlt]
   ·exact getD_set_true (hdn j (by omega))
  ·rw[getD_set_ne true (by omega)];exact hun j (by omega) hjs
theorem ZaB {id:Nat} {Q:Exit→Act→World→Prop} {a:Act} {w:World} {l:List Oper} (S:World→Prop) (hm:P.follows .mixedOrders=true) (hB:Zu3 .any l=true)
  (hS:S { w with drawn:=w.drawn+1 }) (h:Zb0 P l.toArray S (fun a'=>∀ w',S w'→Q .normal a' w') l a):(Code.region id l.toArray true).wp P Q a w:=by
 simp only[Zu3,Bool.and_eq_true] at hB
 have inv0:HeadInv .any l.toArray l.toArray.size (Array.replicate l.toArray.size false) :=
  ⟨by simp,fun j oj _ hl=>(by rw[getD_replicate_false] at hl;cases hl),fun t _ ht=>getD_in (by simpa using ht) (getD_replicate_false _ _)⟩
 have H:=Ziq (md:=.any) hB.1 l 0 _ a (fun j=>by simp) (by simp) inv0 (fun j hj=>by omega) (fun j _ hj=>getD_in (by simpa using hj) (getD_replicate_false _ _)) hB.2 h
 refine wp_region_any hm ?_
 have:=ZbT (Q:=Q) (g:=0) (fun listed a' w' hL hS'=>⟨hL.1,hL.2 w' hS'⟩) _ _ _ _ hS H
 simpa using this
end
end Go.Hold
namespace Go
open Go.RowKit
def World.rowOf (w:World) (n:Nat):Array Value:=match w.heap[n]? with | some (.cells c _ (0,0))=>c | _=>#[]
def World.isRow (w:World) (n:Nat):Bool:=match w.heap[n]? with | some (.cells _ _ (0,0))=>true | _=>false
theorem World.isRow_spec {w:World} {n:Nat} (h:w.isRow n=true):∃t,w.heap[n]?=some (.cells (w.rowOf n) t (0,0)):=by
 unfold World.isRow at h;unfold World.rowOf
 split at h
 ·rename_i c t he;exact⟨t,by rw[he]⟩
 ·cases h
section
variable {P:Program} (w:World)
@[go_sem] theorem World.rowOf_alloc_at (c:Array Value) (t:TypeId) (n:Nat) (h:n=w.heap.size):(w.alloc (.cells c t)).rowOf n=c:=by
 subst h;unfold World.rowOf;rw[Zas];rfl
@[go_sem] theorem World.isRow_alloc_at (c:Array Value) (t:TypeId) (n:Nat) (h:n=w.heap.size):(w.alloc (.cells c t)).isRow n=true:=by
 subst h;unfold World.isRow;rw[Zas];rfl
@[go_sem] theorem World.rowOf_alloc_past (o:Obj) (n:Nat) (h:n<w.heap.size):(w.alloc o).rowOf n=w.rowOf n:=by unfold World.rowOf;rw[Zfx _ _ h]
@[go_sem] theorem World.isRow_alloc_past (o:Obj) (n:Nat) (h:n<w.heap.size):(w.alloc o).isRow n=w.isRow n:=by unfold World.isRow;rw[Zfx _ _ h]
@[go_sem] theorem World.rowOf_plus (os:Array Obj) (d n:Nat) (h:n<w.heap.size):(w.plus os d).rowOf n=w.rowOf n:=by unfold World.rowOf;rw[World.plus_block _ _ _ _ h]
@[go_sem] theorem World.isRow_plus (os:Array Obj) (d n:Nat) (h:n<w.heap.size):(w.plus os d).isRow n=w.isRow n:=by unfold World.isRow;rw[World.plus_block _ _ _ _ h]
@[go_sem] theorem World.rowOf_drew (n:Nat):w.drew.rowOf n=w.rowOf n:=rfl
@[go_sem] theorem World.isRow_drew (n:Nat):w.drew.isRow n=w.isRow n:=rfl
def Zaq (t:TypeId) (v:Value):Sem Value:=Instr.loadAt t v
theorem ZaE {t:TypeId} {d:TypeDesc} {k:Nat} (hu:P.underlying t=some d) (hd:(match d with | .struct _ | .array _ _=>true | _=>false)=true) (hi:(P.info? t).map (·.size)=some k)
  (n:Nat) (h1:w.isRow n=true) (h2:(w.rowOf n).size=k):(Zaq t (.pointer (some ⟨n,0,none⟩))).run P w=.ok (.agg (w.rowOf n)) w:=by
 obtain⟨t',ht⟩:=World.isRow_spec h1
 subst h2
 unfold Zaq
 simp only[Instr.loadAt,Instr.sureAddr,Sem.run_bind,Sem.run_pure,Result.andThen_ok,run_loadVar_row w n t' t (w.rowOf n) (0,0) d ht hu hd hi]
theorem ZaT {fn:Func} {p:Tmp} {t:TypeId} {d:TypeDesc} {cs:Array Value} (h:fn.results=#[.cell p t]) (hu:P.underlying t=some d) (hd:(match d with | .struct _ | .array _ _=>true | _=>false)=true) (hi:(P.info? t).map (·.size)=some cs.size)
  (tmps:Array Value) (n:Nat) (hp:tmps.getD p undef=.pointer (some ⟨n,0,none⟩)) (h1:w.isRow n=true) (h2:w.rowOf n=cs):(results fn tmps).run P w=.ok (.agg cs) w:=by
 obtain⟨t',ht⟩:=World.isRow_spec h1
 rw[h2] at ht
 exact results_cell_row h tmps w n t' cs (0,0) d hp ht hu hd hi
def Za4 (cs:Array Value):Bool:=cs.all (·.oneCell')
@[go_sem] theorem Zra (n:Nat) (cs:Array Value) (h1:w.isRow n=true) (h2:(w.rowOf n).size=cs.size) (h3:Za4 cs=true):(storeCells ⟨n,0,none⟩ cs.toList 0).run P w=.ok () (w.setRow n cs):=by
 obtain⟨t,ht⟩:=World.isRow_spec h1
 have:=run_storeCells_from (P:=P) n t cs.toList 0 (w.rowOf n) w ht (by simp;omega) (fun v hv=>(Array.all_eq_true_iff_forall_mem.1 h3) v (by simpa using hv))
 simpa using this
@[go_sem] theorem World.setRow_alloc_at (c cs:Array Value) (t:TypeId) (n:Nat) (h:n=w.heap.size):(w.alloc (.cells c t)).setRow n cs=w.alloc (.cells cs t):=by
 subst h
 simp only[World.setRow,World.alloc]
 congr 1
 apply Array.ext_getElem?
 intro i
 rw[Array.getElem?_modify]
 by_cases h:w.heap.size=i
 ·subst h;simp
 ·have h':¬i=w.heap.size:=fun e=>h e.symm
  simp[h,h',Array.getElem?_push]
@[go_sem] theorem World.setRow_alloc_past (o:Obj) (cs:Array Value) (n:Nat) (h:n<w.heap.size):(w.alloc o).setRow n cs=(w.setRow n cs).alloc o:=by
 simp only[World.setRow,World.alloc]
 congr 1
 apply Array.ext_getElem?
 intro i
 rw[Array.getElem?_modify,Array.getElem?_push,Array.getElem?_push,Array.getElem?_modify,Array.size_modify]
 by_cases hi:i=w.heap.size
 ·subst hi;simp[Nat.ne_of_lt h]
 ·simp[hi]
@[go_sem] theorem World.setRow_plus (os:Array Obj) (d:Nat) (cs:Array Value) (n:Nat) (h:n<w.heap.size):(w.plus os d).setRow n cs=(w.setRow n cs).plus os d:=by
 simp only[World.setRow,World.plus]
 congr 1
 apply Array.ext_getElem?
 intro k
 simp only[Array.getElem?_modify]
 by_cases hk:k<w.heap.size
 ·rw[Array.getElem?_append_left hk,Array.getElem?_append_left (by simpa using hk),Array.getElem?_modify]
 ·have hk':w.heap.size≤k:=Nat.le_of_not_lt hk
  rw[if_neg (by omega),Array.getElem?_append_right hk',Array.getElem?_append_right (by simpa using hk')]
  simp
@[go_sem] theorem World.setRow_drew (cs:Array Value) (n:Nat):w.drew.setRow n cs=(w.setRow n cs).drew:=rfl
end
def RowAt (w:World) (n:Nat) (c:Array Value):Prop:=w.isRow n=true∧w.rowOf n=c∧n<w.heap.size
theorem RowAt.block {w:World} {n:Nat} {c:Array Value} (h:RowAt w n c):∃t,w.heap[n]?=some (.cells c t (0,0)):=by
 obtain⟨t,ht⟩:=World.isRow_spec h.1
 exact⟨t,by rw[←h.2.1];exact ht⟩
theorem RowAt.of {w:World} {n:Nat} {c:Array Value} {t:TypeId} (h:w.heap[n]?=some (.cells c t (0,0))):RowAt w n c:=by
 refine⟨?_,?_,(Array.getElem?_eq_some_iff.1 h).1⟩
 ·unfold World.isRow;rw[h];rfl
 ·unfold World.rowOf;rw[h];rfl
theorem RowAt.grow {w w':World} {n:Nat} {c:Array Value} (h:RowAt w n c) (hb:Below w.heap.size w w'):RowAt w' n c:=by
 obtain⟨t,ht⟩:=h.block
 exact RowAt.of (t:=t) (by rw[hb.block n h.2.2];exact ht)
theorem RowAt.set {w:World} {n:Nat} {c:Array Value} (h:RowAt w n c) (c':Array Value):RowAt (w.setRow n c') n c':=by
 obtain⟨t,ht⟩:=h.block
 exact RowAt.of (setRow_heap w n c c' t _ ht)
theorem RowAt.other {w:World} {n:Nat} {c:Array Value} (h:RowAt w n c) {m:Nat} (hm:n≠m) (c':Array Value):RowAt (w.setRow m c') n c:=by
 obtain⟨t,ht⟩:=h.block
 exact RowAt.of (t:=t) (by rw[setRow_other w m n c' hm];exact ht)
@[go_sem] theorem Zrb (a b c0:Nat) (h:a<b):(a<b+c0)=True:=by simp only[eq_iff_iff,iff_true];omega
@[go_sem] theorem Zqc (a b c0 c1:Nat) (h:a<b):(a<b+c0+c1)=True:=by simp only[eq_iff_iff,iff_true];omega
@[go_sem] theorem ZqC (a b c0 c1 c2:Nat) (h:a<b):(a<b+c0+c1+c2)=True:=by simp only[eq_iff_iff,iff_true];omega
@[go_sem] theorem ZqS (a b c0 c1 c2 c3:Nat) (h:a<b):(a<b+c0+c1+c2+c3)=True:=by simp only[eq_iff_iff,iff_true];omega
@[go_sem] theorem ZqA (a b c0 c1 c2 c3 c4:Nat) (h:a<b):(a<b+c0+c1+c2+c3+c4)=True:=by simp only[eq_iff_iff,iff_true];omega
@[go_sem] theorem Zrc (a b c0 c1 c2 c3 c4 c5:Nat) (h:a<b):(a<b+c0+c1+c2+c3+c4+c5)=True:=by simp only[eq_iff_iff,iff_true];omega
@[go_sem] theorem Zqi (a b c0 c1 c2 c3 c4 c5 c6:Nat) (h:a<b):(a<b+c0+c1+c2+c3+c4+c5+c6)=True:=by simp only[eq_iff_iff,iff_true];omega
@[go_sem] theorem ZqX (a b c0 c1 c2 c3 c4 c5 c6 c7:Nat) (h:a<b):(a<b+c0+c1+c2+c3+c4+c5+c6+c7)=True:=by simp only[eq_iff_iff,iff_true];omega
@[go_sem] theorem Zrd (a b c0 c1 c2 c3 c4 c5 c6 c7 c8:Nat) (h:a<b):(a<b+c0+c1+c2+c3+c4+c5+c6+c7+c8)=True:=by simp only[eq_iff_iff,iff_true];omega
@[go_sem] theorem Zn8 (a b c0 c1 c2 c3 c4 c5 c6 c7 c8 c9:Nat) (h:a<b):(a<b+c0+c1+c2+c3+c4+c5+c6+c7+c8+c9)=True:=by simp only[eq_iff_iff,iff_true];omega
@[go_sem] theorem Zo0 (a b c0 c1 c2 c3 c4 c5 c6 c7 c8 c9 c10:Nat) (h:a<b):(a<b+c0+c1+c2+c3+c4+c5+c6+c7+c8+c9+c10)=True:=by simp only[eq_iff_iff,iff_true];omega
@[go_sem] theorem Zpe (a b c0 c1 c2 c3 c4 c5 c6 c7 c8 c9 c10 c11:Nat) (h:a<b):(a<b+c0+c1+c2+c3+c4+c5+c6+c7+c8+c9+c10+c11)=True:=by simp only[eq_iff_iff,iff_true];omega
@[go_sem] theorem Zo9 (a b c0 c1 c2 c3 c4 c5 c6 c7 c8 c9 c10 c11 c12:Nat) (h:a<b):(a<b+c0+c1+c2+c3+c4+c5+c6+c7+c8+c9+c10+c11+c12)=True:=by simp only[eq_iff_iff,iff_true];omega
@[go_sem] theorem Zot (a b c0 c1 c2 c3 c4 c5 c6 c7 c8 c9 c10 c11 c12 c13:Nat) (h:a<b):(a<b+c0+c1+c2+c3+c4+c5+c6+c7+c8+c9+c10+c11+c12+c13)=True:=by simp only[eq_iff_iff,iff_true];omega
@[go_sem] theorem ZwJ (a:Nat):(a=a+1)=False:=by simp only[eq_iff_iff,iff_false];omega
@[go_sem] theorem ZwB (a:Nat):(a=a+1+1)=False:=by simp only[eq_iff_iff,iff_false];omega
@[go_sem] theorem ZwQ (a:Nat):(a=a+1+1+1)=False:=by simp only[eq_iff_iff,iff_false];omega
@[go_sem] theorem Zw4 (a:Nat):(a=a+1+1+1+1)=False:=by simp only[eq_iff_iff,iff_false];omega
@[go_sem] theorem Zw0 (a:Nat):(a=a+1+1+1+1+1)=False:=by simp only[eq_iff_iff,iff_false];omega
@[go_sem] theorem Zxj (a:Nat):(a=a+1+1+1+1+1+1)=False:=by simp only[eq_iff_iff,iff_false];omega
@[go_sem] theorem ZwN (a:Nat):(a=a+1+1+1+1+1+1+1)=False:=by simp only[eq_iff_iff,iff_false];omega
@[go_sem] theorem ZwR (a:Nat):(a=a+1+1+1+1+1+1+1+1)=False:=by simp only[eq_iff_iff,iff_false];omega
@[go_sem] theorem Zxc (a:Nat):(a=a+1+1+1+1+1+1+1+1+1)=False:=by simp only[eq_iff_iff,iff_false];omega
@[go_sem] theorem Zwk (a:Nat):(a=a+1+1+1+1+1+1+1+1+1+1)=False:=by simp only[eq_iff_iff,iff_false];omega
@[go_sem] theorem Zwj (a:Nat):(a=a+1+1+1+1+1+1+1+1+1+1+1)=False:=by simp only[eq_iff_iff,iff_false];omega
@[go_sem] theorem Zv5 (a:Nat):(a=a+1+1+1+1+1+1+1+1+1+1+1+1)=False:=by simp only[eq_iff_iff,iff_false];omega
@[go_sem] theorem Zwf (a:Nat):(a=a+1+1+1+1+1+1+1+1+1+1+1+1+1)=False:=by simp only[eq_iff_iff,iff_false];omega
@[go_sem] theorem Zwq (a:Nat):(a=a+1+1+1+1+1+1+1+1+1+1+1+1+1+1)=False:=by simp only[eq_iff_iff,iff_false];omega
@[go_sem] theorem World.isRow_setRow (w:World) (n m:Nat) (c:Array Value):(w.setRow n c).isRow m=w.isRow m:=by
 unfold World.isRow World.setRow
 simp only[Array.getElem?_modify]
 by_cases h:n=m
 ·subst h
  rw[if_pos rfl]
  cases hx:w.heap[n]? with
  | none=>simp
  | some o =>
   cases o with
   | cells c' e fr=>obtain⟨a,b⟩:=fr;rcases a with _ | a<;>rcases b with _ | b<;>rfl
   | _=>rfl
 ·rw[if_neg h]
theorem World.rowOf_setRow_same (w:World) (n:Nat) (c:Array Value) (h:w.isRow n=true):(w.setRow n c).rowOf n=c:=by
 obtain⟨t,ht⟩:=World.isRow_spec h
 unfold World.rowOf
 rw[setRow_heap w n _ c t _ ht];rfl
theorem World.rowOf_setRow_other (w:World) (n m:Nat) (c:Array Value) (h:¬m=n):(w.setRow n c).rowOf m=w.rowOf m:=by
 unfold World.rowOf
 rw[setRow_other w n m c h]
@[go_sem] theorem World.rowOf_setRow (w:World) (n m:Nat) (c:Array Value) (h:w.isRow n=true):(w.setRow n c).rowOf m=if m=n then c else w.rowOf m:=by
 by_cases e:m=n
 ·subst e;rw[if_pos rfl];exact World.rowOf_setRow_same w m c h
 ·rw[if_neg e];exact World.rowOf_setRow_other w n m c e
@[go_sem] theorem World.size_setRow' (w:World) (n:Nat) (c:Array Value):(w.setRow n c).heap.size=w.heap.size:=size_setRow w n c
theorem RowAt.cellAt {w:World} {n:Nat} {c:Array Value} (h:RowAt w n c) (i:Nat) {v:Value} (hv:c[i]?=some v):w.cell? ⟨n,i,none⟩=some v:=by
 obtain⟨t,ht⟩:=h.block
 rw[cell_of_row w n i c t _ ht,hv]
end Go
namespace Go.Proofs.YtddmjddlbhdcpaaGreatDoor
open Go.RowKit
theorem Zit {P:Program} {fn:Func} {p p':Tmp} {t t':TypeId} {d d':TypeDesc} {cs cs':Array Value} (w:World) (h:fn.results=#[.cell p t,.cell p' t'])
  (hu:P.underlying t=some d) (hd:(match d with | .struct _ | .array _ _=>true | _=>false)=true) (hi:(P.info? t).map (·.size)=some cs.size)
  (hu':P.underlying t'=some d') (hd':(match d' with | .struct _ | .array _ _=>true | _=>false)=true) (hi':(P.info? t').map (·.size)=some cs'.size)
  (tmps:Array Value) (n n':Nat) (hp:tmps.getD p undef=.pointer (some ⟨n,0,none⟩)) (h1:w.isRow n=true) (h2:w.rowOf n=cs)
  (hp':tmps.getD p' undef=.pointer (some ⟨n',0,none⟩)) (h1':w.isRow n'=true) (h2':w.rowOf n'=cs'):(results fn tmps).run P w=.ok (.tuple #[.agg cs,.agg cs']) w:=by
 obtain⟨s,hs⟩:=World.isRow_spec h1
 obtain⟨s',hs'⟩:=World.isRow_spec h1'
 rw[h2] at hs;rw[h2'] at hs'
 have e:tmps[p]?.getD undef=.pointer (some ⟨n,0,none⟩):=by simpa using hp
 have e':tmps[p']?.getD undef=.pointer (some ⟨n',0,none⟩):=by simpa using hp'
 simp[results,h,e,e',asAddr,run_loadVar_row w n s t cs (0,0) d hs hu hd hi,run_loadVar_row w n' s' t' cs' (0,0) d' hs' hu' hd' hi']
theorem Zbj {P:Program} {fn:Func} {p p':Tmp} {t:TypeId} {d:TypeDesc} {cs:Array Value} {v:Value} (w:World) (h:fn.results=#[.cell p t,.tmp p'])
  (hu:P.underlying t=some d) (hd:(match d with | .struct _ | .array _ _=>true | _=>false)=true) (hi:(P.info? t).map (·.size)=some cs.size)
  (tmps:Array Value) (n:Nat) (hp:tmps.getD p undef=.pointer (some ⟨n,0,none⟩)) (h1:w.isRow n=true) (h2:w.rowOf n=cs)
  (hp':tmps.getD p' undef=v):(results fn tmps).run P w=.ok (.tuple #[.agg cs,v]) w:=by
 obtain⟨s,hs⟩:=World.isRow_spec h1
 rw[h2] at hs
 have e:tmps[p]?.getD undef=.pointer (some ⟨n,0,none⟩):=by simpa using hp
 have e':tmps[p']?.getD undef=v:=by simpa using hp'
 simp[results,h,e,e',asAddr,run_loadVar_row w n s t cs (0,0) d hs hu hd hi]
end Go.Proofs.YtddmjddlbhdcpaaGreatDoor
namespace Fp
def Pr (n : Nat) : Prop := 2 ≤ n ∧ ∀ d, d ∣ n → d = 1 ∨ d = n
theorem Znc {l1 : List Nat} : ∀ {l2 : List Nat}, l1.Nodup → (∀ x ∈ l1, x ∈ l2) → l2.length ≤ l1.length → l1.Perm l2 := by
  induction l1 with
  | nil => intro l2 _ _ h; have : l2 = [] := by cases l2 with | nil => rfl | cons => simp at h
           subst this; exact List.Perm.refl _
  | cons x t ih =>
    intro l2 hn hs hl
    have hx : x ∈ l2 := hs x (by simp)
    have hp := List.perm_cons_erase hx
    have hn' := List.nodup_cons.1 hn
    refine (List.Perm.cons x (ih hn'.2 ?_ ?_)).trans hp.symm
    · intro y hy
      have : y ≠ x := fun e => hn'.1 (e ▸ hy)
      exact (List.mem_erase_of_ne this).2 (hs y (by simp [hy]))
    · have := hp.length_eq; simp at this hl; omega
def prod : List Nat → Nat
  | [] => 1
  | x :: t => x * prod t
theorem ZnS {l1 l2 : List Nat} (h : l1.Perm l2) : prod l1 = prod l2 := by
  induction h with
  | nil => rfl
  | cons x _ ih => simp [prod, ih]
  | swap x y l => simp [prod, Nat.mul_left_comm]
  | trans _ _ a b => exact a.trans b
theorem Zpn (a d : Nat) (l : List Nat) : prod (l.map fun x => a * x % d) % d = a ^ l.length * prod l % d := by
  induction l with
  | nil => simp [prod]
  | cons x t ih =>
    simp only [List.map_cons, prod, List.length_cons]
    rw [Nat.mul_mod, ih, Nat.mod_mod, ← Nat.mul_mod]
    congr 1; rw [Nat.pow_succ]; simp [Nat.mul_assoc, Nat.mul_comm, Nat.mul_left_comm]
theorem Pr.cop {d a : Nat} (hd : Pr d) (h : ¬ d ∣ a) : Nat.Coprime d a := by
  rcases hd.2 _ (Nat.gcd_dvd_left d a) with e | e
  · exact e
  · exact absurd (e ▸ Nat.gcd_dvd_right d a) h
theorem Pr.dvd_mul {d a b : Nat} (hd : Pr d) (h : d ∣ a * b) : d ∣ a ∨ d ∣ b := by
  by_cases ha : d ∣ a
  · exact .inl ha
  · exact .inr ((hd.cop ha).dvd_of_dvd_mul_left h)
theorem Pr.not_dvd_prod {d : Nat} (hd : Pr d) : ∀ l : List Nat, (∀ x ∈ l, ¬ d ∣ x) → ¬ d ∣ prod l
  | [], _, h => by have := Nat.le_of_dvd (by simp [prod]) h; have := hd.1; simp [prod] at *; omega
  | x :: t, hx, h => by
    rcases hd.dvd_mul h with h | h
    · exact hx x (by simp) h
    · exact hd.not_dvd_prod t (fun y hy => hx y (by simp [hy])) h
theorem ZkY {d a b : Nat} (e : a % d = b % d) : d ∣ a - b := Nat.dvd_of_mod_eq_zero (Nat.sub_mod_eq_zero_of_mod_eq e)
theorem Zlq {d a b : Nat} (hab : b ≤ a) (h : d ∣ a - b) : a % d = b % d := by
  obtain ⟨k, hk⟩ := h
  have : a = b + d * k := by omega
  rw [this, Nat.add_mul_mod_self_left]
theorem Zm2 {d c a b : Nat} (h : Nat.Coprime d c) (e : a * c % d = b * c % d) (hab : b ≤ a) : a % d = b % d := by
  have : d ∣ (a - b) * c := by rw [Nat.sub_mul]; exact ZkY e
  exact Zlq hab (h.dvd_of_dvd_mul_right this)
theorem cancel {d c a b : Nat} (h : Nat.Coprime d c) (e : a * c % d = b * c % d) : a % d = b % d := by
  rcases Nat.le_total b a with g | g
  · exact Zm2 h e g
  · exact (Zm2 h e.symm g).symm
theorem Pr.not_dvd_small {d x : Nat} (h1 : 1 ≤ x) (h2 : x < d) : ¬ d ∣ x := fun h => by have := Nat.le_of_dvd h1 h; omega
theorem Zdo {f : Nat → Nat} : ∀ {l : List Nat}, l.Nodup → (∀ x ∈ l, ∀ y ∈ l, f x = f y → x = y) → (l.map f).Nodup
  | [], _, _ => by simp
  | x :: t, hn, h => by
    have hn' := List.nodup_cons.1 hn
    refine List.nodup_cons.2 ⟨?_, Zdo hn'.2 fun a ha b hb => h a (by simp [ha]) b (by simp [hb])⟩
    intro hm
    obtain ⟨y, hy, e⟩ := List.mem_map.1 hm
    exact hn'.1 (h y (by simp [hy]) x (by simp) e ▸ hy)
theorem Zqm {d a : Nat} (hd : Pr d) (ha : ¬ d ∣ a) : a ^ (d - 1) % d = 1 := by
  have h2 := hd.1
  have hco := hd.cop ha
  let L := List.range' 1 (d - 1)
  have hL : ∀ x, x ∈ L ↔ 1 ≤ x ∧ x < d := by intro x; simp only [L, List.mem_range'_1]; omega
  have hp : (L.map fun x => a * x % d).Perm L := by
    refine Znc ?_ ?_ (by simp)
    · have hn : L.Nodup := List.nodup_range'
      refine Zdo hn ?_
      intro x hx y hy e
      have h := cancel (a := x) (b := y) hco (by simpa [Nat.mul_comm] using e)
      have := (hL x).1 hx; have := (hL y).1 hy
      rwa [Nat.mod_eq_of_lt (by omega), Nat.mod_eq_of_lt (by omega)] at h
    · intro y hy
      obtain ⟨x, hx, rfl⟩ := List.mem_map.1 hy
      have hx' := (hL x).1 hx
      refine (hL _).2 ⟨?_, Nat.mod_lt _ (by omega)⟩
      rcases Nat.eq_zero_or_pos (a * x % d) with e | e
      · rcases hd.dvd_mul (Nat.dvd_of_mod_eq_zero e) with h | h
        · exact absurd h ha
        · exact absurd h (Pr.not_dvd_small hx'.1 hx'.2)
      · exact e
  have e := Zpn a d L
  rw [ZnS hp] at e
  have hl : L.length = d - 1 := by simp [L]
  rw [hl] at e
  have hc : Nat.Coprime d (prod L) := hd.cop (hd.not_dvd_prod L fun x hx => Pr.not_dvd_small ((hL x).1 hx).1 ((hL x).1 hx).2)
  have := cancel (a := a ^ (d - 1)) (b := 1) hc (by rw [Nat.one_mul]; exact e.symm)
  rw [this]; exact Nat.mod_eq_of_lt (by omega)
theorem Zha (b f : Nat) (h : 1 ≤ f) : b ∣ b ^ f := by
  obtain ⟨k, rfl⟩ : ∃ k, f = k + 1 := ⟨f - 1, by omega⟩
  exact ⟨b ^ k, by rw [Nat.pow_succ, Nat.mul_comm]⟩
theorem Zlb {f m : Nat} (h : Nat.Coprime f m) (hm : 1 ≤ m) : ∃ u, f * u % m = 1 % m := by
  rcases Nat.lt_or_ge 1 m with g | g
  · have hL : ∀ x, x ∈ List.range m ↔ x < m := by simp
    have hp : ((List.range m).map fun x => f * x % m).Perm (List.range m) := by
      refine Znc (Zdo List.nodup_range ?_) ?_ (by simp)
      · intro x hx y hy e
        have h := cancel (a := x) (b := y) h.symm (by simpa [Nat.mul_comm] using e)
        rwa [Nat.mod_eq_of_lt ((hL x).1 hx), Nat.mod_eq_of_lt ((hL y).1 hy)] at h
      · intro y hy
        obtain ⟨x, _, rfl⟩ := List.mem_map.1 hy
        exact (hL _).2 (Nat.mod_lt _ (by omega))
    have h1 : 1 ∈ (List.range m).map fun x => f * x % m := hp.mem_iff.2 ((hL 1).2 g)
    obtain ⟨u, _, hu⟩ := List.mem_map.1 h1
    exact ⟨u, by rw [hu, Nat.mod_eq_of_lt g]⟩
  · exact ⟨0, by have : m = 1 := by omega
                 subst this; simp⟩
theorem Zf3 {b m k : Nat} (h : b ^ k % m = 1 % m) (u : Nat) : b ^ (k * u) % m = 1 % m := by
  rw [Nat.pow_mul, Nat.pow_mod, h, ← Nat.pow_mod, Nat.one_pow]
theorem pock {n f a d : Nat} (hf : Pr f) (hn : 2 ≤ n) (hfn : f ∣ n - 1) (h1 : a ^ (n - 1) % n = 1)
    (h2 : Nat.Coprime (a ^ ((n - 1) / f) % n + (n - 1)) n) (hd : Pr d) (hdn : d ∣ n) : f ∣ d - 1 := by
  have hd2 := hd.1
  have hone : 1 % d = 1 := Nat.mod_eq_of_lt (by omega)
  let b := a ^ ((n - 1) / f)
  have hbf : b ^ f % d = 1 := by
    have : b ^ f = a ^ (n - 1) := by simp only [b]; rw [← Nat.pow_mul, Nat.div_mul_cancel hfn]
    rw [this, ← Nat.mod_mod_of_dvd _ hdn, h1, hone]
  have hb1 : b % d ≠ 1 := by
    intro e
    have hdv : d ∣ b % n + (n - 1) := by
      have e2 : b % n % d = 1 := by rw [Nat.mod_mod_of_dvd _ hdn]; exact e
      obtain ⟨k, hk⟩ := hdn
      have hk0 : 1 ≤ k := by rcases Nat.eq_zero_or_pos k with r | r; · subst r; omega
                             · exact r
      have : b % n = d * (b % n / d) + 1 := by have := Nat.div_add_mod (b % n) d; omega
      refine ⟨b % n / d + k, ?_⟩
      rw [Nat.mul_add, ← hk]; omega
    have := Nat.dvd_gcd hdv hdn
    rw [show Nat.gcd (b % n + (n - 1)) n = 1 from h2] at this
    have := Nat.le_of_dvd (by omega) this
    omega
  have hnd : ¬ d ∣ b := by
    intro h
    have : b ^ f % d = 0 := Nat.mod_eq_zero_of_dvd (Nat.dvd_trans h (Zha b f (by have := hf.1; omega)))
    omega
  have hfe := Zqm hd hnd
  rcases Classical.em (f ∣ d - 1) with h | h
  · exact h
  exfalso
  have hc := hf.cop h
  obtain ⟨u, hu⟩ := Zlb hc (by omega)
  have e1 : b ^ (f * u) % d = 1 := by have := Zf3 (m := d) (by rw [hone]; exact hbf) u; rwa [hone] at this
  have e2 : b ^ (f * u) % d = b % d := by
    have hq := Nat.div_add_mod (f * u) (d - 1)
    rw [← hq, Nat.pow_add, Nat.mul_mod, Zf3 (m := d) (by rw [hone]; exact hfe), hu]
    rcases Nat.lt_or_ge 2 d with g | g
    · rw [Nat.mod_eq_of_lt (a := 1) (b := d - 1) (by omega), hone, Nat.one_mul, Nat.pow_one, Nat.mod_mod]
    · have : d = 2 := by omega
      subst this
      have : b % 2 ≠ 0 := fun h => hnd (Nat.dvd_of_mod_eq_zero h)
      omega
  omega
theorem ZiD (n : Nat) (h : 2 ≤ n) : ∃ d, Pr d ∧ d ∣ n := by
  induction n using Nat.strongRecOn with
  | ind n ih =>
    rcases Classical.em (Pr n) with hp | hp
    · exact ⟨n, hp, Nat.dvd_refl n⟩
    · have : ∃ d, d ∣ n ∧ d ≠ 1 ∧ d ≠ n := by
        apply Classical.byContradiction
        intro hn
        refine hp ⟨h, fun d hd => ?_⟩
        apply Classical.byContradiction
        intro hc
        exact hn ⟨d, hd, fun e => hc (.inl e), fun e => hc (.inr e)⟩
      obtain ⟨d, hd, h1, h2⟩ := this
      have hle := Nat.le_of_dvd (by omega) hd
      have h0 : d ≠ 0 := by rintro rfl; have := Nat.eq_zero_of_zero_dvd hd; omega
      obtain ⟨e, he, hed⟩ := ih d (by omega) (by omega)
      exact ⟨e, he, Nat.dvd_trans hed hd⟩
theorem Zfy {n : Nat} (h : 2 ≤ n) (hs : ∀ e, Pr e → e ∣ n → n < e * e) : Pr n := by
  refine ⟨h, fun d hd => ?_⟩
  apply Classical.byContradiction
  intro hc
  have h1 : d ≠ 1 := fun e => hc (.inl e)
  have h2 : d ≠ n := fun e => hc (.inr e)
  obtain ⟨k, hk⟩ := hd
  have hd0 : d ≠ 0 := by rintro rfl; omega
  have hk0 : k ≠ 0 := by rintro rfl; omega
  have hk1 : k ≠ 1 := by rintro rfl; omega
  rcases Nat.le_total d k with g | g
  · obtain ⟨e, he, hed⟩ := ZiD d (by omega)
    have := hs e he (Nat.dvd_trans hed ⟨k, hk⟩)
    have hl := Nat.le_of_dvd (by omega) hed
    have := Nat.mul_le_mul hl (Nat.le_trans hl g)
    omega
  · obtain ⟨e, he, hed⟩ := ZiD k (by omega)
    have := hs e he (Nat.dvd_trans hed ⟨d, by rw [hk, Nat.mul_comm]⟩)
    have hl := Nat.le_of_dvd (by omega) hed
    have := Nat.mul_le_mul (Nat.le_trans hl g) hl
    omega
def tr (n k : Nat) : Bool := (List.range k).all fun i => decide (i < 2) || decide (n % i ≠ 0)
theorem Zo4 {n : Nat} (k : Nat) (h2 : 2 ≤ n) (h : tr n k = true) (hk : n < k * k) : Pr n := by
  refine Zfy h2 fun e he hd => ?_
  apply Classical.byContradiction
  intro hc
  have hlt : e < k := by
    apply Classical.byContradiction
    intro g
    have := Nat.mul_le_mul (Nat.le_of_not_lt g) (Nat.le_of_not_lt g)
    omega
  have := List.all_eq_true.1 h e (by simpa using hlt)
  have h1 := he.1
  simp at this
  rcases this with h | h
  · omega
  · exact h (Nat.mod_eq_zero_of_dvd hd)
def pm (m : Nat) : Nat → Nat → Nat → Nat
  | 0, _, _ => 1 % m
  | k + 1, b, e => if e % 2 = 1 then b * pm m k (b * b % m) (e / 2) % m else pm m k (b * b % m) (e / 2)
theorem Zsr (m : Nat) : ∀ k b e, e < 2 ^ k → pm m k b e = b ^ e % m
  | 0, b, e, h => by have : e = 0 := by simpa using h
                     subst this; simp [pm]
  | k + 1, b, e, h => by
    have h' : e / 2 < 2 ^ k := by rw [Nat.pow_succ] at h; omega
    have ih := Zsr m k (b * b % m) (e / 2) h'
    have hb : (b * b % m) ^ (e / 2) % m = b ^ (2 * (e / 2)) % m := by rw [← Nat.pow_mod, Nat.pow_mul, Nat.pow_two]
    have he := Nat.div_add_mod e 2
    unfold pm
    rw [ih, hb]
    split
    · next g => rw [Nat.mul_mod, Nat.mod_mod, ← Nat.mul_mod, ← Nat.pow_succ']; congr 2; omega
    · next g => congr 2; omega
theorem Zjl {n f d : Nat} (k : Nat) (hf : Pr f) (hn : 2 ≤ n) (hk : n ≤ 2 ^ k) (hfn : (n - 1) % f = 0) (h1 : pm n k 2 (n - 1) = 1)
    (h2 : Nat.gcd (pm n k 2 ((n - 1) / f) + (n - 1)) n = 1) (hd : Pr d) (hdn : d ∣ n) : f ∣ d - 1 := by
  have hdiv : (n - 1) / f ≤ n - 1 := Nat.div_le_self _ _
  refine pock (a := 2) hf hn (Nat.dvd_of_mod_eq_zero hfn) ?_ ?_ hd hdn
  · rw [← Zsr n k 2 (n - 1) (by omega)]; exact h1
  · rw [← Zsr n k 2 _ (by omega)]; exact h2
theorem ZdI {n F : Nat} (hn : 2 ≤ n) (hF : n < F * F) (h : ∀ d, Pr d → d ∣ n → F ∣ d - 1) : Pr n := by
  refine Zfy hn fun e he hd => ?_
  have h1 := he.1
  have := Nat.le_of_dvd (by omega) (h e he hd)
  have : F ≤ e := by omega
  exact Nat.lt_of_lt_of_le hF (Nat.mul_le_mul this this)
theorem ZwE : Pr 127 := Zo4 12 (by decide) (by decide +kernel) (by decide)
theorem Ztn : Pr 75707 := Zo4 276 (by decide) (by decide +kernel) (by decide)
theorem ZlE : Pr 1923133 := Zo4 1387 (by decide) (by decide +kernel) (by decide)
theorem Zmd : Pr 8574133 := Zo4 2929 (by decide) (by decide +kernel) (by decide)
theorem prS : Pr 1919519569386763 := by
  refine ZdI (F := 8574133 * 127) (by decide) (by decide) fun d hd hdn => ?_
  have c : Nat.Coprime 8574133 127 := by decide +kernel
  exact c.mul_dvd_of_dvd_of_dvd (Zjl 256 Zmd (by decide +kernel) (by decide +kernel) (by decide +kernel) (by decide +kernel) (by decide +kernel) hd hdn)
    (Zjl 256 ZwE (by decide +kernel) (by decide +kernel) (by decide +kernel) (by decide +kernel) (by decide +kernel) hd hdn)
theorem prR : Pr 75445702479781427272750846543864801 := by
  refine ZdI (F := 1919519569386763 * 75707) (by decide) (by decide) fun d hd hdn => ?_
  have c : Nat.Coprime 1919519569386763 75707 := by decide +kernel
  exact c.mul_dvd_of_dvd_of_dvd (Zjl 256 prS (by decide +kernel) (by decide +kernel) (by decide +kernel) (by decide +kernel) (by decide +kernel) hd hdn)
    (Zjl 256 Ztn (by decide +kernel) (by decide +kernel) (by decide +kernel) (by decide +kernel) (by decide +kernel) hd hdn)
theorem prQ : Pr 74058212732561358302231226437062788676166966415465897661863160754340907 := by
  refine ZdI (F := 75445702479781427272750846543864801 * 1923133) (by decide) (by decide) fun d hd hdn => ?_
  have c : Nat.Coprime 75445702479781427272750846543864801 1923133 := by decide +kernel
  exact c.mul_dvd_of_dvd_of_dvd (Zjl 256 prR (by decide +kernel) (by decide +kernel) (by decide +kernel) (by decide +kernel) (by decide +kernel) hd hdn)
    (Zjl 256 ZlE (by decide +kernel) (by decide +kernel) (by decide +kernel) (by decide +kernel) (by decide +kernel) hd hdn)
def P : Nat := 57896044618658097711785492504343953926634992332820282019728792003956564819949
theorem prP : Pr P := by
  refine ZdI (F := 74058212732561358302231226437062788676166966415465897661863160754340907) (by decide +kernel) (by decide +kernel) fun d hd hdn => ?_
  exact Zjl 256 prQ (by decide +kernel) (by decide +kernel) (by decide +kernel) (by decide +kernel) (by decide +kernel) hd hdn
def E : Nat := 57896044618658097711785492504343953926634992332820282019728792003956564819947
def pw (a k : Nat) : Nat := a ^ (E / 2 ^ k) % P
theorem Zq7 : ∀ j, j < 255 → E / 2 ^ j % 2 = if j = 4 ∨ j = 2 then 0 else 1 := by decide +kernel
theorem ZuI (j : Nat) : E / 2 ^ j = 2 * (E / 2 ^ (j + 1)) + E / 2 ^ j % 2 := by
  have h : E / 2 ^ (j + 1) = E / 2 ^ j / 2 := by rw [Nat.pow_succ, Nat.div_div_eq_div_mul]
  omega
theorem pw_top (a : Nat) : pw a 255 = 1 := by
  have h : E / 2 ^ 255 = 0 := by decide +kernel
  unfold pw; rw [h, Nat.pow_zero]; decide +kernel
theorem pw_bot (a : Nat) : pw a 0 = a ^ E % P := by unfold pw; rw [Nat.pow_zero, Nat.div_one]
theorem pw_sq (a j : Nat) (hj : j < 255) (h : j = 4 ∨ j = 2) : pw a (j + 1) * pw a (j + 1) % P = pw a j := by
  unfold pw
  rw [ZuI j, Zq7 j hj, if_pos h]
  generalize E / 2 ^ (j + 1) = e
  rw [← Nat.mul_mod, Nat.add_zero, Nat.two_mul, Nat.pow_add]
theorem pw_sqm (a j : Nat) (hj : j < 255) (h : ¬ (j = 4 ∨ j = 2)) : pw a (j + 1) * pw a (j + 1) % P * a % P = pw a j := by
  unfold pw
  rw [ZuI j, Zq7 j hj, if_neg h]
  generalize E / 2 ^ (j + 1) = e
  rw [← Nat.mul_mod, Nat.mod_mul_mod, Nat.pow_succ, Nat.two_mul, Nat.pow_add]
theorem P_pos : 0 < P := by decide +kernel
theorem Zvz : E + 1 = P - 1 := by decide +kernel
theorem inv_mul (a : Nat) (h : a % P ≠ 0) : a * (a ^ E % P) % P = 1 := by
  rw [Nat.mul_mod, Nat.mod_mod, ← Nat.mul_mod, Nat.mul_comm, ← Nat.pow_succ, show E.succ = P - 1 from Zvz]
  exact Zqm prP fun hd => h (Nat.mod_eq_zero_of_dvd hd)
theorem pow_mod (a k : Nat) : (a % P) ^ k % P = a ^ k % P := (Nat.pow_mod a k P).symm
theorem inv_zero : 0 ^ E % P = 0 := by
  have : (0 : Nat) ^ E = 0 := Nat.zero_pow (by decide +kernel)
  rw [this]; decide +kernel
end Fp
