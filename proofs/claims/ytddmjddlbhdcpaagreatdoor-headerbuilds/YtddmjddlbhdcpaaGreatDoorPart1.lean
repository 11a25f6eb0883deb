/-
  Part 1 of the texts behind the theorem.
-/
import Derived.StillTail
import Derived.WalkKit
import Derived.Laws.Rows
import Derived.Lib.Hide
set_option maxHeartbeats 8000000
set_option maxRecDepth 100000
theorem Zq {p : Prop} (h : p) : Go.RowKit.Hid p := h
namespace Go.Hold
open Go
section
variable {P:Program} {ops:Array Oper} {md:Region.Mode} {S:World→Prop}
def Zdq (P:Program) (o:Oper) (a:Act) (K:Value→Act→World→Prop):Result Next→Prop
 | .ok (.value v) w'=>K v (a.put o.dst v) w'
 | .ok .skip w'=>K undef (a.put o.dst undef) w'
 | .ok (.enter f args) w'=>Calls P f args w' fun e w''=>∃ v,e=.returned v∧K v (a.put o.dst v) w''
 | _=>False
theorem Zgp {o:Oper} {a a':Act} {K K':Value→Act→World→Prop} (h:∀v w,K v (a.put o.dst v) w→K' v (a'.put o.dst v) w) (r:Result Next) (hh:Zdq P o a K r):Zdq P o a' K' r:=by
 cases r with
 | halt x w=>exact False.elim hh
 | ok n w =>
  cases n<;>try exact False.elim hh
  case value v=>exact h _ _ hh
  case skip=>exact h _ _ hh
  case enter f args=>exact Calls.mono (P:=P) hh fun _ _ ⟨v,he,hk⟩=>⟨v,he,h _ _ hk⟩
def Gives (P:Program) (ops:Array Oper) (S:World→Prop) (o:Oper) (v:Value) (a:Act):Prop :=
 (Region.wanted o (yielded ops a.tmps)=true∧∀ w,S w→Zdq P o a (fun u _ w'=>u=v∧S w') ((execOp a.eval o).run P w)) ∨
 (Region.wanted o (yielded ops a.tmps)=false∧v=undef)
theorem Gives.like {o:Oper} {v:Value} {a a':Act} (h:Gives P ops S o v a) (he:execOp a'.eval o=execOp a.eval o)
  (hw:Region.wanted o (yielded ops a'.tmps)=Region.wanted o (yielded ops a.tmps)):Gives P ops S o v a':=by
 rcases h with ⟨h1,h2⟩ | ⟨h1,h2⟩
 ·exact .inl ⟨hw▸h1,fun w hS=>by rw[he];exact Zgp (fun _ _ h=>h) _ (h2 w hS)⟩
 ·exact .inr ⟨hw▸h1,h2⟩
theorem Gives.wpOp {i:Nat} {o:Oper} {v:Value} {a:Act} {Q:Exit→Act→World→Prop} (hi:ops[i]?=some o) (hg:Gives P ops S o v a) {K:Act→World→Prop} {w:World} (hS:S w)
  (h:∀w',S w'→K (a.put o.dst v) w'):wpOp P ops Q i K a w:=by
 unfold Go.wpOp
 simp only[hi]
 rcases hg with ⟨hw,hv⟩ | ⟨hw,rfl⟩
 ·simp only[hw,if_true]
  refine .inl ?_
  have hv:=hv w hS
  unfold Oper.wp
  generalize (execOp a.eval o).run P w=r at hv
  cases r with
  | halt x w=>exact False.elim hv
  | ok n w =>
   cases n<;>try exact False.elim hv
   case value u=>obtain⟨rfl,hs⟩:=hv;exact h _ hs
   case skip=>obtain⟨rfl,hs⟩:=hv;exact h _ hs
   case enter f args =>
    refine Calls.mono (P:=P) hv ?_
    rintro e w'' ⟨u,rfl,rfl,hs⟩
    exact h _ hs
 ·simp only[hw,Bool.false_eq_true,if_false]
  exact h w hS
def anyG (P:Program) (md:Region.Mode) (ops:Array Oper) (S:World→Prop) (n:Nat) (L:Array Bool→Act→Prop):Nat→Array Bool→Act→Prop
 | 0,listed,a=>L listed a
 | f+1,listed,a=>Region.ready md ops listed≠[]∧∀ i∈Region.ready md ops listed,i<n∧∃ o v,ops[i]?=some o∧Gives P ops S o v a∧anyG P md ops S n L f (listed.setIfInBounds i true) (a.put o.dst v)
theorem ZbV {n g:Nat} {L:Array Bool→Act→Prop} {Q:Exit→Act→World→Prop} (hL:∀listed a w,L listed a→S w→wpAny P md ops Q g listed a w) :
  ∀ (f:Nat) (listed:Array Bool) (a:Act) (w:World),S w→anyG P md ops S n L f listed a→wpAny P md ops Q (f+g) listed a w
 | 0,listed,a,w,hS,h=>by rw[Nat.zero_add];exact hL _ _ _ h hS
 | f+1,listed,a,w,hS,h=>by
  rw[show f+1+g=(f+g)+1 by omega]
  refine⟨fun h0=>absurd h0 h.1,fun i hi=>?_⟩
  obtain⟨_,o,v,ho,hg,hn⟩:=h.2 i hi
  exact hg.wpOp ho hS fun w' hS'=>ZbV hL f _ _ w' hS' hn
theorem Zee {n i:Nat} {oi:Oper} {v:Value} {L:Array Bool→Act→Prop} (hi:ops[i]?=some oi) (hsel:∀(j:Nat) (o:Oper) cs b,ops[j]?=some o→o.op≠.select cs b) (hin:i<n)
  (hwait:∀listed,HeadInv md ops n listed→listed.getD i true=false→∀ t,n≤t→t∉Region.ready md ops listed) (hdone:∀listed a,L listed a→∀ j∈Region.ready md ops listed,n≤j) :
  ∀ (f:Nat) (listed:Array Bool) (a:Act),HeadInv md ops n listed →
   (∀ j oj,ops[j]?=some oj→j≠i→listed.getD j true=false→(∀ e∈oj.after,Region.binds md e=true→e.on≠i)→oi.apart ops oj=true) →
   i∈Region.ready md ops listed→Gives P ops S oi v a →
   anyG P md ops S n L f (listed.setIfInBounds i true) (a.put oi.dst v)→anyG P md ops S n L (f+1) listed a:=by
 intro f
 induction f with
 | zero =>
  intro listed a inv _ hr hg H
  refine⟨fun h=>(by rw[h] at hr;cases hr),fun j hj=>?_⟩
  have hjn:j<n:=Nat.lt_of_not_le fun h=>hwait listed inv (mem_ready.1 hr).1 j h hj
  by_cases hji:j=i
  ·subst hji;exact⟨hjn,oi,v,hi,hg,H⟩
  ·have:=hdone _ _ H j (ready_mono hj hji);omega
 | succ f ih =>
  intro listed a inv hfree hr hg H
  have hun:=(mem_ready.1 hr).1
  refine⟨fun h=>(by rw[h] at hr;cases hr),fun j hj=>?_⟩
  have hjn:j<n:=Nat.lt_of_not_le fun h=>hwait listed inv hun j h hj
  by_cases hji:j=i
  ·subst hji;exact⟨hjn,oi,v,hi,hg,H⟩
  ·obtain⟨_,oj,u,hoj,hgj,hn⟩:=H.2 j (ready_mono hj hji)
   obtain⟨hjun,oj',hoj',hall⟩:=mem_ready.1 hj
   obtain rfl:oj'=oj:=Option.some.inj (hoj'.symm.trans hoj)
   have hnot:∀e∈oj'.after,Region.binds md e=true→e.on≠i:=fun e he hb heq=>by
    have h1:=hall e he hb
    rw[heq,getD_both hun] at h1
    cases h1
   obtain⟨p1,p2,p3⟩:=Oper.apart_spec (hfree j oj' hoj hji hjun hnot)
   refine⟨hjn,oj',u,hoj,hgj.like (execOp_put oj' (fun cs b=>hsel j oj' cs b hoj) a oi.dst v p1).symm (wanted_put oj' a oi.dst v p1).symm,?_⟩
   refine ih (listed.setIfInBounds j true) (a.put oj'.dst u) (inv.set hj hjn) ?_ (ready_mono hr (Ne.symm hji)) ?_ ?_
   ·intro k ok hk hki hkun hno
    refine hfree k ok hk hki ?_ hno
    by_cases hjk:j=k
    ·subst hjk;exact hjun
    ·rw[getD_set_ne true hjk] at hkun;exact hkun
   ·exact hg.like (execOp_put oi (fun cs b=>hsel i oi cs b hi) a oj'.dst u p3) (wanted_put oi a oj'.dst u p3)
   ·rw[Array.setIfInBounds_comm _ _ hji,Act.put_comm a u v fun d hd=>fun e=>p2 d e hd]
    exact hn
def Zcj (P:Program) (ops:Array Oper) (S:World→Prop) (Q:Act→Prop):List Oper→Act→Prop
 | [],a=>Q a
 | o::rest,a=>∃ v,Gives P ops S o v a∧Zcj P ops S Q rest (a.put o.dst v)
theorem Zaw {Q:Act→Prop} {a:Act} (h:Q a):Zcj P ops S Q [] a:=h
def Zeh (o:Oper) (a:Act) (K:Value→Act→World→Prop):Result Next→Prop
 | .ok (.value v) w'=>K v (a.put o.dst v) w'
 | .ok .skip w'=>K undef (a.put o.dst undef) w'
 | _=>False
@[go_sem] theorem ZqZ (o:Oper) (a:Act) (K:Value→Act→World→Prop) (v:Value) (w:World):Zeh o a K (.ok (.value v) w)=K v (a.put o.dst v) w:=rfl
@[go_sem] theorem Zs0 (o:Oper) (a:Act) (K:Value→Act→World→Prop) (w:World):Zeh o a K (.ok .skip w)=K undef (a.put o.dst undef) w:=rfl
def Zgy (P:Program) (K:Value→World→Prop):Result Next→Prop
 | .ok (.enter f args) w'=>Calls P f args w' fun e w''=>∃ v,e=.returned v∧K v w''
 | _=>False
@[go_sem] theorem Zq9 (K:Value→World→Prop) (f:FuncId) (args:Array Value) (w:World):Zgy P K (.ok (.enter f args) w)=Calls P f args w fun e w''=>∃ v,e=.returned v∧K v w'':=rfl
theorem ZaA {Q:Act→Prop} {a a':Act} {o:Oper} {rest:List Oper} {v:Value} (hw0:∃w,S w)
  (h:∀(K:Value→Act→World→Prop) (w:World),S w→(∀ w',S w'→K v a' w')→if Region.wanted o (yielded ops a.tmps) then Zeh o a K ((execOp a.eval o).run P w) else K undef (a.put o.dst undef) w)
  (next:Zcj P ops S Q rest a'):Zcj P ops S Q (o::rest) a:=by
 by_cases hw:Region.wanted o (yielded ops a.tmps)=true
 ·simp only[hw,if_true] at h
  have hput:a.put o.dst v=a':=by
   obtain⟨w,hS⟩:=hw0
   have:=h (fun u b _=>u=v∧b=a') w hS fun _ _=>⟨rfl,rfl⟩
   revert this
   generalize (execOp a.eval o).run P w=r
   cases r with
   | halt x w=>exact fun h=>False.elim h
   | ok n w =>
    cases n<;>try exact fun h=>False.elim h
    case value u=>rintro⟨rfl,hb⟩;exact hb
    case skip=>rintro⟨rfl,hb⟩;exact hb
  refine⟨v,.inl ⟨hw,fun w hS=>?_⟩,hput▸next⟩
  have:=h (fun u _ w'=>u=v∧S w') w hS fun w' hw'=>⟨rfl,hw'⟩
  revert this
  generalize (execOp a.eval o).run P w=r
  cases r with
  | halt x w=>exact fun h=>False.elim h
  | ok n w =>
   cases n<;>first | exact fun h=>False.elim h | exact fun h=>h
 ·simp only[hw] at h
  obtain⟨w,hS⟩:=hw0
  have hu:undef=v∧a.put o.dst undef=a':=by
   have:=h (fun u b _=>u=v∧b=a') w hS fun _ _=>⟨rfl,rfl⟩
   simpa using this
  exact⟨v,.inr ⟨by simpa using hw,hu.1.symm⟩,by rw[←hu.1,hu.2];exact next⟩
theorem Zap {Q:Act→Prop} {a:Act} {o:Oper} {rest:List Oper} {v:Value} (hw:Region.wanted o (yielded ops a.tmps)=true)
  (h:∀(K:Value→World→Prop) (w:World),S w→(∀ w',S w'→K v w')→Zgy P K ((execOp a.eval o).run P w))
  (next:Zcj P ops S Q rest (a.put o.dst v)):Zcj P ops S Q (o::rest) a:=by
 refine⟨v,.inl ⟨hw,fun w hS=>?_⟩,next⟩
 have:=h (fun u w'=>u=v∧S w') w hS fun w' hw'=>⟨rfl,hw'⟩
 revert this
 generalize (execOp a.eval o).run P w=r
 cases r with
 | halt x w=>exact fun h=>False.elim h
 | ok n w =>
  cases n<;>first | exact fun h=>False.elim h | exact fun h=>h
theorem Zj6 {n g:Nat} {Lq:Act→Prop} (hsel:Region.noSelect ops=true) (hs:Region.sinkB md ops n=true) (hc:Region.chainB md ops n=true) (hn:n<ops.size) :
  ∀ (l:List Oper) (k:Nat) (listed:Array Bool) (a:Act),(∀ j,j<l.length→l[j]?=ops[k+j]?)→k+l.length=n→HeadInv md ops n listed →
  Region.lexHead md ops g l.length k listed=true→Zcj P ops S Lq l a →
  anyG P md ops S n (fun listed' a'=>Region.seqB md ops g n listed'=true∧Lq a') l.length listed a
 | [],k,listed,a,_,hk,_,hB,h=>by
  obtain rfl:k=n:=by simpa using hk
  exact⟨by simpa [Region.lexHead] using hB,h⟩
 | o::l,k,listed,a,hl,hk,inv,hB,h=>by
  have h0:ops[k]?=some o:=by simpa using (hl 0 (by simp)).symm
  simp only[List.length_cons,Region.lexHead,Bool.and_eq_true] at hB
  obtain⟨⟨hr,hf⟩,hB'⟩:=hB
  have hkn:k<n:=by simp only[List.length_cons] at hk;omega
  have hr':k∈Region.ready md ops listed:=by simpa using hr
  obtain⟨v,hg,hK⟩:=h
  exact Zee h0 (Region.noSelect_spec hsel) hkn (fun listed' inv' hun=>tail_waits hs hc hn inv' _ k rfl hkn hun) (fun listed' a' hL=>seqB_ready hL.1) l.length listed a inv (Region.free_spec h0 hf) hr' hg
   (Zj6 hsel hs hc hn l (k+1) _ _ (fun j hj=>by have:=hl (j+1) (by simp;omega);simpa [Nat.add_assoc,Nat.add_comm 1 j] using this) (by simp only[List.length_cons] at hk;omega) (inv.set hr' hkn) hB' hK)
theorem ZaY {id:Nat} {Q:Exit→Act→World→Prop} {a:Act} {w:World} {l:List Oper} (S:World→Prop) (n:Nat) (hm:P.follows .mixedOrders=true) (hB:Region.lexTailB .any l.toArray n=true)
  (hS:S { w with drawn:=w.drawn+1 }) (h:Zcj P l.toArray S (fun a'=>∀ w',S w'→wpList P l.toArray Q (l.drop n) a' w') (l.take n) a):(Code.region id l.toArray true).wp P Q a w:=by
 simp only[Region.lexTailB,Bool.and_eq_true,decide_eq_true_eq] at hB
 obtain⟨⟨⟨⟨hsel,hn⟩,hs⟩,hc⟩,hlex⟩:=hB
 have hn':n<l.length:=by simpa using hn
 have htl:(l.take n).length=n:=by simp;omega
 have hdl:(l.drop n).length=l.toArray.size-n:=by simp
 have inv0:HeadInv .any l.toArray n (Array.replicate l.toArray.size false) :=
  ⟨by simp,fun j oj _ hl=>(by rw[getD_replicate_false] at hl;cases hl),fun t _ ht=>getD_in (by simpa using ht) (getD_replicate_false _ _)⟩
 have H:=Zj6 (md:=.any) (g:=l.toArray.size-n) hsel hs hc hn (l.take n) 0 _ a (fun j hj=>by
  have hj':j<n:=by rw[htl] at hj;exact hj
  simp[hj']) (by simpa using htl) inv0 (by rw[htl];exact hlex) h
 refine wp_region_any hm ?_
 have:=ZbV (Q:=Q) (g:=l.toArray.size-n) (fun listed a' w' hL hS'=>by
  have:=wpAny_of_seq (md:=.any) (Q':=Q) (l.drop n) n listed a' w' (fun j=>by simp[List.getElem?_drop]) (by rw[hdl];exact hL.1) (hL.2 w' hS')
  rwa [hdl] at this) _ _ _ _ hS H
 rw[htl,show n+(l.toArray.size-n)=l.toArray.size by omega] at this
 exact this
theorem ZeT {listed:Array Bool} (_:HeadInv md ops ops.size listed):∀t,ops.size≤t→t∉Region.ready md ops listed:=fun t ht hr=>by
 obtain⟨_,o,ho,_⟩:=mem_ready.1 hr
 have:=(Array.getElem?_eq_some_iff.1 ho).1
 omega
theorem Zis {Lq:Act→Prop} (hsel:Region.noSelect ops=true) :
  ∀ (l:List Oper) (k:Nat) (listed:Array Bool) (a:Act),(∀ j,l[j]?=ops[k+j]?)→k+l.length=ops.size→HeadInv md ops ops.size listed →
  Region.lexFrom md ops l.length k listed=true→Zcj P ops S Lq l a →
  anyG P md ops S ops.size (fun listed' a'=>Region.ready md ops listed'=[]∧Lq a') l.length listed a
 | [],k,listed,a,_,_,_,hB,h=>⟨by simpa [Region.lexFrom] using hB,h⟩
 | o::l,k,listed,a,hl,hk,inv,hB,h=>by
  have h0:ops[k]?=some o:=by simpa using (hl 0).symm
  simp only[List.length_cons,Region.lexFrom,Bool.and_eq_true] at hB
  obtain⟨⟨hr,hf⟩,hB'⟩:=hB
  have hkn:k<ops.size:=(Array.getElem?_eq_some_iff.1 h0).1
  have hr':k∈Region.ready md ops listed:=by simpa using hr
  obtain⟨v,hg,hK⟩:=h
  exact Zee h0 (Region.noSelect_spec hsel) hkn (fun listed' inv' _=>ZeT inv') (fun listed' a' hL j hj=>by rw[hL.1] at hj;cases hj) l.length listed a inv (Region.free_spec h0 hf) hr' hg
   (Zis hsel l (k+1) _ _ (fun j=>by have:=hl (j+1);simpa [Nat.add_assoc,Nat.add_comm 1 j] using this) (by simp only[List.length_cons] at hk;omega) (inv.set hr' hkn) hB' hK)
theorem Zet {id:Nat} {Q:Exit→Act→World→Prop} {a:Act} {w:World} {l:List Oper} (S:World→Prop) (hm:P.follows .mixedOrders=true) (hB:Region.lexB .any l.toArray=true)
  (hS:S { w with drawn:=w.drawn+1 }) (h:Zcj P l.toArray S (fun a'=>∀ w',S w'→Q .normal a' w') l a):(Code.region id l.toArray true).wp P Q a w:=by
 simp only[Region.lexB,Bool.and_eq_true] at hB
 have inv0:HeadInv .any l.toArray l.toArray.size (Array.replicate l.toArray.size false) :=
  ⟨by simp,fun j oj _ hl=>(by rw[getD_replicate_false] at hl;cases hl),fun t _ ht=>getD_in (by simpa using ht) (getD_replicate_false _ _)⟩
 have H:=Zis (md:=.any) hB.1 l 0 _ a (fun j=>by simp) (by simp) inv0 (by simpa using hB.2) h
 refine wp_region_any hm ?_
 have:=ZbV (Q:=Q) (g:=0) (fun listed a' w' hL hS'=>⟨hL.1,hL.2 w' hS'⟩) _ _ _ _ hS H
 simpa using this
def Zsv (md:Region.Mode) (ops:Array Oper) (n:Nat):Bool :=
 (List.range ops.size).all fun t=>decide (t<n)||Region.waitsFor md ops t (n-1)||(List.range ops.size).any fun u=>decide (n≤u)&&Region.waitsFor md ops t u
def midB (md:Region.Mode) (ops:Array Oper) (g:Nat):Nat→Nat→Array Bool→Bool
 | 0,k,listed=>Region.seqB md ops g k listed
 | m+1,k,listed=>(Region.ready md ops listed).contains k&&Region.free md ops listed k&&midB md ops g m (k+1) (listed.setIfInBounds k true)
def ZmB (md:Region.Mode) (ops:Array Oper) (g m:Nat):Nat→Nat→Array Bool→Bool
 | 0,k,listed=>midB md ops g m k listed
 | f+1,k,listed=>(Region.ready md ops listed).contains k&&Region.free md ops listed k&&ZmB md ops g m f (k+1) (listed.setIfInBounds k true)
def ZqC (md:Region.Mode) (ops:Array Oper) (n m:Nat):Bool :=
 Region.noSelect ops&&decide (1≤n)&&decide (n+m≤ops.size)&&Region.sinkB md ops (n-1)&&Zsv md ops n&&ZmB md ops (ops.size-(n+m)) m n 0 (Array.replicate ops.size false)
theorem Zi0 {n:Nat} {listed:Array Bool} (hs:Region.sinkB md ops (n-1)=true) (inv:HeadInv md ops n listed) (hl:listed.getD (n-1) false=true) :
  ∀ (d i:Nat),n-1-i=d→i≤n-1→listed.getD i false=true:=by
 intro d
 induction d using Nat.strongRecOn with
 | _ d ih =>
  intro i hd hi
  rcases Nat.lt_or_ge i (n-1) with h | h
  ·obtain⟨j,hj,hj2⟩:=List.any_eq_true.1 (List.all_eq_true.1 hs i (List.mem_range.2 h))
   simp only[Bool.and_eq_true,decide_eq_true_eq] at hj2
   obtain⟨oj,hoj,e,he,hb,hon⟩:=Region.waitsFor_spec hj2.2
   have hjle:j≤n-1:=by have:=List.mem_range.1 hj;omega
   have hjl:=ih (n-1-j) (by omega) j rfl hjle
   have:=inv.closed j oj hoj hjl e he hb
   rwa [hon] at this
  ·obtain rfl:i=n-1:=by omega
   exact hl
theorem ZiX {n:Nat} (hs:Region.sinkB md ops (n-1)=true) (ht:Zsv md ops n=true) {i:Nat} (hi:i<n) (listed:Array Bool) (inv:HeadInv md ops n listed) (hun:listed.getD i true=false) :
  ∀ t,n≤t→t∉Region.ready md ops listed:=fun t hnt hr=>by
 obtain⟨_,ot,hot,hall⟩:=mem_ready.1 hr
 have htl:t<ops.size:=(Array.getElem?_eq_some_iff.1 hot).1
 have h1:=List.all_eq_true.1 ht t (List.mem_range.2 htl)
 simp only[Bool.or_eq_true,decide_eq_true_eq] at h1
 have key:∀u,Region.waitsFor md ops t u=true→listed.getD u false=true:=fun u hu=>by
  obtain⟨o',ho',e,he,hb,hon⟩:=Region.waitsFor_spec hu
  obtain rfl:o'=ot:=Option.some.inj (ho'.symm.trans hot)
  have:=hall e he hb
  rwa [hon] at this
 rcases h1 with (h1 | h1) | h1
 ·omega
 ·have h2:=Zi0 hs inv (key _ h1) _ i rfl (by omega)
  rw[getD_both hun] at h2;cases h2
 ·obtain⟨u,hu,hu2⟩:=List.any_eq_true.1 h1
  simp only[Bool.and_eq_true,decide_eq_true_eq] at hu2
  have h2:=key u hu2.2
  rw[getD_both (inv.tail u hu2.1 (List.mem_range.1 hu))] at h2;cases h2
def ZeQ (P:Program) (ops:Array Oper) (Q:Act→Prop):List Oper→Act→Prop
 | [],a=>Q a
 | o::rest,a=>∃ v,Yields P ops o v a∧ZeQ P ops Q rest (a.put o.dst v)
theorem ZbR {Q:Act→Prop} {a:Act} (h:Q a):ZeQ P ops Q [] a:=h
theorem Zd0 {Q:Act→Prop} {a a':Act} {o:Oper} {rest:List Oper} {v:Value}
  (h:∀(K:Value→Act→World→Prop) (w:World),(∀ w',K v a' w')→if Region.wanted o (yielded ops a.tmps) then Zeh o a K ((execOp a.eval o).run P w) else K undef (a.put o.dst undef) w)
  (hw':∀w,Region.wanted o (yielded ops a.tmps)=true→(execOp a.eval o).run P w=.ok (.value v) w)
  (next:ZeQ P ops Q rest a'):ZeQ P ops Q (o::rest) a:=by
 by_cases hw:Region.wanted o (yielded ops a.tmps)=true
 ·simp only[hw,if_true] at h
  refine⟨v,.inl ⟨hw,fun w=>hw' w hw⟩,?_⟩
  have:=h (fun _ b _=>b=a') default fun _=>rfl
  rw[hw' default hw] at this
  exact this▸next
 ·simp only[hw] at h
  have:=h (fun u b _=>u=v∧b=a') default fun _=>⟨rfl,rfl⟩
  obtain⟨rfl,hb⟩:undef=v∧a.put o.dst undef=a':=by simpa using this
  exact⟨_,.inr ⟨by simpa using hw,rfl⟩,hb▸next⟩
theorem ZiI {Q:Exit→Act→World→Prop} (hsel:Region.noSelect ops=true) (hQ:∀c a d v w,Q (.panic c) (Act.put a d v) w→Q (.panic c) a w) (w:World) :
  ∀ (m:Nat) (l:List Oper) (k:Nat) (listed:Array Bool) (a:Act),m≤l.length→(∀ j,l[j]?=ops[k+j]?)→midB md ops (l.length-m) m k listed=true →
  ZeQ P ops (fun a'=>wpList P ops Q (l.drop m) a' w) (l.take m) a→wpAny P md ops Q l.length listed a w
 | 0,l,k,listed,a,_,hl,hB,h=>wpAny_of_seq l k listed a w hl (by simpa [midB] using hB) (by simpa [ZeQ] using h)
 | m+1,[],k,listed,a,hm,_,_,_=>by simp at hm
 | m+1,o::l,k,listed,a,hm,hl,hB,h=>by
  have h0:ops[k]?=some o:=by simpa using (hl 0).symm
  simp only[List.length_cons,Nat.add_sub_add_right,midB,Bool.and_eq_true] at hB
  obtain⟨⟨hr,hf⟩,hB'⟩:=hB
  simp only[List.take_succ_cons,List.drop_succ_cons,ZeQ] at h
  obtain⟨v,hy,hn⟩:=h
  exact wpAny_take h0 hsel hf hr (fun c a w=>hQ c a _ _ w) hy (ZiI hsel hQ w m l (k+1) _ _ (by simpa using hm) (fun j=>by have:=hl (j+1);simpa [Nat.add_assoc,Nat.add_comm 1 j] using this) hB' hn)
theorem ZgN {n m g:Nat} {Lq:Act→Prop} (hsel:Region.noSelect ops=true) (hs:Region.sinkB md ops (n-1)=true) (ht:Zsv md ops n=true) :
  ∀ (l:List Oper) (k:Nat) (listed:Array Bool) (a:Act),(∀ j,j<l.length→l[j]?=ops[k+j]?)→k+l.length=n→n≤ops.size→HeadInv md ops n listed→(∀ j,j<k→listed.getD j false=true) →
  ZmB md ops g m l.length k listed=true→Zcj P ops S Lq l a →
  anyG P md ops S n (fun listed' a'=>midB md ops g m n listed'=true∧(∀ j,j<n→listed'.getD j false=true)∧Lq a') l.length listed a
 | [],k,listed,a,_,hk,_,_,hdn,hB,h=>by
  obtain rfl:k=n:=by simpa using hk
  exact⟨by simpa [ZmB] using hB,hdn,h⟩
 | o::l,k,listed,a,hl,hk,hns,inv,hdn,hB,h=>by
  have h0:ops[k]?=some o:=by simpa using (hl 0 (by simp)).symm
  simp only[List.length_cons,ZmB,Bool.and_eq_true] at hB
  obtain⟨⟨hr,hf⟩,hB'⟩:=hB
  have hkn:k<n:=by simp only[List.length_cons] at hk;omega
  have hr':k∈Region.ready md ops listed:=by simpa using hr
  obtain⟨v,hg,hK⟩:=h
  refine Zee h0 (Region.noSelect_spec hsel) hkn (fun listed' inv' hun=>ZiX hs ht hkn listed' inv' hun) (fun listed' a' hL j hj=>?_) l.length listed a inv (Region.free_spec h0 hf) hr' hg
   (ZgN hsel hs ht l (k+1) _ _ (fun j hj=>by have:=hl (j+1) (by simp;omega);simpa [Nat.add_assoc,Nat.add_comm 1 j] using this) (by simp only[List.length_cons] at hk;omega) hns (inv.set hr' hkn) (fun j hj=>?_) hB' hK)
  ·refine Nat.le_of_not_lt fun hjn=>?_
   have h1:=(mem_ready.1 hj).1
   have h2:=hL.2.1 j hjn
   rw[getD_both h1] at h2;cases h2
  ·by_cases hjk:j=k
   ·subst hjk
    have hlt:j<listed.size:=by rw[inv.size];exact(Array.getElem?_eq_some_iff.1 h0).1
    simp[hlt]
   ·exact getD_set_true (hdn j (by omega))
theorem Za9 {id:Nat} {Q:Exit→Act→World→Prop} {a:Act} {w:World} {l:List Oper} (S:World→Prop) (n m:Nat) (hm:P.follows .mixedOrders=true) (hB:ZqC .any l.toArray n m=true)
  (hQ:∀c a d v w,Q (.panic c) (Act.put a d v) w→Q (.panic c) a w) (hS:S { w with drawn:=w.drawn+1 })
  (h:Zcj P l.toArray S (fun a'=>∀ w',S w'→ZeQ P l.toArray (fun a''=>wpList P l.toArray Q ((l.drop n).drop m) a'' w') ((l.drop n).take m) a') (l.take n) a):(Code.region id l.toArray true).wp P Q a w:=by
 simp only[ZqC,Bool.and_eq_true,decide_eq_true_eq] at hB
 obtain⟨⟨⟨⟨⟨hsel,h1n⟩,hnm⟩,hs⟩,ht⟩,hhead⟩:=hB
 have hsz:l.toArray.size=l.length:=by simp
 have htl:(l.take n).length=n:=by simp;omega
 have hdl:(l.drop n).length=l.toArray.size-n:=by simp
 have inv0:HeadInv .any l.toArray n (Array.replicate l.toArray.size false) :=
  ⟨by simp,fun j oj _ hl=>(by rw[getD_replicate_false] at hl;cases hl),fun t _ ht=>getD_in (by simpa using ht) (getD_replicate_false _ _)⟩
 have H:=ZgN (md:=.any) (g:=l.toArray.size-(n+m)) (m:=m) hsel hs ht (l.take n) 0 _ a (fun j hj=>by
  have hj':j<n:=by rw[htl] at hj;exact hj
  simp[hj']) (by simpa using htl) (by omega) inv0 (fun j hj=>by omega) (by rw[htl];exact hhead) h
 refine wp_region_any hm ?_
 have:=ZbV (Q:=Q) (g:=l.toArray.size-n) (fun listed a' w' hL hS'=>by
  have:=ZiI (md:=.any) (Q:=Q) hsel hQ w' m (l.drop n) n listed a' (by rw[hdl];omega) (fun j=>by simp[List.getElem?_drop]) (by rw[hdl,show l.toArray.size-n-m=l.toArray.size-(n+m) by omega];exact hL.1) (hL.2.2 w' hS')
  rwa [hdl] at this) _ _ _ _ hS H
 rw[htl,show n+(l.toArray.size-n)=l.toArray.size by omega] at this
 exact this
end
section
variable {P:Program} {ops:Array Oper} {S:World→Prop}
theorem Zaa {o:Oper} {y:Nat→Option Bool} (h:o.guard=none):Region.wanted o y=true:=by simp[Region.wanted,h]
theorem Zau {o:Oper} {tmps:Array Value} {g t:Nat} {b:Bool} (h:o.guard=some (g,b)) (hd:((ops[g]?).bind (·.dst))=some t) (hv:tmps[t]?=some (.bool b)):Region.wanted o (yielded ops tmps)=true:=by
 simp[Region.wanted,h,yielded,hd,hv]
theorem Zat {Q:Act→Prop} {a a':Act} {o:Oper} {rest:List Oper} {v:Value} (hw0:∃w,S w) (hw:Region.wanted o (yielded ops a.tmps)=true)
  (h:∀(K:Value→Act→World→Prop) (w:World),S w→(∀ w',S w'→K v a' w')→Zeh o a K ((execOp a.eval o).run P w))
  (next:Zcj P ops S Q rest a'):Zcj P ops S Q (o::rest) a :=
 ZaA hw0 (fun K w hS hK=>by rw[if_pos hw];exact h K w hS hK) next
end
end Go.Hold
namespace Go
open Go.RowKit
def World.plus (w:World) (os:Array Obj) (d:Nat):World:={ w with heap:=w.heap++os,drawn:=d }
section
variable (w:World) (os:Array Obj) (d:Nat)
@[simp,go_sem] theorem World.size_plus:(w.plus os d).heap.size=w.heap.size+os.size:=by simp[World.plus]
theorem World.plus_block (k:Nat) (h:k<w.heap.size):(w.plus os d).heap[k]?=w.heap[k]?:=by
 show (w.heap++os)[k]?=w.heap[k]?
 rw[Array.getElem?_append_left h]
@[go_sem] theorem World.cell?_plus (n i:Nat) (h:n<w.heap.size):(w.plus os d).cell? ⟨n,i,none⟩=w.cell? ⟨n,i,none⟩:=World.cell?_of_block (World.plus_block w os d n h)
@[go_sem] theorem World.frozen?_plus (n i:Nat) (h:n<w.heap.size):(w.plus os d).frozen? ⟨n,i,none⟩=w.frozen? ⟨n,i,none⟩:=World.frozen?_of_block (World.plus_block w os d n h)
@[go_sem] theorem World.setCell_plus (n i:Nat) (v:Value) (h:n<w.heap.size):(w.plus os d).setCell ⟨n,i,none⟩ v=(w.setCell ⟨n,i,none⟩ v).plus os d:=by
 unfold World.setCell World.plus
 congr 1
 apply Array.ext_getElem?
 intro k
 simp only[Array.getElem?_modify]
 by_cases hk:k<w.heap.size
 ·rw[Array.getElem?_append_left hk,Array.getElem?_append_left (by simpa using hk),Array.getElem?_modify]
 ·have hk':w.heap.size≤k:=Nat.le_of_not_lt hk
  rw[if_neg (by omega),Array.getElem?_append_right hk',Array.getElem?_append_right (by simpa using hk')]
  simp
@[go_sem] theorem World.drew_plus:(w.plus os d).drew=w.plus os (d+1):=rfl
theorem ZaE {B:Nat} {a:World} (h:Below B a w) (hB:B≤w.heap.size):Below B a (w.plus os d) :=
 ⟨h.os,h.tape,h.output,by simp;have:=h.size;omega,fun k hk=>by rw[World.plus_block w os d k (by omega)];exact h.block k hk⟩
end
@[go_sem] theorem World.plus_plus (w:World) (o1 o2:Array Obj) (d1 d2:Nat):(w.plus o1 d1).plus o2 d2=w.plus (o1++o2) d2:=by
 unfold World.plus
 simp[Array.append_assoc]
@[go_sem] theorem Zwo (x s1:Nat):(x<x+1+s1)=True:=by simp only[eq_iff_iff,iff_true];omega
@[go_sem] theorem Zwn (x s1 s2:Nat):(x<x+1+s1+s2)=True:=by simp only[eq_iff_iff,iff_true];omega
@[go_sem] theorem ZvT (x s1 s2 s3:Nat):(x<x+1+s1+s2+s3)=True:=by simp only[eq_iff_iff,iff_true];omega
@[go_sem] theorem Zwm (x s1 s2 s3 s4:Nat):(x<x+1+s1+s2+s3+s4)=True:=by simp only[eq_iff_iff,iff_true];omega
@[go_sem] theorem Zv2 (x s1 s2 s3 s4 s5:Nat):(x<x+1+s1+s2+s3+s4+s5)=True:=by simp only[eq_iff_iff,iff_true];omega
@[go_sem] theorem Zwq (x s1 s2 s3 s4 s5 s6:Nat):(x<x+1+s1+s2+s3+s4+s5+s6)=True:=by simp only[eq_iff_iff,iff_true];omega
@[go_sem] theorem Zv5 (x s1 s2 s3 s4 s5 s6 s7:Nat):(x<x+1+s1+s2+s3+s4+s5+s6+s7)=True:=by simp only[eq_iff_iff,iff_true];omega
@[go_sem] theorem Zwj (x s1 s2 s3 s4 s5 s6 s7 s8:Nat):(x<x+1+s1+s2+s3+s4+s5+s6+s7+s8)=True:=by simp only[eq_iff_iff,iff_true];omega
@[go_sem] theorem ZvZ (x s1 s2 s3 s4 s5 s6 s7 s8 s9:Nat):(x<x+1+s1+s2+s3+s4+s5+s6+s7+s8+s9)=True:=by simp only[eq_iff_iff,iff_true];omega
@[go_sem] theorem ZuC (x s1 s2 s3 s4 s5 s6 s7 s8 s9 s10:Nat):(x<x+1+s1+s2+s3+s4+s5+s6+s7+s8+s9+s10)=True:=by simp only[eq_iff_iff,iff_true];omega
@[go_sem] theorem Zul (x s1 s2 s3 s4 s5 s6 s7 s8 s9 s10 s11:Nat):(x<x+1+s1+s2+s3+s4+s5+s6+s7+s8+s9+s10+s11)=True:=by simp only[eq_iff_iff,iff_true];omega
@[go_sem] theorem Zvk (x s1 s2 s3 s4 s5 s6 s7 s8 s9 s10 s11 s12:Nat):(x<x+1+s1+s2+s3+s4+s5+s6+s7+s8+s9+s10+s11+s12)=True:=by simp only[eq_iff_iff,iff_true];omega
theorem Zab {a w:World} (h:Below a.heap.size a w) (o:Obj):Below a.heap.size a (w.alloc o):=h.alloc h.size o
theorem Zag {a w:World} (h:Below a.heap.size a w) (os:Array Obj) (d:Nat):Below a.heap.size a (w.plus os d):=ZaE w os d h h.size
theorem Zad {a w:World} (h:Below a.heap.size a w) {g:Nat} (hg:a.heap.size≤g) (cs:Array Value):Below a.heap.size a (w.setRow g cs) :=
 ⟨h.os,h.tape,h.output,by rw[size_setRow];exact h.size,fun k hk=>by rw[setRow_other w g k cs (by omega)];exact h.block k hk⟩
theorem Zaq (w:World) (o:Obj):(w.alloc o).heap[w.heap.size]?=some o:=heap_alloc_new w o
theorem ZfT (w:World) (o:Obj) {i:Nat} (h:i<w.heap.size):(w.alloc o).heap[i]?=w.heap[i]?:=Below.heap_alloc w o i h
theorem Zaf {w w':World} (h:Below w.heap.size w w'):∃os d,w'=w.plus os d:=by
 refine⟨w'.heap.extract w.heap.size w'.heap.size,w'.drawn,?_⟩
 obtain⟨heap,tape,drawn,wos,output⟩:=w
 obtain⟨heap',tape',drawn',wos',output'⟩:=w'
 have h1:=h.os;have h2:=h.tape;have h3:=h.output;have h4:=h.size;have h5:=h.block
 simp only at h1 h2 h3 h4 h5
 subst h1;subst h2;subst h3
 show (World.mk heap' tape' drawn' wos' output')=World.mk (heap++heap'.extract heap.size heap'.size) tape' drawn' wos' output'
 congr 1
 apply Array.ext_getElem?
 intro k
 by_cases hk:k<heap.size
 ·rw[Array.getElem?_append_left hk];exact h5 k hk
 ·rw[Array.getElem?_append_right (by omega),Array.getElem?_extract]
  by_cases hk':k<heap'.size
  ·rw[if_pos (by omega)];congr 1;omega
  ·rw[if_neg (by omega),Array.getElem?_eq_none (by omega)]
end Go
namespace Go.Hold
open Go Go.RowKit
section
variable {P:Program} {ops:Array Oper} {md:Region.Mode} {W:World} {n:Nat}
abbrev ptr (g:Nat):Value:=.pointer (some ⟨g,0,none⟩)
def GivesB (P:Program) (ops:Array Oper) (W:World) (o:Oper) (v:Value) (a:Act):Prop :=
 (Region.wanted o (yielded ops a.tmps)=true∧∀ w,Below W.heap.size W w→Zdq P o a (fun u _ w'=>u=v∧Below w.heap.size w w') ((execOp a.eval o).run P w)) ∨
 (Region.wanted o (yielded ops a.tmps)=false∧v=undef)
theorem GivesB.like {o:Oper} {v:Value} {a a':Act} (h:GivesB P ops W o v a) (he:execOp a'.eval o=execOp a.eval o)
  (hw:Region.wanted o (yielded ops a'.tmps)=Region.wanted o (yielded ops a.tmps)):GivesB P ops W o v a':=by
 rcases h with ⟨h1,h2⟩ | ⟨h1,h2⟩
 ·exact .inl ⟨hw▸h1,fun w hS=>by rw[he];exact Zgp (fun _ _ h=>h) _ (h2 w hS)⟩
 ·exact .inr ⟨hw▸h1,h2⟩
theorem GivesB.wpOp {i:Nat} {o:Oper} {v:Value} {a:Act} {Q:Exit→Act→World→Prop} (hi:ops[i]?=some o) (hg:GivesB P ops W o v a) {K:Act→World→Prop} {w:World} (hS:Below W.heap.size W w)
  (h:∀w',Below w.heap.size w w'→K (a.put o.dst v) w'):wpOp P ops Q i K a w:=by
 unfold Go.wpOp
 simp only[hi]
 rcases hg with ⟨hw,hv⟩ | ⟨hw,rfl⟩
 ·simp only[hw,if_true]
  refine .inl ?_
  have hv:=hv w hS
  unfold Oper.wp
  generalize (execOp a.eval o).run P w=r at hv
  cases r with
  | halt x w=>exact False.elim hv
  | ok n w1 =>
   cases n<;>try exact False.elim hv
   case value u=>obtain⟨rfl,hs⟩:=hv;exact h _ hs
   case skip=>obtain⟨rfl,hs⟩:=hv;exact h _ hs
   case enter f args =>
    refine Calls.mono (P:=P) hv ?_
    rintro e w'' ⟨u,rfl,rfl,hs⟩
    exact h _ hs
 ·simp only[hw,Bool.false_eq_true,if_false]
  exact h w (Below.refl _ _)
def Lays (P:Program) (o:Oper) (t:TypeId) (z:Array Value):Prop :=
 o.guard=none∧∀ (a:Act) (w:World),(execOp a.eval o).run P w=.ok (.value (ptr w.heap.size)) (w.alloc (.cells z t))
abbrev Got:=Nat→Option Nat
def Got.put (al:Got) (i g:Nat):Got:=fun j=>if j=i then some g else al j
theorem Got.put_comm (al:Got) {i j:Nat} (h:i≠j) (g g':Nat):(al.put i g).put j g'=(al.put j g').put i g:=by
 funext k
 unfold Got.put
 by_cases h1:k=j<;>by_cases h2:k=i<;>simp_all
def Got.Fresh (al:Got) (g:Nat):Prop:=∀ j,al j≠some g
def Got.Bounded (al:Got):Prop:=∃ N,∀ j g,al j=some g→g<N
theorem Got.Bounded.put {al:Got} (h:al.Bounded) (i g:Nat):(al.put i g).Bounded:=by
 obtain⟨N,hN⟩:=h
 refine⟨max N (g+1),fun j g' hj=>?_⟩
 unfold Got.put at hj
 split at hj
 ·cases hj;omega
 ·have:=hN j g' hj;omega
variable (info:Nat→Option (TypeId×Array Value)) (vals:Nat→Value)
def anyB (P:Program) (md:Region.Mode) (ops:Array Oper) (W:World) (n:Nat) (L:Got→Array Bool→Act→Prop):Nat→Got→Array Bool→Act→Prop
 | 0,al,listed,a=>L al listed a
 | f+1,al,listed,a=>Region.ready md ops listed≠[]∧∀ i∈Region.ready md ops listed,i<n∧∃ o,ops[i]?=some o ∧
  (info i=none→GivesB P ops W o (vals i) a∧anyB P md ops W n L f al (listed.setIfInBounds i true) (a.put o.dst (vals i))) ∧
  (∀ t z,info i=some (t,z)→Lays P o t z∧∀ g,W.heap.size≤g→al.Fresh g→anyB P md ops W n L f (al.put i g) (listed.setIfInBounds i true) (a.put o.dst (ptr g)))
def Facts (W:World) (al:Got) (w:World):Prop:=∀ i g,al i=some g→W.heap.size≤g∧∃ t z,info i=some (t,z)∧w.heap[g]?=some (.cells z t (0,0))
theorem Facts.grow {al:Got} {w w':World} (h:Facts info W al w) (hb:Below w.heap.size w w'):Facts info W al w':=fun i g hg=>by
 obtain⟨h1,t,z,h2,h3⟩:=h i g hg
 exact⟨h1,t,z,h2,by rw[hb.block g (Array.getElem?_eq_some_iff.1 h3).1];exact h3⟩
theorem Zdb {r:Nat} {L:Got→Array Bool→Act→Prop} {Q:Exit→Act→World→Prop}
  (hL:∀al listed a w,L al listed a→Below W.heap.size W w→Facts info W al w→wpAny P md ops Q r listed a w) :
  ∀ (f:Nat) (al:Got) (listed:Array Bool) (a:Act) (w:World),Below W.heap.size W w→Facts info W al w→anyB info vals P md ops W n L f al listed a→wpAny P md ops Q (f+r) listed a w
 | 0,al,listed,a,w,hS,hF,h=>by rw[Nat.zero_add];exact hL _ _ _ _ h hS hF
 | f+1,al,listed,a,w,hS,hF,h=>by
  rw[show f+1+r=(f+r)+1 by omega]
  refine⟨fun h0=>absurd h0 h.1,fun i hi=>?_⟩
  obtain⟨_,o,ho,hd,hA⟩:=h.2 i hi
  cases hinf:info i with
  | none =>
   obtain⟨hg,hn⟩:=hd hinf
   exact hg.wpOp ho hS fun w' hb=>Zdb hL f al _ _ w' (hS.trans (hb.mono hS.size)) (hF.grow info hb) hn
  | some tz =>
   obtain⟨t,z⟩:=tz
   obtain⟨⟨hgd,hrun⟩,hn⟩:=hA t z hinf
   have hfresh:al.Fresh w.heap.size:=fun j hj=>by
    obtain⟨_,t',z',_,h3⟩:=hF j _ hj
    have:=(Array.getElem?_eq_some_iff.1 h3).1
    omega
   unfold Go.wpOp
   simp only[ho,Zaa hgd,if_true,Oper.wp,hrun a w,Oper.upon]
   refine .inl (Zdb hL f _ _ _ _ (hS.alloc hS.size _) ?_ (hn w.heap.size hS.size hfresh))
   intro j g hj
   unfold Got.put at hj
   split at hj
   ·rename_i e;cases hj;subst e;exact⟨hS.size,t,z,hinf,Zaq w _⟩
   ·exact Facts.grow info hF ((Below.refl _ _).alloc (Nat.le_refl _) _) j g hj
def DoB (P:Program) (md:Region.Mode) (ops:Array Oper) (W:World) (n:Nat) (L:Got→Array Bool→Act→Prop) (i:Nat) (o:Oper) (f:Nat) (al:Got) (listed:Array Bool) (a:Act):Prop :=
 (info i=none→GivesB P ops W o (vals i) a∧anyB info vals P md ops W n L f al (listed.setIfInBounds i true) (a.put o.dst (vals i))) ∧
 (∀ t z,info i=some (t,z)→Lays P o t z∧∀ g,W.heap.size≤g→al.Fresh g→anyB info vals P md ops W n L f (al.put i g) (listed.setIfInBounds i true) (a.put o.dst (ptr g)))
theorem Zh7 {i:Nat} {oi:Oper} {L:Got→Array Bool→Act→Prop} (hi:ops[i]?=some oi) (hsel:∀(j:Nat) (o:Oper) cs b,ops[j]?=some o→o.op≠.select cs b) (hin:i<n)
  (hwait:∀listed,HeadInv md ops n listed→listed.getD i true=false→∀ t,n≤t→t∉Region.ready md ops listed) (hdone:∀al listed a,L al listed a→∀ j∈Region.ready md ops listed,n≤j) :
  ∀ (f:Nat) (al:Got) (listed:Array Bool) (a:Act),al.Bounded→(∀ k,listed.getD k true=false→al k=none)→HeadInv md ops n listed →
   (∀ j oj,ops[j]?=some oj→j≠i→listed.getD j true=false→(∀ e∈oj.after,Region.binds md e=true→e.on≠i)→oi.apart ops oj=true) →
   i∈Region.ready md ops listed→DoB info vals P md ops W n L i oi f al listed a→anyB info vals P md ops W n L (f+1) al listed a:=by
 intro f
 induction f with
 | zero =>
  intro al listed a hbd _ inv _ hr H
  refine⟨fun h=>(by rw[h] at hr;cases hr),fun j hj=>?_⟩
  have hjn:j<n:=Nat.lt_of_not_le fun h=>hwait listed inv (mem_ready.1 hr).1 j h hj
  by_cases hji:j=i
  ·subst hji;exact⟨hjn,oi,hi,H⟩
  ·exfalso
   obtain⟨N,hN⟩:=hbd
   cases hinf:info i with
   | none=>have:=hdone _ _ _ (H.1 hinf).2 j (ready_mono hj hji);omega
   | some tz =>
    have:=hdone _ _ _ ((H.2 tz.1 tz.2 hinf).2 (max N W.heap.size) (by omega) (fun k hk=>by have:=hN k _ hk;omega)) j (ready_mono hj hji)
    omega
 | succ f ih =>
  intro al listed a hbd hal inv hfree hr H
  have hun:=(mem_ready.1 hr).1
  refine⟨fun h=>(by rw[h] at hr;cases hr),fun j hj=>?_⟩
  have hjn:j<n:=Nat.lt_of_not_le fun h=>hwait listed inv hun j h hj
  by_cases hji:j=i
  ·subst hji;exact⟨hjn,oi,hi,H⟩
  ·obtain⟨hjun,oj,hoj,hall⟩:=mem_ready.1 hj
   have hnot:∀e∈oj.after,Region.binds md e=true→e.on≠i:=fun e he hb heq=>by
    have h1:=hall e he hb
    rw[heq,getD_both hun] at h1
    cases h1
   obtain⟨p1,p2,p3⟩:=Oper.apart_spec (hfree j oj hoj hji hjun hnot)
   have hfree':∀k ok,ops[k]?=some ok→k≠i→(listed.setIfInBounds j true).getD k true=false→(∀ e∈ok.after,Region.binds md e=true→e.on≠i)→oi.apart ops ok=true:=fun k ok hk hki hkun hno=>by
    refine hfree k ok hk hki ?_ hno
    by_cases hjk:j=k
    ·subst hjk;exact hjun
    ·rw[getD_set_ne true hjk] at hkun;exact hkun
   have hri:=ready_mono hr (Ne.symm hji)
   have hal0:∀k,(listed.setIfInBounds j true).getD k true=false→al k=none:=fun k hk=>hal k (by
    by_cases hjk:j=k
    ·subst hjk;exact hjun
    ·rw[getD_set_ne true hjk] at hk;exact hk)
   have hjs:j<listed.size:=by rw[inv.size];exact(Array.getElem?_eq_some_iff.1 hoj).1
   have hal1:∀g k,(listed.setIfInBounds j true).getD k true=false→(al.put j g) k=none:=fun g k hk=>by
    by_cases hjk:k=j
    ·subst hjk;simp[hjs] at hk
    ·unfold Got.put;rw[if_neg hjk];exact hal0 k hk
   have hset:(listed.setIfInBounds i true).setIfInBounds j true=(listed.setIfInBounds j true).setIfInBounds i true:=Array.setIfInBounds_comm _ _ (Ne.symm hji)
   have hput:∀v u,(a.put oi.dst v).put oj.dst u=(a.put oj.dst u).put oi.dst v:=fun v u=>Act.put_comm a v u fun d hd=>p2 d hd
   have back:∀v u,GivesB P ops W oj u (a.put oi.dst v)→GivesB P ops W oj u a:=fun v u h=>h.like (execOp_put oj (fun cs b=>hsel j oj cs b hoj) a oi.dst v p1).symm (wanted_put oj a oi.dst v p1).symm
   have ahead:∀u,GivesB P ops W oi (vals i) a→GivesB P ops W oi (vals i) (a.put oj.dst u):=fun u h=>h.like (execOp_put oi (fun cs b=>hsel i oi cs b hi) a oj.dst u p3) (wanted_put oi a oj.dst u p3)
   have same:∀{o':Oper},ops[j]?=some o'→o'=oj:=fun h=>Option.some.inj (h.symm.trans hoj)
   refine⟨hjn,oj,hoj,fun hnj=>?_,fun t z hsj=>?_⟩
   ·cases hinf:info i with
    | none =>
     obtain⟨hgi,Hn⟩:=H.1 hinf
     obtain⟨_,o',ho',hd,_⟩:=Hn.2 j (ready_mono hj hji)
     obtain rfl:=same ho'
     obtain⟨hgj,hn⟩:=hd hnj
     refine⟨back _ _ hgj,ih al _ _ hbd hal0 (inv.set hj hjn) hfree' hri ⟨fun _=>⟨ahead _ hgi,?_⟩,fun t z h=>by rw[hinf] at h;cases h⟩⟩
     rw[←hset,←hput];exact hn
    | some tz =>
     obtain⟨hl,Hn⟩:=H.2 tz.1 tz.2 hinf
     obtain⟨N,hN⟩:=hbd
     obtain⟨_,o0,ho0,hd0,_⟩:=(Hn (max N W.heap.size) (by omega) (fun k hk=>by have:=hN k _ hk;omega)).2 j (ready_mono hj hji)
     obtain rfl:=same ho0
     refine⟨back _ _ (hd0 hnj).1,ih al _ _ ⟨N,hN⟩ hal0 (inv.set hj hjn) hfree' hri ⟨fun h=>(by rw[hinf] at h;cases h),fun t z h=>?_⟩⟩
     obtain rfl:tz=(t,z):=Option.some.inj (hinf.symm.trans h)
     refine⟨hl,fun g hg hfr=>?_⟩
     obtain⟨_,o',ho',hd,_⟩:=(Hn g hg hfr).2 j (ready_mono hj hji)
     obtain rfl:=same ho'
     rw[←hset,←hput];exact(hd hnj).2
   ·cases hinf:info i with
    | none =>
     obtain⟨hgi,Hn⟩:=H.1 hinf
     obtain⟨_,o',ho',_,hA⟩:=Hn.2 j (ready_mono hj hji)
     obtain rfl:=same ho'
     obtain⟨hl,hn⟩:=hA t z hsj
     refine⟨hl,fun g hg hfr=>ih (al.put j g) _ _ (hbd.put j g) (hal1 g) (inv.set hj hjn) hfree' hri ⟨fun _=>⟨ahead _ hgi,?_⟩,fun t z h=>by rw[hinf] at h;cases h⟩⟩
     rw[←hset,←hput];exact hn g hg hfr
    | some tz =>
     obtain⟨hl,Hn⟩:=H.2 tz.1 tz.2 hinf
     obtain⟨N,hN⟩:=hbd
     obtain⟨_,o0,ho0,_,hA0⟩:=(Hn (max N W.heap.size) (by omega) (fun k hk=>by have:=hN k _ hk;omega)).2 j (ready_mono hj hji)
     obtain rfl:=same ho0
     refine⟨(hA0 t z hsj).1,fun g hg hfr=>ih (al.put j g) _ _ (Got.Bounded.put ⟨N,hN⟩ j g) (hal1 g) (inv.set hj hjn) hfree' hri ⟨fun h=>(by rw[hinf] at h;cases h),fun t' z' h=>?_⟩⟩
     obtain rfl:tz=(t',z'):=Option.some.inj (hinf.symm.trans h)
     refine⟨hl,fun g' hg' hfr'=>?_⟩
     have hfr1:al.Fresh g':=fun k hk=>by
      by_cases hkj:k=j
      ·subst hkj;rw[hal k hjun] at hk;cases hk
      ·have:=hfr' k;unfold Got.put at this;rw[if_neg hkj] at this;exact this hk
     have hne:g≠g':=fun e=>by
      have:=hfr' j;unfold Got.put at this;rw[if_pos rfl] at this;exact this (by rw[e])
     have hfr2:(al.put i g').Fresh g:=fun k hk=>by
      unfold Got.put at hk
      split at hk
      ·exact hne (Option.some.inj hk).symm
      ·exact hfr k hk
     obtain⟨_,o',ho',_,hA⟩:=(Hn g' hg' hfr1).2 j (ready_mono hj hji)
     obtain rfl:=same ho'
     rw[←hset,←hput,←Got.put_comm al (Ne.symm hji) g' g]
     exact(hA t z hsj).2 g hg hfr2
end
section
variable {P:Program} {ops:Array Oper} {md:Region.Mode} {W:World}
def Zdz (P:Program) (ops:Array Oper) (W:World) (Q:Act→Prop):List Oper→Act→Prop
 | [],a=>Q a
 | o::rest,a=>∃ v,GivesB P ops W o v a∧Zdz P ops W Q rest (a.put o.dst v)
theorem Zbx {Q:Act→Prop} {a:Act} (h:Q a):Zdz P ops W Q [] a:=h
theorem Za6 {Q:Act→Prop} {a a':Act} {o:Oper} {rest:List Oper} {v:Value} (hw:Region.wanted o (yielded ops a.tmps)=true)
  (h:∀(K:Value→Act→World→Prop) (os:Array Obj) (d:Nat),(∀ w',Below (W.plus os d).heap.size (W.plus os d) w'→K v a' w')→Zeh o a K ((execOp a.eval o).run P (W.plus os d)))
  (next:Zdz P ops W Q rest a'):Zdz P ops W Q (o::rest) a:=by
 have hput:a.put o.dst v=a':=by
  have:=h (fun u b _=>u=v∧b=a') #[] 0 fun _ _=>⟨rfl,rfl⟩
  revert this
  generalize (execOp a.eval o).run P (W.plus #[] 0)=r
  cases r with
  | halt x w=>exact fun h=>False.elim h
  | ok n w =>
   cases n<;>try exact fun h=>False.elim h
   case value u=>rintro⟨rfl,hb⟩;exact hb
   case skip=>rintro⟨rfl,hb⟩;exact hb
 refine⟨v,.inl ⟨hw,fun w hb=>?_⟩,hput▸next⟩
 obtain⟨os,d,rfl⟩:=Zaf hb
 have:=h (fun u _ w'=>u=v∧Below (W.plus os d).heap.size (W.plus os d) w') os d fun w' hw'=>⟨rfl,hw'⟩
 revert this
 generalize (execOp a.eval o).run P (W.plus os d)=r
 cases r with
 | halt x w=>exact fun h=>False.elim h
 | ok n w=>cases n<;>first | exact fun h=>False.elim h | exact fun h=>h
theorem Za4 {Q:Act→Prop} {a:Act} {o:Oper} {rest:List Oper} {v:Value} (hw:Region.wanted o (yielded ops a.tmps)=true)
  (h:∀(K:Value→World→Prop) (os:Array Obj) (d:Nat),(∀ w',Below (W.plus os d).heap.size (W.plus os d) w'→K v w')→Zgy P K ((execOp a.eval o).run P (W.plus os d)))
  (next:Zdz P ops W Q rest (a.put o.dst v)):Zdz P ops W Q (o::rest) a:=by
 refine⟨v,.inl ⟨hw,fun w hb=>?_⟩,next⟩
 obtain⟨os,d,rfl⟩:=Zaf hb
 have:=h (fun u w'=>u=v∧Below (W.plus os d).heap.size (W.plus os d) w') os d fun w' hw'=>⟨rfl,hw'⟩
 revert this
 generalize (execOp a.eval o).run P (W.plus os d)=r
 cases r with
 | halt x w=>exact fun h=>False.elim h
 | ok n w=>cases n<;>first | exact fun h=>False.elim h | exact fun h=>h
def Zfy (P:Program) (W:World) (Q:List Nat→Act→Prop):List Oper→List (TypeId×Array Value)→List Nat→Act→Prop
 | [],[],gs,a=>Q gs a
 | o::l,(t,z)::zs,gs,a=>Lays P o t z∧∀ g,W.heap.size≤g→g∉gs→Zfy P W Q l zs (gs++[g]) (a.put o.dst (ptr g))
 | _,_,_,_=>False
def Ze6 (md:Region.Mode) (ops:Array Oper) (N:Nat):Bool :=
 (List.range ops.size).all fun t=>decide (t<N)||((List.range N).all fun i=>Region.waitsFor md ops t i||(List.range N).any fun j=>decide (i<j)&&Region.waitsFor md ops j i)||(List.range ops.size).any fun u=>decide (N≤u)&&Region.waitsFor md ops t u
def ZvE (md:Region.Mode) (ops:Array Oper) (N:Nat):Bool :=
 Region.noSelect ops&&decide (N≤ops.size)&&Ze6 md ops N&&Region.lexHead md ops (ops.size-N) N 0 (Array.replicate ops.size false)
theorem ZfW {N:Nat} (ht:Ze6 md ops N=true) {i:Nat} (hi:i<N) (listed:Array Bool) (inv:HeadInv md ops N listed) (hun:listed.getD i true=false) :
  ∀ t,N≤t→t∉Region.ready md ops listed:=fun t hnt hr=>by
 obtain⟨_,ot,hot,hall⟩:=mem_ready.1 hr
 have htl:t<ops.size:=(Array.getElem?_eq_some_iff.1 hot).1
 have h1:=List.all_eq_true.1 ht t (List.mem_range.2 htl)
 simp only[Bool.or_eq_true,decide_eq_true_eq] at h1
 have key:∀u,Region.waitsFor md ops t u=true→listed.getD u false=true:=fun u hu=>by
  obtain⟨o',ho',e,he,hb,hon⟩:=Region.waitsFor_spec hu
  obtain rfl:o'=ot:=Option.some.inj (ho'.symm.trans hot)
  have:=hall e he hb
  rwa [hon] at this
 rcases h1 with (h1 | h1) | h1
 ·omega
 ·have up:∀(d k:Nat),N-k=d→k<N→listed.getD k true=false→False:=by
   intro d
   induction d using Nat.strongRecOn with
   | _ d ih =>
    intro k hd hk hku
    have h2:=List.all_eq_true.1 h1 k (List.mem_range.2 hk)
    rcases Bool.or_eq_true_iff.1 h2 with h2 | h2
    ·have:=key k h2;rw[getD_both hku] at this;cases this
    ·obtain⟨j,hj,hj2⟩:=List.any_eq_true.1 h2
     simp only[Bool.and_eq_true,decide_eq_true_eq] at hj2
     have hjN:=List.mem_range.1 hj
     obtain⟨oj,hoj,e,he,hb,hon⟩:=Region.waitsFor_spec hj2.2
     have hjs:j<listed.size:=by rw[inv.size];exact(Array.getElem?_eq_some_iff.1 hoj).1
     cases hl:listed.getD j false with
     | true =>
      have:=inv.closed j oj hoj hl e he hb
      rw[hon,getD_both hku] at this;cases this
     | false=>exact ih (N-j) (by omega) j rfl hjN (getD_in hjs hl)
  exact up _ i rfl hi hun
 ·obtain⟨u,hu,hu2⟩:=List.any_eq_true.1 h1
  simp only[Bool.and_eq_true,decide_eq_true_eq] at hu2
  have h2:=key u hu2.2
  rw[getD_both (inv.tail u hu2.1 (List.mem_range.1 hu))] at h2;cases h2
def Znm (P:Program) (ops:Array Oper) (W:World) (Q:Act→Prop):List Oper→List Value→Act→Prop
 | [],[],a=>Q a
 | o::l,v::vs,a=>GivesB P ops W o v a∧Znm P ops W Q l vs (a.put o.dst v)
 | _,_,_=>False
theorem Zme {Q:Act→Prop}:∀(l:List Oper) (a:Act),Zdz P ops W Q l a→∃ vs,vs.length=l.length∧Znm P ops W Q l vs a
 | [],_,h=>⟨[],rfl,h⟩
 | o::l,a,⟨v,hg,hn⟩=>by
  obtain⟨vs,hl,hc⟩:=Zme l _ hn
  exact⟨v::vs,by simp[hl],hg,hc⟩
section
variable {n N r:Nat} {zs:List (TypeId×Array Value)} {vs:List Value} {Qf:List Nat→Act→Prop}
def Left (md:Region.Mode) (ops:Array Oper) (n N r:Nat) (zs:List (TypeId×Array Value)) (Qf:List Nat→Act→Prop) (al:Got) (listed:Array Bool) (a:Act):Prop :=
 Region.seqB md ops r N listed=true∧∃ gs:List Nat,gs.length=zs.length∧(∀ k,al (n+k)=gs[k]?)∧Qf gs a
def ZeO (n:Nat) (zs:List (TypeId×Array Value)) (i:Nat):Option (TypeId×Array Value):=if i<n then none else zs[i-n]?
theorem ZhI (hsel:Region.noSelect ops=true) (ht:Ze6 md ops N=true) (hN:N≤ops.size) (hnm:n+zs.length=N) :
  ∀ (l:List Oper) (rest:List (TypeId×Array Value)) (gs:List Nat) (listed:Array Bool) (al:Got) (a:Act),gs.length+l.length=zs.length→(∀ j,j<l.length→l[j]?=ops[n+gs.length+j]?) →
  zs.drop gs.length=rest→(∀ k,al (n+k)=gs[k]?)→(∀ k,k<n→al k=none)→HeadInv md ops N listed→(∀ k,listed.getD k true=false→al k=none)→al.Bounded →
  Region.lexHead md ops r l.length (n+gs.length) listed=true→Zfy P W Qf l rest gs a →
  anyB (ZeO n zs) (fun i=>vs.getD i undef) P md ops W N (Left md ops n N r zs Qf) l.length al listed a
 | [],rest,gs,listed,al,a,hlen,_,hd,hal,_,_,_,_,hB,h=>by
  have hgl:gs.length=zs.length:=by simpa using hlen
  have:rest=[]:=by rw[←hd,hgl,List.drop_length]
  subst this
  refine⟨?_,gs,hgl,hal,h⟩
  simp only[List.length_nil,Region.lexHead] at hB
  rwa [hgl,hnm] at hB
 | o::l,rest,gs,listed,al,a,hlen,hl,hd,hal,hal0,inv,halL,hbd,hB,h=>by
  have h0:ops[n+gs.length]?=some o:=by simpa using (hl 0 (by simp)).symm
  simp only[List.length_cons,Region.lexHead,Bool.and_eq_true] at hB
  obtain⟨⟨hr,hf⟩,hB'⟩:=hB
  have hr':n+gs.length∈Region.ready md ops listed:=by simpa using hr
  simp only[List.length_cons] at hlen
  have hk:n+gs.length<N:=by omega
  cases rest with
  | nil=>exact False.elim h
  | cons tz rest =>
   obtain⟨t,z⟩:=tz
   obtain⟨hlay,hn⟩:=h
   have hz:zs[gs.length]?=some (t,z):=by
    have:=congrArg (fun x=>x[0]?) hd
    simpa using this
   have hinf:ZeO n zs (n+gs.length)=some (t,z):=by unfold ZeO;rw[if_neg (by omega),Nat.add_sub_cancel_left];exact hz
   refine Zh7 _ _ h0 (Region.noSelect_spec hsel) hk (fun listed' inv' hun=>ZfW ht hk listed' inv' hun) (fun al' listed' a' hL=>seqB_ready hL.1) l.length al listed a hbd halL inv (Region.free_spec h0 hf) hr'
    ⟨fun hno=>(by rw[hinf] at hno;cases hno),fun t' z' he=>?_⟩
   obtain⟨rfl,rfl⟩:t=t'∧z=z':=by rw[hinf] at he;simpa using he
   refine⟨hlay,fun g hg hfr=>?_⟩
   have hgs:g∉gs:=fun hm=>by
    obtain⟨k,hk1⟩:=List.mem_iff_getElem?.1 hm
    exact hfr (n+k) (by rw[hal k,hk1])
   have hsz:n+gs.length<listed.size:=by rw[inv.size];omega
   have hlen1:(gs++[g]).length=gs.length+1:=by simp
   refine ZhI hsel ht hN hnm l rest (gs++[g]) _ (al.put (n+gs.length) g) _ (by rw[hlen1];omega) (fun j hj=>?_) ?_ (fun k=>?_) (fun k hk'=>?_) (inv.set hr' hk) (fun k hk'=>?_) (hbd.put _ _) (by rw[hlen1];exact hB') (hn g hg hgs)
   ·rw[hlen1];have:=hl (j+1) (by simp;omega);simpa [Nat.add_assoc,Nat.add_comm 1 j] using this
   ·rw[hlen1,←List.drop_drop,hd];rfl
   ·unfold Got.put
    by_cases hkk:k=gs.length
    ·subst hkk;simp
    ·rw[if_neg (by omega),hal k]
     rcases Nat.lt_or_ge k gs.length with hlt | hge
     ·rw[List.getElem?_append_left hlt]
     ·rw[List.getElem?_eq_none hge,List.getElem?_eq_none (by rw[hlen1];omega)]
   ·unfold Got.put;rw[if_neg (by omega)];exact hal0 k hk'
   ·unfold Got.put
    by_cases hkk:k=n+gs.length
    ·subst hkk;simp[hsz] at hk'
    ·rw[if_neg hkk];exact halL k (by rw[getD_set_ne true (fun e=>hkk e.symm)] at hk';exact hk')
theorem ZiL {A:List Oper} (hsel:Region.noSelect ops=true) (ht:Ze6 md ops N=true) (hN:N≤ops.size) (hnm:n+zs.length=N) (hA:A.length=zs.length) (hAl:∀j,j<A.length→A[j]?=ops[n+j]?) :
  ∀ (l:List Oper) (ws:List Value) (k:Nat) (listed:Array Bool) (a:Act),k+l.length=n→vs.length=n→vs.drop k=ws→(∀ j,j<l.length→l[j]?=ops[k+j]?)→HeadInv md ops N listed →
  Region.lexHead md ops r (l.length+A.length) k listed=true→Znm P ops W (fun a'=>Zfy P W Qf A zs [] a') l ws a →
  anyB (ZeO n zs) (fun i=>vs.getD i undef) P md ops W N (Left md ops n N r zs Qf) (l.length+A.length) (fun _=>none) listed a
 | [],ws,k,listed,a,hk,hvl,hd,_,inv,hB,h=>by
  have hkn:k=n:=by simpa using hk
  subst hkn
  have:ws=[]:=by rw[←hd,←hvl,List.drop_length]
  subst this
  simp only[List.length_nil,Nat.zero_add] at hB ⊢
  exact ZhI hsel ht hN hnm A zs [] listed _ a (by simpa using hA) (by simpa using hAl) rfl (fun _=>rfl) (fun _ _=>rfl) inv (fun _ _=>rfl) ⟨0,fun _ _ h=>by cases h⟩ (by simpa using hB) h
 | o::l,ws,k,listed,a,hk,hvl,hd,hl,inv,hB,h=>by
  have h0:ops[k]?=some o:=by simpa using (hl 0 (by simp)).symm
  simp only[List.length_cons] at hk
  rw[List.length_cons,show l.length+1+A.length=(l.length+A.length)+1 by omega] at hB ⊢
  simp only[Region.lexHead,Bool.and_eq_true] at hB
  obtain⟨⟨hr,hf⟩,hB'⟩:=hB
  have hr':k∈Region.ready md ops listed:=by simpa using hr
  have hkN:k<N:=by omega
  cases ws with
  | nil=>exact False.elim h
  | cons v ws =>
   obtain⟨hg,hn⟩:=h
   have hv:vs.getD k undef=v:=by
    have:=congrArg (fun x=>x[0]?) hd
    simp only[List.getElem?_drop,Nat.add_zero,List.getElem?_cons_zero] at this
    simp[List.getD,this]
   have hinf:ZeO n zs k=none:=by unfold ZeO;rw[if_pos (by omega)]
   refine Zh7 _ _ h0 (Region.noSelect_spec hsel) hkN (fun listed' inv' hun=>ZfW ht hkN listed' inv' hun) (fun al' listed' a' hL=>seqB_ready hL.1) (l.length+A.length) _ listed a ⟨0,fun _ _ h=>by cases h⟩ (fun _ _=>rfl) inv (Region.free_spec h0 hf) hr'
    ⟨fun _=>?_,fun t z he=>by rw[hinf] at he;cases he⟩
   simp only[hv]
   refine⟨hg,ZiL hsel ht hN hnm hA hAl l ws (k+1) _ _ (by omega) hvl (by rw[←List.drop_drop,hd];rfl) (fun j hj=>by have:=hl (j+1) (by simp;omega);simpa [Nat.add_assoc,Nat.add_comm 1 j] using this) (inv.set hr' hkN) hB' hn⟩
end
theorem Zbh {id:Nat} {Q:Exit→Act→World→Prop} {a:Act} {w:World} {l:List Oper} (W:World) (n:Nat) (zs:List (TypeId×Array Value)) (hm:P.follows .mixedOrders=true) (hB:ZvE .any l.toArray (n+zs.length)=true)
  (hW:Below W.heap.size W { w with drawn:=w.drawn+1 })
  (h:Zdz P l.toArray W (fun a'=>Zfy P W (fun gs a''=>∀ w',Below W.heap.size W w'→(∀ (k g:Nat) (t:TypeId) (z:Array Value),gs[k]?=some g→zs[k]?=some (t,z)→w'.heap[g]?=some (Obj.cells z t (0,0)))→wpList P l.toArray Q (l.drop (n+zs.length)) a'' w')
   ((l.drop n).take zs.length) zs [] a') (l.take n) a):(Code.region id l.toArray true).wp P Q a w:=by
 simp only[ZvE,Bool.and_eq_true,decide_eq_true_eq] at hB
 obtain⟨⟨⟨hsel,hN⟩,ht⟩,hlex⟩:=hB
 have hsz:l.toArray.size=l.length:=by simp
 have htl:(l.take n).length=n:=by simp;omega
 have hAl:((l.drop n).take zs.length).length=zs.length:=by simp;omega
 have hdl:(l.drop (n+zs.length)).length=l.toArray.size-(n+zs.length):=by simp
 have inv0:HeadInv .any l.toArray (n+zs.length) (Array.replicate l.toArray.size false) :=
  ⟨by simp,fun j oj _ hl=>(by rw[getD_replicate_false] at hl;cases hl),fun t _ ht=>getD_in (by simpa using ht) (getD_replicate_false _ _)⟩
 obtain⟨vs,hvl,hc⟩:=Zme _ _ h
 have H:=ZiL (md:=.any) (r:=l.toArray.size-(n+zs.length)) (vs:=vs) hsel ht hN rfl hAl (fun j hj=>by
  have hj':j<zs.length:=by rw[hAl] at hj;exact hj
  simp[hj',List.getElem?_drop]) (l.take n) vs 0 _ a (by simpa using htl) (by rw[hvl,htl]) rfl (fun j hj=>by
  have hj':j<n:=by rw[htl] at hj;exact hj
  simp[hj']) inv0 (by rw[htl,hAl];exact hlex) hc
 refine wp_region_any hm ?_
 have:=Zdb (Q:=Q) (ZeO n zs) (fun i=>vs.getD i undef) (r:=l.toArray.size-(n+zs.length)) (fun al listed a' w' hL hS' hF=>by
  obtain⟨hseq,gs,hgl,hal,hq⟩:=hL
  have:=wpAny_of_seq (md:=.any) (Q':=Q) (l.drop (n+zs.length)) (n+zs.length) listed a' w' (fun j=>by simp[List.getElem?_drop]) (by rw[hdl];exact hseq) (hq w' hS' fun k g t z hg hz=>by
   obtain⟨_,t',z',hi,hb⟩:=hF (n+k) g (by rw[hal k,hg])
   unfold ZeO at hi
   rw[if_neg (by omega),Nat.add_sub_cancel_left,hz] at hi
   obtain⟨rfl,rfl⟩:t=t'∧z=z':=by simpa using hi
   exact hb)
  rwa [hdl] at this) _ _ _ _ _ hW (fun i g hg=>by cases hg) H
 rw[htl,hAl,show n+zs.length+(l.toArray.size-(n+zs.length))=l.toArray.size by omega] at this
 exact this
end
section
variable {P:Program} {ops:Array Oper} {md:Region.Mode} {W:World} {Q:Exit→Act→World→Prop} {r:Nat}
variable (info:Nat→Option (TypeId×Array Value)) (vals:Nat→Value) (hd fl:Nat→Bool)
def Done (ops:Array Oper) (hd fl:Nat→Bool) (listed:Array Bool):Prop:=∀ i,i<ops.size→hd i=true→fl i=false→listed.getD i false=true
structure PickInv (md:Region.Mode) (ops:Array Oper) (hd:Nat→Bool) (listed:Array Bool):Prop where
 size:listed.size=ops.size
 closed:∀j oj,ops[j]?=some oj→listed.getD j false=true→∀ e∈oj.after,Region.binds md e=true→listed.getD e.on false=true
 tail:∀t,hd t=false→t<ops.size→listed.getD t true=false
theorem PickInv.set {hd:Nat→Bool} {i:Nat} {listed:Array Bool} (inv:PickInv md ops hd listed) (hi:i∈Region.ready md ops listed) (hin:hd i=true):PickInv md ops hd (listed.setIfInBounds i true):=by
 obtain⟨_,oi,hoi,hall⟩:=mem_ready.1 hi
 refine⟨by simp[inv.size],fun j oj hj hl e he hb=>?_,fun t ht ht'=>by rw[getD_set_ne true (fun e=>by subst e;rw[hin] at ht;cases ht)];exact inv.tail t ht ht'⟩
 by_cases hij:i=j
 ·subst hij
  have:oj=oi:=Option.some.inj (hj.symm.trans hoi)
  subst this
  exact getD_set_true (hall e he hb)
 ·rw[getD_set_ne false hij] at hl
  exact getD_set_true (inv.closed j oj hj hl e he hb)
def anyP (P:Program) (md:Region.Mode) (ops:Array Oper) (W:World) (Q:Exit→Act→World→Prop) (r:Nat):Nat→Got→Array Bool→Act→Prop
 | 0,al,listed,a=>(∀ i∈Region.ready md ops listed,hd i=false)∧Done ops hd fl listed∧∀ w,Below W.heap.size W w→Facts info W al w→wpAny P md ops Q r listed a w
 | f+1,al,listed,a =>
  (∀ i∈Region.ready md ops listed,hd i=true→∃ o,ops[i]?=some o ∧
   (info i=none→GivesB P ops W o (vals i) a∧anyP P md ops W Q r f al (listed.setIfInBounds i true) (a.put o.dst (vals i))) ∧
   (∀ t z,info i=some (t,z)→Lays P o t z∧∀ g,W.heap.size≤g→al.Fresh g→anyP P md ops W Q r f (al.put i g) (listed.setIfInBounds i true) (a.put o.dst (ptr g)))) ∧
  (Done ops hd fl listed→∀ w,Below W.heap.size W w→Facts info W al w→wpAny P md ops Q (f+1+r) listed a w) ∧
  (¬Done ops hd fl listed→Region.ready md ops listed≠[]∧∀ i∈Region.ready md ops listed,hd i=true)
theorem ZbU:∀(f:Nat) (al:Got) (listed:Array Bool) (a:Act) (w:World),Below W.heap.size W w→Facts info W al w→anyP info vals hd fl P md ops W Q r f al listed a→wpAny P md ops Q (f+r) listed a w
 | 0,al,listed,a,w,hS,hF,h=>by rw[Nat.zero_add];exact h.2.2 w hS hF
 | f+1,al,listed,a,w,hS,hF,h=>by
  by_cases hdn:Done ops hd fl listed
  ·exact h.2.1 hdn w hS hF
  ·rw[show f+1+r=(f+r)+1 by omega]
   obtain⟨hne,hall⟩:=h.2.2 hdn
   refine⟨fun h0=>absurd h0 hne,fun i hi=>?_⟩
   obtain⟨o,ho,hd',hA⟩:=h.1 i hi (hall i hi)
   cases hinf:info i with
   | none =>
    obtain⟨hg,hn⟩:=hd' hinf
    exact hg.wpOp ho hS fun w' hb=>ZbU f al _ _ w' (hS.trans (hb.mono hS.size)) (hF.grow info hb) hn
   | some tz =>
    obtain⟨t,z⟩:=tz
    obtain⟨⟨hgd,hrun⟩,hn⟩:=hA t z hinf
    have hfresh:al.Fresh w.heap.size:=fun j hj=>by
     obtain⟨_,t',z',_,h3⟩:=hF j _ hj
     have:=(Array.getElem?_eq_some_iff.1 h3).1
     omega
    unfold Go.wpOp
    simp only[ho,Zaa hgd,if_true,Oper.wp,hrun a w,Oper.upon]
    refine .inl (ZbU f _ _ _ _ (hS.alloc hS.size _) ?_ (hn w.heap.size hS.size hfresh))
    intro j g hj
    unfold Got.put at hj
    split at hj
    ·rename_i e;cases hj;subst e;exact⟨hS.size,t,z,hinf,Zaq w _⟩
    ·exact Facts.grow info hF ((Below.refl _ _).alloc (Nat.le_refl _) _) j g hj
def DoP (P:Program) (md:Region.Mode) (ops:Array Oper) (W:World) (Q:Exit→Act→World→Prop) (r:Nat) (i:Nat) (o:Oper) (f:Nat) (al:Got) (listed:Array Bool) (a:Act):Prop :=
 (info i=none→GivesB P ops W o (vals i) a∧anyP info vals hd fl P md ops W Q r f al (listed.setIfInBounds i true) (a.put o.dst (vals i))) ∧
 (∀ t z,info i=some (t,z)→Lays P o t z∧∀ g,W.heap.size≤g→al.Fresh g→anyP info vals hd fl P md ops W Q r f (al.put i g) (listed.setIfInBounds i true) (a.put o.dst (ptr g)))
theorem ZfQ {i:Nat} {oi:Oper} (hi:ops[i]?=some oi) (hsel:Region.noSelect ops=true) (hin:hd i=true)
  (hwait:∀listed,PickInv md ops hd listed→¬Done ops hd fl listed→∀ t∈Region.ready md ops listed,hd t=true)
  (hQ:∀c a d v w,Q (.panic c) (Act.put a d v) w→Q (.panic c) a w) (hfl:fl i=true→info i=none) :
  ∀ (f:Nat) (al:Got) (listed:Array Bool) (a:Act),al.Bounded→(∀ k,listed.getD k true=false→al k=none)→PickInv md ops hd listed →
   (∀ j oj,ops[j]?=some oj→j≠i→listed.getD j true=false→(∀ e∈oj.after,Region.binds md e=true→e.on≠i)→oi.apart ops oj=true) →
   i∈Region.ready md ops listed→(fl i=true→Yields P ops oi (vals i) a)→DoP info vals hd fl P md ops W Q r i oi f al listed a→anyP info vals hd fl P md ops W Q r (f+1) al listed a:=by
 have hsel':=Region.noSelect_spec hsel
 have late:∀(f:Nat) (al:Got) (listed:Array Bool) (a:Act),(∀ j oj,ops[j]?=some oj→j≠i→listed.getD j true=false→(∀ e∈oj.after,Region.binds md e=true→e.on≠i)→oi.apart ops oj=true) →
   i∈Region.ready md ops listed→(fl i=true→Yields P ops oi (vals i) a)→DoP info vals hd fl P md ops W Q r i oi f al listed a →
   Done ops hd fl listed→∀ w,Below W.heap.size W w→Facts info W al w→wpAny P md ops Q (f+1+r) listed a w:=by
  intro f al listed a hfree hr hy H hdn w hS hF
  have hun:=(mem_ready.1 hr).1
  have hlt:i<ops.size:=(Array.getElem?_eq_some_iff.1 hi).1
  cases hf:fl i with
  | false =>
   have:=hdn i hlt hin hf
   rw[getD_both hun] at this;cases this
  | true =>
   obtain⟨_,Hn⟩:=H.1 (hfl hf)
   rw[show f+1+r=(f+r)+1 by omega]
   exact wpAny_first hi hsel' (fun c a w=>hQ c a _ _ w) (f+r) listed a w hfree hr (hy hf) (ZbU info vals hd fl f al _ _ w hS hF Hn)
 intro f
 induction f with
 | zero =>
  intro al listed a hbd _ inv hfree hr hy H
  have hun:=(mem_ready.1 hr).1
  refine⟨fun j hj hjd=>?_,late 0 al listed a hfree hr hy H,fun hnd=>⟨fun h=>(by rw[h] at hr;cases hr),hwait listed inv hnd⟩⟩
  by_cases hji:j=i
  ·subst hji;exact⟨oi,hi,H⟩
  ·exfalso
   obtain⟨N,hN⟩:=hbd
   cases hinf:info i with
   | none=>have:=(H.1 hinf).2.1 j (ready_mono hj hji);rw[hjd] at this;cases this
   | some tz =>
    have:=((H.2 tz.1 tz.2 hinf).2 (max N W.heap.size) (by omega) (fun k hk=>by have:=hN k _ hk;omega)).1 j (ready_mono hj hji)
    rw[hjd] at this;cases this
 | succ f ih =>
  intro al listed a hbd hal inv hfree hr hy H
  have hun:=(mem_ready.1 hr).1
  refine⟨fun j hj hjd=>?_,late (f+1) al listed a hfree hr hy H,fun hnd=>⟨fun h=>(by rw[h] at hr;cases hr),hwait listed inv hnd⟩⟩
  by_cases hji:j=i
  ·subst hji;exact⟨oi,hi,H⟩
  ·obtain⟨hjun,oj,hoj,hall⟩:=mem_ready.1 hj
   have hnot:∀e∈oj.after,Region.binds md e=true→e.on≠i:=fun e he hb heq=>by
    have h1:=hall e he hb
    rw[heq,getD_both hun] at h1
    cases h1
   obtain⟨p1,p2,p3⟩:=Oper.apart_spec (hfree j oj hoj hji hjun hnot)
   have hfree':∀k ok,ops[k]?=some ok→k≠i→(listed.setIfInBounds j true).getD k true=false→(∀ e∈ok.after,Region.binds md e=true→e.on≠i)→oi.apart ops ok=true:=fun k ok hk hki hkun hno=>by
    refine hfree k ok hk hki ?_ hno
    by_cases hjk:j=k
    ·subst hjk;exact hjun
    ·rw[getD_set_ne true hjk] at hkun;exact hkun
   have hri:=ready_mono hr (Ne.symm hji)
   have hal0:∀k,(listed.setIfInBounds j true).getD k true=false→al k=none:=fun k hk=>hal k (by
    by_cases hjk:j=k
    ·subst hjk;exact hjun
    ·rw[getD_set_ne true hjk] at hk;exact hk)
   have hjs:j<listed.size:=by rw[inv.size];exact(Array.getElem?_eq_some_iff.1 hoj).1
   have hal1:∀g k,(listed.setIfInBounds j true).getD k true=false→(al.put j g) k=none:=fun g k hk=>by
    by_cases hjk:k=j
    ·subst hjk;simp[hjs] at hk
    ·unfold Got.put;rw[if_neg hjk];exact hal0 k hk
   have hset:(listed.setIfInBounds i true).setIfInBounds j true=(listed.setIfInBounds j true).setIfInBounds i true:=Array.setIfInBounds_comm _ _ (Ne.symm hji)
   have hput:∀v u,(a.put oi.dst v).put oj.dst u=(a.put oj.dst u).put oi.dst v:=fun v u=>Act.put_comm a v u fun d hd=>p2 d hd
   have back:∀v u,GivesB P ops W oj u (a.put oi.dst v)→GivesB P ops W oj u a:=fun v u h=>h.like (execOp_put oj (fun cs b=>hsel' j oj cs b hoj) a oi.dst v p1).symm (wanted_put oj a oi.dst v p1).symm
   have ahead:∀u,GivesB P ops W oi (vals i) a→GivesB P ops W oi (vals i) (a.put oj.dst u):=fun u h=>h.like (execOp_put oi (fun cs b=>hsel' i oi cs b hi) a oj.dst u p3) (wanted_put oi a oj.dst u p3)
   have yahead:∀u,fl i=true→Yields P ops oi (vals i) (a.put oj.dst u):=fun u hf=>by
    have he:=execOp_put oi (fun cs b=>hsel' i oi cs b hi) a oj.dst u p3
    have hw:=wanted_put oi a oj.dst u p3
    rcases hy hf with ⟨h1,h2⟩ | ⟨h1,h2⟩
    ·exact .inl ⟨hw▸h1,fun w=>by rw[he];exact h2 w⟩
    ·exact .inr ⟨hw▸h1,h2⟩
   have same:∀{o':Oper},ops[j]?=some o'→o'=oj:=fun h=>Option.some.inj (h.symm.trans hoj)
   refine⟨oj,hoj,fun hnj=>?_,fun t z hsj=>?_⟩
   ·cases hinf:info i with
    | none =>
     obtain⟨hgi,Hn⟩:=H.1 hinf
     obtain⟨o',ho',hd',_⟩:=Hn.1 j (ready_mono hj hji) hjd
     obtain rfl:=same ho'
     obtain⟨hgj,hn⟩:=hd' hnj
     refine⟨back _ _ hgj,ih al _ _ hbd hal0 (inv.set hj hjd) hfree' hri (yahead _) ⟨fun _=>⟨ahead _ hgi,?_⟩,fun t z h=>by rw[hinf] at h;cases h⟩⟩
     rw[←hset,←hput];exact hn
    | some tz =>
     obtain⟨hl,Hn⟩:=H.2 tz.1 tz.2 hinf
     obtain⟨N,hN⟩:=hbd
     obtain⟨o0,ho0,hd0,_⟩:=(Hn (max N W.heap.size) (by omega) (fun k hk=>by have:=hN k _ hk;omega)).1 j (ready_mono hj hji) hjd
     obtain rfl:=same ho0
     refine⟨back _ _ (hd0 hnj).1,ih al _ _ ⟨N,hN⟩ hal0 (inv.set hj hjd) hfree' hri (yahead _) ⟨fun h=>(by rw[hinf] at h;cases h),fun t z h=>?_⟩⟩
     obtain rfl:tz=(t,z):=Option.some.inj (hinf.symm.trans h)
     refine⟨hl,fun g hg hfr=>?_⟩
     obtain⟨o',ho',hd',_⟩:=(Hn g hg hfr).1 j (ready_mono hj hji) hjd
     obtain rfl:=same ho'
     rw[←hset,←hput];exact(hd' hnj).2
   ·cases hinf:info i with
    | none =>
     obtain⟨hgi,Hn⟩:=H.1 hinf
     obtain⟨o',ho',_,hA⟩:=Hn.1 j (ready_mono hj hji) hjd
     obtain rfl:=same ho'
     obtain⟨hl,hn⟩:=hA t z hsj
     refine⟨hl,fun g hg hfr=>ih (al.put j g) _ _ (hbd.put j g) (hal1 g) (inv.set hj hjd) hfree' hri (yahead _) ⟨fun _=>⟨ahead _ hgi,?_⟩,fun t z h=>by rw[hinf] at h;cases h⟩⟩
     rw[←hset,←hput];exact hn g hg hfr
    | some tz =>
     obtain⟨hl,Hn⟩:=H.2 tz.1 tz.2 hinf
     obtain⟨N,hN⟩:=hbd
     obtain⟨o0,ho0,_,hA0⟩:=(Hn (max N W.heap.size) (by omega) (fun k hk=>by have:=hN k _ hk;omega)).1 j (ready_mono hj hji) hjd
     obtain rfl:=same ho0
     refine⟨(hA0 t z hsj).1,fun g hg hfr=>ih (al.put j g) _ _ (Got.Bounded.put ⟨N,hN⟩ j g) (hal1 g) (inv.set hj hjd) hfree' hri (yahead _) ⟨fun h=>(by rw[hinf] at h;cases h),fun t' z' h=>?_⟩⟩
     obtain rfl:tz=(t',z'):=Option.some.inj (hinf.symm.trans h)
     refine⟨hl,fun g' hg' hfr'=>?_⟩
     have hfr1:al.Fresh g':=fun k hk=>by
      by_cases hkj:k=j
      ·subst hkj;rw[hal k hjun] at hk;cases hk
      ·have:=hfr' k;unfold Got.put at this;rw[if_neg hkj] at this;exact this hk
     have hne:g≠g':=fun e=>by
      have:=hfr' j;unfold Got.put at this;rw[if_pos rfl] at this;exact this (by rw[e])
     have hfr2:(al.put i g').Fresh g:=fun k hk=>by
      unfold Got.put at hk
      split at hk
      ·exact hne (Option.some.inj hk).symm
      ·exact hfr k hk
     obtain⟨o',ho',_,hA⟩:=(Hn g' hg' hfr1).1 j (ready_mono hj hji) hjd
     obtain rfl:=same ho'
     rw[←hset,←hput,←Got.put_comm al (Ne.symm hji) g' g]
     exact(hA t z hsj).2 g hg hfr2
end
section
variable {P:Program} {ops:Array Oper} {md:Region.Mode} {W:World} {Q:Exit→Act→World→Prop}
def pick (l:List Oper):List Nat→List Oper
 | []=>[]
 | i::is=>match l[i]? with | some o=>o::pick l is | none=>pick l is
def ZcJ (P:Program) (ops:Array Oper) (W:World) (Q:Act→Prop):List Oper→List Bool→Act→Prop
 | [],_,a=>Q a
 | o::rest,b::bs,a=>∃ v,GivesB P ops W o v a∧(b=true→Yields P ops o v a)∧ZcJ P ops W Q rest bs (a.put o.dst v)
 | _::_,[],_=>False
theorem Zan {Q:Act→Prop} {a:Act} {bs:List Bool} (h:Q a):ZcJ P ops W Q [] bs a:=h
theorem Zac {Q:Act→Prop} {a a':Act} {o:Oper} {rest:List Oper} {bs:List Bool} {v:Value} (hw:Region.wanted o (yielded ops a.tmps)=true)
  (h:∀(K:Value→Act→World→Prop) (os:Array Obj) (d:Nat),(∀ w',Below (W.plus os d).heap.size (W.plus os d) w'→K v a' w')→Zeh o a K ((execOp a.eval o).run P (W.plus os d)))
  (next:ZcJ P ops W Q rest bs a'):ZcJ P ops W Q (o::rest) (false::bs) a:=by
 obtain⟨u,hg,hn⟩:=Za6 (Q:=fun b=>b=a') (rest:=[]) hw h rfl
 have hn':a.put o.dst u=a':=hn
 exact⟨u,hg,fun h=>(by cases h),hn'.symm▸next⟩
theorem Zai {Q:Act→Prop} {a:Act} {o:Oper} {rest:List Oper} {bs:List Bool} {v:Value} (hw:Region.wanted o (yielded ops a.tmps)=true)
  (h:∀(K:Value→World→Prop) (os:Array Obj) (d:Nat),(∀ w',Below (W.plus os d).heap.size (W.plus os d) w'→K v w')→Zgy P K ((execOp a.eval o).run P (W.plus os d)))
  (next:ZcJ P ops W Q rest bs (a.put o.dst v)):ZcJ P ops W Q (o::rest) (false::bs) a:=by
 obtain⟨u,hg,hn⟩:=Za4 (v:=v) (Q:=fun b=>b=a.put o.dst v) (rest:=[]) hw h rfl
 have hn':a.put o.dst u=a.put o.dst v:=hn
 exact⟨u,hg,fun h=>(by cases h),hn'.symm▸next⟩
theorem Zay {Q:Act→Prop} {a:Act} {o:Oper} {rest:List Oper} {bs:List Bool} {v:Value} (hw:Region.wanted o (yielded ops a.tmps)=true) (h:∀w,(execOp a.eval o).run P w=.ok (.value v) w)
  (next:ZcJ P ops W Q rest bs (a.put o.dst v)):ZcJ P ops W Q (o::rest) (true::bs) a :=
 ⟨v,.inl ⟨hw,fun w _=>by rw[h w];exact⟨rfl,Below.refl _ _⟩⟩,fun _=>.inl ⟨hw,h⟩,next⟩
def Zjh (md:Region.Mode) (ops:Array Oper) (g n:Nat):List Nat→Array Bool→Bool
 | [],listed=>Region.seqB md ops g n listed
 | k::ks,listed=>(Region.ready md ops listed).contains k&&Region.free md ops listed k&&Zjh md ops g n ks (listed.setIfInBounds k true)
def ZmF (md:Region.Mode) (ops:Array Oper) (t:Nat):List Nat→Bool
 | []=>true
 | i::post=>(Region.waitsFor md ops t i||post.any fun j=>Region.waitsFor md ops j i)&&ZmF md ops t post
def late (hs:List Nat) (bs:List Bool):List Nat:=(hs.zip bs).filterMap fun p=>if p.2 then some p.1 else none
def ZuJ (md:Region.Mode) (ops:Array Oper) (hs:List Nat) (bs:List Bool) (ha:List Nat) (n:Nat):Bool :=
 Region.noSelect ops&&decide (n≤ops.size)&&decide (bs.length=hs.length)&&decide (hs++ha).Nodup&&((List.range n).all fun i=>(hs++ha).contains i)&&((hs++ha).all fun i=>decide (i<n)) &&
 ((List.range ops.size).all fun t=>decide (t<n)||((List.range ops.size).any fun u=>decide (n≤u)&&Region.waitsFor md ops t u)||ZmF md ops t ((hs++ha).filter fun i=>!(late hs bs).contains i)) &&
 Zjh md ops (ops.size-n) n (hs++ha) (Array.replicate ops.size false)
theorem Zdp {hd:Nat→Bool} {listed:Array Bool} (inv:PickInv md ops hd listed) {t:Nat} (hr:t∈Region.ready md ops listed):∀l:List Nat,ZmF md ops t l=true→∀ i∈l,listed.getD i false=true
 | [],_,i,hi=>by cases hi
 | k::post,hB,i,hi=>by
  simp only[ZmF,Bool.and_eq_true,Bool.or_eq_true] at hB
  have ih:=Zdp inv hr post hB.2
  rcases List.mem_cons.1 hi with rfl | hi
  ·rcases hB.1 with h | h
   ·obtain⟨_,ot,hot,hall⟩:=mem_ready.1 hr
    obtain⟨o',ho',e,he,hb,hon⟩:=Region.waitsFor_spec h
    obtain rfl:o'=ot:=Option.some.inj (ho'.symm.trans hot)
    have:=hall e he hb
    rwa [hon] at this
   ·obtain⟨j,hj,hw⟩:=List.any_eq_true.1 h
    obtain⟨o',ho',e,he,hb,hon⟩:=Region.waitsFor_spec hw
    have:=inv.closed j o' ho' (ih j hj) e he hb
    rwa [hon] at this
  ·exact ih i hi
def look:List Nat→List Value→Nat→Value
 | k::ks,v::vs,i=>if i=k then v else look ks vs i
 | _,_,_=>undef
def Zft:List Nat→List (TypeId×Array Value)→Nat→Option (TypeId×Array Value)
 | k::ks,z::zs,i=>if i=k then some z else Zft ks zs i
 | _,_,_=>none
theorem Zjw:∀(ks:List Nat) (vs:List Value) (j i:Nat) (v:Value),ks.Nodup→ks[j]?=some i→vs[j]?=some v→look ks vs i=v
 | [],_,j,i,v,_,h,_=>by simp at h
 | k::ks,[],j,i,v,_,_,h=>by simp at h
 | k::ks,u::vs,0,i,v,_,h1,h2=>by
  simp only[List.getElem?_cons_zero,Option.some.injEq] at h1 h2
  subst h1;subst h2;simp[look]
 | k::ks,u::vs,j+1,i,v,hn,h1,h2=>by
  simp only[List.getElem?_cons_succ] at h1 h2
  have hne:i≠k:=fun e=>by
   subst e
   exact(List.nodup_cons.1 hn).1 (List.mem_of_getElem? h1)
  simp only[look,if_neg hne]
  exact Zjw ks vs j i v (List.nodup_cons.1 hn).2 h1 h2
theorem Zg2:∀(ks:List Nat) (vs:List (TypeId×Array Value)) (j i:Nat) (v:TypeId×Array Value),ks.Nodup→ks[j]?=some i→vs[j]?=some v→Zft ks vs i=some v
 | [],_,j,i,v,_,h,_=>by simp at h
 | k::ks,[],j,i,v,_,_,h=>by simp at h
 | k::ks,u::vs,0,i,v,_,h1,h2=>by
  simp only[List.getElem?_cons_zero,Option.some.injEq] at h1 h2
  subst h1;subst h2;simp[Zft]
 | k::ks,u::vs,j+1,i,v,hn,h1,h2=>by
  simp only[List.getElem?_cons_succ] at h1 h2
  have hne:i≠k:=fun e=>by
   subst e
   exact(List.nodup_cons.1 hn).1 (List.mem_of_getElem? h1)
  simp only[Zft,if_neg hne]
  exact Zg2 ks vs j i v (List.nodup_cons.1 hn).2 h1 h2
theorem ZgQ:∀(ks:List Nat) (vs:List (TypeId×Array Value)) (i:Nat),i∉ks→Zft ks vs i=none
 | [],[],i,_=>rfl
 | [],_::_,i,_=>rfl
 | k::ks,[],i,_=>rfl
 | k::ks,u::vs,i,h=>by
  simp only[List.mem_cons,not_or] at h
  simp only[Zft,if_neg h.1]
  exact ZgQ ks vs i h.2
theorem Zju (l:List Oper):∀is:List Nat,(∀ i∈is,i<l.length)→(pick l is).length=is.length∧∀ (j i:Nat),is[j]?=some i→(pick l is)[j]?=l[i]?
 | [],_=>⟨rfl,fun j i h=>by simp at h⟩
 | k::is,h=>by
  have hk:=h k (by simp)
  obtain⟨ih1,ih2⟩:=Zju l is fun i hi=>h i (by simp[hi])
  rw[pick,List.getElem?_eq_getElem hk]
  refine⟨by simp[ih1],fun j i hj=>?_⟩
  cases j with
  | zero =>
   simp only[List.getElem?_cons_zero,Option.some.injEq] at hj
   subst hj
   simp[List.getElem?_eq_getElem hk]
  | succ j=>simpa using ih2 j i (by simpa using hj)
section
variable {l:List Oper} {hs ha:List Nat} {bs:List Bool} {zs:List (TypeId×Array Value)} {vs:List Value} {n:Nat}
def Qf (P:Program) (W:World) (l:List Oper) (zs:List (TypeId×Array Value)) (n:Nat) (Q:Exit→Act→World→Prop) (gs:List Nat) (a:Act):Prop :=
 ∀ w',Below W.heap.size W w'→(∀ (k g:Nat) (t:TypeId) (z:Array Value),gs[k]?=some g→zs[k]?=some (t,z)→w'.heap[g]?=some (Obj.cells z t (0,0)))→wpList P l.toArray Q (l.drop n) a w'
theorem Zia (hsel:Region.noSelect l.toArray=true) (hn:n≤l.length) (hnd:ha.Nodup) (hlt:∀i∈ha,i<n) (hzl:zs.length=ha.length)
  (hfla:∀i∈ha,(late hs bs).contains i=false)
  (hwait:∀listed,PickInv md l.toArray (fun i=>decide (i<n)) listed→¬Done l.toArray (fun i=>decide (i<n)) (fun i=>(late hs bs).contains i) listed→∀ t∈Region.ready md l.toArray listed,(fun i=>decide (i<n)) t=true)
  (hQ:∀c a d v w,Q (.panic c) (Act.put a d v) w→Q (.panic c) a w) :
  ∀ (ks:List Nat) (rest:List (TypeId×Array Value)) (gs:List Nat) (listed:Array Bool) (al:Got) (a:Act),ha.drop gs.length=ks→zs.drop gs.length=rest→gs.length≤ha.length →
  (∀ k i:Nat,ha[k]?=some i→al i=gs[k]?)→(∀ i,i∉ha→al i=none)→PickInv md l.toArray (fun i=>decide (i<n)) listed→(∀ k,listed.getD k true=false→al k=none)→al.Bounded →
  (∀ i,i<n→i∉ks→listed.getD i false=true)→Zjh md l.toArray (l.toArray.size-n) n ks listed=true→Zfy P W (Qf P W l zs n Q) (pick l ks) rest gs a →
  anyP (Zft ha zs) (look hs vs) (fun i=>decide (i<n)) (fun i=>(late hs bs).contains i) P md l.toArray W Q (l.toArray.size-n) ks.length al listed a
 | [],rest,gs,listed,al,a,hd,hz,hgl,hal,hal0,inv,halL,hbd,hdn,hB,h=>by
  have hge:gs.length=ha.length:=by
   have:=congrArg List.length hd
   simp at this;omega
  have hr:rest=[]:=by rw[←hz,hge,←hzl,List.drop_length]
  subst hr
  refine⟨fun i hi=>?_,fun i hi hin hfi=>hdn i (by simpa using hin) (by simp),fun w hS hF=>?_⟩
  ·refine Bool.eq_false_iff.2 fun hlt'=>?_
   have h1:=(mem_ready.1 hi).1
   have h2:=hdn i (by simpa using hlt') (by simp)
   rw[getD_both h1] at h2;cases h2
  ·have hq:Qf P W l zs n Q gs a:=h
   have:=wpAny_of_seq (md:=md) (Q':=Q) (l.drop n) n listed a w (fun j=>by simp[List.getElem?_drop]) (by rw[show (l.drop n).length=l.toArray.size-n by simp];simpa [Zjh] using hB) (hq w hS fun k g t z hg hz'=>by
    have hk:k<ha.length:=by have:=(List.getElem?_eq_some_iff.1 hg).1;omega
    obtain⟨_,t',z',hi',hb⟩:=hF ha[k] g (by rw[hal k _ (List.getElem?_eq_getElem hk),hg])
    rw[Zg2 ha zs k _ _ hnd (List.getElem?_eq_getElem hk) hz'] at hi'
    obtain⟨rfl,rfl⟩:t=t'∧z=z':=by simpa using hi'
    exact hb)
   rwa [show (l.drop n).length=l.toArray.size-n by simp] at this
 | k::ks,rest,gs,listed,al,a,hd,hz,hgl,hal,hal0,inv,halL,hbd,hdn,hB,h=>by
  have hkm:k∈ha:=List.mem_of_mem_drop (i:=gs.length) (by rw[hd];simp)
  have hkn:=hlt k hkm
  have hkl:k<l.length:=by omega
  have h0:l.toArray[k]?=some l[k]:=by simp[hkl]
  simp only[Zjh,Bool.and_eq_true] at hB
  obtain⟨⟨hr,hf⟩,hB'⟩:=hB
  have hr':k∈Region.ready md l.toArray listed:=by simpa using hr
  have hgk:ha[gs.length]?=some k:=by
   have:=congrArg (fun x=>x[0]?) hd
   simpa using this
  have hglt:gs.length<ha.length:=(List.getElem?_eq_some_iff.1 hgk).1
  rw[pick,List.getElem?_eq_getElem hkl] at h
  cases rest with
  | nil=>exact False.elim h
  | cons tz rest =>
   obtain⟨t,z⟩:=tz
   obtain⟨hlay,hn'⟩:=h
   have hzz:zs[gs.length]?=some (t,z):=by
    have:=congrArg (fun x=>x[0]?) hz
    simpa using this
   have hinf:Zft ha zs k=some (t,z):=Zg2 ha zs _ k _ hnd hgk hzz
   refine ZfQ _ _ _ _ h0 hsel (by simpa using hkn) hwait hQ (fun hfk=>by rw[hfla k hkm] at hfk;cases hfk) ks.length al listed a hbd halL inv (Region.free_spec h0 hf) hr' (fun hfk=>by rw[hfla k hkm] at hfk;cases hfk)
    ⟨fun hno=>(by rw[hinf] at hno;cases hno),fun t' z' he=>?_⟩
   obtain⟨rfl,rfl⟩:t=t'∧z=z':=by rw[hinf] at he;simpa using he
   refine⟨hlay,fun g hg hfr=>?_⟩
   have hgs:g∉gs:=fun hm=>by
    obtain⟨j,hj⟩:=List.mem_iff_getElem?.1 hm
    have hjl:=(List.getElem?_eq_some_iff.1 hj).1
    exact hfr ha[j] (by rw[hal j _ (List.getElem?_eq_getElem (by omega)),hj])
   have hsz:k<listed.size:=by rw[inv.size];simpa using hkl
   have hlen1:(gs++[g]).length=gs.length+1:=by simp
   refine Zia hsel hn hnd hlt hzl hfla hwait hQ ks rest (gs++[g]) _ (al.put k g) _ (by rw[hlen1,←List.drop_drop,hd];rfl) (by rw[hlen1,←List.drop_drop,hz];rfl) (by rw[hlen1];omega) (fun j i hj=>?_) (fun i hi=>?_) (inv.set hr' (by simpa using hkn)) (fun j hj=>?_) (hbd.put _ _) (fun i hi hik=>?_) hB' (hn' g hg hgs)
   ·unfold Got.put
    by_cases hik:i=k
    ·subst hik
     have hjg:j=gs.length:=(List.getElem?_inj (List.getElem?_eq_some_iff.1 hj).1 hnd).1 (hj.trans hgk.symm)
     subst hjg;simp
    ·rw[if_neg hik,hal j i hj]
     have hjg:j≠gs.length:=fun e=>by subst e;rw[hgk] at hj;exact hik (Option.some.inj hj).symm
     rcases Nat.lt_or_ge j gs.length with hlt | hge
     ·rw[List.getElem?_append_left hlt]
     ·rw[List.getElem?_eq_none hge,List.getElem?_eq_none (by rw[hlen1];omega)]
   ·unfold Got.put
    have hik:i≠k:=fun e=>by subst e;exact hi hkm
    rw[if_neg hik];exact hal0 i hi
   ·unfold Got.put
    by_cases hjk:j=k
    ·subst hjk;simp[hsz] at hj
    ·rw[if_neg hjk];exact halL j (by rw[getD_set_ne true (fun e=>hjk e.symm)] at hj;exact hj)
   ·by_cases hik':i=k
    ·subst hik';simp[hsz]
    ·exact getD_set_true (hdn i hi (by simp[hik',hik]))
def ZeK (P:Program) (ops:Array Oper) (W:World) (Q:Act→Prop):List Oper→List Bool→List Value→Act→Prop
 | [],_,[],a=>Q a
 | o::l,b::bs,v::vs,a=>GivesB P ops W o v a∧(b=true→Yields P ops o v a)∧ZeK P ops W Q l bs vs (a.put o.dst v)
 | _,_,_,_=>False
theorem ZsU {Q:Act→Prop}:∀(l:List Oper) (bs:List Bool) (a:Act),ZcJ P ops W Q l bs a→∃ vs,vs.length=l.length∧ZeK P ops W Q l bs vs a
 | [],_,_,h=>⟨[],rfl,h⟩
 | o::l,b::bs,a,⟨v,hg,hy,hn⟩=>by
  obtain⟨vs,hl,hc⟩:=ZsU l bs _ hn
  exact⟨v::vs,by simp[hl],hg,hy,hc⟩
 | _::_,[],_,h=>False.elim h
theorem Zfs:∀(hs:List Nat) (bs:List Bool) (j i:Nat) (b:Bool),hs.Nodup→bs.length=hs.length→hs[j]?=some i→bs[j]?=some b→(late hs bs).contains i=b
 | [],bs,j,i,b,_,_,h,_=>by simp at h
 | k::hs,[],j,i,b,_,hl,_,_=>by simp at hl
 | k::hs,c::bs,0,i,b,hn,hl,h1,h2=>by
  simp only[List.getElem?_cons_zero,Option.some.injEq] at h1 h2
  subst h1;subst h2
  cases c with
  | true=>simp[late]
  | false =>
   have hk:=(List.nodup_cons.1 hn).1
   rw[Bool.eq_false_iff]
   intro hc
   have hm:k∈late (k::hs) (false::bs):=by simpa using hc
   simp only[late,List.zip_cons_cons,List.filterMap_cons,Bool.false_eq_true,if_false] at hm
   obtain⟨p,hp,hpe⟩:=List.mem_filterMap.1 hm
   split at hpe
   ·cases hpe;exact hk (List.of_mem_zip hp).1
   ·cases hpe
 | k::hs,c::bs,j+1,i,b,hn,hl,h1,h2=>by
  simp only[List.getElem?_cons_succ] at h1 h2
  have hne:i≠k:=fun e=>by
   subst e
   exact(List.nodup_cons.1 hn).1 (List.mem_of_getElem? h1)
  have ih:=Zfs hs bs j i b (List.nodup_cons.1 hn).2 (by simpa using hl) h1 h2
  cases c with
  | true=>simp[late,hne];simpa [late] using ih
  | false=>simpa [late] using ih
theorem ZpR {hs:List Nat} {bs:List Bool} {i:Nat} (h:(late hs bs).contains i=true):i∈hs:=by
 have hm:i∈late hs bs:=by simpa using h
 obtain⟨p,hp,hpe⟩:=List.mem_filterMap.1 hm
 split at hpe
 ·cases hpe;exact(List.of_mem_zip hp).1
 ·cases hpe
theorem ZhA (hsel:Region.noSelect l.toArray=true) (hn:n≤l.length) (hnd:(hs++ha).Nodup) (hlt:∀i∈hs++ha,i<n) (hzl:zs.length=ha.length) (hbl:bs.length=hs.length) (hvl:vs.length=hs.length)
  (hall:∀i,i<n→i∈hs++ha)
  (hwait:∀listed,PickInv md l.toArray (fun i=>decide (i<n)) listed→¬Done l.toArray (fun i=>decide (i<n)) (fun i=>(late hs bs).contains i) listed→∀ t∈Region.ready md l.toArray listed,(fun i=>decide (i<n)) t=true)
  (hQ:∀c a d v w,Q (.panic c) (Act.put a d v) w→Q (.panic c) a w) :
  ∀ (ks:List Nat) (cs:List Bool) (ws:List Value) (p:Nat) (listed:Array Bool) (a:Act),hs.drop p=ks→bs.drop p=cs→vs.drop p=ws→p≤hs.length→PickInv md l.toArray (fun i=>decide (i<n)) listed →
  (∀ i,i<n→i∉ks++ha→listed.getD i false=true)→Zjh md l.toArray (l.toArray.size-n) n (ks++ha) listed=true →
  ZeK P l.toArray W (fun a'=>Zfy P W (Qf P W l zs n Q) (pick l ha) zs [] a') (pick l ks) cs ws a →
  anyP (Zft ha zs) (look hs vs) (fun i=>decide (i<n)) (fun i=>(late hs bs).contains i) P md l.toArray W Q (l.toArray.size-n) (ks++ha).length (fun _=>none) listed a
 | [],cs,ws,p,listed,a,hd,hb,hw,hp,inv,hdn,hB,h=>by
  have hpe:p=hs.length:=by
   have:=congrArg List.length hd
   simp at this;omega
  have hwn:ws=[]:=by rw[←hw,hpe,←hvl,List.drop_length]
  have hcn:cs=[]:=by rw[←hb,hpe,←hbl,List.drop_length]
  subst hwn;subst hcn
  exact Zia hsel hn (List.nodup_append.1 hnd).2.1 (fun i hi=>hlt i (by simp[hi])) hzl (fun i hi=>by
   rw[Bool.eq_false_iff]
   intro hc
   exact(List.nodup_append.1 hnd).2.2 i (ZpR hc) i hi rfl) hwait hQ ha zs [] listed _ a rfl rfl (Nat.zero_le _) (fun k i _=>rfl) (fun _ _=>rfl) inv (fun _ _=>rfl) ⟨0,fun _ _ h=>by cases h⟩ hdn hB h
 | k::ks,cs,ws,p,listed,a,hd,hb,hw,hp,inv,hdn,hB,h=>by
  have hpk:hs[p]?=some k:=by
   have:=congrArg (fun x=>x[0]?) hd
   simpa using this
  have hkm:k∈hs:=List.mem_of_getElem? hpk
  have hpl:p<hs.length:=(List.getElem?_eq_some_iff.1 hpk).1
  have hkn:=hlt k (by simp[hkm])
  have hkl:k<l.length:=by omega
  have h0:l.toArray[k]?=some l[k]:=by simp[hkl]
  simp only[List.cons_append,Zjh,Bool.and_eq_true] at hB
  obtain⟨⟨hr,hf⟩,hB'⟩:=hB
  have hr':k∈Region.ready md l.toArray listed:=by simpa using hr
  rw[pick,List.getElem?_eq_getElem hkl] at h
  cases cs with
  | nil=>simp[ZeK] at h
  | cons c cs =>
  cases ws with
  | nil=>simp[ZeK] at h
  | cons v ws =>
   obtain⟨hg,hy,hnx⟩:=h
   have hbp:bs[p]?=some c:=by
    have:=congrArg (fun x=>x[0]?) hb
    simpa using this
   have hvp:vs[p]?=some v:=by
    have:=congrArg (fun x=>x[0]?) hw
    simpa using this
   have hval:look hs vs k=v:=Zjw hs vs p k v (List.nodup_append.1 hnd).1 hpk hvp
   have hfl:(late hs bs).contains k=c:=Zfs hs bs p k c (List.nodup_append.1 hnd).1 hbl hpk hbp
   have hinf:Zft ha zs k=none:=ZgQ ha zs k fun hka=>(List.nodup_append.1 hnd).2.2 k hkm k hka rfl
   have hsz:k<listed.size:=by rw[inv.size];simpa using hkl
   show anyP _ _ _ _ P md l.toArray W Q _ ((ks++ha).length+1) _ listed a
   refine ZfQ _ _ _ _ h0 hsel (by simpa using hkn) hwait hQ (fun _=>hinf) (ks++ha).length _ listed a ⟨0,fun _ _ h=>by cases h⟩ (fun _ _=>rfl) inv (Region.free_spec h0 hf) hr' (fun hfk=>by rw[hval];exact hy (hfl.symm.trans hfk))
    ⟨fun _=>?_,fun t z he=>by rw[hinf] at he;cases he⟩
   rw[hval]
   refine⟨hg,ZhA hsel hn hnd hlt hzl hbl hvl hall hwait hQ ks cs ws (p+1) _ _ (by rw[←List.drop_drop,hd];rfl) (by rw[←List.drop_drop,hb];rfl) (by rw[←List.drop_drop,hw];rfl) (by omega) (inv.set hr' (by simpa using hkn)) (fun i hi hik=>?_) hB' hnx⟩
   by_cases hik':i=k
   ·subst hik';simp[hsz]
   ·exact getD_set_true (hdn i hi (by simp only[List.cons_append,List.mem_cons,not_or];exact⟨hik',hik⟩))
theorem Zal {id:Nat} {a:Act} {w:World} (W:World) (hs:List Nat) (bs:List Bool) (ha:List Nat) (zs:List (TypeId×Array Value)) (n:Nat) (hm:P.follows .mixedOrders=true) (hzl:zs.length=ha.length) (hB:ZuJ .any l.toArray hs bs ha n=true)
  (hQ:∀c a d v w,Q (.panic c) (Act.put a d v) w→Q (.panic c) a w) (hW:Below W.heap.size W { w with drawn:=w.drawn+1 })
  (h:ZcJ P l.toArray W (fun a'=>Zfy P W (fun gs a''=>∀ w',Below W.heap.size W w'→(∀ (k g:Nat) (t:TypeId) (z:Array Value),gs[k]?=some g→zs[k]?=some (t,z)→w'.heap[g]?=some (Obj.cells z t (0,0)))→wpList P l.toArray Q (l.drop n) a'' w') (pick l ha) zs [] a') (pick l hs) bs a) :
  (Code.region id l.toArray true).wp P Q a w:=by
 simp only[ZuJ,Bool.and_eq_true,decide_eq_true_eq] at hB
 obtain⟨⟨⟨⟨⟨⟨⟨hsel,hn⟩,hbl⟩,hnd⟩,hall⟩,hlt⟩,hw⟩,htk⟩:=hB
 have hn':n≤l.length:=by simpa using hn
 have hlt':∀i∈hs++ha,i<n:=fun i hi=>by simpa using List.all_eq_true.1 hlt i hi
 have hall':∀i,i<n→i∈hs++ha:=fun i hi=>by simpa using List.all_eq_true.1 hall i (List.mem_range.2 hi)
 have hwait:∀listed,PickInv .any l.toArray (fun i=>decide (i<n)) listed→¬Done l.toArray (fun i=>decide (i<n)) (fun i=>(late hs bs).contains i) listed→∀ t∈Region.ready .any l.toArray listed,(fun i=>decide (i<n)) t=true:=by
  intro listed inv hnd' t ht
  by_cases htn:t<n
  ·simpa using htn
  ·exfalso
   obtain⟨_,ot,hot,hdeps⟩:=mem_ready.1 ht
   have hts:t<l.toArray.size:=(Array.getElem?_eq_some_iff.1 hot).1
   have h1:=List.all_eq_true.1 hw t (List.mem_range.2 hts)
   simp only[Bool.or_eq_true,decide_eq_true_eq] at h1
   rcases h1 with (h1 | h1) | h1
   ·exact htn h1
   ·obtain⟨u,hu,hu2⟩:=List.any_eq_true.1 h1
    simp only[Bool.and_eq_true,decide_eq_true_eq] at hu2
    obtain⟨o',ho',e,he,hb,hon⟩:=Region.waitsFor_spec hu2.2
    obtain rfl:o'=ot:=Option.some.inj (ho'.symm.trans hot)
    have h3:=hdeps e he hb
    rw[hon,getD_both (inv.tail u (by simpa using hu2.1) (List.mem_range.1 hu))] at h3
    cases h3
   ·apply hnd'
    intro i hi hin hfi
    refine Zdp inv ht _ h1 i ?_
    rw[List.mem_filter]
    refine⟨hall' i (by simpa using hin),?_⟩
    have hfi':(late hs bs).contains i=false:=hfi
    rw[hfi'];rfl
 obtain⟨vs,hvl,hc⟩:=ZsU _ _ _ h
 have hpl:=(Zju l hs fun i hi=>Nat.lt_of_lt_of_le (hlt' i (by simp[hi])) hn').1
 have inv0:PickInv .any l.toArray (fun i=>decide (i<n)) (Array.replicate l.toArray.size false) :=
  ⟨by simp,fun j oj _ hl=>(by rw[getD_replicate_false] at hl;cases hl),fun t _ ht=>getD_in (by simpa using ht) (getD_replicate_false _ _)⟩
 have H:=ZhA (md:=.any) (vs:=vs) hsel hn' hnd hlt' hzl hbl (by rw[hvl,hpl]) hall' hwait hQ hs bs vs 0 _ a rfl rfl rfl (Nat.zero_le _) inv0 (fun i hi hni=>absurd (hall' i hi) hni) htk hc
 have hlen:(hs++ha).length=n:=by
  have h1:(hs++ha).Perm (List.range n):=by
   rw[List.perm_iff_count]
   intro x
   rw[List.Nodup.count hnd,List.Nodup.count List.nodup_range]
   by_cases hx:x<n
   ·simp[hx,hall' x hx]
   ·have:x∉hs++ha:=fun h=>hx (hlt' x h)
    simp[hx,this]
  simpa using h1.length_eq
 refine wp_region_any hm ?_
 have:=ZbU (Zft ha zs) (look hs vs) (fun i=>decide (i<n)) (fun i=>(late hs bs).contains i) _ _ _ _ _ hW (fun i g hg=>by cases hg) H
 rw[hlen,show n+(l.toArray.size-n)=l.toArray.size by omega] at this
 exact this
end
end
open Go
section
variable {P:Program} {ops:Array Oper} {md:Region.Mode} {S:World→Prop}
def ZfR (md:Region.Mode) (k:Nat) (o:Oper):Bool:=o.after.toList.all fun e=>!Region.binds md e||Nat.blt e.on k
def Zri (md:Region.Mode) (ops:Array Oper) (k:Nat) (ok oj:Oper):Bool:=ok.apart ops oj||oj.after.toList.any fun e=>Region.binds md e&&Nat.beq e.on k
def Zfl (md:Region.Mode) (ops:Array Oper):Nat→List Oper→Bool
 | _,[]=>true
 | k,o::l=>ZfR md k o&&l.all (Zri md ops k o)&&Zfl md ops (k+1) l
def Zvy (md:Region.Mode) (l:List Oper):Bool:=Region.noSelect l.toArray&&Zfl md l.toArray 0 l
theorem ZhN {Lq:Act→Prop} (hsel:Region.noSelect ops=true) :
  ∀ (l:List Oper) (k:Nat) (listed:Array Bool) (a:Act),(∀ j,l[j]?=ops[k+j]?)→k+l.length=ops.size→HeadInv md ops ops.size listed →
  (∀ j,j<k→listed.getD j false=true)→(∀ j,k≤j→j<ops.size→listed.getD j true=false)→Zfl md ops k l=true→Zcj P ops S Lq l a →
  anyG P md ops S ops.size (fun listed' a'=>Region.ready md ops listed'=[]∧Lq a') l.length listed a
 | [],k,listed,a,_,hk,_,hdn,_,_,h=>by
  refine⟨?_,h⟩
  rw[List.eq_nil_iff_forall_not_mem]
  intro i hi
  obtain⟨h1,o,ho,_⟩:=mem_ready.1 hi
  have:=hdn i (by have:=(Array.getElem?_eq_some_iff.1 ho).1;simp at hk;omega)
  rw[getD_both h1] at this;cases this
 | o::l,k,listed,a,hl,hk,inv,hdn,hun,hB,h=>by
  have h0:ops[k]?=some o:=by simpa using (hl 0).symm
  simp only[Zfl,Bool.and_eq_true] at hB
  obtain⟨⟨he,hp⟩,hB'⟩:=hB
  have hkn:k<ops.size:=(Array.getElem?_eq_some_iff.1 h0).1
  have hr':k∈Region.ready md ops listed:=by
   refine mem_ready.2 ⟨hun k (Nat.le_refl _) hkn,o,h0,fun e hm hb=>hdn _ ?_⟩
   have:=List.all_eq_true.1 he e (by simpa using hm)
   simpa [hb] using this
  obtain⟨v,hg,hK⟩:=h
  refine Zee h0 (Region.noSelect_spec hsel) hkn (fun listed' inv' _=>ZeT inv') (fun listed' a' hL j hj=>by rw[hL.1] at hj;cases hj) l.length listed a inv (fun j oj hj hne hju hno=>?_) hr' hg
   (ZhN hsel l (k+1) _ _ (fun j=>by have:=hl (j+1);simpa [Nat.add_assoc,Nat.add_comm 1 j] using this) (by simp only[List.length_cons] at hk;omega) (inv.set hr' hkn) (fun j hj=>?_) (fun j hj hjs=>?_) hB' hK)
  ·have hjk:k<j:=by
    rcases Nat.lt_or_ge j k with h | h
    ·have:=hdn j h;rw[getD_both hju] at this;cases this
    ·omega
   have hmem:oj∈l:=by
    have:=hl (j-k)
    rw[show k+(j-k)=j by omega,hj,show j-k=(j-k-1)+1 by omega,List.getElem?_cons_succ] at this
    exact List.mem_of_getElem? this
   have hpo:=List.all_eq_true.1 hp oj hmem
   unfold Zri at hpo
   rcases Bool.or_eq_true_iff.1 hpo with h | h
   ·exact h
   ·obtain⟨e,hem,heb⟩:=List.any_eq_true.1 h
    rw[Bool.and_eq_true] at heb
    exact absurd (Nat.eq_of_beq_eq_true heb.2) (hno e (by simpa using hem) heb.1)
  ·by_cases hjk:j=k
   ·subst hjk
    have hlt:j<listed.size:=by rw[inv.size];exact hkn
    simp[hlt]
   ·exact getD_set_true (hdn j (by omega))
  ·rw[getD_set_ne true (by omega)];exact hun j (by omega) hjs
theorem ZaC {id:Nat} {Q:Exit→Act→World→Prop} {a:Act} {w:World} {l:List Oper} (S:World→Prop) (hm:P.follows .mixedOrders=true) (hB:Zvy .any l=true)
  (hS:S { w with drawn:=w.drawn+1 }) (h:Zcj P l.toArray S (fun a'=>∀ w',S w'→Q .normal a' w') l a):(Code.region id l.toArray true).wp P Q a w:=by
 simp only[Zvy,Bool.and_eq_true] at hB
 have inv0:HeadInv .any l.toArray l.toArray.size (Array.replicate l.toArray.size false) :=
  ⟨by simp,fun j oj _ hl=>(by rw[getD_replicate_false] at hl;cases hl),fun t _ ht=>getD_in (by simpa using ht) (getD_replicate_false _ _)⟩
 have H:=ZhN (md:=.any) hB.1 l 0 _ a (fun j=>by simp) (by simp) inv0 (fun j hj=>by omega) (fun j _ hj=>getD_in (by simpa using hj) (getD_replicate_false _ _)) hB.2 h
 refine wp_region_any hm ?_
 have:=ZbV (Q:=Q) (g:=0) (fun listed a' w' hL hS'=>⟨hL.1,hL.2 w' hS'⟩) _ _ _ _ hS H
 simpa using this
end
end Go.Hold
namespace Go
open Go.RowKit
def World.rowOf (w:World) (n:Nat):Array Value:=match w.heap[n]? with | some (.cells c _ (0,0))=>c | _=>#[]
def World.isRow (w:World) (n:Nat):Bool:=match w.heap[n]? with | some (.cells _ _ (0,0))=>true | _=>false
theorem World.isRow_spec {w:World} {n:Nat} (h:w.isRow n=true):∃t,w.heap[n]?=some (.cells (w.rowOf n) t (0,0)):=by
 unfold World.isRow at h;unfold World.rowOf
 split at h
 ·rename_i c t he;exact⟨t,by rw[he]⟩
 ·cases h
section
variable {P:Program} (w:World)
@[go_sem] theorem World.rowOf_alloc_at (c:Array Value) (t:TypeId) (n:Nat) (h:n=w.heap.size):(w.alloc (.cells c t)).rowOf n=c:=by
 subst h;unfold World.rowOf;rw[Zaq];rfl
@[go_sem] theorem World.isRow_alloc_at (c:Array Value) (t:TypeId) (n:Nat) (h:n=w.heap.size):(w.alloc (.cells c t)).isRow n=true:=by
 subst h;unfold World.isRow;rw[Zaq];rfl
@[go_sem] theorem World.rowOf_alloc_past (o:Obj) (n:Nat) (h:n<w.heap.size):(w.alloc o).rowOf n=w.rowOf n:=by unfold World.rowOf;rw[ZfT _ _ h]
@[go_sem] theorem World.isRow_alloc_past (o:Obj) (n:Nat) (h:n<w.heap.size):(w.alloc o).isRow n=w.isRow n:=by unfold World.isRow;rw[ZfT _ _ h]
@[go_sem] theorem World.rowOf_plus (os:Array Obj) (d n:Nat) (h:n<w.heap.size):(w.plus os d).rowOf n=w.rowOf n:=by unfold World.rowOf;rw[World.plus_block _ _ _ _ h]
@[go_sem] theorem World.isRow_plus (os:Array Obj) (d n:Nat) (h:n<w.heap.size):(w.plus os d).isRow n=w.isRow n:=by unfold World.isRow;rw[World.plus_block _ _ _ _ h]
@[go_sem] theorem World.rowOf_drew (n:Nat):w.drew.rowOf n=w.rowOf n:=rfl
@[go_sem] theorem World.isRow_drew (n:Nat):w.drew.isRow n=w.isRow n:=rfl
def Zam (t:TypeId) (v:Value):Sem Value:=Instr.loadAt t v
theorem ZaF {t:TypeId} {d:TypeDesc} {k:Nat} (hu:P.underlying t=some d) (hd:(match d with | .struct _ | .array _ _=>true | _=>false)=true) (hi:(P.info? t).map (·.size)=some k)
  (n:Nat) (h1:w.isRow n=true) (h2:(w.rowOf n).size=k):(Zam t (.pointer (some ⟨n,0,none⟩))).run P w=.ok (.agg (w.rowOf n)) w:=by
 obtain⟨t',ht⟩:=World.isRow_spec h1
 subst h2
 unfold Zam
 simp only[Instr.loadAt,Instr.sureAddr,Sem.run_bind,Sem.run_pure,Result.andThen_ok,run_loadVar_row w n t' t (w.rowOf n) (0,0) d ht hu hd hi]
theorem ZaW {fn:Func} {p:Tmp} {t:TypeId} {d:TypeDesc} {cs:Array Value} (h:fn.results=#[.cell p t]) (hu:P.underlying t=some d) (hd:(match d with | .struct _ | .array _ _=>true | _=>false)=true) (hi:(P.info? t).map (·.size)=some cs.size)
  (tmps:Array Value) (n:Nat) (hp:tmps.getD p undef=.pointer (some ⟨n,0,none⟩)) (h1:w.isRow n=true) (h2:w.rowOf n=cs):(results fn tmps).run P w=.ok (.agg cs) w:=by
 obtain⟨t',ht⟩:=World.isRow_spec h1
 rw[h2] at ht
 exact results_cell_row h tmps w n t' cs (0,0) d hp ht hu hd hi
def Zbg (cs:Array Value):Bool:=cs.all (·.oneCell')
@[go_sem] theorem Zqz (n:Nat) (cs:Array Value) (h1:w.isRow n=true) (h2:(w.rowOf n).size=cs.size) (h3:Zbg cs=true):(storeCells ⟨n,0,none⟩ cs.toList 0).run P w=.ok () (w.setRow n cs):=by
 obtain⟨t,ht⟩:=World.isRow_spec h1
 have:=run_storeCells_from (P:=P) n t cs.toList 0 (w.rowOf n) w ht (by simp;omega) (fun v hv=>(Array.all_eq_true_iff_forall_mem.1 h3) v (by simpa using hv))
 simpa using this
@[go_sem] theorem World.setRow_alloc_at (c cs:Array Value) (t:TypeId) (n:Nat) (h:n=w.heap.size):(w.alloc (.cells c t)).setRow n cs=w.alloc (.cells cs t):=by
 subst h
 simp only[World.setRow,World.alloc]
 congr 1
 apply Array.ext_getElem?
 intro i
 rw[Array.getElem?_modify]
 by_cases h:w.heap.size=i
 ·subst h;simp
 ·have h':¬i=w.heap.size:=fun e=>h e.symm
  simp[h,h',Array.getElem?_push]
@[go_sem] theorem World.setRow_alloc_past (o:Obj) (cs:Array Value) (n:Nat) (h:n<w.heap.size):(w.alloc o).setRow n cs=(w.setRow n cs).alloc o:=by
 simp only[World.setRow,World.alloc]
 congr 1
 apply Array.ext_getElem?
 intro i
 rw[Array.getElem?_modify,Array.getElem?_push,Array.getElem?_push,Array.getElem?_modify,Array.size_modify]
 by_cases hi:i=w.heap.size
 ·subst hi;simp[Nat.ne_of_lt h]
 ·simp[hi]
@[go_sem] theorem World.setRow_plus (os:Array Obj) (d:Nat) (cs:Array Value) (n:Nat) (h:n<w.heap.size):(w.plus os d).setRow n cs=(w.setRow n cs).plus os d:=by
 simp only[World.setRow,World.plus]
 congr 1
 apply Array.ext_getElem?
 intro k
 simp only[Array.getElem?_modify]
 by_cases hk:k<w.heap.size
 ·rw[Array.getElem?_append_left hk,Array.getElem?_append_left (by simpa using hk),Array.getElem?_modify]
 ·have hk':w.heap.size≤k:=Nat.le_of_not_lt hk
  rw[if_neg (by omega),Array.getElem?_append_right hk',Array.getElem?_append_right (by simpa using hk')]
  simp
@[go_sem] theorem World.setRow_drew (cs:Array Value) (n:Nat):w.drew.setRow n cs=(w.setRow n cs).drew:=rfl
end
def RowAt (w:World) (n:Nat) (c:Array Value):Prop:=w.isRow n=true∧w.rowOf n=c∧n<w.heap.size
theorem RowAt.block {w:World} {n:Nat} {c:Array Value} (h:RowAt w n c):∃t,w.heap[n]?=some (.cells c t (0,0)):=by
 obtain⟨t,ht⟩:=World.isRow_spec h.1
 exact⟨t,by rw[←h.2.1];exact ht⟩
theorem RowAt.of {w:World} {n:Nat} {c:Array Value} {t:TypeId} (h:w.heap[n]?=some (.cells c t (0,0))):RowAt w n c:=by
 refine⟨?_,?_,(Array.getElem?_eq_some_iff.1 h).1⟩
 ·unfold World.isRow;rw[h];rfl
 ·unfold World.rowOf;rw[h];rfl
theorem RowAt.grow {w w':World} {n:Nat} {c:Array Value} (h:RowAt w n c) (hb:Below w.heap.size w w'):RowAt w' n c:=by
 obtain⟨t,ht⟩:=h.block
 exact RowAt.of (t:=t) (by rw[hb.block n h.2.2];exact ht)
theorem RowAt.set {w:World} {n:Nat} {c:Array Value} (h:RowAt w n c) (c':Array Value):RowAt (w.setRow n c') n c':=by
 obtain⟨t,ht⟩:=h.block
 exact RowAt.of (setRow_heap w n c c' t _ ht)
theorem RowAt.other {w:World} {n:Nat} {c:Array Value} (h:RowAt w n c) {m:Nat} (hm:n≠m) (c':Array Value):RowAt (w.setRow m c') n c:=by
 obtain⟨t,ht⟩:=h.block
 exact RowAt.of (t:=t) (by rw[setRow_other w m n c' hm];exact ht)
@[go_sem] theorem ZqF (a b c0:Nat) (h:a<b):(a<b+c0)=True:=by simp only[eq_iff_iff,iff_true];omega
@[go_sem] theorem Zrk (a b c0 c1:Nat) (h:a<b):(a<b+c0+c1)=True:=by simp only[eq_iff_iff,iff_true];omega
@[go_sem] theorem Zrb (a b c0 c1 c2:Nat) (h:a<b):(a<b+c0+c1+c2)=True:=by simp only[eq_iff_iff,iff_true];omega
@[go_sem] theorem Zqw (a b c0 c1 c2 c3:Nat) (h:a<b):(a<b+c0+c1+c2+c3)=True:=by simp only[eq_iff_iff,iff_true];omega
@[go_sem] theorem Zqr (a b c0 c1 c2 c3 c4:Nat) (h:a<b):(a<b+c0+c1+c2+c3+c4)=True:=by simp only[eq_iff_iff,iff_true];omega
@[go_sem] theorem Zqp (a b c0 c1 c2 c3 c4 c5:Nat) (h:a<b):(a<b+c0+c1+c2+c3+c4+c5)=True:=by simp only[eq_iff_iff,iff_true];omega
@[go_sem] theorem Zrc (a b c0 c1 c2 c3 c4 c5 c6:Nat) (h:a<b):(a<b+c0+c1+c2+c3+c4+c5+c6)=True:=by simp only[eq_iff_iff,iff_true];omega
@[go_sem] theorem Zqv (a b c0 c1 c2 c3 c4 c5 c6 c7:Nat) (h:a<b):(a<b+c0+c1+c2+c3+c4+c5+c6+c7)=True:=by simp only[eq_iff_iff,iff_true];omega
@[go_sem] theorem ZqM (a b c0 c1 c2 c3 c4 c5 c6 c7 c8:Nat) (h:a<b):(a<b+c0+c1+c2+c3+c4+c5+c6+c7+c8)=True:=by simp only[eq_iff_iff,iff_true];omega
@[go_sem] theorem Zot (a b c0 c1 c2 c3 c4 c5 c6 c7 c8 c9:Nat) (h:a<b):(a<b+c0+c1+c2+c3+c4+c5+c6+c7+c8+c9)=True:=by simp only[eq_iff_iff,iff_true];omega
@[go_sem] theorem ZoT (a b c0 c1 c2 c3 c4 c5 c6 c7 c8 c9 c10:Nat) (h:a<b):(a<b+c0+c1+c2+c3+c4+c5+c6+c7+c8+c9+c10)=True:=by simp only[eq_iff_iff,iff_true];omega
@[go_sem] theorem ZoC (a b c0 c1 c2 c3 c4 c5 c6 c7 c8 c9 c10 c11:Nat) (h:a<b):(a<b+c0+c1+c2+c3+c4+c5+c6+c7+c8+c9+c10+c11)=True:=by simp only[eq_iff_iff,iff_true];omega
@[go_sem] theorem ZoN (a b c0 c1 c2 c3 c4 c5 c6 c7 c8 c9 c10 c11 c12:Nat) (h:a<b):(a<b+c0+c1+c2+c3+c4+c5+c6+c7+c8+c9+c10+c11+c12)=True:=by simp only[eq_iff_iff,iff_true];omega
@[go_sem] theorem Zpa (a b c0 c1 c2 c3 c4 c5 c6 c7 c8 c9 c10 c11 c12 c13:Nat) (h:a<b):(a<b+c0+c1+c2+c3+c4+c5+c6+c7+c8+c9+c10+c11+c12+c13)=True:=by simp only[eq_iff_iff,iff_true];omega
@[go_sem] theorem ZwM (a:Nat):(a=a+1)=False:=by simp only[eq_iff_iff,iff_false];omega
@[go_sem] theorem Zws (a:Nat):(a=a+1+1)=False:=by simp only[eq_iff_iff,iff_false];omega
@[go_sem] theorem Zw9 (a:Nat):(a=a+1+1+1)=False:=by simp only[eq_iff_iff,iff_false];omega
@[go_sem] theorem Zxf (a:Nat):(a=a+1+1+1+1)=False:=by simp only[eq_iff_iff,iff_false];omega
@[go_sem] theorem ZwV (a:Nat):(a=a+1+1+1+1+1)=False:=by simp only[eq_iff_iff,iff_false];omega
@[go_sem] theorem Zwu (a:Nat):(a=a+1+1+1+1+1+1)=False:=by simp only[eq_iff_iff,iff_false];omega
@[go_sem] theorem Zw4 (a:Nat):(a=a+1+1+1+1+1+1+1)=False:=by simp only[eq_iff_iff,iff_false];omega
@[go_sem] theorem Zxb (a:Nat):(a=a+1+1+1+1+1+1+1+1)=False:=by simp only[eq_iff_iff,iff_false];omega
@[go_sem] theorem Zw0 (a:Nat):(a=a+1+1+1+1+1+1+1+1+1)=False:=by simp only[eq_iff_iff,iff_false];omega
@[go_sem] theorem ZvY (a:Nat):(a=a+1+1+1+1+1+1+1+1+1+1)=False:=by simp only[eq_iff_iff,iff_false];omega
@[go_sem] theorem Zwd (a:Nat):(a=a+1+1+1+1+1+1+1+1+1+1+1)=False:=by simp only[eq_iff_iff,iff_false];omega
@[go_sem] theorem ZvW (a:Nat):(a=a+1+1+1+1+1+1+1+1+1+1+1+1)=False:=by simp only[eq_iff_iff,iff_false];omega
@[go_sem] theorem Zwp (a:Nat):(a=a+1+1+1+1+1+1+1+1+1+1+1+1+1)=False:=by simp only[eq_iff_iff,iff_false];omega
@[go_sem] theorem Zv4 (a:Nat):(a=a+1+1+1+1+1+1+1+1+1+1+1+1+1+1)=False:=by simp only[eq_iff_iff,iff_false];omega
@[go_sem] theorem World.isRow_setRow (w:World) (n m:Nat) (c:Array Value):(w.setRow n c).isRow m=w.isRow m:=by
 unfold World.isRow World.setRow
 simp only[Array.getElem?_modify]
 by_cases h:n=m
 ·subst h
  rw[if_pos rfl]
  cases hx:w.heap[n]? with
  | none=>simp
  | some o =>
   cases o with
   | cells c' e fr=>obtain⟨a,b⟩:=fr;rcases a with _ | a<;>rcases b with _ | b<;>rfl
   | _=>rfl
 ·rw[if_neg h]
theorem World.rowOf_setRow_same (w:World) (n:Nat) (c:Array Value) (h:w.isRow n=true):(w.setRow n c).rowOf n=c:=by
 obtain⟨t,ht⟩:=World.isRow_spec h
 unfold World.rowOf
 rw[setRow_heap w n _ c t _ ht];rfl
theorem World.rowOf_setRow_other (w:World) (n m:Nat) (c:Array Value) (h:¬m=n):(w.setRow n c).rowOf m=w.rowOf m:=by
 unfold World.rowOf
 rw[setRow_other w n m c h]
@[go_sem] theorem World.rowOf_setRow (w:World) (n m:Nat) (c:Array Value) (h:w.isRow n=true):(w.setRow n c).rowOf m=if m=n then c else w.rowOf m:=by
 by_cases e:m=n
 ·subst e;rw[if_pos rfl];exact World.rowOf_setRow_same w m c h
 ·rw[if_neg e];exact World.rowOf_setRow_other w n m c e
@[go_sem] theorem World.size_setRow' (w:World) (n:Nat) (c:Array Value):(w.setRow n c).heap.size=w.heap.size:=size_setRow w n c
theorem RowAt.cellAt {w:World} {n:Nat} {c:Array Value} (h:RowAt w n c) (i:Nat) {v:Value} (hv:c[i]?=some v):w.cell? ⟨n,i,none⟩=some v:=by
 obtain⟨t,ht⟩:=h.block
 rw[cell_of_row w n i c t _ ht,hv]
end Go
namespace Go.Proofs.YtddmjddlbhdcpaaGreatDoor
open Go.RowKit
theorem Zib {P:Program} {fn:Func} {p p':Tmp} {t t':TypeId} {d d':TypeDesc} {cs cs':Array Value} (w:World) (h:fn.results=#[.cell p t,.cell p' t'])
  (hu:P.underlying t=some d) (hd:(match d with | .struct _ | .array _ _=>true | _=>false)=true) (hi:(P.info? t).map (·.size)=some cs.size)
  (hu':P.underlying t'=some d') (hd':(match d' with | .struct _ | .array _ _=>true | _=>false)=true) (hi':(P.info? t').map (·.size)=some cs'.size)
  (tmps:Array Value) (n n':Nat) (hp:tmps.getD p undef=.pointer (some ⟨n,0,none⟩)) (h1:w.isRow n=true) (h2:w.rowOf n=cs)
  (hp':tmps.getD p' undef=.pointer (some ⟨n',0,none⟩)) (h1':w.isRow n'=true) (h2':w.rowOf n'=cs'):(results fn tmps).run P w=.ok (.tuple #[.agg cs,.agg cs']) w:=by
 obtain⟨s,hs⟩:=World.isRow_spec h1
 obtain⟨s',hs'⟩:=World.isRow_spec h1'
 rw[h2] at hs;rw[h2'] at hs'
 have e:tmps[p]?.getD undef=.pointer (some ⟨n,0,none⟩):=by simpa using hp
 have e':tmps[p']?.getD undef=.pointer (some ⟨n',0,none⟩):=by simpa using hp'
 simp[results,h,e,e',asAddr,run_loadVar_row w n s t cs (0,0) d hs hu hd hi,run_loadVar_row w n' s' t' cs' (0,0) d' hs' hu' hd' hi']
theorem ZbH {P:Program} {fn:Func} {p p':Tmp} {t:TypeId} {d:TypeDesc} {cs:Array Value} {v:Value} (w:World) (h:fn.results=#[.cell p t,.tmp p'])
  (hu:P.underlying t=some d) (hd:(match d with | .struct _ | .array _ _=>true | _=>false)=true) (hi:(P.info? t).map (·.size)=some cs.size)
  (tmps:Array Value) (n:Nat) (hp:tmps.getD p undef=.pointer (some ⟨n,0,none⟩)) (h1:w.isRow n=true) (h2:w.rowOf n=cs)
  (hp':tmps.getD p' undef=v):(results fn tmps).run P w=.ok (.tuple #[.agg cs,v]) w:=by
 obtain⟨s,hs⟩:=World.isRow_spec h1
 rw[h2] at hs
 have e:tmps[p]?.getD undef=.pointer (some ⟨n,0,none⟩):=by simpa using hp
 have e':tmps[p']?.getD undef=v:=by simpa using hp'
 simp[results,h,e,e',asAddr,run_loadVar_row w n s t cs (0,0) d hs hu hd hi]
end Go.Proofs.YtddmjddlbhdcpaaGreatDoor
namespace Fp
def P : Nat := 57896044618658097711785492504343953926634992332820282019728792003956564819949
def E : Nat := 57896044618658097711785492504343953926634992332820282019728792003956564819947
def pw (a k : Nat) : Nat := a ^ (E / 2 ^ k) % P
theorem Zqq : ∀ j, j < 255 → E / 2 ^ j % 2 = if j = 4 ∨ j = 2 then 0 else 1 := by decide +kernel
theorem Zu7 (j : Nat) : E / 2 ^ j = 2 * (E / 2 ^ (j + 1)) + E / 2 ^ j % 2 := by
  have h : E / 2 ^ (j + 1) = E / 2 ^ j / 2 := by rw [Nat.pow_succ, Nat.div_div_eq_div_mul]
  omega
theorem pw_top (a : Nat) : pw a 255 = 1 := by
  have h : E / 2 ^ 255 = 0 := by decide +kernel
  unfold pw; rw [h, Nat.pow_zero]; decide +kernel
theorem pw_bot (a : Nat) : pw a 0 = a ^ E % P := by unfold pw; rw [Nat.pow_zero, Nat.div_one]
theorem pw_sq (a j : Nat) (hj : j < 255) (h : j = 4 ∨ j = 2) : pw a (j + 1) * pw a (j + 1) % P = pw a j := by
  unfold pw
  rw [Zu7 j, Zqq j hj, if_pos h]
  generalize E / 2 ^ (j + 1) = e
  rw [← Nat.mul_mod, Nat.add_zero, Nat.two_mul, Nat.pow_add]
theorem pw_sqm (a j : Nat) (hj : j < 255) (h : ¬ (j = 4 ∨ j = 2)) : pw a (j + 1) * pw a (j + 1) % P * a % P = pw a j := by
  unfold pw
  rw [Zu7 j, Zqq j hj, if_neg h]
  generalize E / 2 ^ (j + 1) = e
  rw [← Nat.mul_mod, Nat.mod_mul_mod, Nat.pow_succ, Nat.two_mul, Nat.pow_add]
theorem P_pos : 0 < P := by decide +kernel
theorem pow_mod (a k : Nat) : (a % P) ^ k % P = a ^ k % P := (Nat.pow_mod a k P).symm
theorem Zqb : 0 ^ E % P = 0 := by
  have : (0 : Nat) ^ E = 0 := Nat.zero_pow (by decide +kernel)
  rw [this]; decide +kernel
end Fp
namespace Go.Proofs.YtddmjddlbhdcpaaGreatDoor.Ed
variable {n:Nat} [NeZero n]
def ed (a d u v:Fin n):Fin n:=a*u*u+v*v-1-d*u*u*v*v
section
variable {n:Nat} [NeZero n]
structure Crv (n:Nat) [NeZero n] where
 a:Fin n
 d:Fin n
 s:Fin n
 ha:a=s*s
 hs:s≠0
 hd:∀t,d≠t*t
def Crv.dl (C:Crv n) (p q:Fin n×Fin n):Fin n:=C.d*(p.1*q.1*p.2*q.2)
end
section
variable {n:Nat} [NeZero n]
def tw (k:Fin n) (p:Fin n×Fin n):Fin n×Fin n :=
 (((p.1+p.2)*(p.1+p.2))*((p.1-p.2)*(p.1-p.2)),
  ((p.1+p.2)*(p.1+p.2)-(p.1-p.2)*(p.1-p.2))*((p.1+p.2)*(p.1+p.2)+k*((p.1+p.2)*(p.1+p.2)-(p.1-p.2)*(p.1-p.2))))
def sm (x1:Fin n) (p q:Fin n×Fin n):Fin n×Fin n :=
 (((q.1-q.2)*(p.1+p.2)+(q.1+q.2)*(p.1-p.2))*((q.1-q.2)*(p.1+p.2)+(q.1+q.2)*(p.1-p.2)),
  x1*(((q.1-q.2)*(p.1+p.2)-(q.1+q.2)*(p.1-p.2))*((q.1-q.2)*(p.1+p.2)-(q.1+q.2)*(p.1-p.2))))
theorem l_x {e c2 c3 v2 v3:Fin n} (he:e*e=1):(e*c2*(1+v2))*(e*c3*(1+v3))-(c2*(1-v2))*(c3*(1-v3))=2*(c2*c3)*(v2+v3):=by
 rw[show (e*c2*(1+v2))*(e*c3*(1+v3))=(e*e)*((c2*c3)*((1+v2)*(1+v3))) by clear he;grind -splitMatch -splitIte -splitIndPred -funext -lia -linarith (splits:=0) (ematch:=0),he];clear he;grind -splitMatch -splitIte -splitIndPred -funext -lia -linarith (splits:=0) (ematch:=0)
end
section
variable {n:Nat} [NeZero n]
def stp (k x1:Fin n) (b:Bool) (s:(Fin n×Fin n)×(Fin n×Fin n)):(Fin n×Fin n)×(Fin n×Fin n) :=
 if b then (sm x1 s.2 s.1,tw k s.2) else (tw k s.1,sm x1 s.1 s.2)
def lad (k x1:Fin n) (m:Nat):Nat→(Fin n×Fin n)×(Fin n×Fin n)
 | 0=>((1,0),(x1,1))
 | j+1=>stp k x1 (m/2^(254-j)%2==1) (lad k x1 m j)
theorem Zkq (k:Fin n) (m:Nat):∀j,0<j→(lad k 0 m j).1.2=0∧(lad k 0 m j).2.2=0
 | 0,h=>by omega
 | 1,_=>by
  show (stp k 0 (m/2^(254-0)%2==1) ((1,0),(0,1))).1.2=0∧(stp k 0 (m/2^(254-0)%2==1) ((1,0),(0,1))).2.2=0
  generalize (m/2^(254-0)%2==1)=b
  cases b<;>simp only[stp,tw,sm,if_true,if_false,Bool.false_eq_true]<;>constructor<;>grind -splitMatch -splitIte -splitIndPred -funext -lia -linarith (splits:=0) (ematch:=0)
 | j+2,_=>by
  obtain⟨h1,h2⟩:=Zkq k m (j+1) (by omega)
  show (stp k 0 (m/2^(254-(j+1))%2==1) (lad k 0 m (j+1))).1.2=0∧(stp k 0 (m/2^(254-(j+1))%2==1) (lad k 0 m (j+1))).2.2=0
  generalize (m/2^(254-(j+1))%2==1)=b
  generalize lad k 0 m (j+1)=s at *
  obtain⟨⟨a,b'⟩,⟨c,d⟩⟩:=s
  simp only at h1 h2
  subst h1;subst h2
  cases b<;>simp only[stp,tw,sm,if_true,if_false,Bool.false_eq_true]<;>constructor<;>grind -splitMatch -splitIte -splitIndPred -funext -lia -linarith (splits:=0) (ematch:=0)
end
open Fp
instance neP:NeZero P:=⟨by decide +kernel⟩
def q (x:Nat):Fin P:=Fin.ofNat P x
theorem ZeX (x:Nat):(q x).val=x%P:=rfl
theorem q_eq {x y:Nat}:q x=q y↔x%P=y%P:=by
 constructor
 ·intro h;have:=congrArg Fin.val h;simpa [ZeX] using this
 ·intro h;exact Fin.ext (by rw[ZeX,ZeX,h])
theorem ZwI (x y:Nat):q ((x+y)%P)=q x+q y:=Fin.ext (by rw[Fin.val_add,ZeX,ZeX,ZeX,Nat.mod_mod,←Nat.add_mod])
theorem ZwY (x y:Nat):q (x*y%P)=q x*q y:=Fin.ext (by rw[Fin.val_mul,ZeX,ZeX,ZeX,Nat.mod_mod,←Nat.mul_mod])
theorem ZwX (x y:Nat):q ((x%P+(P-y%P))%P)=q x-q y:=Fin.ext (by
 rw[Fin.val_sub,ZeX,ZeX,ZeX,Nat.mod_mod,Nat.add_comm])
theorem q_0:q 0=0:=rfl
theorem Zud {x:Nat}:q x=0↔x%P=0:=by rw[←q_0,q_eq,Nat.zero_mod]
def H:Nat:=28948022309329048855892746252171976963317496166410141009864396001978282409974
def G:Nat:=14474011154664524427946373126085988481658748083205070504932198000989141204987
def K:Nat:=7237005577332262213973186563042994240829374041602535252466099000494570602494
def A:Fin P:=q 486662
def kk:Fin P:=q 121665
end Go.Proofs.YtddmjddlbhdcpaaGreatDoor.Ed
