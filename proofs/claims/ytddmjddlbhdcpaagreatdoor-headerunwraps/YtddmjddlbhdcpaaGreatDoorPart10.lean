/-
  Part 10 of the texts behind the theorem.
-/
import Derived.Test.YtddmjddlbhdcpaaGreatDoorPart9
import Derived.Test.YtddmjddlbhdcpaaGreatDoorPart7
import Derived.Test.YtddmjddlbhdcpaaGreatDoorPart8
import Derived.Laws.BitsAllLaws
import Derived.Laws.Cover3
namespace Go.Hold
open Go Go.RowKit
section
variable {P:Program} {md:Region.Mode} {W:World} {Q:Exit→Act→World→Prop} {ops:Array Oper} {n:Nat} {R:Nat→Value→World→Prop} {G:World→World→Prop} {ls:List Nat}
def Zg5 (P:Program) (ops:Array Oper) (W:World) (n:Nat) (R:Nat→Value→World→Prop) (a:Act) (vals:Nat→Value) (i:Nat) (o:Oper):Prop :=
 ∀ w,Below W.heap.size W w→(∀ j∈Zbd ops n o,R j (vals j) w) →
  ∃ v,R i v w∧Region.wanted o (yielded ops (ZaJ ops vals (Zbd ops n o) a).tmps)=true∧∀ w',(execOp (ZaJ ops vals (Zbd ops n o) a).eval o).run P w'=.ok (.value v) w'
def ZpE (ops:Array Oper) (W:World) (n:Nat) (R:Nat→Value→World→Prop) (a:Act) (vals:Nat→Value) (i:Nat) (o:Oper):Prop :=
 ∀ w,Below W.heap.size W w→(∀ j∈Zbd ops n o,R j (vals j) w)→Region.wanted o (yielded ops (ZaJ ops vals (Zbd ops n o) a).tmps)=false∧R i undef w
def Zht (ls:List Nat) (P:Program) (ops:Array Oper) (W:World) (n:Nat) (G:World→World→Prop) (R:Nat→Value→World→Prop) (a:Act) (vals:Nat→Value) (i:Nat) (o:Oper):Prop :=
 if i∈ls then Zg5 P ops W n R a vals i o else (Zcg P ops W n G R a vals i o∨ZpE ops W n R a vals i o)
theorem Zeu {a:Act} {vals:Nat→Value} {i:Nat} {o:Oper} (h:ls.contains i=false) (s:Zcg P ops W n G R a vals i o):Zht ls P ops W n G R a vals i o:=by
 unfold Zht
 rw[if_neg (fun hm=>by rw[List.contains_iff_mem.2 hm] at h;cases h)]
 exact .inl s
theorem ZtW {a:Act} {vals:Nat→Value} {i:Nat} {o:Oper} (h:ls.contains i=true) (s:Zg5 P ops W n R a vals i o):Zht ls P ops W n G R a vals i o:=by
 unfold Zht
 rw[if_pos (List.contains_iff_mem.1 h)]
 exact s
def Zii (md:Region.Mode) (ops:Array Oper) (n:Nat):Nat→Oper→Nat→Bool
 | 0,o,j=>Zb1 md o j
 | f+1,o,j=>Zb1 md o j||(List.range n).any fun m=>Zb1 md o m&&match ops[m]? with
  | some om=>Zii md ops n f om j
  | none=>false
theorem ZjZ {D:List Nat} (hdc:∀i∈D,∀ o,ops[i]?=some o→∀ j,j<n→Zb1 md o j=true→j∈D):∀(f:Nat) (o:Oper) (_:∀j,j<n→Zb1 md o j=true→j∈D) (j:Nat),j<n→Zii md ops n f o j=true→j∈D
 | 0,_,h,j,hj,hr=>h j hj hr
 | f+1,o,h,j,hj,hr=>by
  rw[Zii] at hr
  rcases Bool.or_eq_true_iff.1 hr with h1 | h1
  ·exact h j hj h1
  ·obtain⟨m,hm,h2⟩:=List.any_eq_true.1 h1
   rw[Bool.and_eq_true] at h2
   obtain⟨h3,h4⟩:=h2
   have hmD:=h m (List.mem_range.1 hm) h3
   cases ho:ops[m]? with
   | none=>rw[ho] at h4;cases h4
   | some om =>
    rw[ho] at h4
    exact ZjZ hdc f om (hdc m hmD om ho) j hj h4
def Zqn (md:Region.Mode) (ops:Array Oper) (n:Nat) (ls ts:List Nat):Bool :=
 Region.noSelect ops&&decide (n+ts.length=ops.size)&&(ts.all fun i=>decide (i<ops.size)) &&
 ((List.range n).all fun i=>match ops[i]? with
  | some o=>ZfV md i o&&((List.range n).all fun j=>!ZcU ops o j||Zb1 md o j)
  | none=>false) &&
 ((List.range n).all fun i=>(List.range n).all fun j=>Nat.beq i j||ZjG (ZcC ops i) (ZcC ops j)) &&
 ((List.range ops.size).all fun t=>Nat.blt t n||match ops[t]? with
  | some o=>(List.range n).all fun j=>ls.contains j||Zii md ops n 16 o j
  | none=>false) &&
 (ls.all fun i=>match ops[i]? with
  | some oi=>(List.range ops.size).all fun j=>Nat.beq j i||(Nat.blt j n&&!ls.contains j)||match ops[j]? with
   | some oj=>Zb1 md oj i||oi.apart ops oj
   | none=>true
  | none=>false) &&
 seqT md ops ts (ZfO n ops.size)
theorem Zic {l:List Oper} {ts:List Nat} {a:Act} (hop:ops=l.toArray) (hsel:Region.noSelect ops=true) (hsz:n+ts.length=ops.size) (hts:∀i∈ts,i<l.length)
  (hedge:∀i o,i<n→ops[i]?=some o→ZfV md i o=true∧∀ j,j<n→ZcU ops o j=true→Zb1 md o j=true)
  (hdst:∀i j,i<n→j<n→i≠j→∀ d,ZcC ops i=some d→ZcC ops j≠some d)
  (hlate:∀t o,n≤t→ops[t]?=some o→∀ j,j<n→j∉ls→Zii md ops n 16 o j=true)
  (hfree:∀i oi,i∈ls→ops[i]?=some oi→∀ j oj,ops[j]?=some oj→j≠i→(n≤j∨j∈ls)→Zb1 md oj i=true∨oi.apart ops oj=true)
  (hseq:seqT md ops ts (ZfO n ops.size)=true)
  (hQ:∀c a d v w,Q (.panic c) (Act.put a d v) w→Q (.panic c) a w) (hG:∀w,G w w)
  (hGB:∀w w',Below W.heap.size W w→G w w'→Below W.heap.size W w') (hmono:∀i v w w',R i v w→G w w'→R i v w')
  (hst:∀vals i o,i<n→ops[i]?=some o→Zht ls P ops W n G R a vals i o)
  (hfin:∀vals w,Below W.heap.size W w→(∀ i,i<n→R i (vals i) w)→wpList P ops Q (pick l ts) (ZaJ ops vals (List.range n) a) w) :
  ∀ (f:Nat) (D:List Nat) (listed:Array Bool) (vals:Nat→Value) (w:World),D.Nodup→(∀ i∈D,i<n)→D.length+f=n→listed.size=ops.size →
  (∀ i,i<ops.size→listed.getD i false=decide (i∈D))→Below W.heap.size W w→(∀ i∈D,R i (vals i) w)→(∀ i∈D,∀ o,ops[i]?=some o→∀ j,j<n→Zb1 md o j=true→j∈D)→wpAny P md ops Q (f+ts.length) listed (ZaJ ops vals D a) w
 | 0,D,listed,vals,w,hnd,hlt,hlen,hls,hl,hb,hR,hdc=>by
  have hall:∀i,i<n→i∈D:=fun i hi=>by
   by_cases e:i∈D
   ·exact e
   ·exfalso
    have:=Zef (i::D) (List.range n) (List.nodup_cons.2 ⟨e,hnd⟩) fun j hj=>by
     rcases List.mem_cons.1 hj with rfl | h
     ·exact List.mem_range.2 hi
     ·exact List.mem_range.2 (hlt j h)
    simp at this;omega
  have hp:D.Perm (List.range n):=(List.perm_ext_iff_of_nodup hnd List.nodup_range).2 fun i=>⟨fun h=>List.mem_range.2 (hlt i h),fun h=>hall i (List.mem_range.1 h)⟩
  have hle:listed=ZfO n ops.size:=Zpy hls hl hlt hall
  subst hle
  rw[Nat.zero_add,ZcZ vals hdst hp hlt]
  subst hop
  exact Zcj ts _ _ _ hts hseq (hfin vals w hb fun i hi=>hR i (hall i hi))
 | f+1,D,listed,vals,w,hnd,hlt,hlen,hls,hl,hb,hR,hdc=>by
  have hex:∃i,i<n∧i∉D:=by
   apply Classical.byContradiction
   intro hno
   have:=Zef (List.range n) D List.nodup_range fun i hi=>by
    by_cases e:i∈D
    ·exact e
    ·exact absurd ⟨i,List.mem_range.1 hi,e⟩ hno
   simp at this;omega
  obtain⟨i0,hi0,hi0D,hmin⟩:=Zf3 D n hex
  have hget:∀i,i<ops.size→listed.getD i true=decide (i∈D):=fun i hi=>by
   have:=hl i hi
   simpa [hls,hi] using this
  have hr0:i0∈Region.ready md ops listed:=by
   have hs0:i0<ops.size:=by omega
   obtain⟨o,ho⟩:∃o,ops[i0]?=some o:=⟨_,Array.getElem?_eq_getElem hs0⟩
   refine mem_ready.2 ⟨by rw[hget i0 hs0];exact decide_eq_false hi0D,o,ho,fun e he hbe=>?_⟩
   have h1:=List.all_eq_true.1 (hedge i0 o hi0 ho).1 e (by simpa using he)
   have h2:e.on<i0:=by simpa [hbe] using h1
   rw[hl _ (by omega)];exact decide_eq_true (hmin _ h2)
  rw[show f+1+ts.length=(f+ts.length)+1 by omega]
  have cut:∀i o,ops[i]?=some o→(∀ j∈Zbd ops n o,j∈D)→execOp (ZaJ ops vals D a).eval o=execOp (ZaJ ops vals (Zbd ops n o) a).eval o∧Region.wanted o (yielded ops (ZaJ ops vals D a).tmps)=Region.wanted o (yielded ops (ZaJ ops vals (Zbd ops n o) a).tmps):=fun i o ho hdep=>by
   have hsl:=fun cs b=>Region.noSelect_spec hsel i o cs b ho
   have hcut:∀b,ZaJ ops vals D b=ZaJ ops vals (D.filter fun j=>!ZcU ops o j) (ZaJ ops vals (Zbd ops n o) b):=fun b=>by
    rw[←ZbT]
    refine ZcZ vals hdst ?_ hlt b
    refine(List.filter_append_perm (ZcU ops o) D).symm.trans (List.Perm.append_right _ ?_)
    refine(List.perm_ext_iff_of_nodup (hnd.filter _) (List.nodup_range.filter _)).2 fun j=>?_
    constructor
    ·intro h
     obtain⟨h1,h2⟩:=List.mem_filter.1 h
     exact List.mem_filter.2 ⟨List.mem_range.2 (hlt j h1),h2⟩
    ·intro h
     exact List.mem_filter.2 ⟨hdep j h,(List.mem_filter.1 h).2⟩
   obtain⟨e1,e2⟩:=Zct (ops:=ops) vals (o:=o) hsl (D.filter fun j=>!ZcU ops o j) (ZaJ ops vals (Zbd ops n o) a) fun j hj=>by
    have:=(List.mem_filter.1 hj).2
    simpa using this
   rw[←hcut] at e1 e2
   exact⟨e1,e2⟩
  have next:∀i o,i<n→i∉D→ops[i]?=some o→(∀ j,j<n→Zb1 md o j=true→j∈D)→∀ v w',G w w'→R i v w'→wpAny P md ops Q (f+ts.length) (listed.setIfInBounds i true) ((ZaJ ops vals D a).put o.dst v) w':=fun i o hin hiD ho hci v w' hb' hRv=>by
   have hsi:i<ops.size:=(Array.getElem?_eq_some_iff.1 ho).1
   have he:(ZaJ ops vals D a).put o.dst v=ZaJ ops (fun j=>if j=i then v else vals j) (D++[i]) a:=by
    rw[ZbT,Zdo (v:=fun j=>if j=i then v else vals j) (u:=vals) D a (fun j hj=>if_neg (fun (e:j=i)=>hiD (e▸hj)))]
    simp[ZaJ,ZcC,ho]
   rw[he]
   refine Zic hop hsel hsz hts hedge hdst hlate hfree hseq hQ hG hGB hmono hst hfin f (D++[i]) _ _ w' ?_ ?_ (by simp;omega) (by simp[hls]) ?_ (hGB _ _ hb hb') ?_ ?_
   ·exact List.nodup_append.2 ⟨hnd,by simp,fun x hx y hy=>by simp at hy;subst hy;intro e;subst e;exact hiD hx⟩
   ·intro j hj
    rcases List.mem_append.1 hj with h | h
    ·exact hlt j h
    ·simp at h;omega
   ·intro j hj
    by_cases e:j=i
    ·subst e;simp[hls,hj]
    ·have h1:=hl j hj
     have h2:(listed.setIfInBounds i true).getD j false=listed.getD j false:=by
      simp only[Array.getD_eq_getD_getElem?]
      rw[Array.getElem?_setIfInBounds_ne (fun h=>e h.symm)]
     rw[h2,h1]
     simp[e]
   ·intro j hj
    rcases List.mem_append.1 hj with h | h
    ·have:j≠i:=fun e=>hiD (e▸h)
     simp only[this,if_false]
     exact hmono _ _ _ _ (hR j h) hb'
    ·simp at h;subst h;simpa using hRv
   ·intro j hj oj hoj m hm hbm
    rcases List.mem_append.1 hj with h | h
    ·exact List.mem_append.2 (.inl (hdc j h oj hoj m hm hbm))
    ·simp at h;subst h
     rw[ho] at hoj
     obtain rfl:=Option.some.inj hoj
     exact List.mem_append.2 (.inl (hci m hm hbm))
  by_cases hall:∀j,j<n→j∉ls→j∈D
  ·have hi0l:i0∈ls:=Classical.byContradiction fun h=>hi0D (hall i0 hi0 h)
   obtain⟨o,ho⟩:∃o,ops[i0]?=some o:=⟨_,Array.getElem?_eq_getElem (by omega)⟩
   have hdep:∀j∈Zbd ops n o,j∈D:=fun j hj=>by
    obtain⟨h1,h2⟩:=List.mem_filter.1 hj
    obtain⟨e,hem,heb⟩:=List.any_eq_true.1 ((hedge i0 o hi0 ho).2 j (List.mem_range.1 h1) h2)
    rw[Bool.and_eq_true] at heb
    have h3:=List.all_eq_true.1 (hedge i0 o hi0 ho).1 e (by simpa using hem)
    have h4:e.on<i0:=by simpa [heb.1] using h3
    rw[Nat.eq_of_beq_eq_true heb.2] at h4
    exact hmin _ h4
   have hci0:∀j,j<n→Zb1 md o j=true→j∈D:=fun j _ hbj=>by
    obtain⟨e,hem,heb⟩:=List.any_eq_true.1 hbj
    rw[Bool.and_eq_true] at heb
    have h3:=List.all_eq_true.1 (hedge i0 o hi0 ho).1 e (by simpa using hem)
    have h4:e.on<i0:=by simpa [heb.1] using h3
    rw[Nat.eq_of_beq_eq_true heb.2] at h4
    exact hmin _ h4
   obtain⟨e1,e2⟩:=cut i0 o ho hdep
   have hs:=hst vals i0 o hi0 ho
   unfold Zht at hs
   rw[if_pos hi0l] at hs
   obtain⟨v,hRv,hw,hy⟩:=hs w hb fun j hj=>hR j (hdep j hj)
   refine wpAny_first (oi:=o) (v:=v) ho (Region.noSelect_spec hsel) (fun c a w=>hQ c a _ _ w) (f+ts.length) listed _ w (fun j oj hj hne hun hno=>?_) hr0 (.inl ⟨by rw[e2];exact hw,fun w'=>by rw[e1];exact hy w'⟩) (next i0 o hi0 hi0D ho hci0 v w (hG w) hRv)
   have hsj:j<ops.size:=(Array.getElem?_eq_some_iff.1 hj).1
   have hjD:j∉D:=by rw[hget j hsj] at hun;exact of_decide_eq_false hun
   have hjl:n≤j∨j∈ls:=by
    by_cases h1:n≤j
    ·exact .inl h1
    ·exact .inr (Classical.byContradiction fun h=>hjD (hall j (by omega) h))
   rcases hfree i0 o hi0l ho j oj hj hne hjl with h | h
   ·obtain⟨e,hem,heb⟩:=List.any_eq_true.1 h
    rw[Bool.and_eq_true] at heb
    exact absurd (Nat.eq_of_beq_eq_true heb.2) (hno e (by simpa using hem) heb.1)
   ·exact h
  refine⟨fun h=>(by rw[h] at hr0;cases hr0),fun i hi=>?_⟩
  obtain⟨hun,o,ho,hdeps⟩:=mem_ready.1 hi
  have hsi:i<ops.size:=(Array.getElem?_eq_some_iff.1 ho).1
  have hiD:i∉D:=by rw[hget i hsi] at hun;exact of_decide_eq_false hun
  have hbd:∀j,j<n→Zb1 md o j=true→j∈D:=fun j hj hbj=>by
   obtain⟨e,hem,heb⟩:=List.any_eq_true.1 hbj
   rw[Bool.and_eq_true] at heb
   have h1:=hdeps e (by simpa using hem) heb.1
   rw[Nat.eq_of_beq_eq_true heb.2,hl j (by omega)] at h1
   exact of_decide_eq_true h1
  have hin:i<n:=by
   apply Classical.byContradiction
   intro hni
   exact hall fun j hj hjl=>ZjZ hdc 16 o hbd j hj (hlate i o (by omega) ho j hj hjl)
  have hdep:∀j∈Zbd ops n o,j∈D:=fun j hj=>by
   obtain⟨h1,h2⟩:=List.mem_filter.1 hj
   have hjn:=List.mem_range.1 h1
   exact hbd j hjn ((hedge i o hin ho).2 j hjn h2)
  obtain⟨e1,e2⟩:=cut i o ho hdep
  have hs:=hst vals i o hin ho
  unfold Zht at hs
  by_cases hil:i∈ls
  ·rw[if_pos hil] at hs
   obtain⟨v,hRv,hw,hy⟩:=hs w hb fun j hj=>hR j (hdep j hj)
   rw[←e2] at hw
   have hy':=hy w
   rw[←e1] at hy'
   unfold Go.wpOp
   simp only[ho,hw,if_true]
   refine .inl ?_
   unfold Oper.wp
   rw[hy']
   exact next i o hin hiD ho hbd v w (hG w) hRv
  rw[if_neg hil] at hs
  rcases hs with hs | hs
  case inr =>
   obtain⟨hw,hRu⟩:=hs w hb fun j hj=>hR j (hdep j hj)
   rw[←e2] at hw
   unfold Go.wpOp
   simp only[ho,hw,Bool.false_eq_true,if_false]
   exact next i o hin hiD ho hbd undef w (hG w) hRu
  obtain⟨hw,hc⟩:=hs w hb fun j hj=>hR j (hdep j hj)
  rw[←e2] at hw
  rw[←e1] at hc
  unfold Go.wpOp
  simp only[ho,hw,if_true]
  refine .inl ?_
  unfold Oper.wp
  revert hc
  generalize (execOp (ZaJ ops vals D a).eval o).run P w=r
  intro hc
  cases r with
  | halt x w=>exact False.elim hc
  | ok nx w2 =>
   cases nx<;>try exact False.elim hc
   case value u=>exact next i o hin hiD ho hbd _ _ hc.1 hc.2
   case skip=>exact next i o hin hiD ho hbd _ _ hc.1 hc.2
   case enter fn args =>
    refine Calls.mono (P:=P) hc ?_
    rintro e w'' ⟨u,rfl,h1,h2⟩
    exact next i o hin hiD ho hbd _ _ h1 h2
def Zjn (ls:List Nat) (P:Program) (ops:Array Oper) (W:World) (n:Nat) (G:World→World→Prop) (R:Nat→Value→World→Prop) (a:Act) (vals:Nat→Value) (Fin:Prop):Nat→List Oper→Prop
 | _,[]=>Fin
 | k,o::r=>Zht ls P ops W n G R a vals k o∧Zjn ls P ops W n G R a vals Fin (k+1) r
theorem Zd1 {a:Act} {vals:Nat→Value} {Fin:Prop}:∀(k:Nat) (r:List Oper),Zjn ls P ops W n G R a vals Fin k r→Fin∧∀ j o,r[j]?=some o→Zht ls P ops W n G R a vals (k+j) o
 | _,[],h=>⟨h,fun j o ho=>by simp at ho⟩
 | k,o::r,h=>by
  obtain⟨h1,h2⟩:=Zd1 (k+1) r h.2
  refine⟨h1,fun j x hx=>?_⟩
  cases j with
  | zero=>simp at hx;subst hx;exact h.1
  | succ j=>rw[show k+(j+1)=k+1+j by omega];exact h2 j x (by simpa using hx)
theorem Zdd {id:Nat} {a:Act} {w:World} {l:List Oper} (W:World) (n:Nat) (G:World→World→Prop) (R:Nat→Value→World→Prop) (ls ts ns:List Nat) (qa:List (Option Tmp)) (hm:P.follows .mixedOrders=true) (hB:Zqn .any l.toArray n ls ts=true)
  (hns:List.range n=ns) (hqa:ns.map (ZcC l.toArray)=qa) (hQ:∀c a d v w,Q (.panic c) (Act.put a d v) w→Q (.panic c) a w) (hG:∀w,G w w)
  (hW:Below W.heap.size W { w with drawn:=w.drawn+1 }) (hGB:∀w w',Below W.heap.size W w→G w w'→Below W.heap.size W w') (hmono:∀i v w w',R i v w→G w w'→R i v w')
  (h:∀vals,Zjn ls P l.toArray W n G R a vals (∀ w,Below W.heap.size W w→(∀ i∈ns,R i (vals i) w)→wpList P l.toArray Q (pick l ts) (putZ qa (ns.map vals) a) w) 0 (l.take n)) :
  (Code.region id l.toArray true).wp P Q a w:=by
 subst hns hqa
 simp only[Zqn,Bool.and_eq_true,decide_eq_true_eq] at hB
 obtain⟨⟨⟨⟨⟨⟨⟨hsel,hsz⟩,hts⟩,h1⟩,h2⟩,h3⟩,h5⟩,hseq⟩:=hB
 have hts':∀i∈ts,i<l.length:=fun i hi=>by simpa using List.all_eq_true.1 hts i hi
 refine wp_region_any hm ?_
 have H:=Zic (md:=.any) (P:=P) (W:=W) (Q:=Q) (n:=n) (R:=R) (G:=G) (ls:=ls) (l:=l) (ts:=ts) (a:=a) rfl hsel hsz hts'
  (fun i o hi ho=>by
   have:=List.all_eq_true.1 h1 i (List.mem_range.2 hi)
   rw[ho] at this
   simp only[Bool.and_eq_true] at this
   refine⟨this.1,fun j hj hlj=>?_⟩
   have h4:=List.all_eq_true.1 this.2 j (List.mem_range.2 hj)
   simpa [hlj] using h4)
  (fun i j hi hj hne d hd=>by
   have:=List.all_eq_true.1 (List.all_eq_true.1 h2 i (List.mem_range.2 hi)) j (List.mem_range.2 hj)
   rcases Bool.or_eq_true_iff.1 this with h | h
   ·exact absurd (Nat.eq_of_beq_eq_true h) hne
   ·rw[hd] at h
    simpa [ZjG] using h)
  (fun t o ht ho j hj hjl=>by
   have:=List.all_eq_true.1 h3 t (List.mem_range.2 (Array.getElem?_eq_some_iff.1 ho).1)
   rw[ho] at this
   rcases Bool.or_eq_true_iff.1 this with h | h
   ·exact absurd (by rw[Nat.blt_eq] at h;exact h:t<n) (by omega)
   ·rcases Bool.or_eq_true_iff.1 (List.all_eq_true.1 h j (List.mem_range.2 hj)) with h | h
    ·exact absurd (List.contains_iff_mem.1 h) hjl
    ·exact h)
  (fun i oi hi hoi j oj hoj hne hjl=>by
   have:=List.all_eq_true.1 h5 i hi
   rw[hoi] at this
   have:=List.all_eq_true.1 this j (List.mem_range.2 (Array.getElem?_eq_some_iff.1 hoj).1)
   rw[hoj] at this
   rcases Bool.or_eq_true_iff.1 this with h | h
   ·rcases Bool.or_eq_true_iff.1 h with h | h
    ·exact absurd (Nat.eq_of_beq_eq_true h) hne
    ·rw[Bool.and_eq_true] at h
     rcases hjl with h' | h'
     ·exact absurd (by have:=h.1;rw[Nat.blt_eq] at this;exact this:j<n) (by omega)
     ·have h6:=h.2
      rw[List.contains_iff_mem.2 h'] at h6
      cases h6
   ·exact Bool.or_eq_true_iff.1 h)
  hseq hQ hG hGB hmono
  (fun vals i o hi ho=>by
   have:=(Zd1 0 _ (h vals)).2 i o (by rw[List.getElem?_take,if_pos hi];simpa using ho)
   rwa [Nat.zero_add] at this)
  (fun vals w hb hR=>by
   rw[Zev]
   exact(Zd1 0 _ (h vals)).1 w hb fun i hi=>hR i (List.mem_range.1 hi))
  n [] (Array.replicate l.toArray.size false) (fun _=>undef) { w with drawn:=w.drawn+1 } List.nodup_nil (fun i hi=>by cases hi) (by simp) (by simp) (fun i hi=>by rw[getD_replicate_false];simp) hW (fun i hi=>by cases hi) (fun i hi=>by cases hi)
 rw[hsz] at H
 exact H
theorem Zh8 {a:Act} {vals:Nat→Value} {i:Nat} {o:Oper} (ds:List Nat) (qs:List (Option Tmp)) (hds:Zbd ops n o=ds) (hqs:ds.map (ZcC ops)=qs)
  (h:∀w,Below W.heap.size W w→(∀ j∈ds,R j (vals j) w)→∃ v,R i v w∧Region.wanted o (yielded ops (putZ qs (ds.map vals) a).tmps)=true∧∀ w',(execOp (putZ qs (ds.map vals) a).eval o).run P w'=.ok (.value v) w'):Zg5 P ops W n R a vals i o:=by
 subst hds hqs
 intro w hb hd
 rw[Zev]
 exact h w hb hd
end
end Go.Hold
namespace Go.Proofs.YtddmjddlbhdcpaaGreatDoor
open Go.RowKit Go.Hold Go.Sh
def Zga (r:Value→World→Prop):Prop:=∀ v w w',r v w→Below w.heap.size w w'→r v w'
def ZgR:List (Value→World→Prop)→Prop
 | []=>True
 | r::L=>Zga r∧ZgR L
def ZfY (L:List (Value→World→Prop)) (i:Nat) (v:Value) (w:World):Prop:=match L[i]? with | some r=>r v w | none=>True
theorem Zh5 {L:List (Value→World→Prop)} (h:ZgR L):∀(i:Nat) (r:Value→World→Prop),L[i]?=some r→Zga r:=by
 induction L with
 | nil=>intro i r hi;simp at hi
 | cons s L ih =>
  intro i r hi
  cases i with
  | zero=>simp at hi;subst hi;exact h.1
  | succ i=>exact ih h.2 i r (by simpa using hi)
theorem ZbS {L:List (Value→World→Prop)} (h:ZgR L):∀i v w w',ZfY L i v w→Below w.heap.size w w'→ZfY L i v w':=by
 intro i v w w' hr hb
 unfold ZfY at hr ⊢
 cases e:L[i]? with
 | none=>trivial
 | some r=>rw[e] at hr;exact Zh5 h i r e v w w' hr hb
def fixV (x:Value):Value→World→Prop:=fun v _=>v=x
theorem Zai (x:Value):Zga (fixV x):=fun _ _ _ h _=>h
def ownV (B:Nat) (l:List Nat):Value→World→Prop:=fun v w=>OwnB w B v l
theorem Zde (B:Nat) (l:List Nat):Zga (ownV B l):=fun _ _ _ h hb=>OwnB.below h hb
def slV (l:List Nat):Value→World→Prop:=fun v w=>SlV w v l
theorem ZgT (l:List Nat):Zga (slV l):=fun _ _ _ h hb=>SlV.grow h hb
theorem Zsy (r l:List Nat) (u:Nat) (h:u+l.length≤r.length):setL (bysA r) u (bys l)=bysA (r.take u++l++r.drop (u+l.length)):=by
 apply Array.ext_getElem?
 intro i
 rw[ZcE,Zay,Zal]
 have hn:(r.take u++l++r.drop (u+l.length)).length=r.length:=by simp;omega
 by_cases hi:i<r.length
 ·rw[ZaA (r.take u++l++r.drop (u+l.length)) i (by rw[hn];exact hi)]
  by_cases h1:u≤i∧i<u+l.length
  ·rw[if_pos (by omega)]
   simp only[bys,List.getElem?_map,List.getD]
   rw[List.append_assoc,List.getElem?_append_right (by simp;omega),List.getElem?_append_left (by simp;omega)]
   simp only[List.length_take]
   rw[show min u r.length=u by omega,List.getElem?_eq_getElem (by omega)]
   rfl
  ·rw[if_neg (by omega),ZaA _ i hi]
   congr 3
   simp only[List.getD]
   by_cases h2:i<u
   ·rw[List.append_assoc,List.getElem?_append_left (by simp;omega),List.getElem?_take,if_pos h2]
   ·rw[List.getElem?_append_right (by simp;omega),List.getElem?_drop]
    congr 2
    simp only[List.length_append,List.length_take];omega
 ·rw[if_neg (by omega),Array.getElem?_eq_none (by rw[Zal];omega),Array.getElem?_eq_none (by rw[Zal,hn];omega)]
theorem ZfZ {W:World} {g u c2 cap d s k:Nat} {p:Option Addr} {r l:List Nat} (h:RowAt W g (bysA r)) (hu:u≤r.length) (hd:d=r.length-u) (hs:s=l.length) (hk:k=min l.length (r.length-u)) (hB:Bs0 W p l) :
  (Builtin.copy_ #[38,38] 3 #[.slice (some ⟨g,u,none⟩) d c2,.slice p s cap]).run Tryz.prog W=.ok (.int .i64 (k:Int)) (W.setRow g (bysA (r.take u++l.take k++r.drop (u+k)))):=by
 subst hd hs
 rcases hB with rfl | ⟨b,o,rfl,hB⟩
 ·have hk0:k=0:=by simpa using hk
  subst hk0
  rw[List.take_zero,List.append_nil,Nat.add_zero,List.take_append_drop,ZbK h]
  exact Zem W _ _ _ _ _
 ·have hl:(bys (l.take k)).length=k:=by rw[Zay,List.length_take];omega
  have hi:(Tryz.prog.info? 5).map (·.size)=some 1:=by kernel_rfl
  have:=run_copy_cells (P:=Tryz.prog) W 38 38 3 5 g u (r.length-u) c2 ⟨b,o,none⟩ l.length cap (bys (l.take k)) Tryz.underlying38 hi (by rw[hl,hk])
   (fun j v hv=>by
    have hj:j<k:=by have:=(List.getElem?_eq_some_iff.1 hv).1;omega
    rw[Addr.add_mid,hB.2 j (by omega),←hv]
    simp only[bys,List.getElem?_map,List.getElem?_take,if_pos hj,List.getD]
    rw[List.getElem?_eq_getElem (by omega)];rfl)
   (fun j hj=>by rw[h.cellAt (u+j) (Array.getElem?_eq_getElem (by rw[Zal];omega))];rfl)
   (fun j _=>h.frozenAt _) (Zc7 _)
  rw[this,hl,ZbL _ _ h,Zsy _ _ _ (by rw[List.length_take];omega)]
  rw[show (l.take k).length=k by rw[List.length_take];omega]
  rfl
open Go.RowKit Go.Hold Go.Sh Go.Cm
theorem Zou (c:Cmd) (hc:c.id.length=8) (j v:Nat) (hj:j<8):(cmdA c).setIfInBounds (3+j) (.int .u8 (v:Int))=cmdA ⟨c.k,c.n,c.d,c.id.set j v⟩:=by
 apply Array.ext_getElem?
 intro i
 simp only[cmdA,bys,Array.getElem?_setIfInBounds,List.getElem?_toArray,List.size_toArray]
 by_cases h3:i<3
 ·rw[if_neg (by omega),List.getElem?_append_left (by simpa using h3),List.getElem?_append_left (by simpa using h3)]
 ·rw[List.getElem?_append_right (by simp;omega),List.getElem?_append_right (by simp;omega),List.map_set,List.getElem?_set]
  simp only[List.length_append,List.length_cons,List.length_nil,List.length_map,hc]
  by_cases e:3+j=i
  ·subst e
   rw[if_pos rfl,if_pos (by omega),if_pos (by omega),if_pos (by omega)]
  ·rw[if_neg e,if_neg (by omega)]
def idP (m:List Nat) (j:Nat):List Nat:=m.take j++zs (8-j)
theorem Zgd {m:List Nat} {j:Nat} (hm:m.length=8) (hj:j≤8):(idP m j).length=8:=by simp[idP,Zah,hm];omega
theorem ZrT {m:List Nat} {j:Nat} (hm:m.length=8) (hj:j<8):(idP m j).set j (m.getD j 0)=idP m (j+1):=by
 have ht:m.take (j+1)=m.take j++[m.getD j 0]:=by rw[List.take_add_one,List.getElem?_eq_getElem (by omega)];simp[List.getD,show j<m.length by omega]
 have hz:zs (8-j)=0::zs (8-(j+1)):=by
  unfold zs
  rw[show 8-j=(8-(j+1))+1 by omega,List.replicate_succ]
 unfold idP
 have hl:(m.take j).length=j:=by simp[hm];omega
 rw[List.set_append_right _ _ (by omega),hl,Nat.sub_self,hz,List.set_cons_zero,ht]
 simp
theorem Zsb {m:List Nat} (hm:m.length=8):idP m 8=m:=by
 unfold idP
 rw[List.take_of_length_le (by omega)]
 simp[zs]
set_option maxHeartbeats 2000000 in
set_option maxRecDepth 100000 in
theorem Zms (b:List Nat) (hb:b.length=16) (hbb:∀i,b.getD i 0<256) (w:World) :
  Calls Tryz.prog 54 #[.agg (bysA b)] w fun e w'=>e=.returned (.tuple #[.agg (cmdA (decV b)),.int .i64 (decE b)])∧Below w.heap.size w w':=by
 have hzs:(cmdA .zero).size=11:=Zax rfl
 obtain⟨x0,e0⟩:∃x,x=b.getD 0 0:=⟨_,rfl⟩
 obtain⟨x1,e1⟩:∃x,x=b.getD 1 0:=⟨_,rfl⟩
 obtain⟨y2,e2⟩:∃x,x=b.getD 2 0:=⟨_,rfl⟩
 obtain⟨y3,e3⟩:∃x,x=b.getD 3 0:=⟨_,rfl⟩
 obtain⟨x2,e4⟩:∃x,x=y2*256+y3:=⟨_,rfl⟩
 obtain⟨y4,e5⟩:∃x,x=256*y2:=⟨_,rfl⟩
 obtain⟨m,em⟩:∃m,m=(b.drop 4).take 8:=⟨_,rfl⟩
 obtain⟨dn,ed⟩:∃d,d=(b.drop 12).all (·==0):=⟨_,rfl⟩
 have hml:m.length=8:=by rw[em];simp[hb]
 have hC:ofB b=⟨x0,x1,x2,m⟩:=by rw[e0,e1,e4,e2,e3,em];rfl
 have hO:okB b=(dn&&(Cmd.mk x0 x1 x2 m).may):=by unfold okB;rw[hC,ed]
 have l0:x0<256:=by rw[e0];exact hbb 0
 have l1:x1<256:=by rw[e1];exact hbb 1
 have l2:y2<256:=by rw[e2];exact hbb 2
 have l3:y3<256:=by rw[e3];exact hbb 3
 have g0:∀h:0<(bysA b).size,(bysA b)[0]'h=.int .u8 (x0:Int):=fun h=>by rw[e0];exact Array.getElem_eq_iff.2 (ZaA b 0 (by omega))
 have g1:∀h:1<(bysA b).size,(bysA b)[1]'h=.int .u8 (x1:Int):=fun h=>by rw[e1];exact Array.getElem_eq_iff.2 (ZaA b 1 (by omega))
 have g2:∀h:2<(bysA b).size,(bysA b)[2]'h=.int .u8 (y2:Int):=fun h=>by rw[e2];exact Array.getElem_eq_iff.2 (ZaA b 2 (by omega))
 have g3:∀h:3<(bysA b).size,(bysA b)[3]'h=.int .u8 (y3:Int):=fun h=>by rw[e3];exact Array.getElem_eq_iff.2 (ZaA b 3 (by omega))
 have u0:IntKind.i64.wrap (x0:Int)=(x0:Int):=IntWalk.i64_in _ (by omega)
 have u1:IntKind.i64.wrap (x1:Int)=(x1:Int):=IntWalk.i64_in _ (by omega)
 have u2:IntKind.i64.wrap (y2:Int)=(y2:Int):=IntWalk.i64_in _ (by omega)
 have u3:IntKind.i64.wrap (y3:Int)=(y3:Int):=IntWalk.i64_in _ (by omega)
 have u4:IntKind.i64.wrap (256*(y2:Int))=(y4:Int):=by rw[IntWalk.i64_in _ (by omega)];omega
 have u5:IntKind.i64.wrap ((y4:Int)+(y3:Int))=(x2:Int):=by rw[IntWalk.i64_in _ (by omega)];omega
 have Hb:=Lib.hid hb
 have Hm:=Lib.hid (fun (j:Nat) (hj:j<8)=>show b.getD (4+j) 0=m.getD j 0 by rw[em];simp[List.getD,hj])
 have hbs:(bysA b).size=16:=by rw[Zal];exact hb
 have hcz:(cmdA ⟨x0,x1,x2,zs 8⟩).size=11:=Zax rfl
 have KM:=Lib.hid (fun (W:World)=>Zud ⟨x0,x1,x2,m⟩ hml W)
 have Hml:=Lib.hid hml
 have HQ:=Lib.hid (show decide ((Cmd.mk x0 x1 x2 m).enc=b)=dn by
  rw[←hC,ed,Bool.eq_iff_iff,decide_eq_true_iff]
  exact Zq2 hb hbb)
 have KB:=Lib.hid (fun (h:(Cmd.mk x0 x1 x2 m).may=true) (W:World)=>Zjr ⟨x0,x1,x2,m⟩ hml h W)
 have HEl:=Lib.hid (Zb8 (c:=⟨x0,x1,x2,m⟩) hml)
 have HD:=Lib.hid (show decV b=(if okB b then ⟨x0,x1,x2,m⟩ else .zero) by unfold decV;rw[hC])
 have HE:=Lib.hid (show decE b=(if okB b then 0 else 5) from rfl)
 rw[hO] at HD HE
 obtain⟨mb,emb⟩:∃mb,mb=(Cmd.mk x0 x1 x2 m).may:=⟨_,rfl⟩
 rw[←emb] at HD HE KM KB
 generalize (Cmd.mk x0 x1 x2 m).enc=E at *
 generalize decV b=DV at *
 generalize decE b=DE at *
 clear hO hC emb e0 e1 e2 e3 e4 e5 em ed l0 l1 l2 l3 hml hb hbb
 go_enter Tryz.func54,Tryz.ntmps54
 go_wp2_with fail
 generalize hW:World.alloc _ _=W0
 have R0:=Lib.hid (show RowAt W0 w.heap.size (bysA b) by rw[←hW];clear hW;exact⟨by go_simp,by go_simp,by go_simp⟩)
 have T0:=Lib.hid (show RowAt W0 (w.heap.size+1) (cmdA .zero) by rw[←hW];clear hW;exact⟨by go_simp,by go_simp;rfl,by go_simp⟩)
 have G0:=Lib.hid (show RowAt W0 (w.heap.size+1+1) (cmdA ⟨x0,x1,x2,idP m 0⟩) by rw[←hW];clear hW;exact⟨by go_simp,by go_simp;rfl,by go_simp⟩)
 have B0:=Lib.hid (show Below w.heap.size w W0 by rw[←hW];repeat (first | apply Zab | exact Below.refl _ _))
 have hne1:w.heap.size≠w.heap.size+1+1:=by omega
 have hne2:w.heap.size+1≠w.heap.size+1+1:=by omega
 have hle1:w.heap.size≤w.heap.size+1+1:=by omega
 have hle2:w.heap.size≤w.heap.size+1:=by omega
 clear hW u0 u1 u2 u3 u4 u5 hcz g0 g1 g2 g3
 generalize w.heap.size+1+1=g at *
 generalize w.heap.size+1=t at *
 obtain⟨z,ez⟩:∃z,z=w.heap.size:=⟨_,rfl⟩
 rw[←ez] at R0 hne1 hle1 hle2 ⊢
 have Ez:=Lib.hid ez
 clear ez
 go_loopw [5] (fun i wr=>∃ j:Nat,j≤8∧i=.int .i64 j∧Sets W0 g (cmdA ⟨x0,x1,x2,idP m j⟩) wr) (fun i _=>8-(intOf i).toNat)
 case atStart=>exact⟨0,by omega,rfl,Sets.refl G0.out⟩
 case round =>
  obtain⟨j,hj,rfl,hset⟩:=hrel
  by_cases hj8:j<8
  ·have hk0:(0:Int)≤(j:Int):=by omega
   have hk1:(j:Int)<8:=by omega
   have hrow:=hset.row G0.out
   have hzr:=hset.old R0.out hne1
   have hcg:=hrow.cellAt (3+j) (Zen _ j (by rw[Zgd Hml.out hj];exact hj8))
   have hcz:=hzr.cellAt (4+j) (ZaA _ (4+j) (by rw[Hb.out];omega))
   have hf:=hrow.frozenAt (3+j)
   have Hst:=Lib.hid (show (cmdA ⟨x0,x1,x2,idP m j⟩).setIfInBounds (3+j) (.int .u8 ((m.getD j 0:Nat):Int))=cmdA ⟨x0,x1,x2,idP m (j+1)⟩ by
    rw[Zou ⟨x0,x1,x2,idP m j⟩ (Zgd Hml.out hj) j _ hj8,ZrT Hml.out hj8])
   rw[Hm.out j hj8] at hcz
   obtain⟨v,ev⟩:∃v,v=m.getD j 0:=⟨_,rfl⟩
   rw[←ev] at hcz Hst
   obtain⟨x,ex⟩:∃x,x=4+j:=⟨_,rfl⟩
   rw[←ex] at hcz
   have hx:IntKind.i64.wrap (4+(j:Int))=(x:Int):=by rw[IntWalk.i64_in _ (by omega)];omega
   have hx0:(0:Int)≤(x:Int):=by omega
   have hx1:(x:Int)<16:=by omega
   have Hset:=Lib.hid hset
   have hgl:=hrow.2.2
   have hzl:=hzr.2.2
   clear ex ev hset hrow hzr
   go_wp2_with fail
   go_roundw
   case rel =>
    refine⟨j+1,by omega,by go_num,?_⟩
    rw[←Hst.out];exact Hset.out.cell G0.out
   case measure=>simp[intOf];omega
  ·obtain rfl:j=8:=by omega
   have hrow:=hset.row G0.out
   rw[Zsb Hml.out] at hrow
   have G1:=Lib.hid hrow
   have T1:=Lib.hid (hset.old T0.out hne2)
   have R1:=Lib.hid (hset.old R0.out hne1)
   have B1:=Lib.hid (hset.below B0.out (by rw[←Ez.out];exact hle1) B0.out.size)
   have hcm:(cmdA ⟨x0,x1,x2,m⟩).size=11:=Zax Hml.out
   obtain⟨g1,g2,g3⟩:=hrow
   obtain⟨t1,t2,t3⟩:=T1.out
   obtain⟨r1,r2,r3⟩:=R1.out
   have h16:=Hb.out
   have h16e:=HEl.out
   clear hset R0 T0 G0 B0
   go_wp2_with fail
   cases mb
   ·refine ZaB (fun w'=>∃ o d,w'=wr.plus o d) (by kernel_rfl) (by kernel_rfl) ⟨#[],_,rfl⟩ ?_
    refine Zau ⟨_,#[],0,rfl⟩ (Zaa rfl) (by rintro K _ ⟨o,d,rfl⟩ hK;go_simp;exact hK _ ⟨o,d,rfl⟩) ?_
    refine Zan (v:=.bool false) (Zaa rfl) (by rintro K _ ⟨o,d,rfl⟩ hK;go_simp;refine(KM.out _).mono ?_;rintro e w' ⟨rfl,hbw⟩;obtain⟨o',n',rfl⟩:=Zaf hbw;exact⟨_,rfl,hK _ ⟨_,_,World.plus_plus _ _ _ _ _⟩⟩) ?_
    refine Zau ⟨_,#[],0,rfl⟩ (Zaa rfl) (by rintro K _ ⟨o,d,rfl⟩ hK;go_simp;exact hK _ ⟨o,d,rfl⟩) ?_
    refine Zau ⟨_,#[],0,rfl⟩ (Zaa rfl) (by rintro K _ ⟨o,d,rfl⟩ hK;go_simp;exact hK _ ⟨o,d,rfl⟩) ?_
    refine Zdb (Ze9 rfl rfl rfl) ?_
    refine Zdb (Ze9 rfl rfl rfl) ?_
    refine Zdb (Ze9 rfl rfl rfl) ?_
    refine Zdb (Ze9 rfl rfl rfl) ?_
    refine Zau ⟨_,#[],0,rfl⟩ (Zaa rfl) (by rintro K _ ⟨o,d,rfl⟩ hK;go_simp;exact hK _ ⟨o,d,rfl⟩) ?_
    refine Zaw ?_
    rintro _ ⟨o1,d1,rfl⟩
    have hbp:=Zag (Below.refl wr.heap.size wr) o1 d1
    have B2:=Lib.hid (B1.out.trans (hbp.mono B1.out.size))
    have T2:=T1.out.grow hbp
    have G2:=G1.out.grow hbp
    clear hbp g1 g2 g3 t1 t2 t3 r1 r2 r3
    generalize wr.plus o1 d1=W2 at *
    obtain⟨t1,t2,t3⟩:=T2
    obtain⟨g1,g2,g3⟩:=G2
    go_wp2_with fail
    refine bodyPost_ret (v:=.tuple #[.agg (cmdA .zero),.int .i64 5]) (Zdv Tryz.results54 .zero rfl _ _ _ t rfl (by go_simp) (by go_simp) rfl) rfl ⟨by rw[HD.out,HE.out,Bool.and_false];rfl,?_⟩
    exact Zac B2.out (by rw[←Ez.out];exact hle2) _
   have hq:=HQ.out
   refine ZaB (fun w'=>∃ o d,w'=wr.plus o d) (by kernel_rfl) (by kernel_rfl) ⟨#[],_,rfl⟩ ?_
   refine Zau ⟨_,#[],0,rfl⟩ (Zaa rfl) (by rintro K _ ⟨o,d,rfl⟩ hK;go_simp;exact hK _ ⟨o,d,rfl⟩) ?_
   refine Zan (v:=.bool true) (Zaa rfl) (by rintro K _ ⟨o,d,rfl⟩ hK;go_simp;refine(KM.out _).mono ?_;rintro e w' ⟨rfl,hbw⟩;obtain⟨o',n',rfl⟩:=Zaf hbw;exact⟨_,rfl,hK _ ⟨_,_,World.plus_plus _ _ _ _ _⟩⟩) ?_
   refine Zau ⟨_,#[],0,rfl⟩ (Zaa rfl) (by rintro K _ ⟨o,d,rfl⟩ hK;go_simp;exact hK _ ⟨o,d,rfl⟩) ?_
   refine Zau ⟨_,#[],0,rfl⟩ (Zaa rfl) (by rintro K _ ⟨o,d,rfl⟩ hK;go_simp;exact hK _ ⟨o,d,rfl⟩) ?_
   refine Zau ⟨_,#[],0,rfl⟩ (Zam rfl rfl rfl) (by rintro K _ ⟨o,d,rfl⟩ hK;go_simp;exact hK _ ⟨o,d,rfl⟩) ?_
   refine Zan (v:=.agg (bysA E)) (Zam rfl rfl rfl) (by rintro K _ ⟨o,d,rfl⟩ hK;go_simp;refine(KB.out rfl _).mono ?_;rintro e w' ⟨rfl,hbw⟩;obtain⟨o',n',rfl⟩:=Zaf hbw;exact⟨_,rfl,hK _ ⟨_,_,World.plus_plus _ _ _ _ _⟩⟩) ?_
   refine Zau ⟨_,#[],0,rfl⟩ (Zam rfl rfl rfl) (by rintro K _ ⟨o,d,rfl⟩ hK;go_simp;exact hK _ ⟨o,d,rfl⟩) ?_
   refine Zau ⟨_,#[],0,rfl⟩ (Zam rfl rfl rfl) (by rintro K _ ⟨o,d,rfl⟩ hK;go_simp;exact hK _ ⟨o,d,rfl⟩) ?_
   refine Zau ⟨_,#[],0,rfl⟩ (Zaa rfl) (by rintro K _ ⟨o,d,rfl⟩ hK;go_simp;exact hK _ ⟨o,d,rfl⟩) ?_
   refine Zaw ?_
   rintro _ ⟨o1,d1,rfl⟩
   have hbp:=Zag (Below.refl wr.heap.size wr) o1 d1
   have B2:=Lib.hid (B1.out.trans (hbp.mono B1.out.size))
   have T2:=T1.out.grow hbp
   have G2:=G1.out.grow hbp
   clear hbp g1 g2 g3 t1 t2 t3 r1 r2 r3
   generalize wr.plus o1 d1=W2 at *
   obtain⟨t1,t2,t3⟩:=T2
   obtain⟨g1,g2,g3⟩:=G2
   cases dn
   ·go_wp2_with fail
    refine bodyPost_ret (v:=.tuple #[.agg (cmdA .zero),.int .i64 5]) (Zdv Tryz.results54 .zero rfl _ _ _ t rfl (by go_simp) (by go_simp) rfl) rfl ⟨by rw[HD.out,HE.out];rfl,?_⟩
    exact Zac B2.out (by rw[←Ez.out];exact hle2) _
   go_wp2_with fail
   refine bodyPost_ret (v:=.tuple #[.agg (cmdA ⟨x0,x1,x2,m⟩),.int .i64 0]) (Zdv Tryz.results54 ⟨x0,x1,x2,m⟩ Hml.out _ _ _ t rfl (by go_simp) (by go_simp) rfl) rfl ⟨by rw[HD.out,HE.out];rfl,?_⟩
   exact Zac B2.out (by rw[←Ez.out];exact hle2) _
open Go.RowKit Go.Hold Go.Sh Go.Ch
set_option maxHeartbeats 1000000 in
set_option maxRecDepth 100000 in
theorem ZuD (g b a n cap:Nat) (s:List Int) (l:List Nat) (w:World) (hn:n=l.length) (hs:s.length=16) (hz:∀j,a≤j→s.getD j 0=0) (ha:a+(n+3)/4≤16) (hlb:∀i,l.getD i 0<256) (h:RowAt w g (wosA s)) (hB:BytesAt w b 0 l) (hbg:b≠g) :
  Calls Tryz.prog 175 #[.pointer (some ⟨g,0,none⟩),.int .i64 (a:Int),.slice (some ⟨b,0,none⟩) n cap] w fun e w'=>e=.returned (.tuple #[])∧Sets w g (wosA (wput s a l n)) w':=by
 have H:=Lib.hid h
 have HB:=Lib.hid hB
 have Hn:=Lib.hid hn
 have S0:=Lib.hid (show Sets w g (wosA (wput s a l 0)) w by rw[ZlJ s a l hs hz];exact Sets.refl h)
 clear h hB hn hs hz
 go_enter Tryz.func175,Tryz.ntmps175
 go_wp2_with fail
 go_loopw [10] (fun i wr=>∃ k:Nat,k≤n∧i=.int .i64 k∧Sets w g (wosA (wput s a l k)) wr) (fun i _=>n-(intOf i).toNat)
 case atStart=>exact⟨0,by omega,rfl,S0.out⟩
 case round =>
  obtain⟨k,hk,rfl,hset⟩:=hrel
  by_cases hkn:k<n
  ·have hk0:(0:Int)≤(k:Int):=by omega
   have hk1:(k:Int)<(n:Int):=by omega
   have hkl:k<l.length:=by rw[←Hn.out];exact hkn
   have hrow:=hset.row H.out
   have hcb:wr.cell? ⟨b,k,none⟩=some (.int .u8 ((l.getD k 0:Nat):Int)):=by
    have:=(hset.bytes HB.out hbg).2 k hkl
    rwa [Nat.zero_add] at this
   have hq:(k:Int).tdiv 4=((k/4:Nat):Int):=rfl
   have hm:(k:Int).tmod 4=((k%4:Nat):Int):=rfl
   have hc:=hrow.cellAt (a+k/4) (Zcu _ _ (Zdw s a l k (a+k/4) (by omega)))
   rw[if_neg (by omega),show a+k/4-a=k/4 by omega,show k-4*(k/4)=k%4 by omega] at hc
   have hf:=hrow.frozenAt (a+k/4)
   have hst:=Znr l hlb k
   have Hset:=Lib.hid (ZpQ s a l k (by omega))
   have hlt:=hlb k
   generalize l.getD k 0=y at hcb hst hlt
   have hyw:IntKind.u32.wrap (y:Int)=(y:Int):=IntWalk.u32_in _ (by omega)
   have hm3:k%4<4:=by omega
   generalize pkl l (k/4) (k%4)=p at hc hst
   generalize ((pkl l (k/4) (k%4+1):Nat):Int)=p' at hst Hset
   have hq4:a+k/4<16:=by omega
   generalize k/4=q at *
   generalize k%4=r at *
   obtain⟨x,ex⟩:∃x,x=a+q:=⟨_,rfl⟩
   rw[←ex] at hc hf hq4 Hset
   have hqw:IntKind.i64.wrap (q:Int)=(q:Int):=IntWalk.i64_in _ (by omega)
   have hx:IntKind.i64.wrap ((a:Int)+(q:Int))=(x:Int):=by rw[IntWalk.i64_in _ (by omega)];omega
   have hx0:(0:Int)≤(x:Int):=by omega
   have hx1:(x:Int)<16:=by omega
   obtain⟨m,em⟩:∃m,m=r*8:=⟨_,rfl⟩
   rw[←em] at hst
   have hmw:IntKind.i64.wrap ((r:Int)*8)=(m:Int):=by rw[IntWalk.i64_in _ (by omega)];omega
   have hm0:(0:Int)≤(m:Int):=by omega
   have hm1:(m:Int)≤32:=by omega
   have Hset2:=Lib.hid hset
   have hgl:=hrow.2.2
   clear ex em hset hrow hkl
   go_wp2_with fail
   refine Zao wr [0,1,2,3,4,5,6,7,8,9,10,11,12,13,14,15,16] [false,false,false,false,false,false,false,false,false,false,false,false,false,false,false,false,false] [] [] 17 (by kernel_rfl) rfl (by kernel_rfl) (by intro c a d v w h;cases d<;>exact h) ((Below.refl _ _).drew) ?_
   simp only[pick,List.getElem?_cons_succ,List.getElem?_cons_zero,List.drop_succ_cons,List.drop_zero]
   iterate 17 (refine Zad (Zaa rfl) (by intro K o d hK;go_simp;exact hK _ (Below.refl _ _)) ?_)
   refine Zap ?_
   intro w2 hb2 _
   have S2:=Lib.hid (Hset2.out.grow hb2)
   have hc2:w2.cell? ⟨g,x,none⟩=some (.int .u32 (p:Int)):=by rw[hb2.cell hgl];exact hc
   have hf2:=(S2.out.row H.out).frozenAt x
   clear hb2 hc hf Hset2
   go_wp2_with fail
   go_roundw
   case rel =>
    refine⟨k+1,by omega,by go_num,?_⟩
    rw[←Hset.out,←Zci];exact S2.out.cell H.out
   case measure=>simp[intOf];omega
  ·obtain rfl:k=n:=by omega
   have HS:=Lib.hid hset
   clear hset
   go_wp2_with fail
   go_end0
   exact⟨rfl,HS.out⟩
theorem ZnY (s:List Int) (i j k l:Nat):ZeW s i j k l=(((s.set i (qr (s.getD i 0) (s.getD j 0) (s.getD k 0) (s.getD l 0)).a).set j (qr (s.getD i 0) (s.getD j 0) (s.getD k 0) (s.getD l 0)).b).set k (qr (s.getD i 0) (s.getD j 0) (s.getD k 0) (s.getD l 0)).c).set l (qr (s.getD i 0) (s.getD j 0) (s.getD k 0) (s.getD l 0)).d:=rfl
theorem ZbU {w:World} {g:Nat} {s:List Int} (h:RowAt w g (wosA s)) (i:Nat) (hi:i<s.length):w.cell? ⟨g,i,none⟩=some (.int .u32 (s.getD i 0)):=h.cellAt i (Zfl s i hi)
set_option maxHeartbeats 1000000 in
set_option maxRecDepth 100000 in
theorem ZhE (g i j k l:Nat) (s:List Int) (w:World) (hs:s.length=16) (hi:i<j) (hj:j<k) (hk:k<l) (hl:l<16) (h:RowAt w g (wosA s)) :
  Calls Tryz.prog 176 #[.pointer (some ⟨g,0,none⟩),.int .i64 (i:Int),.int .i64 (j:Int),.int .i64 (k:Int),.int .i64 (l:Int)] w fun e w'=>e=.returned (.tuple #[])∧Sets w g (wosA (ZeW s i j k l)) w':=by
 have H:=Lib.hid h
 have Hq:=Lib.hid (ZnY s i j k l)
 have Hs:=Lib.hid hs
 have hi0:(0:Int)≤(i:Int):=by omega
 have hi1:(i:Int)<16:=by omega
 have hj0:(0:Int)≤(j:Int):=by omega
 have hj1:(j:Int)<16:=by omega
 have hk0:(0:Int)≤(k:Int):=by omega
 have hk1:(k:Int)<16:=by omega
 have hl0:(0:Int)≤(l:Int):=by omega
 have hl1:(l:Int)<16:=by omega
 have hci:=ZbU h i (by omega)
 have hcj:=ZbU h j (by omega)
 have hck:=ZbU h k (by omega)
 have hcl:=ZbU h l (by omega)
 have hgl:=h.2.2
 generalize s.getD i 0=a0 at *
 generalize s.getD j 0=b0 at *
 generalize s.getD k 0=c0 at *
 generalize s.getD l 0=d0 at *
 have n1:¬i=j:=by omega
 have n2:¬i=k:=by omega
 have n3:¬i=l:=by omega
 have n4:¬j=k:=by omega
 have n5:¬j=l:=by omega
 have n6:¬k=l:=by omega
 clear h hs
 go_enter Tryz.func176,Tryz.ntmps176
 go_wp2_with fail
 refine ZaB (fun w'=>∃ o d,w'=w.plus o d) (by kernel_rfl) (by kernel_rfl) ⟨#[],_,rfl⟩ ?_
 iterate 24 (refine Zau ⟨_,#[],0,rfl⟩ (Zaa rfl) (by rintro K _ ⟨o,d,rfl⟩ hK;go_simp;exact hK _ ⟨o,d,rfl⟩) ?_)
 refine Zaw ?_
 rintro _ ⟨o1,n1,rfl⟩
 have S1:=Lib.hid ((Sets.refl H.out).grow (Zag (Below.refl _ _) o1 n1))
 clear hci hcj hck hcl
 generalize w.plus o1 n1=W1 at *
 go_wp2_with fail
 refine(Zrx _ _).mono ?_
 rintro e w' ⟨rfl,hwE⟩
 rw[hwE]
 clear hwE w'
 go_wp2_with fail
 refine(Zrz _ _).mono ?_
 rintro e w' ⟨rfl,hwE⟩
 rw[hwE]
 clear hwE w'
 go_wp2_with fail
 refine(Zt3 _ _).mono ?_
 rintro e w' ⟨rfl,hwE⟩
 rw[hwE]
 clear hwE w'
 go_wp2_with fail
 refine(Zul _ _).mono ?_
 rintro e w' ⟨rfl,hwE⟩
 rw[hwE]
 clear hwE w'
 go_wp2_with fail
 refine ZaH W1 [0,1,2,3,4,5,6,7,8,9,10,11,12,15,18,21] [true,true,true,true,true,true,true,true,true,true,true,true,true,true,true,true] [13,14,16,17,19,20,22,23] (by kernel_rfl) (by kernel_rfl) (by intro c a d v w h;cases d<;>exact h) ((Below.refl _ _).drew) ?_
 simp only[pick,List.getElem?_cons_succ,List.getElem?_cons_zero]
 iterate 16 (refine Zaz (Zaa rfl) (fun w=>by go_simp;rfl) ?_)
 refine Zap ?_
 intro W2 hb2
 have S2:=Lib.hid (S1.out.grow hb2)
 have R2:=S2.out.row H.out
 have hci:=ZbU R2 i (by rw[Hs.out];omega)
 have hcj:=ZbU R2 j (by rw[Hs.out];omega)
 have hck:=ZbU R2 k (by rw[Hs.out];omega)
 have hcl:=ZbU R2 l (by rw[Hs.out];omega)
 have hfi:=R2.frozenAt i
 have hfj:=R2.frozenAt j
 have hfk:=R2.frozenAt k
 have hfl:=R2.frozenAt l
 clear hb2 R2 S1
 go_wp2_with fail
 go_end0
 refine⟨rfl,?_⟩
 have h4:=(((S2.out.cell (i:=i) (v:=.int .u32 (qr a0 b0 c0 d0).a) H.out).cell (i:=j) (v:=.int .u32 (qr a0 b0 c0 d0).b) H.out).cell (i:=k) (v:=.int .u32 (qr a0 b0 c0 d0).c) H.out).cell (i:=l) (v:=.int .u32 (qr a0 b0 c0 d0).d) H.out
 rw[Zci,Zci,Zci,Zci,←Hq.out] at h4
 exact h4
set_option maxHeartbeats 1000000 in
set_option maxRecDepth 100000 in
theorem Zhd (g:Nat) (s:List Int) (w:World) (hs:s.length=16) (h:RowAt w g (wosA s)) :
  Calls Tryz.prog 165 #[.pointer (some ⟨g,0,none⟩)] w fun e w'=>e=.returned (.tuple #[])∧Sets w g (wosA (drnd s)) w':=by
 have H:=Lib.hid h
 have Hs:=Lib.hid hs
 clear h hs
 go_enter Tryz.func165,Tryz.ntmps165
 go_wp2_with fail
 go_loopw [4] (fun i wr=>∃ n:Nat,n≤4∧i=.int .i64 n∧Sets w g (wosA (cols s n)) wr) (fun i _=>4-(intOf i).toNat)
 case atStart=>exact⟨0,by decide,rfl,Sets.refl H.out⟩
 case round =>
  obtain⟨n,hn,rfl,hset⟩:=hrel
  by_cases hn4:n<4
  ·have hn0:(n:Int)<4:=by omega
   have h1:IntKind.i64.wrap (4+(n:Int))=((4+n:Nat):Int):=by rw[IntWalk.i64_in _ (by omega)];omega
   have h2:IntKind.i64.wrap (8+(n:Int))=((8+n:Nat):Int):=by rw[IntWalk.i64_in _ (by omega)];omega
   have h3:IntKind.i64.wrap (12+(n:Int))=((12+n:Nat):Int):=by rw[IntWalk.i64_in _ (by omega)];omega
   have HQ:=Lib.hid (ZhE g n (4+n) (8+n) (12+n) (cols s n) wr (by rw[Zcs,Hs.out]) (by omega) (by omega) (by omega) (by omega) (hset.row H.out))
   have HE:=Lib.hid (show cols s (n+1)=ZeW (cols s n) n (4+n) (8+n) (12+n) from rfl)
   generalize ((4+n:Nat):Int)=x1 at *
   generalize ((8+n:Nat):Int)=x2 at *
   generalize ((12+n:Nat):Int)=x3 at *
   have HS:=Lib.hid hset
   clear hset
   go_wp2_with fail
   refine HQ.out.mono ?_
   rintro e W ⟨rfl,hW⟩
   have HW:=Lib.hid (HS.out.trans H.out hW)
   clear hW
   go_wp2_with fail
   go_roundw
   case rel=>exact⟨n+1,by omega,by go_num,by rw[HE.out];exact HW.out⟩
   case measure=>simp[intOf];omega
  ·obtain rfl:n=4:=by omega
   have HS:=Lib.hid hset
   clear hset
   rw[show ((4:Nat):Int)=4 from rfl]
   go_wp2_with fail
   obtain⟨W2,eW2⟩:∃x,x=wr:=⟨_,rfl⟩
   rw[←eW2] at HS ⊢
   clear eW2
   go_loopw [17] (fun i wr=>∃ n:Nat,n≤4∧i=.int .i64 n∧Sets w g (wosA (dias (cols s 4) n)) wr) (fun i _=>4-(intOf i).toNat)
   case atStart=>exact⟨0,by decide,rfl,HS.out⟩
   case round =>
    obtain⟨n,hn,rfl,hset⟩:=hrel
    by_cases hn4:n<4
    ·have hn0:(n:Int)<4:=by omega
     have h1:IntKind.i64.wrap ((n:Int)+1)=((n+1:Nat):Int):=by rw[IntWalk.i64_in _ (by omega)];omega
     have h2:IntKind.i64.wrap ((n:Int)+2)=((n+2:Nat):Int):=by rw[IntWalk.i64_in _ (by omega)];omega
     have h3:IntKind.i64.wrap ((n:Int)+3)=((n+3:Nat):Int):=by rw[IntWalk.i64_in _ (by omega)];omega
     have t1:((n+1:Nat):Int).tmod 4=(((n+1)%4:Nat):Int):=rfl
     have t2:((n+2:Nat):Int).tmod 4=(((n+2)%4:Nat):Int):=rfl
     have t3:((n+3:Nat):Int).tmod 4=(((n+3)%4:Nat):Int):=rfl
     have m1:IntKind.i64.wrap (4+(((n+1)%4:Nat):Int))=((4+(n+1)%4:Nat):Int):=by rw[IntWalk.i64_in _ (by omega)];omega
     have m2:IntKind.i64.wrap (8+(((n+2)%4:Nat):Int))=((8+(n+2)%4:Nat):Int):=by rw[IntWalk.i64_in _ (by omega)];omega
     have m3:IntKind.i64.wrap (12+(((n+3)%4:Nat):Int))=((12+(n+3)%4:Nat):Int):=by rw[IntWalk.i64_in _ (by omega)];omega
     have HQ:=Lib.hid (ZhE g n (4+(n+1)%4) (8+(n+2)%4) (12+(n+3)%4) (dias (cols s 4) n) wr (by rw[ZdZ,Zcs,Hs.out]) (by omega) (by omega) (by omega) (by omega) (hset.row H.out))
     have HE:=Lib.hid (show dias (cols s 4) (n+1)=ZeW (dias (cols s 4) n) n (4+(n+1)%4) (8+(n+2)%4) (12+(n+3)%4) from rfl)
     generalize ((4+(n+1)%4:Nat):Int)=x1 at *
     generalize ((8+(n+2)%4:Nat):Int)=x2 at *
     generalize ((12+(n+3)%4:Nat):Int)=x3 at *
     generalize (((n+1)%4:Nat):Int)=y1 at *
     generalize (((n+2)%4:Nat):Int)=y2 at *
     generalize (((n+3)%4:Nat):Int)=y3 at *
     generalize ez1:((n+1:Nat):Int)=z1 at *
     have Ez1:=Lib.hid ez1
     clear ez1
     generalize ((n+2:Nat):Int)=z2 at *
     generalize ((n+3:Nat):Int)=z3 at *
     have HS:=Lib.hid hset
     clear hset
     go_wp2_with fail
     refine HQ.out.mono ?_
     rintro e W ⟨rfl,hW⟩
     have HW:=Lib.hid (HS.out.trans H.out hW)
     clear hW
     go_wp2_with fail
     go_roundw
     case rel=>exact⟨n+1,by omega,by rw[Ez1.out],by rw[HE.out];exact HW.out⟩
     case measure=>have:=Ez1.out;simp[intOf];omega
    ·obtain rfl:n=4:=by omega
     have HS:=Lib.hid hset
     clear hset
     go_wp2_with fail
     go_end0
     exact⟨rfl,HS.out⟩
set_option maxHeartbeats 1000000 in
set_option maxRecDepth 100000 in
theorem ZoQ (s:List Int) (hs:s.length=16) (w:World) :
  Calls Tryz.prog 166 #[.agg (wosA s)] w fun e w'=>e=.returned (.agg (bysA (outB s)))∧Below w.heap.size w w':=by
 have hsz:=ZcT hs
 go_enter Tryz.func166,Tryz.ntmps166
 go_wp2_with fail
 generalize hW:World.alloc _ _=W1
 have R0:=Lib.hid (show RowAt W1 w.heap.size (wosA s) by rw[←hW];clear hW;exact⟨by go_simp,by go_simp,by go_simp⟩)
 have Q0:=Lib.hid (show RowAt W1 (w.heap.size+1) (bysA (outP s 0)) by rw[←hW,Zft];clear hW;exact⟨by go_simp,by go_simp;rfl,by go_simp⟩)
 have K0:=Lib.hid (show RowAt W1 (w.heap.size+1+1) (bysA (outP s 0)) by rw[←hW,Zft];clear hW;exact⟨by go_simp,by go_simp;rfl,by go_simp⟩)
 have B0:=Lib.hid (show Below w.heap.size w W1 by rw[←hW];repeat (first | apply Zag | apply Zab | apply Below.drew | exact Below.refl _ _))
 clear hW
 go_loopw [5] (fun i wr=>∃ k:Nat,k≤64∧i=.int .i64 k∧RowAt wr (w.heap.size+1+1) (bysA (outP s k))∧Below (w.heap.size+1+1) W1 wr) (fun i _=>64-(intOf i).toNat)
 case atStart=>exact⟨0,by decide,rfl,K0.out,Below.refl _ _⟩
 case round =>
  obtain⟨k,hk,rfl,hrow,hbel⟩:=hrel
  by_cases hk64:k<64
  ·have hk0:(0:Int)≤(k:Int):=by omega
   have hk1:(k:Int)<64:=by omega
   have hq:(k:Int).tdiv 4=((k/4:Nat):Int):=rfl
   have hm:(k:Int).tmod 4=((k%4:Nat):Int):=rfl
   have hc:=ZbU (R0.out.keep hbel (by omega)) (k/4) (by omega)
   have hck:=hrow.cellAt k (ZaA _ k (by rw[Zbv];exact hk64))
   have hfk:=hrow.frozenAt k
   have Hset:=Lib.hid (Zki s k hk64)
   have h0:(0:Int)≤((k/4:Nat):Int):=by omega
   have h8:((k/4:Nat):Int)<16:=by omega
   obtain⟨m,em⟩:∃y,y=k%4*8:=⟨_,rfl⟩
   have h1:IntKind.i64.wrap (((k%4:Nat):Int)*8)=(m:Int):=by rw[IntWalk.i64_in _ (by omega)];omega
   have hm0:(0:Int)≤(m:Int):=by omega
   have hm1:(m:Int)≤32:=by omega
   obtain⟨v,ev⟩:∃v,v=oB s k:=⟨_,rfl⟩
   rw[←ev] at Hset
   have hv:s.getD (k/4) 0/2^m%256=(v:Int):=by rw[ev,ZlE,em];rfl
   clear em ev
   generalize s.getD (k/4) 0=x at hc hv
   have hqw:IntKind.i64.wrap ((k/4:Nat):Int)=((k/4:Nat):Int):=IntWalk.i64_in _ (by omega)
   generalize k/4=q at *
   generalize k%4=r4 at *
   have Hrow:=Lib.hid hrow
   have Hbel:=Lib.hid hbel
   clear hrow hbel
   go_wp2_with fail
   go_roundw
   case rel =>
    refine⟨k+1,by omega,by go_num,?_,?_⟩
    ·rw[←Hset.out,←ZbD];exact Hrow.out.setCell _ _
    ·exact Hbel.out.setCell (p:=⟨_,_,none⟩) (Nat.le_refl _) _
   case measure=>simp[intOf];omega
  ·obtain rfl:k=64:=by omega
   rw[ZkB] at hrow
   obtain⟨q1,q2,q3⟩:=Q0.out.keep hbel (by omega)
   obtain⟨r1,r2,r3⟩:=hrow
   have hz:=Zae (Zbv s 0)
   have hy:=Zae (Zc9 s)
   have Hbel:=Lib.hid hbel
   clear hbel
   go_wp2_with fail
   refine bodyPost_ret (v:=.agg (bysA (outB s))) (Zd0 Tryz.results166 hy _ _ _ rfl (by go_simp) (by go_simp)) rfl ⟨rfl,?_⟩
   exact Zac (B0.out.trans (Hbel.out.mono (by omega))) (by omega) _
set_option maxHeartbeats 1000000 in
set_option maxRecDepth 100000 in
theorem ZhP (k n:List Nat) (c:Int) (hk:k.length=32) (hkb:∀i,k.getD i 0<256) (hn:n.length=12) (hnb:∀i,n.getD i 0<256) (w:World) :
  Calls Tryz.prog 164 #[.agg (bysA k),.agg (bysA n),.int .u32 c] w fun e w'=>e=.returned (.agg (wosA (fst k n c)))∧Below w.heap.size w w':=by
 have hks:=Zae hk
 have hns:=Zae hn
 have hcs:=ZcT Zfv
 go_enter Tryz.func164,Tryz.ntmps164
 go_wp2_with fail
 generalize hW:World.alloc _ _=W1
 have K1:=Lib.hid (show RowAt W1 w.heap.size (bysA k) by rw[←hW];clear hW;exact⟨by go_simp,by go_simp,by go_simp⟩)
 have N1:=Lib.hid (show RowAt W1 (w.heap.size+1) (bysA n) by rw[←hW];clear hW;exact⟨by go_simp,by go_simp,by go_simp⟩)
 obtain⟨z0,hz0,hR0⟩:∃c:Array Value,c.size=16∧RowAt W1 (w.heap.size+1+1) c:=by rw[←hW];clear hW;exact⟨wosA (List.replicate 16 0),by rw[ZcV];rfl,by go_simp,by go_simp;rfl,by go_simp⟩
 have C1:=Lib.hid (show RowAt W1 (w.heap.size+1+1+1) (wosA cst0) by rw[←hW];clear hW;exact⟨by go_simp,by go_simp,by go_simp⟩)
 have B1:=Lib.hid (show Below w.heap.size w W1 by rw[←hW];repeat (first | apply Zag | apply Zab | apply Below.drew | exact Below.refl _ _))
 have R1:=Lib.hid hR0
 clear hW hR0
 have l0:w.heap.size≤w.heap.size+1+1+1:=by omega
 have l1:w.heap.size≤w.heap.size+1+1:=by omega
 have e0:w.heap.size≠w.heap.size+1+1+1:=by omega
 have e1:w.heap.size+1≠w.heap.size+1+1+1:=by omega
 have e2:w.heap.size+1+1≠w.heap.size+1+1+1:=by omega
 generalize w.heap.size+1+1+1=gc at *
 generalize w.heap.size+1+1=gr at *
 generalize w.heap.size+1=gn at *
 have HP:=Lib.hid (ZuD gc w.heap.size 4 32 32 cst0 k W1 hk.symm Zfv ZmE (by decide) hkb C1.out (ZaG K1.out) e0)
 refine HP.out.mono ?_
 rintro e W2 ⟨rfl,hS2⟩
 have N2:=Lib.hid (hS2.old N1.out e1)
 have R2:=Lib.hid (hS2.old R1.out e2)
 have C2:=Lib.hid (hS2.row C1.out)
 have B2:=Lib.hid (hS2.below B1.out l0 B1.out.size)
 clear hS2 HP K1 N1 R1 C1 B1
 have hc12:=ZbU C2.out 12 (by rw[Zbt];decide)
 have hf12:=C2.out.frozenAt 12
 have S3:=Lib.hid ((Sets.refl C2.out).cell (i:=12) (v:=.int .u32 c) C2.out)
 go_wp2_with fail
 generalize hW:World.setCell _ _ _=W3
 rw[hW] at S3
 clear hW hc12 hf12
 have hS3:=S3.out
 rw[Zci] at hS3
 have N3:=Lib.hid (hS3.old N2.out e1)
 have R3:=Lib.hid (hS3.old R2.out e2)
 have C3:=Lib.hid (show RowAt W3 gc (wosA (mid k c)) from hS3.row C2.out)
 have B3:=Lib.hid (hS3.below B2.out l0 B2.out.size)
 clear hS3 S3 N2 R2 C2 B2
 have HP:=Lib.hid (ZuD gc gn 13 12 12 (mid k c) n W3 hn.symm (ZgD k c) (Zoh k c) (by decide) hnb C3.out (ZaG N3.out) e1)
 rw[ZoN] at HP
 refine HP.out.mono ?_
 rintro e W4 ⟨rfl,hS4⟩
 obtain⟨r1,r2,r3⟩:=hS4.old R3.out e2
 obtain⟨c1,c2,c3⟩:=hS4.row C3.out
 have B4:=Lib.hid (hS4.below B3.out l0 B3.out.size)
 have hfz:=ZcT (ZdI k n c)
 clear hS4 HP N3 R3 C3 B3
 go_wp2_with fail
 refine bodyPost_ret (v:=.agg (wosA (fst k n c))) (ZkX Tryz.results164 hfz _ _ _ rfl (by go_simp) (by go_simp)) rfl ⟨rfl,?_⟩
 exact Zac B4.out l1 _
set_option maxHeartbeats 1000000 in
set_option maxRecDepth 100000 in
theorem ZkF (k n:List Nat) (c:Nat) (hk:k.length=32) (hkb:∀i,k.getD i 0<256) (hn:n.length=12) (hnb:∀i,n.getD i 0<256) (w:World) :
  Calls Tryz.prog 139 #[.agg (bysA k),.agg (bysA n),.int .u32 (c:Int)] w fun e w'=>e=.returned (.agg (bysA (blk k n c)))∧Below w.heap.size w w':=by
 have hks:=Zae hk
 have hns:=Zae hn
 have HF:=Lib.hid (ZhP k n (c:Int) hk hkb hn hnb)
 have Hb:=Lib.hid (Zqi k n c)
 have hlf:=ZdI k n (c:Int)
 generalize fst k n (c:Int)=F at *
 have hFs:=ZcT hlf
 have Hlf:=Lib.hid hlf
 clear hlf hk hkb hn hnb
 go_enter Tryz.func139,Tryz.ntmps139
 go_wp2_with fail
 generalize hW:World.alloc _ _=W1
 obtain⟨z0,hz0,hR0⟩:∃c:Array Value,c.size=64∧RowAt W1 (w.heap.size+1+1) c:=by rw[←hW];clear hW;exact⟨bysA (zs 64),by rw[Zal];rfl,by go_simp,by go_simp;rfl,by go_simp⟩
 have R1:=Lib.hid hR0
 have B1:=Lib.hid (show Below w.heap.size w W1 by rw[←hW];repeat (first | apply Zag | apply Zab | apply Below.drew | exact Below.refl _ _))
 clear hW hR0
 have l1:w.heap.size≤w.heap.size+1+1:=by omega
 generalize w.heap.size+1+1=gr at *
 refine(HF.out _).mono ?_
 rintro e W2 ⟨rfl,hb2⟩
 have R2:=Lib.hid (R1.out.grow hb2)
 have B2:=Lib.hid (B1.out.trans (hb2.mono B1.out.size))
 clear hb2 R1 B1 HF
 have l2:w.heap.size≤W2.heap.size:=B2.out.size
 have l3:gr<W2.heap.size:=R2.out.2.2
 go_wp2_with fail
 generalize hW:World.alloc _ _=W3
 have F3:=Lib.hid (show RowAt W3 W2.heap.size (wosA F) by rw[←hW];clear hW;exact⟨by go_simp,by go_simp,by go_simp⟩)
 have C3:=Lib.hid (show RowAt W3 (W2.heap.size+1) (wosA F) by rw[←hW];clear hW;exact⟨by go_simp,by go_simp,by go_simp⟩)
 have R3:=Lib.hid (show RowAt W3 gr z0 by rw[←hW];exact R2.out.grow (Zab (Zab (Below.refl _ _) _) _))
 have B3:=Lib.hid (show Below w.heap.size w W3 by rw[←hW];exact Zab (Zab B2.out _) _)
 clear hW R2 B2
 have e1:gr≠W2.heap.size+1:=by omega
 have e2:W2.heap.size≠W2.heap.size+1:=by omega
 have l4:w.heap.size≤W2.heap.size+1:=by omega
 generalize W2.heap.size+1=gc at *
 generalize W2.heap.size=gf at *
 go_loopw [15] (fun i wr=>∃ m:Nat,m≤10∧i=.int .i64 m∧Sets W3 gc (wosA (ZdK F m)) wr) (fun i _=>10-(intOf i).toNat)
 case atStart=>exact⟨0,by decide,rfl,Sets.refl C3.out⟩
 case round =>
  obtain⟨m,hm,rfl,hset⟩:=hrel
  by_cases hm10:m<10
  ·have hm0:(m:Int)<10:=by omega
   have HQ:=Lib.hid (Zhd gc (ZdK F m) wr (by rw[ZcH,Hlf.out]) (hset.row C3.out))
   have HS:=Lib.hid hset
   clear hset
   go_wp2_with fail
   refine HQ.out.mono ?_
   rintro e W ⟨rfl,hW⟩
   have HW:=Lib.hid (HS.out.trans C3.out hW)
   clear hW
   go_wp2_with fail
   go_roundw
   case rel=>exact⟨m+1,by omega,by go_num,HW.out⟩
   case measure=>simp[intOf];omega
  ·obtain rfl:m=10:=by omega
   have hlD:(ZdK F 10).length=16:=by rw[ZcH,Hlf.out]
   have HlD:=Lib.hid hlD
   generalize ZdK F 10=D at *
   have HS:=Lib.hid hset
   clear hset hlD
   rw[show ((10:Nat):Int)=10 from rfl]
   go_wp2_with fail
   have S4:=Lib.hid (show Sets W3 gc (wosA (sumW D F 0)) wr by rw[Zm7 D F HlD.out];exact HS.out)
   obtain⟨W4,eW4⟩:∃x,x=wr:=⟨_,rfl⟩
   rw[←eW4] at S4 ⊢
   clear eW4 HS
   go_loopw [19] (fun i wr=>∃ m:Nat,m≤16∧i=.int .i64 m∧Sets W3 gc (wosA (sumW D F m)) wr) (fun i _=>16-(intOf i).toNat)
   case atStart=>exact⟨0,by decide,rfl,S4.out⟩
   case round =>
    obtain⟨m,hm,rfl,hset⟩:=hrel
    by_cases hm16:m<16
    ·have hm0:(m:Int)<16:=by omega
     have hm1:(0:Int)≤(m:Int):=by omega
     have hrow:=hset.row C3.out
     have hca:=hrow.cellAt m (Zcu _ _ (Zfh D F m m hm16))
     rw[if_neg (by omega)] at hca
     have hcb:=ZbU (hset.old F3.out e2) m (by rw[Hlf.out];exact hm16)
     have Hset:=Lib.hid (Zpa D F m hm16)
     generalize D.getD m 0=xd at hca Hset
     generalize F.getD m 0=xf at hcb Hset
     have hgl:=hrow.2.2
     have hgf:=(hset.old F3.out e2).2.2
     have HS:=Lib.hid hset
     clear hset hrow
     go_wp2_with fail
     refine Zao wr [0,1,2,3,4,5,6,7] [false,false,false,false,false,false,false,false] [] [] 8 (by kernel_rfl) rfl (by kernel_rfl) (by intro c a d v w h;cases d<;>exact h) ((Below.refl _ _).drew) ?_
     simp only[pick,List.getElem?_cons_succ,List.getElem?_cons_zero,List.drop_succ_cons,List.drop_zero]
     iterate 8 (refine Zad (Zaa rfl) (by intro K o d hK;go_simp;exact hK _ (Below.refl _ _)) ?_)
     refine Zap ?_
     intro w2 hb2 _
     have S2:=Lib.hid (HS.out.grow hb2)
     have hc2:w2.cell? ⟨gc,m,none⟩=some (.int .u32 xd):=by rw[hb2.cell hgl];exact hca
     have hf2:=(S2.out.row C3.out).frozenAt m
     clear hb2 hca hcb HS
     go_wp2_with fail
     go_roundw
     case rel =>
      refine⟨m+1,by omega,by go_num,?_⟩
      rw[←Hset.out,←Zci];exact S2.out.cell C3.out
     case measure=>simp[intOf];omega
    ·obtain rfl:m=16:=by omega
     rw[ZoT] at hset
     obtain⟨c1,c2,c3⟩:=hset.row C3.out
     have hz:=ZcT (ZeF D F)
     have HQ:=Lib.hid (ZoQ (Zds D F) (ZeF D F) wr)
     have R5:=Lib.hid (hset.old R3.out e1)
     have B5:=Lib.hid (hset.below B3.out l4 B3.out.size)
     clear hset
     go_wp2_with fail
     refine HQ.out.mono ?_
     rintro e W6 ⟨rfl,hb6⟩
     obtain⟨r1,r2,r3⟩:=R5.out.grow hb6
     have B6:=Lib.hid (B5.out.trans (hb6.mono B5.out.size))
     have hy:=Zae (Zc9 (Zds D F))
     clear hb6
     go_wp2_with fail
     refine bodyPost_ret (v:=.agg (bysA (outB (Zds D F)))) (Zd0 Tryz.results139 hy _ _ _ rfl (by go_simp) (by go_simp)) rfl ⟨by rw[Hb.out],?_⟩
     exact Zac B6.out l1 _
set_option maxHeartbeats 400000 in
theorem Zlm (n:Nat) (hn:n≤1000000) (w:World):Calls Tryz.prog 138 #[.int .i64 (n:Int)] w fun e w'=>e=.returned (.int .i64 (((n+63)/64:Nat):Int))∧w'=w:=by
 have h1:IntKind.i64.wrap ((n:Int)+64)=((n+64:Nat):Int):=by rw[IntWalk.i64_in _ (by omega)];omega
 have h2:IntKind.i64.wrap (((n+64:Nat):Int)-1)=((n+63:Nat):Int):=by rw[IntWalk.i64_in _ (by omega)];omega
 have h3:((n+63:Nat):Int).tdiv 64=(((n+63)/64:Nat):Int):=rfl
 have h4:IntKind.i64.wrap (((n+63)/64:Nat):Int)=(((n+63)/64:Nat):Int):=by rw[IntWalk.i64_in _ (by omega)]
 generalize (((n+63)/64:Nat):Int)=x at *
 generalize ((n+63:Nat):Int)=y at *
 generalize ((n+64:Nat):Int)=z at *
 go_enter Tryz.func138,Tryz.ntmps138
 go_wp2_with fail
 go_ret
 exact⟨rfl,rfl⟩
set_option maxHeartbeats 1000000 in
set_option maxRecDepth 100000 in
theorem ZpO (k n:List Nat) (c m:Nat) (hk:k.length=32) (hkb:∀i,k.getD i 0<256) (hn:n.length=12) (hnb:∀i,n.getD i 0<256) (hm:m≤65536) (hc:c+(m+63)/64≤4294967296) (hc':c<4294967296) (w:World) :
  Calls Tryz.prog 108 #[.agg (bysA k),.agg (bysA n),.int .u32 (c:Int),.int .i64 (m:Int)] w fun e w'=>∃ g,e=.returned (.tuple #[.slice (some ⟨g,0,none⟩) m m,.int .i64 0])∧RowAt w' g (bysA (strm k n c m))∧w.heap.size≤g∧Below w.heap.size w w':=by
 have hks:=Zae hk
 have hns:=Zae hn
 have h3:¬(m:Int)<0:=by omega
 have h4:¬(65536:Int)<(m:Int):=by omega
 have HB:=Lib.hid (Zlm m (by omega))
 obtain⟨x,ex⟩:∃x,x=(m+63)/64:=⟨_,rfl⟩
 rw[←ex] at HB hc
 have h5:IntKind.u64.wrap (c:Int)=(c:Int):=IntWalk.u64_in _ (by omega)
 have h6:IntKind.u64.wrap (x:Int)=(x:Int):=IntWalk.u64_in _ (by omega)
 have h7:IntKind.u64.wrap ((c:Int)+(x:Int))=((c+x:Nat):Int):=by rw[IntWalk.u64_in _ (by omega)];omega
 have h8:¬(4294967296:Int)<((c+x:Nat):Int):=by omega
 generalize ((c+x:Nat):Int)=y at *
 have Ex:=Lib.hid ex
 have Hc:=Lib.hid hc
 have Hm:=Lib.hid hm
 have hxb:(x:Int)≤2000:=by omega
 clear ex hc hm
 have hmk:=fun W=>Zey W m (by have:=Hm.out;omega)
 have HBl:=Lib.hid (fun c'=>ZkF k n c' hk hkb hn hnb)
 clear hk hkb hn hnb
 go_enter Tryz.func108,Tryz.ntmps108
 go_wp2_with fail
 refine(HB.out _).mono ?_
 rintro e w' ⟨rfl,hwE⟩
 rw[hwE]
 clear hwE w'
 go_wp2_with fail
 generalize hW:World.alloc _ _=W1
 have K1:=Lib.hid (show RowAt W1 w.heap.size (bysA k) by rw[←hW];clear hW;exact⟨by go_simp,by go_simp,by go_simp⟩)
 have N1:=Lib.hid (show RowAt W1 (w.heap.size+1) (bysA n) by rw[←hW];clear hW;exact⟨by go_simp,by go_simp,by go_simp⟩)
 have S1:=Lib.hid (show RowAt W1 (w.heap.size+1+1) (bysA (strP k n c m (64*0))) by rw[←hW,Nat.mul_zero,Zlt];clear hW;exact⟨by go_simp,by go_simp,by go_simp⟩)
 have B1:=Lib.hid (show Below w.heap.size w W1 by rw[←hW];repeat (first | apply Zag | apply Zab | apply Below.drew | exact Below.refl _ _))
 clear hW
 have l0:w.heap.size≤w.heap.size+1+1:=by omega
 have e0:w.heap.size≠w.heap.size+1+1:=by omega
 have e1:w.heap.size+1≠w.heap.size+1+1:=by omega
 generalize w.heap.size+1+1=g at *
 generalize w.heap.size+1=gn at *
 go_loopw [29] (fun i wr=>∃ j:Nat,j≤x∧i=.int .i64 j∧Sets W1 g (bysA (strP k n c m (64*j))) wr) (fun i _=>x-(intOf i).toNat)
 case atStart=>exact⟨0,Nat.zero_le _,rfl,Sets.refl S1.out⟩
 case round =>
  obtain⟨j,hj,rfl,hset⟩:=hrel
  by_cases hjx:j<x
  ·have hj0:(j:Int)<(x:Int):=by omega
   have hju:64*j<m:=by have:=Ex.out;omega
   have hjw:IntKind.u32.wrap (j:Int)=(j:Int):=IntWalk.u32_in _ (by have:=Hm.out;omega)
   obtain⟨cj,ecj⟩:∃y,y=c+j:=⟨_,rfl⟩
   have hcj:ZaP (c:Int) (j:Int)=(cj:Int):=by unfold ZaP;rw[IntWalk.u32_in _ (by have:=Hc.out;omega),ecj];omega
   obtain⟨k1,k2,k3⟩:=hset.old K1.out e0
   obtain⟨n1,n2,n3⟩:=hset.old N1.out e1
   have hgl:=(hset.row S1.out).2.2
   obtain⟨u,eu⟩:∃u,u=64*j:=⟨_,rfl⟩
   have hjm:IntKind.i64.wrap ((j:Int)*64)=(u:Int):=by rw[IntWalk.i64_in _ (by have:=Hm.out;omega),eu];omega
   have hsl:=ZhZ g 0 m m u (by omega)
   rw[show adv 0 u m=u by unfold adv;rw[if_neg (by omega),Nat.zero_add]] at hsl
   obtain⟨t,et⟩:∃t,t=min 64 (m-u):=⟨_,rfl⟩
   have Hst:=Lib.hid (Zmx k n c m j t hju (by rw[et,eu]))
   rw[←ecj,←eu] at Hst
   rw[←eu] at hset
   have hPl:=Zc2 k n c m u
   have hbl:=ZdH k n cj
   have hbz:=Zae hbl
   have HBj:=Lib.hid (HBl.out cj wr)
   generalize blk k n cj=b at *
   generalize strP k n c m u=P at *
   have Et:=Lib.hid et
   have Eu:=Lib.hid eu
   have HPl:=Lib.hid hPl
   have Hbl:=Lib.hid hbl
   have Hju:=Lib.hid hju
   have HS:=Lib.hid hset
   clear hset ecj eu et hPl hbl hju
   go_wp2_with fail
   refine HBj.out.mono ?_
   rintro e W2 ⟨rfl,hb2⟩
   have S2:=Lib.hid (HS.out.grow hb2)
   clear hb2 k1 k2 k3 n1 n2 n3
   go_wp2_with fail
   generalize hW:World.alloc _ _=W3
   have b3:=Lib.hid (show RowAt W3 W2.heap.size (bysA b) by rw[←hW];clear hW;exact⟨by go_simp,by go_simp,by go_simp⟩)
   have S3:=Lib.hid (show Sets W1 g (bysA P) W3 by rw[←hW];exact S2.out.grow (Zab (Below.refl _ _) _))
   clear hW S2
   generalize W2.heap.size=gb at *
   refine ZaH W3 [0,1,2,3,4] [true,true,true,true,true] [5] (by kernel_rfl) (by kernel_rfl) (by intro c a d v w h;cases d<;>exact h) ((Below.refl _ _).drew) ?_
   simp only[pick,List.getElem?_cons_succ,List.getElem?_cons_zero]
   iterate 5 (refine Zaz (Zaa rfl) (fun w=>by go_simp;rfl) ?_)
   refine Zap ?_
   intro W4 hb4
   have S4:=Lib.hid (S3.out.grow hb4)
   have hcp:=ZfZ (c2:=m-u) (cap:=64) (d:=m-u) (s:=64) (u:=u) (k:=t) (S4.out.row S1.out) (by rw[HPl.out,Eu.out];have:=Hju.out;omega) (by rw[HPl.out]) Hbl.out.symm (by rw[HPl.out,Hbl.out,Et.out]) (Bs0.some (ZaG (b3.out.grow hb4)))
   rw[Hst.out] at hcp
   have S5:=Lib.hid (S4.out.set (c':=bysA (strP k n c m (64*(j+1)))) S1.out)
   generalize W4.setRow g (bysA (strP k n c m (64*(j+1))))=W5 at *
   clear hb4
   go_wp2_with fail
   go_roundw
   case rel=>exact⟨j+1,by omega,by go_num,S5.out⟩
   case measure=>simp[intOf];omega
  ·obtain rfl:j=x:=by omega
   have R2:=Lib.hid (hset.row S1.out)
   have B2:=Lib.hid (hset.below B1.out l0 B1.out.size)
   clear hset
   go_wp2_with fail
   refine bodyPost_ret (v:=.tuple #[.slice (some ⟨g,0,none⟩) m m,.int .i64 0]) (results_tmp2 Tryz.results108 _ _ _) rfl ⟨g,rfl,?_,l0,B2.out⟩
   have h1:=R2.out
   rw[Zpz k n c m _ (by have:=Ex.out;omega)] at h1
   exact h1
open Go.RowKit Go.Hold Go.Sh
@[go_sem ↓] theorem Zu1 (ps:Array (Nat×Value)):Instr.build 163 ps=bldA 163 ps:=rfl
set_option maxRecDepth 100000 in
@[go_sem] theorem ZrV (w:World):(bldA 163 #[]).run Tryz.prog w=.ok (.agg (bysA (zs 12))) w:=run_build w _ _ _ (by kernel_rfl)
open Go.RowKit Go.Hold Go.Sh Go.Ch Go.Cm Go.Hd
theorem ZsU (s:List Nat) (hs:s.length=32) (hsb:∀i,s.getD i 0<256) (w:World) (hT:Tabs w) :
  Calls Tryz.prog 58 #[.agg (bysA s),.string { data:=#[114,104,111] }] w fun e w'=>e=.returned (.agg (bysA (keyN (drv s rhoL))))∧Below w.heap.size w w':=by
 have:=Zhj s ⟨#[114,104,111]⟩ w hT hs hsb (by decide)
 rwa [Zbx,show purp++strB ⟨#[114,104,111]⟩=rhoL by decide] at this
theorem ZuF (s:List Nat) (hs:s.length=32) (hsb:∀i,s.getD i 0<256) (w:World) (hT:Tabs w) :
  Calls Tryz.prog 58 #[.agg (bysA s),.string { data:=#[109,117] }] w fun e w'=>e=.returned (.agg (bysA (keyN (drv s muL))))∧Below w.heap.size w w':=by
 have:=Zhj s ⟨#[109,117]⟩ w hT hs hsb (by decide)
 rwa [Zbx,show purp++strB ⟨#[109,117]⟩=muL by decide] at this
theorem ZsG (s:List Nat) (hs:s.length=32) (hsb:∀i,s.getD i 0<256) (w:World) (hT:Tabs w) :
  Calls Tryz.prog 58 #[.agg (bysA s),.string { data:=#[116,97,117] }] w fun e w'=>e=.returned (.agg (bysA (keyN (drv s tauL))))∧Below w.heap.size w w':=by
 have:=Zhj s ⟨#[116,97,117]⟩ w hT hs hsb (by decide)
 rwa [Zbx,show purp++strB ⟨#[116,97,117]⟩=tauL by decide] at this
set_option maxHeartbeats 1000000 in
set_option maxRecDepth 100000 in
theorem ZhS (s:List Nat) (hs:s.length=32) (hsb:∀i,s.getD i 0<256) (w:World) (hT:Tabs w) :
  Calls Tryz.prog 79 #[.agg (bysA s)] w fun e w'=>e=.returned (.agg (bysA (hst s)))∧Below w.heap.size w w':=by
 have hss:=Zae hs
 have hh:=Zae (ZaU s)
 have hzw:=Zae (Zah 192)
 have HD:=Lib.hid (fun (W:World) (h:Tabs W)=>ZsU s hs hsb W h)
 have HT:=Lib.hid hT
 have HS:=Lib.hid (fun (W:World)=>show Calls Tryz.prog 108 #[.agg (bysA (keyN (drv s rhoL))),.agg (bysA (zs 12)),.int .u32 0,.int .i64 192] W fun e w'=>∃ g,e=.returned (.tuple #[.slice (some ⟨g,0,none⟩) 192 192,.int .i64 0])∧RowAt w' g (bysA (hst s))∧W.heap.size≤g∧Below W.heap.size W w' by
  unfold hst
  exact ZpO (keyN (drv s rhoL)) (zs 12) 0 192 (Zar _) (ZbW _) (Zah 12) (Zbr 12) (by decide) (by decide) (by decide) W)
 have hcp:∀(W:World) (g b:Nat),RowAt W g (bysA (zs 192))→RowAt W b (bysA (hst s))→(Builtin.copy_ #[38,38] 3 #[.slice (some ⟨g,0,none⟩) 192 192,.slice (some ⟨b,0,none⟩) 192 192]).run Tryz.prog W=.ok (.int .i64 ((192:Nat):Int)) (W.setRow g (bysA (hst s))):=by
  intro W g b hg hb
  have:=Zb7 (c2:=192) (cap:=192) (d:=192) (s:=192) (k:=192) hg (by rw[Zah]) (ZaU s).symm (by rw[Zah,ZaU];decide) (Bs0.some (ZaG hb))
  rwa [show (hst s).take 192++(zs 192).drop 192=hst s by rw[List.take_of_length_le (by rw[ZaU];exact Nat.le_refl _),Zcq];simp[zs]] at this
 have Hcp:=Lib.hid hcp
 clear hs hsb hT hcp
 generalize hst s=H at *
 generalize keyN (drv s rhoL)=D at *
 go_enter Tryz.func79,Tryz.ntmps79
 go_wp2_with fail
 generalize hW:World.alloc _ _=W0
 have R0x0:=Lib.hid (show RowAt W0 (w.heap.size) (bysA s) by rw[←hW];clear hW;exact⟨by go_simp,by first | (go_simp;done) | (go_simp;rfl),by go_simp⟩)
 have R0x1:=Lib.hid (show RowAt W0 (w.heap.size+1) (bysA (zs 192)) by rw[←hW];clear hW;exact⟨by go_simp,by first | (go_simp;done) | (go_simp;rfl),by go_simp⟩)
 have R0x2:=Lib.hid (show RowAt W0 (w.heap.size+1+1) (bysA (zs 192)) by rw[←hW];clear hW;exact⟨by go_simp,by first | (go_simp;done) | (go_simp;rfl),by go_simp⟩)
 have B0:=Lib.hid (show Below w.heap.size w W0 by rw[←hW];repeat (first | apply Zab | exact Below.refl _ _))
 clear hW
 have hzs192:=Zae (Zah 192)
 have l_z:w.heap.size≤w.heap.size:=by omega
 have l_r:w.heap.size≤w.heap.size+1:=by omega
 have n_z_r:w.heap.size≠w.heap.size+1:=by omega
 have l_v:w.heap.size≤w.heap.size+1+1:=by omega
 have n_z_v:w.heap.size≠w.heap.size+1+1:=by omega
 have n_r_v:w.heap.size+1≠w.heap.size+1+1:=by omega
 generalize w.heap.size+1+1=v at *
 generalize w.heap.size+1=r at *
 obtain⟨z,ez⟩:∃z,z=w.heap.size:=⟨_,rfl⟩
 rw[←ez] at R0x0 n_z_r n_z_v ⊢
 have l_z:w.heap.size≤z:=by rw[ez];exact Nat.le_refl _
 clear ez
 refine(HD.out _ (HT.out.grow B0.out)).mono ?_
 rintro e W1 ⟨rfl,hb1⟩
 have R1x0:=Lib.hid (R0x0.out.grow hb1)
 have R1x1:=Lib.hid (R0x1.out.grow hb1)
 have R1x2:=Lib.hid (R0x2.out.grow hb1)
 have B1:=Lib.hid (B0.out.trans (hb1.mono B0.out.size))
 clear hb1 B0 R0x0 R0x1 R0x2
 obtain⟨R1x0a,R1x0b,R1x0c⟩:=R1x0.out
 obtain⟨R1x1a,R1x1b,R1x1c⟩:=R1x1.out
 obtain⟨R1x2a,R1x2b,R1x2c⟩:=R1x2.out
 go_wp2_with fail
 refine(HS.out _).mono ?_
 rintro e W2 ⟨g,rfl,hg,_,hb2⟩
 have HG:=Lib.hid hg
 clear hg
 clear R1x0a R1x0b R1x0c R1x1a R1x1b R1x1c R1x2a R1x2b R1x2c
 have R2x0:=Lib.hid (R1x0.out.grow hb2)
 have R2x1:=Lib.hid (R1x1.out.grow hb2)
 have R2x2:=Lib.hid (R1x2.out.grow hb2)
 have B2:=Lib.hid (B1.out.trans (hb2.mono B1.out.size))
 clear hb2 B1 R1x0 R1x1 R1x2
 have hcp:=Hcp.out _ _ _ R2x2.out HG.out
 obtain⟨R2x0a,R2x0b,R2x0c⟩:=R2x0.out
 obtain⟨R2x1a,R2x1b,R2x1c⟩:=R2x1.out
 obtain⟨R2x2a,R2x2b,R2x2c⟩:=R2x2.out
 go_wp2_with fail
 refine bodyPost_ret (v:=.agg (bysA H)) (ZcF Tryz.results79 hh _ _ _ rfl (by go_simp) (by go_simp)) rfl ⟨rfl,?_⟩
 exact Zac (Zac (B2.out) l_v _) l_r _
set_option maxHeartbeats 1000000 in
set_option maxRecDepth 100000 in
theorem Zu8 (s:List Nat) (hs:s.length=32) (hsb:∀i,s.getD i 0<256) (w:World) (hT:Tabs w) :
  Calls Tryz.prog 52 #[.agg (bysA s)] w fun e w'=>e=.returned (.agg (bysA (tagS s)))∧Below w.heap.size w w':=by
 have hss:=Zae hs
 have ht:=Zae (Zb5 s)
 have HD:=Lib.hid (fun (W:World) (h:Tabs W)=>ZsG s hs hsb W h)
 have HDl:=Lib.hid (Zar (drv s tauL))
 have HT:=Lib.hid hT
 unfold tagS at *
 clear hs hsb hT
 generalize keyN (drv s tauL)=D at *
 go_enter Tryz.func52,Tryz.ntmps52
 go_wp2_with fail
 generalize hW:World.alloc _ _=W0
 have R0x0:=Lib.hid (show RowAt W0 (w.heap.size) (bysA s) by rw[←hW];clear hW;exact⟨by go_simp,by first | (go_simp;done) | (go_simp;rfl),by go_simp⟩)
 have R0x1:=Lib.hid (show RowAt W0 (w.heap.size+1) (bysA (zs 16)) by rw[←hW];clear hW;exact⟨by go_simp,by first | (go_simp;done) | (go_simp;rfl),by go_simp⟩)
 have B0:=Lib.hid (show Below w.heap.size w W0 by rw[←hW];repeat (first | apply Zab | exact Below.refl _ _))
 clear hW
 have hzs16:=Zae (Zah 16)
 have l_z:w.heap.size≤w.heap.size:=by omega
 have l_r:w.heap.size≤w.heap.size+1:=by omega
 have n_z_r:w.heap.size≠w.heap.size+1:=by omega
 generalize w.heap.size+1=r at *
 obtain⟨z,ez⟩:∃z,z=w.heap.size:=⟨_,rfl⟩
 rw[←ez] at R0x0 n_z_r ⊢
 have l_z:w.heap.size≤z:=by rw[ez];exact Nat.le_refl _
 clear ez
 obtain⟨R0x0a,R0x0b,R0x0c⟩:=R0x0.out
 obtain⟨R0x1a,R0x1b,R0x1c⟩:=R0x1.out
 clear R0x0a R0x0b R0x0c R0x1a R0x1b R0x1c
 refine(HD.out _ (HT.out.grow B0.out)).mono ?_
 rintro e W1 ⟨rfl,hb1⟩
 have R1x0:=Lib.hid (R0x0.out.grow hb1)
 have R1x1:=Lib.hid (R0x1.out.grow hb1)
 have B1:=Lib.hid (B0.out.trans (hb1.mono B0.out.size))
 clear hb1 B0 R0x0 R0x1
 obtain⟨R1x0a,R1x0b,R1x0c⟩:=R1x0.out
 obtain⟨R1x1a,R1x1b,R1x1c⟩:=R1x1.out
 go_wp2_with fail
 refine(Znx D HDl.out _).mono ?_
 rintro e W2 ⟨rfl,hb2⟩
 clear R1x0a R1x0b R1x0c R1x1a R1x1b R1x1c
 have R2x0:=Lib.hid (R1x0.out.grow hb2)
 have R2x1:=Lib.hid (R1x1.out.grow hb2)
 have B2:=Lib.hid (B1.out.trans (hb2.mono B1.out.size))
 clear hb2 B1 R1x0 R1x1
 obtain⟨R2x0a,R2x0b,R2x0c⟩:=R2x0.out
 obtain⟨R2x1a,R2x1b,R2x1c⟩:=R2x1.out
 go_wp2_with fail
 refine bodyPost_ret (v:=.agg (bysA (D.take 16))) (ZbI Tryz.results52 ht _ _ _ rfl (by go_simp) (by go_simp)) rfl ⟨rfl,?_⟩
 exact Zac (B2.out) l_r _
set_option maxHeartbeats 1000000 in
set_option maxRecDepth 100000 in
theorem ZgQ (s a:List Nat) (hs:s.length=32) (hsb:∀i,s.getD i 0<256) (ha:a.length=32) (hab:∀i,a.getD i 0<256) (w:World) (hT:Tabs w) :
  Calls Tryz.prog 49 #[.agg (bysA s),.agg (bysA a)] w fun e w'=>e=.returned (.agg (bysA (bli s a)))∧Below w.heap.size w w':=by
 have hss:=Zae hs
 have has:=Zae ha
 have hm:=Zae (Zco s a)
 have HM:=Lib.hid (fun (W:World) (h:Tabs W) {p q:Option Addr} (hp:Bs0 W p s) (hq:Bs0 W q a) (hqc:q=none→32=0)=>ZqC (kc:=32) (bc:=32) (m:=32) (nb:=32) hs.symm ha.symm (rfl:mac s a=mac s a) h (by omega) hsb hp (by omega) (by omega) hab hq hqc)
 rw[show (keA (mac s a))=bysA (bli s a) by unfold bli;exact Zbx _] at HM
 have HT:=Lib.hid hT
 clear hs hsb hT ha hab
 generalize bli s a=M at *
 go_enter Tryz.func49,Tryz.ntmps49
 go_wp2_with fail
 generalize hW:World.alloc _ _=W0
 have R0x0:=Lib.hid (show RowAt W0 (w.heap.size) (bysA s) by rw[←hW];clear hW;exact⟨by go_simp,by first | (go_simp;done) | (go_simp;rfl),by go_simp⟩)
 have R0x1:=Lib.hid (show RowAt W0 (w.heap.size+1) (bysA a) by rw[←hW];clear hW;exact⟨by go_simp,by first | (go_simp;done) | (go_simp;rfl),by go_simp⟩)
 have R0x2:=Lib.hid (show RowAt W0 (w.heap.size+1+1) (bysA (zs 32)) by rw[←hW];clear hW;exact⟨by go_simp,by first | (go_simp;done) | (go_simp;rfl),by go_simp⟩)
 have B0:=Lib.hid (show Below w.heap.size w W0 by rw[←hW];repeat (first | apply Zab | exact Below.refl _ _))
 clear hW
 have hzs32:=Zae (Zah 32)
 have l_z:w.heap.size≤w.heap.size:=by omega
 have l_y:w.heap.size≤w.heap.size+1:=by omega
 have n_z_y:w.heap.size≠w.heap.size+1:=by omega
 have l_r:w.heap.size≤w.heap.size+1+1:=by omega
 have n_z_r:w.heap.size≠w.heap.size+1+1:=by omega
 have n_y_r:w.heap.size+1≠w.heap.size+1+1:=by omega
 generalize w.heap.size+1+1=r at *
 generalize w.heap.size+1=y at *
 obtain⟨z,ez⟩:∃z,z=w.heap.size:=⟨_,rfl⟩
 rw[←ez] at R0x0 n_z_y n_z_r ⊢
 have l_z:w.heap.size≤z:=by rw[ez];exact Nat.le_refl _
 clear ez
 refine ZaH W0 [0,1] [true,true] [2,3] (by kernel_rfl) (by kernel_rfl) (by intro c a d v w h;cases d<;>exact h) (by first | exact(Below.refl _ _).drew | exact Below.refl _ _) ?_
 simp only[pick,List.getElem?_cons_succ,List.getElem?_cons_zero]
 iterate 2 (refine Zaz (Zaa rfl) (fun w=>by go_simp;rfl) ?_)
 refine Zap ?_
 intro W1 hb1
 have R1x0:=Lib.hid (R0x0.out.grow hb1)
 have R1x1:=Lib.hid (R0x1.out.grow hb1)
 have R1x2:=Lib.hid (R0x2.out.grow hb1)
 have B1:=Lib.hid (B0.out.trans (hb1.mono B0.out.size))
 clear hb1 B0 R0x0 R0x1 R0x2
 go_wp2_with fail
 refine(HM.out _ (HT.out.grow B1.out) (Bs0.some (ZaG R1x0.out)) (Bs0.some (ZaG R1x1.out)) (fun h=>by cases h)).mono ?_
 rintro e W2 ⟨rfl,hb2⟩
 have R2x0:=Lib.hid (R1x0.out.grow hb2)
 have R2x1:=Lib.hid (R1x1.out.grow hb2)
 have R2x2:=Lib.hid (R1x2.out.grow hb2)
 have B2:=Lib.hid (B1.out.trans (hb2.mono B1.out.size))
 clear hb2 B1 R1x0 R1x1 R1x2
 obtain⟨R2x0a,R2x0b,R2x0c⟩:=R2x0.out
 obtain⟨R2x1a,R2x1b,R2x1c⟩:=R2x1.out
 obtain⟨R2x2a,R2x2b,R2x2c⟩:=R2x2.out
 go_wp2_with fail
 refine bodyPost_ret (v:=.agg (bysA M)) (Zav Tryz.results49 hm _ _ _ rfl (by go_simp) (by go_simp)) rfl ⟨rfl,?_⟩
 exact Zac (B2.out) l_r _
open Go.RowKit Go.Hold Go.Sh Go.Ch
theorem Zh1:∀(vs:List Value) (v:Value) (c:Array Value) (o:Nat),setL c o (vs++[v])=(setL c o vs).setIfInBounds (o+vs.length) v
 | [],_,_,_=>rfl
 | u::vs,v,c,o=>by
  rw[List.cons_append,setL,Zh1 vs,setL,List.length_cons,show o+1+vs.length=o+(vs.length+1) by omega]
def FrontB (c:Array Value) (l:List Nat):Prop:=l.length≤c.size∧∀ i,i<l.length→c[i]?=some (.int .u8 ((l.getD i 0:Nat):Int))
theorem FrontB.all (l:List Nat):FrontB (bysA l) l:=⟨by rw[Zal];exact Nat.le_refl _,fun i hi=>ZaA l i hi⟩
def xorC (c:Array Value) (l x:List Nat) (k:Nat):Array Value:=setL c 0 (bys ((mixd l x).take k))
theorem ZlU (c:Array Value) (l x:List Nat):xorC c l x 0=c:=rfl
theorem Zsp {c:Array Value} {l x:List Nat} (h:FrontB c l) (k:Nat) (hk:k<l.length):(xorC c l x k)[k]?=some (.int .u8 ((l.getD k 0:Nat):Int)):=by
 unfold xorC
 rw[ZcE,if_neg (by rw[Zay,List.length_take];omega)]
 exact h.2 k hk
theorem Zoe {c:Array Value} {l x:List Nat} (hx:x.length=l.length) (k:Nat) (hk:k<l.length):(xorC c l x k).setIfInBounds k (.int .u8 ((l.getD k 0 ^^^ x.getD k 0:Nat):Int))=xorC c l x (k+1):=by
 have hml:(mixd l x).length=l.length:=by rw[ZaL,hx]
 have h1:(mixd l x).take (k+1)=(mixd l x).take k++[l.getD k 0 ^^^ x.getD k 0]:=by
  rw[List.take_add_one,List.getElem?_eq_getElem (by omega)]
  congr 1
  simp[mixd]
 unfold xorC
 rw[h1,show bys ((mixd l x).take k++[l.getD k 0 ^^^ x.getD k 0])=bys ((mixd l x).take k)++[.int .u8 ((l.getD k 0 ^^^ x.getD k 0:Nat):Int)] by simp[bys],Zh1,Zay,List.length_take,Nat.zero_add,show min k (mixd l x).length=k by omega]
theorem Zpj (l x:List Nat) (hx:x.length=l.length):xorC (bysA l) l x l.length=bysA (mixd l x):=by
 unfold xorC
 have hml:(mixd l x).length=l.length:=by rw[ZaL,hx]
 rw[List.take_of_length_le (by omega),ZjT _ _ (by omega),List.drop_of_length_le (by omega),List.append_nil]
set_option maxHeartbeats 1000000 in
set_option maxRecDepth 100000 in
theorem Zqe (g n m cb cx:Nat) (q:Option Addr) (c:Array Value) (l x:List Nat) (w:World) (hc:RowAt w g c) (hf:FrontB c l) (hn:n=l.length) (hm:m=l.length) (hx:x.length=l.length) (hl:l.length≤100000) (hlb:∀i,l.getD i 0<256) (hxb:∀i,x.getD i 0<256) (hB:Bs w q x g) :
  Calls Tryz.prog 80 #[.slice (some ⟨g,0,none⟩) n cb,.slice q m cx] w fun e w'=>e=.returned (.tuple #[])∧Sets w g (xorC c l x l.length) w':=by
 subst hn hm
 obtain⟨n,en⟩:∃n,n=l.length:=⟨_,rfl⟩
 have hnl:n≤100000:=by omega
 have En:=Lib.hid en
 have Hx:=Lib.hid hx
 have Hc:=Lib.hid hc
 have Hf:=Lib.hid hf
 have HB:=Lib.hid hB
 have Hlb:=Lib.hid hlb
 have Hxb:=Lib.hid hxb
 rw[←en]
 clear hc hf hl hlb hxb hB hx en
 go_enter Tryz.func80,Tryz.ntmps80
 go_wp2_with fail
 go_loopw [8] (fun i wr=>∃ k:Nat,k≤n∧i=.int .i64 k∧Sets w g (xorC c l x k) wr) (fun i _=>n-(intOf i).toNat)
 case atStart=>exact⟨0,Nat.zero_le _,rfl,by rw[ZlU];exact Sets.refl Hc.out⟩
 case round =>
  obtain⟨k,hk,rfl,hset⟩:=hrel
  by_cases hkn:k<n
  ·have hk0:(0:Int)≤(k:Int):=by omega
   have hk1:(k:Int)<(n:Int):=by omega
   have hkl:k<l.length:=by rw[←En.out];exact hkn
   obtain⟨b,o,eq,hb,hbg⟩:∃b o,q=some ⟨b,o,none⟩∧BytesAt w b o x∧b≠g:=by
    rcases HB.out with h | h
    ·exfalso;have:=Hx.out;rw[h] at this;simp at this;omega
    ·exact h
   subst eq
   have hcx:=(hset.bytes hb hbg).2 k (by rw[Hx.out];exact hkl)
   have hrow:=hset.row Hc.out
   have hck:=hrow.cellAt k (Zsp Hf.out k hkl)
   have hfk:=hrow.frozenAt k
   have hxx:=u8_xor_nat (l.getD k 0) (x.getD k 0) (Hlb.out k) (Hxb.out k)
   have hst:=hset.cell Hc.out (i:=k) (v:=.int .u8 ((l.getD k 0 ^^^ x.getD k 0:Nat):Int))
   rw[Zoe Hx.out k hkl] at hst
   have Hst:=Lib.hid hst
   generalize l.getD k 0=y at *
   generalize x.getD k 0=z at *
   generalize y ^^^ z=v at *
   have hgl:=hrow.2.2
   clear hst hset hrow hb hkl
   go_wp2_with fail
   go_roundw
   case rel=>exact⟨k+1,by omega,by go_num,Hst.out⟩
   case measure=>simp[intOf];omega
  ·obtain rfl:k=n:=by omega
   have HS:=Lib.hid hset
   clear hset
   go_wp2_with fail
   go_end0
   exact⟨rfl,HS.out⟩
open Go.RowKit Go.Hold Go.Sh Go.Cm
theorem ZsF (n lim:Int) (w:World) :
  Calls Tryz.prog 68 #[.int .i64 n,.int .i64 lim] w fun e w'=>e=.returned (.bool (decide (0≤n∧n<lim)))∧w'=w:=by
 by_cases h0:0≤n
 ·by_cases h1:n<lim
  ·rw[decide_eq_true ⟨h0,h1⟩]
   go_enter Tryz.func68,Tryz.ntmps68
   go_wp2_with fail
   go_ret
   exact⟨rfl,rfl⟩
  ·rw[decide_eq_false (fun e=>h1 e.2)]
   go_enter Tryz.func68,Tryz.ntmps68
   go_wp2_with fail
   go_ret
   exact⟨rfl,rfl⟩
 ·rw[decide_eq_false (fun e=>h0 e.1)]
  go_enter Tryz.func68,Tryz.ntmps68
  go_wp2_with fail
  go_ret
  exact⟨rfl,rfl⟩
set_option maxHeartbeats 1000000 in
set_option maxRecDepth 100000 in
theorem ZnQ (c:Cmd) (hid:c.id.length=8) (w:World) :
  Calls Tryz.prog 30 #[.agg (cmdA c)] w fun e w'=>e=.returned (.bool c.may)∧Below w.heap.size w w':=by
 have hcs:=Zax hid
 have hz8:(zs 8).length=8:=rfl
 have BA:=Lib.hid (Zab (Below.refl w.heap.size w) (.cells (cmdA c) 51))
 have K:=Lib.hid (fun (lim:Int) (n:Int) (W:World)=>ZsF n lim W)
 by_cases k1:c.k=1
 ·have hm:c.may=(decide (0≤c.n∧c.n<16)&&decide (0≤c.d∧c.d<65)&&decide (c.id=zs 8)):=by unfold Cmd.may;rw[if_pos k1]
  have K1:=Lib.hid (K.out 16 c.n)
  have K2:=Lib.hid (K.out 65 c.d)
  rw[hm]
  generalize decide (0≤c.n∧c.n<16)=b1 at *
  generalize decide (0≤c.d∧c.d<65)=b2 at *
  clear hm K
  go_enter Tryz.func30,Tryz.ntmps30
  go_wp2_with fail
  refine(K1.out _).mono ?_
  rintro e w' ⟨rfl,rfl⟩
  cases b1
  ·go_wp2_with fail
   go_ret
   exact⟨rfl,BA.out⟩
  go_wp2_with fail
  refine(K2.out _).mono ?_
  rintro e w' ⟨rfl,rfl⟩
  cases b2
  ·go_wp2_with fail
   go_ret
   exact⟨rfl,BA.out⟩
  go_wp2_with fail
  go_ret
  exact⟨rfl,BA.out⟩
 by_cases k2:c.k=2
 ·have hm:c.may=(decide (0≤c.n∧c.n<8)&&decide (c.d=0)&&decide (c.id=zs 8)):=by unfold Cmd.may;rw[if_neg k1,if_pos k2]
  have K1:=Lib.hid (K.out 8 c.n)
  rw[hm]
  generalize decide (0≤c.n∧c.n<8)=b1 at *
  clear hm K
  by_cases hd:c.d=0
  ·rw[decide_eq_true hd]
   go_enter Tryz.func30,Tryz.ntmps30
   go_wp2_with fail
   refine(K1.out _).mono ?_
   rintro e w' ⟨rfl,rfl⟩
   cases b1
   ·go_wp2_with fail
    go_ret
    exact⟨rfl,BA.out⟩
   go_wp2_with fail
   go_ret
   exact⟨rfl,BA.out⟩
  rw[decide_eq_false hd]
  go_enter Tryz.func30,Tryz.ntmps30
  go_wp2_with fail
  refine(K1.out _).mono ?_
  rintro e w' ⟨rfl,rfl⟩
  cases b1
  ·go_wp2_with fail
   go_ret
   exact⟨rfl,BA.out⟩
  go_wp2_with fail
  go_ret
  exact⟨rfl,BA.out⟩
 by_cases k3:c.k=3
 ·have hm:c.may=(decide (0≤c.n∧c.n<8)&&decide (c.d=0)):=by unfold Cmd.may;rw[if_neg k1,if_neg k2,if_pos k3]
  have K1:=Lib.hid (K.out 8 c.n)
  rw[hm]
  generalize decide (0≤c.n∧c.n<8)=b1 at *
  clear hm K
  by_cases hd:c.d=0
  ·rw[decide_eq_true hd]
   go_enter Tryz.func30,Tryz.ntmps30
   go_wp2_with fail
   refine(K1.out _).mono ?_
   rintro e w' ⟨rfl,rfl⟩
   cases b1
   ·go_wp2_with fail
    go_ret
    exact⟨rfl,BA.out⟩
   go_wp2_with fail
   go_ret
   exact⟨rfl,BA.out⟩
  rw[decide_eq_false hd]
  have hd2:(c.d==0)=false:=by simpa using hd
  go_enter Tryz.func30,Tryz.ntmps30
  go_wp2_with fail
  refine(K1.out _).mono ?_
  rintro e w' ⟨rfl,rfl⟩
  cases b1
  ·go_wp2_with fail
   go_ret
   exact⟨rfl,BA.out⟩
  go_wp2_with fail
  go_ret
  exact⟨rfl,BA.out⟩
 by_cases k4:c.k=4
 ·have hm:c.may=(decide (c.n=0)&&decide (c.d=0)&&decide (c.id=zs 8)):=by unfold Cmd.may;rw[if_neg k1,if_neg k2,if_neg k3,if_pos k4]
  rw[hm]
  clear hm K
  by_cases hn:c.n=0
  ·rw[decide_eq_true hn]
   by_cases hd:c.d=0
   ·rw[decide_eq_true hd]
    go_enter Tryz.func30,Tryz.ntmps30
    go_wp2_with fail
    go_ret
    exact⟨rfl,BA.out⟩
   rw[decide_eq_false hd]
   go_enter Tryz.func30,Tryz.ntmps30
   go_wp2_with fail
   go_ret
   exact⟨rfl,BA.out⟩
  rw[decide_eq_false hn]
  go_enter Tryz.func30,Tryz.ntmps30
  go_wp2_with fail
  go_ret
  exact⟨rfl,BA.out⟩
 have hm:c.may=false:=by unfold Cmd.may;rw[if_neg k1,if_neg k2,if_neg k3,if_neg k4]
 rw[hm]
 clear hm K
 go_enter Tryz.func30,Tryz.ntmps30
 go_wp2_with fail
 go_ret
 exact⟨rfl,BA.out⟩
open Go.RowKit Go.Hold Go.Sh Go.Oc
def wrow (mk:Bool) (er room:Int) (v:Value):Array Value:=#[.bool mk,.int .i64 er,.int .i64 room,v]
def rrow (mk:Bool) (er:Int) (v:Value):Array Value:=#[.bool mk,.int .i64 er,v]
theorem Zls (g:Nat) (mk:Bool) (er:Int) (w:World) (h0:w.cell? ⟨g,0,none⟩=some (.bool mk)) (h1:w.cell? ⟨g,1,none⟩=some (.int .i64 er)) :
  Calls Tryz.prog 140 #[.pointer (some ⟨g,0,none⟩)] w fun e w'=>e=.returned (.int .i64 (if mk then er else 1))∧w'=w:=by
 cases mk
 ·go_enter Tryz.func140,Tryz.ntmps140
  go_wp2_with fail
  go_ret
  exact⟨rfl,rfl⟩
 ·go_enter Tryz.func140,Tryz.ntmps140
  go_wp2_with fail
  go_ret
  exact⟨rfl,rfl⟩
theorem ZgF (g:Nat) (er e0:Int) (w:World) (h1:w.cell? ⟨g,1,none⟩=some (.int .i64 e0)) (hf:w.frozen? ⟨g,1,none⟩=false) :
  Calls Tryz.prog 111 #[.pointer (some ⟨g,0,none⟩),.int .i64 er] w fun e w'=>e=.returned (.int .i64 er)∧w'=w.setCell ⟨g,1,none⟩ (.int .i64 er):=by
 go_enter Tryz.func111,Tryz.ntmps111
 go_wp2_with fail
 go_ret
 exact⟨rfl,rfl⟩
theorem ZkG (g:Nat) (mk:Bool) (er:Int) (w:World) (h0:w.cell? ⟨g,0,none⟩=some (.bool mk)) (h1:w.cell? ⟨g,1,none⟩=some (.int .i64 er)) :
  Calls Tryz.prog 156 #[.pointer (some ⟨g,0,none⟩)] w fun e w'=>e=.returned (.int .i64 (if mk then er else 1))∧w'=w:=by
 have K:=Lib.hid (Zls g mk er w h0 h1)
 generalize (if mk=true then er else 1)=x at *
 go_enter Tryz.func156,Tryz.ntmps156
 go_wp2_with fail
 refine K.out.mono ?_
 rintro e w' ⟨rfl,rfl⟩
 go_wp2_with fail
 go_ret
 exact⟨rfl,rfl⟩
theorem Zk3 (g:Nat) (mk:Bool) (er:Int) (w:World) (h0:w.cell? ⟨g,0,none⟩=some (.bool mk)) (h1:w.cell? ⟨g,1,none⟩=some (.int .i64 er)) :
  Calls Tryz.prog 110 #[.pointer (some ⟨g,0,none⟩)] w fun e w'=>e=.returned (.int .i64 (if mk then er else 1))∧w'=w:=by
 have K:=Lib.hid (Zls g mk er w h0 h1)
 generalize (if mk=true then er else 1)=x at *
 go_enter Tryz.func110,Tryz.ntmps110
 go_wp2_with fail
 refine K.out.mono ?_
 rintro e w' ⟨rfl,rfl⟩
 go_wp2_with fail
 go_ret
 exact⟨rfl,rfl⟩
def digP (n size i:Nat):List Nat:=(digN n size).take i++zs (size-i)
theorem ZmV (n size:Nat):digP n size 0=zs size:=by simp[digP]
theorem ZoZ (n size:Nat):digP n size size=digN n size:=by
 unfold digP
 rw[List.take_of_length_le (by rw[ZbB];exact Nat.le_refl _),Nat.sub_self];simp[zs]
theorem Zjl (n size i:Nat) (h:i≤size):(digP n size i).length=size:=by
 unfold digP;rw[List.length_append,List.length_take,ZbB,Zah];omega
theorem ZoY (n size i:Nat) (h:i<size):(digP n size i).set i (dgt n size i)=digP n size (i+1):=by
 unfold digP
 have hx:i<(digN n size).length:=by rw[ZbB];exact h
 have e:zs (size-i)=0::zs (size-(i+1)):=by
  obtain⟨k,hk⟩:∃k,size-i=k+1:=⟨size-i-1,by omega⟩
  rw[hk,show size-(i+1)=k by omega];rfl
 have hlen:((digN n size).take i).length=i:=by rw[List.length_take];omega
 rw[List.set_append,if_neg (by omega),hlen,Nat.sub_self,e,List.set_cons_zero,List.take_add_one,List.getElem?_eq_getElem hx,List.append_assoc]
 congr 2
 simp[digN]
set_option maxHeartbeats 600000 in
set_option maxRecDepth 100000 in
theorem ZsQ (n s:Nat) (h0:1≤s) (h8:s≤8) (w:World) :
  Calls Tryz.prog 158 #[.int .u64 (n:Int),.int .i64 (s:Int)] w fun e w'=>∃ g,e=.returned (.slice (some ⟨g,0,none⟩) s s)∧RowAt w' g (bysA (digN n s))∧w.heap.size≤g∧Below w.heap.size w w':=by
 have hmk:=Zey w s (by omega)
 have H8:=Lib.hid h8
 have H0:=Lib.hid h0
 obtain⟨s1,es1⟩:∃y,y=s-1:=⟨_,rfl⟩
 have k1:IntKind.i64.wrap ((s:Int)-1)=(s1:Int):=by rw[IntWalk.i64_in _ (by omega)];omega
 have Es1:=Lib.hid es1
 clear h8 h0 es1
 go_enter Tryz.func158,Tryz.ntmps158
 go_wp2_with fail
 generalize hW:World.alloc _ _=W0
 have R0:=Lib.hid (show RowAt W0 w.heap.size (bysA (digP n s 0)) by rw[←hW,ZmV];exact RowAt.of (Zas w _))
 have B0:=Lib.hid (show Below w.heap.size w W0 by rw[←hW];exact Zab (Below.refl _ _) _)
 clear hW hmk
 have hgl:w.heap.size≤w.heap.size:=Nat.le_refl _
 generalize eg:w.heap.size=g at R0 hgl ⊢
 have Eg:=Lib.hid eg
 clear eg
 go_loopw [11] (fun i wr=>∃ j:Nat,j≤s∧i=.int .i64 j∧Sets W0 g (bysA (digP n s j)) wr) (fun i _=>s-(intOf i).toNat)
 case atStart=>exact⟨0,Nat.zero_le _,rfl,Sets.refl R0.out⟩
 case round =>
  obtain⟨j,hj,rfl,hset⟩:=hrel
  by_cases hj8:j<s
  ·have hj0:(0:Int)≤(j:Int):=by omega
   have hj1:(j:Int)<(s:Int):=by omega
   have hjb:(j:Int)<8:=by have:=H8.out;omega
   have hrow:=hset.row R0.out
   have hc:=hrow.cellAt j (ZaA _ j (by rw[Zjl _ _ _ hj];exact hj8))
   have hf:=hrow.frozenAt j
   obtain⟨t,et⟩:∃y,y=s-1-j:=⟨_,rfl⟩
   have hw0:IntKind.i64.wrap ((s1:Int)-(j:Int))=(t:Int):=by rw[IntWalk.i64_in _ (by have:=H8.out;have:=Es1.out;omega)];have:=Es1.out;omega
   obtain⟨y,ey⟩:∃y,y=8*t:=⟨_,rfl⟩
   have hw1:IntKind.i64.wrap (8*(t:Int))=(y:Int):=by rw[IntWalk.i64_in _ (by have:=H8.out;omega)];omega
   have hy0:(0:Int)≤(y:Int):=by omega
   have hy1:(y:Int)≤64:=by have:=H8.out;omega
   obtain⟨x,ex⟩:∃x,x=dgt n s j:=⟨_,rfl⟩
   have hx:(n:Int)/2^y%256=(x:Int):=by rw[ex,ey,et];unfold dgt;simp
   have Hset:=Lib.hid (ZoY n s j hj8)
   rw[←ex] at Hset
   have HS:=Lib.hid hset
   have hg3:=hrow.2.2
   clear hset hrow ex ey et
   go_wp2_with fail
   go_roundw
   case rel =>
    refine⟨j+1,by omega,by go_num,?_⟩
    rw[←Hset.out,←ZbD];exact HS.out.cell R0.out
   case measure=>simp[intOf];omega
  ·obtain rfl:j=s:=by omega
   have R1:=Lib.hid (hset.row R0.out)
   have B1:=Lib.hid (hset.below B0.out (by rw[Eg.out];exact hgl) B0.out.size)
   rw[ZoZ] at R1
   clear hset
   go_wp2_with fail
   go_ret
   exact⟨g,rfl,R1.out,Nat.le_of_eq Eg.out,B1.out⟩
@[go_sem] theorem Zsu (a:Option Addr) (l c:Nat) (w:World):(binOp .eql 38 (.slice a l c) (.slice none 0 0)).run Tryz.prog w=.ok (.bool a.isNone) w:=by
 simp only[binOp]
 simp[run_equal_slice_nil w 38 5 a l c Tryz.underlying38]
set_option maxHeartbeats 400000 in
set_option maxRecDepth 100000 in
theorem ZiO (p:Option Addr) (l:List Nat) (n cap:Nat) (w:World) (hn:n=l.length) (hB:Bs0 w p l) (hp:p=none→cap=0) (hl:l.length≤16000000) :
  Calls Tryz.prog 109 #[.slice p n cap] w fun e w'=>∃ v,e=.returned v∧OwnB w' w.heap.size v l∧Below w.heap.size w w':=by
 cases p with
 | none =>
  have hl0:l=[]:=by
   rcases hB with h | ⟨b,o,h,_⟩
   ·exact h
   ·cases h
  subst hl0
  subst hn
  rw[hp rfl]
  go_enter Tryz.func109,Tryz.ntmps109
  go_wp2_with fail
  go_ret
  exact⟨_,rfl,Zbo w _,Below.refl _ _⟩
 | some a =>
  have BA:=Zab (Below.refl w.heap.size w) (.cells #[] 5)
  have hE:=Zcn w w.heap.size (Nat.le_refl _)
  obtain⟨v1,w1,hr1,ho1,hg1⟩:=ZcR (cap:=cap) hE (hB.grow BA) hn (fun h=>by cases h) BA.size (by simp only[List.length_nil];omega)
  have hb1:=Zbn BA hE BA.size hg1
  rw[List.nil_append] at ho1
  have HO:=Lib.hid ho1
  have HB:=Lib.hid hb1
  clear BA hE ho1 hg1 hb1 hB hp hl hn
  go_enter Tryz.func109,Tryz.ntmps109
  go_wp2_with (at_builtin;refine Lib.wpList_append_run _ rfl _ _ _ _ rfl _ _ rfl rfl _ _ hr1 ?_)
  go_wp2_with fail
  go_ret
  exact⟨_,rfl,HO.out,HB.out⟩
def Wr (w:World) (B g:Nat) (ob:Option Nat) (room:Nat) (s:Ws):Prop :=
 ∃ v,RowAt w g (wrow true s.1 room v)∧OwnB w B v s.2∧v.ownBlock=ob∧ob≠some g∧B≤g∧s.2.length≤room∧room≤65536
def WStep (w:World) (B g:Nat) (ob:Option Nat) (room:Nat) (s':Ws) (w':World):Prop:=∃ ob',Wr w' B g ob' room s'∧NewB w ob ob'∧Moves w g ob w'
theorem Wr.row {w:World} {B g room:Nat} {ob:Option Nat} {s:Ws} (h:Wr w B g ob room s):∃v,RowAt w g (wrow true s.1 room v):=by
 obtain⟨v,h,_⟩:=h;exact⟨v,h⟩
theorem Wr.lt {w:World} {B g room:Nat} {ob:Option Nat} {s:Ws} (h:Wr w B g ob room s):g<w.heap.size∧∀ k,ob=some k→B≤k∧k<w.heap.size:=by
 obtain⟨v,h,ho,rfl,_⟩:=h
 exact⟨h.2.2,World.ownsRow.lt ho⟩
theorem Wr.base {w:World} {B g room:Nat} {ob:Option Nat} {s:Ws} (h:Wr w B g ob room s):B≤g:=by
 obtain⟨v,_,_,_,_,h,_⟩:=h;exact h
theorem Wr.le {w:World} {B g room:Nat} {ob:Option Nat} {s:Ws} (h:Wr w B g ob room s):s.2.length≤room∧room≤65536:=by
 obtain⟨v,_,_,_,_,_,h⟩:=h;exact h
theorem Wr.apart {w:World} {B g room:Nat} {ob:Option Nat} {s:Ws} (h:Wr w B g ob room s):ob≠some g:=by
 obtain⟨v,_,_,_,h,_⟩:=h;exact h
theorem Wr.moves {w w':World} {B g room g2:Nat} {ob ob2:Option Nat} {s:Ws} (h:Wr w B g ob room s) (m:Moves w g2 ob2 w') (h1:g≠g2) (h2:ob2≠some g) (h3:ob≠some g2) (h4:∀k,ob=some k→ob2≠some k):Wr w' B g ob room s:=by
 obtain⟨v,hr,ho,rfl,ha⟩:=h
 exact⟨v,RowAt.moves hr m h1 h2,ho.moves m h3 h4,rfl,ha⟩
theorem Wr.grow {w w':World} {B g room:Nat} {ob:Option Nat} {s:Ws} (h:Wr w B g ob room s) (hb:Below w.heap.size w w'):Wr w' B g ob room s:=by
 obtain⟨v,hr,ho,rfl,ha⟩:=h
 exact⟨v,hr.grow hb,ho.below hb,rfl,ha⟩
theorem WStep.below {w0 w w':World} {B g room:Nat} {ob:Option Nat} {s s':Ws} (h:WStep w B g ob room s' w') (h0:Wr w B g ob room s) (hb:Below B w0 w) (hB:B≤w.heap.size):Below B w0 w':=by
 obtain⟨ob',_,_,m⟩:=h
 exact m.below hb hB h0.base fun k hk=>(h0.lt.2 k hk).1
set_option maxHeartbeats 400000 in
set_option maxRecDepth 100000 in
theorem Zjd (room:Nat) (h:room≤65536) (w:World) :
  Calls Tryz.prog 128 #[.int .i64 (room:Int)] w fun e w'=>∃ g,e=.returned (.pointer (some ⟨g,0,none⟩))∧Wr w' w.heap.size g none room (0,[])∧Below w.heap.size w w':=by
 have h0:¬(room:Int)<0:=by omega
 have h1:¬(65536:Int)<(room:Int):=by omega
 have H:=Lib.hid h
 clear h
 go_enter Tryz.func128,Tryz.ntmps128
 go_wp2_with fail
 go_ret
 exact⟨_,rfl,⟨_,RowAt.of (Zas w _),Zbo _ _,rfl,(fun e=>by cases e),Nat.le_refl _,Nat.zero_le _,H.out⟩,Zab (Below.refl _ _) _⟩
theorem WStep.err {w w1:World} {B g room:Nat} {ob:Option Nat} {s:Ws} (h:Wr w B g ob room s) (hb:Below w.heap.size w w1) (er:Int):WStep w B g ob room (er,s.2) (w1.setCell ⟨g,1,none⟩ (.int .i64 er)):=by
 have hlt:=h.lt
 obtain⟨v,hr,ho,rfl,ha⟩:=h
 have hr1:=hr.grow hb
 rw[Za8 hr1]
 refine⟨_,⟨v,hr1.set _,?_,rfl,ha⟩,NewB.refl _ _,(Moves.of g _ hb).setRow _⟩
 exact(ho.below hb).moves (Moves.setRow (Moves.refl w1 g none) _) ha.1 (fun _ _ e=>by cases e)
theorem WStep.put {w w1:World} {B g room:Nat} {ob:Option Nat} {s:Ws} {l':List Nat} {v' v0:Value} (h:Wr w B g ob room s) (m:Moves w g ob w1) (hr:RowAt w1 g (wrow true s.1 room v0)) (ho:OwnB w1 B v' l') (hn:NewB w ob v'.ownBlock) (hl:l'.length≤room) :
  WStep w B g ob room (s.1,l') (w1.setCell ⟨g,3,none⟩ v'):=by
 have hlt:=h.lt
 have hap:=h.apart
 have hne:v'.ownBlock≠some g:=hn.ne hap hlt.1
 rw[Za8 hr]
 refine⟨_,⟨v',hr.set _,?_,rfl,hne,h.base,hl,h.le.2⟩,hn,m.setRow _⟩
 exact ho.moves (Moves.setRow (Moves.refl w1 g none) _) hne (fun _ _ e=>by cases e)
theorem ZrP {w:World} {B:Nat} {v:Value} {l m:List Nat} {p:Option Addr} {cap k:Nat} (h:OwnB w B v l) (hB:Bs0 w p m) (hk:k=m.length) (hp:p=none→cap=0) (hBw:B≤w.heap.size) (hlen:l.length+m.length≤16777216) :
  ∃ v' w',(Builtin.append_ #[38,38] 38 #[v,.slice p k cap]).run Tryz.prog w=.ok v' w'∧OwnB w' B v' (l++m)∧w.grownBy w' v.ownBlock∧NewB w v.ownBlock v'.ownBlock:=by
 subst hk
 obtain⟨i0,hi,hz0,hz1,hz2⟩:=info_parts ZcQ
 cases p with
 | none =>
  have hm:m=[]:=by
   rcases hB with h | ⟨b,o,h,_⟩
   ·exact h
   ·cases h
  subst hm
  rw[hp rfl]
  exact⟨v,w,run_append_owned_none (P:=Tryz.prog) (w:=w) B _ _ _ i0 1 Tryz.underlying38 hi v _ _ h,by rw[List.append_nil];exact h,⟨rfl,rfl,rfl,Nat.le_refl _,fun _ _ _=>rfl⟩,NewB.refl _ _⟩
 | some a =>
  have hnews:∀j u,(bys m)[j]?=some u→w.cell? (a.add j)=some u:=by
   rcases hB with rfl | ⟨b,o,he,hB⟩
   ·intro j u hu;simp[bys] at hu
   ·cases he;exact ZgG hB
  obtain⟨v',w',h1,h2,h3,h4⟩:=run_append_own (P:=Tryz.prog) w B 38 38 5 i0 (.int .u8 0) 1 1 Tryz.underlying38 hi hz0 hz1 hz2 rfl (by decide) v l.length (bys l) h a m.length cap (bys m) (by rw[Zay,Nat.mul_one]) hnews (Zc7 m) (ZaK hlen) (by omega) hBw
  refine⟨v',w',h1,OwnB.snoc h2,h3,?_⟩
  rcases h.2 with ⟨rfl,h0⟩ | ⟨g0,cap0,cur,rfl,hb,hgg,hc,hm,hs,ht⟩
  ·by_cases hm0:0<m.length
   ·have hr:=run_append_nil (P:=Tryz.prog) w 38 38 5 i0 (.int .u8 0) Tryz.underlying38 hi hz0 a m.length cap (bys m) (by rw[hz1,Zay,Nat.mul_one]) hnews hm0 (by omega) (by rw[hz2];omega)
    rw[h1] at hr
    cases hr
    intro k hk
    simp only[Value.ownBlock,Option.some.injEq] at hk
    exact .inr (by omega)
   ·intro k hk
    rw[h4.2 ⟨rfl,by omega⟩] at hk
    cases hk
  ·by_cases hroom:l.length+m.length≤cap0
   ·have hr:=run_append_room (P:=Tryz.prog) w 38 38 5 i0 Tryz.underlying38 hi g0 l.length cap0 cur hgg a m.length cap (bys m) (by rw[hz1,Zay,Nat.mul_one]) hnews (Zc7 _) hroom (by rw[hz1,Zay];omega)
    rw[h1] at hr
    cases hr
    exact NewB.refl _ _
   ·have hr:=run_append_grow (P:=Tryz.prog) w 38 38 5 i0 (.int .u8 0) Tryz.underlying38 hi hz0 ⟨g0,0,none⟩ l.length cap0 (bys l) (by rw[hz1,Zay,Nat.mul_one]) (World.ownsRow.cells h (g:=g0) rfl) a m.length cap (bys m) (by rw[hz1,Zay,Nat.mul_one]) hnews (by omega) (by omega) (by rw[hz2];exact growslice_fits (by omega) (by omega))
    rw[h1] at hr
    cases hr
    intro k hk
    simp only[Value.ownBlock,Option.some.injEq] at hk
    exact .inr (by omega)
set_option maxHeartbeats 600000 in
set_option maxRecDepth 100000 in
theorem Zsf (B g:Nat) (ob:Option Nat) (room:Nat) (l m:List Nat) (p:Option Addr) (k cap:Nat) (w:World) (h:Wr w B g ob room (0,l)) (hk:k=m.length) (hB:Bs0 w p m) (hp:p=none→cap=0) :
  Calls Tryz.prog 157 #[.pointer (some ⟨g,0,none⟩),.slice p k cap] w fun e w'=>e=.returned (.int .i64 (layS room l m).1)∧WStep w B g ob room (layS room l m) w':=by
 have H:=Lib.hid h
 obtain⟨v,hr,ho,rfl,hg,hBg,hle,hroom⟩:=h
 simp only at hr ho hle
 have hown:=ho
 have HR:=Lib.hid hr
 obtain⟨p0,c0,rfl,_⟩:=ho.bs
 have hc1:=hr.cellAt 1 (show (wrow true 0 room (.slice p0 l.length c0))[1]?=some (.int .i64 0) from rfl)
 have hc2:=hr.cellAt 2 (show (wrow true 0 room (.slice p0 l.length c0))[2]?=some (.int .i64 (room:Int)) from rfl)
 have hc3:=hr.cellAt 3 (show (wrow true 0 room (.slice p0 l.length c0))[3]?=some (.slice p0 l.length c0) from rfl)
 have hf1:=hr.frozenAt 1
 have hgl:=hr.2.2
 obtain⟨n,en⟩:∃n,n=l.length:=⟨_,rfl⟩
 obtain⟨q,eq⟩:∃q,q=room-n:=⟨_,rfl⟩
 have k1:IntKind.i64.wrap ((room:Int)-(n:Int))=(q:Int):=by rw[IntWalk.i64_in _ (by omega)];omega
 by_cases hfull:room<l.length+m.length
 ·have hlay:layS room l m=(8,l):=by unfold layS;rw[if_pos hfull]
  have h1:(q:Int)<(k:Int):=by omega
  have Hg:=Lib.hid hown
  rw[hlay]
  rw[←en] at hc3
  have En:=Lib.hid en
  clear hr ho hg hBg hle hroom hB hp hk hlay hfull eq hc1 hf1 hown en
  go_enter Tryz.func157,Tryz.ntmps157
  go_wp2_with fail
  refine ZaB (fun w'=>∃ o d,w'=w.plus o d) (by kernel_rfl) (by kernel_rfl) ⟨#[],_,rfl⟩ ?_
  iterate 13 (refine Zau ⟨_,#[],0,rfl⟩ (Zaa rfl) (by rintro K _ ⟨o,d,rfl⟩ hK;go_simp;exact hK _ ⟨o,d,rfl⟩) ?_)
  refine Zaw ?_
  rintro _ ⟨of1,nf1,rfl⟩
  have hb1:=Zag (Below.refl w.heap.size w) of1 nf1
  generalize w.plus of1 nf1=W1 at *
  have hr1:=HR.out.grow hb1
  have KF:=Lib.hid (ZgF g 8 0 W1 (hr1.cellAt 1 rfl) (hr1.frozenAt 1))
  have HS:=Lib.hid (WStep.err H.out hb1 8)
  clear hb1 hr1
  go_wp2_with fail
  refine KF.out.mono ?_
  rintro e w' ⟨rfl,rfl⟩
  go_wp2_with fail
  go_ret
  exact⟨rfl,HS.out⟩
 ·have hlay:layS room l m=(0,l++m):=by unfold layS;rw[if_neg hfull]
  have h1:¬(q:Int)<(k:Int):=by omega
  rw[hlay]
  rw[←en] at hc3
  have En:=Lib.hid en
  have HB:=Lib.hid hB
  have HP:=Lib.hid hp
  have HK:=Lib.hid hk
  have HL:=Lib.hid hfull
  have HRm:=Lib.hid hroom
  have HO:=Lib.hid hown
  clear hr ho hg hBg hle hroom hB hp hk hlay hfull eq hc1 hf1 hown en
  go_enter Tryz.func157,Tryz.ntmps157
  go_wp2_with fail
  refine ZaB (fun w'=>∃ o d,w'=w.plus o d) (by kernel_rfl) (by kernel_rfl) ⟨#[],_,rfl⟩ ?_
  iterate 13 (refine Zau ⟨_,#[],0,rfl⟩ (Zaa rfl) (by rintro K _ ⟨o,d,rfl⟩ hK;go_simp;exact hK _ ⟨o,d,rfl⟩) ?_)
  refine Zaw ?_
  rintro _ ⟨of1,nf1,rfl⟩
  have hb1:=Zag (Below.refl w.heap.size w) of1 nf1
  generalize w.plus of1 nf1=W1 at *
  have hBs:B≤w.heap.size:=Nat.le_trans H.out.base (Nat.le_of_lt H.out.lt.1)
  obtain⟨v2,w2,hr2,ho2,hg2,hn2⟩:=ZrP (cap:=cap) (HO.out.below hb1) (HB.out.grow hb1) HK.out HP.out (Nat.le_trans hBs hb1.size) (by have:=HL.out;have:=HRm.out;omega)
  have m2:Moves w g (Value.slice p0 l.length c0).ownBlock w2:=(Moves.of g _ hb1).grownBy hg2
  have hR1:=HR.out.grow hb1
  have hR2:RowAt w2 g (wrow true 0 room (.slice p0 l.length c0)):=RowAt.moves hR1 (Moves.grownBy (Moves.refl W1 (g+1) _) hg2) (by omega) H.out.apart
  have HS:=Lib.hid (WStep.put H.out m2 hR2 ho2 (fun k hk=>(hn2 k hk).imp id fun h=>Nat.le_trans hb1.size h) (by rw[List.length_append];have:=HL.out;omega))
  have hc3:=hR1.cellAt 3 (show (wrow true 0 room (.slice p0 l.length c0))[3]?=some (.slice p0 l.length c0) from rfl)
  have hd3:=hR2.cellAt 3 (show (wrow true 0 room (.slice p0 l.length c0))[3]?=some (.slice p0 l.length c0) from rfl)
  have hf3:=hR2.frozenAt 3
  obtain⟨p2,c2,rfl,_⟩:=ho2.bs
  clear m2 hR1 hR2 hn2 hg2 ho2 hb1
  generalize (l++m).length=n2 at *
  go_wp2_with (at_builtin;refine Lib.wpList_append_run _ rfl _ _ _ _ rfl _ _ rfl rfl _ _ hr2 ?_)
  go_wp2_with fail
  go_ret
  exact⟨rfl,HS.out⟩
theorem WStep.refl {w:World} {B g room:Nat} {ob:Option Nat} {s:Ws} (h:Wr w B g ob room s):WStep w B g ob room s w:=⟨ob,h,NewB.refl _ _,Moves.refl _ _ _⟩
theorem WStep.grown {w w1 w':World} {B g room:Nat} {ob:Option Nat} {s:Ws} (hb:Below w.heap.size w w1) (h:WStep w1 B g ob room s w'):WStep w B g ob room s w':=by
 obtain⟨ob',h1,h2,h3⟩:=h
 exact⟨ob',h1,fun k hk=>(h2 k hk).imp id fun h=>Nat.le_trans hb.size h,(Moves.of g ob hb).trans h3 (NewB.refl _ _)⟩
theorem Wr.stop {w:World} {B g room:Nat} {ob:Option Nat} {s:Ws} (h:Wr w B g ob room s) :
  Calls Tryz.prog 156 #[.pointer (some ⟨g,0,none⟩)] w fun e w'=>e=.returned (.int .i64 s.1)∧w'=w:=by
 obtain⟨v,hr⟩:=h.row
 exact ZkG g true s.1 w (hr.cellAt 0 rfl) (hr.cellAt 1 rfl)
set_option maxHeartbeats 600000 in
set_option maxRecDepth 100000 in
theorem ZnS (B g:Nat) (ob:Option Nat) (room:Nat) (s:Ws) (m:List Nat) (p:Option Addr) (k cap:Nat) (w:World) (h:Wr w B g ob room s) (hk:k=m.length) (hB:Bs0 w p m) (hp:p=none→cap=0) :
  Calls Tryz.prog 130 #[.pointer (some ⟨g,0,none⟩),.slice p k cap] w fun e w'=>e=.returned (.int .i64 (bytS room s m).1)∧WStep w B g ob room (bytS room s m) w':=by
 have HS:=Lib.hid h.stop
 obtain⟨er,l⟩:=s
 by_cases her:er=0
 ·subst her
  have hs:bytS room (0,l) m=layS room l m:=by unfold bytS;rw[if_neg (by simp)]
  have KL:=Lib.hid (Zsf B g ob room l m p k cap w h hk hB hp)
  rw[hs]
  clear hs h hk hB hp
  go_enter Tryz.func130,Tryz.ntmps130
  go_wp2_with fail
  refine HS.out.mono ?_
  rintro e w' ⟨rfl,rfl⟩
  go_wp2_with fail
  refine KL.out.mono ?_
  rintro e w2 ⟨rfl,hst⟩
  have HT:=Lib.hid hst
  clear hst
  go_wp2_with fail
  go_ret
  exact⟨rfl,HT.out⟩
 ·have hs:bytS room (er,l) m=(er,l):=by unfold bytS;rw[if_pos her]
  have HT:=Lib.hid (WStep.refl h)
  rw[hs]
  clear hs h hk hB hp
  go_enter Tryz.func130,Tryz.ntmps130
  go_wp2_with fail
  refine HS.out.mono ?_
  rintro e w' ⟨rfl,rfl⟩
  go_wp2_with fail
  go_ret
  exact⟨rfl,HT.out⟩
theorem ZkQ (n:Nat) (y:Nat):(n:Int)/2^y=0↔n<2^y:=by
 have h:((n/2^y:Nat):Int)=(n:Int)/2^y:=by simp
 rw[←h]
 have h2:=Nat.div_eq_zero_iff (a:=n) (b:=2^y)
 have h3:=Nat.two_pow_pos y
 constructor
 ·intro h0;have:=h2.1 (by omega);omega
 ·intro h0;have:=h2.2 (.inr h0);omega
set_option maxHeartbeats 1000000 in
set_option maxRecDepth 100000 in
theorem ZuG (B g:Nat) (ob:Option Nat) (room:Nat) (s:Ws) (n:Nat) (sz:Int) (w:World) (h:Wr w B g ob room s) :
  Calls Tryz.prog 129 #[.pointer (some ⟨g,0,none⟩),.int .u64 (n:Int),.int .i64 sz] w fun e w'=>e=.returned (.int .i64 (numS room s n sz).1)∧WStep w B g ob room (numS room s n sz) w':=by
 have HS:=Lib.hid h.stop
 obtain⟨er,l⟩:=s
 by_cases her:er=0
 ·subst her
  have hs:numS room (0,l) n sz=if ¬Fits n sz then (2,l) else layS room l (digN n sz.toNat):=by unfold numS;rw[if_neg (by simp)]
  rw[hs]
  have hrow:=h.row
  have H:=Lib.hid h
  obtain⟨v,hr⟩:=hrow
  have KF:=Lib.hid (ZgF g 2 0 w (hr.cellAt 1 rfl) (hr.frozenAt 1))
  have HE:=Lib.hid (WStep.err h (Below.refl _ _) 2)
  by_cases h1:sz<1
  ·rw[if_pos (by unfold Fits;omega)]
   clear hs h hr
   go_enter Tryz.func129,Tryz.ntmps129
   go_wp2_with fail
   refine HS.out.mono ?_
   rintro e w' ⟨rfl,rfl⟩
   go_wp2_with fail
   refine KF.out.mono ?_
   rintro e w' ⟨rfl,rfl⟩
   go_wp2_with fail
   go_ret
   exact⟨rfl,HE.out⟩
  ·by_cases h8:8<sz
   ·rw[if_pos (by unfold Fits;omega)]
    clear hs h hr
    go_enter Tryz.func129,Tryz.ntmps129
    go_wp2_with fail
    refine HS.out.mono ?_
    rintro e w' ⟨rfl,rfl⟩
    go_wp2_with fail
    refine KF.out.mono ?_
    rintro e w' ⟨rfl,rfl⟩
    go_wp2_with fail
    go_ret
    exact⟨rfl,HE.out⟩
   ·obtain⟨z,rfl⟩:∃z:Nat,sz=(z:Int):=⟨sz.toNat,by omega⟩
    rw[Int.toNat_natCast]
    obtain⟨y,ey⟩:∃y,y=8*z:=⟨_,rfl⟩
    have k1:IntKind.i64.wrap (8*(z:Int))=(y:Int):=by rw[IntWalk.i64_in _ (by omega)];omega
    have hy0:(0:Int)≤(y:Int):=by omega
    have hy1:(y:Int)≤64:=by omega
    have hsh:=ZkQ n y
    by_cases hfit:n<2^y
    ·rw[if_neg (by unfold Fits;rw[Int.toNat_natCast,←ey];omega)]
     have h0:(n:Int)/2^y=0:=hsh.2 hfit
     have KS:=Lib.hid (ZsQ n z (by omega) (by omega) w)
     have HD:=Lib.hid (ZbB n z)
     clear hs h hr hsh ey hfit KF HE
     go_enter Tryz.func129,Tryz.ntmps129
     go_wp2_with fail
     refine HS.out.mono ?_
     rintro e w' ⟨rfl,rfl⟩
     go_wp2_with fail
     refine KS.out.mono ?_
     rintro e w1 ⟨g1,rfl,hr1,_,hb1⟩
     have KL:=Lib.hid (Zsf B g ob room l (digN n z) (some ⟨g1,0,none⟩) z z w1 (H.out.grow hb1) HD.out.symm (Bs0.some (ZaG hr1)) (fun h=>by cases h))
     have HB:=Lib.hid hb1
     clear hr1 hb1
     go_wp2_with fail
     refine KL.out.mono ?_
     rintro e w2 ⟨rfl,hst⟩
     have HT:=Lib.hid (hst.grown HB.out)
     clear hst
     go_wp2_with fail
     go_ret
     exact⟨rfl,HT.out⟩
    ·rw[if_pos (by unfold Fits;rw[Int.toNat_natCast,←ey];omega)]
     have h0:((n:Int)/2^y != 0)=true:=by simpa using fun e=>hfit (hsh.1 e)
     clear hs h hr hsh ey hfit
     go_enter Tryz.func129,Tryz.ntmps129
     go_wp2_with fail
     refine HS.out.mono ?_
     rintro e w' ⟨rfl,rfl⟩
     go_wp2_with fail
     refine KF.out.mono ?_
     rintro e w' ⟨rfl,rfl⟩
     go_wp2_with fail
     go_ret
     exact⟨rfl,HE.out⟩
 ·have hs:numS room (er,l) n sz=(er,l):=by unfold numS;rw[if_pos her]
  have HT:=Lib.hid (WStep.refl h)
  rw[hs]
  clear hs h
  go_enter Tryz.func129,Tryz.ntmps129
  go_wp2_with fail
  refine HS.out.mono ?_
  rintro e w' ⟨rfl,rfl⟩
  go_wp2_with fail
  go_ret
  exact⟨rfl,HT.out⟩
def Zof (w:World) (v:Value) (er:Int):Prop:=Calls Tryz.prog 156 #[v] w fun e w'=>e=.returned (.int .i64 er)∧w'=w
theorem ZkM (po:Option Addr) (er:Int) (her:¬er=0) (a:Value) (w:World) (h:Zof w (.pointer po) er):Calls Tryz.prog 131 #[.pointer po,a] w fun e w'=>e=.returned (.int .i64 er)∧w'=w:=by
 have HS:=Lib.hid h
 unfold Zof at HS
 clear h
 go_enter Tryz.func131,Tryz.ntmps131
 go_wp2_with fail
 refine HS.out.mono ?_
 rintro e w' ⟨rfl,rfl⟩
 go_wp2_with fail
 go_ret
 exact⟨rfl,rfl⟩
theorem Zmc (po:Option Addr) (er:Int) (her:¬er=0) (w:World) (h:Zof w (.pointer po) er):Calls Tryz.prog 132 #[.pointer po] w fun e w'=>e=.returned (.tuple #[.slice none 0 0,.int .i64 er])∧w'=w:=by
 have HS:=Lib.hid h
 unfold Zof at HS
 clear h
 go_enter Tryz.func132,Tryz.ntmps132
 go_wp2_with fail
 refine HS.out.mono ?_
 rintro e w' ⟨rfl,rfl⟩
 go_wp2_with fail
 refine bodyPost_ret (v:=.tuple #[.slice none 0 0,.int .i64 er]) (results_tmp2 Tryz.results132 _ _ _) rfl ⟨rfl,rfl⟩
set_option maxHeartbeats 1000000 in
set_option maxRecDepth 100000 in
theorem Zq4 (B g:Nat) (ob:Option Nat) (room:Nat) (s:Ws) (to:Int) (w:World) (h:Wr w B g ob room s) :
  Calls Tryz.prog 131 #[.pointer (some ⟨g,0,none⟩),.int .i64 to] w fun e w'=>e=.returned (.int .i64 (filS room s to).1)∧WStep w B g ob room (filS room s to) w':=by
 have HS:=Lib.hid h.stop
 obtain⟨er,l⟩:=s
 by_cases her:er=0
 ·subst her
  have hs:filS room (0,l) to=if to<(l.length:Int) then (2,l) else if (room:Int)<to then (8,l) else layS room l (zs (to.toNat-l.length)):=by unfold filS;rw[if_neg (by simp)]
  rw[hs]
  have H:=Lib.hid h
  have HE:=Lib.hid (fun er=>WStep.err h (Below.refl _ _) er)
  have hle:=h.le
  obtain⟨v,hr,ho,_⟩:=h
  have KF:=Lib.hid (fun er=>ZgF g er 0 w (hr.cellAt 1 rfl) (hr.frozenAt 1))
  obtain⟨p0,c0,rfl,_⟩:=ho.bs
  simp only at hr ho hle
  have hc2:=hr.cellAt 2 (show (wrow true 0 room (.slice p0 l.length c0))[2]?=some (.int .i64 (room:Int)) from rfl)
  have hc3:=hr.cellAt 3 (show (wrow true 0 room (.slice p0 l.length c0))[3]?=some (.slice p0 l.length c0) from rfl)
  have hgl:=hr.2.2
  have HLe:=Lib.hid hle
  obtain⟨n,en⟩:∃n,n=l.length:=⟨_,rfl⟩
  rw[←en] at hc3 ⊢
  have En:=Lib.hid en
  by_cases h1:to<(n:Int)
  ·rw[if_pos h1]
   have KF2:=Lib.hid (KF.out 2)
   have HE2:=Lib.hid (HE.out 2)
   clear hs hr ho en hle KF HE
   go_enter Tryz.func131,Tryz.ntmps131
   go_wp2_with fail
   refine HS.out.mono ?_
   rintro e w' ⟨rfl,rfl⟩
   go_wp2_with fail
   refine KF2.out.mono ?_
   rintro e w' ⟨rfl,rfl⟩
   go_wp2_with fail
   go_ret
   exact⟨rfl,HE2.out⟩
  ·rw[if_neg h1]
   by_cases h8:(room:Int)<to
   ·rw[if_pos h8]
    have KF2:=Lib.hid (KF.out 8)
    have HE2:=Lib.hid (HE.out 8)
    clear hs hr ho en hle KF HE
    go_enter Tryz.func131,Tryz.ntmps131
    go_wp2_with fail
    refine HS.out.mono ?_
    rintro e w' ⟨rfl,rfl⟩
    go_wp2_with fail
    refine KF2.out.mono ?_
    rintro e w' ⟨rfl,rfl⟩
    go_wp2_with fail
    go_ret
    exact⟨rfl,HE2.out⟩
   ·rw[if_neg h8]
    obtain⟨t,rfl⟩:∃t:Nat,to=(t:Int):=⟨to.toNat,by omega⟩
    rw[Int.toNat_natCast]
    obtain⟨d,ed⟩:∃d,d=t-n:=⟨_,rfl⟩
    have k1:IntKind.i64.wrap ((t:Int)-(n:Int))=(d:Int):=by rw[IntWalk.i64_in _ (by omega)];omega
    have hmk:=Zey w d (by omega)
    have hbA:=Zab (Below.refl w.heap.size w) (.cells (bysA (zs d)) 5)
    have KL:=Lib.hid (Zsf B g ob room l (zs d) (some ⟨w.heap.size,0,none⟩) d d _ (H.out.grow hbA) (Zah d).symm (Bs0.some (ZbC w _ _ _)) (fun h=>by cases h))
    have HBA:=Lib.hid hbA
    have hgl2:g<w.heap.size+1:=by omega
    rw[←ed]
    clear hs hr ho en hle KF HE hbA ed
    go_enter Tryz.func131,Tryz.ntmps131
    go_wp2_with fail
    refine HS.out.mono ?_
    rintro e w' ⟨rfl,rfl⟩
    go_wp2_with fail
    refine KL.out.mono ?_
    rintro e w2 ⟨rfl,hst⟩
    have HT:=Lib.hid (hst.grown HBA.out)
    clear hst
    go_wp2_with fail
    go_ret
    exact⟨rfl,HT.out⟩
 ·have hs:filS room (er,l) to=(er,l):=by unfold filS;rw[if_pos her]
  have HT:=Lib.hid (WStep.refl h)
  rw[hs]
  refine(ZkM _ er her _ w HS.out).mono ?_
  rintro e w' ⟨rfl,rfl⟩
  exact⟨rfl,HT.out⟩
set_option maxHeartbeats 1000000 in
set_option maxRecDepth 100000 in
theorem Zuy (B g:Nat) (ob:Option Nat) (room:Nat) (s:Ws) (w:World) (h:Wr w B g ob room s) :
  Calls Tryz.prog 132 #[.pointer (some ⟨g,0,none⟩)] w fun e w'=>∃ v,e=.returned (.tuple #[v,.int .i64 s.1])∧OwnB w' w.heap.size v (allL s)∧Below w.heap.size w w':=by
 have HS:=Lib.hid h.stop
 obtain⟨er,l⟩:=s
 by_cases her:er=0
 ·subst her
  have hs:allL (0,l)=l:=by unfold allL;rw[if_neg (by simp)]
  rw[hs]
  have hle:=h.le
  obtain⟨v,hr,ho,rfl,_⟩:=h
  obtain⟨p0,c0,rfl,hb0,_,hp0⟩:=ho.bs
  simp only at hr ho hle
  have hc3:=hr.cellAt 3 (show (wrow true 0 room (.slice p0 l.length c0))[3]?=some (.slice p0 l.length c0) from rfl)
  have hgl:=hr.2.2
  have KC:=Lib.hid (ZiO p0 l l.length c0 w rfl hb0 hp0 (by omega))
  generalize l.length=n at *
  clear hs hr ho hle hb0 hp0
  go_enter Tryz.func132,Tryz.ntmps132
  go_wp2_with fail
  refine HS.out.mono ?_
  rintro e w' ⟨rfl,rfl⟩
  go_wp2_with fail
  refine KC.out.mono ?_
  rintro e w2 ⟨v2,rfl,ho2,hb2⟩
  have HO:=Lib.hid ho2
  have HB:=Lib.hid hb2
  clear ho2 hb2
  go_wp2_with fail
  refine bodyPost_ret (v:=.tuple #[v2,.int .i64 0]) (results_tmp2 Tryz.results132 _ _ _) rfl ⟨_,rfl,HO.out,HB.out⟩
 ·have hs:allL (er,l)=[]:=by unfold allL;rw[if_pos her]
  rw[hs]
  refine(Zmc _ er her w HS.out).mono ?_
  rintro e w' ⟨rfl,rfl⟩
  exact⟨_,rfl,Zbo _ _,Below.refl _ _⟩
theorem WStep.out {w w':World} {B g room:Nat} {ob:Option Nat} {s s' s2:Ws} (h:WStep w B g ob room s' w') (h0:Wr w B g ob room s) (e:s'=s2) {w0:World} (hb:Below B w0 w) (hB:B≤w.heap.size):∃ob',Wr w' B g ob' room s2∧Below B w0 w':=by
 subst e
 have h2:=h.below h0 hb hB
 obtain⟨ob',h1,_⟩:=h
 exact⟨ob',h1,h2⟩
end Go.Proofs.YtddmjddlbhdcpaaGreatDoor
namespace Go.Oc
open Go Go.Sh
theorem ZrX {room:Nat} {l:List Nat} {n sz:Nat} (h1:1≤sz) (h8:sz≤8) (hn:n<2^(8*sz)) (hr:l.length+sz≤room):numS room (0,l) n (sz:Int)=(0,l++digN n sz):=by
 unfold numS
 rw[if_neg (by simp),if_neg (by unfold Fits;rw[Int.toNat_natCast];omega),Int.toNat_natCast]
 unfold layS
 rw[if_neg (by simp only[ZbB];omega)]
theorem Zrf {room:Nat} {l m:List Nat} (hr:l.length+m.length≤room):bytS room (0,l) m=(0,l++m):=by
 unfold bytS
 rw[if_neg (by simp)]
 unfold layS
 rw[if_neg (by simp only;omega)]
theorem ZsP {room:Nat} {l:List Nat} {to:Nat} (h1:l.length≤to) (h2:to≤room):filS room (0,l) (to:Int)=(0,l++zs (to-l.length)):=by
 unfold filS
 rw[if_neg (by simp),if_neg (by simp only;omega),if_neg (by omega),Int.toNat_natCast]
 unfold layS
 rw[if_neg (by simp only[Zah];omega)]
theorem Zve {n:Nat} (h:n<256):digN n 1=[n]:=by
 show [dgt n 1 0]=[n]
 unfold dgt
 rw[show 8*(1-1-0)=0 from rfl,Nat.pow_zero,Nat.div_one,Nat.mod_eq_of_lt h]
theorem Zwo (n:Nat):digN n 2=[n/256%256,n%256]:=by
 show [dgt n 2 0,dgt n 2 1]=_
 unfold dgt
 rw[show 8*(2-1-0)=8 from rfl,show 8*(2-1-1)=0 from rfl,Nat.pow_zero,Nat.div_one]
theorem ZoX {l:List Nat} {sz:Nat} (h1:1≤sz) (h8:sz≤8) (hr:sz≤l.length):ZhB (0,l) (sz:Int)=(0,l.drop sz):=by
 unfold ZhB
 rw[if_neg (by simp),if_neg (by omega),Int.toNat_natCast]
 unfold takS
 rw[if_neg (by simp only;omega)]
theorem ZoH {l:List Nat} {sz:Nat} (h1:1≤sz) (h8:sz≤8) (hr:sz≤l.length):Zhp (0,l) (sz:Int)=Zcy (l.take sz):=by
 unfold Zhp
 rw[if_pos ⟨rfl,by omega,by rw[Int.toNat_natCast];exact hr⟩,Int.toNat_natCast]
theorem Zpn {l:List Nat} {n:Nat} (hr:n≤l.length):ZhI (0,l) (n:Int)=(0,l.drop n):=by
 unfold ZhI
 rw[if_neg (by simp),if_neg (by omega),Int.toNat_natCast]
 unfold takS
 rw[if_neg (by simp only;omega)]
theorem ZnM {l:List Nat} {n:Nat} (hr:n≤l.length):Zhr (0,l) (n:Int)=l.take n:=by
 unfold Zhr
 rw[if_pos ⟨rfl,by omega,by rw[Int.toNat_natCast];exact hr⟩,Int.toNat_natCast]
end Go.Oc
namespace Go.Proofs.YtddmjddlbhdcpaaGreatDoor
open Go.RowKit Go.Hold Go.Sh Go.Oc
theorem ZiM {W0 w:World} {g room:Nat} {ob:Option Nat} {l:List Nat} (h:Wr w W0.heap.size g ob room (0,l)) (hb:Below W0.heap.size W0 w) (n sz:Nat) (h1:1≤sz) (h8:sz≤8) (hn:n<2^(8*sz)) (hr:l.length+sz≤room) :
  Calls Tryz.prog 129 #[.pointer (some ⟨g,0,none⟩),.int .u64 (n:Int),.int .i64 (sz:Int)] w fun e w'=>e=.returned (.int .i64 0)∧∃ ob',Wr w' W0.heap.size g ob' room (0,l++digN n sz)∧Below W0.heap.size W0 w':=by
 refine(ZuG W0.heap.size g ob room (0,l) n (sz:Int) w h).mono ?_
 rintro e w' ⟨rfl,hst⟩
 have hs:=ZrX (l:=l) h1 h8 hn hr
 exact⟨by rw[hs],hst.out h hs hb hb.size⟩
theorem ZmY {W0 w:World} {g room:Nat} {ob:Option Nat} {l:List Nat} (h:Wr w W0.heap.size g ob room (0,l)) (hb:Below W0.heap.size W0 w) (m:List Nat) (p:Option Addr) (k cap:Nat) (hk:k=m.length) (hB:Bs0 w p m) (hp:p=none→cap=0) (hr:l.length+m.length≤room) :
  Calls Tryz.prog 130 #[.pointer (some ⟨g,0,none⟩),.slice p k cap] w fun e w'=>e=.returned (.int .i64 0)∧∃ ob',Wr w' W0.heap.size g ob' room (0,l++m)∧Below W0.heap.size W0 w':=by
 refine(ZnS W0.heap.size g ob room (0,l) m p k cap w h hk hB hp).mono ?_
 rintro e w' ⟨rfl,hst⟩
 have hs:=Zrf (l:=l) hr
 exact⟨by rw[hs],hst.out h hs hb hb.size⟩
theorem Zpw {W0 w:World} {g room:Nat} {ob:Option Nat} {l:List Nat} (h:Wr w W0.heap.size g ob room (0,l)) (hb:Below W0.heap.size W0 w) (to:Nat) (h1:l.length≤to) (h2:to≤room) :
  Calls Tryz.prog 131 #[.pointer (some ⟨g,0,none⟩),.int .i64 (to:Int)] w fun e w'=>e=.returned (.int .i64 0)∧∃ ob',Wr w' W0.heap.size g ob' room (0,l++zs (to-l.length))∧Below W0.heap.size W0 w':=by
 refine(Zq4 W0.heap.size g ob room (0,l) (to:Int) w h).mono ?_
 rintro e w' ⟨rfl,hst⟩
 have hs:=ZsP (l:=l) h1 h2
 exact⟨by rw[hs],hst.out h hs hb hb.size⟩
theorem ZsC {W0 w:World} {g room:Nat} {ob:Option Nat} {l:List Nat} (h:Wr w W0.heap.size g ob room (0,l)) (hb:Below W0.heap.size W0 w) :
  Calls Tryz.prog 132 #[.pointer (some ⟨g,0,none⟩)] w fun e w'=>∃ v,e=.returned (.tuple #[v,.int .i64 0])∧OwnB w' w.heap.size v l∧Below W0.heap.size W0 w':=by
 refine(Zuy W0.heap.size g ob room (0,l) w h).mono ?_
 rintro e w' ⟨v,rfl,ho,hb'⟩
 exact⟨v,rfl,ho,hb.trans (hb'.mono hb.size)⟩
end Go.Proofs.YtddmjddlbhdcpaaGreatDoor
