/-
  Part 7 of the texts behind the theorem.
-/
import Derived.Test.YtddmjddlbhdcpaaGreatDoorCards
import Derived.Test.YtddmjddlbhdcpaaGreatDoorTie
import Derived.Test.YtddmjddlbhdcpaaGreatDoorPart6
import Derived.ProofKit
import Derived.OpenShut
import Derived.ShutString
import Derived.ChangeOld
import Derived.Below
import Derived.Deep.DeepHandedRow
import Derived.Lib.LaidTab
import Derived.Stop.LaidErr
import Derived.Test.YtddmjddlbhdcpaaGreatDoorPart1
import Derived.OwnWalk
import Derived.Laws.AppendOwnNone
import Derived.Lib.AppendZerosOnto
import Derived.Great.BuildSlice
import Derived.Laws.MakeOwn
import Derived.Laws.OwnMore
import Derived.Deep.MidRow
import Derived.Laws.BitsAllLaws
set_option maxHeartbeats 8000000
set_option maxRecDepth 100000
namespace Go.Proofs.YtddmjddlbhdcpaaGreatDoor
open Go.ChangeShapes Go.WideShapes Go.ChangeAt Go.RowKit Go.Sh
def ZvL:List (String×DataW Unit):=[("pigeonry/sha.firstState",Rows.laid_pigeonry_sha_firstState),("pigeonry/sha.roundWords",Rows.laid_pigeonry_sha_roundWords)]
theorem gH:Tryz.prog.globalNamed "pigeonry/sha.firstState"=some 0:=by kernel_rfl
theorem gHt:(Tryz.prog.globals[0]?).map (·.type)=some 172:=by kernel_rfl
theorem gK:Tryz.prog.globalNamed "pigeonry/sha.roundWords"=some 1:=by kernel_rfl
theorem gKt:(Tryz.prog.globals[1]?).map (·.type)=some 221:=by kernel_rfl
theorem ZuM:Tryz.prog.cellsOf 172=8:=by kernel_rfl
theorem Zvu:Tryz.prog.cellsOf 221=64:=by kernel_rfl
theorem Zm7:Tryz.prog.cellsOf 129=1:=by kernel_rfl
theorem Zs3 {W:World} (h:laidMetH Tryz.prog ZvL W):Tabs W:=by
 have h0:laidMet Tryz.prog ZvL W:=h
 have t0:Lib.TabIs Tryz.prog W "pigeonry/sha.firstState" .u32 Hs:=Lib.tabIs_of_head (rest:=[("pigeonry/sha.roundWords",Rows.laid_pigeonry_sha_roundWords)]) gH gHt Tryz.underlying172 Tryz.underlying129 Zm7 ZuM h0
 have h1:laidMet Tryz.prog [("pigeonry/sha.roundWords",Rows.laid_pigeonry_sha_roundWords)] W:=h0.tail
 have t1:Lib.TabIs Tryz.prog W "pigeonry/sha.roundWords" .u32 Ks:=Lib.tabIs_of_head (rest:=[]) gK gKt Tryz.underlying221 Tryz.underlying129 Zm7 Zvu h1
 refine⟨?_,fun i hi=>t0.cell gH i hi,fun i hi=>t1.cell gK i (by rw[ZhO];exact hi)⟩
 exact World.block_lt_of_cell? W _ (t1.cell gK 0 (by decide))
def putC (c:Array Value):Obj→Obj
 | .cells _ t frozen=>.cells c t frozen
 | o=>o
noncomputable def Zfq (os:Os):World :=
 { World.holding Tryz.prog os ⟨#[],#[],[]⟩ with heap:=((World.holding Tryz.prog os ⟨#[],#[],[]⟩).heap.modify 0 (putC (stA st0))).modify 1 (putC (wosA Ks)) }
theorem Zfo {H:Type} {enc:TypeId×Value→H} {w:World} {base:Nat} {spare:Nat→Bool} {held:Bool} {fuel:Nat} {t:TypeId} {n:Nat} {cs:List Value} {x:DataW H×List MemPlace}
  (hu:Tryz.prog.underlying t=some (.array n 5)) (hcn:Tryz.prog.cellsOf t=n) (hf:DataW.trod enc Tryz.prog w base spare held fuel t cs=some x) :
  ∃ s:List Nat,cs=bys s∧s.length=n∧∀ i,s.getD i 0<256:=by
 have hc1:Tryz.prog.cellsOf 5=1:=by kernel_rfl
 obtain⟨xs,m,_,_,hl,hxl,hx⟩:=DataW.trod_array hu hf
 rw[hcn] at hl
 have hget:∀i,i<n→∃ z:Nat,z<256∧cs[i]?=some (.int .u8 z):=fun i hi=>by
  have h1:=hx i hi
  rw[hc1,Nat.mul_one] at h1
  have hlt:i<xs.length:=by omega
  rw[List.getElem?_eq_getElem hlt] at h1
  obtain⟨a,e0,_,wa⟩:=DataW.trod_int Tryz.underlying5 h1
  have hcs:cs[i]?=some (.int .u8 a):=by
   have h2:=congrArg (fun l=>l[0]?) e0
   simpa [List.getElem?_take] using h2
  have hb:=bounds_u8 wa
  obtain⟨z,rfl⟩:=Int.eq_ofNat_of_zero_le hb.1
  exact⟨z,by omega,hcs⟩
 have hch:∃f:Nat→Nat,∀ i,i<n→f i<256∧cs[i]?=some (.int .u8 (f i)) :=
  ⟨fun i=>if h:i<n then Classical.choose (hget i h) else 0,fun i hi=>by simp only[hi,dif_pos];exact Classical.choose_spec (hget i hi)⟩
 obtain⟨f,hf'⟩:=hch
 refine⟨(List.range n).map f,?_,by simp,Zbp fun x hx=>?_⟩
 ·apply List.ext_getElem?
  intro i
  by_cases hi:i<n
  ·rw[(hf' i hi).2]
   simp[bys,hi]
  ·rw[List.getElem?_eq_none (by omega),List.getElem?_eq_none (by simp[bys];omega)]
 ·obtain⟨i,hi,rfl⟩:=List.mem_map.1 hx
  exact(hf' i (List.mem_range.1 hi)).1
end Go.Proofs.YtddmjddlbhdcpaaGreatDoor
namespace Go.Hold
open Go Go.RowKit
section
variable {P:Program} {md:Region.Mode} {W:World} {Q:Exit→Act→World→Prop} {l:List Oper} {hs ts:List Nat} {bs:List Bool} {vs:List Value}
def seqT (md:Region.Mode) (ops:Array Oper):List Nat→Array Bool→Bool
 | [],listed=>(Region.ready md ops listed).isEmpty
 | t::ts,listed=>decide (Region.ready md ops listed=[t])&&seqT md ops ts (listed.setIfInBounds t true)
def Zn8 (md:Region.Mode) (ops:Array Oper) (ts:List Nat):List Nat→Array Bool→Bool
 | [],listed=>seqT md ops ts listed
 | k::ks,listed=>(Region.ready md ops listed).contains k&&Region.free md ops listed k&&Zn8 md ops ts ks (listed.setIfInBounds k true)
def Zqh (md:Region.Mode) (ops:Array Oper) (hs:List Nat) (bs:List Bool) (ts:List Nat):Bool :=
 Region.noSelect ops&&decide (hs.length+ts.length=ops.size)&&decide (bs.length=hs.length)&&decide hs.Nodup&&(hs.all fun i=>decide (i<ops.size))&&(ts.all fun i=>decide (i<ops.size)) &&
 ((List.range ops.size).all fun t=>hs.contains t||((List.range ops.size).any fun u=>!hs.contains u&&Region.waitsFor md ops t u)||ZmF md ops t (hs.filter fun i=>!(late hs bs).contains i)) &&
 Zn8 md ops ts hs (Array.replicate ops.size false)
theorem Zcm:∀(ts:List Nat) (listed:Array Bool) (a:Act) (w:World),(∀ i∈ts,i<l.length)→seqT md l.toArray ts listed=true→wpList P l.toArray Q (pick l ts) a w→wpAny P md l.toArray Q ts.length listed a w
 | [],listed,a,w,_,hB,h=>⟨by simpa [seqT] using hB,h⟩
 | t::ts,listed,a,w,hlt,hB,h=>by
  have ht:t<l.length:=hlt t (by simp)
  have h0:l.toArray[t]?=some l[t]:=by simp[ht]
  simp only[seqT,Bool.and_eq_true,decide_eq_true_eq] at hB
  refine⟨fun h1=>(by rw[hB.1] at h1;cases h1),fun i hi=>?_⟩
  rw[hB.1] at hi
  have hik:i=t:=by simpa using hi
  subst hik
  rw[pick,List.getElem?_eq_getElem ht] at h
  have hw:wpOp P l.toArray Q i (wpList P l.toArray Q (pick l ts)) a w:=by unfold wpOp;simp only[h0];exact h
  exact wpOp_mono (fun a' w' h'=>Zcm ts _ a' w' (fun j hj=>hlt j (by simp[hj])) hB.2 h') hw
theorem Zgx (hsel:Region.noSelect l.toArray=true) (hlt:∀i∈hs,i<l.length) (hts:∀i∈ts,i<l.length) (hnd:hs.Nodup) (hbl:bs.length=hs.length) (hvl:vs.length=hs.length)
  (hwait:∀listed,PickInv md l.toArray (fun i=>hs.contains i) listed→¬Done l.toArray (fun i=>hs.contains i) (fun i=>(late hs bs).contains i) listed→∀ t∈Region.ready md l.toArray listed,(fun i=>hs.contains i) t=true)
  (hQ:∀c a d v w,Q (.panic c) (Act.put a d v) w→Q (.panic c) a w) :
  ∀ (ks:List Nat) (cs:List Bool) (ws:List Value) (p:Nat) (listed:Array Bool) (a:Act),hs.drop p=ks→bs.drop p=cs→vs.drop p=ws→p≤hs.length→PickInv md l.toArray (fun i=>hs.contains i) listed →
  (∀ i,i∈hs→i∉ks→listed.getD i false=true)→Zn8 md l.toArray ts ks listed=true →
  ZeK P l.toArray W (fun a'=>∀ w',Below W.heap.size W w'→wpList P l.toArray Q (pick l ts) a' w') (pick l ks) cs ws a →
  anyP (fun _=>none) (look hs vs) (fun i=>hs.contains i) (fun i=>(late hs bs).contains i) P md l.toArray W Q ts.length ks.length (fun _=>none) listed a
 | [],cs,ws,p,listed,a,hd,hb,hw,hp,inv,hdn,hB,h=>by
  have hpe:p=hs.length:=by
   have:=congrArg List.length hd
   simp at this;omega
  have hwn:ws=[]:=by rw[←hw,hpe,←hvl,List.drop_length]
  subst hwn
  refine⟨fun i hi=>?_,fun i _ hin _=>hdn i (by simpa using hin) (by simp),fun w hS _=>?_⟩
  ·refine Bool.eq_false_iff.2 fun hc=>?_
   have h1:=(mem_ready.1 hi).1
   have h2:=hdn i (by simpa using hc) (by simp)
   rw[getD_both h1] at h2;cases h2
  ·have hq:∀w',Below W.heap.size W w'→wpList P l.toArray Q (pick l ts) a w':=by
    cases cs<;>exact h
   exact Zcm ts listed a w hts hB (hq w hS)
 | k::ks,cs,ws,p,listed,a,hd,hb,hw,hp,inv,hdn,hB,h=>by
  have hpk:hs[p]?=some k:=by
   have:=congrArg (fun x=>x[0]?) hd
   simpa using this
  have hkm:k∈hs:=List.mem_of_getElem? hpk
  have hpl:p<hs.length:=(List.getElem?_eq_some_iff.1 hpk).1
  have hkl:k<l.length:=hlt k hkm
  have h0:l.toArray[k]?=some l[k]:=by simp[hkl]
  simp only[Zn8,Bool.and_eq_true] at hB
  obtain⟨⟨hr,hf⟩,hB'⟩:=hB
  have hr':k∈Region.ready md l.toArray listed:=by simpa using hr
  rw[pick,List.getElem?_eq_getElem hkl] at h
  cases cs with
  | nil=>simp[ZeK] at h
  | cons c cs =>
  cases ws with
  | nil=>simp[ZeK] at h
  | cons v ws =>
   obtain⟨hg,hy,hnx⟩:=h
   have hbp:bs[p]?=some c:=by
    have:=congrArg (fun x=>x[0]?) hb
    simpa using this
   have hvp:vs[p]?=some v:=by
    have:=congrArg (fun x=>x[0]?) hw
    simpa using this
   have hval:look hs vs k=v:=Zjw hs vs p k v hnd hpk hvp
   have hfl:(late hs bs).contains k=c:=Zfs hs bs p k c hnd hbl hpk hbp
   have hsz:k<listed.size:=by rw[inv.size];simpa using hkl
   show anyP _ _ _ _ P md l.toArray W Q _ (ks.length+1) _ listed a
   refine ZfQ _ _ _ _ h0 hsel (by simpa using hkm) hwait hQ (fun _=>rfl) ks.length _ listed a ⟨0,fun _ _ h=>by cases h⟩ (fun _ _=>rfl) inv (Region.free_spec h0 hf) hr' (fun hfk=>by rw[hval];exact hy (hfl.symm.trans hfk))
    ⟨fun _=>?_,fun t z he=>by cases he⟩
   rw[hval]
   refine⟨hg,Zgx hsel hlt hts hnd hbl hvl hwait hQ ks cs ws (p+1) _ _ (by rw[←List.drop_drop,hd];rfl) (by rw[←List.drop_drop,hb];rfl) (by rw[←List.drop_drop,hw];rfl) (by omega) (inv.set hr' (by simpa using hkm)) (fun i hi hik=>?_) hB' hnx⟩
   by_cases hik':i=k
   ·subst hik';simp[hsz]
   ·exact getD_set_true (hdn i hi (by simp only[List.mem_cons,not_or];exact⟨hik',hik⟩))
theorem ZaI {id:Nat} {a:Act} {w:World} (W:World) (hs:List Nat) (bs:List Bool) (ts:List Nat) (hm:P.follows .mixedOrders=true) (hB:Zqh .any l.toArray hs bs ts=true)
  (hQ:∀c a d v w,Q (.panic c) (Act.put a d v) w→Q (.panic c) a w) (hW:Below W.heap.size W { w with drawn:=w.drawn+1 })
  (h:ZcJ P l.toArray W (fun a'=>∀ w',Below W.heap.size W w'→wpList P l.toArray Q (pick l ts) a' w') (pick l hs) bs a) :
  (Code.region id l.toArray true).wp P Q a w:=by
 simp only[Zqh,Bool.and_eq_true,decide_eq_true_eq] at hB
 obtain⟨⟨⟨⟨⟨⟨⟨hsel,hsz⟩,hbl⟩,hnd⟩,hlt⟩,hts⟩,hw⟩,htk⟩:=hB
 have hlt':∀i∈hs,i<l.length:=fun i hi=>by simpa using List.all_eq_true.1 hlt i hi
 have hts':∀i∈ts,i<l.length:=fun i hi=>by simpa using List.all_eq_true.1 hts i hi
 have hwait:∀listed,PickInv .any l.toArray (fun i=>hs.contains i) listed→¬Done l.toArray (fun i=>hs.contains i) (fun i=>(late hs bs).contains i) listed→∀ t∈Region.ready .any l.toArray listed,(fun i=>hs.contains i) t=true:=by
  intro listed inv hnd' t ht
  cases htn:hs.contains t with
  | true=>exact htn
  | false =>
   exfalso
   obtain⟨_,ot,hot,hdeps⟩:=mem_ready.1 ht
   have hts2:t<l.toArray.size:=(Array.getElem?_eq_some_iff.1 hot).1
   have h1:=List.all_eq_true.1 hw t (List.mem_range.2 hts2)
   simp only[Bool.or_eq_true] at h1
   rcases h1 with (h1 | h1) | h1
   ·rw[htn] at h1;cases h1
   ·obtain⟨u,hu,hu2⟩:=List.any_eq_true.1 h1
    simp only[Bool.and_eq_true,Bool.not_eq_true'] at hu2
    obtain⟨o',ho',e,he,hb,hon⟩:=Region.waitsFor_spec hu2.2
    obtain rfl:o'=ot:=Option.some.inj (ho'.symm.trans hot)
    have h3:=hdeps e he hb
    rw[hon,getD_both (inv.tail u hu2.1 (List.mem_range.1 hu))] at h3
    cases h3
   ·apply hnd'
    intro i _ hin hfi
    refine Zdp inv ht _ h1 i ?_
    rw[List.mem_filter]
    refine⟨by simpa using hin,?_⟩
    have hfi':(late hs bs).contains i=false:=hfi
    rw[hfi'];rfl
 obtain⟨vs,hvl,hc⟩:=ZsU _ _ _ h
 have hpl:=(Zju l hs hlt').1
 have inv0:PickInv .any l.toArray (fun i=>hs.contains i) (Array.replicate l.toArray.size false) :=
  ⟨by simp,fun j oj _ hl=>(by rw[getD_replicate_false] at hl;cases hl),fun t _ ht=>getD_in (by simpa using ht) (getD_replicate_false _ _)⟩
 have H:=Zgx (md:=.any) (vs:=vs) hsel hlt' hts' hnd hbl (by rw[hvl,hpl]) hwait hQ hs bs vs 0 _ a rfl rfl rfl (Nat.zero_le _) inv0 (fun i hi hni=>absurd hi hni) htk hc
 refine wp_region_any hm ?_
 have:=ZbU (fun _=>none) (look hs vs) (fun i=>hs.contains i) (fun i=>(late hs bs).contains i) _ _ _ _ _ hW (fun i g hg=>by cases hg) H
 rw[hsz] at this
 exact this
end
section
variable {P:Program} {md:Region.Mode} {W:World} {Q:Exit→Act→World→Prop} {ops:Array Oper} {n:Nat} {R:Nat→Value→World→Prop} {G:World→World→Prop}
def ZcK (ops:Array Oper) (i:Nat):Option Tmp:=(ops[i]?).bind (·.dst)
def ZaK (ops:Array Oper) (vals:Nat→Value):List Nat→Act→Act
 | [],a=>a
 | i::is,a=>ZaK ops vals is (a.put (ZcK ops i) (vals i))
def Zc4 (ops:Array Oper) (o:Oper) (j:Nat):Bool:=match ZcK ops j with
 | some d=>(o.looksAt ops).contains d
 | none=>false
def Zbi (ops:Array Oper) (n:Nat) (o:Oper):List Nat:=(List.range n).filter (Zc4 ops o)
def ZbZ (md:Region.Mode) (o:Oper) (j:Nat):Bool:=o.after.toList.any fun e=>Region.binds md e&&Nat.beq e.on j
def ZfF (n s:Nat):Array Bool:=(Array.range s).map fun i=>Nat.blt i n
def Zkb (x y:Option Tmp):Bool:=match x with
 | some d=>y != some d
 | none=>true
def ZrP (md:Region.Mode) (ops:Array Oper) (n:Nat) (ts:List Nat):Bool :=
 Region.noSelect ops&&decide (n+ts.length=ops.size)&&(ts.all fun i=>decide (i<ops.size)) &&
 ((List.range n).all fun i=>match ops[i]? with
  | some o=>ZfR md i o&&((List.range n).all fun j=>!Zc4 ops o j||ZbZ md o j)
  | none=>false) &&
 ((List.range n).all fun i=>(List.range n).all fun j=>Nat.beq i j||Zkb (ZcK ops i) (ZcK ops j)) &&
 ((List.range ops.size).all fun t=>Nat.blt t n||match ops[t]? with
  | some o=>(List.range n).all fun j=>ZbZ md o j
  | none=>false) &&
 seqT md ops ts (ZfF n ops.size)
theorem ZbT (vals:Nat→Value):∀(x y:List Nat) (a:Act),ZaK ops vals (x++y) a=ZaK ops vals y (ZaK ops vals x a)
 | [],_,_=>rfl
 | i::x,y,a=>by simp only[List.cons_append,ZaK];exact ZbT vals x y _
theorem Zdv {v u:Nat→Value}:∀(x:List Nat) (a:Act),(∀ i∈x,v i=u i)→ZaK ops v x a=ZaK ops u x a
 | [],_,_=>rfl
 | i::x,a,h=>by simp only[ZaK];rw[h i (by simp)];exact Zdv x _ fun j hj=>h j (by simp[hj])
theorem Zdm (vals:Nat→Value) (hd:∀i j,i<n→j<n→i≠j→∀ d,ZcK ops i=some d→ZcK ops j≠some d) {x y:List Nat} (h:x.Perm y):(∀ i∈x,i<n)→∀ a,ZaK ops vals x a=ZaK ops vals y a:=by
 induction h with
 | nil=>intro _ a;rfl
 | cons i _ ih=>intro hx a;simp only[ZaK];exact ih (fun j hj=>hx j (by simp[hj])) _
 | swap i j l =>
  intro hx a
  simp only[ZaK]
  by_cases e:i=j
  ·subst e;rfl
  ·rw[Act.put_comm a (vals j) (vals i) (hd j i (hx j (by simp)) (hx i (by simp)) (Ne.symm e))]
 | trans h1 _ ih1 ih2=>intro hx a;rw[ih1 hx,ih2 fun i hi=>hx i (h1.mem_iff.2 hi)]
theorem Zcy (vals:Nat→Value) {o:Oper} (hs:∀cs b,o.op≠.select cs b):∀(y:List Nat) (a:Act),(∀ i∈y,Zc4 ops o i=false)→execOp (ZaK ops vals y a).eval o=execOp a.eval o∧Region.wanted o (yielded ops (ZaK ops vals y a).tmps)=Region.wanted o (yielded ops a.tmps)
 | [],_,_=>⟨rfl,rfl⟩
 | i::y,a,h=>by
  have h0:∀d,ZcK ops i=some d→d∉o.looksAt ops:=fun d hd hm=>by
   have:=h i (by simp)
   unfold Zc4 at this
   rw[hd] at this
   simp only at this
   rw[List.contains_iff_mem.2 hm] at this
   cases this
  obtain⟨e1,e2⟩:=Zcy vals hs y (a.put (ZcK ops i) (vals i)) fun j hj=>h j (by simp[hj])
  simp only[ZaK]
  exact⟨e1.trans (execOp_put o hs a _ _ h0),e2.trans (wanted_put o a _ _ h0)⟩
theorem Zed:∀(x y:List Nat),x.Nodup→(∀ i∈x,i∈y)→x.length≤y.length
 | [],_,_,_=>Nat.zero_le _
 | i::x,y,hn,h=>by
  have hi:=h i (by simp)
  have:=Zed x (y.erase i) (List.nodup_cons.1 hn).2 fun j hj=>by
   have hne:j≠i:=fun e=>(List.nodup_cons.1 hn).1 (e▸hj)
   exact(List.mem_erase_of_ne hne).2 (h j (by simp[hj]))
  rw[List.length_erase_of_mem hi] at this
  have hp:0<y.length:=List.length_pos_of_mem hi
  simp only[List.length_cons];omega
theorem ZfJ (D:List Nat):∀n,(∃ i,i<n∧i∉D)→∃ i,i<n∧i∉D∧∀ j,j<i→j∈D
 | 0,h=>by obtain⟨i,hi,_⟩:=h;omega
 | n+1,h=>by
  by_cases h1:∃i,i<n∧i∉D
  ·obtain⟨i,hi,h2⟩:=ZfJ D n h1
   exact⟨i,by omega,h2⟩
  ·obtain⟨i,hi,hD⟩:=h
   have hin:i=n:=by
    by_cases e:i<n
    ·exact absurd ⟨i,e,hD⟩ h1
    ·omega
   subst hin
   refine⟨i,hi,hD,fun j hj=>?_⟩
   by_cases e:j∈D
   ·exact e
   ·exact absurd ⟨j,hj,e⟩ h1
def Zcl (P:Program) (ops:Array Oper) (W:World) (n:Nat) (G:World→World→Prop) (R:Nat→Value→World→Prop) (a:Act) (vals:Nat→Value) (i:Nat) (o:Oper):Prop :=
 ∀ w,Below W.heap.size W w→(∀ j∈Zbi ops n o,R j (vals j) w) →
  Region.wanted o (yielded ops (ZaK ops vals (Zbi ops n o) a).tmps)=true ∧
  Zdq P o (ZaK ops vals (Zbi ops n o) a) (fun v _ w'=>G w w'∧R i v w') ((execOp (ZaK ops vals (Zbi ops n o) a).eval o).run P w)
theorem Zky {l:List Oper} {ts:List Nat} {a:Act} (hop:ops=l.toArray) (hsel:Region.noSelect ops=true) (hsz:n+ts.length=ops.size) (hts:∀i∈ts,i<l.length)
  (hedge:∀i o,i<n→ops[i]?=some o→ZfR md i o=true∧∀ j,j<n→Zc4 ops o j=true→ZbZ md o j=true)
  (hdst:∀i j,i<n→j<n→i≠j→∀ d,ZcK ops i=some d→ZcK ops j≠some d)
  (hlate:∀t o,n≤t→ops[t]?=some o→∀ j,j<n→ZbZ md o j=true) (hseq:seqT md ops ts (ZfF n ops.size)=true)
  (hGB:∀w w',Below W.heap.size W w→G w w'→Below W.heap.size W w') (hmono:∀i v w w',R i v w→G w w'→R i v w')
  (hst:∀vals i o,i<n→ops[i]?=some o→Zcl P ops W n G R a vals i o)
  (hfin:∀vals w,Below W.heap.size W w→(∀ i,i<n→R i (vals i) w)→wpList P ops Q (pick l ts) (ZaK ops vals (List.range n) a) w) :
  ∀ (f:Nat) (D:List Nat) (listed:Array Bool) (vals:Nat→Value) (w:World),D.Nodup→(∀ i∈D,i<n)→D.length+f=n→listed.size=ops.size →
  (∀ i,i<ops.size→listed.getD i false=decide (i∈D))→Below W.heap.size W w→(∀ i∈D,R i (vals i) w)→wpAny P md ops Q (f+ts.length) listed (ZaK ops vals D a) w
 | 0,D,listed,vals,w,hnd,hlt,hlen,hls,hl,hb,hR=>by
  have hall:∀i,i<n→i∈D:=fun i hi=>by
   by_cases e:i∈D
   ·exact e
   ·exfalso
    have:=Zed (i::D) (List.range n) (List.nodup_cons.2 ⟨e,hnd⟩) fun j hj=>by
     rcases List.mem_cons.1 hj with rfl | h
     ·exact List.mem_range.2 hi
     ·exact List.mem_range.2 (hlt j h)
    simp at this;omega
  have hp:D.Perm (List.range n):=(List.perm_ext_iff_of_nodup hnd List.nodup_range).2 fun i=>⟨fun h=>List.mem_range.2 (hlt i h),fun h=>hall i (List.mem_range.1 h)⟩
  have hle:listed=ZfF n ops.size:=by
   apply Array.ext_getElem?
   intro i
   by_cases hi:i<ops.size
   ·have h1:=hl i hi
    have h2:listed[i]?=some (listed.getD i false):=by simp[hls,hi]
    rw[h2,h1]
    unfold ZfF
    rw[Array.getElem?_map,Array.getElem?_range,if_pos hi]
    simp only[Option.map_some,Option.some.injEq]
    by_cases e:i<n
    ·rw[decide_eq_true (hall i e)];exact((show Nat.blt i n=true from by rw[Nat.blt_eq];exact e)).symm
    ·rw[decide_eq_false fun h=>e (hlt i h)]
     cases hx:Nat.blt i n
     ·rfl
     ·exact absurd ((by rw[Nat.blt_eq] at hx;exact hx)) e
   ·rw[Array.getElem?_eq_none (by omega),Array.getElem?_eq_none (by simp[ZfF];omega)]
  subst hle
  rw[Nat.zero_add,Zdm vals hdst hp hlt]
  subst hop
  exact Zcm ts _ _ _ hts hseq (hfin vals w hb fun i hi=>hR i (hall i hi))
 | f+1,D,listed,vals,w,hnd,hlt,hlen,hls,hl,hb,hR=>by
  have hex:∃i,i<n∧i∉D:=by
   apply Classical.byContradiction
   intro hno
   have:=Zed (List.range n) D List.nodup_range fun i hi=>by
    by_cases e:i∈D
    ·exact e
    ·exact absurd ⟨i,List.mem_range.1 hi,e⟩ hno
   simp at this;omega
  obtain⟨i0,hi0,hi0D,hmin⟩:=ZfJ D n hex
  have hget:∀i,i<ops.size→listed.getD i true=decide (i∈D):=fun i hi=>by
   have:=hl i hi
   simpa [hls,hi] using this
  have hr0:i0∈Region.ready md ops listed:=by
   have hs0:i0<ops.size:=by omega
   obtain⟨o,ho⟩:∃o,ops[i0]?=some o:=⟨_,Array.getElem?_eq_getElem hs0⟩
   refine mem_ready.2 ⟨by rw[hget i0 hs0];exact decide_eq_false hi0D,o,ho,fun e he hbe=>?_⟩
   have h1:=List.all_eq_true.1 (hedge i0 o hi0 ho).1 e (by simpa using he)
   have h2:e.on<i0:=by simpa [hbe] using h1
   rw[hl _ (by omega)];exact decide_eq_true (hmin _ h2)
  rw[show f+1+ts.length=(f+ts.length)+1 by omega]
  refine⟨fun h=>(by rw[h] at hr0;cases hr0),fun i hi=>?_⟩
  obtain⟨hun,o,ho,hdeps⟩:=mem_ready.1 hi
  have hsi:i<ops.size:=(Array.getElem?_eq_some_iff.1 ho).1
  have hiD:i∉D:=by rw[hget i hsi] at hun;exact of_decide_eq_false hun
  have hbd:∀j,j<n→ZbZ md o j=true→j∈D:=fun j hj hbj=>by
   obtain⟨e,hem,heb⟩:=List.any_eq_true.1 hbj
   rw[Bool.and_eq_true] at heb
   have h1:=hdeps e (by simpa using hem) heb.1
   rw[Nat.eq_of_beq_eq_true heb.2,hl j (by omega)] at h1
   exact of_decide_eq_true h1
  have hin:i<n:=by
   apply Classical.byContradiction
   intro hni
   exact hi0D (hbd i0 hi0 (hlate i o (by omega) ho i0 hi0))
  have hdep:∀j∈Zbi ops n o,j∈D:=fun j hj=>by
   obtain⟨h1,h2⟩:=List.mem_filter.1 hj
   have hjn:=List.mem_range.1 h1
   exact hbd j hjn ((hedge i o hin ho).2 j hjn h2)
  have hsl:=fun cs b=>Region.noSelect_spec hsel i o cs b ho
  have hcut:∀b,ZaK ops vals D b=ZaK ops vals (D.filter fun j=>!Zc4 ops o j) (ZaK ops vals (Zbi ops n o) b):=fun b=>by
   rw[←ZbT]
   refine Zdm vals hdst ?_ hlt b
   refine(List.filter_append_perm (Zc4 ops o) D).symm.trans (List.Perm.append_right _ ?_)
   refine(List.perm_ext_iff_of_nodup (hnd.filter _) (List.nodup_range.filter _)).2 fun j=>?_
   constructor
   ·intro h
    obtain⟨h1,h2⟩:=List.mem_filter.1 h
    exact List.mem_filter.2 ⟨List.mem_range.2 (hlt j h1),h2⟩
   ·intro h
    exact List.mem_filter.2 ⟨hdep j h,(List.mem_filter.1 h).2⟩
  obtain⟨e1,e2⟩:=Zcy (ops:=ops) vals (o:=o) hsl (D.filter fun j=>!Zc4 ops o j) (ZaK ops vals (Zbi ops n o) a) fun j hj=>by
   have:=(List.mem_filter.1 hj).2
   simpa using this
  rw[←hcut] at e1 e2
  obtain⟨hw,hc⟩:=hst vals i o hin ho w hb fun j hj=>hR j (hdep j hj)
  rw[←e2] at hw
  rw[←e1] at hc
  have next:∀v w',G w w'→R i v w'→wpAny P md ops Q (f+ts.length) (listed.setIfInBounds i true) ((ZaK ops vals D a).put o.dst v) w':=fun v w' hb' hRv=>by
   have he:(ZaK ops vals D a).put o.dst v=ZaK ops (fun j=>if j=i then v else vals j) (D++[i]) a:=by
    rw[ZbT,Zdv (v:=fun j=>if j=i then v else vals j) (u:=vals) D a (fun j hj=>if_neg (fun (e:j=i)=>hiD (e▸hj)))]
    simp[ZaK,ZcK,ho]
   rw[he]
   refine Zky hop hsel hsz hts hedge hdst hlate hseq hGB hmono hst hfin f (D++[i]) _ _ w' ?_ ?_ (by simp;omega) (by simp[hls]) ?_ (hGB _ _ hb hb') ?_
   ·exact List.nodup_append.2 ⟨hnd,by simp,fun x hx y hy=>by simp at hy;subst hy;intro e;subst e;exact hiD hx⟩
   ·intro j hj
    rcases List.mem_append.1 hj with h | h
    ·exact hlt j h
    ·simp at h;omega
   ·intro j hj
    by_cases e:j=i
    ·subst e;simp[hls,hj]
    ·have h1:=hl j hj
     have h2:(listed.setIfInBounds i true).getD j false=listed.getD j false:=by
      simp only[Array.getD_eq_getD_getElem?]
      rw[Array.getElem?_setIfInBounds_ne (fun h=>e h.symm)]
     rw[h2,h1]
     simp[e]
   ·intro j hj
    rcases List.mem_append.1 hj with h | h
    ·have:j≠i:=fun e=>hiD (e▸h)
     simp only[this,if_false]
     exact hmono _ _ _ _ (hR j h) hb'
    ·simp at h;subst h;simpa using hRv
  unfold Go.wpOp
  simp only[ho,hw,if_true]
  refine .inl ?_
  unfold Oper.wp
  revert hc
  generalize (execOp (ZaK ops vals D a).eval o).run P w=r
  intro hc
  cases r with
  | halt x w=>exact False.elim hc
  | ok nx w2 =>
   cases nx<;>try exact False.elim hc
   case value u=>exact next _ _ hc.1 hc.2
   case skip=>exact next _ _ hc.1 hc.2
   case enter fn args =>
    refine Calls.mono (P:=P) hc ?_
    rintro e w'' ⟨u,rfl,h1,h2⟩
    exact next _ _ h1 h2
def ZgJ (P:Program) (ops:Array Oper) (W:World) (n:Nat) (G:World→World→Prop) (R:Nat→Value→World→Prop) (a:Act) (vals:Nat→Value) (Fin:Prop):Nat→List Oper→Prop
 | _,[]=>Fin
 | k,o::r=>Zcl P ops W n G R a vals k o∧ZgJ P ops W n G R a vals Fin (k+1) r
theorem ZeD {a:Act} {vals:Nat→Value} {Fin:Prop}:∀(k:Nat) (r:List Oper),ZgJ P ops W n G R a vals Fin k r→Fin∧∀ j o,r[j]?=some o→Zcl P ops W n G R a vals (k+j) o
 | _,[],h=>⟨h,fun j o ho=>by simp at ho⟩
 | k,o::r,h=>by
  obtain⟨h1,h2⟩:=ZeD (k+1) r h.2
  refine⟨h1,fun j x hx=>?_⟩
  cases j with
  | zero=>simp at hx;subst hx;exact h.1
  | succ j=>rw[show k+(j+1)=k+1+j by omega];exact h2 j x (by simpa using hx)
theorem Zf9 {id:Nat} {a:Act} {w:World} {l:List Oper} (W:World) (n:Nat) (G:World→World→Prop) (R:Nat→Value→World→Prop) (ts:List Nat) (hm:P.follows .mixedOrders=true) (hB:ZrP .any l.toArray n ts=true)
  (hW:Below W.heap.size W { w with drawn:=w.drawn+1 }) (hGB:∀w w',Below W.heap.size W w→G w w'→Below W.heap.size W w') (hmono:∀i v w w',R i v w→G w w'→R i v w')
  (h:∀vals,ZgJ P l.toArray W n G R a vals (∀ w,Below W.heap.size W w→(∀ i,i<n→R i (vals i) w)→wpList P l.toArray Q (pick l ts) (ZaK l.toArray vals (List.range n) a) w) 0 (l.take n)) :
  (Code.region id l.toArray true).wp P Q a w:=by
 simp only[ZrP,Bool.and_eq_true,decide_eq_true_eq] at hB
 obtain⟨⟨⟨⟨⟨⟨hsel,hsz⟩,hts⟩,h1⟩,h2⟩,h3⟩,hseq⟩:=hB
 have hts':∀i∈ts,i<l.length:=fun i hi=>by simpa using List.all_eq_true.1 hts i hi
 refine wp_region_any hm ?_
 have H:=Zky (md:=.any) (P:=P) (W:=W) (Q:=Q) (n:=n) (R:=R) (G:=G) (l:=l) (ts:=ts) (a:=a) rfl hsel hsz hts'
  (fun i o hi ho=>by
   have:=List.all_eq_true.1 h1 i (List.mem_range.2 hi)
   rw[ho] at this
   simp only[Bool.and_eq_true] at this
   refine⟨this.1,fun j hj hlj=>?_⟩
   have h4:=List.all_eq_true.1 this.2 j (List.mem_range.2 hj)
   simpa [hlj] using h4)
  (fun i j hi hj hne d hd=>by
   have:=List.all_eq_true.1 (List.all_eq_true.1 h2 i (List.mem_range.2 hi)) j (List.mem_range.2 hj)
   rcases Bool.or_eq_true_iff.1 this with h | h
   ·exact absurd (Nat.eq_of_beq_eq_true h) hne
   ·rw[hd] at h
    simpa [Zkb] using h)
  (fun t o ht ho j hj=>by
   have:=List.all_eq_true.1 h3 t (List.mem_range.2 (Array.getElem?_eq_some_iff.1 ho).1)
   rw[ho] at this
   rcases Bool.or_eq_true_iff.1 this with h | h
   ·exact absurd (by rw[Nat.blt_eq] at h;exact h:t<n) (by omega)
   ·exact List.all_eq_true.1 h j (List.mem_range.2 hj))
  hseq hGB hmono
  (fun vals i o hi ho=>by
   have:=(ZeD 0 _ (h vals)).2 i o (by rw[List.getElem?_take,if_pos hi];simpa using ho)
   rwa [Nat.zero_add] at this)
  (fun vals w hb hR=>(ZeD 0 _ (h vals)).1 w hb hR)
  n [] (Array.replicate l.toArray.size false) (fun _=>undef) { w with drawn:=w.drawn+1 } List.nodup_nil (fun i hi=>by cases hi) (by simp) (by simp) (fun i hi=>by rw[getD_replicate_false];simp) hW (fun i hi=>by cases hi)
 rw[hsz] at H
 exact H
theorem Zid {a:Act} {vals:Nat→Value} {i:Nat} {o:Oper}
  (h:∀(K:Value→Act→World→Prop) (w:World),Below W.heap.size W w→(∀ j∈Zbi ops n o,R j (vals j) w)→(∀ v a' w',G w w'→R i v w'→K v a' w') →
   Region.wanted o (yielded ops (ZaK ops vals (Zbi ops n o) a).tmps)=true∧Zeh o (ZaK ops vals (Zbi ops n o) a) K ((execOp (ZaK ops vals (Zbi ops n o) a).eval o).run P w)):Zcl P ops W n G R a vals i o:=by
 intro w hb hd
 obtain⟨h1,h2⟩:=h (fun v _ w'=>G w w'∧R i v w') w hb hd fun v _ w' x y=>⟨x,y⟩
 refine⟨h1,?_⟩
 revert h2
 generalize (execOp (ZaK ops vals (Zbi ops n o) a).eval o).run P w=r
 cases r with
 | halt x w=>exact fun h=>False.elim h
 | ok n w=>cases n<;>first | exact fun h=>False.elim h | exact fun h=>h
theorem Zhs {a:Act} {vals:Nat→Value} {i:Nat} {o:Oper}
  (h:∀(K:Value→World→Prop) (w:World),Below W.heap.size W w→(∀ j∈Zbi ops n o,R j (vals j) w)→(∀ v w',G w w'→R i v w'→K v w') →
   Region.wanted o (yielded ops (ZaK ops vals (Zbi ops n o) a).tmps)=true∧Zgy P K ((execOp (ZaK ops vals (Zbi ops n o) a).eval o).run P w)):Zcl P ops W n G R a vals i o:=by
 intro w hb hd
 obtain⟨h1,h2⟩:=h (fun v w'=>G w w'∧R i v w') w hb hd fun v w' x y=>⟨x,y⟩
 refine⟨h1,?_⟩
 revert h2
 generalize (execOp (ZaK ops vals (Zbi ops n o) a).eval o).run P w=r
 cases r with
 | halt x w=>exact fun h=>False.elim h
 | ok n w=>cases n<;>first | exact fun h=>False.elim h | exact fun h=>h
def putZ:List (Option Tmp)→List Value→Act→Act
 | d::ds,v::vs,a=>putZ ds vs (a.put d v)
 | _,_,a=>a
theorem ZeE (vals:Nat→Value):∀(ds:List Nat) (a:Act),ZaK ops vals ds a=putZ (ds.map (ZcK ops)) (ds.map vals) a
 | [],_=>rfl
 | i::ds,a=>by simp only[ZaK,List.map_cons,putZ];exact ZeE vals ds _
theorem Zao {a:Act} {vals:Nat→Value} {i:Nat} {o:Oper} (ds:List Nat) (qs:List (Option Tmp)) (hds:Zbi ops n o=ds) (hqs:ds.map (ZcK ops)=qs)
  (h:∀(K:Value→Act→World→Prop) (w:World),Below W.heap.size W w→(∀ j∈ds,R j (vals j) w)→(∀ v a' w',G w w'→R i v w'→K v a' w') →
   Region.wanted o (yielded ops (putZ qs (ds.map vals) a).tmps)=true∧Zeh o (putZ qs (ds.map vals) a) K ((execOp (putZ qs (ds.map vals) a).eval o).run P w)):Zcl P ops W n G R a vals i o:=by
 subst hds hqs
 refine Zid fun K w hb hd hK=>?_
 rw[ZeE]
 exact h K w hb hd hK
theorem Za7 {a:Act} {vals:Nat→Value} {i:Nat} {o:Oper} (ds:List Nat) (qs:List (Option Tmp)) (hds:Zbi ops n o=ds) (hqs:ds.map (ZcK ops)=qs)
  (h:∀(K:Value→World→Prop) (w:World),Below W.heap.size W w→(∀ j∈ds,R j (vals j) w)→(∀ v w',G w w'→R i v w'→K v w') →
   Region.wanted o (yielded ops (putZ qs (ds.map vals) a).tmps)=true∧Zgy P K ((execOp (putZ qs (ds.map vals) a).eval o).run P w)):Zcl P ops W n G R a vals i o:=by
 subst hds hqs
 refine Zhs fun K w hb hd hK=>?_
 rw[ZeE]
 exact h K w hb hd hK
theorem Zbv {id:Nat} {a:Act} {w:World} {l:List Oper} (W:World) (n:Nat) (G:World→World→Prop) (R:Nat→Value→World→Prop) (ts ns:List Nat) (qa:List (Option Tmp)) (hm:P.follows .mixedOrders=true) (hB:ZrP .any l.toArray n ts=true)
  (hns:List.range n=ns) (hqa:ns.map (ZcK l.toArray)=qa) (hW:Below W.heap.size W { w with drawn:=w.drawn+1 }) (hGB:∀w w',Below W.heap.size W w→G w w'→Below W.heap.size W w') (hmono:∀i v w w',R i v w→G w w'→R i v w')
  (h:∀vals,ZgJ P l.toArray W n G R a vals (∀ w,Below W.heap.size W w→(∀ i∈ns,R i (vals i) w)→wpList P l.toArray Q (pick l ts) (putZ qa (ns.map vals) a) w) 0 (l.take n)) :
  (Code.region id l.toArray true).wp P Q a w:=by
 subst hns hqa
 refine Zf9 W n G R ts hm hB hW hGB hmono fun vals=>?_
 have:=h vals
 revert this
 generalize l.take n=r
 intro h1
 suffices hh:∀(k:Nat) (r:List Oper) (F H:Prop),(F→H)→ZgJ P l.toArray W n G R a vals F k r→ZgJ P l.toArray W n G R a vals H k r by
  refine hh 0 r _ _ (fun hf w hb hR=>?_) h1
  rw[ZeE]
  exact hf w hb fun i hi=>hR i (List.mem_range.1 hi)
 intro k r
 induction r generalizing k with
 | nil=>intro F H h h2;exact h h2
 | cons o r ih=>intro F H h h2;exact⟨h2.1,ih (k+1) F H h h2.2⟩
end
end Go.Hold
namespace Go.Proofs.YtddmjddlbhdcpaaGreatDoor
open Go.RowKit Go.Hold Go.Sh
theorem ZcY:(Tryz.prog.info? 5).map (fun i=>(i.zero,i.size,i.bytes))=some (some (.int .u8 0),1,1):=by kernel_rfl
def OwnB (w:World) (B:Nat) (v:Value) (l:List Nat):Prop:=w.ownsRow B 5 1 v l.length (bys l)
theorem ZaU {w w':World} {B:Nat} {e:TypeId} {v:Value} {n:Nat} {xs:List Value} (h:w.ownsRow B e 1 v n xs) (hb:Below w.heap.size w w'):w'.ownsRow B e 1 v n xs :=
 h.kept (row:=none) ⟨hb.os,hb.tape,hb.output,hb.size,fun k hk _=>hb.block k hk⟩ (by cases hv:v.ownBlock<;>simp)
theorem OwnB.below {w w':World} {B:Nat} {v:Value} {l:List Nat} (h:OwnB w B v l) (hb:Below w.heap.size w w'):OwnB w' B v l:=ZaU h hb
theorem OwnB.snoc {w:World} {B:Nat} {v:Value} {l m:List Nat} (h:w.ownsRow B 5 1 v (l.length+m.length) (bys l++bys m)):OwnB w B v (l++m):=by
 unfold OwnB
 rw[List.length_append,show bys (l++m)=bys l++bys m by simp[bys]];exact h
theorem OwnB.addr {w:World} {B:Nat} {v:Value} {l:List Nat} {k:Nat} (h:OwnB w B v l) (hk:l.length=k) (h0:0<k):∃g cap,v=.slice (some ⟨g,0,none⟩) k cap∧B≤g∧g<w.heap.size∧k≤cap:=by
 subst hk
 rcases h.2 with ⟨_,h1⟩ | ⟨g,cap,cur,rfl,hb,hg,hc,_⟩
 ·omega
 ·exact⟨g,cap,rfl,hb,(Array.getElem?_eq_some_iff.1 hg).1,hc⟩
theorem OwnB.bytes {w:World} {B g cap k:Nat} {l:List Nat} (h:OwnB w B (.slice (some ⟨g,0,none⟩) k cap) l) (hg:g<w.heap.size):BytesAt w g 0 l:=by
 refine⟨hg,fun i hi=>?_⟩
 have hk:k=l.length:=by
  rcases h.2 with ⟨h1,_⟩ | ⟨g',cap',cur,he,_⟩
  ·cases h1
  ·cases he;rfl
 subst hk
 rw[Nat.zero_add,World.ownsRow.cellAt h i (by omega)]
 simp[bys,hi]
theorem OwnB.base {w:World} {B B':Nat} {v:Value} {l:List Nat} (h:OwnB w B v l) (hB:B'≤B):OwnB w B' v l:=by
 refine⟨h.1,?_⟩
 rcases h.2 with hn | ⟨g,cap,cur,rfl,hb,rest⟩
 ·exact .inl hn
 ·exact .inr ⟨g,cap,cur,rfl,Nat.le_trans hB hb,rest⟩
theorem Zcv (w:World) (B:Nat) (hB:B≤w.heap.size):OwnB (w.alloc (.cells #[] 5)) B (.slice (some ⟨w.heap.size,0,none⟩) 0 0) [] :=
 ⟨rfl,.inr ⟨w.heap.size,0,#[],rfl,hB,Zaq w _,Nat.le_refl _,by decide,rfl,rfl⟩⟩
theorem Zdd (l:List Nat):∀u∈bys l,u.oneCell'=true:=fun u hu=>by
 simp only[bys,List.mem_map] at hu
 obtain⟨x,_,rfl⟩:=hu;rfl
theorem Zgo {w:World} {b o:Nat} {l:List Nat} (h:BytesAt w b o l):∀j u,(bys l)[j]?=some u→w.cell? ((⟨b,o,none⟩:Addr).add j)=some u:=fun j u hu=>by
 have hj:j<l.length:=by have:=(List.getElem?_eq_some_iff.1 hu).1;rwa [Zaz] at this
 rw[Addr.add_mid,h.2 j hj,←hu]
 simp[bys,hj]
theorem ZaL {n:Nat} (h:n≤16777216):n≤maxLen:=by unfold maxLen;omega
theorem ZcM {w:World} {v:Value} {t:TypeId}:∀j u,[v][j]?=some u→(w.alloc (.cells #[v] t)).cell? ((⟨w.heap.size,0,none⟩:Addr).add j)=some u:=fun j u hu=>by
 match j,hu with
 | 0,hu=>simp at hu;subst hu;simp[Addr.add]
theorem ZmS {w:World} {v:Value} {t:TypeId} {n:Nat} (h:n=w.heap.size):∀j u,[v][j]?=some u→(w.alloc (.cells #[v] t)).cell? ((⟨n,0,none⟩:Addr).add j)=some u:=by subst h;exact ZcM
theorem Zbd {B:Nat} {w w1 w2:World} {e:TypeId} {v:Value} {n:Nat} {xs:List Value} (hb:Below B w w1) (ho:w1.ownsRow B e 1 v n xs) (hB:B≤w1.heap.size) (hg:w1.grownBy w2 v.ownBlock):Below B w w2 :=
 hb.grown hg hB fun g hg'=>(World.ownsRow.lt ho g hg').1
theorem OwnB.bs {w:World} {B:Nat} {v:Value} {l:List Nat} (h:OwnB w B v l):∃p c,v=.slice p l.length c∧Bs0 w p l∧l.length≤c∧(p=none→c=0):=by
 rcases h.2 with ⟨rfl,h0⟩ | ⟨g,cap,cur,rfl,hb,hg,hc,hm,hs,ht⟩
 ·have:l=[]:=List.length_eq_zero_iff.1 h0
  subst this
  exact⟨none,0,rfl,.inl rfl,Nat.le_refl _,fun _=>rfl⟩
 ·exact⟨some ⟨g,0,none⟩,cap,rfl,.inr ⟨g,0,rfl,OwnB.bytes h (Array.getElem?_eq_some_iff.1 hg).1⟩,hc,fun h=>by cases h⟩
theorem ZbY {w:World} {B:Nat} {v:Value} {l m:List Nat} {p:Option Addr} {cap k:Nat} (h:OwnB w B v l) (hB:Bs0 w p m) (hk:k=m.length) (hp:p=none→cap=0) (hBw:B≤w.heap.size) (hlen:l.length+m.length≤16777216) :
  ∃ v' w',(Builtin.append_ #[38,38] 38 #[v,.slice p k cap]).run Tryz.prog w=.ok v' w'∧OwnB w' B v' (l++m)∧w.grownBy w' v.ownBlock:=by
 subst hk
 obtain⟨i0,hi,hz0,hz1,hz2⟩:=info_parts ZcY
 cases p with
 | none =>
  have hm:m=[]:=by
   rcases hB with h | ⟨b,o,h,_⟩
   ·exact h
   ·cases h
  subst hm
  rw[hp rfl]
  refine⟨v,w,run_append_owned_none (P:=Tryz.prog) (w:=w) B _ _ _ i0 1 Tryz.underlying38 hi v _ _ h,by rw[List.append_nil];exact h,⟨rfl,rfl,rfl,Nat.le_refl _,fun _ _ _=>rfl⟩⟩
 | some a =>
  have hnews:∀j u,(bys m)[j]?=some u→w.cell? (a.add j)=some u:=by
   rcases hB with rfl | ⟨b,o,he,hB⟩
   ·intro j u hu;simp[bys] at hu
   ·cases he;exact Zgo hB
  obtain⟨v',w',h1,h2,h3,_⟩:=run_append_own (P:=Tryz.prog) w B 38 38 5 i0 (.int .u8 0) 1 1 Tryz.underlying38 hi hz0 hz1 hz2 rfl (by decide) v l.length (bys l) h a m.length cap (bys m) (by rw[Zaz,Nat.mul_one]) hnews (Zdd m) (ZaL hlen) (by omega) hBw
  exact⟨v',w',h1,OwnB.snoc h2,h3⟩
theorem Za2 {B:Nat} {w w1 w2:World} {v:Value} {l:List Nat} (hb:Below B w w1) (ho:OwnB w1 B v l) (hB:B≤w1.heap.size) (hg:w1.grownBy w2 v.ownBlock):Below B w w2:=Zbd hb ho hB hg
theorem Zbk (w:World) (B:Nat):OwnB w B (.slice none 0 0) []:=World.ownsRow_nil w B _ _
theorem Bs0.keep {w w':World} {p:Option Addr} {l:List Nat} (h:Bs0 w p l) (hb:Below w.heap.size w w'):Bs0 w' p l:=h.grow hb
theorem Bs0.some {w:World} {g o:Nat} {l:List Nat} (h:BytesAt w g o l):Bs0 w (some ⟨g,o,none⟩) l:=.inr ⟨g,o,rfl,h⟩
theorem ZlF (a:Option Addr) (len cap n:Nat) (h:n≤cap) (w:World):(slB (.slice a len cap) none (some (.int .i64 (n:Int))) none).run Tryz.prog w=.ok (.slice a n cap) w:=by
 unfold slB
 rw[run_sliceAt_slice _ _ _ _ _ _ ZeV,run_slice_h _ _ _ _ _ ZeV _ _ (by omega) (by omega),Zlk]
 cases a<;>simp[sliced,Result.andThen,Addr.add]
@[go_sem] theorem Zxj (a:Option Addr) (len cap:Nat) (w:World):(slB (.slice a len cap) none (some (.int .i64 0)) none).run Tryz.prog w=.ok (.slice a 0 cap) w:=ZlF a len cap 0 (Nat.zero_le _) w
theorem ZuK (a:Option Addr) (len cap n:Nat) (h:n≤cap) (w:World):(slB (.slice a len cap) none (some (.int .i64 (n:Int))) (some (.int .i64 (n:Int)))).run Tryz.prog w=.ok (.slice a n n) w:=by
 unfold slB
 rw[run_sliceAt_slice _ _ _ _ _ _ ZeV,run_slice_hm _ _ _ _ _ ZeV _ _ _ _ (by omega) (Int.le_refl _) (by omega),Zlk]
 cases a<;>simp[sliced,Result.andThen,Addr.add]
def mkS (l c:Value):Sem Value:=Instr.makeSlice 38 l c
@[go_sem ↓] theorem ZvH (l c:Value):Instr.makeSlice 38 l c=mkS l c:=rfl
theorem Zsr (n:Nat):madeCells (Value.int IntKind.u8 0).cells (n*1)=bysA (zs n):=by
 apply Array.ext_getElem?
 intro i
 by_cases h:i<n
 ·rw[ZaB _ i (by rw[Zah];exact h)]
  simp only[madeCells,Array.getElem?_map,Array.getElem?_range,Nat.mul_one,if_pos h,Option.map_some,zs,List.getD,List.getElem?_replicate,Option.getD_some]
  rw[show (Value.int IntKind.u8 0).cells.size=1 from rfl,Nat.mod_one];rfl
 ·rw[Array.getElem?_eq_none (by simp[madeCells];omega),Array.getElem?_eq_none (by rw[Zaj,Zah];omega)]
theorem ZfA (w:World) (n:Nat) (h:n≤16777216):(mkS (.int .i64 (n:Int)) (.int .i64 (n:Int))).run Tryz.prog w=.ok (.slice (some ⟨w.heap.size,0,none⟩) n n) (w.alloc (.cells (bysA (zs n)) 5)):=by
 obtain⟨i0,hi,hz0,hz1,hz2⟩:=info_parts ZcY
 have:=run_make (P:=Tryz.prog) w 38 5 i0 (.int .u8 0) Tryz.underlying38 hi hz0 .i64 .i64 (n:Int) (n:Int) (by omega) (Int.le_refl _) (by rw[hz2];omega) (by omega)
 unfold mkS
 rw[this,hz1,Int.toNat_natCast,Zsr]
@[go_sem] theorem Zvo (w:World):(mkS (.int .i64 64) (.int .i64 64)).run Tryz.prog w=.ok (.slice (some ⟨w.heap.size,0,none⟩) 64 64) (w.alloc (.cells (bysA (zs 64)) 5)):=ZfA w 64 (by decide)
theorem Zko (r l:List Nat) (h:l.length≤r.length):setL (bysA r) 0 (bys l)=bysA (l++r.drop l.length):=by
 apply Array.ext_getElem?
 intro i
 rw[ZcQ,Zaz,Zaj]
 have hn:(l++r.drop l.length).length=r.length:=by simp;omega
 by_cases hi:i<r.length
 ·rw[ZaB (l++r.drop l.length) i (by rw[hn];exact hi)]
  by_cases h1:i<l.length
  ·rw[if_pos (by omega),Nat.sub_zero]
   simp[bys,List.getD,h1,List.getElem?_append_left h1]
  ·rw[if_neg (by omega),ZaB _ i hi]
   simp only[List.getD]
   rw[List.getElem?_append_right (by omega),List.getElem?_drop,show l.length+(i-l.length)=i by omega]
 ·rw[if_neg (by omega),Array.getElem?_eq_none (by rw[Zaj];omega),Array.getElem?_eq_none (by rw[Zaj,hn];omega)]
theorem Zb7 {W:World} {g c2 cap d s k:Nat} {p:Option Addr} {r l:List Nat} (h:RowAt W g (bysA r)) (hd:d=r.length) (hs:s=l.length) (hk:k=min l.length r.length) (hB:Bs0 W p l) :
  (Builtin.copy_ #[38,38] 3 #[.slice (some ⟨g,0,none⟩) d c2,.slice p s cap]).run Tryz.prog W=.ok (.int .i64 (k:Int)) (W.setRow g (bysA (l.take k++r.drop k))):=by
 subst hd hs
 rcases hB with rfl | ⟨b,o,rfl,hB⟩
 ·have hk0:k=0:=by simpa using hk
  subst hk0
  rw[List.take_zero,List.nil_append,List.drop_zero,ZbK h]
  exact Zef W _ _ _ _ _
 ·have hl:(bys (l.take k)).length=k:=by rw[Zaz,List.length_take];omega
  have hi:(Tryz.prog.info? 5).map (·.size)=some 1:=by kernel_rfl
  have:=run_copy_cells (P:=Tryz.prog) W 38 38 3 5 g 0 r.length c2 ⟨b,o,none⟩ l.length cap (bys (l.take k)) Tryz.underlying38 hi (by rw[hl,hk])
   (fun j v hv=>by
    have hj:j<k:=by have:=(List.getElem?_eq_some_iff.1 hv).1;omega
    rw[Addr.add_mid,hB.2 j (by omega),←hv]
    simp only[bys,List.getElem?_map,List.getElem?_take,if_pos hj,List.getD]
    rw[List.getElem?_eq_getElem (by omega)];rfl)
   (fun j hj=>by rw[h.cellAt (0+j) (Array.getElem?_eq_getElem (by rw[Zaj];omega))];rfl)
   (fun j _=>h.frozenAt _) (Zdd _)
  rw[this,hl,ZbP _ _ h,Zko _ _ (by rw[List.length_take];omega)]
  rw[show (l.take k).length=k by rw[List.length_take];omega]
  rfl
def SlV (w:World) (v:Value) (l:List Nat):Prop:=∃ p c,v=.slice p l.length c∧Bs0 w p l∧l.length≤c∧(p=none→c=0)
theorem SlV.grow {w w':World} {v:Value} {l:List Nat} (h:SlV w v l) (hb:Below w.heap.size w w'):SlV w' v l:=by
 obtain⟨p,c,rfl,h1,h2,h3⟩:=h
 exact⟨p,c,rfl,h1.grow hb,h2,h3⟩
theorem ZmM (n:Nat):IntKind.u8.wrap (n:Int)=((n%256:Nat):Int):=by rw[IntKind.wrap_u8];omega
def bldB (n:Nat) (ps:Array (Nat×Value)):Sem Value:=Instr.buildSlice 38 n ps
@[go_sem ↓] theorem Zun (n:Nat) (ps:Array (Nat×Value)):Instr.buildSlice 38 n ps=bldB n ps:=rfl
@[go_sem] theorem Zvw (w:World) (b:Int):(bldB 1 #[(0,.int .u8 b)]).run Tryz.prog w=.ok (.slice (some ⟨w.heap.size,0,none⟩) 1 1) (w.alloc (.cells #[.int .u8 b] 5)):=by
 obtain⟨ie,h1,h2,h3,_⟩:=info_parts ZcY
 refine run_buildSlice w _ _ 1 _ #[.int .u8 b] ie _ Tryz.underlying38 h1 h2 (by rw[h3];decide) (by rw[h3];decide) ?_
 rw[h3];kernel_rfl
theorem Bs0.take {w:World} {p:Option Addr} {l:List Nat} (h:Bs0 w p l) (n:Nat):Bs0 w p (l.take n):=by
 rcases h with rfl | ⟨b,o,rfl,h⟩
 ·exact .inl (by simp)
 ·refine .inr ⟨b,o,rfl,h.1,fun i hi=>?_⟩
  rw[List.length_take] at hi
  rw[h.2 i (by omega)]
  simp[List.getD,show i<n by omega]
theorem ZnM {w:World} {B g:Nat} {v:Value} {l:List Nat} {y:Nat} (h:OwnB w B v l) (hg:BytesAt w g 0 [y]) (hBw:B≤w.heap.size) (hlen:l.length+1≤16777216) :
  ∃ v' w',(Builtin.append_ #[38,38] 38 #[v,.slice (some ⟨g,0,none⟩) 1 1]).run Tryz.prog w=.ok v' w'∧OwnB w' B v' (l++[y])∧w.grownBy w' v.ownBlock ∧
   (v'.ownBlock=v.ownBlock∨v'.ownBlock=some w.heap.size):=by
 obtain⟨v',w',h1,h2,h3⟩:=ZbY (k:=1) (cap:=1) h (Bs0.some hg) rfl (fun h=>by cases h) hBw hlen
 refine⟨v',w',h1,h2,h3,?_⟩
 obtain⟨i0,hi,hz0,hz1,hz2⟩:=info_parts ZcY
 have hnews:=Zgo hg
 rcases h.2 with ⟨rfl,h0⟩ | ⟨g0,cap,cur,rfl,hb,hgg,hc,hm,hs,ht⟩
 ·have hr:=run_append_nil (P:=Tryz.prog) w 38 38 5 i0 (.int .u8 0) Tryz.underlying38 hi hz0 ⟨g,0,none⟩ 1 1 (bys [y]) (by rw[hz1];rfl) hnews (by decide) (by decide) (by rw[hz2];decide)
  rw[h1] at hr
  cases hr
  exact .inr rfl
 ·by_cases hroom:l.length+1≤cap
  ·have hr:=run_append_room (P:=Tryz.prog) w 38 38 5 i0 Tryz.underlying38 hi g0 l.length cap cur hgg ⟨g,0,none⟩ 1 1 (bys [y]) (by rw[hz1];rfl) hnews (Zdd _) hroom (by rw[hz1,Zaz];simp only[List.length_cons,List.length_nil];omega)
   rw[h1] at hr
   cases hr
   exact .inl rfl
  ·have hr:=run_append_grow (P:=Tryz.prog) w 38 38 5 i0 (.int .u8 0) Tryz.underlying38 hi hz0 ⟨g0,0,none⟩ l.length cap (bys l) (by rw[hz1,Zaz,Nat.mul_one]) (World.ownsRow.cells h (g:=g0) rfl) ⟨g,0,none⟩ 1 1 (bys [y]) (by rw[hz1];rfl) hnews (by omega) (by omega) (by rw[hz2];exact growslice_fits (by omega) (by omega))
   rw[h1] at hr
   cases hr
   exact .inr rfl
theorem OwnB.kept {w w':World} {B:Nat} {v:Value} {l:List Nat} {row:Option Nat} (h:OwnB w B v l) (hg:w.grownBy w' row) (hne:v.ownBlock=none∨v.ownBlock≠row):OwnB w' B v l:=World.ownsRow.kept h hg hne
theorem OwnB.ltb {w:World} {B:Nat} {v:Value} {l:List Nat} (h:OwnB w B v l) (k:Nat) (hk:v.ownBlock=some k):B≤k∧k<w.heap.size:=World.ownsRow.lt h k hk
@[go_sem] theorem Zvq (w:World):(bldB 0 #[]).run Tryz.prog w=.ok (.slice (some ⟨w.heap.size,0,none⟩) 0 0) (w.alloc (.cells #[] 5)):=by
 obtain⟨ie,h1,h2,h3,_⟩:=info_parts ZcY
 simp[bldB,Instr.buildSlice,run_underlying Tryz.underlying38,sizeOf,typeInfo,h1,Instr.fill,Array.range_zero',newObj,newRow]
 rfl
theorem ZcU (s:List Nat) (k:Nat) (h:k<s.length):s.take k++[s.getD k 0]=s.take (k+1):=by
 rw[List.take_add_one,List.getElem?_eq_getElem h]
 simp[List.getD,h]
def eqV (op:BinOp) (t:TypeId) (x y:Operand) (v v':Value):Sem Value:=do eqGuard op t x y v v';Go.binOp op t v v'
theorem Zu2 {n:Nat} {l m:List Nat} (hl:l.length=n) (hm:m.length=n):((List.range n).all fun i=>((l.getD i 0:Nat):Int)==((m.getD i 0:Nat):Int))=decide (l=m):=by
 rw[Bool.eq_iff_iff]
 simp only[List.all_eq_true,List.mem_range,beq_iff_eq,decide_eq_true_iff]
 constructor
 ·intro h
  refine List.ext_getElem (by omega) fun i h1 h2=>?_
  have:=h i (by omega)
  simp only[List.getD,List.getElem?_eq_getElem h1,List.getElem?_eq_getElem h2,Option.getD_some] at this
  omega
 ·rintro rfl i _;rfl
theorem Zbf {t:TypeId} {n:Nat} (hu:Tryz.prog.underlying t=some (.array n 5)) (d:Nat) {l m:List Nat} (hl:l.length=n) (hm:m.length=n) (w:World) :
  (Op.equalIn (d+3) t (.agg (bysA l)) (.agg (bysA m))).run Tryz.prog w=.ok (decide (l=m)) w:=by
 obtain⟨i,hi⟩:∃i,Tryz.prog.info? 5=some i:=Option.isSome_iff_exists.1 (by kernel_rfl)
 rw[run_equalIn_array w (d+2) (bysA l) (bysA m) hu hi,show Tryz.prog.cellsOf 5=1 from by kernel_rfl,←Zu2 hl hm]
 exact Zbj (P:=Tryz.prog) (k:=.u8) (d+1) Tryz.underlying5 (bysA l) (bysA m) (fun i=>((l.getD i 0:Nat):Int)) (fun i=>((m.getD i 0:Nat):Int)) w (List.range n) fun j hj=>⟨ZaB l j (by have:=List.mem_range.1 hj;omega),ZaB m j (by have:=List.mem_range.1 hj;omega)⟩
theorem Zfp {t:TypeId} {n:Nat} (hu:Tryz.prog.underlying t=some (.array n 5)) (hg:Tryz.prog.eqGuardType Tryz.prog.depth t=false) (x y:Operand) {l m:List Nat} (hl:l.length=n) (hm:m.length=n) (w:World) :
  (eqV .eql t x y (.agg (bysA l)) (.agg (bysA m))).run Tryz.prog w=.ok (.bool (decide (l=m))) w:=by
 unfold eqV
 rw[Sem.run_bind,run_eqGuard_agg w .eql t x y _ _ hg,Result.andThen_ok,run_eql_struct,show (10000:Nat)=9997+3 from rfl,Zbf hu 9997 hl hm]
 rfl
theorem ZjQ {t:TypeId} {n:Nat} (hu:Tryz.prog.underlying t=some (.array n 5)) (hg:Tryz.prog.eqGuardType Tryz.prog.depth t=false) (x y:Operand) {l m:List Nat} (hl:l.length=n) (hm:m.length=n) (w:World) :
  (eqV .neq t x y (.agg (bysA l)) (.agg (bysA m))).run Tryz.prog w=.ok (.bool (!decide (l=m))) w:=by
 unfold eqV
 rw[Sem.run_bind,run_eqGuard_agg w .neq t x y _ _ hg,Result.andThen_ok,run_neq_struct,show (10000:Nat)=9997+3 from rfl,Zbf hu 9997 hl hm]
 rfl
@[go_sem ↓ high] theorem Zuj (a:Operand→Value) (d:Option Tmp) (op:BinOp) (x y:Operand) (u t:TypeId) (p:String) (af:Array Edge) (g:Option (Nat×Bool)) :
  execOp a ⟨d,.binOp op 28 x y u,t,p,af,g⟩=(do pure (.value (←eqV op 28 x y (a x) (a y)))):=rfl
@[go_sem] theorem Zv6 (x y:Operand) (l m:List Nat) (hl:l.length=16) (hm:m.length=16) (w:World) :
  (eqV .eql 28 x y (.agg (bysA l)) (.agg (bysA m))).run Tryz.prog w=.ok (.bool (decide (l=m))) w:=Zfp Tryz.underlying28 (by kernel_rfl) x y hl hm w
@[go_sem] theorem Zwh (x y:Operand) (l m:List Nat) (hl:l.length=16) (hm:m.length=16) (w:World) :
  (eqV .neq 28 x y (.agg (bysA l)) (.agg (bysA m))).run Tryz.prog w=.ok (.bool (!decide (l=m))) w:=ZjQ Tryz.underlying28 (by kernel_rfl) x y hl hm w
end Go.Proofs.YtddmjddlbhdcpaaGreatDoor
namespace Go.Oc
open Go Go.Sh
def dgt (n size i:Nat):Nat:=n/2^(8*(size-1-i))%256
def digN (n size:Nat):List Nat:=(List.range size).map (dgt n size)
def ZcF (l:List Nat):Nat:=l.foldl (fun a x=>a*256+x) 0
theorem ZbD (n size:Nat):(digN n size).length=size:=by simp[digN]
theorem ZlV (l:List Nat) (x:Nat):ZcF (l++[x])=ZcF l*256+x:=by simp[ZcF]
theorem Zma:∀(l:List Nat) (a:Nat),(∀ x∈l,x<256)→l.foldl (fun a x=>a*256+x) a<(a+1)*2^(8*l.length)
 | [],a,_=>by simp
 | x::l,a,h=>by
  have h1:=Zma l (a*256+x) fun y hy=>h y (by simp[hy])
  have h2:x<256:=h x (by simp)
  rw[List.foldl_cons,List.length_cons,Nat.mul_add,Nat.mul_one,Nat.add_comm (8*l.length) 8,Nat.pow_add,←Nat.mul_assoc]
  refine Nat.lt_of_lt_of_le h1 (Nat.mul_le_mul_right _ ?_)
  show a*256+x+1≤(a+1)*256
  omega
theorem Zte (l:List Nat) (h:∀i,l.getD i 0<256):ZcF l<2^(8*l.length):=by
 have:=Zma l 0 (Zdo h)
 simpa [ZcF] using this
def Fits (n:Nat) (sz:Int):Prop:=1≤sz∧sz≤8∧n<2^(8*sz.toNat)
instance (n:Nat) (sz:Int):Decidable (Fits n sz):=by unfold Fits;infer_instance
abbrev Ws:=Int×List Nat
def layS (room:Nat) (l m:List Nat):Ws:=if room<l.length+m.length then (8,l) else (0,l++m)
def numS (room:Nat) (s:Ws) (n:Nat) (sz:Int):Ws:=if s.1≠0 then s else if ¬Fits n sz then (2,s.2) else layS room s.2 (digN n sz.toNat)
def bytS (room:Nat) (s:Ws) (m:List Nat):Ws:=if s.1≠0 then s else layS room s.2 m
def filS (room:Nat) (s:Ws) (to:Int):Ws:=if s.1≠0 then s else if to<(s.2.length:Int) then (2,s.2) else if (room:Int)<to then (8,s.2) else layS room s.2 (zs (to.toNat-s.2.length))
def allL (s:Ws):List Nat:=if s.1≠0 then [] else s.2
def takS (s:Ws) (n:Nat):Ws:=if s.2.length<n then (4,s.2) else (0,s.2.drop n)
def ZhV (s:Ws) (sz:Int):Ws:=if s.1≠0 then s else if ¬(1≤sz∧sz≤8) then (2,s.2) else takS s sz.toNat
def Zhe (s:Ws) (sz:Int):Nat:=if s.1=0∧(1≤sz∧sz≤8)∧sz.toNat≤s.2.length then ZcF (s.2.take sz.toNat) else 0
def Zik (s:Ws) (n:Int):Ws:=if s.1≠0 then s else if n<0 then (2,s.2) else takS s n.toNat
def Zhi (s:Ws) (n:Int):List Nat:=if s.1=0∧0≤n∧n.toNat≤s.2.length then s.2.take n.toNat else []
def Zlt (s:Ws):Bool:=decide (s.1=0)&&s.2.all (·==0)
end Go.Oc
namespace Go.Cm
open Go Go.Sh Go.Oc
structure Cmd where
 k:Int
 n:Int
 d:Int
 id:List Nat
def Cmd.may (c:Cmd):Bool :=
 if c.k=1 then decide (0≤c.n∧c.n<16)&&decide (0≤c.d∧c.d<65)&&decide (c.id=zs 8)
 else if c.k=2 then decide (0≤c.n∧c.n<8)&&decide (c.d=0)&&decide (c.id=zs 8)
 else if c.k=3 then decide (0≤c.n∧c.n<8)&&decide (c.d=0)
 else if c.k=4 then decide (c.n=0)&&decide (c.d=0)&&decide (c.id=zs 8)
 else false
def Cmd.enc (c:Cmd):List Nat:=[c.k.toNat%256,c.n.toNat%256,c.d.toNat/256%256,c.d.toNat%256]++c.id++zs 4
def ofB (b:List Nat):Cmd:=⟨(b.getD 0 0:Nat),(b.getD 1 0:Nat),((b.getD 2 0*256+b.getD 3 0:Nat):Int),(b.drop 4).take 8⟩
def okB (b:List Nat):Bool:=(b.drop 12).all (·==0)&&(ofB b).may
def Cmd.zero:Cmd:=⟨0,0,0,zs 8⟩
def encV (c:Cmd):List Nat:=if c.may then c.enc else zs 16
def encE (c:Cmd):Int:=if c.may then 0 else 2
def decV (b:List Nat):Cmd:=if okB b then ofB b else .zero
def decE (b:List Nat):Int:=if okB b then 0 else 5
theorem ZfO {c:Cmd} (h:c.may=true):(1≤c.k∧c.k<5)∧(0≤c.n∧c.n<16)∧(0≤c.d∧c.d<65):=by
 unfold Cmd.may at h
 split at h
 ·simp at h;omega
 split at h
 ·simp at h;omega
 split at h
 ·simp at h;omega
 split at h
 ·simp at h;omega
 ·cases h
theorem Zb0 {c:Cmd} (h:c.id.length=8):c.enc.length=16:=by simp[Cmd.enc,h,zs]
theorem Znq {c:Cmd} (h:∀i,c.id.getD i 0<256):∀i,c.enc.getD i 0<256:=by
 refine Zbp fun x hx=>?_
 simp only[Cmd.enc,List.mem_append,List.mem_cons,List.not_mem_nil,or_false] at hx
 rcases hx with ((rfl | rfl | rfl | rfl) | hx) | hx
 ·exact Nat.mod_lt _ (by decide)
 ·exact Nat.mod_lt _ (by decide)
 ·exact Nat.mod_lt _ (by decide)
 ·exact Nat.mod_lt _ (by decide)
 ·exact Zdo h x hx
 ·simp[zs] at hx;omega
theorem Znc {c:Cmd} (hi:c.id.length=8) (h:c.may=true):ofB c.enc=c:=by
 obtain⟨h1,h2,h3⟩:=ZfO h
 obtain⟨k,n,d,id⟩:=c
 simp only at h1 h2 h3 hi
 simp only[ofB,Cmd.enc,List.cons_append,List.nil_append,List.getD_cons_zero,List.getD_cons_succ,List.drop_succ_cons,List.drop_zero,Cmd.mk.injEq]
 refine⟨by omega,by omega,by omega,?_⟩
 rw[←hi,List.take_left]
theorem ZsN {c:Cmd} (hi:c.id.length=8) (h:c.may=true):okB c.enc=true:=by
 unfold okB
 rw[Znc hi h,h,Bool.and_true]
 have:c.enc.drop 12=zs 4:=by
  simp only[Cmd.enc,List.cons_append,List.nil_append,List.drop_succ_cons]
  rw[←hi,List.drop_left]
 rw[this];decide
theorem Zqy (b:List Nat) (hb:b.length=16):(ofB b).id.length=8:=by simp[ofB,hb]
theorem Zbe {c:Cmd} (h:c.id.length=8):(encV c).length=16:=by
 unfold encV;split
 ·exact Zb0 h
 ·simp[zs]
theorem Zdg {c:Cmd} (h:∀i,c.id.getD i 0<256):∀i,(encV c).getD i 0<256:=by
 unfold encV;split
 ·exact Znq h
 ·exact Zbs _
theorem Zs9 {b:List Nat} (hb:b.length=16):(decV b).id.length=8:=by
 unfold decV;split
 ·exact Zqy b hb
 ·simp[Cmd.zero,zs]
end Go.Cm
namespace Go.Proofs.YtddmjddlbhdcpaaGreatDoor
open Go.RowKit Go.Hold Go.Sh Go.Cm
def cmdA (c:Cmd):Array Value:=(([.int .i64 c.k,.int .i64 c.n,.int .i64 c.d]:List Value)++bys c.id).toArray
theorem Zax {c:Cmd} (h:c.id.length=8):(cmdA c).size=11:=by simp[cmdA,bys,h]
@[go_sem] theorem Zei (c:Cmd):(cmdA c)[0]?=some (.int .i64 c.k):=by simp[cmdA]
@[go_sem] theorem ZfG (c:Cmd):(cmdA c)[1]?=some (.int .i64 c.n):=by simp[cmdA]
@[go_sem] theorem Zfw (c:Cmd):(cmdA c)[2]?=some (.int .i64 c.d):=by simp[cmdA]
@[go_sem] theorem Zw7 (c:Cmd) (h:0<(cmdA c).size):(cmdA c)[0]'h=.int .i64 c.k:=by simp[cmdA]
@[go_sem] theorem ZwN (c:Cmd) (h:1<(cmdA c).size):(cmdA c)[1]'h=.int .i64 c.n:=by simp[cmdA]
@[go_sem] theorem ZwQ (c:Cmd) (h:2<(cmdA c).size):(cmdA c)[2]'h=.int .i64 c.d:=by simp[cmdA]
@[go_sem] theorem Zhw (c:Cmd):Zbg (cmdA c)=true:=by simp[Zbg,cmdA,bys,Value.oneCell']
theorem Zfc (c:Cmd) (i:Nat) (h:i<c.id.length):(cmdA c)[3+i]?=some (.int .u8 ((c.id.getD i 0:Nat):Int)):=by
 simp only[cmdA,List.getElem?_toArray]
 rw[List.getElem?_append_right (by simp)]
 simp[bys,h]
@[go_sem] theorem ZkJ (c:Cmd) (h:c.id.length=8):(cmdA c).extract 3 11=bysA c.id:=by
 apply Array.ext_getElem?
 intro i
 rw[Array.getElem?_extract,Zax h]
 by_cases hi:i<8
 ·rw[if_pos (by omega),Zfc c i (by omega),ZaB _ i (by omega)]
 ·rw[if_neg (by omega),Array.getElem?_eq_none (by rw[Zaj];omega)]
theorem ZmC {w:World} {g:Nat} {c:Cmd} (h:RowAt w g (cmdA c)):BytesAt w g 3 c.id :=
 ⟨h.2.2,fun i hi=>h.cellAt (3+i) (Zfc c i hi)⟩
theorem ZaG {t:TypeId} {d:TypeDesc} {o k:Nat} (hu:Tryz.prog.underlying t=some d) (hd:d.isRow=true) (hi:(Tryz.prog.info? t).map (·.size)=some k) (w:World) (n:Nat) (h1:w.isRow n=true) (h2:o+k≤(w.rowOf n).size) :
  (Zam t (.pointer (some ⟨n,o,none⟩))).run Tryz.prog w=.ok (.agg ((w.rowOf n).extract o (o+k))) w:=by
 obtain⟨s,hs⟩:=World.isRow_spec h1
 have:=run_loadAt_mid (P:=Tryz.prog) w n o t ((w.rowOf n).extract o (o+k)).toList d (World.rangeAt_of_block hs o k) hu hd (by rw[hi];simp;omega)
 rw[Array.toArray_toList] at this
 exact this
@[go_sem ↓] theorem ZtN (v:Value):Instr.loadAt 51 v=Zam 51 v:=rfl
@[go_sem] theorem Ztj (w:World) (n:Nat) (h1:w.isRow n=true) (h2:(w.rowOf n).size=11):(Zam 51 (.pointer (some ⟨n,0,none⟩))).run Tryz.prog w=.ok (.agg (w.rowOf n)) w:=ZaF w Tryz.underlying51 rfl (by kernel_rfl) n h1 h2
@[go_sem ↓] theorem Zu6 (v:Value):Instr.loadAt 49 v=Zam 49 v:=rfl
@[go_sem] theorem ZtG (w:World) (n:Nat) (h1:w.isRow n=true) (h2:(w.rowOf n).size=11):(Zam 49 (.pointer (some ⟨n,3,none⟩))).run Tryz.prog w=.ok (.agg ((w.rowOf n).extract 3 11)) w:=ZaG (k:=8) Tryz.underlying49 rfl (by kernel_rfl) w n h1 (by omega)
@[go_sem ↓] theorem ZtO (v:Value):Instr.loadAt 28 v=Zam 28 v:=rfl
@[go_sem] theorem ZsY (w:World) (n:Nat) (h1:w.isRow n=true) (h2:(w.rowOf n).size=16):(Zam 28 (.pointer (some ⟨n,0,none⟩))).run Tryz.prog w=.ok (.agg (w.rowOf n)) w:=ZaF w Tryz.underlying28 rfl (by kernel_rfl) n h1 h2
@[go_sem ↓] theorem Zua (ps:Array (Nat×Value)):Instr.build 51 ps=bldA 51 ps:=rfl
@[go_sem ↓] theorem Zwk (ps:Array (Nat×Value)):Instr.build 49 ps=bldA 49 ps:=rfl
@[go_sem ↓] theorem Zu0 (ps:Array (Nat×Value)):Instr.build 28 ps=bldA 28 ps:=rfl
@[go_sem] theorem Zse (w:World):(bldA 51 #[]).run Tryz.prog w=.ok (.agg (cmdA .zero)) w:=run_build w _ _ _ (by kernel_rfl)
@[go_sem] theorem Zjs (k n d:Int) (w:World):(bldA 51 #[(0,.int .i64 k),(1,.int .i64 n),(2,.int .i64 d)]).run Tryz.prog w=.ok (.agg (cmdA ⟨k,n,d,zs 8⟩)) w:=run_build w _ _ _ (by kernel_rfl)
@[go_sem] theorem Ztw (w:World):(bldA 49 #[]).run Tryz.prog w=.ok (.agg (bysA (zs 8))) w:=run_build w _ _ _ (by kernel_rfl)
@[go_sem] theorem ZtP (w:World):(bldA 28 #[]).run Tryz.prog w=.ok (.agg (bysA (zs 16))) w:=run_build w _ _ _ (by kernel_rfl)
theorem Zjx (c:Cmd) (h:c.id.length=8) (w:World):(bldA 51 #[(0,.int .i64 c.k),(1,.int .i64 c.n),(2,.int .i64 c.d),(3,.agg (bysA c.id))]).run Tryz.prog w=.ok (.agg (cmdA c)) w:=by
 obtain⟨k,n,d,id⟩:=c
 match id,h with
 | [a0,a1,a2,a3,a4,a5,a6,a7],_=>exact run_build w _ _ _ (by kernel_rfl)
@[go_sem ↓ high] theorem ZuE (a:Operand→Value) (d:Option Tmp) (op:BinOp) (x y:Operand) (u t:TypeId) (p:String) (af:Array Edge) (g:Option (Nat×Bool)) :
  execOp a ⟨d,.binOp op 49 x y u,t,p,af,g⟩=(do pure (.value (←eqV op 49 x y (a x) (a y)))):=rfl
@[go_sem] theorem Zv3 (x y:Operand) (l m:List Nat) (hl:l.length=8) (hm:m.length=8) (w:World) :
  (eqV .eql 49 x y (.agg (bysA l)) (.agg (bysA m))).run Tryz.prog w=.ok (.bool (decide (l=m))) w:=Zfp Tryz.underlying49 (by kernel_rfl) x y hl hm w
theorem Zd8 {fn:Func} {p p':Tmp} (h:fn.results=#[.cell p 51,.tmp p']) (c:Cmd) (hc:c.id.length=8) (x:Value) (w:World) (tmps:Array Value) (n:Nat) (hp:tmps.getD p undef=.pointer (some ⟨n,0,none⟩)) (h1:w.isRow n=true) (h2:w.rowOf n=cmdA c) (hx:tmps.getD p' undef=x) :
  (results fn tmps).run Tryz.prog w=.ok (.tuple #[.agg (cmdA c),x]) w :=
 ZbH w h Tryz.underlying51 rfl (by rw[Zax hc];kernel_rfl) tmps n hp h1 h2 hx
theorem Zdj {fn:Func} {p p':Tmp} (h:fn.results=#[.cell p 28,.tmp p']) (l:List Nat) (hl:l.length=16) (x:Value) (w:World) (tmps:Array Value) (n:Nat) (hp:tmps.getD p undef=.pointer (some ⟨n,0,none⟩)) (h1:w.isRow n=true) (h2:w.rowOf n=bysA l) (hx:tmps.getD p' undef=x) :
  (results fn tmps).run Tryz.prog w=.ok (.tuple #[.agg (bysA l),x]) w :=
 ZbH w h Tryz.underlying28 rfl (by rw[Zaj,hl];kernel_rfl) tmps n hp h1 h2 hx
open Go.RowKit Go.Hold Go.Sh
theorem Zdf:(Tryz.prog.info? 129).map (fun i=>(i.zero,i.size,i.bytes))=some (some (.int .u32 0),1,4):=by kernel_rfl
def OwnW (w:World) (B:Nat) (v:Value) (l:List Int):Prop:=w.ownsRow B 129 1 v l.length (wos l)
def WordsAt (w:World) (g:Nat) (l:List Int):Prop:=g<w.heap.size∧∀ i,i<l.length→w.cell? ⟨g,i,none⟩=some (.int .u32 (l.getD i 0))
theorem WordsAt.grow {w w':World} {g:Nat} {l:List Int} (h:WordsAt w g l) (hb:Below w.heap.size w w'):WordsAt w' g l :=
 ⟨Nat.lt_of_lt_of_le h.1 hb.size,fun i hi=>by rw[hb.cell h.1];exact h.2 i hi⟩
theorem ZdN (l:List Int):(wos l).length=l.length:=by simp[wos]
theorem OwnW.below {w w':World} {B:Nat} {v:Value} {l:List Int} (h:OwnW w B v l) (hb:Below w.heap.size w w'):OwnW w' B v l:=ZaU h hb
theorem OwnW.snoc {w:World} {B:Nat} {v:Value} {l:List Int} {x:Int} (h:w.ownsRow B 129 1 v (l.length+1) (wos l++[.int .u32 x])):OwnW w B v (l++[x]):=by
 unfold OwnW
 rw[List.length_append,show wos (l++[x])=wos l++[.int .u32 x] by simp[wos]];exact h
theorem OwnW.addr {w:World} {B:Nat} {v:Value} {l:List Int} {k:Nat} (h:OwnW w B v l) (hk:l.length=k) (h0:0<k):∃g cap,v=.slice (some ⟨g,0,none⟩) k cap∧B≤g∧g<w.heap.size∧k≤cap:=by
 subst hk
 rcases h.2 with ⟨_,h1⟩ | ⟨g,cap,cur,rfl,hb,hg,hc,_⟩
 ·omega
 ·exact⟨g,cap,rfl,hb,(Array.getElem?_eq_some_iff.1 hg).1,hc⟩
theorem OwnW.words {w:World} {B g cap k:Nat} {l:List Int} (h:OwnW w B (.slice (some ⟨g,0,none⟩) k cap) l) (hg:g<w.heap.size):WordsAt w g l:=by
 refine⟨hg,fun i hi=>?_⟩
 have hk:k=l.length:=by
  rcases h.2 with ⟨h1,_⟩ | ⟨g',cap',cur,he,_⟩
  ·cases h1
  ·cases he;rfl
 subst hk
 rw[World.ownsRow.cellAt h i (by omega)]
 simp[wos,hi]
theorem ZdD (w:World) (B:Nat) (hB:B≤w.heap.size):OwnW (w.alloc (.cells #[] 129)) B (.slice (some ⟨w.heap.size,0,none⟩) 0 0) [] :=
 ⟨rfl,.inr ⟨w.heap.size,0,#[],rfl,hB,Zaq w _,Nat.le_refl _,by decide,rfl,rfl⟩⟩
theorem ZnE (l:List Int):∀u∈wos l,u.oneCell'=true:=fun u hu=>by
 simp only[wos,List.mem_map] at hu
 obtain⟨x,_,rfl⟩:=hu;rfl
theorem Zqf {w:World} {g:Nat} {l:List Int} (h:WordsAt w g l):∀j u,(wos l)[j]?=some u→w.cell? ((⟨g,0,none⟩:Addr).add j)=some u:=fun j u hu=>by
 have hj:j<l.length:=by have:=(List.getElem?_eq_some_iff.1 hu).1;rwa [ZdN] at this
 rw[Addr.add_mid,Nat.zero_add,h.2 j hj,←hu]
 simp[wos,hj]
theorem Zf6 {w:World} {g:Nat} {l:List Int} (h:RowAt w g (wosA l)):WordsAt w g l:=⟨h.2.2,fun i hi=>h.cellAt i (Zfk l i hi)⟩
theorem Zeb (w:World) (l:List Int) (t:TypeId):WordsAt (w.alloc (.cells (wosA l) t)) w.heap.size l:=Zf6 (RowAt.of (Zaq w _))
theorem or_add (a b i:Nat) (h:b<2^i):a*2^i ||| b=a*2^i+b:=by
 have:=Nat.shiftLeft_add_eq_or_of_lt h a
 rw[Nat.shiftLeft_eq] at this
 exact this.symm
def bldS (t:TypeId) (n:Nat) (ps:Array (Nat×Value)):Sem Value:=Instr.buildSlice t n ps
def SlW (w:World) (g:Nat) (l:List Int):Prop:=WordsAt w g l∧∀ i,i<l.length→w.frozen? ⟨g,i,none⟩=false
theorem SlW.grow {w w':World} {g:Nat} {l:List Int} (h:SlW w g l) (hb:Below w.heap.size w w'):SlW w' g l :=
 ⟨h.1.grow hb,fun i hi=>by rw[World.frozen?_of_block (hb.block g h.1.1)];exact h.2 i hi⟩
theorem OwnW.slw {w:World} {B g cap k:Nat} {l:List Int} (h:OwnW w B (.slice (some ⟨g,0,none⟩) k cap) l) (hg:g<w.heap.size):SlW w g l:=by
 refine⟨h.words hg,fun i _=>?_⟩
 rcases h.2 with ⟨h1,_⟩ | ⟨g',cap',cur,he,_,hb,_⟩
 ·cases h1
 ·cases he
  simp[World.frozen?,hb]
theorem SlW.set {w:World} {g i:Nat} {l:List Int} {x:Int} (h:SlW w g l) (hi:i<l.length):SlW (w.setCell ⟨g,i,none⟩ (.int .u32 x)) g (l.set i x):=by
 refine⟨⟨by rw[World.size_setCell];exact h.1.1,fun j hj=>?_⟩,fun j hj=>?_⟩
 ·rw[List.length_set] at hj
  by_cases e:i=j
  ·subst e
   rw[World.cell?_setCell_same _ _ _ (h.1.2 i hi)]
   simp[List.getD,hi]
  ·rw[World.cell?_setCell_other _ _ _ _ (by simp),h.1.2 j hj]
   simp[List.getD,e]
 ·rw[List.length_set] at hj
  rw[World.frozen?_setCell];exact h.2 j hj
theorem Ze2 {w:World} {B:Nat} {v:Value} {l m:List Int} {g cap k:Nat} (h:OwnW w B v l) (hg:WordsAt w g m) (hk:k=m.length) (hBw:B≤w.heap.size) (hlen:l.length+m.length≤16777216) :
  ∃ v' w',(Builtin.append_ #[179,179] 179 #[v,.slice (some ⟨g,0,none⟩) k cap]).run Tryz.prog w=.ok v' w'∧OwnW w' B v' (l++m)∧w.grownBy w' v.ownBlock:=by
 subst hk
 obtain⟨i0,hi,hz0,hz1,hz2⟩:=info_parts Zdf
 obtain⟨v',w',h1,h2,h3,_⟩:=run_append_own (P:=Tryz.prog) w B 179 179 129 i0 (.int .u32 0) 1 4 Tryz.underlying179 hi hz0 hz1 hz2 rfl (by decide) v l.length (wos l) h ⟨g,0,none⟩ m.length cap (wos m) (by rw[ZdN,Nat.mul_one]) (Zqf hg) (ZnE m) (ZaL hlen) (by omega) hBw
 refine⟨v',w',h1,?_,h3⟩
 unfold OwnW
 rw[List.length_append,show wos (l++m)=wos l++wos m by simp[wos]];exact h2
theorem ZdM {B:Nat} {w w1 w2:World} {v:Value} {l:List Int} (hb:Below B w w1) (ho:OwnW w1 B v l) (hB:B≤w1.heap.size) (hg:w1.grownBy w2 v.ownBlock):Below B w w2:=Zbd hb ho hB hg
theorem ZeU (k:Nat):(k:Int).tmod 64=((k%64:Nat):Int):=rfl
theorem Zj7 (n k:Nat) (hk:k≤gap n):(n+1+k)%64=56↔k=gap n:=by unfold gap at *;omega
theorem Zmp (k:Nat):zs k++[0]=zs (k+1):=by simp[zs,List.replicate_succ']
theorem ZhQ (n j:Nat) (hj:j<8):(len8 n).take (j+1)=(len8 n).take j++[n*8/256^(7-j)%256]:=by
 have:j<(len8 n).length:=by rw[Zb4];exact hj
 rw[List.take_add_one,List.getElem?_eq_getElem this]
 simp[len8]
theorem ZbE (s:St):keA s=bysA (keyN s):=by
 unfold keA byI keyL bysA bys keyN
 simp only[List.map_map]
 congr 1
 apply List.map_congr_left
 intro i _
 exact congrArg (Value.int .u8) (ZnS s i).symm
theorem Ze7 {w:World} {g:Nat} {s:St} (h:RowAt w g (keA s)):BytesAt w g 0 (keyN s):=ZaH (by rw[←ZbE];exact h)
theorem ZoW (cap:Nat) (p:Option Addr) (l:List Nat) (w:World) (hT:Tabs w) (hl:l.length≤1000000) (hlb:∀i,l.getD i 0<256) (hB:Bs0 w p l) (hc:l.length≤cap) :
  Calls Tryz.prog 90 #[.slice p l.length cap] w fun e w'=>∃ g,e=.returned (.slice (some ⟨g,0,none⟩) 64 64)∧RowAt w' g (bysA (Zdn l))∧w.heap.size≤g∧Below w.heap.size w w':=by
 have HT:=Zq hT
 have HB:=Zq hB
 obtain⟨n,en⟩:∃n,n=l.length:=⟨_,rfl⟩
 have En:=Zq en
 have hR0:RowAt (w.alloc (.cells (bysA (zs 64)) 5)) w.heap.size (bysA (zs 64)):=RowAt.of (Zaq w _)
 by_cases h64:64<n
 ·have h64':(64:Int)<(n:Int):=by omega
  have HS:=Zq (Zsa cap p l (w.alloc (.cells (bysA (zs 64)) 5)) (hT.grow (Zab (Below.refl _ _) _)) (by omega) hlb (hB.grow (Zab (Below.refl _ _) _)) hc)
  have HF:=Zq (show Zdn l=(keyN (dig l)).take 32++(zs 64).drop 32 by
   unfold Zdn
   rw[if_pos (by omega),List.take_of_length_le (by rw[Zar];exact Nat.le_refl _),ZcI])
  have HR:=Zq hR0
  rw[←en] at HS ⊢
  clear hT hB en hc hR0 hl
  generalize dig l=D at *
  go_enter Tryz.func90,Tryz.ntmps90
  go_wp2_with fail
  refine HS.out.mono ?_
  rintro e w1 ⟨rfl,hb1⟩
  have R1:=Zq (HR.out.grow hb1)
  have B1:=Zq ((Zab (Below.refl w.heap.size w) (.cells (bysA (zs 64)) 5)).trans (hb1.mono (by simp)))
  clear hb1 HS
  have hcp:=Zb7 (W:=w1.alloc (.cells (keA D) 23)) (c2:=64) (cap:=32) (d:=64) (s:=32) (k:=32) (R1.out.grow (Zab (Below.refl _ _) _)) (by rw[Zah]) (Zar D).symm (by rw[Zah,Zar];decide) (Bs0.some (Ze7 (RowAt.of (Zaq w1 _))))
  rw[←HF.out] at hcp
  have R2:=Zq ((R1.out.grow (Zab (Below.refl _ _) (.cells (keA D) 23))).set (bysA (Zdn l)))
  have B2:=Zq (Zad (Zab B1.out (.cells (keA D) 23)) (Nat.le_refl _) (bysA (Zdn l)))
  generalize (w1.alloc (.cells (keA D) 23)).setRow w.heap.size (bysA (Zdn l))=W3 at *
  go_wp2_with fail
  go_ret
  exact⟨_,rfl,R2.out,Nat.le_refl _,B2.out⟩
 ·have h64':¬(64:Int)<(n:Int):=by omega
  have hcp:=Zb7 (c2:=64) (cap:=cap) (d:=64) (s:=n) (k:=n) hR0 (by rw[Zah]) en (by rw[Zah];omega) (hB.grow (Zab (Below.refl _ _) _))
  have HF:=Zq (show Zdn l=l.take n++(zs 64).drop n by
   unfold Zdn
   rw[if_neg (by omega),List.take_of_length_le (by omega),ZcI,en])
  rw[←en]
  rw[←HF.out] at hcp
  clear hT hB en hc hR0 hl
  go_enter Tryz.func90,Tryz.ntmps90
  go_wp2_with fail
  go_ret
  refine⟨_,rfl,?_,Nat.le_refl _,?_⟩
  ·exact RowAt.of (Zaq w _)
  ·exact Zab (Below.refl _ _) _
theorem Ze8 (m:Nat) (l:List Nat) (i:Nat) (h:i<l.length):(xorL m l).getD i 0=l.getD i 0 ^^^ m:=by simp[xorL,List.getD,h]
theorem Zs8 (m:Nat) (l:List Nat) (i:Nat) (h:i<l.length):((xorL m l).take i++zs (l.length-i)).set i (l.getD i 0 ^^^ m)=(xorL m l).take (i+1)++zs (l.length-(i+1)):=by
 have hx:i<(xorL m l).length:=by rw[ZaQ];exact h
 have e:zs (l.length-i)=0::zs (l.length-(i+1)):=by
  obtain⟨k,hk⟩:∃k,l.length-i=k+1:=⟨l.length-i-1,by omega⟩
  rw[hk,show l.length-(i+1)=k by omega];rfl
 have hlen:((xorL m l).take i).length=i:=by rw[List.length_take];omega
 rw[List.set_append,if_neg (by omega),hlen,Nat.sub_self,e,List.set_cons_zero,List.take_add_one,List.getElem?_eq_getElem hx,List.append_assoc]
 congr 2
 simp[xorL,List.getD,h]
theorem ZkR (g cap m:Nat) (l:List Nat) (w:World) (hl:l.length=64) (hlb:∀i,l.getD i 0<256) (hm:m<256) (hB:BytesAt w g 0 l) :
  Calls Tryz.prog 92 #[.slice (some ⟨g,0,none⟩) 64 cap,.int .u8 (m:Int)] w fun e w'=>∃ x,e=.returned (.slice (some ⟨x,0,none⟩) 64 64)∧RowAt w' x (bysA (xorL m l))∧w.heap.size≤x∧Below w.heap.size w w':=by
 have HB:=Zq hB
 have R0:=Zq (show RowAt (w.alloc (.cells (bysA (zs 64)) 5)) w.heap.size (bysA ((xorL m l).take 0++zs (l.length-0))) by rw[hl];exact RowAt.of (Zaq w _))
 have HL:=Zq hl
 clear hB hl
 go_enter Tryz.func92,Tryz.ntmps92
 go_wp2_with fail
 obtain⟨x,ex⟩:∃x,x=w.heap.size:=⟨_,rfl⟩
 have B0:=Zq (show Below w.heap.size w (w.alloc (.cells (bysA (zs 64)) 5)) from Zab (Below.refl _ _) _)
 go_loopw [13] (fun i wr=>∃ k:Nat,k≤64∧i=.int .i64 k∧RowAt wr w.heap.size (bysA ((xorL m l).take k++zs (l.length-k)))∧Below w.heap.size w wr) (fun i _=>64-(intOf i).toNat)
 case atStart=>exact⟨0,by decide,rfl,R0.out,B0.out⟩
 case round =>
  obtain⟨k,hk,rfl,hrow,hbel⟩:=hrel
  by_cases hk64:k<64
  ·have hk0:(0:Int)≤(k:Int):=by omega
   have hk1:(k:Int)<64:=by omega
   have hkl:k<l.length:=by rw[HL.out];exact hk64
   have hck:=(HB.out.grow hbel).2 k hkl
   rw[Nat.zero_add] at hck
   have hx:=u8_xor_nat (l.getD k 0) m (hlb k) hm
   have hset:=Zq (Zs8 m l k hkl)
   generalize l.getD k 0=y at *
   generalize y ^^^ m=z at *
   have hlx:k<((xorL m l).take k++zs (l.length-k)).length:=by rw[List.length_append,List.length_take,ZaQ,Zah];omega
   have hcx:=hrow.cellAt k (ZaB _ k hlx)
   have hfx:=hrow.frozenAt k
   have Hrow:=Zq hrow
   have Hbel:=Zq hbel
   clear hrow hbel hlx hkl
   go_wp2_with fail
   go_roundw
   case rel =>
    refine⟨k+1,by omega,by go_num,?_,?_⟩
    ·rw[←hset.out,←Zca];exact Hrow.out.setCell _ _
    ·exact Hbel.out.setCell (p:=⟨_,_,none⟩) (Nat.le_refl _) _
   case measure=>simp[intOf];omega
  ·obtain rfl:k=64:=by omega
   have HR:=Zq hrow
   have Hbel:=Zq hbel
   clear hrow hbel
   go_wp2_with fail
   go_ret
   refine⟨_,rfl,?_,Nat.le_refl _,Hbel.out⟩
   have:=HR.out
   rw[HL.out,List.take_of_length_le (by rw[ZaQ,HL.out];exact Nat.le_refl _),show zs (64-64)=[] from rfl,List.append_nil] at this
   exact this
theorem ZuA (n:Nat) (w:World) (hn:n≤16777216) :
  Calls Tryz.prog 88 #[.slice none 0 0,.int .i64 (n:Int)] w fun e w'=>∃ v,e=.returned v∧OwnB w' w.heap.size v []∧Below w.heap.size w w':=by
 have h0:¬(n:Int)<0:=by omega
 have h1:IntKind.i64.wrap (n:Int)=(n:Int):=by rw[IntWalk.i64_in _ (by omega)]
 by_cases hz:0<n
 ·have h2:(0:Int)<(n:Int):=by omega
  obtain⟨i0,hi,hz0,hz1,hz2⟩:=info_parts ZcY
  have hr:=Lib.run_append_nil_zeros (P:=Tryz.prog) w 38 3 38 5 i0 (.int .u8 0) .i64 .i64 Tryz.underlying38 Tryz.underlying3 hi hz0 n hz (by rw[hz1];decide) (by omega) (by rw[hz2];omega)
  have hge:=grownCap_ge w n 0 5
  have hle:=grownCap_le_maxLen w n 0 5 (ZaL hn)
  generalize grownCap w n 0 5=c at *
  have HO:=Zq (show OwnB (w.drew.alloc (.cells (Builtin.zeroCells (Value.int .u8 0).cells n++Builtin.zeroCells (Value.int .u8 0).cells (c-n)) 5)) w.heap.size (.slice (some ⟨w.heap.size,0,none⟩) 0 c) [] from
   World.ownsRow_made w.drew _ c (Nat.le_refl _) hle (by simp[size_zeroCells,Value.cells];omega))
  have HB:=Zq (show Below w.heap.size w (w.drew.alloc (.cells (Builtin.zeroCells (Value.int .u8 0).cells n++Builtin.zeroCells (Value.int .u8 0).cells (c-n)) 5)) from (Below.refl w.heap.size w).drew.alloc (Nat.le_refl _) _)
  generalize w.drew.alloc (.cells (Builtin.zeroCells (Value.int .u8 0).cells n++Builtin.zeroCells (Value.int .u8 0).cells (c-n)) 5)=W2 at *
  have hc63:c≤9223372036854775807:=by unfold maxLen at hle;omega
  clear hle hge hn
  go_enter Tryz.func88,Tryz.ntmps88
  go_wp2_with (at_builtin;refine Lib.wpList_append_run _ rfl _ _ _ _ rfl _ _ rfl rfl _ _ hr ?_)
  go_wp2_with fail
  go_ret
  exact⟨_,rfl,HO.out,HB.out⟩
 ·obtain rfl:n=0:=by omega
  go_enter Tryz.func88,Tryz.ntmps88
  go_wp2_with fail
  go_ret
  exact⟨_,rfl,Zbk w _,Below.refl _ _⟩
abbrev Bsl:=Option Addr×List Nat×Nat
def bsV (s:Bsl):Value:=.slice s.1 s.2.1.length s.2.2
def flat (ss:List Bsl):List Nat:=ss.flatMap fun s=>s.2.1
theorem Ziu (ss:List Bsl) (i:Nat) (s:Bsl) (h:ss[i]?=some s):flat (ss.take (i+1))=flat (ss.take i)++s.2.1:=by
 rw[List.take_add_one,h]
 simp[flat]
def BslAt (w:World) (ss:List Bsl):Prop:=∀ s∈ss,Bs0 w s.1 s.2.1∧(s.1=none→s.2.2=0)
theorem BslAt.grow {w w':World} {ss:List Bsl} (h:BslAt w ss) (hb:Below w.heap.size w w'):BslAt w' ss:=fun s hs=>⟨(h s hs).1.grow hb,(h s hs).2⟩
theorem Zmy (ss:List Bsl) (i:Nat):(flat (ss.take i)).length≤(flat ss).length:=by
 conv=>rhs;rw[←List.take_append_drop i ss]
 simp only[flat,List.flatMap_append,List.length_append]
 omega
theorem ZkK (g k cap:Nat) (ss:List Bsl) (w:World) (hk:k=ss.length) (hg:RowAt w g (ss.map bsV).toArray) (hS:BslAt w ss) (hn:(flat ss).length≤16000000) (hk8:k≤1000) :
  Calls Tryz.prog 57 #[.slice (some ⟨g,0,none⟩) k cap] w fun e w'=>∃ v,e=.returned v∧OwnB w' w.heap.size v (flat ss)∧Below w.heap.size w w':=by
 have HG:=Zq hg
 have HS:=Zq hS
 have HN:=Zq hn
 have HK:=Zq hk
 have hcell:∀(i:Nat) (s:Bsl),ss[i]?=some s→(ss.map bsV).toArray[i]?=some (bsV s):=fun i s h=>by simp[h]
 have HC:=Zq hcell
 clear hg hS hn hk hcell
 go_enter Tryz.func57,Tryz.ntmps57
 go_wp2_with fail
 go_loopw [3,11] (fun z i wr=>∃ j:Nat,j≤k∧i=.int .i64 j∧z=.int .i64 ((flat (ss.take j)).length:Int)∧w=wr) (fun _ i _=>k-(intOf i).toNat)
 case atStart=>exact⟨0,by omega,rfl,rfl,rfl⟩
 case round =>
  obtain⟨j,hj,rfl,rfl,rfl⟩:=hrel
  by_cases hjk:j<k
  ·have hj0:(0:Int)≤(j:Int):=by omega
   have hj1:(j:Int)<(k:Int):=by omega
   obtain⟨s,hs⟩:∃s,ss[j]?=some s:=⟨_,List.getElem?_eq_getElem (by rw[←HK.out];exact hjk)⟩
   have hcj:=HG.out.cellAt j (HC.out j s hs)
   obtain⟨p,l,c⟩:=s
   simp only[bsV] at hcj
   have hft:=Ziu ss j _ hs
   have hle:=Zmy ss (j+1)
   obtain⟨m,em⟩:∃m,m=l.length:=⟨_,rfl⟩
   obtain⟨t,et⟩:∃t,t=(flat (ss.take j)).length:=⟨_,rfl⟩
   obtain⟨t2,et2⟩:∃t,t=(flat (ss.take (j+1))).length:=⟨_,rfl⟩
   have htm:t2=t+m:=by rw[et2,hft,List.length_append,et,em]
   have hN:=HN.out
   have hw1:IntKind.i64.wrap ((t:Int)+(m:Int))=(t2:Int):=by rw[IntWalk.i64_in _ (by omega)];omega
   have hw0:¬(t2:Int)<0:=by omega
   rw[←em] at hcj
   rw[←et]
   have Et2:=Zq et2
   clear em et et2 htm hft hle hN hs
   go_wp2_with fail
   go_roundw
   case rel=>exact⟨j+1,by omega,by go_num,by rw[←Et2.out],by first | trivial | rfl⟩
   case measure=>simp[intOf];omega
  ·obtain rfl:j=k:=by omega
   have hfl:(flat (ss.take j))=flat ss:=by rw[List.take_of_length_le (by rw[←HK.out];exact Nat.le_refl _)]
   rw[hfl]
   have hN:=HN.out
   have GC:=Zq (ZuA (flat ss).length w (by omega))
   obtain⟨t,et⟩:∃t,t=(flat ss).length:=⟨_,rfl⟩
   rw[←et] at GC ⊢
   clear hfl et hN
   go_wp2_with fail
   refine GC.out.mono ?_
   rintro e W1 ⟨v,rfl,hown,hbel⟩
   have HO:=Zq hown
   have HB:=Zq hbel
   clear hown hbel GC
   go_wp2_with fail
   go_loopw [6,27] (fun v i wr=>∃ q:Nat,q≤j∧i=.int .i64 q∧OwnB wr w.heap.size v (flat (ss.take q))∧Below w.heap.size w wr) (fun _ i _=>j-(intOf i).toNat)
   case atStart=>exact⟨0,by omega,rfl,HO.out,HB.out⟩
   case round =>
    obtain⟨q,hq,rfl,hown,hbel⟩:=hrel
    by_cases hqj:q<j
    ·have hq0:(0:Int)≤(q:Int):=by omega
     have hq1:(q:Int)<(j:Int):=by omega
     obtain⟨s,hs⟩:∃s,ss[q]?=some s:=⟨_,List.getElem?_eq_getElem (by rw[←HK.out];exact hqj)⟩
     have hcj:=(HG.out.grow hbel).cellAt q (HC.out q s hs)
     have hft:=Ziu ss q _ hs
     have hle:=Zmy ss (q+1)
     have hN:=HN.out
     have hsm:=(HS.out.grow hbel) s (List.mem_of_getElem? hs)
     obtain⟨p,l,c⟩:=s
     simp only[bsV] at hcj
     obtain⟨m,em⟩:∃m,m=l.length:=⟨_,rfl⟩
     rw[←em] at hcj
     have hlen:(flat (ss.take q)).length+l.length≤16777216:=by rw[hft,List.length_append] at hle;simp only at hle;omega
     obtain⟨v2,w2,hr,hown2,hgr⟩:=ZbY (cap:=c) hown hsm.1 em hsm.2 hbel.size hlen
     rw[←hft] at hown2
     have Hb2:=Zq (Za2 hbel hown hbel.size hgr)
     have Ho2:=Zq hown2
     clear hown2 hgr hown hbel hsm hft hle hN hlen em hs
     go_wp2_with (at_builtin;refine Lib.wpList_append_run _ rfl _ _ _ _ rfl _ _ rfl rfl _ _ hr ?_)
     go_wp2_with fail
     go_roundw
     case rel=>exact⟨q+1,by omega,by go_num,Ho2.out,Hb2.out⟩
     case measure=>simp[intOf];omega
    ·obtain rfl:q=j:=by omega
     have Ho:=Zq hown
     have Hb:=Zq hbel
     clear hown hbel
     go_wp2_with fail
     go_ret
     refine⟨_,rfl,?_,Hb.out⟩
     have:=Ho.out
     rw[List.take_of_length_le (by rw[←HK.out];exact Nat.le_refl _)] at this
     exact this
def bldV (n:Nat) (ps:Array (Nat×Value)):Sem Value:=Instr.buildSlice 140 n ps
@[go_sem ↓] theorem Zt7 (n:Nat) (ps:Array (Nat×Value)):Instr.buildSlice 140 n ps=bldV n ps:=rfl
theorem ZlS:(Tryz.prog.info? 38).map (fun i=>(i.zero,i.size,i.bytes))=some (some (.slice none 0 0),1,24):=by kernel_rfl
@[go_sem] theorem Zuc (w:World) (p q:Option Addr) (l c m d:Nat):(bldV 2 #[(0,.slice p l c),(1,.slice q m d)]).run Tryz.prog w=.ok (.slice (some ⟨w.heap.size,0,none⟩) 2 2) (w.alloc (.cells #[.slice p l c,.slice q m d] 38)):=by
 obtain⟨ie,h1,h2,h3,_⟩:=info_parts ZlS
 refine run_buildSlice w _ _ 2 _ #[.slice p l c,.slice q m d] ie _ Tryz.underlying140 h1 h2 (by rw[h3];decide) (by rw[h3];decide) ?_
 rw[h3];kernel_rfl
@[go_sem] theorem Zu9 (w:World) (p q r:Option Addr) (l c m d n e:Nat):(bldV 3 #[(0,.slice p l c),(1,.slice q m d),(2,.slice r n e)]).run Tryz.prog w=.ok (.slice (some ⟨w.heap.size,0,none⟩) 3 3) (w.alloc (.cells #[.slice p l c,.slice q m d,.slice r n e] 38)):=by
 obtain⟨ie,h1,h2,h3,_⟩:=info_parts ZlS
 refine run_buildSlice w _ _ 3 _ #[.slice p l c,.slice q m d,.slice r n e] ie _ Tryz.underlying140 h1 h2 (by rw[h3];decide) (by rw[h3];decide) ?_
 rw[h3];kernel_rfl
theorem Zig {W:World} {g:Nat} {p q:Option Addr} {l m:List Nat} {n1 n2 c d:Nat} (hg:RowAt W g #[.slice p n1 c,.slice q n2 d]) (h1:n1=l.length) (h2:n2=m.length)
  (hp:Bs0 W p l) (hq:Bs0 W q m) (hpc:p=none→c=0) (hqd:q=none→d=0) (hn:l.length+m.length≤16000000) :
  Calls Tryz.prog 57 #[.slice (some ⟨g,0,none⟩) 2 2] W fun e w'=>∃ v,e=.returned v∧OwnB w' W.heap.size v (l++m)∧Below W.heap.size W w':=by
 subst h1 h2
 have:=ZkK g 2 2 [(p,l,c),(q,m,d)] W rfl hg (fun s hs=>by
  rcases List.mem_cons.1 hs with rfl | hs
  ·exact⟨hp,hpc⟩
  ·rcases List.mem_cons.1 hs with rfl | hs
   ·exact⟨hq,hqd⟩
   ·cases hs) (by simp[flat];omega) (by decide)
 simpa [flat] using this
theorem ZiC {W:World} {g:Nat} {p q r:Option Addr} {l m k:List Nat} {n1 n2 n3 c d e:Nat} (hg:RowAt W g #[.slice p n1 c,.slice q n2 d,.slice r n3 e]) (h1:n1=l.length) (h2:n2=m.length) (h3:n3=k.length)
  (hp:Bs0 W p l) (hq:Bs0 W q m) (hr:Bs0 W r k) (hpc:p=none→c=0) (hqd:q=none→d=0) (hre:r=none→e=0) (hn:l.length+m.length+k.length≤16000000) :
  Calls Tryz.prog 57 #[.slice (some ⟨g,0,none⟩) 3 3] W fun x w'=>∃ v,x=.returned v∧OwnB w' W.heap.size v (l++m++k)∧Below W.heap.size W w':=by
 subst h1 h2 h3
 have:=ZkK g 3 3 [(p,l,c),(q,m,d),(r,k,e)] W rfl hg (fun s hs=>by
  rcases List.mem_cons.1 hs with rfl | hs
  ·exact⟨hp,hpc⟩
  ·rcases List.mem_cons.1 hs with rfl | hs
   ·exact⟨hq,hqd⟩
   ·rcases List.mem_cons.1 hs with rfl | hs
    ·exact⟨hr,hre⟩
    ·cases hs) (by simp[flat];omega) (by decide)
 simpa [flat,List.append_assoc] using this
theorem ZuR (kc bc:Nat) (kp bp:Option Addr) (k b:List Nat) (w:World) (hT:Tabs w) (hk:k.length≤1000000) (hkb:∀i,k.getD i 0<256) (hkB:Bs0 w kp k) (hkc:k.length≤kc)
  (hb:b.length≤1000000) (hbb:∀i,b.getD i 0<256) (hbB:Bs0 w bp b) (hbc:bp=none→bc=0) :
  Calls Tryz.prog 60 #[.slice kp k.length kc,.slice bp b.length bc] w fun e w'=>e=.returned (.agg (keA (mac k b)))∧Below w.heap.size w w':=by
 have HT:=Zq hT
 have HbB:=Zq hbB
 have HF:=Zq (fun (W:World) (hW:Below w.heap.size w W)=>ZoW kc kp k W (hT.grow hW) hk hkb (hkB.grow hW) hkc)
 have hFb:=Zq (Zh4 hkb)
 have hFl:=ZeM k
 obtain⟨M,eM⟩:∃M,M=mac k b:=⟨_,rfl⟩
 rw[←eM]
 unfold mac at eM
 generalize Zdn k=F at *
 obtain⟨nk,enk⟩:∃n,n=k.length:=⟨_,rfl⟩
 obtain⟨nb,enb⟩:∃n,n=b.length:=⟨_,rfl⟩
 rw[←enk] at HF ⊢
 rw[←enb] at hb ⊢
 have Enb:=Zq enb
 have EM:=Zq eM
 have Hbc:=Zq hbc
 have Hbb:=Zq hbb
 have HFl:=Zq hFl
 have hx54:=Zq (ZdI (m:=54) (by decide) hFb.out)
 have hx92:=Zq (ZdI (m:=92) (by decide) hFb.out)
 clear hT hbB enk enb eM hbc hbb hFl hkB hkb hk hkc
 go_enter Tryz.func60,Tryz.ntmps60
 go_wp2_with fail
 generalize hW:World.alloc _ _=W0
 obtain⟨z0,hz0,hR0⟩:∃c,c.size=32∧RowAt W0 w.heap.size c:=by rw[←hW];clear hW;exact⟨byI (List.replicate 32 0),by simp[byI],by go_simp,by go_simp;rfl,by go_simp⟩
 have R0:=Zq hR0
 clear hR0
 have B0:=Zq (show Below w.heap.size w W0 by rw[←hW];exact Zab (Below.refl _ _) _)
 clear hW
 refine(HF.out W0 B0.out).mono ?_
 rintro e W1 ⟨g,rfl,hR,hg,hb1⟩
 have R1:=Zq (R0.out.grow hb1)
 have G1:=Zq hR
 have B1:=Zq (B0.out.trans (hb1.mono B0.out.size))
 clear hR hb1 R0 HF
 go_wp2_with fail
 refine(ZkR g 64 54 F W1 HFl.out hFb.out (by decide) (ZaH G1.out)).mono ?_
 rintro e W2 ⟨x,rfl,hX,hx,hb2⟩
 have R2:=Zq (R1.out.grow hb2)
 have G2:=Zq (G1.out.grow hb2)
 have X2:=Zq hX
 have B2:=Zq (B1.out.trans (hb2.mono B1.out.size))
 clear hX hb2 R1 G1
 go_wp2_with fail
 have BA:=Zab (Below.refl W2.heap.size W2) (.cells #[.slice (some ⟨x,0,none⟩) 64 64,.slice bp nb bc] 38)
 refine(Zig (RowAt.of (Zaq W2 _)) (by rw[ZaQ,HFl.out]) Enb.out (Bs0.some (ZaH (X2.out.grow BA))) ((HbB.out.grow B2.out).grow BA) (fun h=>by cases h) Hbc.out (by rw[ZaQ,HFl.out,←Enb.out];omega)).mono ?_
 rintro e W3 ⟨v,rfl,hown,hb3⟩
 have hb3':=BA.trans (hb3.mono BA.size)
 obtain⟨pv,cv,rfl,hBs,hcv,_⟩:=hown.bs
 have R3:=Zq (R2.out.grow hb3')
 have G3:=Zq (G2.out.grow hb3')
 have B3:=Zq (B2.out.trans (hb3'.mono B2.out.size))
 obtain⟨L1,eL1⟩:∃L,L=xorL 54 F++b:=⟨_,rfl⟩
 have HL1b:=Zq (show ∀i,L1.getD i 0<256 by rw[eL1];exact ZaN hx54.out Hbb.out)
 have hL1:L1.length≤2000000:=by rw[eL1,List.length_append,ZaQ,HFl.out,←Enb.out];omega
 rw[←eL1] at hBs hcv ⊢
 have EL1:=Zq eL1
 have HS:=Zq (Zsa cv pv L1 W3 (HT.out.grow B3.out) (by omega) HL1b.out hBs hcv)
 obtain⟨n1,en1⟩:∃n,n=L1.length:=⟨_,rfl⟩
 rw[←en1] at HS ⊢
 obtain⟨D1,eD1⟩:∃D,D=dig L1:=⟨_,rfl⟩
 rw[←eD1] at HS
 have ED1:=Zq eD1
 clear hb3 hb3' hown hBs hcv en1 eL1 hL1 eD1 R2 G2 X2 BA
 go_wp2_with fail
 refine HS.out.mono ?_
 rintro e W4 ⟨rfl,hb4⟩
 have R4:=Zq (R3.out.grow hb4)
 have G4:=Zq (G3.out.grow hb4)
 have B4:=Zq (B3.out.trans (hb4.mono B3.out.size))
 clear hb4 R3 G3 HS
 go_wp2_with fail
 generalize hW:World.alloc _ _=W5
 have R5:=Zq (show RowAt W5 w.heap.size z0 by rw[←hW];exact R4.out.grow (Zab (Below.refl _ _) _))
 have G5:=Zq (show RowAt W5 g (bysA F) by rw[←hW];exact G4.out.grow (Zab (Below.refl _ _) _))
 have D5:=Zq (show RowAt W5 W4.heap.size (keA D1) by rw[←hW];exact RowAt.of (Zaq W4 _))
 have B5:=Zq (show Below w.heap.size w W5 by rw[←hW];exact Zab B4.out _)
 clear hW R4 G4
 generalize W4.heap.size=y at *
 refine ZaI W5 [0,2] [false,true] [1,3,4,5,6] (by kernel_rfl) (by kernel_rfl) (by intro c a d v w h;cases d<;>exact h) ((Below.refl _ _).drew) ?_
 simp only[pick,List.getElem?_cons_succ,List.getElem?_cons_zero]
 refine Zac (Zaa rfl) (by intro K o d hK;go_simp;exact hK _ (Below.refl _ _)) ?_
 refine Zay (Zaa rfl) (fun w=>by go_simp;rfl) ?_
 refine Zan ?_
 intro W6 hb6
 have R6:=Zq (R5.out.grow hb6)
 have G6:=Zq (G5.out.grow hb6)
 have D6:=Zq (D5.out.grow hb6)
 have B6:=Zq (B5.out.trans (hb6.mono B5.out.size))
 clear hb6 R5 G5 D5
 go_wp2_with fail
 refine(ZkR g 64 92 F W6 HFl.out hFb.out (by decide) (ZaH G6.out)).mono ?_
 rintro e W7 ⟨x2,rfl,hX,hx2,hb7⟩
 have R7:=Zq (R6.out.grow hb7)
 have D7:=Zq (D6.out.grow hb7)
 have X7:=Zq hX
 have B7:=Zq (B6.out.trans (hb7.mono B6.out.size))
 clear hX hb7 R6 G6 D6
 go_wp2_with fail
 have BA:=Zab (Below.refl W7.heap.size W7) (.cells #[.slice (some ⟨x2,0,none⟩) 64 64,.slice (some ⟨y,0,none⟩) 32 32] 38)
 refine(Zig (RowAt.of (Zaq W7 _)) (by rw[ZaQ,HFl.out]) (Zar D1).symm (Bs0.some (ZaH (X7.out.grow BA))) (Bs0.some (Ze7 (D7.out.grow BA))) (fun h=>by cases h) (fun h=>by cases h) (by rw[ZaQ,HFl.out,Zar];decide)).mono ?_
 rintro e W8 ⟨v,rfl,hown,hb8⟩
 have hb8':=BA.trans (hb8.mono BA.size)
 obtain⟨pv2,cv2,rfl,hBs,hcv,_⟩:=hown.bs
 have R8:=Zq (R7.out.grow hb8')
 have B8:=Zq (B7.out.trans (hb8'.mono B7.out.size))
 obtain⟨L2,eL2⟩:∃L,L=xorL 92 F++keyN D1:=⟨_,rfl⟩
 have HL2b:=Zq (show ∀i,L2.getD i 0<256 by rw[eL2];exact ZaN hx92.out (ZbS _))
 have hL2:L2.length≤2000000:=by rw[eL2,List.length_append,ZaQ,HFl.out,Zar];decide
 rw[←eL2] at hBs hcv ⊢
 have HS:=Zq (Zsa cv2 pv2 L2 W8 (HT.out.grow B8.out) (by omega) HL2b.out hBs hcv)
 rw[show dig L2=M by rw[EM.out,eL2,ED1.out,EL1.out]] at HS
 obtain⟨n2,en2⟩:∃n,n=L2.length:=⟨_,rfl⟩
 rw[←en2] at HS ⊢
 clear hb8 hb8' hown hBs hcv en2 eL2 hL2 R7 D7 X7 BA
 go_wp2_with fail
 refine HS.out.mono ?_
 rintro e W9 ⟨rfl,hb9⟩
 obtain⟨r1,r2,r3⟩:=R8.out.grow hb9
 have B9:=Zq (B8.out.trans (hb9.mono B8.out.size))
 clear hb9 R8 HS
 go_wp2_with fail
 refine bodyPost_ret (v:=.agg (keA M)) (Zav Tryz.results60 (ZbI _) _ _ _ rfl (by go_simp) (by go_simp)) rfl ⟨rfl,?_⟩
 exact Zad B9.out (Nat.le_refl _) _
def unl (a b:List Nat):Nat→Nat
 | 0=>0
 | i+1=>unl a b i ||| (a.getD i 0 ^^^ b.getD i 0)
theorem Zuz {a b:List Nat} (ha:∀i,a.getD i 0<256) (hb:∀i,b.getD i 0<256) (n:Nat):unl a b n<256:=by
 induction n with
 | zero=>exact Nat.zero_lt_succ _
 | succ n ih=>exact Nat.or_lt_two_pow (n:=8) ih (Zkl (ha n) (hb n))
theorem ZeG (a b:Nat):a ^^^ b=0↔a=b:=by
 constructor
 ·intro h
  have:(a ^^^ b) ^^^ b=b:=by rw[h,Nat.zero_xor]
  rwa [Nat.xor_assoc,Nat.xor_self,Nat.xor_zero] at this
 ·rintro rfl;exact Nat.xor_self _
theorem Zph (a b:List Nat) (n:Nat):unl a b n=0↔∀ i,i<n→a.getD i 0=b.getD i 0:=by
 induction n with
 | zero=>simp[unl]
 | succ n ih =>
  rw[unl,Nat.or_eq_zero_iff,ih]
  constructor
  ·intro ⟨h1,h2⟩ i hi
   by_cases e:i<n
   ·exact h1 i e
   ·obtain rfl:i=n:=by omega
    exact(ZeG _ _).1 h2
  ·intro h
   exact⟨fun i hi=>h i (by omega),(ZeG _ _).2 (h n (by omega))⟩
theorem ZuD (a b:List Nat) (h:a.length=b.length):unl a b a.length=0↔a=b:=by
 rw[Zph]
 constructor
 ·intro h1
  apply List.ext_getElem h
  intro i h2 h3
  have:=h1 i h2
  simpa [List.getD,h2,h3] using this
 ·rintro rfl i _;rfl
theorem ZsL (ac bc:Nat) (ap bp:Option Addr) (a b:List Nat) (w:World) (ha:a.length≤1000000) (hab:∀i,a.getD i 0<256) (haB:Bs0 w ap a) (hbb:∀i,b.getD i 0<256) (hbB:Bs0 w bp b) :
  Calls Tryz.prog 44 #[.slice ap a.length ac,.slice bp b.length bc] w fun e w'=>e=.returned (.bool (decide (a=b)))∧Below w.heap.size w w':=by
 by_cases hl:a.length=b.length
 ·obtain⟨R,eR⟩:∃r,r=decide (a=b):=⟨_,rfl⟩
  have HU:=Zq (ZuD a b hl)
  have HUl:=Zq (fun n=>Zuz hab hbb n)
  rw[←hl,←eR]
  obtain⟨n,en⟩:∃n,n=a.length:=⟨_,rfl⟩
  have Hlb:=Zq (show b.length=n by rw[en,hl])
  rw[←en] at ha HU ⊢
  have En:=Zq en
  have ER:=Zq eR
  have HA:=Zq haB
  have HB:=Zq hbB
  have Hab:=Zq hab
  have Hbb:=Zq hbb
  clear en eR hl haB hbB hab hbb
  go_enter Tryz.func44,Tryz.ntmps44
  go_wp2_with fail
  go_loopw [5,14] (fun u i wr=>∃ k:Nat,k≤n∧i=.int .i64 k∧u=.int .u8 ((unl a b k:Nat):Int)∧Below w.heap.size w wr) (fun _ i _=>n-(intOf i).toNat)
  case atStart=>exact⟨0,by omega,rfl,rfl,Below.refl _ _⟩
  case round =>
   obtain⟨k,hk,rfl,rfl,hbel⟩:=hrel
   have Hbel:=Zq hbel
   by_cases hkn:k<n
   ·have hk0:(0:Int)≤(k:Int):=by omega
    have hk1:(k:Int)<(n:Int):=by omega
    obtain⟨ga,oa,ea,hA⟩:∃b o,ap=some ⟨b,o,none⟩∧BytesAt wr b o a:=by
     rcases HA.out.grow hbel with h | h
     ·exfalso;have:=En.out;rw[h] at this;simp at this;omega
     ·exact h
    obtain⟨gb,ob,eb,hB⟩:∃c o,bp=some ⟨c,o,none⟩∧BytesAt wr c o b:=by
     rcases HB.out.grow hbel with h | h
     ·exfalso;have:=Hlb.out;rw[h] at this;simp at this;omega
     ·exact h
    subst ea eb
    have hca:=hA.2 k (by rw[←En.out];exact hkn)
    have hcb:=hB.2 k (by rw[Hlb.out];exact hkn)
    have hx:=u8_xor_nat (a.getD k 0) (b.getD k 0) (Hab.out k) (Hbb.out k)
    have hxl:=Zkl (Hab.out k) (Hbb.out k)
    have ho:=u8_or_nat (unl a b k) (a.getD k 0 ^^^ b.getD k 0) (HUl.out k) hxl
    have Hs:=Zq (show unl a b (k+1)=unl a b k ||| (a.getD k 0 ^^^ b.getD k 0) from rfl)
    generalize a.getD k 0=x at *
    generalize b.getD k 0=y at *
    generalize x ^^^ y=z at *
    generalize unl a b k=u at *
    generalize u ||| z=u2 at *
    have hga:=hA.1
    have hgb:=hB.1
    clear hA hB hbel hxl
    go_wp2_with fail
    refine ZaI wr [0,1,2,3,4,5,6,7,8,9,10] [false,false,false,false,false,false,false,false,false,false,false] [11] (by kernel_rfl) (by kernel_rfl) (by intro c a d v w h;cases d<;>exact h) ((Below.refl _ _).drew) ?_
    simp only[pick,List.getElem?_cons_succ,List.getElem?_cons_zero]
    iterate 11 (refine Zac (Zaa rfl) (by intro K o d hK;go_simp;exact hK _ (Below.refl _ _)) ?_)
    refine Zan ?_
    intro w1 hb1
    have Hb1:=Zq (Hbel.out.trans (hb1.mono Hbel.out.size))
    clear hb1
    go_wp2_with fail
    go_roundw
    case rel=>exact⟨k+1,by omega,by go_num,by rw[Hs.out],Hb1.out⟩
    case measure=>simp[intOf];omega
   ·obtain rfl:k=n:=by omega
    have hU:=HU.out
    have hlt:=HUl.out k
    clear hbel
    by_cases e:a=b
    ·have h0:unl a b k=0:=hU.2 e
     have hR:R=true:=by rw[ER.out];exact decide_eq_true e
     subst hR
     rw[h0]
     clear h0 e hU hlt
     go_wp2_with fail
     go_ret
     exact⟨rfl,Hbel.out⟩
    ·have h0:unl a b k≠0:=fun h=>e (hU.1 h)
     have hR:R=false:=by rw[ER.out];exact decide_eq_false e
     subst hR
     generalize unl a b k=u at *
     have h1:¬(u:Int)=0:=by omega
     have h2:((u:Int)==0)=false:=by simpa using h1
     clear h0 e hU hlt
     go_wp2_with fail
     go_ret
     exact⟨rfl,Hbel.out⟩
 ·have hR:decide (a=b)=false:=decide_eq_false fun e=>hl (by rw[e])
  rw[hR]
  obtain⟨n,en⟩:∃n,n=a.length:=⟨_,rfl⟩
  obtain⟨m,em⟩:∃n,n=b.length:=⟨_,rfl⟩
  rw[←en,←em] at hl ⊢
  have h1:¬(n:Int)=(m:Int):=by omega
  have h2:((n:Int) != (m:Int))=true:=by simpa using h1
  clear en em ha hab haB hbb hbB hR
  go_enter Tryz.func44,Tryz.ntmps44
  go_wp2_with fail
  go_ret
  exact⟨rfl,Below.refl _ _⟩
@[go_sem ↓] theorem Ztv (v:Value):Instr.loadAt 29 v=Zam 29 v:=rfl
@[go_sem] theorem Zto (w:World) (n:Nat) (h1:w.isRow n=true) (h2:(w.rowOf n).size=16):(Zam 29 (.pointer (some ⟨n,0,none⟩))).run Tryz.prog w=.ok (.agg (w.rowOf n)) w:=ZaF w Tryz.underlying29 rfl (by kernel_rfl) n h1 h2
theorem Zb1 {fn:Func} {p:Tmp} {cs:Array Value} (h:fn.results=#[.cell p 29]) (hc:cs.size=16) (w:World) (tmps:Array Value) (n:Nat) (hp:tmps.getD p undef=.pointer (some ⟨n,0,none⟩)) (h1:w.isRow n=true) (h2:w.rowOf n=cs):(results fn tmps).run Tryz.prog w=.ok (.agg cs) w :=
 ZaW w h Tryz.underlying29 rfl (by rw[hc];kernel_rfl) tmps n hp h1 h2
theorem Znw (s:List Nat) (hs:s.length=32) (w:World):Calls Tryz.prog 59 #[.agg (bysA s)] w fun e w'=>e=.returned (.agg (bysA (s.take 16)))∧Below w.heap.size w w':=by
 have hst:(s.take 16++(zs 16).drop 16)=s.take 16:=by rw[ZcI];simp[zs]
 have hz2:(bysA (s.take 16)).size=16:=by rw[Zaj,List.length_take,hs];rfl
 have Hs:=Zq hs
 have Hst:=Zq hst
 clear hs hst
 go_enter Tryz.func59,Tryz.ntmps59
 go_wp2_with fail
 generalize hW:World.alloc _ _=W0
 have K0:=Zq (show RowAt W0 w.heap.size (bysA s) by rw[←hW];clear hW;exact⟨by go_simp,by go_simp,by go_simp⟩)
 obtain⟨z0,hz0,hR0⟩:∃c:Array Value,c.size=16∧RowAt W0 (w.heap.size+1) c:=by rw[←hW];clear hW;exact⟨bysA (zs 16),by rw[Zaj,Zah],by go_simp,by go_simp;rfl,by go_simp⟩
 have T0:=Zq (show RowAt W0 (w.heap.size+1+1) (bysA (zs 16)) by rw[←hW];clear hW;exact⟨by go_simp,by go_simp;rfl,by go_simp⟩)
 have R0:=Zq hR0
 have B0:=Zq (show Below w.heap.size w W0 by rw[←hW];repeat (first | apply Zag | apply Zab | exact Below.refl _ _))
 clear hW hR0
 have hg1:w.heap.size≤w.heap.size+1+1:=by omega
 have hg2:¬w.heap.size+1=w.heap.size+1+1:=by omega
 have hg3:w.heap.size≤w.heap.size+1:=by omega
 generalize w.heap.size+1+1=t at *
 generalize w.heap.size+1=r at *
 refine ZaI W0 [0,1] [true,true] [2] (by kernel_rfl) (by kernel_rfl) (by intro c a d v w h;cases d<;>exact h) ((Below.refl _ _).drew) ?_
 simp only[pick,List.getElem?_cons_succ,List.getElem?_cons_zero]
 refine Zay (Zaa rfl) (fun w=>by go_simp;rfl) ?_
 refine Zay (Zaa rfl) (fun w=>by go_simp;rfl) ?_
 refine Zan ?_
 intro W1 hb1
 have hcp:=Zb7 (c2:=16) (cap:=32) (d:=16) (s:=32) (k:=16) (T0.out.grow hb1) (by rw[Zah]) Hs.out.symm (by rw[Zah,Hs.out];decide) (Bs0.some (ZaH (K0.out.grow hb1)))
 rw[Hst.out] at hcp
 have T1:=(T0.out.grow hb1).set (bysA (s.take 16))
 have R1:=(R0.out.grow hb1).other hg2 (bysA (s.take 16))
 have B1:=Zq (Zad (B0.out.trans (hb1.mono B0.out.size)) hg1 (bysA (s.take 16)))
 generalize W1.setRow t (bysA (s.take 16))=W2 at *
 obtain⟨t1,t2,t3⟩:=T1
 obtain⟨r1,r2,r3⟩:=R1
 clear hb1
 go_wp2_with fail
 refine bodyPost_ret (v:=.agg (bysA (s.take 16))) (Zb1 Tryz.results59 hz2 _ _ _ rfl (by go_simp) (by go_simp)) rfl ⟨rfl,?_⟩
 exact Zad B1.out hg3 _
theorem ZqA {kc bc m nb:Nat} {kp bp:Option Addr} {k b:List Nat} {M:St} {w:World} (hm:m=k.length) (hnb:nb=b.length) (hM:mac k b=M) (hT:Tabs w) (hk:k.length≤1000000) (hkb:∀i,k.getD i 0<256) (hkB:Bs0 w kp k) (hkc:k.length≤kc)
  (hb:b.length≤1000000) (hbb:∀i,b.getD i 0<256) (hbB:Bs0 w bp b) (hbc:bp=none→bc=0) :
  Calls Tryz.prog 60 #[.slice kp m kc,.slice bp nb bc] w fun e w'=>e=.returned (.agg (keA M))∧Below w.heap.size w w':=by
 subst hm hnb hM
 exact ZuR kc bc kp bp k b w hT hk hkb hkB hkc hb hbb hbB hbc
theorem Zih:∀(vs:List Value) (c:Array Value) (o k:Nat),(vs.zipIdx k).foldl (fun cs p=>cs.setIfInBounds (o+p.2) p.1) c=setL c (o+k) vs
 | [],_,_,_=>rfl
 | v::vs,c,o,k=>by
  rw[List.zipIdx_cons,List.foldl_cons,Zih vs _ o (k+1)];rfl
theorem Zk2 (v:Value) (c:Array Value) (o:Nat):v.cells.zipIdx.foldl (fun cs (x,j)=>cs.setIfInBounds (o+j) x) c=setL c o v.cells.toList:=by
 rw[←Array.foldl_toList,Array.toList_zipIdx]
 exact Zih v.cells.toList c o 0
theorem Zgj (c:Array Value) (o:Nat) (vs:List Value) (h:o+vs.length≤c.size):(setL c o vs).toList.take (o+vs.length)=c.toList.take o++vs:=by
 apply List.ext_getElem?
 intro i
 rw[List.getElem?_take]
 by_cases h1:i<o
 ·rw[if_pos (by omega),List.getElem?_append_left (by simp;omega),List.getElem?_take,if_pos h1,Array.getElem?_toList,ZcQ,if_neg (by omega),Array.getElem?_toList]
 ·by_cases h2:i<o+vs.length
  ·rw[if_pos h2,List.getElem?_append_right (by simp;omega),Array.getElem?_toList,ZcQ,if_pos (by omega)]
   congr 1
   simp;omega
  ·rw[if_neg h2,List.getElem?_eq_none (by simp;omega)]
def offs:Nat→List Value→List (Nat×Nat)
 | _,[]=>[]
 | o,v::vs=>(o,v.cells.size)::offs (o+v.cells.size) vs
def Za5 (vs:List Value):List Value:=vs.flatMap fun v=>v.cells.toList
theorem Zg8 (place:Nat→Option (Nat×Nat)):∀(vs:List Value) (k o:Nat) (c:Array Value),(∀ j x,(offs o vs)[j]?=some x→place (k+j)=some x)→o+(Za5 vs).length≤c.size →
  ∃ r,Instr.fill place c ((vs.zipIdx k).map fun p=>(p.2,p.1))=some r∧r.size=c.size∧r.toList.take (o+(Za5 vs).length)=c.toList.take o++Za5 vs
 | [],_,o,c,_,_=>⟨c,rfl,rfl,by simp[Za5]⟩
 | v::vs,k,o,c,hp,hs=>by
  have h0:place k=some (o,v.cells.size):=hp 0 _ rfl
  have e:Za5 (v::vs)=v.cells.toList++Za5 vs:=rfl
  have hl:v.cells.toList.length=v.cells.size:=Array.length_toList
  rw[e,List.length_append,hl] at hs
  obtain⟨r,h1,h2,h3⟩:=Zg8 place vs (k+1) (o+v.cells.size) (setL c o v.cells.toList) (fun j x hx=>by
   have:=hp (j+1) x (by rw[offs,List.getElem?_cons_succ];exact hx)
   rw[show k+1+j=k+(j+1) by omega];exact this) (by rw[Zer];omega)
  refine⟨r,?_,by rw[h2,Zer],?_⟩
  ·rw[List.zipIdx_cons,List.map_cons,Instr.fill,h0]
   simp only[ne_eq,not_true_eq_false,decide_false,Bool.false_or,show ¬(o+v.cells.size > c.size) by omega]
   rw[Zk2]
   exact h1
  ·have h4:=Zgj c o v.cells.toList (by omega)
   rw[hl] at h4
   rw[e,List.length_append,hl,←Nat.add_assoc,h3,h4,List.append_assoc]
theorem Zcn {P:Program} {t:TypeId} {fields:Array Field} (hu:P.underlying t=some (.struct fields)) (w:World) (vs:List Value)
  (hi:(P.info? t).map (fun i=>i.zero.map fun z=>z.cells.size)=some (some (Za5 vs).length))
  (hp:fields.toList.mapM (fun f=>(P.info? f.type).map fun i=>(f.offset,i.size))=some (offs 0 vs))
  (parts:Array (Nat×Value)) (he:parts.toList=vs.zipIdx.map fun p=>(p.2,p.1)):(Instr.build t parts).run P w=.ok (.agg (Za5 vs).toArray) w:=by
 refine run_build w t parts _ ?_
 unfold Program.built
 cases hit:P.info? t with
 | none=>rw[hit] at hi;cases hi
 | some it =>
  rw[hit] at hi
  cases hz:it.zero with
  | none=>rw[Option.map_some,hz] at hi;cases hi
  | some z =>
   rw[Option.map_some,hz] at hi
   simp only[Option.map_some,Option.some.injEq] at hi
   obtain⟨r,h1,h2,h3⟩:=Zg8 (fun i=>(offs 0 vs).toArray[i]?) vs 0 0 z.cells (fun j x hx=>by simpa using hx) (by rw[hi];omega)
   rw[hu]
   simp only[hz,hp,he]
   rw[h1]
   congr 1
   have h5:r.toList.length=(Za5 vs).length:=by rw[Array.length_toList,h2,hi]
   rw[Nat.zero_add,List.take_zero,List.nil_append,←h5,List.take_length] at h3
   rw[←h3,Array.toArray_toList]
open Go.RowKit Go.Hold Go.Sh Go.Cm
@[go_sem] theorem Ze5 (l:List Nat) (a b:Nat):(bysA l).extract a b=bysA ((l.drop a).take (b-a)):=by
 simp[bysA,bys,List.map_take,List.map_drop]
@[go_sem ↓] theorem ZsM (v:Value):Instr.loadAt 27 v=Zam 27 v:=rfl
@[go_sem] theorem Zof (w:World) (n:Nat) (h1:w.isRow n=true) (h2:(w.rowOf n).size=160):(Zam 27 (.pointer (some ⟨n,0,none⟩))).run Tryz.prog w=.ok (.agg (w.rowOf n)) w:=ZaF w Tryz.underlying27 rfl (by rw[h2];kernel_rfl) n h1 rfl
@[go_sem] theorem ZjF (w:World) (n:Nat) (h1:w.isRow n=true) (h2:(w.rowOf n).size=192):(Zam 27 (.pointer (some ⟨n,0,none⟩))).run Tryz.prog w=.ok (.agg ((w.rowOf n).extract 0 160)) w:=ZaG (k:=160) Tryz.underlying27 rfl (by kernel_rfl) w n h1 (by omega)
@[go_sem] theorem ZiP (w:World) (n:Nat) (h1:w.isRow n=true) (h2:(w.rowOf n).size=192):(Zam 27 (.pointer (some ⟨n,32,none⟩))).run Tryz.prog w=.ok (.agg ((w.rowOf n).extract 32 192)) w:=ZaG (k:=160) Tryz.underlying27 rfl (by kernel_rfl) w n h1 (by omega)
@[go_sem] theorem ZiR (w:World) (n:Nat) (h1:w.isRow n=true) (h2:(w.rowOf n).size=208):(Zam 27 (.pointer (some ⟨n,32,none⟩))).run Tryz.prog w=.ok (.agg ((w.rowOf n).extract 32 192)) w:=ZaG (k:=160) Tryz.underlying27 rfl (by kernel_rfl) w n h1 (by omega)
@[go_sem ↓] theorem ZtU (ps:Array (Nat×Value)):Instr.build 27 ps=bldA 27 ps:=rfl
@[go_sem ↓] theorem Zsu (v:Value):Instr.loadAt 99 v=Zam 99 v:=rfl
@[go_sem] theorem ZpK (w:World) (n:Nat) (h1:w.isRow n=true) (h2:(w.rowOf n).size=192):(Zam 99 (.pointer (some ⟨n,0,none⟩))).run Tryz.prog w=.ok (.agg (w.rowOf n)) w:=ZaF w Tryz.underlying99 rfl (by rw[h2];kernel_rfl) n h1 rfl
@[go_sem ↓] theorem ZtJ (ps:Array (Nat×Value)):Instr.build 99 ps=bldA 99 ps:=rfl
@[go_sem ↓] theorem ZtM (v:Value):Instr.loadAt 31 v=Zam 31 v:=rfl
@[go_sem] theorem Zrj (w:World) (n:Nat) (h1:w.isRow n=true) (h2:(w.rowOf n).size=208):(Zam 31 (.pointer (some ⟨n,0,none⟩))).run Tryz.prog w=.ok (.agg (w.rowOf n)) w:=ZaF w Tryz.underlying31 rfl (by rw[h2];kernel_rfl) n h1 rfl
@[go_sem] theorem ZjU (w:World) (n:Nat) (h1:w.isRow n=true) (h2:(w.rowOf n).size=267):(Zam 31 (.pointer (some ⟨n,11,none⟩))).run Tryz.prog w=.ok (.agg ((w.rowOf n).extract 11 219)) w:=ZaG (k:=208) Tryz.underlying31 rfl (by kernel_rfl) w n h1 (by omega)
@[go_sem ↓] theorem Zus (ps:Array (Nat×Value)):Instr.build 31 ps=bldA 31 ps:=rfl
@[go_sem ↓] theorem Ztz (v:Value):Instr.loadAt 77 v=Zam 77 v:=rfl
@[go_sem] theorem ZqJ (w:World) (n:Nat) (h1:w.isRow n=true) (h2:(w.rowOf n).size=43):(Zam 77 (.pointer (some ⟨n,0,none⟩))).run Tryz.prog w=.ok (.agg (w.rowOf n)) w:=ZaF w Tryz.underlying77 rfl (by rw[h2];kernel_rfl) n h1 rfl
@[go_sem ↓] theorem Zuq (ps:Array (Nat×Value)):Instr.build 77 ps=bldA 77 ps:=rfl
@[go_sem ↓] theorem Zr3 (v:Value):Instr.loadAt 84 v=Zam 84 v:=rfl
@[go_sem] theorem Zpo (w:World) (n:Nat) (h1:w.isRow n=true) (h2:(w.rowOf n).size=43):(Zam 84 (.pointer (some ⟨n,0,none⟩))).run Tryz.prog w=.ok (.agg (w.rowOf n)) w:=ZaF w Tryz.underlying84 rfl (by rw[h2];kernel_rfl) n h1 rfl
@[go_sem ↓] theorem ZtT (ps:Array (Nat×Value)):Instr.build 84 ps=bldA 84 ps:=rfl
@[go_sem ↓] theorem ZsP (v:Value):Instr.loadAt 53 v=Zam 53 v:=rfl
@[go_sem] theorem ZpS (w:World) (n:Nat) (h1:w.isRow n=true) (h2:(w.rowOf n).size=267):(Zam 53 (.pointer (some ⟨n,0,none⟩))).run Tryz.prog w=.ok (.agg (w.rowOf n)) w:=ZaF w Tryz.underlying53 rfl (by rw[h2];kernel_rfl) n h1 rfl
@[go_sem ↓] theorem ZtW (ps:Array (Nat×Value)):Instr.build 53 ps=bldA 53 ps:=rfl
@[go_sem ↓] theorem Zs7 (v:Value):Instr.loadAt 40 v=Zam 40 v:=rfl
@[go_sem] theorem Zp8 (w:World) (n:Nat) (h1:w.isRow n=true) (h2:(w.rowOf n).size=49):(Zam 40 (.pointer (some ⟨n,0,none⟩))).run Tryz.prog w=.ok (.agg (w.rowOf n)) w:=ZaF w Tryz.underlying40 rfl (by rw[h2];kernel_rfl) n h1 rfl
@[go_sem] theorem ZiQ (w:World) (n:Nat) (h1:w.isRow n=true) (h2:(w.rowOf n).size=108):(Zam 40 (.pointer (some ⟨n,11,none⟩))).run Tryz.prog w=.ok (.agg ((w.rowOf n).extract 11 60)) w:=ZaG (k:=49) Tryz.underlying40 rfl (by kernel_rfl) w n h1 (by omega)
@[go_sem ↓] theorem Zty (ps:Array (Nat×Value)):Instr.build 40 ps=bldA 40 ps:=rfl
@[go_sem ↓] theorem ZqB (v:Value):Instr.loadAt 59 v=Zam 59 v:=rfl
@[go_sem] theorem Zn0 (w:World) (n:Nat) (h1:w.isRow n=true) (h2:(w.rowOf n).size=108):(Zam 59 (.pointer (some ⟨n,0,none⟩))).run Tryz.prog w=.ok (.agg (w.rowOf n)) w:=ZaF w Tryz.underlying59 rfl (by rw[h2];kernel_rfl) n h1 rfl
@[go_sem ↓] theorem Zr1 (ps:Array (Nat×Value)):Instr.build 59 ps=bldA 59 ps:=rfl
@[go_sem] theorem Zkj (w:World) (n:Nat) (h1:w.isRow n=true) (h2:(w.rowOf n).size=208):(Zam 23 (.pointer (some ⟨n,0,none⟩))).run Tryz.prog w=.ok (.agg ((w.rowOf n).extract 0 32)) w:=ZaG (k:=32) Tryz.underlying23 rfl (by kernel_rfl) w n h1 (by omega)
@[go_sem] theorem ZlK (w:World) (n:Nat) (h1:w.isRow n=true) (h2:(w.rowOf n).size=43):(Zam 23 (.pointer (some ⟨n,0,none⟩))).run Tryz.prog w=.ok (.agg ((w.rowOf n).extract 0 32)) w:=ZaG (k:=32) Tryz.underlying23 rfl (by kernel_rfl) w n h1 (by omega)
@[go_sem] theorem ZiO (w:World) (n:Nat) (h1:w.isRow n=true) (h2:(w.rowOf n).size=267):(Zam 23 (.pointer (some ⟨n,219,none⟩))).run Tryz.prog w=.ok (.agg ((w.rowOf n).extract 219 251)) w:=ZaG (k:=32) Tryz.underlying23 rfl (by kernel_rfl) w n h1 (by omega)
@[go_sem] theorem Zla (w:World) (n:Nat) (h1:w.isRow n=true) (h2:(w.rowOf n).size=49):(Zam 23 (.pointer (some ⟨n,0,none⟩))).run Tryz.prog w=.ok (.agg ((w.rowOf n).extract 0 32)) w:=ZaG (k:=32) Tryz.underlying23 rfl (by kernel_rfl) w n h1 (by omega)
@[go_sem] theorem Zjy (w:World) (n:Nat) (h1:w.isRow n=true) (h2:(w.rowOf n).size=108):(Zam 23 (.pointer (some ⟨n,60,none⟩))).run Tryz.prog w=.ok (.agg ((w.rowOf n).extract 60 92)) w:=ZaG (k:=32) Tryz.underlying23 rfl (by kernel_rfl) w n h1 (by omega)
@[go_sem] theorem ZiN (w:World) (n:Nat) (h1:w.isRow n=true) (h2:(w.rowOf n).size=208):(Zam 29 (.pointer (some ⟨n,192,none⟩))).run Tryz.prog w=.ok (.agg ((w.rowOf n).extract 192 208)) w:=ZaG (k:=16) Tryz.underlying29 rfl (by kernel_rfl) w n h1 (by omega)
@[go_sem] theorem ZiS (w:World) (n:Nat) (h1:w.isRow n=true) (h2:(w.rowOf n).size=267):(Zam 29 (.pointer (some ⟨n,251,none⟩))).run Tryz.prog w=.ok (.agg ((w.rowOf n).extract 251 267)) w:=ZaG (k:=16) Tryz.underlying29 rfl (by kernel_rfl) w n h1 (by omega)
@[go_sem] theorem Zj8 (w:World) (n:Nat) (h1:w.isRow n=true) (h2:(w.rowOf n).size=49):(Zam 29 (.pointer (some ⟨n,33,none⟩))).run Tryz.prog w=.ok (.agg ((w.rowOf n).extract 33 49)) w:=ZaG (k:=16) Tryz.underlying29 rfl (by kernel_rfl) w n h1 (by omega)
@[go_sem] theorem Zi3 (w:World) (n:Nat) (h1:w.isRow n=true) (h2:(w.rowOf n).size=108):(Zam 29 (.pointer (some ⟨n,92,none⟩))).run Tryz.prog w=.ok (.agg ((w.rowOf n).extract 92 108)) w:=ZaG (k:=16) Tryz.underlying29 rfl (by kernel_rfl) w n h1 (by omega)
@[go_sem] theorem Zi4 (w:World) (n:Nat) (h1:w.isRow n=true) (h2:(w.rowOf n).size=192):(Zam 29 (.pointer (some ⟨n,16,none⟩))).run Tryz.prog w=.ok (.agg ((w.rowOf n).extract 16 32)) w:=ZaG (k:=16) Tryz.underlying29 rfl (by kernel_rfl) w n h1 (by omega)
@[go_sem] theorem Zkr (w:World) (n:Nat) (h1:w.isRow n=true) (h2:(w.rowOf n).size=192):(Zam 28 (.pointer (some ⟨n,0,none⟩))).run Tryz.prog w=.ok (.agg ((w.rowOf n).extract 0 16)) w:=ZaG (k:=16) Tryz.underlying28 rfl (by kernel_rfl) w n h1 (by omega)
@[go_sem] theorem ZkG (w:World) (n:Nat) (h1:w.isRow n=true) (h2:(w.rowOf n).size=43):(Zam 51 (.pointer (some ⟨n,32,none⟩))).run Tryz.prog w=.ok (.agg ((w.rowOf n).extract 32 43)) w:=ZaG (k:=11) Tryz.underlying51 rfl (by kernel_rfl) w n h1 (by omega)
@[go_sem] theorem Zku (w:World) (n:Nat) (h1:w.isRow n=true) (h2:(w.rowOf n).size=267):(Zam 51 (.pointer (some ⟨n,0,none⟩))).run Tryz.prog w=.ok (.agg ((w.rowOf n).extract 0 11)) w:=ZaG (k:=11) Tryz.underlying51 rfl (by kernel_rfl) w n h1 (by omega)
@[go_sem] theorem ZiV (w:World) (n:Nat) (h1:w.isRow n=true) (h2:(w.rowOf n).size=43):(Zam 57 (.pointer (some ⟨n,32,none⟩))).run Tryz.prog w=.ok (.agg ((w.rowOf n).extract 32 43)) w:=ZaG (k:=11) Tryz.underlying57 rfl (by kernel_rfl) w n h1 (by omega)
@[go_sem] theorem ZjT (w:World) (n:Nat) (h1:w.isRow n=true) (h2:(w.rowOf n).size=108):(Zam 57 (.pointer (some ⟨n,0,none⟩))).run Tryz.prog w=.ok (.agg ((w.rowOf n).extract 0 11)) w:=ZaG (k:=11) Tryz.underlying57 rfl (by kernel_rfl) w n h1 (by omega)
@[go_sem ↓] theorem Zvv (ps:Array (Nat×Value)):Instr.build 29 ps=bldA 29 ps:=rfl
@[go_sem ↓] theorem ZqE (v:Value):Instr.loadAt 57 v=Zam 57 v:=rfl
@[go_sem] theorem Zoh (w:World):(bldA 27 #[]).run Tryz.prog w=.ok (.agg (bysA (zs 160))) w:=run_build w _ _ _ (by kernel_rfl)
@[go_sem] theorem ZpT (w:World):(bldA 99 #[]).run Tryz.prog w=.ok (.agg (bysA (zs 192))) w:=run_build w _ _ _ (by kernel_rfl)
@[go_sem] theorem Zqe (w:World):(bldA 31 #[]).run Tryz.prog w=.ok (.agg (bysA (zs 208))) w:=run_build w _ _ _ (by kernel_rfl)
@[go_sem] theorem ZqT (w:World):(bldA 29 #[]).run Tryz.prog w=.ok (.agg (bysA (zs 16))) w:=run_build w _ _ _ (by kernel_rfl)
@[go_sem] theorem ZwB:Tryz.zeroCells27=bysA (zs 160):=by kernel_rfl
@[go_sem] theorem Zw6:Tryz.zeroCells99=bysA (zs 192):=by kernel_rfl
@[go_sem] theorem Zxg:Tryz.zeroCells31=bysA (zs 208):=by kernel_rfl
theorem Zcf (l:List Nat):(Value.agg (bysA l)).cells.toList=bys l:=by simp[Value.cells,bysA]
theorem Zg0 (l m:List Nat):bys l++bys m=bys (l++m):=by simp[bys]
theorem ZgK {a b g:List Nat} (ha:a.length=32) (hb:b.length=160) (hg:g.length=16) (w:World):(bldA 31 #[(0,.agg (bysA a)),(1,.agg (bysA b)),(2,.agg (bysA g))]).run Tryz.prog w=.ok (.agg (bysA (a++b++g))) w:=by
 have sa:(bysA a).size=32:=by rw[Zaj,ha]
 have sb:(bysA b).size=160:=by rw[Zaj,hb]
 have sg:(bysA g).size=16:=by rw[Zaj,hg]
 have hc:(Za5 [.agg (bysA a),.agg (bysA b),.agg (bysA g)])=bys (a++b++g):=by
  show (Value.agg (bysA a)).cells.toList++((Value.agg (bysA b)).cells.toList++((Value.agg (bysA g)).cells.toList++[]))=_
  rw[Zcf,Zcf,Zcf,List.append_nil,Zg0,Zg0,List.append_assoc]
 have:=Zcn (P:=Tryz.prog) Tryz.underlying31 w [.agg (bysA a),.agg (bysA b),.agg (bysA g)]
  (by rw[hc,Zaz,List.length_append,List.length_append,ha,hb,hg];kernel_rfl)
  (by simp only[offs,Value.cells,sa,sb,sg];kernel_rfl) #[(0,.agg (bysA a)),(1,.agg (bysA b)),(2,.agg (bysA g))] rfl
 rw[hc] at this
 exact this
theorem Zdr {fn:Func} {p p' p'':Tmp} {cs:Array Value} {v u:Value} (h:fn.results=#[.cell p 31,.tmp p',.tmp p'']) (hc:cs.size=208) (w:World) (tmps:Array Value) (n:Nat) (hp:tmps.getD p undef=.pointer (some ⟨n,0,none⟩)) (h1:w.isRow n=true) (h2:w.rowOf n=cs) (hp':tmps.getD p' undef=v) (hp'':tmps.getD p'' undef=u) :
  (results fn tmps).run Tryz.prog w=.ok (.tuple #[.agg cs,v,u]) w:=by
 obtain⟨s,hs⟩:=World.isRow_spec h1
 rw[h2] at hs
 have e:tmps[p]?.getD undef=.pointer (some ⟨n,0,none⟩):=by simpa using hp
 have e':tmps[p']?.getD undef=v:=by simpa using hp'
 have e'':tmps[p'']?.getD undef=u:=by simpa using hp''
 simp[results,h,e,e',e'',asAddr,run_loadVar_row w n s 31 cs (0,0) _ hs Tryz.underlying31 rfl (by rw[hc];kernel_rfl)]
theorem ZcR {fn:Func} {p:Tmp} {cs:Array Value} (h:fn.results=#[.cell p 99]) (hc:cs.size=192) (w:World) (tmps:Array Value) (n:Nat) (hp:tmps.getD p undef=.pointer (some ⟨n,0,none⟩)) (h1:w.isRow n=true) (h2:w.rowOf n=cs):(results fn tmps).run Tryz.prog w=.ok (.agg cs) w :=
 ZaW w h Tryz.underlying99 rfl (by rw[hc];kernel_rfl) tmps n hp h1 h2
theorem ZcO {fn:Func} {p:Tmp} {cs:Array Value} (h:fn.results=#[.cell p 27]) (hc:cs.size=160) (w:World) (tmps:Array Value) (n:Nat) (hp:tmps.getD p undef=.pointer (some ⟨n,0,none⟩)) (h1:w.isRow n=true) (h2:w.rowOf n=cs):(results fn tmps).run Tryz.prog w=.ok (.agg cs) w :=
 ZaW w h Tryz.underlying27 rfl (by rw[hc];kernel_rfl) tmps n hp h1 h2
theorem Zbo {fn:Func} {p p':Tmp} {cs:Array Value} {v:Value} (h:fn.results=#[.cell p 53,.tmp p']) (hc:cs.size=267) (w:World) (tmps:Array Value) (n:Nat) (hp:tmps.getD p undef=.pointer (some ⟨n,0,none⟩)) (h1:w.isRow n=true) (h2:w.rowOf n=cs) (hx:tmps.getD p' undef=v):(results fn tmps).run Tryz.prog w=.ok (.tuple #[.agg cs,v]) w :=
 ZbH w h Tryz.underlying53 rfl (by rw[hc];kernel_rfl) tmps n hp h1 h2 hx
theorem ZdA {fn:Func} {p:Tmp} {cs:Array Value} (h:fn.results=#[.cell p 40]) (hc:cs.size=49) (w:World) (tmps:Array Value) (n:Nat) (hp:tmps.getD p undef=.pointer (some ⟨n,0,none⟩)) (h1:w.isRow n=true) (h2:w.rowOf n=cs):(results fn tmps).run Tryz.prog w=.ok (.agg cs) w :=
 ZaW w h Tryz.underlying40 rfl (by rw[hc];kernel_rfl) tmps n hp h1 h2
def Zhu (v:Value):Sem Value:=Instr.arrayAt 27 v
@[go_sem ↓] theorem Zp7 (v:Value):Instr.arrayAt 27 v=Zhu v:=rfl
@[go_sem] theorem Zrd (b o cap:Nat) (w:World):(Zhu (.slice (some ⟨b,o,none⟩) 160 cap)).run Tryz.prog w=.ok (.pointer (some ⟨b,o,none⟩)) w:=by
 unfold Zhu
 simp[Instr.arrayAt,run_underlying Tryz.underlying27]
def Zi9 (v:Value):Sem Value:=Instr.arrayAt 28 v
@[go_sem ↓] theorem ZqN (v:Value):Instr.arrayAt 28 v=Zi9 v:=rfl
@[go_sem] theorem ZsF (b o cap:Nat) (w:World):(Zi9 (.slice (some ⟨b,o,none⟩) 16 cap)).run Tryz.prog w=.ok (.pointer (some ⟨b,o,none⟩)) w:=by
 unfold Zi9
 simp[Instr.arrayAt,run_underlying Tryz.underlying28]
def ZiU (v:Value):Sem Value:=Instr.arrayAt 29 v
@[go_sem ↓] theorem ZqS (v:Value):Instr.arrayAt 29 v=ZiU v:=rfl
@[go_sem] theorem Zs5 (b o cap:Nat) (w:World):(ZiU (.slice (some ⟨b,o,none⟩) 16 cap)).run Tryz.prog w=.ok (.pointer (some ⟨b,o,none⟩)) w:=by
 unfold ZiU
 simp[Instr.arrayAt,run_underlying Tryz.underlying29]
def hopA (k:List Nat) (c:Cmd):Array Value:=bysA k++cmdA c
theorem Za0 {k:List Nat} {c:Cmd} (hk:k.length=32) (hc:c.id.length=8):(hopA k c).size=43:=by simp[hopA,Zaj,hk,Zax hc]
@[go_sem] theorem ZpE (k:List Nat) (c:Cmd) (hk:k.length=32):(hopA k c).extract 0 32=bysA k:=by
 unfold hopA
 have:(bysA k).size=32:=by rw[Zaj,hk]
 rw[←this,Array.extract_append_left]
 simp
@[go_sem] theorem Zj5 (k:List Nat) (c:Cmd) (hk:k.length=32) (hc:c.id.length=8):(hopA k c).extract 32 43=cmdA c:=by
 unfold hopA
 have h1:(bysA k).size=32:=by rw[Zaj,hk]
 have h2:(cmdA c).size=11:=Zax hc
 rw[show (43:Nat)=32+(cmdA c).size by omega,←h1]
 simp
@[go_sem] theorem Zpc (k:List Nat) (c:Cmd):Zbg (hopA k c)=true:=by
 have h1:=ZcL k
 have h2:=Zhw c
 unfold Zbg hopA at *
 rw[Array.all_append,h1,h2];rfl
open Go.ChangeShapes Go.WideShapes Go.ChangeAt Go.RowKit Go.Sh
end Go.Proofs.YtddmjddlbhdcpaaGreatDoor
