/-
  Part 11 of the texts behind the theorem.
-/
import Derived.Test.YtddmjddlbhdcpaaGreatDoorPart3
import Derived.Test.YtddmjddlbhdcpaaGreatDoorPart5
import Derived.Test.YtddmjddlbhdcpaaGreatDoorPart7
import Derived.Test.YtddmjddlbhdcpaaGreatDoorPart4
import Derived.Test.YtddmjddlbhdcpaaGreatDoorPart8
import Derived.Test.YtddmjddlbhdcpaaGreatDoorPart1
import Derived.Test.YtddmjddlbhdcpaaGreatDoorPart9
import Derived.Test.YtddmjddlbhdcpaaGreatDoorPart10
namespace Go.Proofs.YtddmjddlbhdcpaaGreatDoor
open Go.RowKit Go.Hold Go.Sh
def keyB (n:Nat):List Nat:=(List.range 32).map fun i=>n/256^i%256
theorem keyB_length (n:Nat):(keyB n).length=32:=by simp[keyB]
theorem keyB_bts (n:Nat):∀ i,(keyB n).getD i 0<256:=getD_lt fun x hx=>by
 obtain⟨i,_,rfl⟩:=List.mem_map.1 hx
 exact Nat.mod_lt _ (by decide)
theorem keyA_bysA (n:Nat):F.keyA n=bysA (keyB n):=by
 apply Array.ext_getElem?
 intro i
 by_cases h:i<32
 ·rw[F.keyA_get n i h,bysA_get _ i (by rw[keyB_length];exact h)]
  simp[F.bt,keyB,h]
 ·rw[Array.getElem?_eq_none (by rw[F.keyA_size];omega),Array.getElem?_eq_none (by rw[bysA_size,keyB_length];omega)]
def numB:List Nat→Nat
 | []=>0
 | x::l=>x+256*numB l
theorem numB_byte:∀ (l:List Nat),(∀ x∈l,x<256)→∀ i,numB l/256^i%256=l.getD i 0
 | [],_,i=>by simp[numB]
 | x::l,h,0=>by
  have h1:=h x (by simp)
  simp[numB];omega
 | x::l,h,i+1=>by
  have h1:=h x (by simp)
  have ih:=numB_byte l (fun y hy=>h y (by simp[hy])) i
  rw[numB,Nat.pow_succ',←Nat.div_div_eq_div_mul,show (x+256*numB l)/256=numB l by omega,ih]
  simp[List.getD]
theorem keyB_numB {l:List Nat} (hl:l.length=32) (hb:∀ i,l.getD i 0<256):keyB (numB l)=l:=by
 apply List.ext_getElem (by rw[keyB_length,hl])
 intro i h1 h2
 have h:=numB_byte l (mem_lt hb) i
 simp only[keyB,List.getElem_map,List.getElem_range]
 rw[h]
 simp[List.getD,h2]
theorem bysA_keyA {l:List Nat} (hl:l.length=32) (hb:∀ i,l.getD i 0<256):bysA l=F.keyA (numB l):=by rw[keyA_bysA,keyB_numB hl hb]
theorem numB_keyB {n:Nat} (hn:n<256^32):numB (keyB n)=n:=by
 have h:∀ (k n:Nat),n<256^k→numB ((List.range k).map fun i=>n/256^i%256)=n:=by
  intro k
  induction k with
  | zero=>intro n h;simp at h;subst h;rfl
  | succ k ih =>
   intro n h
   rw[List.range_succ_eq_map,List.map_cons,List.map_map,numB]
   have e:((fun i=>n/256^i%256) ∘ Nat.succ)=fun i=>(n/256)/256^i%256:=by
    funext i
    simp only[Function.comp,Nat.succ_eq_add_one]
    rw[Nat.pow_succ',←Nat.div_div_eq_div_mul]
   rw[e,ih (n/256) (by rw[Nat.pow_succ] at h;omega)]
   simp;omega
 exact h 32 n hn
end Go.Proofs.YtddmjddlbhdcpaaGreatDoor

namespace Go.Proofs.YtddmjddlbhdcpaaGreatDoor
open Go.RowKit Go.Hold Go.Sh Go.Ch Go.Cm Go.Hd
def chB (k:List Nat) (fs:List (List Nat)):Nat:=F.chN (F.ptN (numB k)%Fp.P) (fs.map numB)
def shB (k u:List Nat):Nat:=F.shN (numB k) (numB u)
def puB (k:List Nat):List Nat:=keyB (F.Cv.nT (F.Cv.clampN (numB k)) 9)
def nxA (s a:List Nat):Nat:=shB (bli s a) a
theorem puB_length (k:List Nat):(puB k).length=32:=keyB_length _
theorem puB_bts (k:List Nat):∀ i,(puB k).getD i 0<256:=keyB_bts _
def okAt (n i:Nat) (c:Cmd):Bool:=c.may && (decide (c.k=1) == decide (i+1<n))
def rtF (n:Nat):Nat→List Hop→Bool
 | _,[]=>true
 | i,h::r=>okAt n i h.c && rtF n (i+1) r
def isRt (L:List Hop):Bool:=decide (1≤L.length∧L.length≤5) && rtF L.length 0 L
theorem rtF_drop {n i:Nat} {L:List Hop} {h:Hop} (hi:L[i]?=some h):rtF n i (L.drop i)=(okAt n i h.c && rtF n (i+1) (L.drop (i+1))):=by
 obtain⟨hq,rfl⟩:=List.getElem?_eq_some_iff.1 hi
 rw[List.drop_eq_getElem_cons hq];rfl
theorem rtF_all:∀ {n i:Nat} {L:List Hop},rtF n i L=true→∀ h∈L,h.c.may=true
 | _,_,[],_,h,hh=>by simp at hh
 | n,i,a::r,e,h,hh=>by
  simp only[rtF,okAt,Bool.and_eq_true] at e
  rcases List.mem_cons.1 hh with rfl | hh
  ·exact e.1.1
  ·exact rtF_all e.2 h hh
def secF:List (List Nat)→List Nat→List Hop→Option (List (List Nat))
 | _,_,[]=>some []
 | fs,a,h::r =>
  if chB h.k fs=0 then none
  else if nxA (keyB (chB h.k fs)) a=0 then none
  else (secF (fs++[bli (keyB (chB h.k fs)) a]) (keyB (nxA (keyB (chB h.k fs)) a)) r).map (keyB (chB h.k fs)::·)
theorem secF_length:∀ {L:List Hop} {fs:List (List Nat)} {a:List Nat} {ss:List (List Nat)},secF fs a L=some ss→ss.length=L.length
 | [],_,_,ss,h=>by simp[secF] at h;subst h;rfl
 | k::r,fs,a,ss,h=>by
  simp only[secF] at h
  split at h
  ·cases h
  split at h
  ·cases h
  obtain⟨s,hs,rfl⟩:=Option.map_eq_some_iff.1 h
  simp[secF_length hs]
theorem secF_key:∀ {L:List Hop} {fs:List (List Nat)} {a:List Nat} {ss:List (List Nat)},secF fs a L=some ss→∀ s∈ss,∃ n,s=keyB n∧n<Fp.P
 | [],_,_,ss,h,s,hs=>by simp[secF] at h;subst h;simp at hs
 | k::r,fs,a,ss,h,s,hs=>by
  simp only[secF] at h
  split at h
  ·cases h
  split at h
  ·cases h
  obtain⟨t,ht,rfl⟩:=Option.map_eq_some_iff.1 h
  rcases List.mem_cons.1 hs with rfl | hs
  ·exact⟨_,rfl,F.chN_lt _ (Nat.mod_lt _ Fp.P_pos) _⟩
  ·exact secF_key ht s hs
def beta0 (ss:List (List Nat)) (L:List Hop):List Nat:=betas [] (ss.zip (L.map fun h=>h.c.enc))
def hbS (x:List Nat) (L:List Hop):Option (List (List Nat)):=secF [x] (puB x) L
def hbH (x:List Nat) (L:List Hop):List Nat :=
 if isRt L=true then match hbS x L with
  | none=>zs 208
  | some ss=>puB x++beta0 ss L++prf (ss.headD []) (beta0 ss L)
 else zs 208
def hbK (x:List Nat) (L:List Hop):List (List Nat):=if isRt L=true then (hbS x L).getD [] else []
def hbE (x:List Nat) (L:List Hop):Int:=if isRt L=true then (if (hbS x L).isSome then 0 else 7) else 14
structure Stp where
 c:Cmd
 nx:List Nat
 s:List Nat
 t:List Nat
def Stp.zero:Stp:=⟨.zero,zs 208,zs 32,zs 16⟩
def opn (s b:List Nat):List Nat:=mixd (hst s) (b++zs 32)
theorem opn_length {s b:List Nat} (hb:b.length=160):(opn s b).length=192:=by unfold opn;rw[mixd_length,List.length_append,hb,zs_length]
theorem opn_bts {s b:List Nat} (hb:∀ i,b.getD i 0<256):∀ i,(opn s b).getD i 0<256:=by unfold opn;exact mixd_bts (hst_bts s) (bts_app hb (bts_zs _))
def unwE (o a b g:List Nat):Int :=
 if shB o a=0 then 7 else if ¬prf (keyB (shB o a)) b=g then 6
 else if okB ((opn (keyB (shB o a)) b).take 16)=false then 5 else if nxA (keyB (shB o a)) a=0 then 7 else 0
def stpOf (a b s:List Nat):Stp:=⟨ofB ((opn s b).take 16),keyB (nxA s a)++(opn s b).drop 32++((opn s b).drop 16).take 16,s,tagS s⟩
def unwV (o a b g:List Nat):Stp:=if unwE o a b g=0 then stpOf a b (keyB (shB o a)) else .zero
def Way:List Nat→List (List Nat)→List (List Nat)→Prop
 | _,[],[]=>True
 | a,o::os,s::ss=>shB o a≠0∧keyB (shB o a)=s∧nxA s a≠0∧Way (keyB (nxA s a)) os ss
 | _,_,_=>False
theorem numB_key {n:Nat} (h:n<Fp.P):numB (keyB n)=n:=numB_keyB (Nat.lt_trans h (by decide +kernel))
theorem sec_way:∀ (os:List (List Nat)) (cs:List Cmd) (f:List Nat) (fs:List (List Nat)),cs.length=os.length →
  ∃ ss,secF (f::fs) (keyB (F.chN 9 ((f::fs).map numB))) ((os.zip cs).map fun p=>⟨puB p.1,p.2⟩)=some ss∧Way (keyB (F.chN 9 ((f::fs).map numB))) os ss∧ss.length=os.length
 | [],_,f,fs,_=>⟨[],rfl,trivial,rfl⟩
 | o::os,[],f,fs,h=>by simp at h
 | o::os,c::cs,f,fs,h=>by
  have hfar:∀ k:Nat,F.shN k (F.chN 9 ((f::fs).map numB))≠0:=fun k=>by
   rw[←F.chN_snoc,List.map_cons,List.cons_append];exact F.chN_ne _ _
  have hlt:=F.chN_lt 9 F.nine_small ((f::fs).map numB)
  obtain⟨A,eA⟩:∃ y,y=F.chN 9 ((f::fs).map numB):=⟨_,rfl⟩
  have e1:chB (puB o) (f::fs)=F.shN (numB o) A:=by
   unfold chB puB
   rw[numB_key (F.Cv.nT_lt _ _),F.ptN_small (F.Cv.nT_lt _ _),←F.shN_nine,F.chN_comm,eA]
  have e2:shB o (keyB A)=F.shN (numB o) A:=by
   unfold shB;rw[numB_key (by rw[eA];exact hlt)]
  have h1:F.shN (numB o) A≠0:=by rw[eA];exact hfar _
  have h2:nxA (keyB (F.shN (numB o) A)) (keyB A)≠0:=by
   unfold nxA shB;rw[numB_key (by rw[eA];exact hlt),eA];exact hfar _
  have e3:keyB (nxA (keyB (F.shN (numB o) A)) (keyB A))=keyB (F.chN 9 ((f::(fs++[bli (keyB (F.shN (numB o) A)) (keyB A)])).map numB)):=by
   unfold nxA shB
   rw[numB_key (by rw[eA];exact hlt),show (f::(fs++[bli (keyB (F.shN (numB o) A)) (keyB A)])).map numB=(f::fs).map numB++[numB (bli (keyB (F.shN (numB o) A)) (keyB A))] by simp,F.chN_snoc,←eA]
  obtain⟨ss,hs1,hs2,hs3⟩:=sec_way os cs f (fs++[bli (keyB (F.shN (numB o) A)) (keyB A)]) (by simpa using h)
  rw[←e3] at hs1 hs2
  refine⟨keyB (F.shN (numB o) A)::ss,?_,?_,by simp[hs3]⟩
  ·rw[←eA]
   show secF (f::fs) (keyB A) (⟨puB o,c⟩::(os.zip cs).map fun p=>⟨puB p.1,p.2⟩)=_
   simp only[secF,e1]
   rw[if_neg h1,if_neg h2,List.cons_append,hs1];rfl
  ·rw[←eA]
   exact⟨by rw[e2];exact h1,by rw[e2],h2,hs2⟩
theorem puB_far (x:List Nat):puB x=keyB (F.chN 9 ([x].map numB)):=by
 unfold puB
 rw[List.map_cons,List.map_nil,F.chN_one,F.shN_nine]
theorem way_step {a o s:List Nat} {os ss done:List (List Nat)} {c:Cmd} {cs:List Cmd} (hid:∀ d∈c::cs,d.id.length=8) (hm:c.may=true) (hw:Way a (o::os) (s::ss)) (hl:cs.length=ss.length) (hn:done.length+ss.length≤4) :
  ∃ nx,unwE o a (betas done (((s::ss).zip (c::cs)).map fun p=>(p.1,p.2.enc))) (prf s (betas done (((s::ss).zip (c::cs)).map fun p=>(p.1,p.2.enc))))=0
   ∧ unwV o a (betas done (((s::ss).zip (c::cs)).map fun p=>(p.1,p.2.enc))) (prf s (betas done (((s::ss).zip (c::cs)).map fun p=>(p.1,p.2.enc))))=⟨c,nx,s,tagS s⟩
   ∧ Way (keyB (nxA s a)) os ss
   ∧ ∀ t ts,ss=t::ts→nx=keyB (nxA s a)++betas (done++[s]) ((ss.zip cs).map fun p=>(p.1,p.2.enc))++prf t (betas (done++[s]) ((ss.zip cs).map fun p=>(p.1,p.2.enc))):=by
 obtain⟨h1,h2,h3,h4⟩:=hw
 have hcl:c.enc.length=16:=enc_length (hid c (by simp))
 have hZ:∀ x∈((s::ss).zip (c::cs)).map fun p=>(p.1,p.2.enc),x.2.length=16:=by
  intro x hx
  obtain⟨p,hp,rfl⟩:=List.mem_map.1 hx
  exact enc_length (hid p.2 (List.of_mem_zip hp).2)
 have h16:(opn s (betas done (((s::ss).zip (c::cs)).map fun p=>(p.1,p.2.enc)))).take 16=c.enc:=by
  cases ss with
  | nil =>
   obtain rfl:cs=[]:=List.eq_nil_of_length_eq_zero (by simpa using hl)
   exact betas_last done s c.enc hcl (by simpa using hn)
  | cons t ts =>
   cases cs with
   | nil=>simp at hl
   | cons d ds =>
    unfold opn
    rw[show ((s::t::ts).zip (c::d::ds)).map (fun p=>(p.1,p.2.enc))=(s,c.enc)::(t,d.enc)::(ts.zip ds).map (fun p=>(p.1,p.2.enc)) from rfl] at hZ ⊢
    rw[betas_open done s c.enc t d.enc _ hZ (by simp at hn hl ⊢;omega),List.append_assoc,List.take_append_of_le_length (by omega),List.take_of_length_le (by omega)]
 have hok:okB c.enc=true:=okB_enc (hid c (by simp)) hm
 have hE:unwE o a (betas done (((s::ss).zip (c::cs)).map fun p=>(p.1,p.2.enc))) (prf s (betas done (((s::ss).zip (c::cs)).map fun p=>(p.1,p.2.enc))))=0:=by
  unfold unwE
  rw[if_neg h1,h2,if_neg (fun h=>h rfl),h16,hok,if_neg (by simp),if_neg h3]
 refine⟨keyB (nxA s a)++(opn s (betas done (((s::ss).zip (c::cs)).map fun p=>(p.1,p.2.enc)))).drop 32++((opn s (betas done (((s::ss).zip (c::cs)).map fun p=>(p.1,p.2.enc)))).drop 16).take 16,hE,?_,h4,?_⟩
 ·unfold unwV stpOf
  rw[if_pos hE,h2,h16,ofB_enc (hid c (by simp)) hm]
 ·rintro t ts rfl
  cases cs with
  | nil=>simp at hl
  | cons d ds =>
   rw[show (((s::t::ts).zip (c::d::ds)).map fun p=>(p.1,p.2.enc))=(s,c.enc)::(t,d.enc)::(ts.zip ds).map (fun p=>(p.1,p.2.enc)) from rfl] at hZ
   have ho:=betas_open done s c.enc t d.enc ((ts.zip ds).map fun p=>(p.1,p.2.enc)) hZ (by simp at hn hl ⊢;omega)
   have e:(((s::t::ts).zip (c::d::ds)).map fun p=>(p.1,p.2.enc))=(s,c.enc)::(t,d.enc)::(ts.zip ds).map (fun p=>(p.1,p.2.enc)):=rfl
   have e':(((t::ts).zip (d::ds)).map fun p=>(p.1,p.2.enc))=(t,d.enc)::(ts.zip ds).map (fun p=>(p.1,p.2.enc)):=rfl
   rw[e,e']
   unfold opn
   rw[ho]
   generalize betas (done++[s]) ((t,d.enc)::(ts.zip ds).map fun p=>(p.1,p.2.enc))=b at *
   have hp:=prf_length t b
   generalize prf t b=g at *
   rw[List.append_assoc c.enc g b,show 32=(c.enc++g).length by simp[hcl,hp],←List.append_assoc,List.drop_left,List.append_assoc c.enc g b,show 16=c.enc.length from hcl.symm,List.drop_left]
   congr 1
   rw[hcl,←hp,List.take_left]
end Go.Proofs.YtddmjddlbhdcpaaGreatDoor

namespace Go.Proofs.YtddmjddlbhdcpaaGreatDoor
open Go.RowKit Go.Hold Go.Sh Go.Cm Go.Hd
def stepA (x:Stp):Array Value:=cmdA x.c++bysA (x.nx++x.s++x.t)
structure StpOk (x:Stp):Prop where
 i:x.c.id.length=8
 n:x.nx.length=208
 s:x.s.length=32
 t:x.t.length=16
theorem stepA_size {x:Stp} (h:StpOk x):(stepA x).size=267:=by
 unfold stepA
 rw[Array.size_append,cmdA_size h.i,bysA_size,List.length_append,List.length_append,h.n,h.s,h.t]
theorem stepA_ext {x:Stp} (h:StpOk x) (a b:Nat) (ha:11≤a):(stepA x).extract a b=bysA (((x.nx++x.s++x.t).drop (a-11)).take (b-a)):=by
 unfold stepA
 rw[Array.extract_append,cmdA_size h.i]
 rw[show (cmdA x.c).extract a b=#[] by apply Array.extract_empty_of_size_le_start;rw[cmdA_size h.i];exact ha]
 rw[bysA_ext]
 simp only[Array.empty_append]
 congr 2;omega
@[go_sem] theorem stepA_cmd {x:Stp} (h:StpOk x):(stepA x).extract 0 11=cmdA x.c:=by
 unfold stepA
 have h2:(cmdA x.c).size=11:=cmdA_size h.i
 rw[←h2,Array.extract_append_left]
 simp
@[go_sem] theorem stepA_next {x:Stp} (h:StpOk x):(stepA x).extract 11 219=bysA x.nx:=by
 rw[stepA_ext h 11 219 (by decide),List.append_assoc]
 rw[show 219-11=x.nx.length by rw[h.n],List.drop_zero,List.take_left]
@[go_sem] theorem stepA_sec {x:Stp} (h:StpOk x):(stepA x).extract 219 251=bysA x.s:=by
 rw[stepA_ext h 219 251 (by decide),List.append_assoc,show 219-11=x.nx.length by rw[h.n],List.drop_left,show 251-219=x.s.length by rw[h.s],List.take_left]
@[go_sem] theorem stepA_tag {x:Stp} (h:StpOk x):(stepA x).extract 251 267=bysA x.t:=by
 rw[stepA_ext h 251 267 (by decide),show 251-11=(x.nx++x.s).length by rw[List.length_append,h.n,h.s],List.drop_left,List.take_of_length_le (by rw[h.t];decide)]
@[go_sem] theorem stepA_one (x:Stp):oneAll (stepA x)=true:=by
 have h1:=cmdA_one x.c
 have h2:=bysA_one (x.nx++x.s++x.t)
 unfold oneAll stepA at *
 rw[Array.all_append,h1,h2];rfl
theorem stpOk_zero:StpOk .zero:=⟨rfl,rfl,rfl,rfl⟩
set_option maxRecDepth 100000 in
@[go_sem] theorem zc_step:Tryz.zeroCells53=stepA .zero:=by kernel_rfl
set_option maxRecDepth 100000 in
@[go_sem] theorem run_bld0_step (w:World):(bldA 53 #[]).run Tryz.prog w=.ok (.agg (stepA .zero)) w:=run_build w _ _ _ (by kernel_rfl)
set_option maxRecDepth 100000 in
theorem run_bldStep {x:Stp} (h:StpOk x) (w:World):(bldA 53 #[(0,.agg (cmdA x.c)),(1,.agg (bysA x.nx)),(2,.agg (bysA x.s)),(3,.agg (bysA x.t))]).run Tryz.prog w=.ok (.agg (stepA x)) w:=by
 have s0:(cmdA x.c).size=11:=cmdA_size h.i
 have s1:(bysA x.nx).size=208:=by rw[bysA_size,h.n]
 have s2:(bysA x.s).size=32:=by rw[bysA_size,h.s]
 have s3:(bysA x.t).size=16:=by rw[bysA_size,h.t]
 have hc:(cellsAll [.agg (cmdA x.c),.agg (bysA x.nx),.agg (bysA x.s),.agg (bysA x.t)])=(stepA x).toList:=by
  show (cmdA x.c).toList++((Value.agg (bysA x.nx)).cells.toList++((Value.agg (bysA x.s)).cells.toList++((Value.agg (bysA x.t)).cells.toList++[])))=_
  unfold stepA
  rw[cells_bys,cells_bys,cells_bys,List.append_nil,bys_app,bys_app,List.append_assoc,Array.toList_append];rfl
 have:=run_build_all (P:=Tryz.prog) Tryz.underlying53 w [.agg (cmdA x.c),.agg (bysA x.nx),.agg (bysA x.s),.agg (bysA x.t)]
  (by rw[hc,Array.length_toList,stepA_size h];kernel_rfl)
  (by simp only[offs,Value.cells,s0,s1,s2,s3];kernel_rfl) #[(0,.agg (cmdA x.c)),(1,.agg (bysA x.nx)),(2,.agg (bysA x.s)),(3,.agg (bysA x.t))] rfl
 rw[hc,Array.toArray_toList] at this
 exact this
end Go.Proofs.YtddmjddlbhdcpaaGreatDoor

namespace Go.Proofs.YtddmjddlbhdcpaaGreatDoor
open Go.RowKit Go.Hold Go.Sh Go.Ch Go.Cm Go.Hd
theorem rdrv_mu (s:List Nat) (hs:s.length=32) (hsb:∀ i,s.getD i 0<256) (w:World):Calls Tryz.prog 61 #[.agg (bysA s),.string ⟨#[109,117]⟩] w fun e w'=>e=.returned (.agg (bysA (keyN (drv s muL))))∧Below w.heap.size w w':=by
 have h:=rderive_c s ⟨#[109,117]⟩ w hs hsb (by decide)
 rw[show strB ⟨#[109,117]⟩=[109,117] by decide,keA_bys] at h
 exact h
set_option maxHeartbeats 1000000 in
set_option maxRecDepth 100000 in
theorem rproof10_c (s b:List Nat) (p:Option Addr) (n cap:Nat) (hs:s.length=32) (hsb:∀ i,s.getD i 0<256) (hn:n=b.length) (hl:b.length≤90000) (hbb:∀ i,b.getD i 0<256) (hpc:p=none→cap=0) (w:World) (hB:Bs0 w p b) :
  Calls Tryz.prog 25 #[.agg (bysA s),.slice p n cap] w fun e w'=>e=.returned (.agg (bysA (prf s b)))∧Below w.heap.size w w':=by
 have hss:=bysA_size' hs
 have ht:=bysA_size' (prf_length s b)
 have HD:=Lib.hid (fun (W:World)=>rdrv_mu s hs hsb W)
 have hds:=bysA_size' (keyN_length (drv s muL))
 have HB:=Lib.hid (fun (W:World) (h:Below w.heap.size w W)=>hB.grow h)
 have HM:=Lib.hid (fun (W:World) (kc:Nat) (kp:Option Addr) (h1:Bs0 W kp (keyN (drv s muL))) (h2:kp=none→kc=0) (h3:Bs0 W p b)=>rmac_c kc cap 32 n kp p (keyN (drv s muL)) b W (keyN_length _).symm hn (by rw[keyN_length];decide) (keyN_bts _) h1 h2 hl hbb h3 hpc)
 rw[keA_bys] at HM
 have HDl:=Lib.hid (keyN_length (drv s muL))
 have HMl:=Lib.hid (keyN_length (mac (keyN (drv s muL)) b))
 unfold prf at *
 clear hs hsb hn hl hbb hpc hB
 generalize keyN (mac (keyN (drv s muL)) b)=M at *
 generalize keyN (drv s muL)=D at *
 go_enter Tryz.func25,Tryz.ntmps25
 go_wp2_with fail
 generalize hW:World.alloc _ _=W0
 have R0x0:=Lib.hid (show RowAt W0 (w.heap.size) (bysA s) by rw[←hW];clear hW;exact⟨by go_simp,by first | (go_simp;done) | (go_simp;rfl),by go_simp⟩)
 have R0x1:=Lib.hid (show RowAt W0 (w.heap.size+1) (bysA (zs 16)) by rw[←hW];clear hW;exact⟨by go_simp,by first | (go_simp;done) | (go_simp;rfl),by go_simp⟩)
 have B0:=Lib.hid (show Below w.heap.size w W0 by rw[←hW];repeat (first | apply below_alloc | exact Below.refl _ _))
 clear hW
 have hzs16:=bysA_size' (zs_length 16)
 have l_z:w.heap.size≤w.heap.size:=by omega
 have l_r:w.heap.size≤w.heap.size+1:=by omega
 have n_z_r:w.heap.size≠w.heap.size+1:=by omega
 generalize w.heap.size+1=r at *
 obtain⟨z,ez⟩:∃ z,z=w.heap.size:=⟨_,rfl⟩
 rw[←ez] at R0x0 n_z_r ⊢
 have l_z:w.heap.size≤z:=by rw[ez];exact Nat.le_refl _
 clear ez
 refine(HD.out _).mono ?_
 rintro e W1 ⟨rfl,hb1⟩
 have R1x0:=Lib.hid (R0x0.out.grow hb1)
 have R1x1:=Lib.hid (R0x1.out.grow hb1)
 have B1:=Lib.hid (B0.out.trans (hb1.mono B0.out.size))
 clear hb1 B0 R0x0 R0x1
 obtain⟨R1x0a,R1x0b,R1x0c⟩:=R1x0.out
 obtain⟨R1x1a,R1x1b,R1x1c⟩:=R1x1.out
 go_wp2_with fail
 have n_z_k:z≠W1.heap.size:=Nat.ne_of_lt R1x0.out.2.2
 have n_r_k:r≠W1.heap.size:=Nat.ne_of_lt R1x1.out.2.2
 have l_k:w.heap.size≤W1.heap.size:=B1.out.size
 have hb2:=below_alloc (Below.refl W1.heap.size W1) (.cells (bysA D) 23)
 have N2:=Lib.hid (RowAt.of (block_new W1 (.cells (bysA D) 23)))
 have R2x0:=Lib.hid (R1x0.out.grow hb2)
 have R2x1:=Lib.hid (R1x1.out.grow hb2)
 have B2:=Lib.hid (B1.out.trans (hb2.mono B1.out.size))
 clear hb2 B1 R1x0 R1x1 R1x0a R1x0b R1x0c R1x1a R1x1b R1x1c
 generalize W1.heap.size=k at *
 generalize W1.alloc (.cells (bysA D) 23)=W2 at *
 obtain⟨R2x0a,R2x0b,R2x0c⟩:=R2x0.out
 obtain⟨R2x1a,R2x1b,R2x1c⟩:=R2x1.out
 obtain⟨N2a,N2b,N2c⟩:=N2.out
 go_wp2_with fail
 refine(rbytes_c D HDl.out _).mono ?_
 rintro e W3 ⟨v,rfl,ho,hb3⟩
 clear R2x0a R2x0b R2x0c R2x1a R2x1b R2x1c N2a N2b N2c
 have R3x0:=Lib.hid (R2x0.out.grow hb3)
 have R3x1:=Lib.hid (R2x1.out.grow hb3)
 have R3x2:=Lib.hid (N2.out.grow hb3)
 have B3:=Lib.hid (B2.out.trans (hb3.mono B2.out.size))
 clear hb3 B2 R2x0 R2x1 N2
 obtain⟨p1,c1,rfl,hs1,hx1,hp1⟩:=ho.bs
 clear hx1 ho
 rw[HDl.out]
 obtain⟨R3x0a,R3x0b,R3x0c⟩:=R3x0.out
 obtain⟨R3x1a,R3x1b,R3x1c⟩:=R3x1.out
 obtain⟨R3x2a,R3x2b,R3x2c⟩:=R3x2.out
 go_wp2_with fail
 refine(HM.out _ _ _ hs1 hp1 (HB.out _ B3.out)).mono ?_
 rintro e W4 ⟨rfl,hb4⟩
 clear R3x0a R3x0b R3x0c R3x1a R3x1b R3x1c R3x2a R3x2b R3x2c
 have R4x0:=Lib.hid (R3x0.out.grow hb4)
 have R4x1:=Lib.hid (R3x1.out.grow hb4)
 have R4x2:=Lib.hid (R3x2.out.grow hb4)
 have B4:=Lib.hid (B3.out.trans (hb4.mono B3.out.size))
 clear hb4 B3 R3x0 R3x1 R3x2
 clear hs1 hp1
 obtain⟨R4x0a,R4x0b,R4x0c⟩:=R4x0.out
 obtain⟨R4x1a,R4x1b,R4x1c⟩:=R4x1.out
 obtain⟨R4x2a,R4x2b,R4x2c⟩:=R4x2.out
 go_wp2_with fail
 refine(rshort_c M HMl.out _).mono ?_
 rintro e W5 ⟨rfl,hb5⟩
 clear R4x0a R4x0b R4x0c R4x1a R4x1b R4x1c R4x2a R4x2b R4x2c
 have R5x0:=Lib.hid (R4x0.out.grow hb5)
 have R5x1:=Lib.hid (R4x1.out.grow hb5)
 have R5x2:=Lib.hid (R4x2.out.grow hb5)
 have B5:=Lib.hid (B4.out.trans (hb5.mono B4.out.size))
 clear hb5 B4 R4x0 R4x1 R4x2
 obtain⟨R5x0a,R5x0b,R5x0c⟩:=R5x0.out
 obtain⟨R5x1a,R5x1b,R5x1c⟩:=R5x1.out
 obtain⟨R5x2a,R5x2b,R5x2c⟩:=R5x2.out
 go_wp2_with fail
 refine bodyPost_ret (v:=.agg (bysA (M.take 16))) (results_tag Tryz.results25 ht _ _ _ rfl (by go_simp) (by go_simp)) rfl ⟨rfl,?_⟩
 exact below_setRow (B5.out) l_r _
def tupS (l:List Nat):Value→World→Prop:=fun v w=>∃ p c,v=.tuple #[.slice p l.length c,.int .i64 0]∧Bs0 w p l∧l.length≤c∧(p=none→c=0)
set_option maxHeartbeats 400000 in
set_option maxRecDepth 100000 in
theorem rtagBytes_c (s:List Nat) (hs:s.length=16) (w:World):Calls Tryz.prog 42 #[.agg (bysA s)] w fun e w'=>∃ v,e=.returned v∧OwnB w' w.heap.size v s∧Below w.heap.size w w':=by
 have Hs:=Lib.hid hs
 clear hs
 go_enter Tryz.func42,Tryz.ntmps42
 go_wp2_with fail
 have R0:=Lib.hid (show RowAt (w.alloc (.cells (bysA s) 29)) w.heap.size (bysA s) from RowAt.of (block_new w _))
 have B0:=Lib.hid (below_alloc (Below.refl w.heap.size w) (.cells (bysA s) 29))
 generalize w.alloc (.cells (bysA s) 29)=W0 at *
 go_loopw [3,4] (fun v i wr=>∃ k:Nat,k≤16∧i=.int .i64 k∧OwnB wr W0.heap.size v (s.take k)∧Below W0.heap.size W0 wr) (fun _ i _=>16-(intOf i).toNat)
 case atStart=>exact⟨0,by decide,rfl,own_nil W0 _,Below.refl _ _⟩
 case round =>
  obtain⟨k,hk,rfl,hown,hbel⟩:=hrel
  by_cases hk16:k<16
  ·have hk0:(0:Int)≤(k:Int):=by omega
   have hk1:(k:Int)<16:=by omega
   have hkl:k<s.length:=by rw[Hs.out];exact hk16
   have hc:=(R0.out.grow hbel).cellAt k (bysA_get s k hkl)
   have ht:=take_one s k hkl
   generalize s.getD k 0=y at *
   have BA:=below_alloc (Below.refl wr.heap.size wr) (.cells #[.int .u8 (y:Int)] 5)
   obtain⟨v2,w2,hr2,hown2,hgr2⟩:=app_own (k:=1) (cap:=1) (hown.below BA) (Bs0.some (bytes_new wr [y] 5 (0,0))) rfl (fun h=>by cases h) (Nat.le_trans hbel.size BA.size) (by rw[List.length_take];simp only[List.length_cons,List.length_nil];omega)
   have Hb2:=Lib.hid (own_below (hbel.alloc hbel.size (.cells #[.int .u8 (y:Int)] 5)) (hown.below BA) (Nat.le_trans hbel.size BA.size) hgr2)
   have Ho2:=Lib.hid (show OwnB w2 W0.heap.size v2 (s.take (k+1)) by rw[←ht];exact hown2)
   clear hown2 hgr2 BA hown hbel ht hkl
   go_wp2_with (at_builtin;refine Lib.wpList_append_run _ rfl _ _ _ _ rfl _ _ rfl rfl _ _ hr2 ?_)
   go_wp2_with fail
   go_roundw
   case rel=>exact⟨k+1,by omega,by go_num,Ho2.out,Hb2.out⟩
   case measure=>simp[intOf];omega
  ·obtain rfl:k=16:=by omega
   have HO:=Lib.hid hown
   have HB:=Lib.hid hbel
   clear hown hbel
   go_wp2_with fail
   go_ret
   refine⟨_,rfl,?_,B0.out.trans (HB.out.mono B0.out.size)⟩
   have:=HO.out
   rw[List.take_of_length_le (by rw[Hs.out];exact Nat.le_refl _)] at this
   exact this.base B0.out.size
end Go.Proofs.YtddmjddlbhdcpaaGreatDoor

namespace Go.Proofs.YtddmjddlbhdcpaaGreatDoor
open Go.RowKit Go.Hold Go.Sh Go.Cm Go.Hd
@[go_sem ↓ high] theorem fold_eqV_key (a:Operand→Value) (d:Option Tmp) (op:BinOp) (x y:Operand) (u t:TypeId) (p:String) (af:Array Edge) (g:Option (Nat × Bool)) :
  execOp a ⟨d,.binOp op 23 x y u,t,p,af,g⟩=(do pure (.value (←eqV op 23 x y (a x) (a y)))):=rfl
@[go_sem] theorem run_eqV_key (x y:Operand) (l m:List Nat) (hl:(bysA l).size=32) (hm:(bysA m).size=32) (w:World) :
  (eqV .eql 23 x y (.agg (bysA l)) (.agg (bysA m))).run Tryz.prog w=.ok (.bool (decide (l=m))) w:=run_eqV Tryz.underlying23 (by kernel_rfl) x y (by rwa [bysA_size] at hl) (by rwa [bysA_size] at hm) w
@[go_sem] theorem run_neV_key (x y:Operand) (l m:List Nat) (hl:(bysA l).size=32) (hm:(bysA m).size=32) (w:World) :
  (eqV .neq 23 x y (.agg (bysA l)) (.agg (bysA m))).run Tryz.prog w=.ok (.bool (!decide (l=m))) w:=run_neV Tryz.underlying23 (by kernel_rfl) x y (by rwa [bysA_size] at hl) (by rwa [bysA_size] at hm) w
@[go_sem ↓ high] theorem fold_eqV_tag (a:Operand→Value) (d:Option Tmp) (op:BinOp) (x y:Operand) (u t:TypeId) (p:String) (af:Array Edge) (g:Option (Nat × Bool)) :
  execOp a ⟨d,.binOp op 29 x y u,t,p,af,g⟩=(do pure (.value (←eqV op 29 x y (a x) (a y)))):=rfl
@[go_sem] theorem run_eqV_tag (x y:Operand) (l m:List Nat) (hl:(bysA l).size=16) (hm:(bysA m).size=16) (w:World) :
  (eqV .eql 29 x y (.agg (bysA l)) (.agg (bysA m))).run Tryz.prog w=.ok (.bool (decide (l=m))) w:=run_eqV Tryz.underlying29 (by kernel_rfl) x y (by rwa [bysA_size] at hl) (by rwa [bysA_size] at hm) w
@[go_sem] theorem run_neV_tag (x y:Operand) (l m:List Nat) (hl:(bysA l).size=16) (hm:(bysA m).size=16) (w:World) :
  (eqV .neq 29 x y (.agg (bysA l)) (.agg (bysA m))).run Tryz.prog w=.ok (.bool (!decide (l=m))) w:=run_neV Tryz.underlying29 (by kernel_rfl) x y (by rwa [bysA_size] at hl) (by rwa [bysA_size] at hm) w
@[go_sem ↓ high] theorem fold_eqCm (a:Operand→Value) (d:Option Tmp) (op:BinOp) (x y:Operand) (u t:TypeId) (p:String) (af:Array Edge) (g:Option (Nat × Bool)) :
  execOp a ⟨d,.binOp op 51 x y u,t,p,af,g⟩=(do pure (.value (←eqV op 51 x y (a x) (a y)))):=rfl
set_option maxRecDepth 100000 in
theorem part_cid {c:Cmd} (hc:c.id.length=8) (w:World):(part 49 (cmdA c) 3).run Tryz.prog w=.ok (.agg (bysA c.id)) w:=by
 have hag:(isAgg 49).run Tryz.prog w=.ok true w:=by unfold isAgg;rw[Sem.run_bind,run_underlying Tryz.underlying49 w];simp
 unfold part
 rw[Sem.run_bind,hag]
 simp[cmdA_ext c hc]
set_option maxRecDepth 100000 in
theorem equalIn_cm (d:Nat) {a b:Cmd} (ha:a.id.length=8) (hb:b.id.length=8) (w:World) :
  (Op.equalIn (d+4) 51 (.agg (cmdA a)) (.agg (cmdA b))).run Tryz.prog w=.ok (beqC a b) w:=by
 rw[run_equalIn_struct w (d+3) 51 (cmdA a) (cmdA b) (by kernel_rfl) (by kernel_rfl)]
 obtain⟨f0,f1,f2,f3,hf,n0,n1,n2,n3,t0,t1,t2,t3,o0,o1,o2,o3⟩:∃ f0 f1 f2 f3:Field,(Tryz.prog.fieldsOf 51).toList=[f0,f1,f2,f3]∧f0.name ≠ "_"∧f1.name ≠ "_"∧f2.name ≠ "_"∧f3.name ≠ "_"∧f0.type=3∧f1.type=3∧f2.type=3∧f3.type=49∧f0.offset=0∧f1.offset=1∧f2.offset=2∧f3.offset=3 :=
  ⟨_,_,_,_,rfl,by decide +kernel,by decide +kernel,by decide +kernel,by decide +kernel,by kernel_rfl,by kernel_rfl,by kernel_rfl,by kernel_rfl,by kernel_rfl,by kernel_rfl,by kernel_rfl,by kernel_rfl⟩
 rw[hf]
 simp only[Op.eqFields,n0,n1,n2,n3,t0,t1,t2,t3,o0,o1,o2,o3,ne_eq,not_false_eq_true,if_true,Sem.run_bind,part_int (cmdA_0 a),part_int (cmdA_0 b),Result.andThen_ok]
 rw[run_equalIn_int w (d+2) 3 .i64 .i64 a.k b.k Tryz.underlying3]
 unfold beqC
 cases h0:(a.k == b.k)
 ·simp
 ·simp only[Result.andThen_ok,Bool.not_true,Bool.false_eq_true,if_false,Bool.true_and,Sem.run_bind,part_int (cmdA_1 a),part_int (cmdA_1 b)]
  rw[run_equalIn_int w (d+2) 3 .i64 .i64 a.n b.n Tryz.underlying3]
  cases h1:(a.n == b.n)
  ·simp
  ·simp only[Result.andThen_ok,Bool.not_true,Bool.false_eq_true,if_false,Bool.true_and,Sem.run_bind,part_int (cmdA_2 a),part_int (cmdA_2 b)]
   rw[run_equalIn_int w (d+2) 3 .i64 .i64 a.d b.d Tryz.underlying3]
   cases h2:(a.d == b.d)
   ·simp
   ·simp only[Result.andThen_ok,Bool.not_true,Bool.false_eq_true,if_false,Bool.true_and,Sem.run_bind,part_cid ha,part_cid hb]
    rw[equalIn_bytes Tryz.underlying49 d ha hb]
    cases decide (a.id=b.id)<;>simp
set_option maxRecDepth 100000 in
@[go_sem] theorem run_eqCm (x y:Operand) (a b:Cmd) (ha:a.id.length=8) (hb:b.id.length=8) (w:World) :
  (eqV .eql 51 x y (.agg (cmdA a)) (.agg (cmdA b))).run Tryz.prog w=.ok (.bool (beqC a b)) w:=by
 unfold eqV
 rw[Sem.run_bind,run_eqGuard_agg w .eql 51 x y _ _ (by kernel_rfl),Result.andThen_ok,run_eql_struct,show (10000:Nat)=9996+4 from rfl,equalIn_cm 9996 ha hb]
 rfl
set_option maxRecDepth 100000 in
@[go_sem] theorem run_neCm (x y:Operand) (a b:Cmd) (ha:a.id.length=8) (hb:b.id.length=8) (w:World) :
  (eqV .neq 51 x y (.agg (cmdA a)) (.agg (cmdA b))).run Tryz.prog w=.ok (.bool (!beqC a b)) w:=by
 unfold eqV
 rw[Sem.run_bind,run_eqGuard_agg w .neq 51 x y _ _ (by kernel_rfl),Result.andThen_ok,run_neq_struct,show (10000:Nat)=9996+4 from rfl,equalIn_cm 9996 ha hb]
 rfl
set_option maxRecDepth 100000 in
theorem part_h_key {H:List Nat} (_hH:H.length=208) (w:World):(part 23 (bysA H) 0).run Tryz.prog w=.ok (.agg (bysA (H.take 32))) w:=by
 have hag:(isAgg 23).run Tryz.prog w=.ok true w:=by unfold isAgg;rw[Sem.run_bind,run_underlying Tryz.underlying23 w];simp
 have hx:=(show (bysA H).extract 0 32=bysA (H.take 32) by rw[bysA_ext];rfl)
 unfold part
 rw[Sem.run_bind,hag]
 simp[hx]
set_option maxRecDepth 100000 in
theorem part_h_beta {H:List Nat} (_hH:H.length=208) (w:World):(part 27 (bysA H) 32).run Tryz.prog w=.ok (.agg (bysA ((H.drop 32).take 160))) w:=by
 have hag:(isAgg 27).run Tryz.prog w=.ok true w:=by unfold isAgg;rw[Sem.run_bind,run_underlying Tryz.underlying27 w];simp
 have hx:=(show (bysA H).extract 32 192=bysA ((H.drop 32).take 160) by rw[bysA_ext])
 unfold part
 rw[Sem.run_bind,hag]
 simp[hx]
set_option maxRecDepth 100000 in
theorem part_h_tag {H:List Nat} (_hH:H.length=208) (w:World):(part 29 (bysA H) 192).run Tryz.prog w=.ok (.agg (bysA ((H.drop 192).take 16))) w:=by
 have hag:(isAgg 29).run Tryz.prog w=.ok true w:=by unfold isAgg;rw[Sem.run_bind,run_underlying Tryz.underlying29 w];simp
 have hx:=(show (bysA H).extract 192 208=bysA ((H.drop 192).take 16) by rw[bysA_ext])
 unfold part
 rw[Sem.run_bind,hag]
 simp[hx]
theorem hdr_eq {H K:List Nat} (hH:H.length=208) (hK:K.length=208):(decide (H.take 32=K.take 32) && (decide ((H.drop 32).take 160=(K.drop 32).take 160) && decide ((H.drop 192).take 16=(K.drop 192).take 16)))=decide (H=K):=by
 rw[Bool.eq_iff_iff]
 simp only[Bool.and_eq_true,decide_eq_true_eq]
 constructor
 ·rintro⟨h1,h2,h3⟩
  rw[List.take_of_length_le (by simp[hH]),List.take_of_length_le (by simp[hK])] at h3
  have e:∀ l:List Nat,l.drop 32=(l.drop 32).take 160++l.drop 192:=fun l=>by
   rw[show l.drop 192=(l.drop 32).drop 160 by rw[List.drop_drop],List.take_append_drop]
  rw[←List.take_append_drop 32 H,←List.take_append_drop 32 K,h1,e H,e K,h2,h3]
 ·rintro rfl;exact⟨rfl,rfl,rfl⟩
set_option maxRecDepth 100000 in
theorem equalIn_hdr (d:Nat) {H K:List Nat} (hH:H.length=208) (hK:K.length=208) (w:World) :
  (Op.equalIn (d+4) 31 (.agg (bysA H)) (.agg (bysA K))).run Tryz.prog w=.ok (decide (H=K)) w:=by
 rw[run_equalIn_struct w (d+3) 31 (bysA H) (bysA K) (by kernel_rfl) (by kernel_rfl)]
 obtain⟨f0,f1,f2,hf,n0,n1,n2,t0,t1,t2,o0,o1,o2⟩:∃ f0 f1 f2:Field,(Tryz.prog.fieldsOf 31).toList=[f0,f1,f2]∧f0.name ≠ "_"∧f1.name ≠ "_"∧f2.name ≠ "_"∧f0.type=23∧f1.type=27∧f2.type=29∧f0.offset=0∧f1.offset=32∧f2.offset=192 :=
  ⟨_,_,_,rfl,by decide +kernel,by decide +kernel,by decide +kernel,by kernel_rfl,by kernel_rfl,by kernel_rfl,by kernel_rfl,by kernel_rfl,by kernel_rfl⟩
 rw[hf]
 have l1:∀ l:List Nat,l.length=208→(l.take 32).length=32:=fun l h=>by simp[h]
 have l2:∀ l:List Nat,l.length=208→((l.drop 32).take 160).length=160:=fun l h=>by simp[h]
 have l3:∀ l:List Nat,l.length=208→((l.drop 192).take 16).length=16:=fun l h=>by simp[h]
 rw[←hdr_eq hH hK]
 simp only[Op.eqFields,n0,n1,n2,t0,t1,t2,o0,o1,o2,ne_eq,not_false_eq_true,if_true,Sem.run_bind,part_h_key hH,part_h_key hK,Result.andThen_ok]
 rw[equalIn_bytes Tryz.underlying23 d (l1 H hH) (l1 K hK)]
 cases h0:decide (H.take 32=K.take 32)
 ·simp
 ·simp only[Result.andThen_ok,Bool.not_true,Bool.false_eq_true,if_false,Bool.true_and,Sem.run_bind,part_h_beta hH,part_h_beta hK]
  rw[equalIn_bytes Tryz.underlying27 d (l2 H hH) (l2 K hK)]
  cases h1:decide ((H.drop 32).take 160=(K.drop 32).take 160)
  ·simp
  ·simp only[Result.andThen_ok,Bool.not_true,Bool.false_eq_true,if_false,Bool.true_and,Sem.run_bind,part_h_tag hH,part_h_tag hK]
   rw[equalIn_bytes Tryz.underlying29 d (l3 H hH) (l3 K hK)]
   cases decide ((H.drop 192).take 16=(K.drop 192).take 16)<;>simp
@[go_sem ↓ high] theorem fold_eqHdr (a:Operand→Value) (d:Option Tmp) (op:BinOp) (x y:Operand) (u t:TypeId) (p:String) (af:Array Edge) (g:Option (Nat × Bool)) :
  execOp a ⟨d,.binOp op 31 x y u,t,p,af,g⟩=(do pure (.value (←eqV op 31 x y (a x) (a y)))):=rfl
set_option maxRecDepth 100000 in
@[go_sem] theorem run_eqHdr (x y:Operand) (H K:List Nat) (hH:(bysA H).size=208) (hK:(bysA K).size=208) (w:World) :
  (eqV .eql 31 x y (.agg (bysA H)) (.agg (bysA K))).run Tryz.prog w=.ok (.bool (decide (H=K))) w:=by
 rw[bysA_size] at hH hK
 unfold eqV
 rw[Sem.run_bind,run_eqGuard_agg w .eql 31 x y _ _ (by kernel_rfl),Result.andThen_ok,run_eql_struct,show (10000:Nat)=9996+4 from rfl,equalIn_hdr 9996 hH hK]
 rfl
set_option maxRecDepth 100000 in
theorem part_s_cmd {x:Stp} (h:StpOk x) (w:World):(part 51 (stepA x) 0).run Tryz.prog w=.ok (.agg (cmdA x.c)) w:=by
 have hag:(isAgg 51).run Tryz.prog w=.ok true w:=by unfold isAgg;rw[Sem.run_bind,run_underlying Tryz.underlying51 w];simp
 have hx:=stepA_cmd h
 unfold part
 rw[Sem.run_bind,hag]
 simp[hx]
set_option maxRecDepth 100000 in
theorem part_s_hdr {x:Stp} (h:StpOk x) (w:World):(part 31 (stepA x) 11).run Tryz.prog w=.ok (.agg (bysA x.nx)) w:=by
 have hag:(isAgg 31).run Tryz.prog w=.ok true w:=by unfold isAgg;rw[Sem.run_bind,run_underlying Tryz.underlying31 w];simp
 have hx:=stepA_next h
 unfold part
 rw[Sem.run_bind,hag]
 simp[hx]
set_option maxRecDepth 100000 in
theorem part_s_key {x:Stp} (h:StpOk x) (w:World):(part 23 (stepA x) 219).run Tryz.prog w=.ok (.agg (bysA x.s)) w:=by
 have hag:(isAgg 23).run Tryz.prog w=.ok true w:=by unfold isAgg;rw[Sem.run_bind,run_underlying Tryz.underlying23 w];simp
 have hx:=stepA_sec h
 unfold part
 rw[Sem.run_bind,hag]
 simp[hx]
set_option maxRecDepth 100000 in
theorem part_s_tag {x:Stp} (h:StpOk x) (w:World):(part 29 (stepA x) 251).run Tryz.prog w=.ok (.agg (bysA x.t)) w:=by
 have hag:(isAgg 29).run Tryz.prog w=.ok true w:=by unfold isAgg;rw[Sem.run_bind,run_underlying Tryz.underlying29 w];simp
 have hx:=stepA_tag h
 unfold part
 rw[Sem.run_bind,hag]
 simp[hx]
def beqS (a b:Stp):Bool:=beqC a.c b.c && (decide (a.nx=b.nx) && (decide (a.s=b.s) && decide (a.t=b.t)))
set_option maxRecDepth 100000 in
theorem equalIn_step (d:Nat) {a b:Stp} (ha:StpOk a) (hb:StpOk b) (w:World) :
  (Op.equalIn (d+5) 53 (.agg (stepA a)) (.agg (stepA b))).run Tryz.prog w=.ok (beqS a b) w:=by
 rw[run_equalIn_struct w (d+4) 53 (stepA a) (stepA b) (by kernel_rfl) (by kernel_rfl)]
 obtain⟨f0,f1,f2,f3,hf,n0,n1,n2,n3,t0,t1,t2,t3,o0,o1,o2,o3⟩:∃ f0 f1 f2 f3:Field,(Tryz.prog.fieldsOf 53).toList=[f0,f1,f2,f3]∧f0.name ≠ "_"∧f1.name ≠ "_"∧f2.name ≠ "_"∧f3.name ≠ "_"∧f0.type=51∧f1.type=31∧f2.type=23∧f3.type=29∧f0.offset=0∧f1.offset=11∧f2.offset=219∧f3.offset=251 :=
  ⟨_,_,_,_,rfl,by decide +kernel,by decide +kernel,by decide +kernel,by decide +kernel,by kernel_rfl,by kernel_rfl,by kernel_rfl,by kernel_rfl,by kernel_rfl,by kernel_rfl,by kernel_rfl,by kernel_rfl⟩
 rw[hf]
 simp only[Op.eqFields,n0,n1,n2,n3,t0,t1,t2,t3,o0,o1,o2,o3,ne_eq,not_false_eq_true,if_true,Sem.run_bind,part_s_cmd ha,part_s_cmd hb,Result.andThen_ok]
 rw[equalIn_cm d ha.i hb.i]
 unfold beqS
 cases h0:beqC a.c b.c
 ·simp
 ·simp only[Result.andThen_ok,Bool.not_true,Bool.false_eq_true,if_false,Bool.true_and,Sem.run_bind,part_s_hdr ha,part_s_hdr hb]
  rw[equalIn_hdr d ha.n hb.n]
  cases h1:decide (a.nx=b.nx)
  ·simp
  ·simp only[Result.andThen_ok,Bool.not_true,Bool.false_eq_true,if_false,Bool.true_and,Sem.run_bind,part_s_key ha,part_s_key hb]
   rw[equalIn_bytes Tryz.underlying23 (d+1) ha.s hb.s]
   cases h2:decide (a.s=b.s)
   ·simp
   ·simp only[Result.andThen_ok,Bool.not_true,Bool.false_eq_true,if_false,Bool.true_and,Sem.run_bind,part_s_tag ha,part_s_tag hb]
    rw[equalIn_bytes Tryz.underlying29 (d+1) ha.t hb.t]
    cases decide (a.t=b.t)<;>simp
@[go_sem ↓ high] theorem fold_eqStep (a:Operand→Value) (d:Option Tmp) (op:BinOp) (x y:Operand) (u t:TypeId) (p:String) (af:Array Edge) (g:Option (Nat × Bool)) :
  execOp a ⟨d,.binOp op 53 x y u,t,p,af,g⟩=(do pure (.value (←eqV op 53 x y (a x) (a y)))):=rfl
set_option maxRecDepth 100000 in
@[go_sem] theorem run_eqStep (x y:Operand) (a b:Stp) (ha:StpOk a) (hb:StpOk b) (w:World) :
  (eqV .eql 53 x y (.agg (stepA a)) (.agg (stepA b))).run Tryz.prog w=.ok (.bool (beqS a b)) w:=by
 unfold eqV
 rw[Sem.run_bind,run_eqGuard_agg w .eql 53 x y _ _ (by kernel_rfl),Result.andThen_ok,run_eql_struct,show (10000:Nat)=9995+5 from rfl,equalIn_step 9995 ha hb]
 rfl
set_option maxRecDepth 100000 in
@[go_sem] theorem run_neStep (x y:Operand) (a b:Stp) (ha:StpOk a) (hb:StpOk b) (w:World) :
  (eqV .neq 53 x y (.agg (stepA a)) (.agg (stepA b))).run Tryz.prog w=.ok (.bool (!beqS a b)) w:=by
 unfold eqV
 rw[Sem.run_bind,run_eqGuard_agg w .neq 53 x y _ _ (by kernel_rfl),Result.andThen_ok,run_neq_struct,show (10000:Nat)=9995+5 from rfl,equalIn_step 9995 ha hb]
 rfl
end Go.Proofs.YtddmjddlbhdcpaaGreatDoor

namespace Go.Proofs.YtddmjddlbhdcpaaGreatDoor
open Go.RowKit Go.Hold Go.Sh Go.Ch Go.Cm Go.Hd
@[go_sem] theorem rhA_set {a g:List Nat} (v u:Value) (ha:a.length=32):(rhA a v g).setIfInBounds 32 u=rhA a u g:=by
 have hs:(bysA a).size=32:=by rw[bysA_size,ha]
 apply Array.toList_inj.1
 unfold rhA
 rw[Array.append_assoc,Array.append_assoc,Array.toList_setIfInBounds,Array.toList_append,Array.toList_append,Array.toList_append,Array.toList_append,List.set_append_right (h:=by rw[Array.length_toList,hs];exact Nat.le_refl _),Array.length_toList,hs]
 rfl
@[go_sem] theorem rhA_one (a g:List Nat) (p:Option Addr) (n c:Nat):oneAll (rhA a (.slice p n c) g)=true:=by
 have h1:=bysA_one a
 have h2:=bysA_one g
 unfold oneAll rhA at *
 rw[Array.all_append,Array.all_append,h1,h2]
 simp[Value.oneCell']
@[go_sem] theorem rhA_get {a g:List Nat} (v:Value) (ha:a.length=32) (h:32<(rhA a v g).size):(rhA a v g)[32]=v:=by
 have:=rhA_be (g:=g) v ha
 rw[Array.getElem?_eq_getElem h] at this
 exact Option.some.inj this
@[go_sem] theorem run_mkS160 (w:World):(mkS (.int .i64 160) (.int .i64 160)).run Tryz.prog w=.ok (.slice (some ⟨w.heap.size,0,none⟩) 160 160) (w.alloc (.cells (bysA (zs 160)) 5)):=run_mkS w 160 (by decide)
theorem OwnB.grow {w w':World} {B:Nat} {v:Value} {l:List Nat} (h:OwnB w B v l) (hb:Below w.heap.size w w'):OwnB w' B v l:=h.below hb
theorem rhdr_zero:(rhA (zs 32) (.slice none 0 0) (zs 16)).size=49:=rhA_size _ (zs_length 32) (zs_length 16)
set_option maxHeartbeats 1000000 in
set_option maxRecDepth 100000 in
theorem ours10_c (H:List Nat) (hH:H.length=208) (w:World) :
  Calls Tryz.prog 15 #[.agg (bysA H)] w fun e w'=>∃ v,e=.returned v∧IsRH w' v (H.take 32) ((H.drop 32).take 160) (H.drop 192)∧Below w.heap.size w w':=by
 have hHs:=bysA_size' hH
 have ha:(H.take 32).length=32:=by simp[hH]
 have hb:((H.drop 32).take 160).length=160:=by simp[hH]
 have hg:(H.drop 192).length=16:=by simp[hH]
 have hG:(H.drop 192).take 16=H.drop 192:=List.take_of_length_le (by rw[hg];exact Nat.le_refl _)
 have hrz:=rhdr_zero
 have has:=bysA_size' ha
 have hgs:=bysA_size' hg
 go_enter Tryz.func15,Tryz.ntmps15
 go_wp2_with fail
 generalize hW:World.alloc _ _=W0
 have R0x0:=Lib.hid (show RowAt W0 (w.heap.size) (bysA H) by rw[←hW];clear hW;exact⟨by go_simp,by first | (go_simp;done) | (go_simp;rfl),by go_simp⟩)
 have R0x1:=Lib.hid (show RowAt W0 (w.heap.size+1) (rhA (zs 32) (.slice none 0 0) (zs 16)) by rw[←hW];clear hW;exact⟨by go_simp,by first | (go_simp;done) | (go_simp;rfl),by go_simp⟩)
 have B0:=Lib.hid (show Below w.heap.size w W0 by rw[←hW];repeat (first | apply below_alloc | exact Below.refl _ _))
 clear hW
 have l_y:w.heap.size≤w.heap.size:=by omega
 have l_r:w.heap.size≤w.heap.size+1:=by omega
 have n_y_r:w.heap.size≠w.heap.size+1:=by omega
 generalize w.heap.size+1=r at *
 obtain⟨y,ey⟩:∃ z,z=w.heap.size:=⟨_,rfl⟩
 rw[←ey] at R0x0 n_y_r ⊢
 have l_y:w.heap.size≤y:=by rw[ey];exact Nat.le_refl _
 clear ey
 have hbd:=fun W=>run_bldRHdr (some ⟨y,32,none⟩) 160 160 ha hg W
 have hvs:=rhA_size (.slice (some ⟨y,32,none⟩) 160 160) ha hg
 obtain⟨R0x0a,R0x0b,R0x0c⟩:=R0x0.out
 obtain⟨R0x1a,R0x1b,R0x1c⟩:=R0x1.out
 refine wp_region_pick W0 [0,1,2,3,4,5,6] [false,false,false,false,false,false,false] [] [] 7 (by kernel_rfl) rfl (by kernel_rfl) (by intro c a d v w h;cases d<;>exact h) (by first | exact(Below.refl _ _).drew | exact Below.refl _ _) ?_
 simp only[pick,List.getElem?_cons_succ,List.getElem?_cons_zero,List.drop_succ_cons,List.drop_zero]
 refine wpHoldF_val (wanted_none rfl) (by intro K o d hK;go_simp;exact hK _ (Below.refl _ _)) ?_
 refine wpHoldF_val (wanted_none rfl) (by intro K o d hK;go_simp;exact hK _ (Below.refl _ _)) ?_
 refine wpHoldF_val (wanted_none rfl) (by intro K o d hK;go_simp;exact hK _ (Below.refl _ _)) ?_
 refine wpHoldF_val (wanted_none rfl) (by intro K o d hK;go_simp;exact hK _ (Below.refl _ _)) ?_
 refine wpHoldF_val (wanted_none rfl) (by intro K o d hK;go_simp;exact hK _ (Below.refl _ _)) ?_
 refine wpHoldF_val (wanted_none rfl) (by intro K o d hK;go_simp;exact hK _ (Below.refl _ _)) ?_
 refine wpHoldF_val (wanted_none rfl) (by intro K o d hK;go_simp;exact hK _ (Below.refl _ _)) ?_
 refine wpHoldF_nil ?_
 intro W1 hb1 hblk
 clear hblk
 clear R0x0a R0x0b R0x0c R0x1a R0x1b R0x1c
 have R1x0:=Lib.hid (R0x0.out.grow hb1)
 have R1x1:=Lib.hid (R0x1.out.grow hb1)
 have B1:=Lib.hid (B0.out.trans (hb1.mono B0.out.size))
 clear hb1 B0 R0x0 R0x1
 obtain⟨R1x0a,R1x0b,R1x0c⟩:=R1x0.out
 obtain⟨R1x1a,R1x1b,R1x1c⟩:=R1x1.out
 go_wp2_with fail
 have R2x0:=Lib.hid (R1x0.out.other n_y_r (rhA (H.take 32) (.slice (some ⟨y,32,none⟩) 160 160) (H.drop 192)))
 have R2x1:=Lib.hid (R1x1.out.set (rhA (H.take 32) (.slice (some ⟨y,32,none⟩) 160 160) (H.drop 192)))
 have B2:=Lib.hid (below_setRow B1.out l_r (rhA (H.take 32) (.slice (some ⟨y,32,none⟩) 160 160) (H.drop 192)))
 clear B1 R1x0 R1x1 R1x0a R1x0b R1x0c R1x1a R1x1b R1x1c
 generalize W1.setRow r (rhA (H.take 32) (.slice (some ⟨y,32,none⟩) 160 160) (H.drop 192))=W2 at *
 obtain⟨R2x0a,R2x0b,R2x0c⟩:=R2x0.out
 obtain⟨R2x1a,R2x1b,R2x1c⟩:=R2x1.out
 have hy:=(bytes_row R2x0.out).mid 32 160
 rw[Nat.zero_add] at hy
 refine bodyPost_ret (v:=.agg (rhA (H.take 32) (.slice (some ⟨y,32,none⟩) 160 160) (H.drop 192))) (results_rhdr Tryz.results15 hvs _ _ _ rfl (by go_simp) (by go_simp)) rfl ?_
 exact⟨_,rfl,⟨some ⟨y,32,none⟩,160,by rw[hb],Bs0.some hy,fun h=>by cases h⟩,B2.out⟩
set_option maxHeartbeats 1000000 in
set_option maxRecDepth 100000 in
theorem none10_some (a b g:List Nat) (p:Option Addr) (n c:Nat) (ha:a.length=32) (hg:g.length=16) (hn:n=b.length) (h0:n≠0) (hpc:p=none→c=0) (w:World) (hB:Bs0 w p b) :
  Calls Tryz.prog 16 #[.agg (rhA a (.slice p n c) g)] w fun e w'=>∃ v,e=.returned v∧IsRH w' v a b g∧Below w.heap.size w w':=by
 have hxs:=rhA_size (.slice p n c) ha hg
 have hrz:=rhdr_zero
 have h0':¬(n:Int)=0:=by omega
 have Hn:=Lib.hid hn
 clear hn
 have BB:=fun (x y:Array Value) (t u:TypeId)=>below_alloc (below_alloc (Below.refl w.heap.size w) (.cells x t)) (.cells y u)
 go_enter Tryz.func16,Tryz.ntmps16
 go_wp2_with fail
 refine bodyPost_ret (v:=.agg (rhA a (.slice p n c) g)) (results_rhdr Tryz.results16 hxs _ _ (w.heap.size+1) rfl ?_ ?_) rfl ?_
 ·go_simp
 ·go_simp
 ·exact⟨_,rfl,⟨p,c,by rw[Hn.out],hB.grow (BB _ _ _ _),hpc⟩,BB _ _ _ _⟩
set_option maxHeartbeats 1000000 in
set_option maxRecDepth 100000 in
theorem none10_nil (a g:List Nat) (ha:a.length=32) (hg:g.length=16) (w:World) :
  Calls Tryz.prog 16 #[.agg (rhA a (.slice none 0 0) g)] w fun e w'=>∃ v,e=.returned v∧IsRH w' v a (zs 160) g∧Below w.heap.size w w':=by
 have hxs:=fun v=>rhA_size v ha hg
 have hrz:=rhdr_zero
 have BB:=fun (x y:Array Value) (t u:TypeId)=>below_alloc (below_alloc (Below.refl w.heap.size w) (.cells x t)) (.cells y u)
 have RR:=fun (x y:Array Value) (t u:TypeId)=>show BytesAt (((w.alloc (.cells x t)).alloc (.cells y u)).alloc (.cells (bysA (zs 160)) 5)) (w.heap.size+1+1) 0 (zs 160) from by
  have:=bytes_row (RowAt.of (block_new ((w.alloc (.cells x t)).alloc (.cells y u)) (.cells (bysA (zs 160)) 5)))
  rwa [show ((w.alloc (.cells x t)).alloc (.cells y u)).heap.size=w.heap.size+1+1 by go_simp] at this
 go_enter Tryz.func16,Tryz.ntmps16
 go_wp2_with fail
 refine bodyPost_ret (v:=.agg (rhA a (.slice (some ⟨w.heap.size+1+1,0,none⟩) 160 160) g)) (results_rhdr Tryz.results16 (hxs _) _ _ (w.heap.size+1) rfl ?_ ?_) rfl ?_
 ·go_simp
 ·go_simp
 ·exact⟨_,rfl,⟨some ⟨w.heap.size+1+1,0,none⟩,160,by rw[zs_length],Bs0.some (RR _ _ _ _),fun h=>by cases h⟩,below_alloc (BB _ _ _ _) _⟩
set_option maxHeartbeats 1000000 in
set_option maxRecDepth 100000 in
theorem same10_c (a b g:List Nat) (p q:Option Addr) (n c d:Nat) (ha:a.length=32) (hg:g.length=16) (hn:n=b.length) (w:World) (hB:Bs0 w p b) (hC:Bs0 w q b) :
  Calls Tryz.prog 14 #[.agg (rhA a (.slice p n c) g),.agg (rhA a (.slice q n d) g)] w fun e w'=>e=.returned (.bool true)∧Below w.heap.size w w':=by
 have hxs:=rhA_size (.slice p n c) ha hg
 have hys:=rhA_size (.slice q n d) ha hg
 have has:=bysA_size' ha
 have hgs:=bysA_size' hg
 have HB:=Lib.hid (fun (W:World) (h:Below w.heap.size w W)=>hB.grow h)
 have HC:=Lib.hid (fun (W:World) (h:Below w.heap.size w W)=>hC.grow h)
 have Hn:=Lib.hid hn
 clear hB hC hn
 go_enter Tryz.func14,Tryz.ntmps14
 go_wp2_with fail
 generalize hW:World.alloc _ _=W0
 have R0x0:=Lib.hid (show RowAt W0 (w.heap.size) (rhA a (.slice p n c) g) by rw[←hW];clear hW;exact⟨by go_simp,by first | (go_simp;done) | (go_simp;rfl),by go_simp⟩)
 have R0x1:=Lib.hid (show RowAt W0 (w.heap.size+1) (rhA a (.slice q n d) g) by rw[←hW];clear hW;exact⟨by go_simp,by first | (go_simp;done) | (go_simp;rfl),by go_simp⟩)
 have B0:=Lib.hid (show Below w.heap.size w W0 by rw[←hW];repeat (first | apply below_alloc | exact Below.refl _ _))
 clear hW
 have l_x:w.heap.size≤w.heap.size:=by omega
 have l_y:w.heap.size≤w.heap.size+1:=by omega
 have n_x_y:w.heap.size≠w.heap.size+1:=by omega
 generalize w.heap.size+1=y at *
 obtain⟨x,ex⟩:∃ z,z=w.heap.size:=⟨_,rfl⟩
 rw[←ex] at R0x0 n_x_y ⊢
 have l_x:w.heap.size≤x:=by rw[ex];exact Nat.le_refl _
 clear ex
 obtain⟨R0x0a,R0x0b,R0x0c⟩:=R0x0.out
 obtain⟨R0x1a,R0x1b,R0x1c⟩:=R0x1.out
 have hcy:=R0x1.out.cellAt 32 (rhA_be _ ha)
 have hv1:=run_cvBS (c:=c) (HB.out _ B0.out) Hn.out
 have hv2:=run_cvBS (c:=d) (HC.out _ B0.out) Hn.out
 rw[hv1]
 go_wp2_with fail
 go_ret
 exact⟨rfl,B0.out⟩
set_option maxHeartbeats 1000000 in
set_option maxRecDepth 100000 in
theorem rencode10_c (a b g:List Nat) (p:Option Addr) (n c:Nat) (ha:a.length=32) (hg:g.length=16) (hn:n=b.length) (hn1:n≤1000) (hpc:p=none→c=0) (w:World) (hB:Bs0 w p b) :
  Calls Tryz.prog 26 #[.agg (rhA a (.slice p n c) g)] w fun e w'=>∃ v,e=.returned v∧OwnB w' w.heap.size v (a++b++g)∧Below w.heap.size w w':=by
 have hxs:=rhA_size (.slice p n c) ha hg
 have has:=bysA_size' ha
 have hgs:=bysA_size' hg
 have HB:=Lib.hid (fun (W:World) (h:Below w.heap.size w W)=>hB.grow h)
 have HJ:=Lib.hid (fun (W:World) (c2:Nat) (p2:Option Addr) (h1:Bs0 W p b) (h2:Bs0 W p2 a) (h3:p2=none→c2=0)=>rjoin_c c2 c 32 n p2 p a b W ha.symm hn h2 h3 h1 hpc (by omega))
 have Hn:=Lib.hid hn
 have Ha:=Lib.hid ha
 have Hg:=Lib.hid hg
 have Hn1:=Lib.hid hn1
 clear hB hn hn1 hpc
 go_enter Tryz.func26,Tryz.ntmps26
 go_wp2_with fail
 generalize hW:World.alloc _ _=W0
 have R0x0:=Lib.hid (show RowAt W0 (w.heap.size) (rhA a (.slice p n c) g) by rw[←hW];clear hW;exact⟨by go_simp,by first | (go_simp;done) | (go_simp;rfl),by go_simp⟩)
 have B0:=Lib.hid (show Below w.heap.size w W0 by rw[←hW];repeat (first | apply below_alloc | exact Below.refl _ _))
 clear hW
 have l_x:w.heap.size≤w.heap.size:=by omega
 obtain⟨x,ex⟩:∃ z,z=w.heap.size:=⟨_,rfl⟩
 rw[←ex] at R0x0  ⊢
 have l_x:w.heap.size≤x:=by rw[ex];exact Nat.le_refl _
 clear ex
 refine wp_region_grows W0 6 (fun w w'=>Below w.heap.size w w') (listR [fixV (.pointer (some ⟨x,0,none⟩)),fixV (.agg (bysA a)),ownV W0.heap.size (a),fixV (.pointer (some ⟨x,32,none⟩)),fixV (.slice p n c),ownV W0.heap.size (a++b)]) [6] [0,1,2,3,4,5] [some 4,some 5,some 6,some 7,some 8,some 9] (by kernel_rfl) (by kernel_rfl) (by kernel_rfl) (by kernel_rfl) (by first | exact(Below.refl _ _).drew | exact Below.refl _ _) (fun w w' h h'=>h.trans (h'.mono h.size)) (listR_mono ⟨stays_fix _,stays_fix _,stays_own _ _,stays_fix _,stays_fix _,stays_own _ _,trivial⟩) ?_
 intro vals
 simp only[List.take_succ_cons,List.take_zero]
 refine⟨(grow_val [] [] (by kernel_rfl) rfl (fun K w hb hdq hK=>?_)),?_⟩
 ·simp only[putZ]
  refine⟨wanted_none rfl,?_⟩
  go_simp
  exact hK _ _ _ (Below.refl _ _) rfl
 refine⟨(grow_val [0] [some 4] (by kernel_rfl) (by kernel_rfl) (fun K w hb hdq hK=>?_)),?_⟩
 ·have d0:vals 0=.pointer (some ⟨x,0,none⟩):=hdq 0 (by simp)
  obtain⟨x1,x2,x3⟩:=R0x0.out.grow hb
  have hcx:=(R0x0.out.grow hb).cellAt 32 (rhA_be _ ha)
  simp only[List.map_cons,List.map_nil,putZ,d0]
  refine⟨wanted_none rfl,?_⟩
  go_simp
  exact hK _ _ _ (Below.refl _ _) rfl
 refine⟨(grow_call [1] [some 5] (by kernel_rfl) (by kernel_rfl) (fun K w hb hdq hK=>?_)),?_⟩
 ·have d1:vals 1=.agg (bysA a):=hdq 1 (by simp)
  simp only[List.map_cons,List.map_nil,putZ,d1]
  refine⟨wanted_none rfl,?_⟩
  go_simp
  refine(rbytes_c a Ha.out w).mono ?_
  rintro e w' ⟨u,rfl,ho,hb'⟩
  exact⟨_,rfl,hK _ _ hb' (ho.base hb.size)⟩
 refine⟨(grow_val [] [] (by kernel_rfl) rfl (fun K w hb hdq hK=>?_)),?_⟩
 ·simp only[putZ]
  refine⟨wanted_none rfl,?_⟩
  go_simp
  exact hK _ _ _ (Below.refl _ _) rfl
 refine⟨(grow_val [3] [some 7] (by kernel_rfl) (by kernel_rfl) (fun K w hb hdq hK=>?_)),?_⟩
 ·have d3:vals 3=.pointer (some ⟨x,32,none⟩):=hdq 3 (by simp)
  obtain⟨x1,x2,x3⟩:=R0x0.out.grow hb
  have hcx:=(R0x0.out.grow hb).cellAt 32 (rhA_be _ ha)
  simp only[List.map_cons,List.map_nil,putZ,d3]
  refine⟨wanted_none rfl,?_⟩
  go_simp
  exact hK _ _ _ (Below.refl _ _) rfl
 refine⟨(grow_call [2,4] [some 6,some 8] (by kernel_rfl) (by kernel_rfl) (fun K w hb hdq hK=>?_)),?_⟩
 ·obtain⟨p2,c2,d2,y2,q2,z2⟩:=OwnB.bs (show OwnB w W0.heap.size (vals 2) (a) from hdq 2 (by simp))
  have d4:vals 4=.slice p n c:=hdq 4 (by simp)
  rw[Ha.out] at d2
  simp only[List.map_cons,List.map_nil,putZ,d2,d4]
  refine⟨wanted_none rfl,?_⟩
  go_simp
  refine(HJ.out w c2 p2 (HB.out w (B0.out.trans (hb.mono B0.out.size))) y2 z2).mono ?_
  rintro e w' ⟨u,rfl,ho,hb'⟩
  exact⟨_,rfl,hK _ _ hb' (ho.base hb.size)⟩
 have Hsz:=B0.out.size
 intro W1 hb1 hR1
 obtain ho5:OwnB W1 W0.heap.size (vals 5) (a++b):=hR1 5 (by simp)
 clear hR1
 simp only[List.map_cons,List.map_nil,putZ,pick,List.getElem?_cons_succ,List.getElem?_cons_zero]
 generalize vals 0=q1_0
 generalize vals 1=q1_1
 generalize vals 2=q1_2
 generalize vals 3=q1_3
 generalize vals 4=q1_4
 have R1x0:=Lib.hid (R0x0.out.grow hb1)
 have B1:=Lib.hid (B0.out.trans (hb1.mono B0.out.size))
 clear hb1 B0 R0x0
 generalize vals 5=v5 at *
 clear vals
 have O1:=Lib.hid (ho5.base Hsz)
 clear ho5 Hsz
 obtain⟨R1x0a,R1x0b,R1x0c⟩:=R1x0.out
 go_wp2_with fail
 refine(rtagBytes_c g Hg.out _).mono ?_
 rintro e W2 ⟨v6,rfl,ho6,hb2⟩
 clear R1x0a R1x0b R1x0c
 have O2x0:=Lib.hid (O1.out.grow hb2)
 clear O1
 have R2x0:=Lib.hid (R1x0.out.grow hb2)
 have B2:=Lib.hid (B1.out.trans (hb2.mono B1.out.size))
 clear hb2 B1 R1x0
 obtain⟨p6,c6,rfl,hs6,hx6,hp6⟩:=ho6.bs
 clear ho6 hx6
 rw[Hg.out]
 obtain⟨v7,W7,hr7,ho7,hg7⟩:=app_own (cap:=c6) O2x0.out hs6 Hg.out.symm hp6 B2.out.size (by rw[List.length_append,Ha.out,Hg.out,←Hn.out];have:=Hn1.out;omega)
 have B7:=Lib.hid (own_below B2.out O2x0.out B2.out.size hg7)
 have O7:=Lib.hid ho7
 clear ho7 hg7 hs6 hp6
 go_wp2_with (at_builtin;refine Lib.wpList_append_run _ rfl _ _ _ _ rfl _ _ rfl rfl _ _ hr7 ?_)
 go_wp2_with fail
 go_ret
 exact⟨_,rfl,O7.out,B7.out⟩
end Go.Proofs.YtddmjddlbhdcpaaGreatDoor

namespace Go.Proofs.YtddmjddlbhdcpaaGreatDoor
open Go.RowKit Go.Hold Go.Sh Go.Ch Go.Cm
theorem copy_mid {W:World} {g u c2 cap d s k:Nat} {p:Option Addr} {r l:List Nat} (h:RowAt W g (bysA r)) (hd:u+d≤r.length) (hs:s=l.length) (hk:k=min l.length d) (hB:Bs0 W p l) :
  (Builtin.copy_ #[38,38] 3 #[.slice (some ⟨g,u,none⟩) d c2,.slice p s cap]).run Tryz.prog W=.ok (.int .i64 (k:Int)) (W.setRow g (bysA (r.take u++l.take k++r.drop (u+k)))):=by
 subst hs
 rcases hB with rfl | ⟨b,o,rfl,hB⟩
 ·have hk0:k=0:=by simpa using hk
  subst hk0
  rw[List.take_zero,List.append_nil,Nat.add_zero,List.take_append_drop,setRow_self h]
  exact copy_none W _ _ _ _ _
 ·have hl:(bys (l.take k)).length=k:=by rw[bys_length,List.length_take];omega
  have hi:(Tryz.prog.info? 5).map (·.size)=some 1:=by kernel_rfl
  have:=run_copy_cells (P:=Tryz.prog) W 38 38 3 5 g u d c2 ⟨b,o,none⟩ l.length cap (bys (l.take k)) Tryz.underlying38 hi (by rw[hl,hk])
   (fun j v hv=>by
    have hj:j<k:=by have:=(List.getElem?_eq_some_iff.1 hv).1;omega
    rw[Addr.add_mid,hB.2 j (by omega),←hv]
    simp only[bys,List.getElem?_map,List.getElem?_take,if_pos hj,List.getD]
    rw[List.getElem?_eq_getElem (by omega)];rfl)
   (fun j hj=>by rw[h.cellAt (u+j) (Array.getElem?_eq_getElem (by rw[bysA_size];omega))];rfl)
   (fun j _=>h.frozenAt _) (bys_one _)
  rw[this,hl,setCells_row _ _ h,setL_at _ _ _ (by rw[List.length_take];omega)]
  rw[show (l.take k).length=k by rw[List.length_take];omega]
  rfl
set_option maxHeartbeats 1000000 in
set_option maxRecDepth 100000 in
theorem hdec_bad (p:Option Addr) (n c:Nat) (hn:n≠208) (w:World) :
  Calls Tryz.prog 21 #[.slice p n c] w fun e w'=>e=.returned (.tuple #[.agg (bysA (zs 208)),.int .i64 5])∧Below w.heap.size w w':=by
 have h2:((n:Int) != 208)=true:=by simp;omega
 have hz208:=bysA_size' (zs_length 208)
 clear hn
 have BB:=fun (x:Array Value) (t:TypeId)=>below_alloc (Below.refl w.heap.size w) (.cells x t)
 go_enter Tryz.func21,Tryz.ntmps21
 go_wp2_with fail
 refine bodyPost_ret (v:=.tuple #[.agg (bysA (zs 208)),.int .i64 5]) (results_hdr_slot Tryz.results21 hz208 _ _ w.heap.size rfl ?_ ?_ rfl) rfl ?_
 ·go_simp
 ·go_simp
 ·exact⟨rfl,BB _ _⟩
theorem BytesAt.drop {w:World} {b o:Nat} {l:List Nat} (h:BytesAt w b o l) (n:Nat):BytesAt w b (o+n) (l.drop n):=by
 refine⟨h.1,fun i hi=>?_⟩
 rw[List.length_drop] at hi
 rw[Nat.add_assoc,h.2 (n+i) (by omega)]
 simp[List.getD,List.getElem?_drop]
set_option maxHeartbeats 1000000 in
set_option maxRecDepth 100000 in
theorem hdec_good (l:List Nat) (g o c:Nat) (hl:l.length=208) (hc:208≤c) (w:World) (hB:BytesAt w g o l) :
  Calls Tryz.prog 21 #[.slice (some ⟨g,o,none⟩) 208 c] w fun e w'=>e=.returned (.tuple #[.agg (bysA l),.int .i64 0])∧Below w.heap.size w w':=by
 have hls:=bysA_size' hl
 have hz208:=bysA_size' (zs_length 208)
 have Hl:=Lib.hid hl
 have HB:=Lib.hid (fun (W:World) (h:Below w.heap.size w W)=>show BytesAt W g o l from hB.grow h)
 have hs1:∀ W,(slB (.slice (some ⟨g,o,none⟩) 208 c) (some (.int .i64 32)) none none).run Tryz.prog W=.ok (.slice (some ⟨g,o+32,none⟩) 176 (c-32)) W:=fun W=>by
  have:=slB_lo g o 208 c 32 (by decide) W
  rw[show adv o 32 c=o+32 by unfold adv;rw[if_neg (by omega)]] at this
  exact this
 have hs2:∀ W,(slB (.slice (some ⟨g,o+32,none⟩) 176 (c-32)) (some (.int .i64 160)) none none).run Tryz.prog W=.ok (.slice (some ⟨g,o+32+160,none⟩) 16 (c-32-160)) W:=fun W=>by
  have:=slB_lo g (o+32) 176 (c-32) 160 (by decide) W
  rw[show adv (o+32) 160 (c-32)=o+32+160 by unfold adv;rw[if_neg (by omega)]] at this
  exact this
 obtain⟨V1,e1⟩:∃ V,V=l.take 32++(zs 208).drop 32:=⟨_,rfl⟩
 obtain⟨V2,e2⟩:∃ V,V=V1.take 32++(l.drop 32).take 160++V1.drop (32+160):=⟨_,rfl⟩
 have HV1:=Lib.hid (show (zs 208).take 0++l.take 32++(zs 208).drop (0+32)=V1 by rw[e1,List.take_zero,List.nil_append])
 have HV2:=Lib.hid (show V1.take 32++(l.drop 32).take 160++V1.drop (32+160)=V2 from e2.symm)
 have l1:V1.length=208:=by rw[e1,List.length_append,List.length_take,List.length_drop,hl,zs_length];rfl
 have l2:V2.length=208:=by rw[e2];simp[l1,hl]
 have t1:V1.take 32=l.take 32:=by rw[e1,List.take_append_of_le_length (by simp[hl]),List.take_take];rfl
 have t2:V2.take 192=l.take 192:=by
  rw[e2,t1,List.take_append_of_le_length (by simp[hl]),List.take_of_length_le (by simp[hl])]
  show _=l.take (32+160)
  rw[List.take_add]
 have HV3:=Lib.hid (show V2.take 192++((l.drop 32).drop 160).take 16++V2.drop (192+16)=l by
  rw[t2,List.drop_drop,List.drop_of_length_le (l:=V2) (by rw[l2];decide),List.append_nil,List.take_of_length_le (l:=l.drop (32+160)) (by simp[hl])]
  exact List.take_append_drop 192 l)
 have HV1l:=Lib.hid l1
 have HV2l:=Lib.hid l2
 have hV1:=bysA_size' l1
 have hV2:=bysA_size' l2
 clear e1 e2 t1 t2 l1 l2 hB hl
 go_enter Tryz.func21,Tryz.ntmps21
 go_wp2_with fail
 generalize hW:World.alloc _ _=W0
 have R0x0:=Lib.hid (show RowAt W0 (w.heap.size) (bysA (zs 208)) by rw[←hW];clear hW;exact⟨by go_simp,by first | (go_simp;done) | (go_simp;rfl),by go_simp⟩)
 have R0x1:=Lib.hid (show RowAt W0 (w.heap.size+1) (bysA (zs 208)) by rw[←hW];clear hW;exact⟨by go_simp,by first | (go_simp;done) | (go_simp;rfl),by go_simp⟩)
 have B0:=Lib.hid (show Below w.heap.size w W0 by rw[←hW];repeat (first | apply below_alloc | exact Below.refl _ _))
 clear hW
 have hzs208:=bysA_size' (zs_length 208)
 have l_r:w.heap.size≤w.heap.size:=by omega
 have l_v:w.heap.size≤w.heap.size+1:=by omega
 have n_r_v:w.heap.size≠w.heap.size+1:=by omega
 generalize w.heap.size+1=v at *
 obtain⟨r,er⟩:∃ z,z=w.heap.size:=⟨_,rfl⟩
 rw[←er] at R0x0 n_r_v ⊢
 have l_r:w.heap.size≤r:=by rw[er];exact Nat.le_refl _
 clear er
 have hcp:=copy_mid (u:=0) (d:=32) (c2:=32) (cap:=c) (s:=208) (k:=32) R0x1.out (by rw[zs_length];decide) Hl.out.symm (by rw[Hl.out];rfl) (Bs0.some (HB.out _ B0.out))
 rw[HV1.out] at hcp
 rw[hcp]
 clear hcp
 have R1x0:=Lib.hid (R0x0.out.other n_r_v (bysA V1))
 have R1x1:=Lib.hid (R0x1.out.set (bysA V1))
 have B1:=Lib.hid (below_setRow B0.out l_v (bysA V1))
 clear B0 R0x0 R0x1
 generalize W0.setRow v (bysA V1)=W1 at *
 have hcp:=copy_mid (u:=32) (d:=160) (c2:=160) (cap:=c-32) (s:=176) (k:=160) R1x1.out (by rw[HV1l.out];decide) (by rw[List.length_drop,Hl.out]) (by rw[List.length_drop,Hl.out];rfl) (Bs0.some (BytesAt.drop (HB.out _ B1.out) 32))
 rw[HV2.out] at hcp
 obtain⟨R1x0a,R1x0b,R1x0c⟩:=R1x0.out
 obtain⟨R1x1a,R1x1b,R1x1c⟩:=R1x1.out
 go_wp2_with fail
 have R2x0:=Lib.hid (R1x0.out.other n_r_v (bysA V2))
 have R2x1:=Lib.hid (R1x1.out.set (bysA V2))
 have B2:=Lib.hid (below_setRow B1.out l_v (bysA V2))
 clear B1 R1x0 R1x1 R1x0a R1x0b R1x0c R1x1a R1x1b R1x1c hcp
 generalize W1.setRow v (bysA V2)=W2 at *
 have hcp:=copy_mid (u:=192) (d:=16) (c2:=16) (cap:=c-32-160) (s:=16) (k:=16) R2x1.out (by rw[HV2l.out];decide) (by rw[List.length_drop,List.length_drop,Hl.out]) (by rw[List.length_drop,List.length_drop,Hl.out];rfl) (Bs0.some (BytesAt.drop (BytesAt.drop (HB.out _ B2.out) 32) 160))
 rw[HV3.out] at hcp
 rw[hcp]
 clear hcp
 have R3x0:=Lib.hid (R2x0.out.other n_r_v (bysA l))
 have R3x1:=Lib.hid (R2x1.out.set (bysA l))
 have B3:=Lib.hid (below_setRow B2.out l_v (bysA l))
 clear B2 R2x0 R2x1
 generalize W2.setRow v (bysA l)=W3 at *
 obtain⟨R3x0a,R3x0b,R3x0c⟩:=R3x0.out
 obtain⟨R3x1a,R3x1b,R3x1c⟩:=R3x1.out
 go_wp2_with fail
 refine bodyPost_ret (v:=.tuple #[.agg (bysA l),.int .i64 0]) (results_hdr_slot Tryz.results21 hls _ _ r rfl ?_ ?_ rfl) rfl ?_
 ·go_simp
 ·go_simp
 ·exact⟨rfl,below_setRow B3.out l_r _⟩
end Go.Proofs.YtddmjddlbhdcpaaGreatDoor

namespace Go.Proofs.YtddmjddlbhdcpaaGreatDoor
open Go.RowKit Go.Hold Go.Sh Go.Ch Go.Cm Go.Hd
theorem rhA_setA {a g:List Nat} (v:Value) (k y:Nat) (hk:k<a.length):(rhA a v g).setIfInBounds k (.int .u8 (y:Int))=rhA (a.set k y) v g:=by
 unfold rhA
 rw[←bysA_set]
 apply Array.toList_inj.1
 simp only[Array.toList_append,Array.toList_setIfInBounds,List.append_assoc]
 exact List.set_append_left _ _ (by rw[Array.length_toList,bysA_size];exact hk)
theorem rhA_setG {a g:List Nat} (v:Value) (k y:Nat) (ha:a.length=32):(rhA a v g).setIfInBounds (33+k) (.int .u8 (y:Int))=rhA a v (g.set k y):=by
 unfold rhA
 have hs:((bysA a).toList++[v]).length=33:=by simp[bysA_size,ha]
 rw[←bysA_set]
 apply Array.toList_inj.1
 simp only[Array.toList_append,Array.toList_setIfInBounds]
 rw[List.set_append_right (h:=by rw[hs];omega),hs,Nat.add_sub_cancel_left]
theorem tk_setN (s:List Nat) (n k:Nat) (h:k<n) (hs:n≤s.length):(s.take k++zs (n-k)).set k (s.getD k 0)=s.take (k+1)++zs (n-(k+1)):=by
 have hl:(s.take k).length=k:=by rw[List.length_take];omega
 rw[List.set_append_right (h:=by rw[hl];exact Nat.le_refl _),hl,Nat.sub_self,show n-k=(n-(k+1))+1 by omega]
 have ht:=take_one s k (by omega)
 rw[←ht,List.append_assoc]
 rfl
set_option maxHeartbeats 1000000 in
set_option maxRecDepth 100000 in
theorem rhdec_bad (p:Option Addr) (n c:Nat) (hn:n≠208) (w:World) :
  Calls Tryz.prog 22 #[.slice p n c] w fun e w'=>e=.returned (.tuple #[.agg (rhA (zs 32) (.slice none 0 0) (zs 16)),.int .i64 5])∧Below w.heap.size w w':=by
 have h2:((n:Int) != 208)=true:=by simp;omega
 have hrz:=rhdr_zero
 clear hn
 have BB:=fun (x:Array Value) (t:TypeId)=>below_alloc (Below.refl w.heap.size w) (.cells x t)
 go_enter Tryz.func22,Tryz.ntmps22
 go_wp2_with fail
 refine bodyPost_ret (v:=.tuple #[.agg (rhA (zs 32) (.slice none 0 0) (zs 16)),.int .i64 5]) (results_rhdrS_slot Tryz.results22 hrz _ _ w.heap.size rfl ?_ ?_ rfl) rfl ?_
 ·go_simp
 ·go_simp
 ·exact⟨rfl,BB _ _⟩
set_option maxHeartbeats 1000000 in
set_option maxRecDepth 100000 in
theorem rhdec_good (l:List Nat) (g o c:Nat) (hl:l.length=208) (hc:208≤c) (w:World) (hB:BytesAt w g o l) :
  Calls Tryz.prog 22 #[.slice (some ⟨g,o,none⟩) 208 c] w fun e w'=>e=.returned (.tuple #[.agg (rhA (l.take 32) (.slice (some ⟨g,o+32,none⟩) 160 (c-32)) (l.drop 192)),.int .i64 0])∧Below w.heap.size w w':=by
 have hls:=bysA_size' hl
 have hrz:=rhdr_zero
 have hrs:=rhA_size (.slice (some ⟨g,o+32,none⟩) 160 (c-32)) (zs_length 32) (zs_length 16)
 have Hl:=Lib.hid hl
 have Ha:=Lib.hid (show (l.take 32).length=32 by simp[hl])
 have Hg:=Lib.hid (show (l.drop 192).length=16 by simp[hl])
 have HB:=Lib.hid (fun (W:World) (h:Below w.heap.size w W)=>show BytesAt W g o l from hB.grow h)
 have hs1:∀ W,(slB (.slice (some ⟨g,o,none⟩) 208 c) (some (.int .i64 32)) (some (.int .i64 192)) none).run Tryz.prog W=.ok (.slice (some ⟨g,o+32,none⟩) 160 (c-32)) W:=fun W=>by
  unfold slB
  rw[run_sliceAt_slice _ _ _ _ _ _ elem8,run_slice_lh _ _ _ _ _ elem8 _ _ _ _ (by decide) (by decide) (by omega),size8]
  have e:¬c=32:=by omega
  simp[sliced,Result.andThen,e,Addr.add_mid]
 clear hB hl
 go_enter Tryz.func22,Tryz.ntmps22
 go_wp2_with fail
 generalize hW:World.alloc _ _=W0
 have R0x0:=Lib.hid (show RowAt W0 (w.heap.size) (rhA (zs 32) (.slice none 0 0) (zs 16)) by rw[←hW];clear hW;exact⟨by go_simp,by first | (go_simp;done) | (go_simp;rfl),by go_simp⟩)
 have R0x1:=Lib.hid (show RowAt W0 (w.heap.size+1) (rhA (zs 32) (.slice (some ⟨g,o+32,none⟩) 160 (c-32)) (zs 16)) by rw[←hW];clear hW;exact⟨by go_simp,by first | (go_simp;done) | (go_simp;rfl),by go_simp⟩)
 have B0:=Lib.hid (show Below w.heap.size w W0 by rw[←hW];repeat (first | apply below_alloc | exact Below.refl _ _))
 clear hW
 have l_r:w.heap.size≤w.heap.size:=by omega
 have l_x:w.heap.size≤w.heap.size+1:=by omega
 have n_r_x:w.heap.size≠w.heap.size+1:=by omega
 generalize w.heap.size+1=x at *
 obtain⟨r,er⟩:∃ z,z=w.heap.size:=⟨_,rfl⟩
 rw[←er] at R0x0 n_r_x ⊢
 have l_r:w.heap.size≤r:=by rw[er];exact Nat.le_refl _
 clear er
 go_loopw [5] (fun i wr=>∃ k:Nat,k≤32∧i=.int .i64 k∧RowAt wr r (rhA (zs 32) (.slice none 0 0) (zs 16))∧RowAt wr x (rhA (l.take k++zs (32-k)) (.slice (some ⟨g,o+32,none⟩) 160 (c-32)) (zs 16))∧Below w.heap.size w wr) (fun i _=>32-(intOf i).toNat)
 case atStart=>exact⟨0,by decide,rfl,R0x0.out,R0x1.out,B0.out⟩
 case round =>
  obtain⟨k,hk,rfl,hr,hx,hbel⟩:=hrel
  by_cases hkn:k<32
  ·have hk0:(0:Int)≤(k:Int):=by omega
   have hk1:(k:Int)<32:=by omega
   have hk2:(k:Int)<208:=by omega
   have hc:=((HB.out _ hbel).2 k (by rw[Hl.out];omega))
   have hT:=tk_setN l 32 k hkn (by rw[Hl.out];decide)
   have hxz:=rhA_size (.slice (some ⟨g,o+32,none⟩) 160 (c-32)) (show (l.take k++zs (32-k)).length=32 by rw[List.length_append,List.length_take,zs_length,Hl.out];omega) (zs_length 16)
   generalize l.getD k 0=y at *
   have hTl:k<(l.take k++zs (32-k)).length:=by rw[List.length_append,List.length_take,zs_length,Hl.out];omega
   obtain⟨u,hu⟩:∃ u,(rhA (l.take k++zs (32-k)) (.slice (some ⟨g,o+32,none⟩) 160 (c-32)) (zs 16))[k]?=some u:=⟨_,Array.getElem?_eq_getElem (by rw[hxz];omega)⟩
   have hcx:=hx.cellAt (k) hu
   have hfx:=hx.frozenAt (k)
   have hset:=setCell_row hx (k) (.int .u8 (y:Int))
   rw[rhA_setA _ _ _ hTl,hT] at hset
   have Hset:=Lib.hid hset
   clear hu hset
   have Hx:=Lib.hid hx
   have Hr:=Lib.hid hr
   have Hb:=Lib.hid hbel
   obtain⟨x1,x2,x3⟩:=hx
   clear hr hbel
   go_wp2_with fail
   go_roundw
   case rel=>rw[Hset.out];exact⟨k+1,by omega,by go_num,Hr.out.other n_r_x _,Hx.out.set _,below_setRow Hb.out l_x _⟩
   case measure=>simp[intOf];omega
  ·obtain rfl:k=32:=by omega
   have Hr:=Lib.hid hr
   have Hx:=Lib.hid (show RowAt wr x (rhA (l.take 32) (.slice (some ⟨g,o+32,none⟩) 160 (c-32)) (zs 16)) by rw[show l.take 32++zs (32-32)=l.take 32 from List.append_nil _] at hx;exact hx)
   have Hb:=Lib.hid hbel
   clear hr hx hbel hk hkn
   go_wp2_with fail
   go_loopw [6] (fun i wr=>∃ k:Nat,k≤16∧i=.int .i64 k∧RowAt wr r (rhA (zs 32) (.slice none 0 0) (zs 16))∧RowAt wr x (rhA (l.take 32) (.slice (some ⟨g,o+32,none⟩) 160 (c-32)) ((l.drop 192).take k++zs (16-k)))∧Below w.heap.size w wr) (fun i _=>16-(intOf i).toNat)
   case atStart=>exact⟨0,by decide,rfl,Hr.out,Hx.out,Hb.out⟩
   case round =>
    obtain⟨k,hk,rfl,hr,hx,hbel⟩:=hrel
    by_cases hkn:k<16
    ·have hk0:(0:Int)≤(k:Int):=by omega
     have hk1:(k:Int)<16:=by omega
     have hc:wr.cell? ⟨g,o+(192+k),none⟩=some (.int .u8 ((l.drop 192).getD k 0:Nat)):=by
      have:=(HB.out _ hbel).2 (192+k) (by rw[Hl.out];omega)
      rw[this];simp[List.getD,List.getElem?_drop]
     have hT:=tk_setN (l.drop 192) 16 k hkn (by rw[List.length_drop,Hl.out];decide)
     have hw:wrap64 (192+(k:Int))=((192+k:Nat):Int):=by rw[IntWalk.wrap64_in _ (by omega)];omega
     have hk2:((192+k:Nat):Int)<208:=by omega
     have hk3:(0:Int)≤((192+k:Nat):Int):=by omega
     have hxz:=rhA_size (.slice (some ⟨g,o+32,none⟩) 160 (c-32)) Ha.out (show ((l.drop 192).take k++zs (16-k)).length=16 by rw[List.length_append,List.length_take,List.length_drop,zs_length,Hl.out];omega)
     generalize (l.drop 192).getD k 0=y at *
     obtain⟨u,hu⟩:∃ u,(rhA (l.take 32) (.slice (some ⟨g,o+32,none⟩) 160 (c-32)) ((l.drop 192).take k++zs (16-k)))[33+k]?=some u:=⟨_,Array.getElem?_eq_getElem (by rw[hxz];omega)⟩
     have hcx:=hx.cellAt (33+k) hu
     have hfx:=hx.frozenAt (33+k)
     have hset:=setCell_row hx (33+k) (.int .u8 (y:Int))
     rw[rhA_setG _ _ _ Ha.out,hT] at hset
     have Hset:=Lib.hid hset
     clear hu hset
     have Hx:=Lib.hid hx
     have Hr:=Lib.hid hr
     have Hb:=Lib.hid hbel
     obtain⟨x1,x2,x3⟩:=hx
     clear hr hbel
     go_wp2_with fail
     go_roundw
     case rel=>rw[Hset.out];exact⟨k+1,by omega,by go_num,Hr.out.other n_r_x _,Hx.out.set _,below_setRow Hb.out l_x _⟩
     case measure=>simp[intOf];omega
    ·obtain rfl:k=16:=by omega
     have Hr:=Lib.hid hr
     have Hx:=Lib.hid (show RowAt wr x (rhA (l.take 32) (.slice (some ⟨g,o+32,none⟩) 160 (c-32)) (l.drop 192)) by rw[show (l.drop 192).take 16++zs (16-16)=l.drop 192 by rw[List.take_of_length_le (by rw[List.length_drop,Hl.out];decide)];exact List.append_nil _] at hx;exact hx)
     have Hb:=Lib.hid hbel
     clear hr hx hbel hk hkn
     obtain⟨r1,r2,r3⟩:=Hr.out
     obtain⟨x1,x2,x3⟩:=Hx.out
     have hfs:=rhA_size (.slice (some ⟨g,o+32,none⟩) 160 (c-32)) Ha.out Hg.out
     go_wp2_with fail
     refine bodyPost_ret (v:=.tuple #[.agg (rhA (l.take 32) (.slice (some ⟨g,o+32,none⟩) 160 (c-32)) (l.drop 192)),.int .i64 0]) (results_rhdrS_slot Tryz.results22 hfs _ _ r rfl ?_ ?_ rfl) rfl ?_
     ·go_simp
     ·go_simp
     ·exact⟨rfl,below_setRow Hb.out l_r _⟩
end Go.Proofs.YtddmjddlbhdcpaaGreatDoor

namespace Go.Proofs.YtddmjddlbhdcpaaGreatDoor
open Go.RowKit Go.Hold Go.Sh Go.Ch Go.Cm Go.Hd
def hopsOf (os:List (List Nat)) (cs:List Cmd):List Hop:=(os.zip cs).map fun p=>⟨puB p.1,p.2⟩
def encs (ss:List (List Nat)) (cs:List Cmd):List (List Nat × List Nat):=(ss.zip cs).map fun p=>(p.1,p.2.enc)
theorem hopsOf_cmds:∀ (os:List (List Nat)) (cs:List Cmd),cs.length=os.length→(hopsOf os cs).map (fun h=>h.c.enc)=cs.map Cmd.enc
 | [],[],_=>rfl
 | [],_::_,h=>by simp at h
 | _::_,[],h=>by simp at h
 | o::os,c::cs,h=>by
  show c.enc::(hopsOf os cs).map (fun h=>h.c.enc)=_
  rw[hopsOf_cmds os cs (by simpa using h)];rfl
theorem encs_zip:∀ (ss:List (List Nat)) (cs:List Cmd),ss.zip (cs.map Cmd.enc)=encs ss cs
 | [],_=>by simp[encs]
 | _::_,[]=>by simp[encs]
 | s::ss,c::cs=>by
  show (s,c.enc)::ss.zip (cs.map Cmd.enc)=(s,c.enc)::encs ss cs
  rw[encs_zip ss cs]
theorem built {x:List Nat} {os:List (List Nat)} {cs:List Cmd} (hl:cs.length=os.length) (hr:isRt (hopsOf os cs)=true) :
  ∃ ss,Way (puB x) os ss∧ss.length=os.length∧hbK x (hopsOf os cs)=ss∧hbE x (hopsOf os cs)=0∧hbH x (hopsOf os cs)=puB x++betas [] (encs ss cs)++prf (ss.headD []) (betas [] (encs ss cs)):=by
 obtain⟨ss,h1,h2,h3⟩:=sec_way os cs x [] hl
 rw[←puB_far] at h1 h2
 have hS:hbS x (hopsOf os cs)=some ss:=h1
 have hb:beta0 ss (hopsOf os cs)=betas [] (encs ss cs):=by
  unfold beta0
  rw[hopsOf_cmds os cs hl,encs_zip]
 refine⟨ss,h2,h3,?_,?_,?_⟩
 ·unfold hbK;rw[if_pos hr,hS];rfl
 ·unfold hbE;rw[if_pos hr,hS];rfl
 ·unfold hbH
  rw[if_pos hr,hS]
  simp only
  rw[hb]
structure HdParts (H a b g:List Nat):Prop where
 eq:H=a++b++g
 al:a.length=32
 ab:∀ i,a.getD i 0<256
 bl:b.length=160
 bb:∀ i,b.getD i 0<256
 gl:g.length=16
 gb:∀ i,g.getD i 0<256
theorem HdParts.len {H a b g:List Nat} (h:HdParts H a b g):H.length=208:=by rw[h.eq,List.length_append,List.length_append,h.al,h.bl,h.gl]
theorem HdParts.of {H:List Nat} (hH:H.length=208) (hHb:∀ i,H.getD i 0<256):HdParts H (H.take 32) ((H.drop 32).take 160) (H.drop 192) :=
 ⟨by rw[List.append_assoc,show H.drop 192=(H.drop 32).drop 160 by rw[List.drop_drop],List.take_append_drop,List.take_append_drop],by simp[hH],bts_take hHb _,by simp[hH],bts_take (bts_drop hHb _) _,by simp[hH],bts_drop hHb _⟩
structure On (done os ss:List (List Nat)) (cs:List Cmd) (a:List Nat) (H:List Nat):Prop where
 way:Way a os ss
 len:cs.length=ss.length
 olen:os.length=ss.length
 few:done.length+ss.length≤5
 al:a.length=32
 ab:∀ i,a.getD i 0<256
 ids:∀ d∈cs,d.id.length=8
 idb:∀ d∈cs,∀ i,d.id.getD i 0<256
 may:∀ d∈cs,d.may=true
 hdr:∀ s r,ss=s::r→H=a++betas done (encs ss cs)++prf s (betas done (encs ss cs))
theorem On.parts {done os ss:List (List Nat)} {cs:List Cmd} {a H s:List Nat} {r:List (List Nat)} (h:On done os ss cs a H) (hs:ss=s::r):HdParts H a (betas done (encs ss cs)) (prf s (betas done (encs ss cs))):=by
 have hm:∀ x∈encs ss cs,∃ d∈cs,x.2=d.enc:=fun x hx=>by
  obtain⟨p,hp,rfl⟩:=List.mem_map.1 hx
  exact⟨p.2,(List.of_mem_zip hp).2,rfl⟩
 have hl:(encs ss cs).length=ss.length:=by unfold encs;rw[List.length_map,List.length_zip,h.len,Nat.min_self]
 refine⟨h.hdr s r hs,h.al,h.ab,betas_length _ _ (fun e=>?_) (fun x hx=>?_) (by rw[hl];have:=h.few;omega),betas_bts _ _ fun x hx=>?_,prf_length _ _,prf_bts _ _⟩
 ·rw[e,hs] at hl;simp at hl
 ·obtain⟨d,hd,e⟩:=hm x hx;rw[e];exact enc_length (h.ids d hd)
 ·obtain⟨d,hd,e⟩:=hm x hx;rw[e];exact enc_bts (h.idb d hd)
theorem On.step {done os ss:List (List Nat)} {cs:List Cmd} {a H o s:List Nat} {c:Cmd} (h:On done (o::os) (s::ss) (c::cs) a H) :
  ∃ x:Stp,unwE o a (betas done (encs (s::ss) (c::cs))) (prf s (betas done (encs (s::ss) (c::cs))))=0∧unwV o a (betas done (encs (s::ss) (c::cs))) (prf s (betas done (encs (s::ss) (c::cs))))=x∧StpOk x∧x.c=c∧x.s=s∧On (done++[s]) os ss cs (keyB (nxA s a)) x.nx:=by
 have hp:=h.parts rfl
 obtain⟨nx,h1,h2,h3,h4⟩:=way_step (done:=done) h.ids (h.may c (by simp)) h.way (by have:=h.len;simpa using this) (by have:=h.few;rw[List.length_cons] at this;omega)
 refine⟨⟨c,nx,s,tagS s⟩,h1,h2,?_,rfl,rfl,h3,by have:=h.len;simpa using this,by have:=h.olen;simpa using this,by have:=h.few;rw[List.length_cons] at this;rw[List.length_append,List.length_singleton];omega,keyB_length _,keyB_bts _,fun d hd=>h.ids d (by simp[hd]),fun d hd=>h.idb d (by simp[hd]),fun d hd=>h.may d (by simp[hd]),?_⟩
 ·have he:stpOf a (betas done (encs (s::ss) (c::cs))) (keyB (shB o a))=⟨c,nx,s,tagS s⟩:=by
   rw[←h2];unfold unwV;rw[if_pos h1];rfl
  have hn:nx=keyB (nxA (keyB (shB o a)) a)++(opn (keyB (shB o a)) (betas done (encs (s::ss) (c::cs)))).drop 32++((opn (keyB (shB o a)) (betas done (encs (s::ss) (c::cs)))).drop 16).take 16:=(congrArg Stp.nx he).symm
  have hol:=opn_length (s:=keyB (shB o a)) hp.bl
  refine⟨h.ids c (by simp),?_,?_,tagS_length _⟩
  ·show nx.length=208
   rw[hn,List.length_append,List.length_append,keyB_length,List.length_drop,List.length_take,List.length_drop,hol];rfl
  ·show s.length=32
   have:=congrArg Stp.s he
   rw[←show keyB (shB o a)=s from this];exact keyB_length _
 ·intro t ts hts
  exact h4 t ts hts
theorem On.start {x:List Nat} {os ss:List (List Nat)} {cs:List Cmd} (hl:cs.length=os.length) (hr:isRt (hopsOf os cs)=true) (hi:∀ d∈cs,d.id.length=8) (hib:∀ d∈cs,∀ i,d.id.getD i 0<256) (h2:Way (puB x) os ss) (h3:ss.length=os.length) (hH:hbH x (hopsOf os cs)=puB x++betas [] (encs ss cs)++prf (ss.headD []) (betas [] (encs ss cs))) :
  On [] os ss cs (puB x) (hbH x (hopsOf os cs)):=by
 have hlen:(hopsOf os cs).length=os.length:=by unfold hopsOf;rw[List.length_map,List.length_zip,hl,Nat.min_self]
 have hr':=hr
 unfold isRt at hr'
 simp only[Bool.and_eq_true,decide_eq_true_eq] at hr'
 refine⟨h2,by rw[hl,h3],by rw[h3],by simp;omega,puB_length _,puB_bts _,hi,hib,fun d hd=>?_,fun s r e=>by rw[hH,e];rfl⟩
 obtain⟨i,hi,rfl⟩:=List.getElem_of_mem hd
 have:(⟨puB (os[i]'(by omega)),cs[i]⟩:Hop)∈hopsOf os cs:=by
  unfold hopsOf
  refine List.mem_map.2 ⟨(os[i]'(by omega),cs[i]),?_,rfl⟩
  rw[←List.getElem_zip (h:=by rw[List.length_zip];omega)]
  exact List.getElem_mem _
 exact rtF_all hr'.2 _ this
end Go.Proofs.YtddmjddlbhdcpaaGreatDoor

namespace Go.Proofs.YtddmjddlbhdcpaaGreatDoor
open Go.RowKit Go.Hold Go.Sh Go.Ch Go.Cm Go.Hd
theorem kvB {l:List Nat} (hl:l.length=32) (hb:∀ i,l.getD i 0<256):F.kv (numB l)=.agg (bysA l):=by
 unfold F.kv;rw[bysA_keyA hl hb]
theorem kvN (n:Nat):F.kv n=.agg (bysA (keyB n)):=by unfold F.kv;rw[keyA_bysA]
theorem bpublic_c (k:List Nat) (hk:k.length=32) (hkb:∀ i,k.getD i 0<256) (w:World) :
  Calls Tryz.prog 27 #[.agg (bysA k)] w fun e w'=>e=.returned (.agg (bysA (puB k)))∧Below w.heap.size w w':=by
 have:=F.public_K (numB k) _ rfl w
 rwa [kvB hk hkb,kvN] at this
theorem bshared_c (k u:List Nat) (hk:k.length=32) (hkb:∀ i,k.getD i 0<256) (hu:u.length=32) (hub:∀ i,u.getD i 0<256) (w:World) :
  Calls Tryz.prog 29 #[.agg (bysA k),.agg (bysA u)] w fun e w'=>e=.returned (.tuple #[.agg (bysA (keyB (shB k u))),.int .i64 (F.errOf (shB k u))])∧Below w.heap.size w w':=by
 have:=F.shared_K (numB k) (numB u) _ _ rfl rfl w
 rwa [kvB hk hkb,kvB hu hub,kvN] at this
theorem keysAt_rows {w:World} {p:Option Addr} {fs:List (List Nat)} (hl:∀ f∈fs,f.length=32) (hb:∀ f∈fs,∀ i,f.getD i 0<256) (h:RowsAt 32 w p (fs.map bysA)):F.KeysAt w p (fs.map numB):=fun i x hx=>by
 rw[List.getElem?_map] at hx
 cases hf:fs[i]? with
 | none=>rw[hf] at hx;cases hx
 | some f =>
  rw[hf] at hx
  cases hx
  have hm:f∈fs:=List.mem_of_getElem? hf
  obtain⟨g,o,hp,hg,hr⟩:=h i (bysA f) (by rw[List.getElem?_map,hf];rfl)
  exact⟨g,o,hp,hg,by rw[←bysA_keyA (hl f hm) (hb f hm)];exact hr⟩
theorem bchain_c (k:List Nat) (fs:List (List Nat)) (n cap:Nat) (p:Option Addr) (hk:k.length=32) (hkb:∀ i,k.getD i 0<256) (hl:∀ f∈fs,f.length=32) (hb:∀ f∈fs,∀ i,f.getD i 0<256) (hn:n=fs.length) (h8:n≤8) (w:World) (h:RowsAt 32 w p (fs.map bysA)) :
  Calls Tryz.prog 69 #[.agg (bysA k),.slice p n cap] w fun e w'=>e=.returned (.tuple #[.agg (bysA (keyB (chB k fs))),.int .i64 (F.errOf (chB k fs))])∧Below w.heap.size w w':=by
 have:=F.chain_small (numB k) _ (fs.map numB) cap p rfl (by rw[List.length_map];omega) w (keysAt_rows hl hb h)
 rw[kvB hk hkb,kvN,List.length_map,←hn] at this
 exact this
end Go.Proofs.YtddmjddlbhdcpaaGreatDoor

namespace Go.Proofs.YtddmjddlbhdcpaaGreatDoor
open Go.RowKit Go.Hold Go.Sh Go.Ch Go.Cm Go.Hd
theorem hopA_32 (k:List Nat) (c:Cmd) (hk:k.length=32):(hopA k c)[32]?=some (.int .i64 c.k):=by
 unfold hopA
 have h1:(bysA k).size=32:=by rw[bysA_size,hk]
 rw[Array.getElem?_append_right (by omega),h1]
 exact cmdA_0 c
def hopR (L:List Hop):List (Array Value):=L.map fun h=>hopA h.k h.c
structure HopOk (h:Hop):Prop where
 k:h.k.length=32
 kb:∀ i,h.k.getD i 0<256
 i:h.c.id.length=8
 ib:∀ i,h.c.id.getD i 0<256
theorem hopR_get {L:List Hop} {j:Nat} {h:Hop} (hj:L[j]?=some h):(hopR L)[j]?=some (hopA h.k h.c):=by unfold hopR;rw[List.getElem?_map,hj];rfl
theorem loadHop {w:World} {p:Option Addr} {L:List Hop} (hR:RowsAt 43 w p (hopR L)) {j:Nat} {h:Hop} (hj:L[j]?=some h) (ho:HopOk h) :
  ∃ g o,p=some ⟨g,o,none⟩∧g<w.heap.size∧(loadRow 77 (.pointer (some ⟨g,o+j*43,none⟩))).run Tryz.prog w=.ok (.agg (hopA h.k h.c)) w :=
 hR.load Tryz.underlying77 rfl (by kernel_rfl) (hopR_get hj) (hopA_size ho.k ho.i)
set_option maxHeartbeats 1000000 in
set_option maxRecDepth 100000 in
theorem isRoute_c (L:List Hop) (p:Option Addr) (cap:Nat) (hok:∀ h∈L,HopOk h) (w:World) (hR:RowsAt 43 w p (hopR L)) :
  Calls Tryz.prog 32 #[.slice p L.length cap] w fun e w'=>e=.returned (.bool (isRt L))∧Below w.heap.size w w':=by
 by_cases hn:1≤L.length∧L.length≤5
 ·obtain⟨h1,h5⟩:=hn
  obtain⟨n,en⟩:∃ n,n=L.length:=⟨_,rfl⟩
  have HE:=Lib.hid (show isRt L=rtF n 0 (L.drop 0) by unfold isRt;rw[decide_eq_true ⟨h1,h5⟩,Bool.true_and,en];rfl)
  generalize isRt L=R at *
  rw[←en] at h1 h5 ⊢
  have En:=Lib.hid en
  have HR:=Lib.hid hR
  have i1:¬(n:Int)<1:=by omega
  have i2:¬(5:Int)<(n:Int):=by omega
  have Hn:=Lib.hid (And.intro h1 h5)
  clear hR h1 h5 en
  go_enter Tryz.func32,Tryz.ntmps32
  go_wp2_with fail
  go_loopw [16] (fun i wr=>∃ k:Nat,k≤n∧i=.int .i64 k∧R=rtF n k (L.drop k)∧Below w.heap.size w wr) (fun i _=>n-(intOf i).toNat)
  case atStart=>exact⟨0,Nat.zero_le _,rfl,HE.out,Below.refl _ _⟩
  case round =>
   obtain⟨k,hk,rfl,hE,hbel⟩:=hrel
   by_cases hkn:k<n
   ·have hk1:(k:Int)<(n:Int):=by omega
    obtain⟨h,hj⟩:∃ h,L[k]?=some h:=⟨_,List.getElem?_eq_getElem (by rw[←En.out];exact hkn)⟩
    have ho:=hok h (List.mem_of_getElem? hj)
    obtain⟨g,o,ep,hg,hld⟩:=loadHop (HR.out.grow hbel) hj ho
    subst ep
    rw[rtF_drop hj] at hE
    have HE':=Lib.hid hE
    have Hbel:=Lib.hid hbel
    have hks:=ho.k
    have his:=ho.i
    have hsz:=hopA_size hks his
    have KM:=Lib.hid (fun (W:World)=>may_c h.c his W)
    have hcell:=hopA_32 h.k h.c hks
    have BA:=below_alloc (Below.refl wr.heap.size wr) (.cells (hopA h.k h.c) 77)
    have R1:=RowAt.of (block_new wr (.cells (hopA h.k h.c) 77))
    clear hE hbel hj ho
    rcases hm:h.c.may with _ | _
    ·have hR:R=false:=by rw[HE'.out,okAt,hm];rfl
     subst hR
     rw[hm] at KM
     go_wp2_with fail
     refine(KM.out _).mono ?_
     rintro e W2 ⟨rfl,hb2⟩
     have B2:=Lib.hid (Hbel.out.trans ((BA.trans (hb2.mono BA.size)).mono Hbel.out.size))
     clear hb2 BA R1
     go_wp2_with fail
     go_ret
     exact⟨rfl,B2.out⟩
    ·rw[hm] at KM
     obtain⟨b1,hb1⟩:∃ b:Bool,((h.c.k:Int) == 1)=b:=⟨_,rfl⟩
     obtain⟨b2,hb2⟩:∃ b:Bool,((k:Int) == (n:Int)-1)=b:=⟨_,rfl⟩
     have hok':okAt n k h.c=(b1 == !b2):=by
      have e1:decide (h.c.k=1)=b1:=by rw[←hb1];exact(Bool.beq_eq_decide_eq _ _).symm
      have e2:decide (k+1<n)=!b2:=by
       rw[←hb2,Bool.beq_eq_decide_eq]
       by_cases e:(k:Int)=(n:Int)-1
       ·rw[decide_eq_true e,decide_eq_false (by omega)];rfl
       ·rw[decide_eq_false e,decide_eq_true (by omega)];rfl
      unfold okAt
      rw[hm,e1,e2,Bool.true_and]
     rw[hok'] at HE'
     clear hok' hm
     go_wp2_with fail
     refine(KM.out _).mono ?_
     rintro e W2 ⟨rfl,hbb⟩
     have B2:=Lib.hid (Hbel.out.trans ((BA.trans (hbb.mono BA.size)).mono Hbel.out.size))
     have R2:=R1.grow hbb
     have hck:=R2.cellAt 32 hcell
     clear hbb BA R1
     rcases b1 with _ | _<;>rcases b2 with _ | _
     ·have hR:R=false:=by rw[HE'.out];rfl
      subst hR
      go_wp2_with fail
      go_ret
      exact⟨rfl,B2.out⟩
     ·have hR:=Lib.hid (show R=rtF n (k+1) (L.drop (k+1)) from HE'.out)
      go_wp2_with fail
      go_roundw
      case rel=>exact⟨k+1,by omega,by go_num,hR.out,B2.out⟩
      case measure=>simp[intOf];omega
     ·have hR:=Lib.hid (show R=rtF n (k+1) (L.drop (k+1)) from HE'.out)
      go_wp2_with fail
      go_roundw
      case rel=>exact⟨k+1,by omega,by go_num,hR.out,B2.out⟩
      case measure=>simp[intOf];omega
     ·have hR:R=false:=by rw[HE'.out];rfl
      subst hR
      go_wp2_with fail
      go_ret
      exact⟨rfl,B2.out⟩
   ·obtain rfl:k=n:=by omega
    have hR:R=true:=by rw[hE,List.drop_of_length_le (by rw[←En.out];exact Nat.le_refl _)];rfl
    subst hR
    have Hbel:=Lib.hid hbel
    clear hbel hE
    go_wp2_with fail
    go_ret
    exact⟨rfl,Hbel.out⟩
 ·have hF:isRt L=false:=by unfold isRt;rw[decide_eq_false hn];rfl
  rw[hF]
  clear hF hok hR
  generalize L.length=n at *
  by_cases h0:n<1
  ·have i1:(n:Int)<1:=by omega
   go_enter Tryz.func32,Tryz.ntmps32
   go_wp2_with fail
   go_ret
   exact⟨rfl,Below.refl _ _⟩
  ·have i1:¬(n:Int)<1:=by omega
   have i2:(5:Int)<(n:Int):=by omega
   go_enter Tryz.func32,Tryz.ntmps32
   go_wp2_with fail
   go_ret
   exact⟨rfl,Below.refl _ _⟩
end Go.Proofs.YtddmjddlbhdcpaaGreatDoor

namespace Go.Proofs.YtddmjddlbhdcpaaGreatDoor
open Go.RowKit Go.Hold Go.Sh Go.Ch Go.Cm Go.Hd
theorem betas_step {ss cs:List (List Nat)} {i:Nat} {s t c:List Nat} (hl:cs.length=ss.length) (hs:ss[i]?=some s) (ht:ss[i+1]?=some t) (hc:cs[i]?=some c) :
  betas (ss.take i) ((ss.zip cs).drop i)=(wid s c (prf t (betas (ss.take (i+1)) ((ss.zip cs).drop (i+1)))) (betas (ss.take (i+1)) ((ss.zip cs).drop (i+1)))).take 160:=by
 obtain⟨h1,rfl⟩:=List.getElem?_eq_some_iff.1 hs
 obtain⟨h2,rfl⟩:=List.getElem?_eq_some_iff.1 ht
 obtain⟨h3,rfl⟩:=List.getElem?_eq_some_iff.1 hc
 have hz:(ss.zip cs).length=ss.length:=by rw[List.length_zip,hl,Nat.min_self]
 have hz2:(ss.zip cs).drop (i+1)=(ss[i+1],cs[i+1]'(by omega))::(ss.zip cs).drop (i+1+1):=by
  rw[List.drop_eq_getElem_cons (by omega)];simp
 rw[List.drop_eq_getElem_cons (show i<(ss.zip cs).length by omega),List.getElem_zip]
 have e:ss.take (i+1)=ss.take i++[ss[i]]:=by rw[List.take_add_one,hs];rfl
 rw[e,hz2,betas_more]
theorem betas_end {ss cs:List (List Nat)} {i:Nat} {s c:List Nat} (hl:cs.length=ss.length) (hi:ss.length=i+1) (hs:ss[i]?=some s) (hc:cs[i]?=some c):betas (ss.take i) ((ss.zip cs).drop i)=betaL (ss.take i) s c:=by
 obtain⟨h1,rfl⟩:=List.getElem?_eq_some_iff.1 hs
 obtain⟨h3,rfl⟩:=List.getElem?_eq_some_iff.1 hc
 rw[List.drop_eq_getElem_cons (by rw[List.length_zip];omega),List.getElem_zip,List.drop_of_length_le (by rw[List.length_zip];omega)]
 rfl
theorem loadHopCmd {w:World} {p:Option Addr} {L:List Hop} (hR:RowsAt 43 w p (hopR L)) {j:Nat} {h:Hop} (hj:L[j]?=some h) (ho:HopOk h) :
  ∃ g o,p=some ⟨g,o,none⟩∧g<w.heap.size∧(loadRow 51 (.pointer (some ⟨g,o+j*43+32,none⟩))).run Tryz.prog w=.ok (.agg (cmdA h.c)) w:=by
 have hsz:=hopA_size ho.k ho.i
 have:=hR.part (k:=32) (K:=11) Tryz.underlying51 rfl (by kernel_rfl) (hopR_get hj) (by omega)
 rwa [hopA_cmd h.k h.c ho.k ho.i] at this
def cmdsE (L:List Hop):List (List Nat):=L.map fun h=>encV h.c
theorem betas_ok {ss cs:List (List Nat)} (hl:cs.length=ss.length) (hc:∀ c∈cs,c.length=16) (hcb:∀ c∈cs,∀ i,c.getD i 0<256) (j:Nat) (hj:j<ss.length) (h5:ss.length≤5) :
  (betas (ss.take j) ((ss.zip cs).drop j)).length=160∧∀ i,(betas (ss.take j) ((ss.zip cs).drop j)).getD i 0<256:=by
 have hm:∀ x∈(ss.zip cs).drop j,x.2∈cs:=fun x hx=>(List.of_mem_zip (List.mem_of_mem_drop hx)).2
 have hz:((ss.zip cs).drop j).length=ss.length-j:=by rw[List.length_drop,List.length_zip,hl,Nat.min_self]
 refine⟨betas_length _ _ (fun e=>?_) (fun x hx=>hc _ (hm x hx)) ?_,betas_bts _ _ fun x hx=>hcb _ (hm x hx)⟩
 ·rw[e] at hz;simp at hz;omega
 ·rw[hz,List.length_take];omega
set_option maxHeartbeats 1500000 in
set_option maxRecDepth 100000 in
theorem firstBeta_c (ss:List (List Nat)) (L:List Hop) (p q:Option Addr) (n cap capL:Nat) (hs:∀ t∈ss,t.length=32) (hsb:∀ t∈ss,∀ i,t.getD i 0<256) (hok:∀ h∈L,HopOk h) (hn:n=ss.length) (hL:L.length=ss.length) (h1:1≤n) (h5:n≤5) (hnc:n≤cap) (w:World) (hT:Tabs w) (hR:RowsAt 32 w p (ss.map bysA)) (hQ:RowsAt 43 w q (hopR L)) :
  Calls Tryz.prog 34 #[.slice p n cap,.slice q n capL] w fun e w'=>e=.returned (.agg (bysA (betas [] (ss.zip (cmdsE L)))))∧Below w.heap.size w w':=by
 obtain⟨d,ed⟩:∃ d,d+1=n:=⟨n-1,by omega⟩
 have hnd:(n:Int)-1=(d:Int):=by omega
 have hd5:¬(5:Int)<(n:Int):=by omega
 have hdn:(d:Int)<(n:Int):=by omega
 have hcl:(cmdsE L).length=ss.length:=by unfold cmdsE;rw[List.length_map,hL]
 have hce:∀ c∈cmdsE L,c.length=16:=fun c hc=>by
  obtain⟨h,hh,rfl⟩:=List.mem_map.1 hc
  exact encV_length (hok h hh).i
 have hcb:∀ c∈cmdsE L,∀ i,c.getD i 0<256:=fun c hc=>by
  obtain⟨h,hh,rfl⟩:=List.mem_map.1 hc
  exact encV_bts (hok h hh).ib
 have hcg:∀ {j:Nat} {h:Hop},L[j]?=some h→(cmdsE L)[j]?=some (encV h.c):=fun {j h} hj=>by unfold cmdsE;rw[List.getElem?_map,hj];rfl
 obtain⟨B,eB⟩:∃ B:Nat→List Nat,B=fun j=>betas (ss.take j) ((ss.zip (cmdsE L)).drop j):=⟨_,rfl⟩
 have HBl:=Lib.hid (fun j (hj:j<n)=>show (B j).length=160 from by rw[eB];exact(betas_ok hcl hce hcb j (by omega) (by omega)).1)
 have HBb:=Lib.hid (fun j (hj:j<n)=>show ∀ i,(B j).getD i 0<256 from by rw[eB];exact(betas_ok hcl hce hcb j (by omega) (by omega)).2)
 have HB0:=Lib.hid (show betas [] (ss.zip (cmdsE L))=B 0 by rw[eB];rfl)
 rw[HB0.out]
 obtain⟨sd,hsd⟩:∃ s,ss[d]?=some s:=⟨_,List.getElem?_eq_getElem (by omega)⟩
 obtain⟨hd,hhd⟩:∃ h,L[d]?=some h:=⟨_,List.getElem?_eq_getElem (by omega)⟩
 have hod:=hok hd (List.mem_of_getElem? hhd)
 have hss:ss=ss.take d++[sd]:=by
  have:ss.take (d+1)=ss.take d++[sd]:=by rw[List.take_add_one,hsd];rfl
  rw[←this,List.take_of_length_le (by omega)]
 have hBd:B d=betaL (ss.take d) sd (encV hd.c):=by rw[eB];exact betas_end hcl (by omega) hsd (hcg hhd)
 have HLa:=Lib.hid (fun (W:World) (h:Tabs W) (hb:Below w.heap.size w W)=>lastBeta_c (ss.take d) sd hd.c p n cap (by rw[←hss];exact hs) (by rw[←hss];exact hsb) hod.i hod.ib (by rw[List.length_take];omega) h5 hnc W h (by rw[←hss];exact hR.grow hb))
 rw[←hBd] at HLa
 obtain⟨g,o,ep,hx1,hx2⟩:=loadKeyAt hR hsd (hs sd (List.mem_of_getElem? hsd))
 clear hx1 hx2
 obtain⟨gq,oq,eq,hx1,hx2⟩:=loadHopCmd hQ hhd hod
 clear hx1 hx2
 subst ep eq
 have HK:=Lib.hid (fun (j:Nat) (s:List Nat) (hj:ss[j]?=some s) (W:World) (hb:Below w.heap.size w W)=>show (loadRow 23 (.pointer (some ⟨g,o+j*32,none⟩))).run Tryz.prog W=.ok (.agg (bysA s)) W by
  obtain⟨g',o',e,_,h⟩:=loadKeyAt (hR.grow hb) hj (hs s (List.mem_of_getElem? hj))
  cases e;exact h)
 have HC:=Lib.hid (fun (j:Nat) (h:Hop) (hj:L[j]?=some h) (W:World) (hb:Below w.heap.size w W)=>show (loadRow 51 (.pointer (some ⟨gq,oq+j*43+32,none⟩))).run Tryz.prog W=.ok (.agg (cmdA h.c)) W by
  obtain⟨g',o',e,_,h⟩:=loadHopCmd (hQ.grow hb) hj (hok h (List.mem_of_getElem? hj))
  cases e;exact h)
 have HSt:=Lib.hid (fun (i:Nat) (s t:List Nat) (h:Hop) (hs:ss[i]?=some s) (ht:ss[i+1]?=some t) (hh:L[i]?=some h)=>show B i=(wid s (encV h.c) (prf t (B (i+1))) (B (i+1))).take 160 from by rw[eB];exact betas_step hcl hs ht (hcg hh))
 have Hsl:=Lib.hid (And.intro hs hsb)
 have Hok:=Lib.hid hok
 have Hn:=Lib.hid (And.intro hn (And.intro hL (And.intro h5 ed)))
 have hld0:=HC.out d hd hhd (w.alloc (.cells (bysA (zs 160)) 27)) (below_alloc (Below.refl _ _) _)
 have hBds:=bysA_size' (HBl.out d (by omega))
 have hcs:=cmdA_size hod.i
 have HT:=Lib.hid hT
 have hz160:=bysA_size' (zs_length 160)
 clear hT hR hQ hs hsb hok hn hL h1 h5 hnc hcl hce hcb hcg hss hBd hod hhd hsd eB ed
 go_enter Tryz.func34,Tryz.ntmps34
 go_wp2_with fail
 generalize hW:World.alloc _ _=W0
 have R0x0:=Lib.hid (show RowAt W0 (w.heap.size) (bysA (zs 160)) by rw[←hW];clear hW;exact⟨by go_simp,by first | (go_simp;done) | (go_simp;rfl),by go_simp⟩)
 have B0:=Lib.hid (show Below w.heap.size w W0 by rw[←hW];repeat (first | apply below_alloc | exact Below.refl _ _))
 clear hW
 have hzs160:=bysA_size' (zs_length 160)
 have l_r:w.heap.size≤w.heap.size:=by omega
 obtain⟨r,er⟩:∃ z,z=w.heap.size:=⟨_,rfl⟩
 rw[←er] at R0x0  ⊢
 have l_r:w.heap.size≤r:=by rw[er];exact Nat.le_refl _
 clear er
 obtain⟨R0x0a,R0x0b,R0x0c⟩:=R0x0.out
 clear hld0
 refine(HLa.out _ (HT.out.grow B0.out) B0.out).mono ?_
 rintro e W1 ⟨rfl,hb1⟩
 clear R0x0a R0x0b R0x0c
 have R1x0:=Lib.hid (R0x0.out.grow hb1)
 have B1:=Lib.hid (B0.out.trans (hb1.mono B0.out.size))
 clear hb1 B0 R0x0
 obtain⟨R1x0a,R1x0b,R1x0c⟩:=R1x0.out
 go_wp2_with fail
 have n_r_b:r≠W1.heap.size:=Nat.ne_of_lt R1x0.out.2.2
 have l_b:w.heap.size≤W1.heap.size:=B1.out.size
 have hb2:=below_alloc (Below.refl W1.heap.size W1) (.cells (bysA (B d)) 27)
 have N2:=Lib.hid (RowAt.of (block_new W1 (.cells (bysA (B d)) 27)))
 have R2x0:=Lib.hid (R1x0.out.grow hb2)
 have B2:=Lib.hid (B1.out.trans (hb2.mono B1.out.size))
 clear hb2 B1 R1x0 R1x0a R1x0b R1x0c
 generalize W1.heap.size=b at *
 generalize W1.alloc (.cells (bysA (B d)) 27)=W2 at *
 obtain⟨R2x0a,R2x0b,R2x0c⟩:=R2x0.out
 obtain⟨N2a,N2b,N2c⟩:=N2.out
 go_wp2_with fail
 go_loopw [7] (fun i wr=>∃ j:Nat,j≤d∧i=.int .i64 ((j:Int)-1)∧RowAt wr b (bysA (B j))∧RowAt wr r (bysA (zs 160))∧Below w.heap.size w wr) (fun i _=>(intOf i+1).toNat)
 case atStart=>exact⟨d,Nat.le_refl _,rfl,N2.out,R2x0.out,B2.out⟩
 case round =>
  obtain⟨j,hj,rfl,hb,hr,hbel⟩:=hrel
  rcases j with _ | i
  ·rw[show ((0:Nat):Int)-1=-1 from rfl]
   obtain⟨b1,b2,b3⟩:=hb
   obtain⟨r1,r2,r3⟩:=hr
   have hB0s:=bysA_size' (HBl.out 0 (by have:=Hn.out.2.2.2;omega))
   have Hbel:=Lib.hid hbel
   clear hbel
   go_wp2_with fail
   refine bodyPost_ret (v:=.agg (bysA (B 0))) (results_beta Tryz.results34 hB0s _ _ _ rfl (by go_simp) (by go_simp)) rfl ⟨rfl,?_⟩
   exact below_setRow Hbel.out l_r _
  ·obtain⟨s,hs⟩:∃ s,ss[i]?=some s:=⟨_,List.getElem?_eq_getElem (by have:=Hn.out.1;have:=Hn.out.2.2.2;omega)⟩
   obtain⟨t,ht⟩:∃ s,ss[i+1]?=some s:=⟨_,List.getElem?_eq_getElem (by have:=Hn.out.1;have:=Hn.out.2.2.2;omega)⟩
   obtain⟨h,hh⟩:∃ h,L[i]?=some h:=⟨_,List.getElem?_eq_getElem (by have:=Hn.out.1;have:=Hn.out.2.1;have:=Hn.out.2.2.2;omega)⟩
   have ho:=Hok.out h (List.mem_of_getElem? hh)
   have hsl:=Hsl.out.1 s (List.mem_of_getElem? hs)
   have hsb:=Hsl.out.2 s (List.mem_of_getElem? hs)
   have htl:=Hsl.out.1 t (List.mem_of_getElem? ht)
   have htb:=Hsl.out.2 t (List.mem_of_getElem? ht)
   have HBi:=Lib.hid (HSt.out i s t h hs ht hh)
   obtain⟨i1,ei1⟩:∃ x,x=i+1:=⟨_,rfl⟩
   rw[←ei1] at ht HBi hb
   have hBl:=HBl.out i1 (by have:=Hn.out.2.2.2;omega)
   have hBb:=HBb.out i1 (by have:=Hn.out.2.2.2;omega)
   have hBl0:=HBl.out i (by have:=Hn.out.2.2.2;omega)
   have hBs:=bysA_size' hBl0
   have hBs1:=bysA_size' hBl
   have KP:=Lib.hid (fun (W:World) (hT:Tabs W)=>hproof_c t (B i1) htl htb hBl hBb W hT)
   have KL:=Lib.hid (fun (W:World)=>laid_c h.c ho.i (prf t (B i1)) (B i1) (prf_length _ _) hBl W)
   have hel:=encV_length ho.i
   have KT:=Lib.hid (fun (W:World) (hT:Tabs W)=>show Calls Tryz.prog 46 #[.agg (bysA (encV h.c++prf t (B i1)++B i1)),.agg (bysA s)] W fun e w'=>e=.returned (.agg (bysA (wid s (encV h.c) (prf t (B i1)) (B i1))))∧Below W.heap.size W w' from turned_c (encV h.c++prf t (B i1)++B i1) s (by rw[List.length_append,List.length_append,hel,prf_length,hBl]) (bts_app (bts_app (encV_bts ho.ib) (prf_bts _ _)) hBb) hsl hsb W hT)
   have KW:=Lib.hid (fun (W:World)=>wbeta_c (wid s (encV h.c) (prf t (B i1)) (B i1)) (wid_length hel (prf_length _ _) hBl) W)
   rw[←HBi.out] at KW
   have hpl:=bysA_size' (prf_length t (B i1))
   generalize encV h.c++prf t (B i1)++B i1=Y at *
   generalize wid s (encV h.c) (prf t (B i1)) (B i1)=V at *
   generalize prf t (B i1)=P at *
   have hks:∀ (o':Array Obj) (d':Nat),(loadRow 23 (.pointer (some ⟨g,o+i*32,none⟩))).run Tryz.prog (wr.plus o' d')=.ok (.agg (bysA s)) (wr.plus o' d'):=fun o' d'=>HK.out i s hs _ (below_plus_of _ _ _ hbel hbel.size)
   have hkt:∀ (o':Array Obj) (d':Nat),(loadRow 23 (.pointer (some ⟨g,o+i1*32,none⟩))).run Tryz.prog (wr.plus o' d')=.ok (.agg (bysA t)) (wr.plus o' d'):=fun o' d'=>HK.out i1 t ht _ (below_plus_of _ _ _ hbel hbel.size)
   have hkc:∀ (o':Array Obj) (d':Nat),(loadRow 51 (.pointer (some ⟨gq,oq+i*43+32,none⟩))).run Tryz.prog (wr.plus o' d')=.ok (.agg (cmdA h.c)) (wr.plus o' d'):=fun o' d'=>HC.out i h hh _ (below_plus_of _ _ _ hbel hbel.size)
   have hi0:(0:Int)≤(i:Int):=by omega
   have hin:(i:Int)<(n:Int):=by have:=Hn.out.2.2.2;omega
   have hi1n:(i1:Int)<(n:Int):=by have:=Hn.out.2.2.2;omega
   have hii:(i:Int)+1=(i1:Int):=by omega
   have hwi:IntKind.i64.wrap (i1:Int)=(i1:Int):=IntWalk.i64_in _ (by omega)
   have hcs':=cmdA_size ho.i
   have Hi1:=Lib.hid (And.intro ei1 hj)
   have Hb:=Lib.hid hb
   have Hr:=Lib.hid hr
   have Hbel:=Lib.hid hbel
   rw[show (((i+1:Nat):Int)-1)=(i:Int) by omega]
   obtain⟨b1,b2,b3⟩:=hb
   clear hs ht hh ho hsl hsb htl htb hBl hBb hBl0 hel hr hbel ei1 hj
   go_wp2_with fail
   refine wp_region_pick wr [0,1,2,3,4,5,6,7,8,9,10,11,12,13,14,15,16,17,18,19] [false,false,false,false,false,false,false,false,false,false,false,false,false,false,false,false,false,false,false,false] [] [] 20 (by kernel_rfl) rfl (by kernel_rfl) (by intro c a d v w h;cases d<;>exact h) (by first | exact(Below.refl _ _).drew | exact Below.refl _ _) ?_
   simp only[pick,List.getElem?_cons_succ,List.getElem?_cons_zero,List.drop_succ_cons,List.drop_zero]
   refine wpHoldF_val (wanted_none rfl) (by intro K o d hK;go_simp;exact hK _ (Below.refl _ _)) ?_
   refine wpHoldF_val (wanted_none rfl) (by intro K o d hK;go_simp;exact hK _ (Below.refl _ _)) ?_
   refine wpHoldF_val (wanted_none rfl) (by intro K o d hK;go_simp;exact hK _ (Below.refl _ _)) ?_
   refine wpHoldF_val (wanted_none rfl) (by intro K o d hK;go_simp;exact hK _ (Below.refl _ _)) ?_
   refine wpHoldF_val (wanted_none rfl) (by intro K o d hK;go_simp;exact hK _ (Below.refl _ _)) ?_
   refine wpHoldF_val (wanted_none rfl) (by intro K o d hK;go_simp;exact hK _ (Below.refl _ _)) ?_
   refine wpHoldF_val (wanted_none rfl) (by intro K o d hK;go_simp;exact hK _ (Below.refl _ _)) ?_
   refine wpHoldF_val (wanted_none rfl) (by intro K o d hK;go_simp;exact hK _ (Below.refl _ _)) ?_
   refine wpHoldF_val (wanted_none rfl) (by intro K o d hK;go_simp;exact hK _ (Below.refl _ _)) ?_
   refine wpHoldF_val (wanted_none rfl) (by intro K o d hK;go_simp;exact hK _ (Below.refl _ _)) ?_
   refine wpHoldF_val (wanted_none rfl) (by intro K o d hK;go_simp;exact hK _ (Below.refl _ _)) ?_
   refine wpHoldF_call (v:=.agg (bysA P)) (wanted_none rfl) (by intro K o d hK;go_simp;refine(KP.out _ (HT.out.grow (below_plus_of _ _ _ Hbel.out Hbel.out.size))).mono ?_;rintro e w' ⟨rfl,hbw⟩;exact⟨_,rfl,hK _ hbw⟩) ?_
   refine wpHoldF_val (wanted_none rfl) (by intro K o d hK;go_simp;exact hK _ (Below.refl _ _)) ?_
   refine wpHoldF_call (v:=.agg (bysA Y)) (wanted_none rfl) (by intro K o d hK;go_simp;refine(KL.out _).mono ?_;rintro e w' ⟨rfl,hbw⟩;exact⟨_,rfl,hK _ hbw⟩) ?_
   refine wpHoldF_val (wanted_none rfl) (by intro K o d hK;go_simp;exact hK _ (Below.refl _ _)) ?_
   refine wpHoldF_val (wanted_none rfl) (by intro K o d hK;go_simp;exact hK _ (Below.refl _ _)) ?_
   refine wpHoldF_val (wanted_none rfl) (by intro K o d hK;go_simp;exact hK _ (Below.refl _ _)) ?_
   refine wpHoldF_val (wanted_none rfl) (by intro K o d hK;go_simp;exact hK _ (Below.refl _ _)) ?_
   refine wpHoldF_call (v:=.agg (bysA V)) (wanted_none rfl) (by intro K o d hK;go_simp;refine(KT.out _ (HT.out.grow (below_plus_of _ _ _ Hbel.out Hbel.out.size))).mono ?_;rintro e w' ⟨rfl,hbw⟩;exact⟨_,rfl,hK _ hbw⟩) ?_
   refine wpHoldF_call (v:=.agg (bysA (B i))) (wanted_none rfl) (by intro K o d hK;go_simp;refine(KW.out _).mono ?_;rintro e w' ⟨rfl,hbw⟩;exact⟨_,rfl,hK _ hbw⟩) ?_
   refine wpHoldF_nil ?_
   intro W11 hb11 hblk
   clear hblk
   clear b1 b2 b3
   have R11x0:=Lib.hid (Hb.out.grow hb11)
   have R11x1:=Lib.hid (Hr.out.grow hb11)
   have B11:=Lib.hid (Hbel.out.trans (hb11.mono Hbel.out.size))
   clear hb11 Hbel Hb Hr
   obtain⟨R11x0a,R11x0b,R11x0c⟩:=R11x0.out
   obtain⟨R11x1a,R11x1b,R11x1c⟩:=R11x1.out
   go_wp2_with fail
   go_roundw
   case rel=>exact⟨i,by have:=Hi1.out.2;omega,rfl,R11x0.out.set _,R11x1.out.other n_r_b _,below_setRow B11.out l_b _⟩
   case measure=>simp[intOf]
end Go.Proofs.YtddmjddlbhdcpaaGreatDoor
