/-
  Part 12 of the texts behind the theorem.
-/
import Derived.Test.YtddmjddlbhdcpaaGreatDoorPart2
import Derived.Test.YtddmjddlbhdcpaaGreatDoorPart6
import Derived.Test.YtddmjddlbhdcpaaGreatDoorPart8
import Derived.Test.YtddmjddlbhdcpaaGreatDoorPart4
import Derived.Test.YtddmjddlbhdcpaaGreatDoorPart7
import Derived.Test.YtddmjddlbhdcpaaGreatDoorPart9
import Derived.Test.YtddmjddlbhdcpaaGreatDoorPart11
import Derived.Test.YtddmjddlbhdcpaaGreatDoorPart10
import Derived.Test.YtddmjddlbhdcpaaGreatDoorPart5
set_option maxHeartbeats 8000000
set_option maxRecDepth 100000
namespace Go.Proofs.YtddmjddlbhdcpaaGreatDoor
open Go.RowKit Go.Hold Go.Sh
def keyB (n:Nat):List Nat:=(List.range 32).map fun i=>n/256^i%256
theorem Za1 (n:Nat):(keyB n).length=32:=by simp[keyB]
theorem ZcN (n:Nat):∀i,(keyB n).getD i 0<256:=Zbp fun x hx=>by
 obtain⟨i,_,rfl⟩:=List.mem_map.1 hx
 exact Nat.mod_lt _ (by decide)
theorem Zh5 (n:Nat):F.keyA n=bysA (keyB n):=by
 apply Array.ext_getElem?
 intro i
 by_cases h:i<32
 ·rw[F.keyA_get n i h,ZaB _ i (by rw[Za1];exact h)]
  simp[F.bt,keyB,h]
 ·rw[Array.getElem?_eq_none (by rw[F.keyA_size];omega),Array.getElem?_eq_none (by rw[Zaj,Za1];omega)]
def numB:List Nat→Nat
 | []=>0
 | x::l=>x+256*numB l
theorem Zh1:∀(l:List Nat),(∀ x∈l,x<256)→∀ i,numB l/256^i%256=l.getD i 0
 | [],_,i=>by simp[numB]
 | x::l,h,0=>by
  have h1:=h x (by simp)
  simp[numB];omega
 | x::l,h,i+1=>by
  have h1:=h x (by simp)
  have ih:=Zh1 l (fun y hy=>h y (by simp[hy])) i
  rw[numB,Nat.pow_succ',←Nat.div_div_eq_div_mul,show (x+256*numB l)/256=numB l by omega,ih]
  simp[List.getD]
theorem ZlZ {l:List Nat} (hl:l.length=32) (hb:∀i,l.getD i 0<256):keyB (numB l)=l:=by
 apply List.ext_getElem (by rw[Za1,hl])
 intro i h1 h2
 have h:=Zh1 l (Zdo hb) i
 simp only[keyB,List.getElem_map,List.getElem_range]
 rw[h]
 simp[List.getD,h2]
theorem ZhK {l:List Nat} (hl:l.length=32) (hb:∀i,l.getD i 0<256):bysA l=F.keyA (numB l):=by rw[Zh5,ZlZ hl hb]
open Go.RowKit Go.Hold Go.Sh Go.Ch Go.Cm Go.Hd
def chB (k:List Nat) (fs:List (List Nat)):Nat:=F.chN (F.ptN (numB k)%Fp.P) (fs.map numB)
def shB (k u:List Nat):Nat:=F.shN (numB k) (numB u)
def puB (k:List Nat):List Nat:=keyB (F.Cv.nT (F.Cv.clampN (numB k)) 9)
def nxA (s a:List Nat):Nat:=shB (bli s a) a
theorem ZaX (k:List Nat):(puB k).length=32:=Za1 _
theorem Zey (k:List Nat):∀i,(puB k).getD i 0<256:=ZcN _
def okAt (n i:Nat) (c:Cmd):Bool:=c.may&&(decide (c.k=1)==decide (i+1<n))
def rtF (n:Nat):Nat→List Hop→Bool
 | _,[]=>true
 | i,h::r=>okAt n i h.c&&rtF n (i+1) r
def isRt (L:List Hop):Bool:=decide (1≤L.length∧L.length≤5)&&rtF L.length 0 L
theorem Zkm {n i:Nat} {L:List Hop} {h:Hop} (hi:L[i]?=some h):rtF n i (L.drop i)=(okAt n i h.c&&rtF n (i+1) (L.drop (i+1))):=by
 obtain⟨hq,rfl⟩:=List.getElem?_eq_some_iff.1 hi
 rw[List.drop_eq_getElem_cons hq];rfl
theorem ZjE:∀{n i:Nat} {L:List Hop},rtF n i L=true→∀ h∈L,h.c.may=true
 | _,_,[],_,h,hh=>by simp at hh
 | n,i,a::r,e,h,hh=>by
  simp only[rtF,okAt,Bool.and_eq_true] at e
  rcases List.mem_cons.1 hh with rfl | hh
  ·exact e.1.1
  ·exact ZjE e.2 h hh
def secF:List (List Nat)→List Nat→List Hop→Option (List (List Nat))
 | _,_,[]=>some []
 | fs,a,h::r =>
  if chB h.k fs=0 then none
  else if nxA (keyB (chB h.k fs)) a=0 then none
  else (secF (fs++[bli (keyB (chB h.k fs)) a]) (keyB (nxA (keyB (chB h.k fs)) a)) r).map (keyB (chB h.k fs)::·)
theorem Zb5:∀{L:List Hop} {fs:List (List Nat)} {a:List Nat} {ss:List (List Nat)},secF fs a L=some ss→ss.length=L.length
 | [],_,_,ss,h=>by simp[secF] at h;subst h;rfl
 | k::r,fs,a,ss,h=>by
  simp only[secF] at h
  split at h
  ·cases h
  split at h
  ·cases h
  obtain⟨s,hs,rfl⟩:=Option.map_eq_some_iff.1 h
  simp[Zb5 hs]
theorem ZgV:∀{L:List Hop} {fs:List (List Nat)} {a:List Nat} {ss:List (List Nat)},secF fs a L=some ss→∀ s∈ss,∃ n,s=keyB n∧n<Fp.P
 | [],_,_,ss,h,s,hs=>by simp[secF] at h;subst h;simp at hs
 | k::r,fs,a,ss,h,s,hs=>by
  simp only[secF] at h
  split at h
  ·cases h
  split at h
  ·cases h
  obtain⟨t,ht,rfl⟩:=Option.map_eq_some_iff.1 h
  rcases List.mem_cons.1 hs with rfl | hs
  ·exact⟨_,rfl,F.chN_lt _ (Nat.mod_lt _ Fp.P_pos) _⟩
  ·exact ZgV ht s hs
def Zbq (ss:List (List Nat)) (L:List Hop):List Nat:=ZaZ [] (ss.zip (L.map fun h=>h.c.enc))
def hbS (x:List Nat) (L:List Hop):Option (List (List Nat)):=secF [x] (puB x) L
def hbH (x:List Nat) (L:List Hop):List Nat :=
 if isRt L=true then match hbS x L with
  | none=>zs 208
  | some ss=>puB x++Zbq ss L++prf (ss.headD []) (Zbq ss L)
 else zs 208
def hbK (x:List Nat) (L:List Hop):List (List Nat):=if isRt L=true then (hbS x L).getD [] else []
def hbE (x:List Nat) (L:List Hop):Int:=if isRt L=true then (if (hbS x L).isSome then 0 else 7) else 14
structure Stp where
 c:Cmd
 nx:List Nat
 s:List Nat
 t:List Nat
def Stp.zero:Stp:=⟨.zero,zs 208,zs 32,zs 16⟩
def opn (s b:List Nat):List Nat:=mixd (hst s) (b++zs 32)
theorem ZgO {s b:List Nat} (hb:b.length=160):(opn s b).length=192:=by unfold opn;rw[ZaJ,List.length_append,hb,Zah]
theorem Zs2 {s b:List Nat} (hb:∀i,b.getD i 0<256):∀i,(opn s b).getD i 0<256:=by unfold opn;exact Zfg (Zdi s) (ZaN hb (Zbs _))
def unwE (o a b g:List Nat):Int :=
 if shB o a=0 then 7 else if ¬prf (keyB (shB o a)) b=g then 6
 else if okB ((opn (keyB (shB o a)) b).take 16)=false then 5 else if nxA (keyB (shB o a)) a=0 then 7 else 0
def Znz (a b s:List Nat):Stp:=⟨ofB ((opn s b).take 16),keyB (nxA s a)++(opn s b).drop 32++((opn s b).drop 16).take 16,s,tagS s⟩
def unwV (o a b g:List Nat):Stp:=if unwE o a b g=0 then Znz a b (keyB (shB o a)) else .zero
def Way:List Nat→List (List Nat)→List (List Nat)→Prop
 | _,[],[]=>True
 | a,o::os,s::ss=>shB o a≠0∧keyB (shB o a)=s∧nxA s a≠0∧Way (keyB (nxA s a)) os ss
 | _,_,_=>False
theorem ZpQ {a o s:List Nat} {os ss done:List (List Nat)} {c:Cmd} {cs:List Cmd} (hid:∀d∈c::cs,d.id.length=8) (hm:c.may=true) (hw:Way a (o::os) (s::ss)) (hl:cs.length=ss.length) (hn:done.length+ss.length≤4) :
  ∃ nx,unwE o a (ZaZ done (((s::ss).zip (c::cs)).map fun p=>(p.1,p.2.enc))) (prf s (ZaZ done (((s::ss).zip (c::cs)).map fun p=>(p.1,p.2.enc))))=0
   ∧ unwV o a (ZaZ done (((s::ss).zip (c::cs)).map fun p=>(p.1,p.2.enc))) (prf s (ZaZ done (((s::ss).zip (c::cs)).map fun p=>(p.1,p.2.enc))))=⟨c,nx,s,tagS s⟩
   ∧ Way (keyB (nxA s a)) os ss
   ∧ ∀t ts,ss=t::ts→nx=keyB (nxA s a)++ZaZ (done++[s]) ((ss.zip cs).map fun p=>(p.1,p.2.enc))++prf t (ZaZ (done++[s]) ((ss.zip cs).map fun p=>(p.1,p.2.enc))):=by
 obtain⟨h1,h2,h3,h4⟩:=hw
 have hcl:c.enc.length=16:=Zb0 (hid c (by simp))
 have hZ:∀x∈((s::ss).zip (c::cs)).map fun p=>(p.1,p.2.enc),x.2.length=16:=by
  intro x hx
  obtain⟨p,hp,rfl⟩:=List.mem_map.1 hx
  exact Zb0 (hid p.2 (List.of_mem_zip hp).2)
 have h16:(opn s (ZaZ done (((s::ss).zip (c::cs)).map fun p=>(p.1,p.2.enc)))).take 16=c.enc:=by
  cases ss with
  | nil =>
   obtain rfl:cs=[]:=List.eq_nil_of_length_eq_zero (by simpa using hl)
   exact Zk9 done s c.enc hcl (by simpa using hn)
  | cons t ts =>
   cases cs with
   | nil=>simp at hl
   | cons d ds =>
    unfold opn
    rw[show ((s::t::ts).zip (c::d::ds)).map (fun p=>(p.1,p.2.enc))=(s,c.enc)::(t,d.enc)::(ts.zip ds).map (fun p=>(p.1,p.2.enc)) from rfl] at hZ ⊢
    rw[Zgg done s c.enc t d.enc _ hZ (by simp at hn hl ⊢;omega),List.append_assoc,List.take_append_of_le_length (by omega),List.take_of_length_le (by omega)]
 have hok:okB c.enc=true:=ZsN (hid c (by simp)) hm
 have hE:unwE o a (ZaZ done (((s::ss).zip (c::cs)).map fun p=>(p.1,p.2.enc))) (prf s (ZaZ done (((s::ss).zip (c::cs)).map fun p=>(p.1,p.2.enc))))=0:=by
  unfold unwE
  rw[if_neg h1,h2,if_neg (fun h=>h rfl),h16,hok,if_neg (by simp),if_neg h3]
 refine⟨keyB (nxA s a)++(opn s (ZaZ done (((s::ss).zip (c::cs)).map fun p=>(p.1,p.2.enc)))).drop 32++((opn s (ZaZ done (((s::ss).zip (c::cs)).map fun p=>(p.1,p.2.enc)))).drop 16).take 16,hE,?_,h4,?_⟩
 ·unfold unwV Znz
  rw[if_pos hE,h2,h16,Znc (hid c (by simp)) hm]
 ·rintro t ts rfl
  cases cs with
  | nil=>simp at hl
  | cons d ds =>
   rw[show (((s::t::ts).zip (c::d::ds)).map fun p=>(p.1,p.2.enc))=(s,c.enc)::(t,d.enc)::(ts.zip ds).map (fun p=>(p.1,p.2.enc)) from rfl] at hZ
   have ho:=Zgg done s c.enc t d.enc ((ts.zip ds).map fun p=>(p.1,p.2.enc)) hZ (by simp at hn hl ⊢;omega)
   have e:(((s::t::ts).zip (c::d::ds)).map fun p=>(p.1,p.2.enc))=(s,c.enc)::(t,d.enc)::(ts.zip ds).map (fun p=>(p.1,p.2.enc)):=rfl
   have e':(((t::ts).zip (d::ds)).map fun p=>(p.1,p.2.enc))=(t,d.enc)::(ts.zip ds).map (fun p=>(p.1,p.2.enc)):=rfl
   rw[e,e']
   unfold opn
   rw[ho]
   generalize ZaZ (done++[s]) ((t,d.enc)::(ts.zip ds).map fun p=>(p.1,p.2.enc))=b at *
   have hp:=ZaS t b
   generalize prf t b=g at *
   rw[List.append_assoc c.enc g b,show 32=(c.enc++g).length by simp[hcl,hp],←List.append_assoc,List.drop_left,List.append_assoc c.enc g b,show 16=c.enc.length from hcl.symm,List.drop_left]
   congr 1
   rw[hcl,←hp,List.take_left]
open Go.RowKit Go.Hold Go.Sh Go.Cm Go.Hd
def Zbn (x:Stp):Array Value:=cmdA x.c++bysA (x.nx++x.s++x.t)
structure StpOk (x:Stp):Prop where
 i:x.c.id.length=8
 n:x.nx.length=208
 s:x.s.length=32
 t:x.t.length=16
theorem Zcs {x:Stp} (h:StpOk x):(Zbn x).size=267:=by
 unfold Zbn
 rw[Array.size_append,Zax h.i,Zaj,List.length_append,List.length_append,h.n,h.s,h.t]
theorem Zf3 {x:Stp} (h:StpOk x) (a b:Nat) (ha:11≤a):(Zbn x).extract a b=bysA (((x.nx++x.s++x.t).drop (a-11)).take (b-a)):=by
 unfold Zbn
 rw[Array.extract_append,Zax h.i]
 rw[show (cmdA x.c).extract a b=#[] by apply Array.extract_empty_of_size_le_start;rw[Zax h.i];exact ha]
 rw[Ze5]
 simp only[Array.empty_append]
 congr 2;omega
@[go_sem] theorem Znn {x:Stp} (h:StpOk x):(Zbn x).extract 0 11=cmdA x.c:=by
 unfold Zbn
 have h2:(cmdA x.c).size=11:=Zax h.i
 rw[←h2,Array.extract_append_left]
 simp
@[go_sem] theorem ZlA {x:Stp} (h:StpOk x):(Zbn x).extract 11 219=bysA x.nx:=by
 rw[Zf3 h 11 219 (by decide),List.append_assoc]
 rw[show 219-11=x.nx.length by rw[h.n],List.drop_zero,List.take_left]
@[go_sem] theorem ZnZ {x:Stp} (h:StpOk x):(Zbn x).extract 219 251=bysA x.s:=by
 rw[Zf3 h 219 251 (by decide),List.append_assoc,show 219-11=x.nx.length by rw[h.n],List.drop_left,show 251-219=x.s.length by rw[h.s],List.take_left]
@[go_sem] theorem Zmz {x:Stp} (h:StpOk x):(Zbn x).extract 251 267=bysA x.t:=by
 rw[Zf3 h 251 267 (by decide),show 251-11=(x.nx++x.s).length by rw[List.length_append,h.n,h.s],List.drop_left,List.take_of_length_le (by rw[h.t];decide)]
@[go_sem] theorem ZvK (x:Stp):Zbg (Zbn x)=true:=by
 have h1:=Zhw x.c
 have h2:=ZcL (x.nx++x.s++x.t)
 unfold Zbg Zbn at *
 rw[Array.all_append,h1,h2];rfl
theorem ZgC:StpOk .zero:=⟨rfl,rfl,rfl,rfl⟩
@[go_sem] theorem ZwS:Tryz.zeroCells53=Zbn .zero:=by kernel_rfl
@[go_sem] theorem ZpX (w:World):(bldA 53 #[]).run Tryz.prog w=.ok (.agg (Zbn .zero)) w:=run_build w _ _ _ (by kernel_rfl)
theorem ZjC {x:Stp} (h:StpOk x) (w:World):(bldA 53 #[(0,.agg (cmdA x.c)),(1,.agg (bysA x.nx)),(2,.agg (bysA x.s)),(3,.agg (bysA x.t))]).run Tryz.prog w=.ok (.agg (Zbn x)) w:=by
 have s0:(cmdA x.c).size=11:=Zax h.i
 have s1:(bysA x.nx).size=208:=by rw[Zaj,h.n]
 have s2:(bysA x.s).size=32:=by rw[Zaj,h.s]
 have s3:(bysA x.t).size=16:=by rw[Zaj,h.t]
 have hc:(Za5 [.agg (cmdA x.c),.agg (bysA x.nx),.agg (bysA x.s),.agg (bysA x.t)])=(Zbn x).toList:=by
  show (cmdA x.c).toList++((Value.agg (bysA x.nx)).cells.toList++((Value.agg (bysA x.s)).cells.toList++((Value.agg (bysA x.t)).cells.toList++[])))=_
  unfold Zbn
  rw[Zcf,Zcf,Zcf,List.append_nil,Zg0,Zg0,List.append_assoc,Array.toList_append];rfl
 have:=Zcn (P:=Tryz.prog) Tryz.underlying53 w [.agg (cmdA x.c),.agg (bysA x.nx),.agg (bysA x.s),.agg (bysA x.t)]
  (by rw[hc,Array.length_toList,Zcs h];kernel_rfl)
  (by simp only[offs,Value.cells,s0,s1,s2,s3];kernel_rfl) #[(0,.agg (cmdA x.c)),(1,.agg (bysA x.nx)),(2,.agg (bysA x.s)),(3,.agg (bysA x.t))] rfl
 rw[hc,Array.toArray_toList] at this
 exact this
open Go.RowKit Go.Hold Go.Sh Go.Ch Go.Cm Go.Hd
theorem Zp5 (s:List Nat) (hs:s.length=32) (hsb:∀i,s.getD i 0<256) (w:World):Calls Tryz.prog 61 #[.agg (bysA s),.string ⟨#[114,104,111]⟩] w fun e w'=>e=.returned (.agg (bysA (keyN (drv s rhoL))))∧Below w.heap.size w w':=by
 have h:=ZiH s ⟨#[114,104,111]⟩ w hs hsb (by decide)
 rw[show strB ⟨#[114,104,111]⟩=[114,104,111] by decide,ZbE] at h
 exact h
theorem Zru (s:List Nat) (hs:s.length=32) (hsb:∀i,s.getD i 0<256) (w:World):Calls Tryz.prog 61 #[.agg (bysA s),.string ⟨#[109,117]⟩] w fun e w'=>e=.returned (.agg (bysA (keyN (drv s muL))))∧Below w.heap.size w w':=by
 have h:=ZiH s ⟨#[109,117]⟩ w hs hsb (by decide)
 rw[show strB ⟨#[109,117]⟩=[109,117] by decide,ZbE] at h
 exact h
theorem ZgP (s b:List Nat) (p:Option Addr) (n cap:Nat) (hs:s.length=32) (hsb:∀i,s.getD i 0<256) (hn:n=b.length) (hl:b.length≤90000) (hbb:∀i,b.getD i 0<256) (hpc:p=none→cap=0) (w:World) (hB:Bs0 w p b) :
  Calls Tryz.prog 25 #[.agg (bysA s),.slice p n cap] w fun e w'=>e=.returned (.agg (bysA (prf s b)))∧Below w.heap.size w w':=by
 have hss:=Zae hs
 have ht:=Zae (ZaS s b)
 have HD:=Zq (fun (W:World)=>Zru s hs hsb W)
 have hds:=Zae (Zar (drv s muL))
 have HB:=Zq (fun (W:World) (h:Below w.heap.size w W)=>hB.grow h)
 have HM:=Zq (fun (W:World) (kc:Nat) (kp:Option Addr) (h1:Bs0 W kp (keyN (drv s muL))) (h2:kp=none→kc=0) (h3:Bs0 W p b)=>Znf kc cap 32 n kp p (keyN (drv s muL)) b W (Zar _).symm hn (by rw[Zar];decide) (ZbS _) h1 h2 hl hbb h3 hpc)
 rw[ZbE] at HM
 have HDl:=Zq (Zar (drv s muL))
 have HMl:=Zq (Zar (mac (keyN (drv s muL)) b))
 unfold prf at *
 clear hs hsb hn hl hbb hpc hB
 generalize keyN (mac (keyN (drv s muL)) b)=M at *
 generalize keyN (drv s muL)=D at *
 go_enter Tryz.func25,Tryz.ntmps25
 go_wp2_with fail
 generalize hW:World.alloc _ _=W0
 have R0x0:=Zq (show RowAt W0 (w.heap.size) (bysA s) by rw[←hW];clear hW;exact⟨by go_simp,by first | (go_simp;done) | (go_simp;rfl),by go_simp⟩)
 have R0x1:=Zq (show RowAt W0 (w.heap.size+1) (bysA (zs 16)) by rw[←hW];clear hW;exact⟨by go_simp,by first | (go_simp;done) | (go_simp;rfl),by go_simp⟩)
 have B0:=Zq (show Below w.heap.size w W0 by rw[←hW];repeat (first | apply Zab | exact Below.refl _ _))
 clear hW
 have hzs16:=Zae (Zah 16)
 have l_z:w.heap.size≤w.heap.size:=by omega
 have l_r:w.heap.size≤w.heap.size+1:=by omega
 have n_z_r:w.heap.size≠w.heap.size+1:=by omega
 generalize w.heap.size+1=r at *
 obtain⟨z,ez⟩:∃z,z=w.heap.size:=⟨_,rfl⟩
 rw[←ez] at R0x0 n_z_r ⊢
 have l_z:w.heap.size≤z:=by rw[ez];exact Nat.le_refl _
 clear ez
 refine(HD.out _).mono ?_
 rintro e W1 ⟨rfl,hb1⟩
 have R1x0:=Zq (R0x0.out.grow hb1)
 have R1x1:=Zq (R0x1.out.grow hb1)
 have B1:=Zq (B0.out.trans (hb1.mono B0.out.size))
 clear hb1 B0 R0x0 R0x1
 obtain⟨R1x0a,R1x0b,R1x0c⟩:=R1x0.out
 obtain⟨R1x1a,R1x1b,R1x1c⟩:=R1x1.out
 go_wp2_with fail
 have n_z_k:z≠W1.heap.size:=Nat.ne_of_lt R1x0.out.2.2
 have n_r_k:r≠W1.heap.size:=Nat.ne_of_lt R1x1.out.2.2
 have l_k:w.heap.size≤W1.heap.size:=B1.out.size
 have hb2:=Zab (Below.refl W1.heap.size W1) (.cells (bysA D) 23)
 have N2:=Zq (RowAt.of (Zaq W1 (.cells (bysA D) 23)))
 have R2x0:=Zq (R1x0.out.grow hb2)
 have R2x1:=Zq (R1x1.out.grow hb2)
 have B2:=Zq (B1.out.trans (hb2.mono B1.out.size))
 clear hb2 B1 R1x0 R1x1 R1x0a R1x0b R1x0c R1x1a R1x1b R1x1c
 generalize W1.heap.size=k at *
 generalize W1.alloc (.cells (bysA D) 23)=W2 at *
 obtain⟨R2x0a,R2x0b,R2x0c⟩:=R2x0.out
 obtain⟨R2x1a,R2x1b,R2x1c⟩:=R2x1.out
 obtain⟨N2a,N2b,N2c⟩:=N2.out
 go_wp2_with fail
 refine(ZcT D HDl.out _).mono ?_
 rintro e W3 ⟨v,rfl,ho,hb3⟩
 clear R2x0a R2x0b R2x0c R2x1a R2x1b R2x1c N2a N2b N2c
 have R3x0:=Zq (R2x0.out.grow hb3)
 have R3x1:=Zq (R2x1.out.grow hb3)
 have R3x2:=Zq (N2.out.grow hb3)
 have B3:=Zq (B2.out.trans (hb3.mono B2.out.size))
 clear hb3 B2 R2x0 R2x1 N2
 obtain⟨p1,c1,rfl,hs1,hx1,hp1⟩:=ho.bs
 clear hx1 ho
 rw[HDl.out]
 obtain⟨R3x0a,R3x0b,R3x0c⟩:=R3x0.out
 obtain⟨R3x1a,R3x1b,R3x1c⟩:=R3x1.out
 obtain⟨R3x2a,R3x2b,R3x2c⟩:=R3x2.out
 go_wp2_with fail
 refine(HM.out _ _ _ hs1 hp1 (HB.out _ B3.out)).mono ?_
 rintro e W4 ⟨rfl,hb4⟩
 clear R3x0a R3x0b R3x0c R3x1a R3x1b R3x1c R3x2a R3x2b R3x2c
 have R4x0:=Zq (R3x0.out.grow hb4)
 have R4x1:=Zq (R3x1.out.grow hb4)
 have R4x2:=Zq (R3x2.out.grow hb4)
 have B4:=Zq (B3.out.trans (hb4.mono B3.out.size))
 clear hb4 B3 R3x0 R3x1 R3x2
 clear hs1 hp1
 obtain⟨R4x0a,R4x0b,R4x0c⟩:=R4x0.out
 obtain⟨R4x1a,R4x1b,R4x1c⟩:=R4x1.out
 obtain⟨R4x2a,R4x2b,R4x2c⟩:=R4x2.out
 go_wp2_with fail
 refine(ZoJ M HMl.out _).mono ?_
 rintro e W5 ⟨rfl,hb5⟩
 clear R4x0a R4x0b R4x0c R4x1a R4x1b R4x1c R4x2a R4x2b R4x2c
 have R5x0:=Zq (R4x0.out.grow hb5)
 have R5x1:=Zq (R4x1.out.grow hb5)
 have R5x2:=Zq (R4x2.out.grow hb5)
 have B5:=Zq (B4.out.trans (hb5.mono B4.out.size))
 clear hb5 B4 R4x0 R4x1 R4x2
 obtain⟨R5x0a,R5x0b,R5x0c⟩:=R5x0.out
 obtain⟨R5x1a,R5x1b,R5x1c⟩:=R5x1.out
 obtain⟨R5x2a,R5x2b,R5x2c⟩:=R5x2.out
 go_wp2_with fail
 refine bodyPost_ret (v:=.agg (bysA (M.take 16))) (Zb1 Tryz.results25 ht _ _ _ rfl (by go_simp) (by go_simp)) rfl ⟨rfl,?_⟩
 exact Zad (B5.out) l_r _
theorem Zp0 (s a:List Nat) (hs:s.length=32) (hsb:∀i,s.getD i 0<256) (ha:a.length=32) (hab:∀i,a.getD i 0<256) (w:World) :
  Calls Tryz.prog 55 #[.agg (bysA s),.agg (bysA a)] w fun e w'=>e=.returned (.agg (bysA (bli s a)))∧Below w.heap.size w w':=by
 have hss:=Zae hs
 have has:=Zae ha
 have hm:=Zae (Zc0 s a)
 have HM:=Zq (fun (W:World) (kc bc:Nat) (kp bp:Option Addr) (h1:Bs0 W kp s) (h2:kp=none→kc=0) (h3:Bs0 W bp a) (h4:bp=none→bc=0)=>Znf kc bc 32 32 kp bp s a W hs.symm ha.symm (by omega) hsb h1 h2 (by omega) hab h3 h4)
 rw[show (keA (mac s a))=bysA (bli s a) by unfold bli;exact ZbE _] at HM
 have Hs:=Zq hs
 have Ha:=Zq ha
 clear hs hsb ha hab
 generalize bli s a=M at *
 go_enter Tryz.func55,Tryz.ntmps55
 go_wp2_with fail
 generalize hW:World.alloc _ _=W0
 have R0x0:=Zq (show RowAt W0 (w.heap.size) (bysA s) by rw[←hW];clear hW;exact⟨by go_simp,by first | (go_simp;done) | (go_simp;rfl),by go_simp⟩)
 have R0x1:=Zq (show RowAt W0 (w.heap.size+1) (bysA a) by rw[←hW];clear hW;exact⟨by go_simp,by first | (go_simp;done) | (go_simp;rfl),by go_simp⟩)
 have R0x2:=Zq (show RowAt W0 (w.heap.size+1+1) (bysA (zs 32)) by rw[←hW];clear hW;exact⟨by go_simp,by first | (go_simp;done) | (go_simp;rfl),by go_simp⟩)
 have B0:=Zq (show Below w.heap.size w W0 by rw[←hW];repeat (first | apply Zab | exact Below.refl _ _))
 clear hW
 have hzs32:=Zae (Zah 32)
 have l_z:w.heap.size≤w.heap.size:=by omega
 have l_y:w.heap.size≤w.heap.size+1:=by omega
 have n_z_y:w.heap.size≠w.heap.size+1:=by omega
 have l_r:w.heap.size≤w.heap.size+1+1:=by omega
 have n_z_r:w.heap.size≠w.heap.size+1+1:=by omega
 have n_y_r:w.heap.size+1≠w.heap.size+1+1:=by omega
 generalize w.heap.size+1+1=r at *
 generalize w.heap.size+1=y at *
 obtain⟨z,ez⟩:∃z,z=w.heap.size:=⟨_,rfl⟩
 rw[←ez] at R0x0 n_z_y n_z_r ⊢
 have l_z:w.heap.size≤z:=by rw[ez];exact Nat.le_refl _
 clear ez
 refine Zbv W0 5 (fun w w'=>Below w.heap.size w w') (Zhk [fixV (.agg (bysA s)),ownV W0.heap.size (s),fixV (.agg (bysA a)),ownV W0.heap.size (a),fixV (.agg (bysA M))]) [5] [0,1,2,3,4] [some 5,some 6,some 7,some 8,some 9] (by kernel_rfl) (by kernel_rfl) (by kernel_rfl) (by kernel_rfl) (by first | exact(Below.refl _ _).drew | exact Below.refl _ _) (fun w w' h h'=>h.trans (h'.mono h.size)) (Zcw ⟨Zak _,Zdw _ _,Zak _,Zdw _ _,Zak _,trivial⟩) ?_
 intro vals
 simp only[List.take_succ_cons,List.take_zero]
 refine⟨(Zao [] [] (by kernel_rfl) rfl (fun K w hb hdq hK=>?_)),?_⟩
 ·obtain⟨x1,x2,x3⟩:=R0x0.out.grow hb
  simp only[putZ]
  refine⟨Zaa rfl,?_⟩
  go_simp
  exact hK _ _ _ (Below.refl _ _) rfl
 refine⟨(Za7 [0] [some 5] (by kernel_rfl) (by kernel_rfl) (fun K w hb hdq hK=>?_)),?_⟩
 ·have d0:vals 0=.agg (bysA s):=hdq 0 (by simp)
  simp only[List.map_cons,List.map_nil,putZ,d0]
  refine⟨Zaa rfl,?_⟩
  go_simp
  refine(ZcT s Hs.out w).mono ?_
  rintro e w' ⟨u,rfl,ho,hb'⟩
  exact⟨_,rfl,hK _ _ hb' (ho.base hb.size)⟩
 refine⟨(Zao [] [] (by kernel_rfl) rfl (fun K w hb hdq hK=>?_)),?_⟩
 ·obtain⟨x1,x2,x3⟩:=R0x1.out.grow hb
  simp only[putZ]
  refine⟨Zaa rfl,?_⟩
  go_simp
  exact hK _ _ _ (Below.refl _ _) rfl
 refine⟨(Za7 [2] [some 7] (by kernel_rfl) (by kernel_rfl) (fun K w hb hdq hK=>?_)),?_⟩
 ·have d2:vals 2=.agg (bysA a):=hdq 2 (by simp)
  simp only[List.map_cons,List.map_nil,putZ,d2]
  refine⟨Zaa rfl,?_⟩
  go_simp
  refine(ZcT a Ha.out w).mono ?_
  rintro e w' ⟨u,rfl,ho,hb'⟩
  exact⟨_,rfl,hK _ _ hb' (ho.base hb.size)⟩
 refine⟨(Za7 [1,3] [some 6,some 8] (by kernel_rfl) (by kernel_rfl) (fun K w hb hdq hK=>?_)),?_⟩
 ·obtain⟨p1,c1,d1,y1,q1,z1⟩:=OwnB.bs (show OwnB w W0.heap.size (vals 1) (s) from hdq 1 (by simp))
  obtain⟨p3,c3,d3,y3,q3,z3⟩:=OwnB.bs (show OwnB w W0.heap.size (vals 3) (a) from hdq 3 (by simp))
  rw[Hs.out] at d1
  rw[Ha.out] at d3
  simp only[List.map_cons,List.map_nil,putZ,d1,d3]
  refine⟨Zaa rfl,?_⟩
  go_simp
  refine(HM.out w _ _ _ _ y1 z1 y3 z3).mono ?_
  rintro e w' ⟨rfl,hb'⟩
  exact⟨_,rfl,hK _ _ hb' rfl⟩
 intro W1 hb1 hR1
 obtain e4:vals 4=.agg (bysA M):=hR1 4 (by simp)
 clear hR1
 simp only[List.map_cons,List.map_nil,putZ,e4,pick,List.getElem?_cons_succ,List.getElem?_cons_zero]
 generalize vals 0=q1_0
 generalize vals 1=q1_1
 generalize vals 2=q1_2
 generalize vals 3=q1_3
 have R1x0:=Zq (R0x0.out.grow hb1)
 have R1x1:=Zq (R0x1.out.grow hb1)
 have R1x2:=Zq (R0x2.out.grow hb1)
 have B1:=Zq (B0.out.trans (hb1.mono B0.out.size))
 clear hb1 B0 R0x0 R0x1 R0x2
 clear e4
 clear vals
 obtain⟨R1x0a,R1x0b,R1x0c⟩:=R1x0.out
 obtain⟨R1x1a,R1x1b,R1x1c⟩:=R1x1.out
 obtain⟨R1x2a,R1x2b,R1x2c⟩:=R1x2.out
 go_wp2_with fail
 refine bodyPost_ret (v:=.agg (bysA M)) (Zav Tryz.results55 hm _ _ _ rfl (by go_simp) (by go_simp)) rfl ⟨rfl,?_⟩
 exact Zad (B1.out) l_r _
def tupS (l:List Nat):Value→World→Prop:=fun v w=>∃ p c,v=.tuple #[.slice p l.length c,.int .i64 0]∧Bs0 w p l∧l.length≤c∧(p=none→c=0)
theorem ZgL (l:List Nat):Zf8 (tupS l):=fun _ _ _ ⟨p,c,h,hB,h1,h2⟩ hb=>⟨p,c,h,hB.grow hb,h1,h2⟩
theorem Zd5 (s:List Nat) (m:Nat) (hs:s.length=32) (hsb:∀i,s.getD i 0<256) (hm:m≤192) (w:World) :
  Calls Tryz.prog 40 #[.agg (bysA s),.int .i64 (m:Int)] w fun e w'=>∃ p c,e=.returned (.slice p m c)∧Bs0 w' p ((hst s).take m)∧m≤c∧(p=none→c=0)∧Below w.heap.size w w':=by
 have hss:=Zae hs
 have HD:=Zq (fun (W:World)=>Zp5 s hs hsb W)
 have hds:=Zae (Zar (drv s rhoL))
 have HS:=Zq (fun (W:World)=>Zk3 (keyN (drv s rhoL)) (zs 12) 0 192 (Zar _) (ZbS _) (Zah 12) (Zbs 12) (by decide) (by decide) (by decide) W)
 have HHl:=Zq (ZaT s)
 unfold hst at *
 clear hs hsb
 generalize strm (keyN (drv s rhoL)) (zs 12) 0 192=H at *
 generalize keyN (drv s rhoL)=D at *
 go_enter Tryz.func40,Tryz.ntmps40
 go_wp2_with fail
 generalize hW:World.alloc _ _=W0
 have R0x0:=Zq (show RowAt W0 (w.heap.size) (bysA s) by rw[←hW];clear hW;exact⟨by go_simp,by first | (go_simp;done) | (go_simp;rfl),by go_simp⟩)
 have R0x1:=Zq (show RowAt W0 (w.heap.size+1) (bysA (zs 12)) by rw[←hW];clear hW;exact⟨by go_simp,by first | (go_simp;done) | (go_simp;rfl),by go_simp⟩)
 have B0:=Zq (show Below w.heap.size w W0 by rw[←hW];repeat (first | apply Zab | exact Below.refl _ _))
 clear hW
 have hzs12:=Zae (Zah 12)
 have l_z:w.heap.size≤w.heap.size:=by omega
 have l_y:w.heap.size≤w.heap.size+1:=by omega
 have n_z_y:w.heap.size≠w.heap.size+1:=by omega
 generalize w.heap.size+1=y at *
 obtain⟨z,ez⟩:∃z,z=w.heap.size:=⟨_,rfl⟩
 rw[←ez] at R0x0 n_z_y ⊢
 have l_z:w.heap.size≤z:=by rw[ez];exact Nat.le_refl _
 clear ez
 refine Zci W0 7 (fun w w'=>Below w.heap.size w w') (Zhk [fixV (.agg (bysA s)),fixV (.agg (bysA D)),fixV (.agg (bysA (zs 12))),tupS H,tupS H,slV H,fixV (.int .i64 0)]) [6] [7,8] [0,1,2,3,4,5,6] [some 9,some 10,some 11,some 12,some 8,some 13,some 14] (by kernel_rfl) (by kernel_rfl) (by kernel_rfl) (by kernel_rfl) (by intro c a d v w h;cases d<;>exact h) (fun _=>Below.refl _ _) (by first | exact(Below.refl _ _).drew | exact Below.refl _ _) (fun w w' h h'=>h.trans (h'.mono h.size)) (Zcw ⟨Zak _,Zak _,Zak _,ZgL _,ZgL _,Zox _,Zak _,trivial⟩) ?_
 intro vals
 simp only[List.take_succ_cons,List.take_zero]
 refine⟨Zb8 rfl (Zao [] [] (by kernel_rfl) rfl (fun K w hb hdq hK=>?_)),?_⟩
 ·obtain⟨x1,x2,x3⟩:=R0x0.out.grow hb
  simp only[putZ]
  refine⟨Zaa rfl,?_⟩
  go_simp
  exact hK _ _ _ (Below.refl _ _) rfl
 refine⟨Zb8 rfl (Za7 [0] [some 9] (by kernel_rfl) (by kernel_rfl) (fun K w hb hdq hK=>?_)),?_⟩
 ·have d0:vals 0=.agg (bysA s):=hdq 0 (by simp)
  simp only[List.map_cons,List.map_nil,putZ,d0]
  refine⟨Zaa rfl,?_⟩
  go_simp
  refine(HD.out w).mono ?_
  rintro e w' ⟨rfl,hb'⟩
  exact⟨_,rfl,hK _ _ hb' rfl⟩
 refine⟨Zb8 rfl (Zao [] [] (by kernel_rfl) rfl (fun K w hb hdq hK=>?_)),?_⟩
 ·obtain⟨x1,x2,x3⟩:=R0x1.out.grow hb
  simp only[putZ]
  refine⟨Zaa rfl,?_⟩
  go_simp
  exact hK _ _ _ (Below.refl _ _) rfl
 refine⟨Zb8 rfl (Za7 [1,2] [some 10,some 11] (by kernel_rfl) (by kernel_rfl) (fun K w hb hdq hK=>?_)),?_⟩
 ·have d1:vals 1=.agg (bysA D):=hdq 1 (by simp)
  have d2:vals 2=.agg (bysA (zs 12)):=hdq 2 (by simp)
  simp only[List.map_cons,List.map_nil,putZ,d1,d2]
  refine⟨Zaa rfl,?_⟩
  go_simp
  refine(HS.out w).mono ?_
  rintro e w' ⟨p,c,rfl,hB,h1,h2,hb'⟩
  exact⟨_,rfl,hK _ _ hb' ⟨p,c,by rw[HHl.out],hB,by rw[HHl.out];exact h1,h2⟩⟩
 refine⟨Zb8 rfl (Zao [3] [some 12] (by kernel_rfl) (by kernel_rfl) (fun K w hb hdq hK=>?_)),?_⟩
 ·obtain⟨p3,c3,d3,y3,l3,z3⟩:tupS H (vals 3) w:=hdq 3 (by simp)
  simp only[List.map_cons,List.map_nil,putZ,d3]
  refine⟨Zaa rfl,?_⟩
  go_simp
  exact hK _ _ _ (Below.refl _ _) ⟨p3,c3,rfl,y3,l3,z3⟩
 refine⟨Zb8 rfl (Zao [4] [some 8] (by kernel_rfl) (by kernel_rfl) (fun K w hb hdq hK=>?_)),?_⟩
 ·obtain⟨p4,c4,d4,y4,l4,z4⟩:tupS H (vals 4) w:=hdq 4 (by simp)
  simp only[List.map_cons,List.map_nil,putZ,d4]
  refine⟨Zaa rfl,?_⟩
  go_simp
  exact hK _ _ _ (Below.refl _ _) ⟨p4,c4,rfl,y4,l4,z4⟩
 refine⟨Zsm rfl (ZfV [4] [some 8] (by kernel_rfl) (by kernel_rfl) (fun w hb hdq=>?_)),?_⟩
 ·obtain⟨p4,c4,d4,y4,l4,z4⟩:tupS H (vals 4) w:=hdq 4 (by simp)
  simp only[List.map_cons,List.map_nil,putZ,d4]
  refine⟨.int .i64 0,rfl,Zaa rfl,fun w'=>?_⟩
  go_simp
 intro W1 hb1 hR1
 obtain⟨p5,c5,e5,y5,l5,z5⟩:SlV W1 (vals 5) H:=hR1 5 (by simp)
 obtain e6:vals 6=.int .i64 0:=hR1 6 (by simp)
 clear hR1
 simp only[List.map_cons,List.map_nil,putZ,e5,e6,pick,List.getElem?_cons_succ,List.getElem?_cons_zero]
 generalize vals 0=q1_0
 generalize vals 1=q1_1
 generalize vals 2=q1_2
 generalize vals 3=q1_3
 generalize vals 4=q1_4
 have R1x0:=Zq (R0x0.out.grow hb1)
 have R1x1:=Zq (R0x1.out.grow hb1)
 have B1:=Zq (B0.out.trans (hb1.mono B0.out.size))
 clear hb1 B0 R0x0 R0x1
 clear e5 e6
 clear vals
 rw[HHl.out] at l5 ⊢
 have hsl:=ZlF p5 192 c5 m (by omega)
 obtain⟨R1x0a,R1x0b,R1x0c⟩:=R1x0.out
 obtain⟨R1x1a,R1x1b,R1x1c⟩:=R1x1.out
 go_wp2_with fail
 go_ret
 exact⟨p5,c5,rfl,y5.take m,by omega,z5,B1.out⟩
theorem Zi2 (s:List Nat) (hs:s.length=16) (w:World):Calls Tryz.prog 42 #[.agg (bysA s)] w fun e w'=>∃ v,e=.returned v∧OwnB w' w.heap.size v s∧Below w.heap.size w w':=by
 have Hs:=Zq hs
 clear hs
 go_enter Tryz.func42,Tryz.ntmps42
 go_wp2_with fail
 have R0:=Zq (show RowAt (w.alloc (.cells (bysA s) 29)) w.heap.size (bysA s) from RowAt.of (Zaq w _))
 have B0:=Zq (Zab (Below.refl w.heap.size w) (.cells (bysA s) 29))
 generalize w.alloc (.cells (bysA s) 29)=W0 at *
 go_loopw [3,4] (fun v i wr=>∃ k:Nat,k≤16∧i=.int .i64 k∧OwnB wr W0.heap.size v (s.take k)∧Below W0.heap.size W0 wr) (fun _ i _=>16-(intOf i).toNat)
 case atStart=>exact⟨0,by decide,rfl,Zbk W0 _,Below.refl _ _⟩
 case round =>
  obtain⟨k,hk,rfl,hown,hbel⟩:=hrel
  by_cases hk16:k<16
  ·have hk0:(0:Int)≤(k:Int):=by omega
   have hk1:(k:Int)<16:=by omega
   have hkl:k<s.length:=by rw[Hs.out];exact hk16
   have hc:=(R0.out.grow hbel).cellAt k (ZaB s k hkl)
   have ht:=ZcU s k hkl
   generalize s.getD k 0=y at *
   have BA:=Zab (Below.refl wr.heap.size wr) (.cells #[.int .u8 (y:Int)] 5)
   obtain⟨v2,w2,hr2,hown2,hgr2⟩:=ZbY (k:=1) (cap:=1) (hown.below BA) (Bs0.some (Zbr wr [y] 5 (0,0))) rfl (fun h=>by cases h) (Nat.le_trans hbel.size BA.size) (by rw[List.length_take];simp only[List.length_cons,List.length_nil];omega)
   have Hb2:=Zq (Za2 (hbel.alloc hbel.size (.cells #[.int .u8 (y:Int)] 5)) (hown.below BA) (Nat.le_trans hbel.size BA.size) hgr2)
   have Ho2:=Zq (show OwnB w2 W0.heap.size v2 (s.take (k+1)) by rw[←ht];exact hown2)
   clear hown2 hgr2 BA hown hbel ht hkl
   go_wp2_with (at_builtin;refine Lib.wpList_append_run _ rfl _ _ _ _ rfl _ _ rfl rfl _ _ hr2 ?_)
   go_wp2_with fail
   go_roundw
   case rel=>exact⟨k+1,by omega,by go_num,Ho2.out,Hb2.out⟩
   case measure=>simp[intOf];omega
  ·obtain rfl:k=16:=by omega
   have HO:=Zq hown
   have HB:=Zq hbel
   clear hown hbel
   go_wp2_with fail
   go_ret
   refine⟨_,rfl,?_,B0.out.trans (HB.out.mono B0.out.size)⟩
   have:=HO.out
   rw[List.take_of_length_le (by rw[Hs.out];exact Nat.le_refl _)] at this
   exact this.base B0.out.size
theorem Zit (c:Cmd) (hid:c.id.length=8) (w:World):Calls Tryz.prog 37 #[.agg (cmdA c)] w fun e w'=>∃ v,e=.returned v∧OwnB w' w.heap.size v (encV c)∧Below w.heap.size w w':=by
 have hcs:=Zax hid
 have HE:=Zq (fun (W:World)=>Znv c hid W)
 have Hs:=Zq (Zbe hid)
 have hes:=Zae (Zbe hid)
 clear hid
 generalize encV c=s at *
 generalize encE c=er at *
 go_enter Tryz.func37,Tryz.ntmps37
 go_wp2_with fail
 generalize hW:World.alloc _ _=W0
 have R0x0:=Zq (show RowAt W0 (w.heap.size) (cmdA c) by rw[←hW];clear hW;exact⟨by go_simp,by first | (go_simp;done) | (go_simp;rfl),by go_simp⟩)
 have B0:=Zq (show Below w.heap.size w W0 by rw[←hW];repeat (first | apply Zab | exact Below.refl _ _))
 clear hW
 have l_z:w.heap.size≤w.heap.size:=by omega
 obtain⟨z,ez⟩:∃z,z=w.heap.size:=⟨_,rfl⟩
 rw[←ez] at R0x0  ⊢
 have l_z:w.heap.size≤z:=by rw[ez];exact Nat.le_refl _
 clear ez
 refine(HE.out _).mono ?_
 rintro e W1 ⟨rfl,hb1⟩
 have R1x0:=Zq (R0x0.out.grow hb1)
 have B1:=Zq (B0.out.trans (hb1.mono B0.out.size))
 clear hb1 B0 R0x0
 obtain⟨R1x0a,R1x0b,R1x0c⟩:=R1x0.out
 go_wp2_with fail
 have n_z_b:z≠W1.heap.size:=Nat.ne_of_lt R1x0.out.2.2
 have l_b:w.heap.size≤W1.heap.size:=B1.out.size
 have hb2:=Zab (Below.refl W1.heap.size W1) (.cells (bysA s) 28)
 have N2:=Zq (RowAt.of (Zaq W1 (.cells (bysA s) 28)))
 have R2x0:=Zq (R1x0.out.grow hb2)
 have B2:=Zq (B1.out.trans (hb2.mono B1.out.size))
 clear hb2 B1 R1x0 R1x0a R1x0b R1x0c
 generalize W1.heap.size=b at *
 generalize W1.alloc (.cells (bysA s) 28)=W2 at *
 go_wp2_with fail
 go_loopw [5,6] (fun v i wr=>∃ k:Nat,k≤16∧i=.int .i64 k∧OwnB wr W2.heap.size v (s.take k)∧Below W2.heap.size W2 wr) (fun _ i _=>16-(intOf i).toNat)
 case atStart=>exact⟨0,by decide,rfl,Zbk W2 _,Below.refl _ _⟩
 case round =>
  obtain⟨k,hk,rfl,hown,hbel⟩:=hrel
  by_cases hk16:k<16
  ·have hk0:(0:Int)≤(k:Int):=by omega
   have hk1:(k:Int)<16:=by omega
   have hkl:k<s.length:=by rw[Hs.out];exact hk16
   have hc:=(N2.out.grow hbel).cellAt k (ZaB s k hkl)
   have ht:=ZcU s k hkl
   generalize s.getD k 0=y at *
   have BA:=Zab (Below.refl wr.heap.size wr) (.cells #[.int .u8 (y:Int)] 5)
   obtain⟨v2,w2,hr2,hown2,hgr2⟩:=ZbY (k:=1) (cap:=1) (hown.below BA) (Bs0.some (Zbr wr [y] 5 (0,0))) rfl (fun h=>by cases h) (Nat.le_trans hbel.size BA.size) (by rw[List.length_take];simp only[List.length_cons,List.length_nil];omega)
   have Hb2:=Zq (Za2 (hbel.alloc hbel.size (.cells #[.int .u8 (y:Int)] 5)) (hown.below BA) (Nat.le_trans hbel.size BA.size) hgr2)
   have Ho2:=Zq (show OwnB w2 W2.heap.size v2 (s.take (k+1)) by rw[←ht];exact hown2)
   clear hown2 hgr2 BA hown hbel ht hkl
   go_wp2_with (at_builtin;refine Lib.wpList_append_run _ rfl _ _ _ _ rfl _ _ rfl rfl _ _ hr2 ?_)
   go_wp2_with fail
   go_roundw
   case rel=>exact⟨k+1,by omega,by go_num,Ho2.out,Hb2.out⟩
   case measure=>simp[intOf];omega
  ·obtain rfl:k=16:=by omega
   have HO:=Zq hown
   have HB:=Zq hbel
   clear hown hbel
   go_wp2_with fail
   go_ret
   refine⟨_,rfl,?_,B2.out.trans (HB.out.mono B2.out.size)⟩
   have:=HO.out
   rw[List.take_of_length_le (by rw[Hs.out];exact Nat.le_refl _)] at this
   exact this.base B2.out.size
open Go.RowKit Go.Hold Go.Sh Go.Cm Go.Hd
@[go_sem ↓ high] theorem Zqn (a:Operand→Value) (d:Option Tmp) (op:BinOp) (x y:Operand) (u t:TypeId) (p:String) (af:Array Edge) (g:Option (Nat×Bool)) :
  execOp a ⟨d,.binOp op 23 x y u,t,p,af,g⟩=(do pure (.value (←eqV op 23 x y (a x) (a y)))):=rfl
@[go_sem] theorem Zsg (x y:Operand) (l m:List Nat) (hl:(bysA l).size=32) (hm:(bysA m).size=32) (w:World) :
  (eqV .eql 23 x y (.agg (bysA l)) (.agg (bysA m))).run Tryz.prog w=.ok (.bool (decide (l=m))) w:=Zfp Tryz.underlying23 (by kernel_rfl) x y (by rwa [Zaj] at hl) (by rwa [Zaj] at hm) w
@[go_sem] theorem Ztq (x y:Operand) (l m:List Nat) (hl:(bysA l).size=32) (hm:(bysA m).size=32) (w:World) :
  (eqV .neq 23 x y (.agg (bysA l)) (.agg (bysA m))).run Tryz.prog w=.ok (.bool (!decide (l=m))) w:=ZjQ Tryz.underlying23 (by kernel_rfl) x y (by rwa [Zaj] at hl) (by rwa [Zaj] at hm) w
@[go_sem ↓ high] theorem ZqX (a:Operand→Value) (d:Option Tmp) (op:BinOp) (x y:Operand) (u t:TypeId) (p:String) (af:Array Edge) (g:Option (Nat×Bool)) :
  execOp a ⟨d,.binOp op 29 x y u,t,p,af,g⟩=(do pure (.value (←eqV op 29 x y (a x) (a y)))):=rfl
@[go_sem] theorem Zrm (x y:Operand) (l m:List Nat) (hl:(bysA l).size=16) (hm:(bysA m).size=16) (w:World) :
  (eqV .eql 29 x y (.agg (bysA l)) (.agg (bysA m))).run Tryz.prog w=.ok (.bool (decide (l=m))) w:=Zfp Tryz.underlying29 (by kernel_rfl) x y (by rwa [Zaj] at hl) (by rwa [Zaj] at hm) w
@[go_sem] theorem Zts (x y:Operand) (l m:List Nat) (hl:(bysA l).size=16) (hm:(bysA m).size=16) (w:World) :
  (eqV .neq 29 x y (.agg (bysA l)) (.agg (bysA m))).run Tryz.prog w=.ok (.bool (!decide (l=m))) w:=ZjQ Tryz.underlying29 (by kernel_rfl) x y (by rwa [Zaj] at hl) (by rwa [Zaj] at hm) w
@[go_sem ↓ high] theorem Zux (a:Operand→Value) (d:Option Tmp) (op:BinOp) (x y:Operand) (u t:TypeId) (p:String) (af:Array Edge) (g:Option (Nat×Bool)) :
  execOp a ⟨d,.binOp op 51 x y u,t,p,af,g⟩=(do pure (.value (←eqV op 51 x y (a x) (a y)))):=rfl
theorem ZkQ {c:Cmd} (hc:c.id.length=8) (w:World):(part 49 (cmdA c) 3).run Tryz.prog w=.ok (.agg (bysA c.id)) w:=by
 have hag:(isAgg 49).run Tryz.prog w=.ok true w:=by unfold isAgg;rw[Sem.run_bind,run_underlying Tryz.underlying49 w];simp
 unfold part
 rw[Sem.run_bind,hag]
 simp[ZkJ c hc]
theorem ZeA (d:Nat) {a b:Cmd} (ha:a.id.length=8) (hb:b.id.length=8) (w:World) :
  (Op.equalIn (d+4) 51 (.agg (cmdA a)) (.agg (cmdA b))).run Tryz.prog w=.ok (beqC a b) w:=by
 rw[run_equalIn_struct w (d+3) 51 (cmdA a) (cmdA b) (by kernel_rfl) (by kernel_rfl)]
 obtain⟨f0,f1,f2,f3,hf,n0,n1,n2,n3,t0,t1,t2,t3,o0,o1,o2,o3⟩:∃f0 f1 f2 f3:Field,(Tryz.prog.fieldsOf 51).toList=[f0,f1,f2,f3]∧f0.name ≠ "_"∧f1.name ≠ "_"∧f2.name ≠ "_"∧f3.name ≠ "_"∧f0.type=3∧f1.type=3∧f2.type=3∧f3.type=49∧f0.offset=0∧f1.offset=1∧f2.offset=2∧f3.offset=3 :=
  ⟨_,_,_,_,rfl,by decide +kernel,by decide +kernel,by decide +kernel,by decide +kernel,by kernel_rfl,by kernel_rfl,by kernel_rfl,by kernel_rfl,by kernel_rfl,by kernel_rfl,by kernel_rfl,by kernel_rfl⟩
 rw[hf]
 simp only[Op.eqFields,n0,n1,n2,n3,t0,t1,t2,t3,o0,o1,o2,o3,ne_eq,not_false_eq_true,if_true,Sem.run_bind,ZbF (Zei a),ZbF (Zei b),Result.andThen_ok]
 rw[run_equalIn_int w (d+2) 3 .i64 .i64 a.k b.k Tryz.underlying3]
 unfold beqC
 cases h0:(a.k==b.k)
 ·simp
 ·simp only[Result.andThen_ok,Bool.not_true,Bool.false_eq_true,if_false,Bool.true_and,Sem.run_bind,ZbF (ZfG a),ZbF (ZfG b)]
  rw[run_equalIn_int w (d+2) 3 .i64 .i64 a.n b.n Tryz.underlying3]
  cases h1:(a.n==b.n)
  ·simp
  ·simp only[Result.andThen_ok,Bool.not_true,Bool.false_eq_true,if_false,Bool.true_and,Sem.run_bind,ZbF (Zfw a),ZbF (Zfw b)]
   rw[run_equalIn_int w (d+2) 3 .i64 .i64 a.d b.d Tryz.underlying3]
   cases h2:(a.d==b.d)
   ·simp
   ·simp only[Result.andThen_ok,Bool.not_true,Bool.false_eq_true,if_false,Bool.true_and,Sem.run_bind,ZkQ ha,ZkQ hb]
    rw[Zbf Tryz.underlying49 d ha hb]
    cases decide (a.id=b.id)<;>simp
@[go_sem] theorem Zv1 (x y:Operand) (a b:Cmd) (ha:a.id.length=8) (hb:b.id.length=8) (w:World) :
  (eqV .eql 51 x y (.agg (cmdA a)) (.agg (cmdA b))).run Tryz.prog w=.ok (.bool (beqC a b)) w:=by
 unfold eqV
 rw[Sem.run_bind,run_eqGuard_agg w .eql 51 x y _ _ (by kernel_rfl),Result.andThen_ok,run_eql_struct,show (10000:Nat)=9996+4 from rfl,ZeA 9996 ha hb]
 rfl
@[go_sem] theorem Zwe (x y:Operand) (a b:Cmd) (ha:a.id.length=8) (hb:b.id.length=8) (w:World) :
  (eqV .neq 51 x y (.agg (cmdA a)) (.agg (cmdA b))).run Tryz.prog w=.ok (.bool (!beqC a b)) w:=by
 unfold eqV
 rw[Sem.run_bind,run_eqGuard_agg w .neq 51 x y _ _ (by kernel_rfl),Result.andThen_ok,run_neq_struct,show (10000:Nat)=9996+4 from rfl,ZeA 9996 ha hb]
 rfl
theorem ZgH {H:List Nat} (_hH:H.length=208) (w:World):(part 23 (bysA H) 0).run Tryz.prog w=.ok (.agg (bysA (H.take 32))) w:=by
 have hag:(isAgg 23).run Tryz.prog w=.ok true w:=by unfold isAgg;rw[Sem.run_bind,run_underlying Tryz.underlying23 w];simp
 have hx:=(show (bysA H).extract 0 32=bysA (H.take 32) by rw[Ze5];rfl)
 unfold part
 rw[Sem.run_bind,hag]
 simp[hx]
theorem Zfz {H:List Nat} (_hH:H.length=208) (w:World):(part 27 (bysA H) 32).run Tryz.prog w=.ok (.agg (bysA ((H.drop 32).take 160))) w:=by
 have hag:(isAgg 27).run Tryz.prog w=.ok true w:=by unfold isAgg;rw[Sem.run_bind,run_underlying Tryz.underlying27 w];simp
 have hx:=(show (bysA H).extract 32 192=bysA ((H.drop 32).take 160) by rw[Ze5])
 unfold part
 rw[Sem.run_bind,hag]
 simp[hx]
theorem Zgt {H:List Nat} (_hH:H.length=208) (w:World):(part 29 (bysA H) 192).run Tryz.prog w=.ok (.agg (bysA ((H.drop 192).take 16))) w:=by
 have hag:(isAgg 29).run Tryz.prog w=.ok true w:=by unfold isAgg;rw[Sem.run_bind,run_underlying Tryz.underlying29 w];simp
 have hx:=(show (bysA H).extract 192 208=bysA ((H.drop 192).take 16) by rw[Ze5])
 unfold part
 rw[Sem.run_bind,hag]
 simp[hx]
theorem Zub {H K:List Nat} (hH:H.length=208) (hK:K.length=208):(decide (H.take 32=K.take 32)&&(decide ((H.drop 32).take 160=(K.drop 32).take 160)&&decide ((H.drop 192).take 16=(K.drop 192).take 16)))=decide (H=K):=by
 rw[Bool.eq_iff_iff]
 simp only[Bool.and_eq_true,decide_eq_true_eq]
 constructor
 ·rintro⟨h1,h2,h3⟩
  rw[List.take_of_length_le (by simp[hH]),List.take_of_length_le (by simp[hK])] at h3
  have e:∀l:List Nat,l.drop 32=(l.drop 32).take 160++l.drop 192:=fun l=>by
   rw[show l.drop 192=(l.drop 32).drop 160 by rw[List.drop_drop],List.take_append_drop]
  rw[←List.take_append_drop 32 H,←List.take_append_drop 32 K,h1,e H,e K,h2,h3]
 ·rintro rfl;exact⟨rfl,rfl,rfl⟩
theorem ZfB (d:Nat) {H K:List Nat} (hH:H.length=208) (hK:K.length=208) (w:World) :
  (Op.equalIn (d+4) 31 (.agg (bysA H)) (.agg (bysA K))).run Tryz.prog w=.ok (decide (H=K)) w:=by
 rw[run_equalIn_struct w (d+3) 31 (bysA H) (bysA K) (by kernel_rfl) (by kernel_rfl)]
 obtain⟨f0,f1,f2,hf,n0,n1,n2,t0,t1,t2,o0,o1,o2⟩:∃f0 f1 f2:Field,(Tryz.prog.fieldsOf 31).toList=[f0,f1,f2]∧f0.name ≠ "_"∧f1.name ≠ "_"∧f2.name ≠ "_"∧f0.type=23∧f1.type=27∧f2.type=29∧f0.offset=0∧f1.offset=32∧f2.offset=192 :=
  ⟨_,_,_,rfl,by decide +kernel,by decide +kernel,by decide +kernel,by kernel_rfl,by kernel_rfl,by kernel_rfl,by kernel_rfl,by kernel_rfl,by kernel_rfl⟩
 rw[hf]
 have l1:∀l:List Nat,l.length=208→(l.take 32).length=32:=fun l h=>by simp[h]
 have l2:∀l:List Nat,l.length=208→((l.drop 32).take 160).length=160:=fun l h=>by simp[h]
 have l3:∀l:List Nat,l.length=208→((l.drop 192).take 16).length=16:=fun l h=>by simp[h]
 rw[←Zub hH hK]
 simp only[Op.eqFields,n0,n1,n2,t0,t1,t2,o0,o1,o2,ne_eq,not_false_eq_true,if_true,Sem.run_bind,ZgH hH,ZgH hK,Result.andThen_ok]
 rw[Zbf Tryz.underlying23 d (l1 H hH) (l1 K hK)]
 cases h0:decide (H.take 32=K.take 32)
 ·simp
 ·simp only[Result.andThen_ok,Bool.not_true,Bool.false_eq_true,if_false,Bool.true_and,Sem.run_bind,Zfz hH,Zfz hK]
  rw[Zbf Tryz.underlying27 d (l2 H hH) (l2 K hK)]
  cases h1:decide ((H.drop 32).take 160=(K.drop 32).take 160)
  ·simp
  ·simp only[Result.andThen_ok,Bool.not_true,Bool.false_eq_true,if_false,Bool.true_and,Sem.run_bind,Zgt hH,Zgt hK]
   rw[Zbf Tryz.underlying29 d (l3 H hH) (l3 K hK)]
   cases decide ((H.drop 192).take 16=(K.drop 192).take 16)<;>simp
@[go_sem ↓ high] theorem ZtB (a:Operand→Value) (d:Option Tmp) (op:BinOp) (x y:Operand) (u t:TypeId) (p:String) (af:Array Edge) (g:Option (Nat×Bool)) :
  execOp a ⟨d,.binOp op 31 x y u,t,p,af,g⟩=(do pure (.value (←eqV op 31 x y (a x) (a y)))):=rfl
@[go_sem] theorem Zvs (x y:Operand) (H K:List Nat) (hH:(bysA H).size=208) (hK:(bysA K).size=208) (w:World) :
  (eqV .eql 31 x y (.agg (bysA H)) (.agg (bysA K))).run Tryz.prog w=.ok (.bool (decide (H=K))) w:=by
 rw[Zaj] at hH hK
 unfold eqV
 rw[Sem.run_bind,run_eqGuard_agg w .eql 31 x y _ _ (by kernel_rfl),Result.andThen_ok,run_eql_struct,show (10000:Nat)=9996+4 from rfl,ZfB 9996 hH hK]
 rfl
theorem Zgb {x:Stp} (h:StpOk x) (w:World):(part 51 (Zbn x) 0).run Tryz.prog w=.ok (.agg (cmdA x.c)) w:=by
 have hag:(isAgg 51).run Tryz.prog w=.ok true w:=by unfold isAgg;rw[Sem.run_bind,run_underlying Tryz.underlying51 w];simp
 have hx:=Znn h
 unfold part
 rw[Sem.run_bind,hag]
 simp[hx]
theorem Zgn {x:Stp} (h:StpOk x) (w:World):(part 31 (Zbn x) 11).run Tryz.prog w=.ok (.agg (bysA x.nx)) w:=by
 have hag:(isAgg 31).run Tryz.prog w=.ok true w:=by unfold isAgg;rw[Sem.run_bind,run_underlying Tryz.underlying31 w];simp
 have hx:=ZlA h
 unfold part
 rw[Sem.run_bind,hag]
 simp[hx]
theorem Zgs {x:Stp} (h:StpOk x) (w:World):(part 23 (Zbn x) 219).run Tryz.prog w=.ok (.agg (bysA x.s)) w:=by
 have hag:(isAgg 23).run Tryz.prog w=.ok true w:=by unfold isAgg;rw[Sem.run_bind,run_underlying Tryz.underlying23 w];simp
 have hx:=ZnZ h
 unfold part
 rw[Sem.run_bind,hag]
 simp[hx]
theorem Zgi {x:Stp} (h:StpOk x) (w:World):(part 29 (Zbn x) 251).run Tryz.prog w=.ok (.agg (bysA x.t)) w:=by
 have hag:(isAgg 29).run Tryz.prog w=.ok true w:=by unfold isAgg;rw[Sem.run_bind,run_underlying Tryz.underlying29 w];simp
 have hx:=Zmz h
 unfold part
 rw[Sem.run_bind,hag]
 simp[hx]
def beqS (a b:Stp):Bool:=beqC a.c b.c&&(decide (a.nx=b.nx)&&(decide (a.s=b.s)&&decide (a.t=b.t)))
theorem ZeH (d:Nat) {a b:Stp} (ha:StpOk a) (hb:StpOk b) (w:World) :
  (Op.equalIn (d+5) 53 (.agg (Zbn a)) (.agg (Zbn b))).run Tryz.prog w=.ok (beqS a b) w:=by
 rw[run_equalIn_struct w (d+4) 53 (Zbn a) (Zbn b) (by kernel_rfl) (by kernel_rfl)]
 obtain⟨f0,f1,f2,f3,hf,n0,n1,n2,n3,t0,t1,t2,t3,o0,o1,o2,o3⟩:∃f0 f1 f2 f3:Field,(Tryz.prog.fieldsOf 53).toList=[f0,f1,f2,f3]∧f0.name ≠ "_"∧f1.name ≠ "_"∧f2.name ≠ "_"∧f3.name ≠ "_"∧f0.type=51∧f1.type=31∧f2.type=23∧f3.type=29∧f0.offset=0∧f1.offset=11∧f2.offset=219∧f3.offset=251 :=
  ⟨_,_,_,_,rfl,by decide +kernel,by decide +kernel,by decide +kernel,by decide +kernel,by kernel_rfl,by kernel_rfl,by kernel_rfl,by kernel_rfl,by kernel_rfl,by kernel_rfl,by kernel_rfl,by kernel_rfl⟩
 rw[hf]
 simp only[Op.eqFields,n0,n1,n2,n3,t0,t1,t2,t3,o0,o1,o2,o3,ne_eq,not_false_eq_true,if_true,Sem.run_bind,Zgb ha,Zgb hb,Result.andThen_ok]
 rw[ZeA d ha.i hb.i]
 unfold beqS
 cases h0:beqC a.c b.c
 ·simp
 ·simp only[Result.andThen_ok,Bool.not_true,Bool.false_eq_true,if_false,Bool.true_and,Sem.run_bind,Zgn ha,Zgn hb]
  rw[ZfB d ha.n hb.n]
  cases h1:decide (a.nx=b.nx)
  ·simp
  ·simp only[Result.andThen_ok,Bool.not_true,Bool.false_eq_true,if_false,Bool.true_and,Sem.run_bind,Zgs ha,Zgs hb]
   rw[Zbf Tryz.underlying23 (d+1) ha.s hb.s]
   cases h2:decide (a.s=b.s)
   ·simp
   ·simp only[Result.andThen_ok,Bool.not_true,Bool.false_eq_true,if_false,Bool.true_and,Sem.run_bind,Zgi ha,Zgi hb]
    rw[Zbf Tryz.underlying29 (d+1) ha.t hb.t]
    cases decide (a.t=b.t)<;>simp
@[go_sem ↓ high] theorem Zrv (a:Operand→Value) (d:Option Tmp) (op:BinOp) (x y:Operand) (u t:TypeId) (p:String) (af:Array Edge) (g:Option (Nat×Bool)) :
  execOp a ⟨d,.binOp op 53 x y u,t,p,af,g⟩=(do pure (.value (←eqV op 53 x y (a x) (a y)))):=rfl
@[go_sem] theorem ZtY (x y:Operand) (a b:Stp) (ha:StpOk a) (hb:StpOk b) (w:World) :
  (eqV .eql 53 x y (.agg (Zbn a)) (.agg (Zbn b))).run Tryz.prog w=.ok (.bool (beqS a b)) w:=by
 unfold eqV
 rw[Sem.run_bind,run_eqGuard_agg w .eql 53 x y _ _ (by kernel_rfl),Result.andThen_ok,run_eql_struct,show (10000:Nat)=9995+5 from rfl,ZeH 9995 ha hb]
 rfl
@[go_sem] theorem ZtL (x y:Operand) (a b:Stp) (ha:StpOk a) (hb:StpOk b) (w:World) :
  (eqV .neq 53 x y (.agg (Zbn a)) (.agg (Zbn b))).run Tryz.prog w=.ok (.bool (!beqS a b)) w:=by
 unfold eqV
 rw[Sem.run_bind,run_eqGuard_agg w .neq 53 x y _ _ (by kernel_rfl),Result.andThen_ok,run_neq_struct,show (10000:Nat)=9995+5 from rfl,ZeH 9995 ha hb]
 rfl
open Go.RowKit Go.Hold Go.Sh Go.Ch Go.Cm Go.Hd
@[go_sem] theorem ZwA {a g:List Nat} (v u:Value) (ha:a.length=32):(rhA a v g).setIfInBounds 32 u=rhA a u g:=by
 have hs:(bysA a).size=32:=by rw[Zaj,ha]
 apply Array.toList_inj.1
 unfold rhA
 rw[Array.append_assoc,Array.append_assoc,Array.toList_setIfInBounds,Array.toList_append,Array.toList_append,Array.toList_append,Array.toList_append,List.set_append_right (h:=by rw[Array.length_toList,hs];exact Nat.le_refl _),Array.length_toList,hs]
 rfl
@[go_sem] theorem ZnL (a g:List Nat) (p:Option Addr) (n c:Nat):Zbg (rhA a (.slice p n c) g)=true:=by
 have h1:=ZcL a
 have h2:=ZcL g
 unfold Zbg rhA at *
 rw[Array.all_append,Array.all_append,h1,h2]
 simp[Value.oneCell']
@[go_sem] theorem ZwF {a g:List Nat} (v:Value) (ha:a.length=32) (h:32<(rhA a v g).size):(rhA a v g)[32]=v:=by
 have:=ZqG (g:=g) v ha
 rw[Array.getElem?_eq_getElem h] at this
 exact Option.some.inj this
@[go_sem] theorem ZtX (w:World):(mkS (.int .i64 160) (.int .i64 160)).run Tryz.prog w=.ok (.slice (some ⟨w.heap.size,0,none⟩) 160 160) (w.alloc (.cells (bysA (zs 160)) 5)):=ZfA w 160 (by decide)
theorem OwnB.grow {w w':World} {B:Nat} {v:Value} {l:List Nat} (h:OwnB w B v l) (hb:Below w.heap.size w w'):OwnB w' B v l:=h.below hb
theorem Zcc:(rhA (zs 32) (.slice none 0 0) (zs 16)).size=49:=Zcp _ (Zah 32) (Zah 16)
theorem ZpI (H:List Nat) (hH:H.length=208) (w:World) :
  Calls Tryz.prog 15 #[.agg (bysA H)] w fun e w'=>∃ v,e=.returned v∧IsRH w' v (H.take 32) ((H.drop 32).take 160) (H.drop 192)∧Below w.heap.size w w':=by
 have hHs:=Zae hH
 have ha:(H.take 32).length=32:=by simp[hH]
 have hb:((H.drop 32).take 160).length=160:=by simp[hH]
 have hg:(H.drop 192).length=16:=by simp[hH]
 have hG:(H.drop 192).take 16=H.drop 192:=List.take_of_length_le (by rw[hg];exact Nat.le_refl _)
 have hrz:=Zcc
 have has:=Zae ha
 have hgs:=Zae hg
 go_enter Tryz.func15,Tryz.ntmps15
 go_wp2_with fail
 generalize hW:World.alloc _ _=W0
 have R0x0:=Zq (show RowAt W0 (w.heap.size) (bysA H) by rw[←hW];clear hW;exact⟨by go_simp,by first | (go_simp;done) | (go_simp;rfl),by go_simp⟩)
 have R0x1:=Zq (show RowAt W0 (w.heap.size+1) (rhA (zs 32) (.slice none 0 0) (zs 16)) by rw[←hW];clear hW;exact⟨by go_simp,by first | (go_simp;done) | (go_simp;rfl),by go_simp⟩)
 have B0:=Zq (show Below w.heap.size w W0 by rw[←hW];repeat (first | apply Zab | exact Below.refl _ _))
 clear hW
 have l_y:w.heap.size≤w.heap.size:=by omega
 have l_r:w.heap.size≤w.heap.size+1:=by omega
 have n_y_r:w.heap.size≠w.heap.size+1:=by omega
 generalize w.heap.size+1=r at *
 obtain⟨y,ey⟩:∃z,z=w.heap.size:=⟨_,rfl⟩
 rw[←ey] at R0x0 n_y_r ⊢
 have l_y:w.heap.size≤y:=by rw[ey];exact Nat.le_refl _
 clear ey
 have hbd:=fun W=>Zf0 (some ⟨y,32,none⟩) 160 160 ha hg W
 have hvs:=Zcp (.slice (some ⟨y,32,none⟩) 160 160) ha hg
 obtain⟨R0x0a,R0x0b,R0x0c⟩:=R0x0.out
 obtain⟨R0x1a,R0x1b,R0x1c⟩:=R0x1.out
 refine Zal W0 [0,1,2,3,4,5,6] [false,false,false,false,false,false,false] [] [] 7 (by kernel_rfl) rfl (by kernel_rfl) (by intro c a d v w h;cases d<;>exact h) (by first | exact(Below.refl _ _).drew | exact Below.refl _ _) ?_
 simp only[pick,List.getElem?_cons_succ,List.getElem?_cons_zero,List.drop_succ_cons,List.drop_zero]
 refine Zac (Zaa rfl) (by intro K o d hK;go_simp;exact hK _ (Below.refl _ _)) ?_
 refine Zac (Zaa rfl) (by intro K o d hK;go_simp;exact hK _ (Below.refl _ _)) ?_
 refine Zac (Zaa rfl) (by intro K o d hK;go_simp;exact hK _ (Below.refl _ _)) ?_
 refine Zac (Zaa rfl) (by intro K o d hK;go_simp;exact hK _ (Below.refl _ _)) ?_
 refine Zac (Zaa rfl) (by intro K o d hK;go_simp;exact hK _ (Below.refl _ _)) ?_
 refine Zac (Zaa rfl) (by intro K o d hK;go_simp;exact hK _ (Below.refl _ _)) ?_
 refine Zac (Zaa rfl) (by intro K o d hK;go_simp;exact hK _ (Below.refl _ _)) ?_
 refine Zan ?_
 intro W1 hb1 hblk
 clear hblk
 clear R0x0a R0x0b R0x0c R0x1a R0x1b R0x1c
 have R1x0:=Zq (R0x0.out.grow hb1)
 have R1x1:=Zq (R0x1.out.grow hb1)
 have B1:=Zq (B0.out.trans (hb1.mono B0.out.size))
 clear hb1 B0 R0x0 R0x1
 obtain⟨R1x0a,R1x0b,R1x0c⟩:=R1x0.out
 obtain⟨R1x1a,R1x1b,R1x1c⟩:=R1x1.out
 go_wp2_with fail
 have R2x0:=Zq (R1x0.out.other n_y_r (rhA (H.take 32) (.slice (some ⟨y,32,none⟩) 160 160) (H.drop 192)))
 have R2x1:=Zq (R1x1.out.set (rhA (H.take 32) (.slice (some ⟨y,32,none⟩) 160 160) (H.drop 192)))
 have B2:=Zq (Zad B1.out l_r (rhA (H.take 32) (.slice (some ⟨y,32,none⟩) 160 160) (H.drop 192)))
 clear B1 R1x0 R1x1 R1x0a R1x0b R1x0c R1x1a R1x1b R1x1c
 generalize W1.setRow r (rhA (H.take 32) (.slice (some ⟨y,32,none⟩) 160 160) (H.drop 192))=W2 at *
 obtain⟨R2x0a,R2x0b,R2x0c⟩:=R2x0.out
 obtain⟨R2x1a,R2x1b,R2x1c⟩:=R2x1.out
 have hy:=(ZaH R2x0.out).mid 32 160
 rw[Nat.zero_add] at hy
 refine bodyPost_ret (v:=.agg (rhA (H.take 32) (.slice (some ⟨y,32,none⟩) 160 160) (H.drop 192))) (ZdA Tryz.results15 hvs _ _ _ rfl (by go_simp) (by go_simp)) rfl ?_
 exact⟨_,rfl,⟨some ⟨y,32,none⟩,160,by rw[hb],Bs0.some hy,fun h=>by cases h⟩,B2.out⟩
theorem ZjR (a b g:List Nat) (p:Option Addr) (n c:Nat) (ha:a.length=32) (hg:g.length=16) (hn:n=b.length) (h0:n≠0) (hpc:p=none→c=0) (w:World) (hB:Bs0 w p b) :
  Calls Tryz.prog 16 #[.agg (rhA a (.slice p n c) g)] w fun e w'=>∃ v,e=.returned v∧IsRH w' v a b g∧Below w.heap.size w w':=by
 have hxs:=Zcp (.slice p n c) ha hg
 have hrz:=Zcc
 have h0':¬(n:Int)=0:=by omega
 have Hn:=Zq hn
 clear hn
 have BB:=fun (x y:Array Value) (t u:TypeId)=>Zab (Zab (Below.refl w.heap.size w) (.cells x t)) (.cells y u)
 go_enter Tryz.func16,Tryz.ntmps16
 go_wp2_with fail
 refine bodyPost_ret (v:=.agg (rhA a (.slice p n c) g)) (ZdA Tryz.results16 hxs _ _ (w.heap.size+1) rfl ?_ ?_) rfl ?_
 ·go_simp
 ·go_simp
 ·exact⟨_,rfl,⟨p,c,by rw[Hn.out],hB.grow (BB _ _ _ _),hpc⟩,BB _ _ _ _⟩
theorem Zk0 (a g:List Nat) (ha:a.length=32) (hg:g.length=16) (w:World) :
  Calls Tryz.prog 16 #[.agg (rhA a (.slice none 0 0) g)] w fun e w'=>∃ v,e=.returned v∧IsRH w' v a (zs 160) g∧Below w.heap.size w w':=by
 have hxs:=fun v=>Zcp v ha hg
 have hrz:=Zcc
 have BB:=fun (x y:Array Value) (t u:TypeId)=>Zab (Zab (Below.refl w.heap.size w) (.cells x t)) (.cells y u)
 have RR:=fun (x y:Array Value) (t u:TypeId)=>show BytesAt (((w.alloc (.cells x t)).alloc (.cells y u)).alloc (.cells (bysA (zs 160)) 5)) (w.heap.size+1+1) 0 (zs 160) from by
  have:=ZaH (RowAt.of (Zaq ((w.alloc (.cells x t)).alloc (.cells y u)) (.cells (bysA (zs 160)) 5)))
  rwa [show ((w.alloc (.cells x t)).alloc (.cells y u)).heap.size=w.heap.size+1+1 by go_simp] at this
 go_enter Tryz.func16,Tryz.ntmps16
 go_wp2_with fail
 refine bodyPost_ret (v:=.agg (rhA a (.slice (some ⟨w.heap.size+1+1,0,none⟩) 160 160) g)) (ZdA Tryz.results16 (hxs _) _ _ (w.heap.size+1) rfl ?_ ?_) rfl ?_
 ·go_simp
 ·go_simp
 ·exact⟨_,rfl,⟨some ⟨w.heap.size+1+1,0,none⟩,160,by rw[Zah],Bs0.some (RR _ _ _ _),fun h=>by cases h⟩,Zab (BB _ _ _ _) _⟩
theorem Zoq (a b g:List Nat) (p q:Option Addr) (n c d:Nat) (ha:a.length=32) (hg:g.length=16) (hn:n=b.length) (w:World) (hB:Bs0 w p b) (hC:Bs0 w q b) :
  Calls Tryz.prog 14 #[.agg (rhA a (.slice p n c) g),.agg (rhA a (.slice q n d) g)] w fun e w'=>e=.returned (.bool true)∧Below w.heap.size w w':=by
 have hxs:=Zcp (.slice p n c) ha hg
 have hys:=Zcp (.slice q n d) ha hg
 have has:=Zae ha
 have hgs:=Zae hg
 have HB:=Zq (fun (W:World) (h:Below w.heap.size w W)=>hB.grow h)
 have HC:=Zq (fun (W:World) (h:Below w.heap.size w W)=>hC.grow h)
 have Hn:=Zq hn
 clear hB hC hn
 go_enter Tryz.func14,Tryz.ntmps14
 go_wp2_with fail
 generalize hW:World.alloc _ _=W0
 have R0x0:=Zq (show RowAt W0 (w.heap.size) (rhA a (.slice p n c) g) by rw[←hW];clear hW;exact⟨by go_simp,by first | (go_simp;done) | (go_simp;rfl),by go_simp⟩)
 have R0x1:=Zq (show RowAt W0 (w.heap.size+1) (rhA a (.slice q n d) g) by rw[←hW];clear hW;exact⟨by go_simp,by first | (go_simp;done) | (go_simp;rfl),by go_simp⟩)
 have B0:=Zq (show Below w.heap.size w W0 by rw[←hW];repeat (first | apply Zab | exact Below.refl _ _))
 clear hW
 have l_x:w.heap.size≤w.heap.size:=by omega
 have l_y:w.heap.size≤w.heap.size+1:=by omega
 have n_x_y:w.heap.size≠w.heap.size+1:=by omega
 generalize w.heap.size+1=y at *
 obtain⟨x,ex⟩:∃z,z=w.heap.size:=⟨_,rfl⟩
 rw[←ex] at R0x0 n_x_y ⊢
 have l_x:w.heap.size≤x:=by rw[ex];exact Nat.le_refl _
 clear ex
 obtain⟨R0x0a,R0x0b,R0x0c⟩:=R0x0.out
 obtain⟨R0x1a,R0x1b,R0x1c⟩:=R0x1.out
 have hcy:=R0x1.out.cellAt 32 (ZqG _ ha)
 have hv1:=Zkk (c:=c) (HB.out _ B0.out) Hn.out
 have hv2:=Zkk (c:=d) (HC.out _ B0.out) Hn.out
 rw[hv1]
 go_wp2_with fail
 go_ret
 exact⟨rfl,B0.out⟩
theorem ZmV (ss:List (List Nat)) (p:Option Addr) (n cap:Nat) (hs:∀s∈ss,s.length=32) (hsb:∀s∈ss,∀ i,s.getD i 0<256) (hn:n=ss.length) (h1:1≤n) (h5:n≤5) (w:World) (hR:RowsAt 32 w p (ss.map bysA)) :
  Calls Tryz.prog 41 #[.slice p n cap] w fun e w'=>∃ v,e=.returned v∧OwnB w' w.heap.size v (fil (ss.take (n-1)))∧Below w.heap.size w w':=by
 have HR:=Zq hR
 have Hn:=Zq hn
 have H5:=Zq (And.intro h1 h5)
 have i5:¬(5:Int)<(n:Int):=by omega
 have Hs:=Zq hs
 have Hsb:=Zq hsb
 clear hR hn h5 hs hsb h1
 go_enter Tryz.func41,Tryz.ntmps41
 go_wp2_with fail
 go_loopw [3,4] (fun f i wr=>∃ (v:Value) (k m:Nat),v=f∧m=k+1∧m≤n∧i=.int .i64 m∧OwnB wr w.heap.size v (fil (ss.take k))∧Below w.heap.size w wr) (fun _ i _=>n-(intOf i).toNat)
 case atStart=>exact⟨_,0,1,rfl,rfl,H5.out.1,rfl,Zbk w _,Below.refl _ _⟩
 case round =>
  obtain⟨v,k,m,rfl,em,hm,rfl,hown,hbel⟩:=hrel
  by_cases hkn:m<n
  ·have hk1:(m:Int)<(n:Int):=by omega
   have hmk:(m:Int)-1=(k:Int):=by omega
   have hkn1:(k:Int)<(n:Int):=by omega
   obtain⟨s,hj⟩:∃s,ss[k]?=some s:=⟨_,List.getElem?_eq_getElem (by rw[←Hn.out];omega)⟩
   have hmem:=List.mem_of_getElem? hj
   have hs32:=Hs.out s hmem
   have hss:=Zae hs32
   have HS:=Zq (fun (W:World)=>Zd5 s 192 hs32 (Hsb.out s hmem) (Nat.le_refl _) W)
   rw[List.take_of_length_le (by rw[ZaT];exact Nat.le_refl _)] at HS
   have Hf:=Zq (show fil (ss.take m)=mixd ((hst s).drop (192-((fil (ss.take k)).length+32))) (fil (ss.take k)++zs 32) by rw[em,List.take_add_one,hj];exact Zfd _ _)
   have hfl:(fil (ss.take k)).length=32*k:=by rw[ZbM,List.length_take,←Hn.out];omega
   have Hfl:=Zq hfl
   have Hfb:=Zq (ZjG (ss.take k))
   rw[hfl] at Hf
   obtain⟨q,eq⟩:∃q,q=32*k+32:=⟨_,rfl⟩
   have hq5:q≤160:=by have:=H5.out;omega
   rw[←eq] at Hf
   generalize fil (ss.take k)=F at *
   obtain⟨v1,w1,hr1,ho1,hg1⟩:=ZfL hown hbel.size (by rw[hfl];omega)
   have B1:=Zq (Za2 hbel hown hbel.size hg1)
   have hlm:(F++zs 32).length=q:=by rw[List.length_append,Zah,hfl,eq]
   have hq0:0<q:=by omega
   have hsb:=Hsb.out s hmem
   obtain⟨g,o,ep,hg,hld⟩:=Zbz (HR.out.grow B1.out) hj hs32
   subst ep
   have O1:=Zq ho1
   have Em:=Zq (And.intro em (And.intro hm hkn))
   have Hl:=Zq (And.intro hlm (And.intro hq0 hq5))
   clear ho1 hg1 hown hbel hj hmem hfl hs32 em hm hkn hsb eq hlm hq0 hq5
   go_wp2_with (at_builtin;refine Lib.wpList_append_run _ rfl _ _ _ _ rfl _ _ rfl rfl _ _ hr1 ?_)
   clear hr1 hld
   refine(HS.out w1).mono ?_
   rintro e w2 ⟨p2,c2,rfl,hs2,hc2,hp2,hb2⟩
   have O2:=Zq (O1.out.below hb2)
   have B2:=Zq (B1.out.trans (hb2.mono B1.out.size))
   obtain⟨g2,o2,rfl,hy2⟩:∃g2 o2,p2=some ⟨g2,o2,none⟩∧BytesAt w2 g2 o2 (hst s):=hs2.resolve_left (fun e=>by have:=ZaT s;rw[e] at this;cases this)
   obtain⟨qf,cf,rfl,hqs,hqc,hqp⟩:=O2.out.bs
   rw[Hl.out.1] at hqc ⊢
   obtain⟨u,eu⟩:∃u,u=192-q:=⟨_,rfl⟩
   have hw1:wrap64 (192-(q:Int))=(u:Int):=by rw[show (192:Int)-(q:Int)=(u:Int) by have:=Hl.out.2.2;omega];exact IntWalk.wrap64_in _ (by omega)
   have hsl:=fun W=>ZhJ g2 o2 192 c2 u (by omega) W
   rw[show 192-u=q by have:=Hl.out.2.2;omega] at hsl
   rw[←eu] at Hf
   have HM:=Zq (Zhg (c2-u) cf q (some ⟨g2,adv o2 u c2,none⟩) qf ((hst s).drop u) (F++zs 32) w2 (by rw[List.length_drop,ZaT];have:=Hl.out.2.2;omega) Hl.out.1.symm (ZbB (Zdi s) _) (ZaN Hfb.out (Zbs _)) (Bs0.some (hy2.adv (by rw[ZaT];exact hc2))) hqs (by have:=Hl.out.2.2;omega))
   clear hs2 hc2 hp2 hb2 hy2 hqs hqc hqp eu
   go_wp2_with fail
   refine HM.out.mono ?_
   rintro e w3 ⟨v3,rfl,ho3,hb3⟩
   go_wp2_with fail
   go_roundw
   case rel=>exact⟨v3,m,m+1,rfl,rfl,by have:=Em.out.2.2;omega,by go_num,by rw[Hf.out];exact ho3.base B2.out.size,B2.out.trans (hb3.mono B2.out.size)⟩
   case measure=>simp[intOf];omega
  ·obtain rfl:m=n:=by omega
   rw[show k=m-1 by omega] at hown
   have HO:=Zq hown
   have Hbel:=Zq hbel
   clear hown hbel hm em
   go_wp2_with fail
   go_ret
   exact⟨v,rfl,HO.out,Hbel.out⟩
theorem kvB {l:List Nat} (hl:l.length=32) (hb:∀i,l.getD i 0<256):F.kv (numB l)=.agg (bysA l):=by
 unfold F.kv;rw[ZhK hl hb]
theorem kvN (n:Nat):F.kv n=.agg (bysA (keyB n)):=by unfold F.kv;rw[Zh5]
theorem ZfK (k:List Nat) (hk:k.length=32) (hkb:∀i,k.getD i 0<256) (w:World) :
  Calls Tryz.prog 27 #[.agg (bysA k)] w fun e w'=>e=.returned (.agg (bysA (puB k)))∧Below w.heap.size w w':=by
 have:=F.public_K (numB k) _ rfl w
 rwa [kvB hk hkb,kvN] at this
theorem ZfC (k u:List Nat) (hk:k.length=32) (hkb:∀i,k.getD i 0<256) (hu:u.length=32) (hub:∀i,u.getD i 0<256) (w:World) :
  Calls Tryz.prog 29 #[.agg (bysA k),.agg (bysA u)] w fun e w'=>e=.returned (.tuple #[.agg (bysA (keyB (shB k u))),.int .i64 (F.errOf (shB k u))])∧Below w.heap.size w w':=by
 have:=F.shared_K (numB k) (numB u) _ _ rfl rfl w
 rwa [kvB hk hkb,kvB hu hub,kvN] at this
theorem Zf5 {w:World} {p:Option Addr} {fs:List (List Nat)} (hl:∀f∈fs,f.length=32) (hb:∀f∈fs,∀ i,f.getD i 0<256) (h:RowsAt 32 w p (fs.map bysA)):F.KeysAt w p (fs.map numB):=fun i x hx=>by
 rw[List.getElem?_map] at hx
 cases hf:fs[i]? with
 | none=>rw[hf] at hx;cases hx
 | some f =>
  rw[hf] at hx
  cases hx
  have hm:f∈fs:=List.mem_of_getElem? hf
  obtain⟨g,o,hp,hg,hr⟩:=h i (bysA f) (by rw[List.getElem?_map,hf];rfl)
  exact⟨g,o,hp,hg,by rw[←ZhK (hl f hm) (hb f hm)];exact hr⟩
theorem Zpg (k:List Nat) (fs:List (List Nat)) (n cap:Nat) (p:Option Addr) (hk:k.length=32) (hkb:∀i,k.getD i 0<256) (hl:∀f∈fs,f.length=32) (hb:∀f∈fs,∀ i,f.getD i 0<256) (hn:n=fs.length) (h8:n≤8) (w:World) (h:RowsAt 32 w p (fs.map bysA)) :
  Calls Tryz.prog 69 #[.agg (bysA k),.slice p n cap] w fun e w'=>e=.returned (.tuple #[.agg (bysA (keyB (chB k fs))),.int .i64 (F.errOf (chB k fs))])∧Below w.heap.size w w':=by
 have:=F.chain_small (numB k) _ (fs.map numB) cap p rfl (by rw[List.length_map];omega) w (Zf5 hl hb h)
 rw[kvB hk hkb,kvN,List.length_map,←hn] at this
 exact this
theorem ZsK (k:List Nat) (c:Cmd) (hk:k.length=32):(hopA k c)[32]?=some (.int .i64 c.k):=by
 unfold hopA
 have h1:(bysA k).size=32:=by rw[Zaj,hk]
 rw[Array.getElem?_append_right (by omega),h1]
 exact Zei c
def hopR (L:List Hop):List (Array Value):=L.map fun h=>hopA h.k h.c
structure HopOk (h:Hop):Prop where
 k:h.k.length=32
 kb:∀i,h.k.getD i 0<256
 i:h.c.id.length=8
 ib:∀i,h.c.id.getD i 0<256
theorem Zen {L:List Hop} {j:Nat} {h:Hop} (hj:L[j]?=some h):(hopR L)[j]?=some (hopA h.k h.c):=by unfold hopR;rw[List.getElem?_map,hj];rfl
theorem Zmx {w:World} {p:Option Addr} {L:List Hop} (hR:RowsAt 43 w p (hopR L)) {j:Nat} {h:Hop} (hj:L[j]?=some h) (ho:HopOk h) :
  ∃ g o,p=some ⟨g,o,none⟩∧g<w.heap.size∧(Zam 77 (.pointer (some ⟨g,o+j*43,none⟩))).run Tryz.prog w=.ok (.agg (hopA h.k h.c)) w :=
 hR.load Tryz.underlying77 rfl (by kernel_rfl) (Zen hj) (Za0 ho.k ho.i)
theorem ZiJ (L:List Hop) (p:Option Addr) (cap:Nat) (hok:∀h∈L,HopOk h) (w:World) (hR:RowsAt 43 w p (hopR L)) :
  Calls Tryz.prog 32 #[.slice p L.length cap] w fun e w'=>e=.returned (.bool (isRt L))∧Below w.heap.size w w':=by
 by_cases hn:1≤L.length∧L.length≤5
 ·obtain⟨h1,h5⟩:=hn
  obtain⟨n,en⟩:∃n,n=L.length:=⟨_,rfl⟩
  have HE:=Zq (show isRt L=rtF n 0 (L.drop 0) by unfold isRt;rw[decide_eq_true ⟨h1,h5⟩,Bool.true_and,en];rfl)
  generalize isRt L=R at *
  rw[←en] at h1 h5 ⊢
  have En:=Zq en
  have HR:=Zq hR
  have i1:¬(n:Int)<1:=by omega
  have i2:¬(5:Int)<(n:Int):=by omega
  have Hn:=Zq (And.intro h1 h5)
  clear hR h1 h5 en
  go_enter Tryz.func32,Tryz.ntmps32
  go_wp2_with fail
  go_loopw [16] (fun i wr=>∃ k:Nat,k≤n∧i=.int .i64 k∧R=rtF n k (L.drop k)∧Below w.heap.size w wr) (fun i _=>n-(intOf i).toNat)
  case atStart=>exact⟨0,Nat.zero_le _,rfl,HE.out,Below.refl _ _⟩
  case round =>
   obtain⟨k,hk,rfl,hE,hbel⟩:=hrel
   by_cases hkn:k<n
   ·have hk1:(k:Int)<(n:Int):=by omega
    obtain⟨h,hj⟩:∃h,L[k]?=some h:=⟨_,List.getElem?_eq_getElem (by rw[←En.out];exact hkn)⟩
    have ho:=hok h (List.mem_of_getElem? hj)
    obtain⟨g,o,ep,hg,hld⟩:=Zmx (HR.out.grow hbel) hj ho
    subst ep
    rw[Zkm hj] at hE
    have HE':=Zq hE
    have Hbel:=Zq hbel
    have hks:=ho.k
    have his:=ho.i
    have hsz:=Za0 hks his
    have KM:=Zq (fun (W:World)=>ZpU h.c his W)
    have hcell:=ZsK h.k h.c hks
    have BA:=Zab (Below.refl wr.heap.size wr) (.cells (hopA h.k h.c) 77)
    have R1:=RowAt.of (Zaq wr (.cells (hopA h.k h.c) 77))
    clear hE hbel hj ho
    rcases hm:h.c.may with _ | _
    ·have hR:R=false:=by rw[HE'.out,okAt,hm];rfl
     subst hR
     rw[hm] at KM
     go_wp2_with fail
     refine(KM.out _).mono ?_
     rintro e W2 ⟨rfl,hb2⟩
     have B2:=Zq (Hbel.out.trans ((BA.trans (hb2.mono BA.size)).mono Hbel.out.size))
     clear hb2 BA R1
     go_wp2_with fail
     go_ret
     exact⟨rfl,B2.out⟩
    ·rw[hm] at KM
     obtain⟨b1,hb1⟩:∃b:Bool,((h.c.k:Int)==1)=b:=⟨_,rfl⟩
     obtain⟨b2,hb2⟩:∃b:Bool,((k:Int)==(n:Int)-1)=b:=⟨_,rfl⟩
     have hok':okAt n k h.c=(b1==!b2):=by
      have e1:decide (h.c.k=1)=b1:=by rw[←hb1];exact(Bool.beq_eq_decide_eq _ _).symm
      have e2:decide (k+1<n)=!b2:=by
       rw[←hb2,Bool.beq_eq_decide_eq]
       by_cases e:(k:Int)=(n:Int)-1
       ·rw[decide_eq_true e,decide_eq_false (by omega)];rfl
       ·rw[decide_eq_false e,decide_eq_true (by omega)];rfl
      unfold okAt
      rw[hm,e1,e2,Bool.true_and]
     rw[hok'] at HE'
     clear hok' hm
     go_wp2_with fail
     refine(KM.out _).mono ?_
     rintro e W2 ⟨rfl,hbb⟩
     have B2:=Zq (Hbel.out.trans ((BA.trans (hbb.mono BA.size)).mono Hbel.out.size))
     have R2:=R1.grow hbb
     have hck:=R2.cellAt 32 hcell
     clear hbb BA R1
     rcases b1 with _ | _<;>rcases b2 with _ | _
     ·have hR:R=false:=by rw[HE'.out];rfl
      subst hR
      go_wp2_with fail
      go_ret
      exact⟨rfl,B2.out⟩
     ·have hR:=Zq (show R=rtF n (k+1) (L.drop (k+1)) from HE'.out)
      go_wp2_with fail
      go_roundw
      case rel=>exact⟨k+1,by omega,by go_num,hR.out,B2.out⟩
      case measure=>simp[intOf];omega
     ·have hR:=Zq (show R=rtF n (k+1) (L.drop (k+1)) from HE'.out)
      go_wp2_with fail
      go_roundw
      case rel=>exact⟨k+1,by omega,by go_num,hR.out,B2.out⟩
      case measure=>simp[intOf];omega
     ·have hR:R=false:=by rw[HE'.out];rfl
      subst hR
      go_wp2_with fail
      go_ret
      exact⟨rfl,B2.out⟩
   ·obtain rfl:k=n:=by omega
    have hR:R=true:=by rw[hE,List.drop_of_length_le (by rw[←En.out];exact Nat.le_refl _)];rfl
    subst hR
    have Hbel:=Zq hbel
    clear hbel hE
    go_wp2_with fail
    go_ret
    exact⟨rfl,Hbel.out⟩
 ·have hF:isRt L=false:=by unfold isRt;rw[decide_eq_false hn];rfl
  rw[hF]
  clear hF hok hR
  generalize L.length=n at *
  by_cases h0:n<1
  ·have i1:(n:Int)<1:=by omega
   go_enter Tryz.func32,Tryz.ntmps32
   go_wp2_with fail
   go_ret
   exact⟨rfl,Below.refl _ _⟩
  ·have i1:¬(n:Int)<1:=by omega
   have i2:(5:Int)<(n:Int):=by omega
   go_enter Tryz.func32,Tryz.ntmps32
   go_wp2_with fail
   go_ret
   exact⟨rfl,Below.refl _ _⟩
theorem ZgG {ss cs:List (List Nat)} {i:Nat} {s t c:List Nat} (hl:cs.length=ss.length) (hs:ss[i]?=some s) (ht:ss[i+1]?=some t) (hc:cs[i]?=some c) :
  ZaZ (ss.take i) ((ss.zip cs).drop i)=(wid s c (prf t (ZaZ (ss.take (i+1)) ((ss.zip cs).drop (i+1)))) (ZaZ (ss.take (i+1)) ((ss.zip cs).drop (i+1)))).take 160:=by
 obtain⟨h1,rfl⟩:=List.getElem?_eq_some_iff.1 hs
 obtain⟨h2,rfl⟩:=List.getElem?_eq_some_iff.1 ht
 obtain⟨h3,rfl⟩:=List.getElem?_eq_some_iff.1 hc
 have hz:(ss.zip cs).length=ss.length:=by rw[List.length_zip,hl,Nat.min_self]
 have hz2:(ss.zip cs).drop (i+1)=(ss[i+1],cs[i+1]'(by omega))::(ss.zip cs).drop (i+1+1):=by
  rw[List.drop_eq_getElem_cons (by omega)];simp
 rw[List.drop_eq_getElem_cons (show i<(ss.zip cs).length by omega),List.getElem_zip]
 have e:ss.take (i+1)=ss.take i++[ss[i]]:=by rw[List.take_add_one,hs];rfl
 rw[e,hz2,Zc6]
theorem Zix {ss cs:List (List Nat)} {i:Nat} {s c:List Nat} (hl:cs.length=ss.length) (hi:ss.length=i+1) (hs:ss[i]?=some s) (hc:cs[i]?=some c):ZaZ (ss.take i) ((ss.zip cs).drop i)=ZdP (ss.take i) s c:=by
 obtain⟨h1,rfl⟩:=List.getElem?_eq_some_iff.1 hs
 obtain⟨h3,rfl⟩:=List.getElem?_eq_some_iff.1 hc
 rw[List.drop_eq_getElem_cons (by rw[List.length_zip];omega),List.getElem_zip,List.drop_of_length_le (by rw[List.length_zip];omega)]
 rfl
theorem ZdK {w:World} {p:Option Addr} {L:List Hop} (hR:RowsAt 43 w p (hopR L)) {j:Nat} {h:Hop} (hj:L[j]?=some h) (ho:HopOk h) :
  ∃ g o,p=some ⟨g,o,none⟩∧g<w.heap.size∧(Zam 51 (.pointer (some ⟨g,o+j*43+32,none⟩))).run Tryz.prog w=.ok (.agg (cmdA h.c)) w:=by
 have hsz:=Za0 ho.k ho.i
 have:=hR.part (k:=32) (K:=11) Tryz.underlying51 rfl (by kernel_rfl) (Zen hj) (by omega)
 rwa [Zj5 h.k h.c ho.k ho.i] at this
def ZcA (L:List Hop):List (List Nat):=L.map fun h=>encV h.c
theorem Zeo {ss cs:List (List Nat)} (hl:cs.length=ss.length) (hc:∀c∈cs,c.length=16) (hcb:∀c∈cs,∀ i,c.getD i 0<256) (j:Nat) (hj:j<ss.length) (h5:ss.length≤5) :
  (ZaZ (ss.take j) ((ss.zip cs).drop j)).length=160∧∀ i,(ZaZ (ss.take j) ((ss.zip cs).drop j)).getD i 0<256:=by
 have hm:∀x∈(ss.zip cs).drop j,x.2∈cs:=fun x hx=>(List.of_mem_zip (List.mem_of_mem_drop hx)).2
 have hz:((ss.zip cs).drop j).length=ss.length-j:=by rw[List.length_drop,List.length_zip,hl,Nat.min_self]
 refine⟨ZbL _ _ (fun e=>?_) (fun x hx=>hc _ (hm x hx)) ?_,ZfN _ _ fun x hx=>hcb _ (hm x hx)⟩
 ·rw[e] at hz;simp at hz;omega
 ·rw[hz,List.length_take];omega
theorem ZjL (ss:List (List Nat)) (L:List Hop) (p q:Option Addr) (n cap capL:Nat) (hs:∀t∈ss,t.length=32) (hsb:∀t∈ss,∀ i,t.getD i 0<256) (hok:∀h∈L,HopOk h) (hn:n=ss.length) (hL:L.length=ss.length) (h1:1≤n) (h5:n≤5) (hnc:n≤cap) (w:World) (hT:Tabs w) (hR:RowsAt 32 w p (ss.map bysA)) (hQ:RowsAt 43 w q (hopR L)) :
  Calls Tryz.prog 34 #[.slice p n cap,.slice q n capL] w fun e w'=>e=.returned (.agg (bysA (ZaZ [] (ss.zip (ZcA L)))))∧Below w.heap.size w w':=by
 obtain⟨d,ed⟩:∃d,d+1=n:=⟨n-1,by omega⟩
 have hnd:(n:Int)-1=(d:Int):=by omega
 have hd5:¬(5:Int)<(n:Int):=by omega
 have hdn:(d:Int)<(n:Int):=by omega
 have hcl:(ZcA L).length=ss.length:=by unfold ZcA;rw[List.length_map,hL]
 have hce:∀c∈ZcA L,c.length=16:=fun c hc=>by
  obtain⟨h,hh,rfl⟩:=List.mem_map.1 hc
  exact Zbe (hok h hh).i
 have hcb:∀c∈ZcA L,∀ i,c.getD i 0<256:=fun c hc=>by
  obtain⟨h,hh,rfl⟩:=List.mem_map.1 hc
  exact Zdg (hok h hh).ib
 have hcg:∀{j:Nat} {h:Hop},L[j]?=some h→(ZcA L)[j]?=some (encV h.c):=fun {j h} hj=>by unfold ZcA;rw[List.getElem?_map,hj];rfl
 obtain⟨B,eB⟩:∃B:Nat→List Nat,B=fun j=>ZaZ (ss.take j) ((ss.zip (ZcA L)).drop j):=⟨_,rfl⟩
 have HBl:=Zq (fun j (hj:j<n)=>show (B j).length=160 from by rw[eB];exact(Zeo hcl hce hcb j (by omega) (by omega)).1)
 have HBb:=Zq (fun j (hj:j<n)=>show ∀i,(B j).getD i 0<256 from by rw[eB];exact(Zeo hcl hce hcb j (by omega) (by omega)).2)
 have HB0:=Zq (show ZaZ [] (ss.zip (ZcA L))=B 0 by rw[eB];rfl)
 rw[HB0.out]
 obtain⟨sd,hsd⟩:∃s,ss[d]?=some s:=⟨_,List.getElem?_eq_getElem (by omega)⟩
 obtain⟨hd,hhd⟩:∃h,L[d]?=some h:=⟨_,List.getElem?_eq_getElem (by omega)⟩
 have hod:=hok hd (List.mem_of_getElem? hhd)
 have hss:ss=ss.take d++[sd]:=by
  have:ss.take (d+1)=ss.take d++[sd]:=by rw[List.take_add_one,hsd];rfl
  rw[←this,List.take_of_length_le (by omega)]
 have hBd:B d=ZdP (ss.take d) sd (encV hd.c):=by rw[eB];exact Zix hcl (by omega) hsd (hcg hhd)
 have HLa:=Zq (fun (W:World) (h:Tabs W) (hb:Below w.heap.size w W)=>Zlw (ss.take d) sd hd.c p n cap (by rw[←hss];exact hs) (by rw[←hss];exact hsb) hod.i hod.ib (by rw[List.length_take];omega) h5 hnc W h (by rw[←hss];exact hR.grow hb))
 rw[←hBd] at HLa
 obtain⟨g,o,ep,hx1,hx2⟩:=Zbz hR hsd (hs sd (List.mem_of_getElem? hsd))
 clear hx1 hx2
 obtain⟨gq,oq,eq,hx1,hx2⟩:=ZdK hQ hhd hod
 clear hx1 hx2
 subst ep eq
 have HK:=Zq (fun (j:Nat) (s:List Nat) (hj:ss[j]?=some s) (W:World) (hb:Below w.heap.size w W)=>show (Zam 23 (.pointer (some ⟨g,o+j*32,none⟩))).run Tryz.prog W=.ok (.agg (bysA s)) W by
  obtain⟨g',o',e,_,h⟩:=Zbz (hR.grow hb) hj (hs s (List.mem_of_getElem? hj))
  cases e;exact h)
 have HC:=Zq (fun (j:Nat) (h:Hop) (hj:L[j]?=some h) (W:World) (hb:Below w.heap.size w W)=>show (Zam 51 (.pointer (some ⟨gq,oq+j*43+32,none⟩))).run Tryz.prog W=.ok (.agg (cmdA h.c)) W by
  obtain⟨g',o',e,_,h⟩:=ZdK (hQ.grow hb) hj (hok h (List.mem_of_getElem? hj))
  cases e;exact h)
 have HSt:=Zq (fun (i:Nat) (s t:List Nat) (h:Hop) (hs:ss[i]?=some s) (ht:ss[i+1]?=some t) (hh:L[i]?=some h)=>show B i=(wid s (encV h.c) (prf t (B (i+1))) (B (i+1))).take 160 from by rw[eB];exact ZgG hcl hs ht (hcg hh))
 have Hsl:=Zq (And.intro hs hsb)
 have Hok:=Zq hok
 have Hn:=Zq (And.intro hn (And.intro hL (And.intro h5 ed)))
 have hld0:=HC.out d hd hhd (w.alloc (.cells (bysA (zs 160)) 27)) (Zab (Below.refl _ _) _)
 have hBds:=Zae (HBl.out d (by omega))
 have hcs:=Zax hod.i
 have HT:=Zq hT
 have hz160:=Zae (Zah 160)
 clear hT hR hQ hs hsb hok hn hL h1 h5 hnc hcl hce hcb hcg hss hBd hod hhd hsd eB ed
 go_enter Tryz.func34,Tryz.ntmps34
 go_wp2_with fail
 generalize hW:World.alloc _ _=W0
 have R0x0:=Zq (show RowAt W0 (w.heap.size) (bysA (zs 160)) by rw[←hW];clear hW;exact⟨by go_simp,by first | (go_simp;done) | (go_simp;rfl),by go_simp⟩)
 have B0:=Zq (show Below w.heap.size w W0 by rw[←hW];repeat (first | apply Zab | exact Below.refl _ _))
 clear hW
 have hzs160:=Zae (Zah 160)
 have l_r:w.heap.size≤w.heap.size:=by omega
 obtain⟨r,er⟩:∃z,z=w.heap.size:=⟨_,rfl⟩
 rw[←er] at R0x0  ⊢
 have l_r:w.heap.size≤r:=by rw[er];exact Nat.le_refl _
 clear er
 obtain⟨R0x0a,R0x0b,R0x0c⟩:=R0x0.out
 clear hld0
 refine(HLa.out _ (HT.out.grow B0.out) B0.out).mono ?_
 rintro e W1 ⟨rfl,hb1⟩
 clear R0x0a R0x0b R0x0c
 have R1x0:=Zq (R0x0.out.grow hb1)
 have B1:=Zq (B0.out.trans (hb1.mono B0.out.size))
 clear hb1 B0 R0x0
 obtain⟨R1x0a,R1x0b,R1x0c⟩:=R1x0.out
 go_wp2_with fail
 have n_r_b:r≠W1.heap.size:=Nat.ne_of_lt R1x0.out.2.2
 have l_b:w.heap.size≤W1.heap.size:=B1.out.size
 have hb2:=Zab (Below.refl W1.heap.size W1) (.cells (bysA (B d)) 27)
 have N2:=Zq (RowAt.of (Zaq W1 (.cells (bysA (B d)) 27)))
 have R2x0:=Zq (R1x0.out.grow hb2)
 have B2:=Zq (B1.out.trans (hb2.mono B1.out.size))
 clear hb2 B1 R1x0 R1x0a R1x0b R1x0c
 generalize W1.heap.size=b at *
 generalize W1.alloc (.cells (bysA (B d)) 27)=W2 at *
 obtain⟨R2x0a,R2x0b,R2x0c⟩:=R2x0.out
 obtain⟨N2a,N2b,N2c⟩:=N2.out
 go_wp2_with fail
 go_loopw [7] (fun i wr=>∃ j:Nat,j≤d∧i=.int .i64 ((j:Int)-1)∧RowAt wr b (bysA (B j))∧RowAt wr r (bysA (zs 160))∧Below w.heap.size w wr) (fun i _=>(intOf i+1).toNat)
 case atStart=>exact⟨d,Nat.le_refl _,rfl,N2.out,R2x0.out,B2.out⟩
 case round =>
  obtain⟨j,hj,rfl,hb,hr,hbel⟩:=hrel
  rcases j with _ | i
  ·rw[show ((0:Nat):Int)-1=-1 from rfl]
   obtain⟨b1,b2,b3⟩:=hb
   obtain⟨r1,r2,r3⟩:=hr
   have hB0s:=Zae (HBl.out 0 (by have:=Hn.out.2.2.2;omega))
   have Hbel:=Zq hbel
   clear hbel
   go_wp2_with fail
   refine bodyPost_ret (v:=.agg (bysA (B 0))) (ZcO Tryz.results34 hB0s _ _ _ rfl (by go_simp) (by go_simp)) rfl ⟨rfl,?_⟩
   exact Zad Hbel.out l_r _
  ·obtain⟨s,hs⟩:∃s,ss[i]?=some s:=⟨_,List.getElem?_eq_getElem (by have:=Hn.out.1;have:=Hn.out.2.2.2;omega)⟩
   obtain⟨t,ht⟩:∃s,ss[i+1]?=some s:=⟨_,List.getElem?_eq_getElem (by have:=Hn.out.1;have:=Hn.out.2.2.2;omega)⟩
   obtain⟨h,hh⟩:∃h,L[i]?=some h:=⟨_,List.getElem?_eq_getElem (by have:=Hn.out.1;have:=Hn.out.2.1;have:=Hn.out.2.2.2;omega)⟩
   have ho:=Hok.out h (List.mem_of_getElem? hh)
   have hsl:=Hsl.out.1 s (List.mem_of_getElem? hs)
   have hsb:=Hsl.out.2 s (List.mem_of_getElem? hs)
   have htl:=Hsl.out.1 t (List.mem_of_getElem? ht)
   have htb:=Hsl.out.2 t (List.mem_of_getElem? ht)
   have HBi:=Zq (HSt.out i s t h hs ht hh)
   obtain⟨i1,ei1⟩:∃x,x=i+1:=⟨_,rfl⟩
   rw[←ei1] at ht HBi hb
   have hBl:=HBl.out i1 (by have:=Hn.out.2.2.2;omega)
   have hBb:=HBb.out i1 (by have:=Hn.out.2.2.2;omega)
   have hBl0:=HBl.out i (by have:=Hn.out.2.2.2;omega)
   have hBs:=Zae hBl0
   have hBs1:=Zae hBl
   have KP:=Zq (fun (W:World) (hT:Tabs W)=>Zg6 t (B i1) htl htb hBl hBb W hT)
   have KL:=Zq (fun (W:World)=>Zqu h.c ho.i (prf t (B i1)) (B i1) (ZaS _ _) hBl W)
   have hel:=Zbe ho.i
   have KT:=Zq (fun (W:World) (hT:Tabs W)=>show Calls Tryz.prog 46 #[.agg (bysA (encV h.c++prf t (B i1)++B i1)),.agg (bysA s)] W fun e w'=>e=.returned (.agg (bysA (wid s (encV h.c) (prf t (B i1)) (B i1))))∧Below W.heap.size W w' from ZgX (encV h.c++prf t (B i1)++B i1) s (by rw[List.length_append,List.length_append,hel,ZaS,hBl]) (ZaN (ZaN (Zdg ho.ib) (ZfU _ _)) hBb) hsl hsb W hT)
   have KW:=Zq (fun (W:World)=>ZmI (wid s (encV h.c) (prf t (B i1)) (B i1)) (Zct hel (ZaS _ _) hBl) W)
   rw[←HBi.out] at KW
   have hpl:=Zae (ZaS t (B i1))
   generalize encV h.c++prf t (B i1)++B i1=Y at *
   generalize wid s (encV h.c) (prf t (B i1)) (B i1)=V at *
   generalize prf t (B i1)=P at *
   have hks:∀(o':Array Obj) (d':Nat),(Zam 23 (.pointer (some ⟨g,o+i*32,none⟩))).run Tryz.prog (wr.plus o' d')=.ok (.agg (bysA s)) (wr.plus o' d'):=fun o' d'=>HK.out i s hs _ (ZaE _ _ _ hbel hbel.size)
   have hkt:∀(o':Array Obj) (d':Nat),(Zam 23 (.pointer (some ⟨g,o+i1*32,none⟩))).run Tryz.prog (wr.plus o' d')=.ok (.agg (bysA t)) (wr.plus o' d'):=fun o' d'=>HK.out i1 t ht _ (ZaE _ _ _ hbel hbel.size)
   have hkc:∀(o':Array Obj) (d':Nat),(Zam 51 (.pointer (some ⟨gq,oq+i*43+32,none⟩))).run Tryz.prog (wr.plus o' d')=.ok (.agg (cmdA h.c)) (wr.plus o' d'):=fun o' d'=>HC.out i h hh _ (ZaE _ _ _ hbel hbel.size)
   have hi0:(0:Int)≤(i:Int):=by omega
   have hin:(i:Int)<(n:Int):=by have:=Hn.out.2.2.2;omega
   have hi1n:(i1:Int)<(n:Int):=by have:=Hn.out.2.2.2;omega
   have hii:(i:Int)+1=(i1:Int):=by omega
   have hwi:IntKind.i64.wrap (i1:Int)=(i1:Int):=IntWalk.i64_in _ (by omega)
   have hcs':=Zax ho.i
   have Hi1:=Zq (And.intro ei1 hj)
   have Hb:=Zq hb
   have Hr:=Zq hr
   have Hbel:=Zq hbel
   rw[show (((i+1:Nat):Int)-1)=(i:Int) by omega]
   obtain⟨b1,b2,b3⟩:=hb
   clear hs ht hh ho hsl hsb htl htb hBl hBb hBl0 hel hr hbel ei1 hj
   go_wp2_with fail
   refine Zal wr [0,1,2,3,4,5,6,7,8,9,10,11,12,13,14,15,16,17,18,19] [false,false,false,false,false,false,false,false,false,false,false,false,false,false,false,false,false,false,false,false] [] [] 20 (by kernel_rfl) rfl (by kernel_rfl) (by intro c a d v w h;cases d<;>exact h) (by first | exact(Below.refl _ _).drew | exact Below.refl _ _) ?_
   simp only[pick,List.getElem?_cons_succ,List.getElem?_cons_zero,List.drop_succ_cons,List.drop_zero]
   refine Zac (Zaa rfl) (by intro K o d hK;go_simp;exact hK _ (Below.refl _ _)) ?_
   refine Zac (Zaa rfl) (by intro K o d hK;go_simp;exact hK _ (Below.refl _ _)) ?_
   refine Zac (Zaa rfl) (by intro K o d hK;go_simp;exact hK _ (Below.refl _ _)) ?_
   refine Zac (Zaa rfl) (by intro K o d hK;go_simp;exact hK _ (Below.refl _ _)) ?_
   refine Zac (Zaa rfl) (by intro K o d hK;go_simp;exact hK _ (Below.refl _ _)) ?_
   refine Zac (Zaa rfl) (by intro K o d hK;go_simp;exact hK _ (Below.refl _ _)) ?_
   refine Zac (Zaa rfl) (by intro K o d hK;go_simp;exact hK _ (Below.refl _ _)) ?_
   refine Zac (Zaa rfl) (by intro K o d hK;go_simp;exact hK _ (Below.refl _ _)) ?_
   refine Zac (Zaa rfl) (by intro K o d hK;go_simp;exact hK _ (Below.refl _ _)) ?_
   refine Zac (Zaa rfl) (by intro K o d hK;go_simp;exact hK _ (Below.refl _ _)) ?_
   refine Zac (Zaa rfl) (by intro K o d hK;go_simp;exact hK _ (Below.refl _ _)) ?_
   refine Zai (v:=.agg (bysA P)) (Zaa rfl) (by intro K o d hK;go_simp;refine(KP.out _ (HT.out.grow (ZaE _ _ _ Hbel.out Hbel.out.size))).mono ?_;rintro e w' ⟨rfl,hbw⟩;exact⟨_,rfl,hK _ hbw⟩) ?_
   refine Zac (Zaa rfl) (by intro K o d hK;go_simp;exact hK _ (Below.refl _ _)) ?_
   refine Zai (v:=.agg (bysA Y)) (Zaa rfl) (by intro K o d hK;go_simp;refine(KL.out _).mono ?_;rintro e w' ⟨rfl,hbw⟩;exact⟨_,rfl,hK _ hbw⟩) ?_
   refine Zac (Zaa rfl) (by intro K o d hK;go_simp;exact hK _ (Below.refl _ _)) ?_
   refine Zac (Zaa rfl) (by intro K o d hK;go_simp;exact hK _ (Below.refl _ _)) ?_
   refine Zac (Zaa rfl) (by intro K o d hK;go_simp;exact hK _ (Below.refl _ _)) ?_
   refine Zac (Zaa rfl) (by intro K o d hK;go_simp;exact hK _ (Below.refl _ _)) ?_
   refine Zai (v:=.agg (bysA V)) (Zaa rfl) (by intro K o d hK;go_simp;refine(KT.out _ (HT.out.grow (ZaE _ _ _ Hbel.out Hbel.out.size))).mono ?_;rintro e w' ⟨rfl,hbw⟩;exact⟨_,rfl,hK _ hbw⟩) ?_
   refine Zai (v:=.agg (bysA (B i))) (Zaa rfl) (by intro K o d hK;go_simp;refine(KW.out _).mono ?_;rintro e w' ⟨rfl,hbw⟩;exact⟨_,rfl,hK _ hbw⟩) ?_
   refine Zan ?_
   intro W11 hb11 hblk
   clear hblk
   clear b1 b2 b3
   have R11x0:=Zq (Hb.out.grow hb11)
   have R11x1:=Zq (Hr.out.grow hb11)
   have B11:=Zq (Hbel.out.trans (hb11.mono Hbel.out.size))
   clear hb11 Hbel Hb Hr
   obtain⟨R11x0a,R11x0b,R11x0c⟩:=R11x0.out
   obtain⟨R11x1a,R11x1b,R11x1c⟩:=R11x1.out
   go_wp2_with fail
   go_roundw
   case rel=>exact⟨i,by have:=Hi1.out.2;omega,rfl,R11x0.out.set _,R11x1.out.other n_r_b _,Zad B11.out l_b _⟩
   case measure=>simp[intOf]
theorem Zd4 {w:World} {p:Option Addr} {L:List Hop} (hR:RowsAt 43 w p (hopR L)) {j:Nat} {h:Hop} (hj:L[j]?=some h) (ho:HopOk h) :
  ∃ g o,p=some ⟨g,o,none⟩∧g<w.heap.size∧(Zam 57 (.pointer (some ⟨g,o+j*43+32,none⟩))).run Tryz.prog w=.ok (.agg (cmdA h.c)) w:=by
 have hsz:=Za0 ho.k ho.i
 have:=hR.part (k:=32) (K:=11) Tryz.underlying57 rfl (by kernel_rfl) (Zen hj) (by omega)
 rwa [Zj5 h.k h.c ho.k ho.i] at this
theorem Zho (L:List Hop) (p:Option Addr) (n cap:Nat) (hok:∀h∈L,HopOk h) (hn:n=L.length) (h20:n≤20) (w:World) (hR:RowsAt 43 w p (hopR L)) :
  Calls Tryz.prog 35 #[.slice p n cap] w fun e w'=>e=.returned (.bool (isRt L))∧Below w.heap.size w w':=by
 have HE:=Zq (show isRt L=(decide (1≤n∧n≤5)&&rtF n 0 (L.drop 0)) by unfold isRt;rw[hn];rfl)
 obtain⟨X,eX⟩:∃X,X=rtF n 0 (L.drop 0):=⟨_,rfl⟩
 rw[←eX] at HE
 generalize isRt L=R at *
 have En:=Zq hn
 have HR:=Zq hR
 have HX:=Zq eX
 have Hn:=Zq h20
 have i20:¬(20:Int)<(n:Int):=by omega
 clear hR hn h20 eX
 go_enter Tryz.func35,Tryz.ntmps35
 go_wp2_with fail
 go_loopw [3] (fun i wr=>∃ k:Nat,k≤n∧i=.int .i64 k∧X=rtF n k (L.drop k)∧Below w.heap.size w wr) (fun i _=>n-(intOf i).toNat)
 case atStart=>exact⟨0,Nat.zero_le _,rfl,HX.out,Below.refl _ _⟩
 case round =>
  obtain⟨k,hk,rfl,hE,hbel⟩:=hrel
  by_cases hkn:k<n
  ·have hk1:(k:Int)<(n:Int):=by omega
   obtain⟨h,hj⟩:∃h,L[k]?=some h:=⟨_,List.getElem?_eq_getElem (by rw[←En.out];exact hkn)⟩
   have ho:=hok h (List.mem_of_getElem? hj)
   obtain⟨g,o,ep,hg,hld⟩:=Zd4 (HR.out.grow hbel) hj ho
   subst ep
   rw[Zkm hj] at hE
   have HE':=Zq hE
   have Hbel:=Zq hbel
   have his:=ho.i
   have hsz:=Zax his
   have KM:=Zq (fun (W:World)=>ZmL h.c his W)
   have hcell:=Zei h.c
   have BA:=Zab (Below.refl wr.heap.size wr) (.cells (cmdA h.c) 57)
   have R1:=RowAt.of (Zaq wr (.cells (cmdA h.c) 57))
   clear hE hbel hj ho
   rcases hm:h.c.may with _ | _
   ·have hX:X=false:=by rw[HE'.out,okAt,hm];rfl
    have hR:R=false:=by rw[HE.out,hX,Bool.and_false]
    subst hR
    rw[hm] at KM
    go_wp2_with fail
    refine(KM.out _).mono ?_
    rintro e W2 ⟨rfl,hb2⟩
    have B2:=Zq (Hbel.out.trans ((BA.trans (hb2.mono BA.size)).mono Hbel.out.size))
    clear hb2 BA R1
    go_wp2_with fail
    go_ret
    exact⟨rfl,B2.out⟩
   ·rw[hm] at KM
    obtain⟨b1,hb1⟩:∃b:Bool,((h.c.k:Int)==1)=b:=⟨_,rfl⟩
    have hok':okAt n k h.c=(b1==decide (k+1<n)):=by
     have e1:decide (h.c.k=1)=b1:=by rw[←hb1];exact(Bool.beq_eq_decide_eq _ _).symm
     unfold okAt
     rw[hm,e1,Bool.true_and]
    rw[hok'] at HE'
    clear hok' hm
    go_wp2_with fail
    refine(KM.out _).mono ?_
    rintro e W2 ⟨rfl,hbb⟩
    have B2:=Zq (Hbel.out.trans ((BA.trans (hbb.mono BA.size)).mono Hbel.out.size))
    have R2:=R1.grow hbb
    have hck:=R2.cellAt 0 hcell
    clear hbb BA R1
    by_cases i3:(k:Int)<(n:Int)-1
    ·rw[decide_eq_true (show k+1<n by omega)] at HE'
     rcases b1 with _ | _
     ·have hX:X=false:=by rw[HE'.out];rfl
      have hR:R=false:=by rw[HE.out,hX,Bool.and_false]
      subst hR
      go_wp2_with fail
      go_ret
      exact⟨rfl,B2.out⟩
     ·have hX:=Zq (show X=rtF n (k+1) (L.drop (k+1)) from HE'.out)
      go_wp2_with fail
      go_roundw
      case rel=>exact⟨k+1,by omega,by go_num,hX.out,B2.out⟩
      case measure=>simp[intOf];omega
    ·rw[decide_eq_false (show ¬k+1<n by omega)] at HE'
     rcases b1 with _ | _
     ·have hX:=Zq (show X=rtF n (k+1) (L.drop (k+1)) from HE'.out)
      go_wp2_with fail
      go_roundw
      case rel=>exact⟨k+1,by omega,by go_num,hX.out,B2.out⟩
      case measure=>simp[intOf];omega
     ·have hX:X=false:=by rw[HE'.out];rfl
      have hR:R=false:=by rw[HE.out,hX,Bool.and_false]
      subst hR
      go_wp2_with fail
      ·go_ret
       exact⟨rfl,B2.out⟩
      ·exfalso
       rename_i hh
       simp at hh
       omega
  ·obtain rfl:k=n:=by omega
   have hX:X=true:=by rw[hE,List.drop_of_length_le (by rw[←En.out];exact Nat.le_refl _)];rfl
   have HR':=Zq (show R=decide (1≤k∧k≤5) by rw[HE.out,hX,Bool.and_true])
   have Hbel:=Zq hbel
   clear hbel hE hX HE
   by_cases i1:(1:Int)≤(k:Int)
   ·by_cases i5:(k:Int)≤5
    ·obtain rfl:R=true:=by rw[HR'.out];exact decide_eq_true (by omega)
     go_wp2_with fail
     go_ret
     exact⟨rfl,Hbel.out⟩
    ·obtain rfl:R=false:=by rw[HR'.out];exact decide_eq_false (by omega)
     go_wp2_with fail
     go_ret
     exact⟨rfl,Hbel.out⟩
   ·obtain rfl:R=false:=by rw[HR'.out];exact decide_eq_false (by omega)
    go_wp2_with fail
    go_ret
    exact⟨rfl,Hbel.out⟩
theorem ZgD (k:List Nat) (hk:k.length=32) (hkb:∀i,k.getD i 0<256) (w:World) :
  Calls Tryz.prog 43 #[.agg (bysA k)] w fun e w'=>e=.returned (.agg (bysA (puB k)))∧Below w.heap.size w w':=by
 have:=F.rpublic_K (numB k) _ rfl w
 rwa [kvB hk hkb,kvN] at this
theorem ZkX (k u:List Nat) (hk:k.length=32) (hkb:∀i,k.getD i 0<256) (hu:u.length=32) (hub:∀i,u.getD i 0<256) (w:World) :
  Calls Tryz.prog 53 #[.agg (bysA k),.agg (bysA u)] w fun e w'=>e=.returned (.tuple #[.agg (bysA (keyB (shB k u))),.int .i64 (F.errOf (shB k u))])∧Below w.heap.size w w':=by
 have:=F.rshared_K (numB k) (numB u) _ _ rfl rfl w
 rwa [kvB hk hkb,kvB hu hub,kvN] at this
theorem Zmr (k:List Nat) (fs:List (List Nat)) (n cap:Nat) (p:Option Addr) (hk:k.length=32) (hkb:∀i,k.getD i 0<256) (hl:∀f∈fs,f.length=32) (hb:∀f∈fs,∀ i,f.getD i 0<256) (hn:n=fs.length) (h8:n≤8) (w:World) (h:RowsAt 32 w p (fs.map bysA)) :
  Calls Tryz.prog 74 #[.agg (bysA k),.slice p n cap] w fun e w'=>e=.returned (.tuple #[.agg (bysA (keyB (chB k fs))),.int .i64 (F.errOf (chB k fs))])∧Below w.heap.size w w':=by
 have:=F.rchain_small (numB k) _ (fs.map numB) cap p rfl (by rw[List.length_map];omega) w (Zf5 hl hb h)
 rw[kvB hk hkb,kvN,List.length_map,←hn] at this
 exact this
def rstA (c:Cmd) (h:Array Value) (s t:List Nat):Array Value:=cmdA c++h++bysA s++bysA t
theorem Zjn (a b c:Array Value) (i j:Nat) (hi:i=a.size) (hj:j=a.size+b.size):(a++b++c).extract i j=b:=by
 subst hi hj
 rw[Array.append_assoc,Array.extract_append]
 simp
@[go_sem] theorem ZvP {c:Cmd} {h:Array Value} {s t:List Nat} (hc:c.id.length=8):(rstA c h s t).extract 0 11=cmdA c:=by
 have h1:=Zax hc
 unfold rstA
 rw[Array.append_assoc,Array.append_assoc,←h1,Array.extract_append_left]
 simp
@[go_sem] theorem Zwc {c:Cmd} {h:Array Value} {s t:List Nat} (hc:c.id.length=8) (hh:h.size=49):(rstA c h s t).extract 11 60=h:=by
 have h1:=Zax hc
 unfold rstA
 rw[show cmdA c++h++bysA s++bysA t=cmdA c++h++(bysA s++bysA t) from Array.append_assoc]
 exact Zjn _ _ _ _ _ h1.symm (by rw[h1,hh])
@[go_sem] theorem Zv0 {c:Cmd} {h:Array Value} {s t:List Nat} (hc:c.id.length=8) (hh:h.size=49) (hs:s.length=32):(rstA c h s t).extract 60 92=bysA s:=by
 have h1:=Zax hc
 unfold rstA
 exact Zjn _ _ _ _ _ (by simp[h1,hh]) (by simp[h1,hh,Zaj,hs])
@[go_sem] theorem Zwl {c:Cmd} {h:Array Value} {s t:List Nat} (hc:c.id.length=8) (hh:h.size=49) (hs:s.length=32) (ht:t.length=16):(rstA c h s t).extract 92 108=bysA t:=by
 have h1:=Zax hc
 unfold rstA
 have:=Zjn (cmdA c++h++bysA s) (bysA t) #[] 92 108 (by simp[h1,hh,Zaj,hs]) (by simp[h1,hh,Zaj,hs,ht])
 simpa using this
@[go_sem] theorem ZvQ {c:Cmd} {h:Array Value} {s t:List Nat} (hh:Zbg h=true):Zbg (rstA c h s t)=true:=by
 have h1:=ZcL s
 have h2:=ZcL t
 have h3:=Zhw c
 unfold Zbg rstA at *
 rw[Array.all_append,Array.all_append,Array.all_append,h1,h2,h3,hh];rfl
def rstZ:Array Value:=rstA .zero (rhA (zs 32) (.slice none 0 0) (zs 16)) (zs 32) (zs 16)
@[go_sem] theorem Zso (w:World):(bldA 59 #[]).run Tryz.prog w=.ok (.agg rstZ) w:=run_build w _ _ _ (by kernel_rfl)
def ZvJ (n:Nat) (ps:Array (Nat×Value)):Sem Value:=Instr.buildSlice 32 n ps
@[go_sem ↓ high] theorem ZtV (n:Nat) (ps:Array (Nat×Value)):Instr.buildSlice 32 n ps=ZvJ n ps:=rfl
theorem Zj3:(Tryz.prog.info? 23).map (fun i=>(i.zero,i.size,i.bytes))=some (some (.agg (bysA (zs 32))),32,32):=by kernel_rfl
theorem Zcx {s:List Nat} (hs:s.length=32) (w:World):(ZvJ 1 #[(0,.agg (bysA s))]).run Tryz.prog w=.ok (.slice (some ⟨w.heap.size,0,none⟩) 1 1) (w.alloc (.cells (bysA s) 23)):=by
 have:=Zea (P:=Tryz.prog) Tryz.underlying32 Zj3 [.agg (bysA s)] (fun v hv=>by rw[List.mem_singleton.1 hv];show (bysA s).size=32;rw[Zaj,hs]) (rfl:_=1) (by decide) (by decide) #[(0,.agg (bysA s))] rfl w
 rwa [show (Za5 [.agg (bysA s)]).toArray=bysA s by simp[Za5,Value.cells]] at this
theorem Zhb {w:World} {B gn o:Nat} {v:Value} {ls:List (List Nat)} {x:List Nat} (h:OwnR w B 23 32 v (ls.map bysA)) (hn:w.rangeAt gn o (bysA x).toList) (hx:x.length=32) (hBw:B≤w.heap.size) (hlen:ls.length≤1000) :
  ∃ v' w',(Builtin.append_ #[32,32] 32 #[v,.slice (some ⟨gn,o,none⟩) 1 1]).run Tryz.prog w=.ok v' w'∧OwnR w' B 23 32 v' ((ls++[x]).map bysA)∧w.grownBy w' v.ownBlock∧NewB w v.ownBlock v'.ownBlock:=by
 have:=Zm8 (C:=32) (Y:=32) (z:=.agg (bysA (zs 32))) Tryz.underlying32 Zj3 (by show (bysA (zs 32)).size=32;rw[Zaj,Zah]) (by decide) (by decide) h hn (by rw[Zaj,hx]) (ZcL x) hBw (by rw[List.length_map];exact hlen)
 rwa [show (ls++[x]).map bysA=ls.map bysA++[bysA x] by simp]
theorem ZmX {w:World} {s:List Nat} (hs:s.length=32) (B:Nat) (hB:B≤w.heap.size):OwnR (w.alloc (.cells (bysA s) 23)) B 23 32 (.slice (some ⟨w.heap.size,0,none⟩) 1 1) ([s].map bysA):=by
 have hz:(bysA s).size=32:=by rw[Zaj,hs]
 refine⟨⟨by simp[ZdQ,hz],.inr ⟨w.heap.size,1,bysA s,rfl,hB,Zaq w _,Nat.le_refl _,by unfold maxLen;omega,by rw[hz],?_⟩⟩,fun x hx=>by
  obtain rfl:x=bysA s:=by simpa using hx
  exact hz⟩
 show (bysA s).toList.take 32=_
 rw[List.take_of_length_le (by rw[Array.length_toList,hz];exact Nat.le_refl _)]
 simp[ZdQ]
theorem OwnR.setRow {w:World} {B C y:Nat} {e:TypeId} {v:Value} {ls:List (Array Value)} (h:OwnR w B e C v ls) (hy:v.ownBlock≠some y) (c:Array Value):OwnR (w.setRow y c) B e C v ls :=
 h.moves ((Moves.refl w y none).setRow c) hy (fun _ _ e=>by cases e)
theorem Zc2 {B C:Nat} {w w1 w2:World} {e:TypeId} {v:Value} {ls:List (Array Value)} (hb:Below B w w1) (ho:OwnR w1 B e C v ls) (hB:B≤w1.heap.size) (hg:w1.grownBy w2 v.ownBlock):Below B w w2 :=
 ⟨hg.os.trans hb.os,hg.tape.trans hb.tape,hg.output.trans hb.output,Nat.le_trans hb.size hg.size,fun k hk=>by
  rw[hg.block k (by omega) (fun e=>by have:=(ho.ltb k e.symm).1;omega),hb.block k hk]⟩
def secT (T:Option (List (List Nat))) (w':World) (B:Nat) (v:Value):Prop:=OwnR w' B 23 32 v ((T.getD []).map bysA)
def secE (T:Option (List (List Nat))):Int:=if T.isSome then 0 else 7
theorem Zcu {n:Nat} (h:n=0):F.errOf n=7:=by unfold F.errOf;rw[if_pos h]
theorem Zcr {n:Nat} (h:¬n=0):F.errOf n=0:=by unfold F.errOf;rw[if_neg h]
theorem ZhL {fs:List (List Nat)} {a:List Nat} {L:List Hop} {k:Nat} {h:Hop} (hk:L[k]?=some h) :
  secF fs a (L.drop k)=(if chB h.k fs=0 then none else if nxA (keyB (chB h.k fs)) a=0 then none else (secF (fs++[bli (keyB (chB h.k fs)) a]) (keyB (nxA (keyB (chB h.k fs)) a)) (L.drop (k+1))).map (keyB (chB h.k fs)::·)):=by
 obtain⟨hq,rfl⟩:=List.getElem?_eq_some_iff.1 hk
 rw[List.drop_eq_getElem_cons hq];rfl
structure SInv (w:World) (y:Nat) (T:Option (List (List Nat))) (L:List Hop) (k:Nat) (vf va:Value) (fs acc:List (List Nat)) (a:List Nat) (wr:World):Prop where
 hy:RowAt wr y (bysA a)
 of:OwnR wr w.heap.size 23 32 vf (fs.map bysA)
 oa:OwnR wr w.heap.size 23 32 va (acc.map bysA)
 nf:vf.ownBlock≠some y
 na:va.ownBlock≠some y
 nn:vf.ownBlock≠va.ownBlock
 bel:Below w.heap.size w wr
 fl:fs.length=k+1
 al:acc.length=k
 f32:∀f∈fs,f.length=32
 fb:∀f∈fs,∀ i,f.getD i 0<256
 a32:a.length=32
 ab:∀i,a.getD i 0<256
 eq:T=(secF fs a (L.drop k)).map (acc++·)
theorem OwnR.rows {w:World} {B C n c:Nat} {e:TypeId} {p:Option Addr} {ls:List (Array Value)} (h:OwnR w B e C (.slice p n c) ls):RowsAt C w p ls:=by
 obtain⟨p',c',e,hr,_⟩:=h.form
 cases e;exact hr
theorem NewB.neB {w:World} {a b:Option Nat} {o:Option Nat} (h:NewB w a b) (ha:o≠a) (ho:∀k,o=some k→k<w.heap.size) (hb:b≠none):o≠b:=fun e=>by
 cases hbb:b with
 | none=>exact hb hbb
 | some k =>
  rw[hbb] at e
  rcases h k hbb with h1 | h1
  ·exact ha (by rw[e,h1])
  ·have:=ho k e;omega
theorem OwnR.some_block {w:World} {B C:Nat} {e:TypeId} {v:Value} {ls:List (Array Value)} (h:OwnR w B e C v ls) (h0:0<ls.length):v.ownBlock≠none:=by
 obtain⟨p,c,rfl,_,_,_,hp⟩:=h.form
 obtain⟨g,rfl,_⟩:=hp h0
 simp[Value.ownBlock]
theorem Zna (x a0:List Nat) (L:List Hop) (p:Option Addr) (n cap:Nat) (hx:x.length=32) (hxb:∀i,x.getD i 0<256) (ha:a0.length=32) (hab:∀i,a0.getD i 0<256) (hok:∀h∈L,HopOk h) (hn:n=L.length) (h5:n≤5) (w:World) (hT:Tabs w) (hR:RowsAt 43 w p (hopR L)) :
  Calls Tryz.prog 33 #[.agg (bysA x),.agg (bysA a0),.slice p n cap] w fun e w'=>∃ v,e=.returned (.tuple #[v,.int .i64 (secE (secF [x] a0 L))])∧secT (secF [x] a0 L) w' w.heap.size v∧Below w.heap.size w w':=by
 have hxs:=Zae hx
 have has:=Zae ha
 have hd5:¬(5:Int)<(n:Int):=by omega
 have hbx:=fun W=>Zcx hx W
 have HT:=Zq hT
 have HR:=Zq hR
 have Hx:=Zq (And.intro hx hxb)
 have Ha:=Zq (And.intro ha hab)
 have Hn:=Zq (And.intro hn h5)
 have Hok:=Zq hok
 obtain⟨T,eT⟩:∃T,T=secF [x] a0 L:=⟨_,rfl⟩
 have HE:=Zq eT
 rw[←eT]
 clear hT hR hx hxb ha hab hn h5 hok eT
 go_enter Tryz.func33,Tryz.ntmps33
 go_wp2_with fail
 have LX:=Zab (Zab (Below.refl w.heap.size w) (.cells (bysA x) 23)) (.cells (bysA a0) 23)
 have Y0:RowAt (((w.alloc (.cells (bysA x) 23)).alloc (.cells (bysA a0) 23)).alloc (.cells (bysA x) 23)) (w.heap.size+1) (bysA a0):=⟨by go_simp,by go_simp,by go_simp⟩
 have F0:=ZmX Hx.out.1 (w:=(w.alloc (.cells (bysA x) 23)).alloc (.cells (bysA a0) 23)) w.heap.size LX.size
 have I0:SInv w (w.heap.size+1) T L 0 (.slice (some ⟨((w.alloc (.cells (bysA x) 23)).alloc (.cells (bysA a0) 23)).heap.size,0,none⟩) 1 1) (.slice none 0 0) [x] [] a0 (((w.alloc (.cells (bysA x) 23)).alloc (.cells (bysA a0) 23)).alloc (.cells (bysA x) 23)) :=
  ⟨Y0,F0,OwnR.nil _ _ _ _,by simp[Value.ownBlock],by simp[Value.ownBlock],by simp[Value.ownBlock],Zab LX _,rfl,rfl,fun f hf=>by rw[List.mem_singleton.1 hf];exact Hx.out.1,fun f hf=>by rw[List.mem_singleton.1 hf];exact Hx.out.2,Ha.out.1,Ha.out.2,by rw[HE.out];simp⟩
 rw[show ((w.alloc (.cells (bysA x) 23)).alloc (.cells (bysA a0) 23)).heap.size=w.heap.size+1+1 by go_simp] at I0
 have HI0:=Zq I0
 clear I0 F0 Y0 LX hbx
 have l_y:w.heap.size≤w.heap.size+1:=by omega
 generalize w.heap.size+1+1=g0 at *
 generalize w.heap.size+1=y at *
 go_loopw [8,9,19] (fun fv av i wr=>∃ (vf va:Value) (k:Nat) (fs acc:List (List Nat)) (a:List Nat),vf=fv∧va=av∧k≤n∧i=.int .i64 k∧SInv w y T L k vf va fs acc a wr) (fun _ _ i _=>n-(intOf i).toNat)
 case atStart=>exact⟨_,_,0,[x],[],a0,rfl,rfl,Nat.zero_le _,rfl,HI0.out⟩
 case round =>
  obtain⟨vf,va,k,fs,acc,a,rfl,rfl,hk,rfl,I⟩:=hrel
  clear HI0
  by_cases hkn:k<n
  ·have hk1:(k:Int)<(n:Int):=by omega
   obtain⟨h,hj⟩:∃h,L[k]?=some h:=⟨_,List.getElem?_eq_getElem (by rw[←Hn.out.1];exact hkn)⟩
   have ho:=Hok.out h (List.mem_of_getElem? hj)
   obtain⟨g,o,ep,hg,hld⟩:=Zmx (HR.out.grow I.bel) hj ho
   subst ep
   have hks:=ho.k
   have his:=ho.i
   have hsz:=Za0 hks his
   have hkey:=Zae hks
   have has':=Zae I.a32
   obtain⟨pf,cf,rfl,_,_,_,_⟩:=I.of.form
   rw[List.length_map,I.fl] at I ⊢
   have HEq:=Zq I.eq
   rw[ZhL hj] at HEq
   obtain⟨m,em⟩:∃m,m=k+1:=⟨_,rfl⟩
   rw[←em] at I ⊢
   have KC:=Zq (fun (W:World) (hW:RowsAt 32 W pf (fs.map bysA))=>Zpg h.k fs m cf pf hks ho.kb I.f32 I.fb (by rw[I.fl,em]) (by have:=Hn.out.2;omega) W hW)
   obtain⟨s,es⟩:∃s,s=keyB (chB h.k fs):=⟨_,rfl⟩
   have hs32:s.length=32:=by rw[es];exact Za1 _
   have hsb:∀i,s.getD i 0<256:=by rw[es];exact ZcN _
   have hss:=Zae hs32
   rw[←es] at KC HEq
   obtain⟨cn,ecn⟩:∃c,c=chB h.k fs:=⟨_,rfl⟩
   rw[←ecn] at KC HEq
   have Hof:=Zq I.of
   have Hoa:=Zq I.oa
   have Hy:=Zq I.hy
   have Hbel:=Zq I.bel
   have HI:=Zq I
   have Em:=Zq em
   obtain⟨y1,y2,y3⟩:=I.hy
   clear hj ho es ecn I em
   by_cases hz:cn=0
   ·rw[if_pos hz] at HEq
    obtain rfl:T=none:=HEq.out
    rw[Zcu hz] at KC
    clear hz HEq
    go_wp2_with fail
    have m0_hb:(Value.slice pf m cf).ownBlock≠some wr.heap.size:=fun e=>by have:=(Hof.out.ltb _ e).2;omega
    have m1_hb:va.ownBlock≠some wr.heap.size:=fun e=>by have:=(Hoa.out.ltb _ e).2;omega
    have n_y_hb:y≠wr.heap.size:=Nat.ne_of_lt Hy.out.2.2
    have l_hb:w.heap.size≤wr.heap.size:=Hbel.out.size
    have hb11:=Zab (Below.refl wr.heap.size wr) (.cells (hopA h.k h.c) 77)
    have N11:=Zq (RowAt.of (Zaq wr (.cells (hopA h.k h.c) 77)))
    have O11x0:=Zq (Hof.out.grow hb11)
    clear Hof
    have O11x1:=Zq (Hoa.out.grow hb11)
    clear Hoa
    have R11x0:=Zq (Hy.out.grow hb11)
    have B11:=Zq (Hbel.out.trans (hb11.mono Hbel.out.size))
    clear hb11 Hbel Hy y1 y2 y3 hld hg
    generalize wr.heap.size=hb at *
    generalize wr.alloc (.cells (hopA h.k h.c) 77)=W11 at *
    refine(KC.out _ (OwnR.rows O11x0.out)).mono ?_
    rintro e W12 ⟨rfl,hb12⟩
    have O12x0:=Zq (O11x0.out.grow hb12)
    clear O11x0
    have O12x1:=Zq (O11x1.out.grow hb12)
    clear O11x1
    have R12x0:=Zq (R11x0.out.grow hb12)
    have R12x1:=Zq (N11.out.grow hb12)
    have B12:=Zq (B11.out.trans (hb12.mono B11.out.size))
    clear hb12 B11 R11x0 N11
    obtain⟨R12x0a,R12x0b,R12x0c⟩:=R12x0.out
    obtain⟨R12x1a,R12x1b,R12x1c⟩:=R12x1.out
    go_wp2_with fail
    refine bodyPost_ret (v:=.tuple #[.slice none 0 0,.int .i64 7]) (results_tmp2 Tryz.results33 _ _ _) rfl ⟨_,rfl,OwnR.nil _ _ _ _,?_⟩
    exact B12.out.alloc B12.out.size _
   ·rw[if_neg hz] at HEq
    rw[Zcr hz] at KC
    clear hz
    have hKB:=Zq (fun (W:World) (h:Tabs W)=>Zgl s a hs32 hsb HI.out.a32 HI.out.ab W h)
    obtain⟨b,eb⟩:∃b,b=bli s a:=⟨_,rfl⟩
    have hb32:b.length=32:=by rw[eb];exact Zc0 _ _
    have hbb:∀i,b.getD i 0<256:=by rw[eb];exact Zjl _ _
    have hbs:=Zae hb32
    have KS:=Zq (fun (W:World)=>show Calls Tryz.prog 29 #[.agg (bysA b),.agg (bysA a)] W fun e w'=>e=.returned (.tuple #[.agg (bysA (keyB (nxA s a))),.int .i64 (F.errOf (nxA s a))])∧Below W.heap.size W w' from by
     have:=ZfC b a hb32 hbb HI.out.a32 HI.out.ab W
     unfold nxA;rwa [←eb])
    obtain⟨a',ea'⟩:∃a',a'=keyB (nxA s a):=⟨_,rfl⟩
    have ha32:a'.length=32:=by rw[ea'];exact Za1 _
    have hab:∀i,a'.getD i 0<256:=by rw[ea'];exact ZcN _
    have has2:=Zae ha32
    rw[←eb] at hKB HEq
    rw[←ea'] at KS HEq
    obtain⟨dn,edn⟩:∃d,d=nxA s a:=⟨_,rfl⟩
    rw[←edn] at KS HEq
    clear eb ea' edn
    by_cases hz:dn=0
    ·rw[if_pos hz] at HEq
     obtain rfl:T=none:=HEq.out
     rw[Zcu hz] at KS
     clear hz HEq
     go_wp2_with fail
     have m0_hb:(Value.slice pf m cf).ownBlock≠some wr.heap.size:=fun e=>by have:=(Hof.out.ltb _ e).2;omega
     have m1_hb:va.ownBlock≠some wr.heap.size:=fun e=>by have:=(Hoa.out.ltb _ e).2;omega
     have n_y_hb:y≠wr.heap.size:=Nat.ne_of_lt Hy.out.2.2
     have l_hb:w.heap.size≤wr.heap.size:=Hbel.out.size
     have hb11:=Zab (Below.refl wr.heap.size wr) (.cells (hopA h.k h.c) 77)
     have N11:=Zq (RowAt.of (Zaq wr (.cells (hopA h.k h.c) 77)))
     have O11x0:=Zq (Hof.out.grow hb11)
     clear Hof
     have O11x1:=Zq (Hoa.out.grow hb11)
     clear Hoa
     have R11x0:=Zq (Hy.out.grow hb11)
     have B11:=Zq (Hbel.out.trans (hb11.mono Hbel.out.size))
     clear hb11 Hbel Hy y1 y2 y3 hld hg
     generalize wr.heap.size=hb at *
     generalize wr.alloc (.cells (hopA h.k h.c) 77)=W11 at *
     refine(KC.out _ (OwnR.rows O11x0.out)).mono ?_
     rintro e W12 ⟨rfl,hb12⟩
     have O12x0:=Zq (O11x0.out.grow hb12)
     clear O11x0
     have O12x1:=Zq (O11x1.out.grow hb12)
     clear O11x1
     have R12x0:=Zq (R11x0.out.grow hb12)
     have R12x1:=Zq (N11.out.grow hb12)
     have B12:=Zq (B11.out.trans (hb12.mono B11.out.size))
     clear hb12 B11 R11x0 N11
     obtain⟨R12x0a,R12x0b,R12x0c⟩:=R12x0.out
     obtain⟨R12x1a,R12x1b,R12x1c⟩:=R12x1.out
     go_wp2_with fail
     have m0_sb:(Value.slice pf m cf).ownBlock≠some W12.heap.size:=fun e=>by have:=(O12x0.out.ltb _ e).2;omega
     have m1_sb:va.ownBlock≠some W12.heap.size:=fun e=>by have:=(O12x1.out.ltb _ e).2;omega
     have n_y_sb:y≠W12.heap.size:=Nat.ne_of_lt R12x0.out.2.2
     have n_hb_sb:hb≠W12.heap.size:=Nat.ne_of_lt R12x1.out.2.2
     have l_sb:w.heap.size≤W12.heap.size:=B12.out.size
     have hb13:=Zab (Below.refl W12.heap.size W12) (.cells (bysA s) 23)
     have N13:=Zq (RowAt.of (Zaq W12 (.cells (bysA s) 23)))
     have O13x0:=Zq (O12x0.out.grow hb13)
     clear O12x0
     have O13x1:=Zq (O12x1.out.grow hb13)
     clear O12x1
     have R13x0:=Zq (R12x0.out.grow hb13)
     have R13x1:=Zq (R12x1.out.grow hb13)
     have B13:=Zq (B12.out.trans (hb13.mono B12.out.size))
     clear hb13 B12 R12x0 R12x1 R12x0a R12x0b R12x0c R12x1a R12x1b R12x1c
     generalize W12.heap.size=sb at *
     generalize W12.alloc (.cells (bysA s) 23)=W13 at *
     refine(hKB.out _ (HT.out.grow B13.out)).mono ?_
     rintro e W14 ⟨rfl,hb14⟩
     have O14x0:=Zq (O13x0.out.grow hb14)
     clear O13x0
     have O14x1:=Zq (O13x1.out.grow hb14)
     clear O13x1
     have R14x0:=Zq (R13x0.out.grow hb14)
     have R14x1:=Zq (R13x1.out.grow hb14)
     have R14x2:=Zq (N13.out.grow hb14)
     have B14:=Zq (B13.out.trans (hb14.mono B13.out.size))
     clear hb14 B13 R13x0 R13x1 N13
     obtain⟨R14x0a,R14x0b,R14x0c⟩:=R14x0.out
     obtain⟨R14x1a,R14x1b,R14x1c⟩:=R14x1.out
     obtain⟨R14x2a,R14x2b,R14x2c⟩:=R14x2.out
     go_wp2_with fail
     have m0_bb:(Value.slice pf m cf).ownBlock≠some W14.heap.size:=fun e=>by have:=(O14x0.out.ltb _ e).2;omega
     have m1_bb:va.ownBlock≠some W14.heap.size:=fun e=>by have:=(O14x1.out.ltb _ e).2;omega
     have n_y_bb:y≠W14.heap.size:=Nat.ne_of_lt R14x0.out.2.2
     have n_hb_bb:hb≠W14.heap.size:=Nat.ne_of_lt R14x1.out.2.2
     have n_sb_bb:sb≠W14.heap.size:=Nat.ne_of_lt R14x2.out.2.2
     have l_bb:w.heap.size≤W14.heap.size:=B14.out.size
     have hb15:=Zab (Below.refl W14.heap.size W14) (.cells (bysA b) 23)
     have N15:=Zq (RowAt.of (Zaq W14 (.cells (bysA b) 23)))
     have O15x0:=Zq (O14x0.out.grow hb15)
     clear O14x0
     have O15x1:=Zq (O14x1.out.grow hb15)
     clear O14x1
     have R15x0:=Zq (R14x0.out.grow hb15)
     have R15x1:=Zq (R14x1.out.grow hb15)
     have R15x2:=Zq (R14x2.out.grow hb15)
     have B15:=Zq (B14.out.trans (hb15.mono B14.out.size))
     clear hb15 B14 R14x0 R14x1 R14x2 R14x0a R14x0b R14x0c R14x1a R14x1b R14x1c R14x2a R14x2b R14x2c
     generalize W14.heap.size=bb at *
     generalize W14.alloc (.cells (bysA b) 23)=W15 at *
     refine(KS.out _).mono ?_
     rintro e W16 ⟨rfl,hb16⟩
     have O16x0:=Zq (O15x0.out.grow hb16)
     clear O15x0
     have O16x1:=Zq (O15x1.out.grow hb16)
     clear O15x1
     have R16x0:=Zq (R15x0.out.grow hb16)
     have R16x1:=Zq (R15x1.out.grow hb16)
     have R16x2:=Zq (R15x2.out.grow hb16)
     have R16x3:=Zq (N15.out.grow hb16)
     have B16:=Zq (B15.out.trans (hb16.mono B15.out.size))
     clear hb16 B15 R15x0 R15x1 R15x2 N15
     obtain⟨R16x0a,R16x0b,R16x0c⟩:=R16x0.out
     obtain⟨R16x1a,R16x1b,R16x1c⟩:=R16x1.out
     obtain⟨R16x2a,R16x2b,R16x2c⟩:=R16x2.out
     obtain⟨R16x3a,R16x3b,R16x3c⟩:=R16x3.out
     go_wp2_with fail
     refine bodyPost_ret (v:=.tuple #[.slice none 0 0,.int .i64 7]) (results_tmp2 Tryz.results33 _ _ _) rfl ⟨_,rfl,OwnR.nil _ _ _ _,?_⟩
     exact Zad B16.out l_y _
    ·rw[if_neg hz] at HEq
     rw[Zcr hz] at KS
     clear hz
     go_wp2_with fail
     have m0_hb:(Value.slice pf m cf).ownBlock≠some wr.heap.size:=fun e=>by have:=(Hof.out.ltb _ e).2;omega
     have m1_hb:va.ownBlock≠some wr.heap.size:=fun e=>by have:=(Hoa.out.ltb _ e).2;omega
     have n_y_hb:y≠wr.heap.size:=Nat.ne_of_lt Hy.out.2.2
     have l_hb:w.heap.size≤wr.heap.size:=Hbel.out.size
     have hb11:=Zab (Below.refl wr.heap.size wr) (.cells (hopA h.k h.c) 77)
     have N11:=Zq (RowAt.of (Zaq wr (.cells (hopA h.k h.c) 77)))
     have O11x0:=Zq (Hof.out.grow hb11)
     clear Hof
     have O11x1:=Zq (Hoa.out.grow hb11)
     clear Hoa
     have R11x0:=Zq (Hy.out.grow hb11)
     have B11:=Zq (Hbel.out.trans (hb11.mono Hbel.out.size))
     clear hb11 Hbel Hy y1 y2 y3 hld hg
     generalize wr.heap.size=hb at *
     generalize wr.alloc (.cells (hopA h.k h.c) 77)=W11 at *
     refine(KC.out _ (OwnR.rows O11x0.out)).mono ?_
     rintro e W12 ⟨rfl,hb12⟩
     have O12x0:=Zq (O11x0.out.grow hb12)
     clear O11x0
     have O12x1:=Zq (O11x1.out.grow hb12)
     clear O11x1
     have R12x0:=Zq (R11x0.out.grow hb12)
     have R12x1:=Zq (N11.out.grow hb12)
     have B12:=Zq (B11.out.trans (hb12.mono B11.out.size))
     clear hb12 B11 R11x0 N11
     obtain⟨R12x0a,R12x0b,R12x0c⟩:=R12x0.out
     obtain⟨R12x1a,R12x1b,R12x1c⟩:=R12x1.out
     go_wp2_with fail
     have m0_sb:(Value.slice pf m cf).ownBlock≠some W12.heap.size:=fun e=>by have:=(O12x0.out.ltb _ e).2;omega
     have m1_sb:va.ownBlock≠some W12.heap.size:=fun e=>by have:=(O12x1.out.ltb _ e).2;omega
     have n_y_sb:y≠W12.heap.size:=Nat.ne_of_lt R12x0.out.2.2
     have n_hb_sb:hb≠W12.heap.size:=Nat.ne_of_lt R12x1.out.2.2
     have l_sb:w.heap.size≤W12.heap.size:=B12.out.size
     have hb13:=Zab (Below.refl W12.heap.size W12) (.cells (bysA s) 23)
     have N13:=Zq (RowAt.of (Zaq W12 (.cells (bysA s) 23)))
     have O13x0:=Zq (O12x0.out.grow hb13)
     clear O12x0
     have O13x1:=Zq (O12x1.out.grow hb13)
     clear O12x1
     have R13x0:=Zq (R12x0.out.grow hb13)
     have R13x1:=Zq (R12x1.out.grow hb13)
     have B13:=Zq (B12.out.trans (hb13.mono B12.out.size))
     clear hb13 B12 R12x0 R12x1 R12x0a R12x0b R12x0c R12x1a R12x1b R12x1c
     generalize W12.heap.size=sb at *
     generalize W12.alloc (.cells (bysA s) 23)=W13 at *
     refine(hKB.out _ (HT.out.grow B13.out)).mono ?_
     rintro e W14 ⟨rfl,hb14⟩
     have O14x0:=Zq (O13x0.out.grow hb14)
     clear O13x0
     have O14x1:=Zq (O13x1.out.grow hb14)
     clear O13x1
     have R14x0:=Zq (R13x0.out.grow hb14)
     have R14x1:=Zq (R13x1.out.grow hb14)
     have R14x2:=Zq (N13.out.grow hb14)
     have B14:=Zq (B13.out.trans (hb14.mono B13.out.size))
     clear hb14 B13 R13x0 R13x1 N13
     obtain⟨R14x0a,R14x0b,R14x0c⟩:=R14x0.out
     obtain⟨R14x1a,R14x1b,R14x1c⟩:=R14x1.out
     obtain⟨R14x2a,R14x2b,R14x2c⟩:=R14x2.out
     go_wp2_with fail
     have m0_bb:(Value.slice pf m cf).ownBlock≠some W14.heap.size:=fun e=>by have:=(O14x0.out.ltb _ e).2;omega
     have m1_bb:va.ownBlock≠some W14.heap.size:=fun e=>by have:=(O14x1.out.ltb _ e).2;omega
     have n_y_bb:y≠W14.heap.size:=Nat.ne_of_lt R14x0.out.2.2
     have n_hb_bb:hb≠W14.heap.size:=Nat.ne_of_lt R14x1.out.2.2
     have n_sb_bb:sb≠W14.heap.size:=Nat.ne_of_lt R14x2.out.2.2
     have l_bb:w.heap.size≤W14.heap.size:=B14.out.size
     have hb15:=Zab (Below.refl W14.heap.size W14) (.cells (bysA b) 23)
     have N15:=Zq (RowAt.of (Zaq W14 (.cells (bysA b) 23)))
     have O15x0:=Zq (O14x0.out.grow hb15)
     clear O14x0
     have O15x1:=Zq (O14x1.out.grow hb15)
     clear O14x1
     have R15x0:=Zq (R14x0.out.grow hb15)
     have R15x1:=Zq (R14x1.out.grow hb15)
     have R15x2:=Zq (R14x2.out.grow hb15)
     have B15:=Zq (B14.out.trans (hb15.mono B14.out.size))
     clear hb15 B14 R14x0 R14x1 R14x2 R14x0a R14x0b R14x0c R14x1a R14x1b R14x1c R14x2a R14x2b R14x2c
     generalize W14.heap.size=bb at *
     generalize W14.alloc (.cells (bysA b) 23)=W15 at *
     refine(KS.out _).mono ?_
     rintro e W16 ⟨rfl,hb16⟩
     have O16x0:=Zq (O15x0.out.grow hb16)
     clear O15x0
     have O16x1:=Zq (O15x1.out.grow hb16)
     clear O15x1
     have R16x0:=Zq (R15x0.out.grow hb16)
     have R16x1:=Zq (R15x1.out.grow hb16)
     have R16x2:=Zq (R15x2.out.grow hb16)
     have R16x3:=Zq (N15.out.grow hb16)
     have B16:=Zq (B15.out.trans (hb16.mono B15.out.size))
     clear hb16 B15 R15x0 R15x1 R15x2 N15
     have hbk:=fun W=>Zcx hs32 W
     have hbk2:=fun W=>Zcx hb32 W
     have O18x0:=Zq (O16x0.out.setRow HI.out.nf (bysA a'))
     have O18x1:=Zq (O16x1.out.setRow HI.out.na (bysA a'))
     have R18x0:=Zq (R16x0.out.set (bysA a'))
     have R18x1:=Zq (R16x2.out.other (Ne.symm n_y_sb) (bysA a'))
     have R18x2:=Zq (R16x3.out.other (Ne.symm n_y_bb) (bysA a'))
     have B18:=Zq (Zad B16.out l_y (bysA a'))
     obtain⟨W18,eW18⟩:∃W,W=W16.setRow y (bysA a'):=⟨_,rfl⟩
     rw[←eW18] at R18x0 R18x1 R18x2 O18x0 O18x1 B18
     have hW18:=eW18.symm
     clear eW18
     have hb19:=Zab (Below.refl W18.heap.size W18) (.cells (bysA s) 23)
     have O19x0:=Zq (O18x0.out.grow hb19)
     have O19x1:=Zq (O18x1.out.grow hb19)
     have n_y_tb:y≠W18.heap.size:=Nat.ne_of_lt R18x0.out.2.2
     have R19x0:=Zq (R18x0.out.grow hb19)
     have n_sb_tb:sb≠W18.heap.size:=Nat.ne_of_lt R18x1.out.2.2
     have R19x1:=Zq (R18x1.out.grow hb19)
     have n_bb_tb:bb≠W18.heap.size:=Nat.ne_of_lt R18x2.out.2.2
     have R19x2:=Zq (R18x2.out.grow hb19)
     have m0_tb:(Value.slice pf m cf).ownBlock≠some W18.heap.size:=fun e=>by have:=(O18x0.out.ltb _ e).2;omega
     have m1_tb:va.ownBlock≠some W18.heap.size:=fun e=>by have:=(O18x1.out.ltb _ e).2;omega
     have R19n:=Zq (RowAt.of (Zaq W18 (.cells (bysA s) 23)))
     have l_tb:w.heap.size≤W18.heap.size:=B18.out.size
     have B19:=Zq (B18.out.trans (hb19.mono B18.out.size))
     clear hb19
     obtain⟨tb,etb⟩:∃z,z=W18.heap.size:=⟨_,rfl⟩
     obtain⟨W19,eW19⟩:∃z,z=W18.alloc (.cells (bysA s) 23):=⟨_,rfl⟩
     rw[←etb] at R19n l_tb n_y_tb n_sb_tb n_bb_tb m0_tb m1_tb
     rw[←eW19] at R19x0 R19x1 R19x2 R19n O19x0 O19x1 B19
     have hW19:=eW19.symm
     have htb:=etb.symm
     clear eW19 etb
     obtain⟨va2,W20,hr20,ho20,hg20,hn20⟩:=Zhb O19x1.out (Zcb R19n.out) hs32 B19.out.size (by rw[HI.out.al];have:=Hn.out.2;omega)
     have P20:=Zq ho20
     have A20:=Zq (Zc2 B19.out O19x1.out B19.out.size hg20)
     have N20:=Zq hn20
     have Q20x0:=Zq (ZaM R19x0.out hg20 HI.out.na)
     have Q20x1:=Zq (ZaM R19x1.out hg20 m1_sb)
     have Q20x2:=Zq (ZaM R19x2.out hg20 m1_bb)
     have Q20x3:=Zq (ZaM R19n.out hg20 m1_tb)
     have U20x0:=Zq (O19x0.out.kept hg20 (.inr HI.out.nn))
     have G20:=Zq hg20.size
     clear ho20 hg20 hn20
     have Hnn:=Zq (NewB.neB N20.out HI.out.nn (fun k e=>by have:=(O19x0.out.ltb k e).2;exact this) (P20.out.some_block (by simp)))
     have HnaY:=Zq (show va2.ownBlock≠some y from N20.out.ne HI.out.na (R19x0.out.2.2))
     have hb21:=Zab (Below.refl W20.heap.size W20) (.cells (bysA b) 23)
     have O21x0:=Zq (U20x0.out.grow hb21)
     have O21x1:=Zq (P20.out.grow hb21)
     have n_y_ub:y≠W20.heap.size:=Nat.ne_of_lt Q20x0.out.2.2
     have R21x0:=Zq (Q20x0.out.grow hb21)
     have n_sb_ub:sb≠W20.heap.size:=Nat.ne_of_lt Q20x1.out.2.2
     have R21x1:=Zq (Q20x1.out.grow hb21)
     have n_bb_ub:bb≠W20.heap.size:=Nat.ne_of_lt Q20x2.out.2.2
     have R21x2:=Zq (Q20x2.out.grow hb21)
     have n_tb_ub:tb≠W20.heap.size:=Nat.ne_of_lt Q20x3.out.2.2
     have R21x3:=Zq (Q20x3.out.grow hb21)
     have m0_ub:(Value.slice pf m cf).ownBlock≠some W20.heap.size:=fun e=>by have:=(U20x0.out.ltb _ e).2;omega
     have m1_ub:va2.ownBlock≠some W20.heap.size:=fun e=>by have:=(P20.out.ltb _ e).2;omega
     have R21n:=Zq (RowAt.of (Zaq W20 (.cells (bysA b) 23)))
     have l_ub:w.heap.size≤W20.heap.size:=A20.out.size
     have B21:=Zq (A20.out.trans (hb21.mono A20.out.size))
     clear hb21
     obtain⟨ub,eub⟩:∃z,z=W20.heap.size:=⟨_,rfl⟩
     obtain⟨W21,eW21⟩:∃z,z=W20.alloc (.cells (bysA b) 23):=⟨_,rfl⟩
     rw[←eub] at R21n l_ub n_y_ub n_sb_ub n_bb_ub n_tb_ub m0_ub m1_ub
     rw[←eW21] at R21x0 R21x1 R21x2 R21x3 R21n O21x0 O21x1 B21
     have hW21:=eW21.symm
     have hub:=eub.symm
     clear eW21 eub
     obtain⟨vf2,W22,hr22,ho22,hg22,hn22⟩:=Zhb O21x0.out (Zcb R21n.out) hb32 B21.out.size (by rw[HI.out.fl];have:=Hn.out.2;omega)
     have P22:=Zq ho22
     have A22:=Zq (Zc2 B21.out O21x0.out B21.out.size hg22)
     have N22:=Zq hn22
     have Q22x0:=Zq (ZaM R21x0.out hg22 HI.out.nf)
     have Q22x1:=Zq (ZaM R21x1.out hg22 m0_sb)
     have Q22x2:=Zq (ZaM R21x2.out hg22 m0_bb)
     have Q22x3:=Zq (ZaM R21x3.out hg22 m0_tb)
     have Q22x4:=Zq (ZaM R21n.out hg22 m0_ub)
     have U22x1:=Zq (O21x1.out.kept hg22 (.inr (fun e=>Hnn.out e.symm)))
     have G22:=Zq hg22.size
     clear ho22 hg22 hn22
     have Hnn2:=Zq (show vf2.ownBlock≠va2.ownBlock from fun e=>NewB.neB N22.out (fun e=>Hnn.out e.symm) (fun k e=>by have:=(O21x1.out.ltb k e).2;exact this) (P22.out.some_block (by simp)) e.symm)
     have HnfY:=Zq (show vf2.ownBlock≠some y from N22.out.ne HI.out.nf (R21x0.out.2.2))
     have hI2:SInv w y T L m vf2 va2 (fs++[b]) (acc++[s]) a' W22:=by
      obtain rfl:=Em.out
      exact⟨Q22x0.out,P22.out,U22x1.out,HnfY.out,HnaY.out,Hnn2.out,A22.out,by rw[List.length_append,HI.out.fl];rfl,by rw[List.length_append,HI.out.al];rfl,fun f hf=>by
       rcases List.mem_append.1 hf with hf | hf
       ·exact HI.out.f32 f hf
       ·rw[List.mem_singleton.1 hf];exact hb32,fun f hf=>by
       rcases List.mem_append.1 hf with hf | hf
       ·exact HI.out.fb f hf
       ·rw[List.mem_singleton.1 hf];exact hbb,ha32,hab,by
       rw[HEq.out,Option.map_map]
       congr 1
       funext l
       simp⟩
     have HI2:=Zq hI2
     clear hI2
     obtain⟨sy1,sy2,sy3⟩:=R16x0.out
     obtain⟨sx1,sx2,sx3⟩:=R18x1.out
     obtain⟨bx1,bx2,bx3⟩:=Q20x2.out
     go_wp2_with (at_builtin;first | refine Lib.wpList_append_run _ rfl _ _ _ _ rfl _ _ rfl rfl _ _ hr20 ?_ | refine Lib.wpList_append_run _ rfl _ _ _ _ rfl _ _ rfl rfl _ _ hr22 ?_)
     go_roundw
     case rel=>exact⟨vf2,va2,m,_,_,a',rfl,rfl,by have:=Em.out;omega,by rw[Em.out];go_num,HI2.out⟩
     case measure=>simp[intOf];omega
  ·obtain rfl:k=n:=by omega
   have hT:T=some acc:=by
    rw[I.eq,List.drop_of_length_le (by rw[←Hn.out.1];exact Nat.le_refl _)];simp[secF]
   subst hT
   have HI:=Zq I
   clear I
   go_wp2_with fail
   refine bodyPost_ret (v:=.tuple #[va,.int .i64 0]) (results_tmp2 Tryz.results33 _ _ _) rfl ⟨va,rfl,HI.out.oa,HI.out.bel⟩
end Go.Proofs.YtddmjddlbhdcpaaGreatDoor
