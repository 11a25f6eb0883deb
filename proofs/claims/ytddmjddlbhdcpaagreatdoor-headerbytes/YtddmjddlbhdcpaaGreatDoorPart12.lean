/-
  Part 12 of the texts behind the theorem.
-/
import Derived.Test.YtddmjddlbhdcpaaGreatDoorPart9
import Derived.Test.YtddmjddlbhdcpaaGreatDoorPart11
import Derived.Test.YtddmjddlbhdcpaaGreatDoorPart7
import Derived.Test.YtddmjddlbhdcpaaGreatDoorPart10
import Derived.Test.YtddmjddlbhdcpaaGreatDoorPart8
namespace Go.Proofs.YtddmjddlbhdcpaaGreatDoor
open Go.RowKit Go.Hold Go.Sh Go.Ch Go.Cm Go.Hd
def bldKs (n:Nat) (ps:Array (Nat × Value)):Sem Value:=Instr.buildSlice 32 n ps
@[go_sem ↓ high] theorem fold_bldKs (n:Nat) (ps:Array (Nat × Value)):Instr.buildSlice 32 n ps=bldKs n ps:=rfl
theorem info_key:(Tryz.prog.info? 23).map (fun i=>(i.zero,i.size,i.bytes))=some (some (.agg (bysA (zs 32))),32,32):=by kernel_rfl
theorem run_bldKs1 {s:List Nat} (hs:s.length=32) (w:World):(bldKs 1 #[(0,.agg (bysA s))]).run Tryz.prog w=.ok (.slice (some ⟨w.heap.size,0,none⟩) 1 1) (w.alloc (.cells (bysA s) 23)):=by
 have:=run_bldRows (P:=Tryz.prog) Tryz.underlying32 info_key [.agg (bysA s)] (fun v hv=>by rw[List.mem_singleton.1 hv];show (bysA s).size=32;rw[bysA_size,hs]) (rfl:_=1) (by decide) (by decide) #[(0,.agg (bysA s))] rfl w
 rwa [show (cellsAll [.agg (bysA s)]).toArray=bysA s by simp[cellsAll,Value.cells]] at this
theorem app_key {w:World} {B gn o:Nat} {v:Value} {ls:List (List Nat)} {x:List Nat} (h:OwnR w B 23 32 v (ls.map bysA)) (hn:w.rangeAt gn o (bysA x).toList) (hx:x.length=32) (hBw:B≤w.heap.size) (hlen:ls.length≤1000) :
  ∃ v' w',(Builtin.append_ #[32,32] 32 #[v,.slice (some ⟨gn,o,none⟩) 1 1]).run Tryz.prog w=.ok v' w'∧OwnR w' B 23 32 v' ((ls++[x]).map bysA)∧w.grownBy w' v.ownBlock∧NewB w v.ownBlock v'.ownBlock:=by
 have:=app_row (C:=32) (Y:=32) (z:=.agg (bysA (zs 32))) Tryz.underlying32 info_key (by show (bysA (zs 32)).size=32;rw[bysA_size,zs_length]) (by decide) (by decide) h hn (by rw[bysA_size,hx]) (bysA_one x) hBw (by rw[List.length_map];exact hlen)
 rwa [show (ls++[x]).map bysA=ls.map bysA++[bysA x] by simp]
theorem own_one {w:World} {s:List Nat} (hs:s.length=32) (B:Nat) (hB:B≤w.heap.size):OwnR (w.alloc (.cells (bysA s) 23)) B 23 32 (.slice (some ⟨w.heap.size,0,none⟩) 1 1) ([s].map bysA):=by
 have hz:(bysA s).size=32:=by rw[bysA_size,hs]
 refine⟨⟨by simp[flatR,hz],.inr ⟨w.heap.size,1,bysA s,rfl,hB,block_new w _,Nat.le_refl _,by unfold maxLen;omega,by rw[hz],?_⟩⟩,fun x hx=>by
  obtain rfl:x=bysA s:=by simpa using hx
  exact hz⟩
 show (bysA s).toList.take 32=_
 rw[List.take_of_length_le (by rw[Array.length_toList,hz];exact Nat.le_refl _)]
 simp[flatR]
theorem OwnR.setRow {w:World} {B C y:Nat} {e:TypeId} {v:Value} {ls:List (Array Value)} (h:OwnR w B e C v ls) (hy:v.ownBlock≠some y) (c:Array Value):OwnR (w.setRow y c) B e C v ls :=
 h.moves ((Moves.refl w y none).setRow c) hy (fun _ _ e=>by cases e)
theorem own_belowR {B C:Nat} {w w1 w2:World} {e:TypeId} {v:Value} {ls:List (Array Value)} (hb:Below B w w1) (ho:OwnR w1 B e C v ls) (hB:B≤w1.heap.size) (hg:w1.grownBy w2 v.ownBlock):Below B w w2 :=
 ⟨hg.os.trans hb.os,hg.tape.trans hb.tape,hg.output.trans hb.output,Nat.le_trans hb.size hg.size,fun k hk=>by
  rw[hg.block k (by omega) (fun e=>by have:=(ho.ltb k e.symm).1;omega),hb.block k hk]⟩
def secT (T:Option (List (List Nat))) (w':World) (B:Nat) (v:Value):Prop:=OwnR w' B 23 32 v ((T.getD []).map bysA)
def secE (T:Option (List (List Nat))):Int:=if T.isSome then 0 else 7
theorem errOf_zero {n:Nat} (h:n=0):F.errOf n=7:=by unfold F.errOf;rw[if_pos h]
theorem errOf_ne {n:Nat} (h:¬n=0):F.errOf n=0:=by unfold F.errOf;rw[if_neg h]
theorem secF_drop {fs:List (List Nat)} {a:List Nat} {L:List Hop} {k:Nat} {h:Hop} (hk:L[k]?=some h) :
  secF fs a (L.drop k)=(if chB h.k fs=0 then none else if nxA (keyB (chB h.k fs)) a=0 then none else (secF (fs++[bli (keyB (chB h.k fs)) a]) (keyB (nxA (keyB (chB h.k fs)) a)) (L.drop (k+1))).map (keyB (chB h.k fs)::·)):=by
 obtain⟨hq,rfl⟩:=List.getElem?_eq_some_iff.1 hk
 rw[List.drop_eq_getElem_cons hq];rfl
structure SInv (w:World) (y:Nat) (T:Option (List (List Nat))) (L:List Hop) (k:Nat) (vf va:Value) (fs acc:List (List Nat)) (a:List Nat) (wr:World):Prop where
 hy:RowAt wr y (bysA a)
 of:OwnR wr w.heap.size 23 32 vf (fs.map bysA)
 oa:OwnR wr w.heap.size 23 32 va (acc.map bysA)
 nf:vf.ownBlock≠some y
 na:va.ownBlock≠some y
 nn:vf.ownBlock≠va.ownBlock
 bel:Below w.heap.size w wr
 fl:fs.length=k+1
 al:acc.length=k
 f32:∀ f∈fs,f.length=32
 fb:∀ f∈fs,∀ i,f.getD i 0<256
 a32:a.length=32
 ab:∀ i,a.getD i 0<256
 eq:T=(secF fs a (L.drop k)).map (acc++·)
theorem OwnR.rows {w:World} {B C n c:Nat} {e:TypeId} {p:Option Addr} {ls:List (Array Value)} (h:OwnR w B e C (.slice p n c) ls):RowsAt C w p ls:=by
 obtain⟨p',c',e,hr,_⟩:=h.form
 cases e;exact hr
theorem NewB.neB {w:World} {a b:Option Nat} {o:Option Nat} (h:NewB w a b) (ha:o≠a) (ho:∀ k,o=some k→k<w.heap.size) (hb:b≠none):o≠b:=fun e=>by
 cases hbb:b with
 | none=>exact hb hbb
 | some k =>
  rw[hbb] at e
  rcases h k hbb with h1 | h1
  ·exact ha (by rw[e,h1])
  ·have:=ho k e;omega
theorem OwnR.some_block {w:World} {B C:Nat} {e:TypeId} {v:Value} {ls:List (Array Value)} (h:OwnR w B e C v ls) (h0:0<ls.length):v.ownBlock≠none:=by
 obtain⟨p,c,rfl,_,_,_,hp⟩:=h.form
 obtain⟨g,rfl,_⟩:=hp h0
 simp[Value.ownBlock]
set_option maxHeartbeats 2000000 in
set_option maxRecDepth 100000 in
theorem secrets_c (x a0:List Nat) (L:List Hop) (p:Option Addr) (n cap:Nat) (hx:x.length=32) (hxb:∀ i,x.getD i 0<256) (ha:a0.length=32) (hab:∀ i,a0.getD i 0<256) (hok:∀ h∈L,HopOk h) (hn:n=L.length) (h5:n≤5) (w:World) (hT:Tabs w) (hR:RowsAt 43 w p (hopR L)) :
  Calls Tryz.prog 33 #[.agg (bysA x),.agg (bysA a0),.slice p n cap] w fun e w'=>∃ v,e=.returned (.tuple #[v,.int .i64 (secE (secF [x] a0 L))])∧secT (secF [x] a0 L) w' w.heap.size v∧Below w.heap.size w w':=by
 have hxs:=bysA_size' hx
 have has:=bysA_size' ha
 have hd5:¬(5:Int)<(n:Int):=by omega
 have hbx:=fun W=>run_bldKs1 hx W
 have HT:=Lib.hid hT
 have HR:=Lib.hid hR
 have Hx:=Lib.hid (And.intro hx hxb)
 have Ha:=Lib.hid (And.intro ha hab)
 have Hn:=Lib.hid (And.intro hn h5)
 have Hok:=Lib.hid hok
 obtain⟨T,eT⟩:∃ T,T=secF [x] a0 L:=⟨_,rfl⟩
 have HE:=Lib.hid eT
 rw[←eT]
 clear hT hR hx hxb ha hab hn h5 hok eT
 go_enter Tryz.func33,Tryz.ntmps33
 go_wp2_with fail
 have LX:=below_alloc (below_alloc (Below.refl w.heap.size w) (.cells (bysA x) 23)) (.cells (bysA a0) 23)
 have Y0:RowAt (((w.alloc (.cells (bysA x) 23)).alloc (.cells (bysA a0) 23)).alloc (.cells (bysA x) 23)) (w.heap.size+1) (bysA a0):=⟨by go_simp,by go_simp,by go_simp⟩
 have F0:=own_one Hx.out.1 (w:=(w.alloc (.cells (bysA x) 23)).alloc (.cells (bysA a0) 23)) w.heap.size LX.size
 have I0:SInv w (w.heap.size+1) T L 0 (.slice (some ⟨((w.alloc (.cells (bysA x) 23)).alloc (.cells (bysA a0) 23)).heap.size,0,none⟩) 1 1) (.slice none 0 0) [x] [] a0 (((w.alloc (.cells (bysA x) 23)).alloc (.cells (bysA a0) 23)).alloc (.cells (bysA x) 23)) :=
  ⟨Y0,F0,OwnR.nil _ _ _ _,by simp[Value.ownBlock],by simp[Value.ownBlock],by simp[Value.ownBlock],below_alloc LX _,rfl,rfl,fun f hf=>by rw[List.mem_singleton.1 hf];exact Hx.out.1,fun f hf=>by rw[List.mem_singleton.1 hf];exact Hx.out.2,Ha.out.1,Ha.out.2,by rw[HE.out];simp⟩
 rw[show ((w.alloc (.cells (bysA x) 23)).alloc (.cells (bysA a0) 23)).heap.size=w.heap.size+1+1 by go_simp] at I0
 have HI0:=Lib.hid I0
 clear I0 F0 Y0 LX hbx
 have l_y:w.heap.size≤w.heap.size+1:=by omega
 generalize w.heap.size+1+1=g0 at *
 generalize w.heap.size+1=y at *
 go_loopw [8,9,19] (fun fv av i wr=>∃ (vf va:Value) (k:Nat) (fs acc:List (List Nat)) (a:List Nat),vf=fv∧va=av∧k≤n∧i=.int .i64 k∧SInv w y T L k vf va fs acc a wr) (fun _ _ i _=>n-(intOf i).toNat)
 case atStart=>exact⟨_,_,0,[x],[],a0,rfl,rfl,Nat.zero_le _,rfl,HI0.out⟩
 case round =>
  obtain⟨vf,va,k,fs,acc,a,rfl,rfl,hk,rfl,I⟩:=hrel
  clear HI0
  by_cases hkn:k<n
  ·have hk1:(k:Int)<(n:Int):=by omega
   obtain⟨h,hj⟩:∃ h,L[k]?=some h:=⟨_,List.getElem?_eq_getElem (by rw[←Hn.out.1];exact hkn)⟩
   have ho:=Hok.out h (List.mem_of_getElem? hj)
   obtain⟨g,o,ep,hg,hld⟩:=loadHop (HR.out.grow I.bel) hj ho
   subst ep
   have hks:=ho.k
   have his:=ho.i
   have hsz:=hopA_size hks his
   have hkey:=bysA_size' hks
   have has':=bysA_size' I.a32
   obtain⟨pf,cf,rfl,_,_,_,_⟩:=I.of.form
   rw[List.length_map,I.fl] at I ⊢
   have HEq:=Lib.hid I.eq
   rw[secF_drop hj] at HEq
   obtain⟨m,em⟩:∃ m,m=k+1:=⟨_,rfl⟩
   rw[←em] at I ⊢
   have KC:=Lib.hid (fun (W:World) (hW:RowsAt 32 W pf (fs.map bysA))=>bchain_c h.k fs m cf pf hks ho.kb I.f32 I.fb (by rw[I.fl,em]) (by have:=Hn.out.2;omega) W hW)
   obtain⟨s,es⟩:∃ s,s=keyB (chB h.k fs):=⟨_,rfl⟩
   have hs32:s.length=32:=by rw[es];exact keyB_length _
   have hsb:∀ i,s.getD i 0<256:=by rw[es];exact keyB_bts _
   have hss:=bysA_size' hs32
   rw[←es] at KC HEq
   obtain⟨cn,ecn⟩:∃ c,c=chB h.k fs:=⟨_,rfl⟩
   rw[←ecn] at KC HEq
   have Hof:=Lib.hid I.of
   have Hoa:=Lib.hid I.oa
   have Hy:=Lib.hid I.hy
   have Hbel:=Lib.hid I.bel
   have HI:=Lib.hid I
   have Em:=Lib.hid em
   obtain⟨y1,y2,y3⟩:=I.hy
   clear hj ho es ecn I em
   by_cases hz:cn=0
   ·rw[if_pos hz] at HEq
    obtain rfl:T=none:=HEq.out
    rw[errOf_zero hz] at KC
    clear hz HEq
    go_wp2_with fail
    have m0_hb:(Value.slice pf m cf).ownBlock≠some wr.heap.size:=fun e=>by have:=(Hof.out.ltb _ e).2;omega
    have m1_hb:va.ownBlock≠some wr.heap.size:=fun e=>by have:=(Hoa.out.ltb _ e).2;omega
    have n_y_hb:y≠wr.heap.size:=Nat.ne_of_lt Hy.out.2.2
    have l_hb:w.heap.size≤wr.heap.size:=Hbel.out.size
    have hb11:=below_alloc (Below.refl wr.heap.size wr) (.cells (hopA h.k h.c) 77)
    have N11:=Lib.hid (RowAt.of (block_new wr (.cells (hopA h.k h.c) 77)))
    have O11x0:=Lib.hid (Hof.out.grow hb11)
    clear Hof
    have O11x1:=Lib.hid (Hoa.out.grow hb11)
    clear Hoa
    have R11x0:=Lib.hid (Hy.out.grow hb11)
    have B11:=Lib.hid (Hbel.out.trans (hb11.mono Hbel.out.size))
    clear hb11 Hbel Hy y1 y2 y3 hld hg
    generalize wr.heap.size=hb at *
    generalize wr.alloc (.cells (hopA h.k h.c) 77)=W11 at *
    refine(KC.out _ (OwnR.rows O11x0.out)).mono ?_
    rintro e W12 ⟨rfl,hb12⟩
    have O12x0:=Lib.hid (O11x0.out.grow hb12)
    clear O11x0
    have O12x1:=Lib.hid (O11x1.out.grow hb12)
    clear O11x1
    have R12x0:=Lib.hid (R11x0.out.grow hb12)
    have R12x1:=Lib.hid (N11.out.grow hb12)
    have B12:=Lib.hid (B11.out.trans (hb12.mono B11.out.size))
    clear hb12 B11 R11x0 N11
    obtain⟨R12x0a,R12x0b,R12x0c⟩:=R12x0.out
    obtain⟨R12x1a,R12x1b,R12x1c⟩:=R12x1.out
    go_wp2_with fail
    refine bodyPost_ret (v:=.tuple #[.slice none 0 0,.int .i64 7]) (results_tmp2 Tryz.results33 _ _ _) rfl ⟨_,rfl,OwnR.nil _ _ _ _,?_⟩
    exact B12.out.alloc B12.out.size _
   ·rw[if_neg hz] at HEq
    rw[errOf_ne hz] at KC
    clear hz
    have hKB:=Lib.hid (fun (W:World) (h:Tabs W)=>blinding_c s a hs32 hsb HI.out.a32 HI.out.ab W h)
    obtain⟨b,eb⟩:∃ b,b=bli s a:=⟨_,rfl⟩
    have hb32:b.length=32:=by rw[eb];exact bli_length _ _
    have hbb:∀ i,b.getD i 0<256:=by rw[eb];exact bli_bts _ _
    have hbs:=bysA_size' hb32
    have KS:=Lib.hid (fun (W:World)=>show Calls Tryz.prog 29 #[.agg (bysA b),.agg (bysA a)] W fun e w'=>e=.returned (.tuple #[.agg (bysA (keyB (nxA s a))),.int .i64 (F.errOf (nxA s a))])∧Below W.heap.size W w' from by
     have:=bshared_c b a hb32 hbb HI.out.a32 HI.out.ab W
     unfold nxA;rwa [←eb])
    obtain⟨a',ea'⟩:∃ a',a'=keyB (nxA s a):=⟨_,rfl⟩
    have ha32:a'.length=32:=by rw[ea'];exact keyB_length _
    have hab:∀ i,a'.getD i 0<256:=by rw[ea'];exact keyB_bts _
    have has2:=bysA_size' ha32
    rw[←eb] at hKB HEq
    rw[←ea'] at KS HEq
    obtain⟨dn,edn⟩:∃ d,d=nxA s a:=⟨_,rfl⟩
    rw[←edn] at KS HEq
    clear eb ea' edn
    by_cases hz:dn=0
    ·rw[if_pos hz] at HEq
     obtain rfl:T=none:=HEq.out
     rw[errOf_zero hz] at KS
     clear hz HEq
     go_wp2_with fail
     have m0_hb:(Value.slice pf m cf).ownBlock≠some wr.heap.size:=fun e=>by have:=(Hof.out.ltb _ e).2;omega
     have m1_hb:va.ownBlock≠some wr.heap.size:=fun e=>by have:=(Hoa.out.ltb _ e).2;omega
     have n_y_hb:y≠wr.heap.size:=Nat.ne_of_lt Hy.out.2.2
     have l_hb:w.heap.size≤wr.heap.size:=Hbel.out.size
     have hb11:=below_alloc (Below.refl wr.heap.size wr) (.cells (hopA h.k h.c) 77)
     have N11:=Lib.hid (RowAt.of (block_new wr (.cells (hopA h.k h.c) 77)))
     have O11x0:=Lib.hid (Hof.out.grow hb11)
     clear Hof
     have O11x1:=Lib.hid (Hoa.out.grow hb11)
     clear Hoa
     have R11x0:=Lib.hid (Hy.out.grow hb11)
     have B11:=Lib.hid (Hbel.out.trans (hb11.mono Hbel.out.size))
     clear hb11 Hbel Hy y1 y2 y3 hld hg
     generalize wr.heap.size=hb at *
     generalize wr.alloc (.cells (hopA h.k h.c) 77)=W11 at *
     refine(KC.out _ (OwnR.rows O11x0.out)).mono ?_
     rintro e W12 ⟨rfl,hb12⟩
     have O12x0:=Lib.hid (O11x0.out.grow hb12)
     clear O11x0
     have O12x1:=Lib.hid (O11x1.out.grow hb12)
     clear O11x1
     have R12x0:=Lib.hid (R11x0.out.grow hb12)
     have R12x1:=Lib.hid (N11.out.grow hb12)
     have B12:=Lib.hid (B11.out.trans (hb12.mono B11.out.size))
     clear hb12 B11 R11x0 N11
     obtain⟨R12x0a,R12x0b,R12x0c⟩:=R12x0.out
     obtain⟨R12x1a,R12x1b,R12x1c⟩:=R12x1.out
     go_wp2_with fail
     have m0_sb:(Value.slice pf m cf).ownBlock≠some W12.heap.size:=fun e=>by have:=(O12x0.out.ltb _ e).2;omega
     have m1_sb:va.ownBlock≠some W12.heap.size:=fun e=>by have:=(O12x1.out.ltb _ e).2;omega
     have n_y_sb:y≠W12.heap.size:=Nat.ne_of_lt R12x0.out.2.2
     have n_hb_sb:hb≠W12.heap.size:=Nat.ne_of_lt R12x1.out.2.2
     have l_sb:w.heap.size≤W12.heap.size:=B12.out.size
     have hb13:=below_alloc (Below.refl W12.heap.size W12) (.cells (bysA s) 23)
     have N13:=Lib.hid (RowAt.of (block_new W12 (.cells (bysA s) 23)))
     have O13x0:=Lib.hid (O12x0.out.grow hb13)
     clear O12x0
     have O13x1:=Lib.hid (O12x1.out.grow hb13)
     clear O12x1
     have R13x0:=Lib.hid (R12x0.out.grow hb13)
     have R13x1:=Lib.hid (R12x1.out.grow hb13)
     have B13:=Lib.hid (B12.out.trans (hb13.mono B12.out.size))
     clear hb13 B12 R12x0 R12x1 R12x0a R12x0b R12x0c R12x1a R12x1b R12x1c
     generalize W12.heap.size=sb at *
     generalize W12.alloc (.cells (bysA s) 23)=W13 at *
     refine(hKB.out _ (HT.out.grow B13.out)).mono ?_
     rintro e W14 ⟨rfl,hb14⟩
     have O14x0:=Lib.hid (O13x0.out.grow hb14)
     clear O13x0
     have O14x1:=Lib.hid (O13x1.out.grow hb14)
     clear O13x1
     have R14x0:=Lib.hid (R13x0.out.grow hb14)
     have R14x1:=Lib.hid (R13x1.out.grow hb14)
     have R14x2:=Lib.hid (N13.out.grow hb14)
     have B14:=Lib.hid (B13.out.trans (hb14.mono B13.out.size))
     clear hb14 B13 R13x0 R13x1 N13
     obtain⟨R14x0a,R14x0b,R14x0c⟩:=R14x0.out
     obtain⟨R14x1a,R14x1b,R14x1c⟩:=R14x1.out
     obtain⟨R14x2a,R14x2b,R14x2c⟩:=R14x2.out
     go_wp2_with fail
     have m0_bb:(Value.slice pf m cf).ownBlock≠some W14.heap.size:=fun e=>by have:=(O14x0.out.ltb _ e).2;omega
     have m1_bb:va.ownBlock≠some W14.heap.size:=fun e=>by have:=(O14x1.out.ltb _ e).2;omega
     have n_y_bb:y≠W14.heap.size:=Nat.ne_of_lt R14x0.out.2.2
     have n_hb_bb:hb≠W14.heap.size:=Nat.ne_of_lt R14x1.out.2.2
     have n_sb_bb:sb≠W14.heap.size:=Nat.ne_of_lt R14x2.out.2.2
     have l_bb:w.heap.size≤W14.heap.size:=B14.out.size
     have hb15:=below_alloc (Below.refl W14.heap.size W14) (.cells (bysA b) 23)
     have N15:=Lib.hid (RowAt.of (block_new W14 (.cells (bysA b) 23)))
     have O15x0:=Lib.hid (O14x0.out.grow hb15)
     clear O14x0
     have O15x1:=Lib.hid (O14x1.out.grow hb15)
     clear O14x1
     have R15x0:=Lib.hid (R14x0.out.grow hb15)
     have R15x1:=Lib.hid (R14x1.out.grow hb15)
     have R15x2:=Lib.hid (R14x2.out.grow hb15)
     have B15:=Lib.hid (B14.out.trans (hb15.mono B14.out.size))
     clear hb15 B14 R14x0 R14x1 R14x2 R14x0a R14x0b R14x0c R14x1a R14x1b R14x1c R14x2a R14x2b R14x2c
     generalize W14.heap.size=bb at *
     generalize W14.alloc (.cells (bysA b) 23)=W15 at *
     refine(KS.out _).mono ?_
     rintro e W16 ⟨rfl,hb16⟩
     have O16x0:=Lib.hid (O15x0.out.grow hb16)
     clear O15x0
     have O16x1:=Lib.hid (O15x1.out.grow hb16)
     clear O15x1
     have R16x0:=Lib.hid (R15x0.out.grow hb16)
     have R16x1:=Lib.hid (R15x1.out.grow hb16)
     have R16x2:=Lib.hid (R15x2.out.grow hb16)
     have R16x3:=Lib.hid (N15.out.grow hb16)
     have B16:=Lib.hid (B15.out.trans (hb16.mono B15.out.size))
     clear hb16 B15 R15x0 R15x1 R15x2 N15
     obtain⟨R16x0a,R16x0b,R16x0c⟩:=R16x0.out
     obtain⟨R16x1a,R16x1b,R16x1c⟩:=R16x1.out
     obtain⟨R16x2a,R16x2b,R16x2c⟩:=R16x2.out
     obtain⟨R16x3a,R16x3b,R16x3c⟩:=R16x3.out
     go_wp2_with fail
     refine bodyPost_ret (v:=.tuple #[.slice none 0 0,.int .i64 7]) (results_tmp2 Tryz.results33 _ _ _) rfl ⟨_,rfl,OwnR.nil _ _ _ _,?_⟩
     exact below_setRow B16.out l_y _
    ·rw[if_neg hz] at HEq
     rw[errOf_ne hz] at KS
     clear hz
     go_wp2_with fail
     have m0_hb:(Value.slice pf m cf).ownBlock≠some wr.heap.size:=fun e=>by have:=(Hof.out.ltb _ e).2;omega
     have m1_hb:va.ownBlock≠some wr.heap.size:=fun e=>by have:=(Hoa.out.ltb _ e).2;omega
     have n_y_hb:y≠wr.heap.size:=Nat.ne_of_lt Hy.out.2.2
     have l_hb:w.heap.size≤wr.heap.size:=Hbel.out.size
     have hb11:=below_alloc (Below.refl wr.heap.size wr) (.cells (hopA h.k h.c) 77)
     have N11:=Lib.hid (RowAt.of (block_new wr (.cells (hopA h.k h.c) 77)))
     have O11x0:=Lib.hid (Hof.out.grow hb11)
     clear Hof
     have O11x1:=Lib.hid (Hoa.out.grow hb11)
     clear Hoa
     have R11x0:=Lib.hid (Hy.out.grow hb11)
     have B11:=Lib.hid (Hbel.out.trans (hb11.mono Hbel.out.size))
     clear hb11 Hbel Hy y1 y2 y3 hld hg
     generalize wr.heap.size=hb at *
     generalize wr.alloc (.cells (hopA h.k h.c) 77)=W11 at *
     refine(KC.out _ (OwnR.rows O11x0.out)).mono ?_
     rintro e W12 ⟨rfl,hb12⟩
     have O12x0:=Lib.hid (O11x0.out.grow hb12)
     clear O11x0
     have O12x1:=Lib.hid (O11x1.out.grow hb12)
     clear O11x1
     have R12x0:=Lib.hid (R11x0.out.grow hb12)
     have R12x1:=Lib.hid (N11.out.grow hb12)
     have B12:=Lib.hid (B11.out.trans (hb12.mono B11.out.size))
     clear hb12 B11 R11x0 N11
     obtain⟨R12x0a,R12x0b,R12x0c⟩:=R12x0.out
     obtain⟨R12x1a,R12x1b,R12x1c⟩:=R12x1.out
     go_wp2_with fail
     have m0_sb:(Value.slice pf m cf).ownBlock≠some W12.heap.size:=fun e=>by have:=(O12x0.out.ltb _ e).2;omega
     have m1_sb:va.ownBlock≠some W12.heap.size:=fun e=>by have:=(O12x1.out.ltb _ e).2;omega
     have n_y_sb:y≠W12.heap.size:=Nat.ne_of_lt R12x0.out.2.2
     have n_hb_sb:hb≠W12.heap.size:=Nat.ne_of_lt R12x1.out.2.2
     have l_sb:w.heap.size≤W12.heap.size:=B12.out.size
     have hb13:=below_alloc (Below.refl W12.heap.size W12) (.cells (bysA s) 23)
     have N13:=Lib.hid (RowAt.of (block_new W12 (.cells (bysA s) 23)))
     have O13x0:=Lib.hid (O12x0.out.grow hb13)
     clear O12x0
     have O13x1:=Lib.hid (O12x1.out.grow hb13)
     clear O12x1
     have R13x0:=Lib.hid (R12x0.out.grow hb13)
     have R13x1:=Lib.hid (R12x1.out.grow hb13)
     have B13:=Lib.hid (B12.out.trans (hb13.mono B12.out.size))
     clear hb13 B12 R12x0 R12x1 R12x0a R12x0b R12x0c R12x1a R12x1b R12x1c
     generalize W12.heap.size=sb at *
     generalize W12.alloc (.cells (bysA s) 23)=W13 at *
     refine(hKB.out _ (HT.out.grow B13.out)).mono ?_
     rintro e W14 ⟨rfl,hb14⟩
     have O14x0:=Lib.hid (O13x0.out.grow hb14)
     clear O13x0
     have O14x1:=Lib.hid (O13x1.out.grow hb14)
     clear O13x1
     have R14x0:=Lib.hid (R13x0.out.grow hb14)
     have R14x1:=Lib.hid (R13x1.out.grow hb14)
     have R14x2:=Lib.hid (N13.out.grow hb14)
     have B14:=Lib.hid (B13.out.trans (hb14.mono B13.out.size))
     clear hb14 B13 R13x0 R13x1 N13
     obtain⟨R14x0a,R14x0b,R14x0c⟩:=R14x0.out
     obtain⟨R14x1a,R14x1b,R14x1c⟩:=R14x1.out
     obtain⟨R14x2a,R14x2b,R14x2c⟩:=R14x2.out
     go_wp2_with fail
     have m0_bb:(Value.slice pf m cf).ownBlock≠some W14.heap.size:=fun e=>by have:=(O14x0.out.ltb _ e).2;omega
     have m1_bb:va.ownBlock≠some W14.heap.size:=fun e=>by have:=(O14x1.out.ltb _ e).2;omega
     have n_y_bb:y≠W14.heap.size:=Nat.ne_of_lt R14x0.out.2.2
     have n_hb_bb:hb≠W14.heap.size:=Nat.ne_of_lt R14x1.out.2.2
     have n_sb_bb:sb≠W14.heap.size:=Nat.ne_of_lt R14x2.out.2.2
     have l_bb:w.heap.size≤W14.heap.size:=B14.out.size
     have hb15:=below_alloc (Below.refl W14.heap.size W14) (.cells (bysA b) 23)
     have N15:=Lib.hid (RowAt.of (block_new W14 (.cells (bysA b) 23)))
     have O15x0:=Lib.hid (O14x0.out.grow hb15)
     clear O14x0
     have O15x1:=Lib.hid (O14x1.out.grow hb15)
     clear O14x1
     have R15x0:=Lib.hid (R14x0.out.grow hb15)
     have R15x1:=Lib.hid (R14x1.out.grow hb15)
     have R15x2:=Lib.hid (R14x2.out.grow hb15)
     have B15:=Lib.hid (B14.out.trans (hb15.mono B14.out.size))
     clear hb15 B14 R14x0 R14x1 R14x2 R14x0a R14x0b R14x0c R14x1a R14x1b R14x1c R14x2a R14x2b R14x2c
     generalize W14.heap.size=bb at *
     generalize W14.alloc (.cells (bysA b) 23)=W15 at *
     refine(KS.out _).mono ?_
     rintro e W16 ⟨rfl,hb16⟩
     have O16x0:=Lib.hid (O15x0.out.grow hb16)
     clear O15x0
     have O16x1:=Lib.hid (O15x1.out.grow hb16)
     clear O15x1
     have R16x0:=Lib.hid (R15x0.out.grow hb16)
     have R16x1:=Lib.hid (R15x1.out.grow hb16)
     have R16x2:=Lib.hid (R15x2.out.grow hb16)
     have R16x3:=Lib.hid (N15.out.grow hb16)
     have B16:=Lib.hid (B15.out.trans (hb16.mono B15.out.size))
     clear hb16 B15 R15x0 R15x1 R15x2 N15
     have hbk:=fun W=>run_bldKs1 hs32 W
     have hbk2:=fun W=>run_bldKs1 hb32 W
     have O18x0:=Lib.hid (O16x0.out.setRow HI.out.nf (bysA a'))
     have O18x1:=Lib.hid (O16x1.out.setRow HI.out.na (bysA a'))
     have R18x0:=Lib.hid (R16x0.out.set (bysA a'))
     have R18x1:=Lib.hid (R16x2.out.other (Ne.symm n_y_sb) (bysA a'))
     have R18x2:=Lib.hid (R16x3.out.other (Ne.symm n_y_bb) (bysA a'))
     have B18:=Lib.hid (below_setRow B16.out l_y (bysA a'))
     obtain⟨W18,eW18⟩:∃ W,W=W16.setRow y (bysA a'):=⟨_,rfl⟩
     rw[←eW18] at R18x0 R18x1 R18x2 O18x0 O18x1 B18
     have hW18:=eW18.symm
     clear eW18
     have hb19:=below_alloc (Below.refl W18.heap.size W18) (.cells (bysA s) 23)
     have O19x0:=Lib.hid (O18x0.out.grow hb19)
     have O19x1:=Lib.hid (O18x1.out.grow hb19)
     have n_y_tb:y≠W18.heap.size:=Nat.ne_of_lt R18x0.out.2.2
     have R19x0:=Lib.hid (R18x0.out.grow hb19)
     have n_sb_tb:sb≠W18.heap.size:=Nat.ne_of_lt R18x1.out.2.2
     have R19x1:=Lib.hid (R18x1.out.grow hb19)
     have n_bb_tb:bb≠W18.heap.size:=Nat.ne_of_lt R18x2.out.2.2
     have R19x2:=Lib.hid (R18x2.out.grow hb19)
     have m0_tb:(Value.slice pf m cf).ownBlock≠some W18.heap.size:=fun e=>by have:=(O18x0.out.ltb _ e).2;omega
     have m1_tb:va.ownBlock≠some W18.heap.size:=fun e=>by have:=(O18x1.out.ltb _ e).2;omega
     have R19n:=Lib.hid (RowAt.of (block_new W18 (.cells (bysA s) 23)))
     have l_tb:w.heap.size≤W18.heap.size:=B18.out.size
     have B19:=Lib.hid (B18.out.trans (hb19.mono B18.out.size))
     clear hb19
     obtain⟨tb,etb⟩:∃ z,z=W18.heap.size:=⟨_,rfl⟩
     obtain⟨W19,eW19⟩:∃ z,z=W18.alloc (.cells (bysA s) 23):=⟨_,rfl⟩
     rw[←etb] at R19n l_tb n_y_tb n_sb_tb n_bb_tb m0_tb m1_tb
     rw[←eW19] at R19x0 R19x1 R19x2 R19n O19x0 O19x1 B19
     have hW19:=eW19.symm
     have htb:=etb.symm
     clear eW19 etb
     obtain⟨va2,W20,hr20,ho20,hg20,hn20⟩:=app_key O19x1.out (range_of_row R19n.out) hs32 B19.out.size (by rw[HI.out.al];have:=Hn.out.2;omega)
     have P20:=Lib.hid ho20
     have A20:=Lib.hid (own_belowR B19.out O19x1.out B19.out.size hg20)
     have N20:=Lib.hid hn20
     have Q20x0:=Lib.hid (rowAt_grown R19x0.out hg20 HI.out.na)
     have Q20x1:=Lib.hid (rowAt_grown R19x1.out hg20 m1_sb)
     have Q20x2:=Lib.hid (rowAt_grown R19x2.out hg20 m1_bb)
     have Q20x3:=Lib.hid (rowAt_grown R19n.out hg20 m1_tb)
     have U20x0:=Lib.hid (O19x0.out.kept hg20 (.inr HI.out.nn))
     have G20:=Lib.hid hg20.size
     clear ho20 hg20 hn20
     have Hnn:=Lib.hid (NewB.neB N20.out HI.out.nn (fun k e=>by have:=(O19x0.out.ltb k e).2;exact this) (P20.out.some_block (by simp)))
     have HnaY:=Lib.hid (show va2.ownBlock≠some y from N20.out.ne HI.out.na (R19x0.out.2.2))
     have hb21:=below_alloc (Below.refl W20.heap.size W20) (.cells (bysA b) 23)
     have O21x0:=Lib.hid (U20x0.out.grow hb21)
     have O21x1:=Lib.hid (P20.out.grow hb21)
     have n_y_ub:y≠W20.heap.size:=Nat.ne_of_lt Q20x0.out.2.2
     have R21x0:=Lib.hid (Q20x0.out.grow hb21)
     have n_sb_ub:sb≠W20.heap.size:=Nat.ne_of_lt Q20x1.out.2.2
     have R21x1:=Lib.hid (Q20x1.out.grow hb21)
     have n_bb_ub:bb≠W20.heap.size:=Nat.ne_of_lt Q20x2.out.2.2
     have R21x2:=Lib.hid (Q20x2.out.grow hb21)
     have n_tb_ub:tb≠W20.heap.size:=Nat.ne_of_lt Q20x3.out.2.2
     have R21x3:=Lib.hid (Q20x3.out.grow hb21)
     have m0_ub:(Value.slice pf m cf).ownBlock≠some W20.heap.size:=fun e=>by have:=(U20x0.out.ltb _ e).2;omega
     have m1_ub:va2.ownBlock≠some W20.heap.size:=fun e=>by have:=(P20.out.ltb _ e).2;omega
     have R21n:=Lib.hid (RowAt.of (block_new W20 (.cells (bysA b) 23)))
     have l_ub:w.heap.size≤W20.heap.size:=A20.out.size
     have B21:=Lib.hid (A20.out.trans (hb21.mono A20.out.size))
     clear hb21
     obtain⟨ub,eub⟩:∃ z,z=W20.heap.size:=⟨_,rfl⟩
     obtain⟨W21,eW21⟩:∃ z,z=W20.alloc (.cells (bysA b) 23):=⟨_,rfl⟩
     rw[←eub] at R21n l_ub n_y_ub n_sb_ub n_bb_ub n_tb_ub m0_ub m1_ub
     rw[←eW21] at R21x0 R21x1 R21x2 R21x3 R21n O21x0 O21x1 B21
     have hW21:=eW21.symm
     have hub:=eub.symm
     clear eW21 eub
     obtain⟨vf2,W22,hr22,ho22,hg22,hn22⟩:=app_key O21x0.out (range_of_row R21n.out) hb32 B21.out.size (by rw[HI.out.fl];have:=Hn.out.2;omega)
     have P22:=Lib.hid ho22
     have A22:=Lib.hid (own_belowR B21.out O21x0.out B21.out.size hg22)
     have N22:=Lib.hid hn22
     have Q22x0:=Lib.hid (rowAt_grown R21x0.out hg22 HI.out.nf)
     have Q22x1:=Lib.hid (rowAt_grown R21x1.out hg22 m0_sb)
     have Q22x2:=Lib.hid (rowAt_grown R21x2.out hg22 m0_bb)
     have Q22x3:=Lib.hid (rowAt_grown R21x3.out hg22 m0_tb)
     have Q22x4:=Lib.hid (rowAt_grown R21n.out hg22 m0_ub)
     have U22x1:=Lib.hid (O21x1.out.kept hg22 (.inr (fun e=>Hnn.out e.symm)))
     have G22:=Lib.hid hg22.size
     clear ho22 hg22 hn22
     have Hnn2:=Lib.hid (show vf2.ownBlock≠va2.ownBlock from fun e=>NewB.neB N22.out (fun e=>Hnn.out e.symm) (fun k e=>by have:=(O21x1.out.ltb k e).2;exact this) (P22.out.some_block (by simp)) e.symm)
     have HnfY:=Lib.hid (show vf2.ownBlock≠some y from N22.out.ne HI.out.nf (R21x0.out.2.2))
     have hI2:SInv w y T L m vf2 va2 (fs++[b]) (acc++[s]) a' W22:=by
      obtain rfl:=Em.out
      exact⟨Q22x0.out,P22.out,U22x1.out,HnfY.out,HnaY.out,Hnn2.out,A22.out,by rw[List.length_append,HI.out.fl];rfl,by rw[List.length_append,HI.out.al];rfl,fun f hf=>by
       rcases List.mem_append.1 hf with hf | hf
       ·exact HI.out.f32 f hf
       ·rw[List.mem_singleton.1 hf];exact hb32,fun f hf=>by
       rcases List.mem_append.1 hf with hf | hf
       ·exact HI.out.fb f hf
       ·rw[List.mem_singleton.1 hf];exact hbb,ha32,hab,by
       rw[HEq.out,Option.map_map]
       congr 1
       funext l
       simp⟩
     have HI2:=Lib.hid hI2
     clear hI2
     obtain⟨sy1,sy2,sy3⟩:=R16x0.out
     obtain⟨sx1,sx2,sx3⟩:=R18x1.out
     obtain⟨bx1,bx2,bx3⟩:=Q20x2.out
     go_wp2_with (at_builtin;first | refine Lib.wpList_append_run _ rfl _ _ _ _ rfl _ _ rfl rfl _ _ hr20 ?_ | refine Lib.wpList_append_run _ rfl _ _ _ _ rfl _ _ rfl rfl _ _ hr22 ?_)
     go_roundw
     case rel=>exact⟨vf2,va2,m,_,_,a',rfl,rfl,by have:=Em.out;omega,by rw[Em.out];go_num,HI2.out⟩
     case measure=>simp[intOf];omega
  ·obtain rfl:k=n:=by omega
   have hT:T=some acc:=by
    rw[I.eq,List.drop_of_length_le (by rw[←Hn.out.1];exact Nat.le_refl _)];simp[secF]
   subst hT
   have HI:=Lib.hid I
   clear I
   go_wp2_with fail
   refine bodyPost_ret (v:=.tuple #[va,.int .i64 0]) (results_tmp2 Tryz.results33 _ _ _) rfl ⟨va,rfl,HI.out.oa,HI.out.bel⟩
end Go.Proofs.YtddmjddlbhdcpaaGreatDoor

namespace Go.Proofs.YtddmjddlbhdcpaaGreatDoor
open Go.RowKit Go.Hold Go.Sh Go.Ch Go.Cm Go.Hd
theorem cmds_enc {L:List Hop} (h:isRt L=true):cmdsE L=L.map fun h=>h.c.enc:=by
 unfold isRt at h
 simp only[Bool.and_eq_true] at h
 unfold cmdsE
 apply List.map_congr_left
 intro x hx
 unfold encV
 rw[if_pos (rtF_all h.2 x hx)]
theorem isRt_len {L:List Hop} (h:isRt L=true):1≤L.length∧L.length≤5:=by
 unfold isRt at h
 simp only[Bool.and_eq_true,decide_eq_true_eq] at h
 exact h.1
theorem beta0_ok {ss:List (List Nat)} {L:List Hop} (h:isRt L=true) (hok:∀ h∈L,HopOk h) (hl:ss.length=L.length):(beta0 ss L).length=160∧∀ i,(beta0 ss L).getD i 0<256:=by
 have h15:=isRt_len h
 have hce:∀ c∈cmdsE L,c.length=16:=fun c hc=>by
  obtain⟨h,hh,rfl⟩:=List.mem_map.1 hc
  exact encV_length (hok h hh).i
 have hcb:∀ c∈cmdsE L,∀ i,c.getD i 0<256:=fun c hc=>by
  obtain⟨h,hh,rfl⟩:=List.mem_map.1 hc
  exact encV_bts (hok h hh).ib
 have:=betas_ok (ss:=ss) (cs:=cmdsE L) (by unfold cmdsE;rw[List.length_map,hl]) hce hcb 0 (by omega) (by omega)
 unfold beta0
 rw[←cmds_enc h]
 exact this
theorem secF_bts {L:List Hop} {fs:List (List Nat)} {a:List Nat} {ss:List (List Nat)} (h:secF fs a L=some ss):(∀ s∈ss,s.length=32)∧∀ s∈ss,∀ i,s.getD i 0<256 :=
 ⟨fun s hs=>by obtain⟨n,rfl,_⟩:=secF_key h s hs;exact keyB_length _,fun s hs=>by obtain⟨n,rfl,_⟩:=secF_key h s hs;exact keyB_bts _⟩
theorem OwnR.base {w:World} {B B' C:Nat} {e:TypeId} {v:Value} {ls:List (Array Value)} (h:OwnR w B e C v ls) (hB:B'≤B):OwnR w B' e C v ls:=by
 refine⟨⟨h.own.1,?_⟩,h.sizes⟩
 rcases h.own.2 with hn | ⟨g,cap,cur,e,hb,rest⟩
 ·exact .inl hn
 ·exact .inr ⟨g,cap,cur,e,Nat.le_trans hB hb,rest⟩
theorem own_load0 {w:World} {B gs n cs:Nat} {s:List Nat} {sr:List (List Nat)} (h:OwnR w B 23 32 (.slice (some ⟨gs,0,none⟩) n cs) ((s::sr).map bysA)) (hs:s.length=32) :
  (loadRow 23 (.pointer (some ⟨gs,0,none⟩))).run Tryz.prog w=.ok (.agg (bysA s)) w:=by
 obtain⟨g',o',e,_,hl⟩:=h.rows.load Tryz.underlying23 rfl (by kernel_rfl) (i:=0) (x:=bysA s) rfl (by rw[bysA_size,hs])
 obtain⟨p',c',e2,_,_,_,hp⟩:=h.form
 obtain⟨g2,rfl,_⟩:=hp (by simp)
 cases e2;cases e
 simpa using hl
def hdrT (x:List Nat) (L:List Hop):Option (List (List Nat))→List Nat
 | none=>zs 208
 | some ss=>puB x++beta0 ss L++prf (ss.headD []) (beta0 ss L)
set_option maxHeartbeats 2000000 in
set_option maxRecDepth 100000 in
theorem build_bad (x:List Nat) (L:List Hop) (p:Option Addr) (n cap:Nat) (hx:x.length=32) (hok:∀ h∈L,HopOk h) (hn:n=L.length) (hr:isRt L=false) (w:World) (hR:RowsAt 43 w p (hopR L)) :
  Calls Tryz.prog 11 #[.agg (bysA x),.slice p n cap] w fun e w'=>e=.returned (.tuple #[.agg (bysA (zs 208)),.slice none 0 0,.int .i64 14])∧Below w.heap.size w w':=by
 have hxs:=bysA_size' hx
 have HI:=Lib.hid (fun (W:World) (hb:Below w.heap.size w W)=>isRoute_c L p cap hok W (hR.grow hb))
 rw[hr,←hn] at HI
 clear hx hok hn hR hr
 go_enter Tryz.func11,Tryz.ntmps11
 go_wp2_with fail
 generalize hW:World.alloc _ _=W0
 have R0x0:=Lib.hid (show RowAt W0 (w.heap.size) (bysA x) by rw[←hW];clear hW;exact⟨by go_simp,by first | (go_simp;done) | (go_simp;rfl),by go_simp⟩)
 have R0x1:=Lib.hid (show RowAt W0 (w.heap.size+1) (bysA (zs 208)) by rw[←hW];clear hW;exact⟨by go_simp,by first | (go_simp;done) | (go_simp;rfl),by go_simp⟩)
 have B0:=Lib.hid (show Below w.heap.size w W0 by rw[←hW];repeat (first | apply below_alloc | exact Below.refl _ _))
 clear hW
 have hzs208:=bysA_size' (zs_length 208)
 have l_z:w.heap.size≤w.heap.size:=by omega
 have l_r:w.heap.size≤w.heap.size+1:=by omega
 have n_z_r:w.heap.size≠w.heap.size+1:=by omega
 generalize w.heap.size+1=r at *
 obtain⟨z,ez⟩:∃ z,z=w.heap.size:=⟨_,rfl⟩
 rw[←ez] at R0x0 n_z_r ⊢
 have l_z:w.heap.size≤z:=by rw[ez];exact Nat.le_refl _
 clear ez
 refine(HI.out _ B0.out).mono ?_
 rintro e W1 ⟨rfl,hb1⟩
 have R1x0:=Lib.hid (R0x0.out.grow hb1)
 have R1x1:=Lib.hid (R0x1.out.grow hb1)
 have B1:=Lib.hid (B0.out.trans (hb1.mono B0.out.size))
 clear hb1 B0 R0x0 R0x1
 obtain⟨R1x0a,R1x0b,R1x0c⟩:=R1x0.out
 obtain⟨R1x1a,R1x1b,R1x1c⟩:=R1x1.out
 go_wp2_with fail
 refine bodyPost_ret (v:=.tuple #[.agg (bysA (zs 208)),.slice none 0 0,.int .i64 14]) (results_hdr2 Tryz.results11 hzs208 _ _ _ rfl (by go_simp) (by go_simp) rfl rfl) rfl ⟨rfl,?_⟩
 exact below_setRow B1.out l_r _
set_option maxHeartbeats 2000000 in
set_option maxRecDepth 100000 in
theorem build_sec (x:List Nat) (L:List Hop) (p:Option Addr) (n cap:Nat) (hx:x.length=32) (hxb:∀ i,x.getD i 0<256) (hok:∀ h∈L,HopOk h) (hn:n=L.length) (hr:isRt L=true) (w:World) (hT:Tabs w) (hR:RowsAt 43 w p (hopR L)) :
  Calls Tryz.prog 11 #[.agg (bysA x),.slice p n cap] w fun e w'=>∃ v,e=.returned (.tuple #[.agg (bysA (hbH x L)),v,.int .i64 (hbE x L)])∧OwnR w' w.heap.size 23 32 v ((hbK x L).map bysA)∧Below w.heap.size w w':=by
 have hxs:=bysA_size' hx
 have h15:=isRt_len hr
 rw[←hn] at h15
 have HI:=Lib.hid (fun (W:World) (hb:Below w.heap.size w W)=>isRoute_c L p cap hok W (hR.grow hb))
 rw[hr,←hn] at HI
 have HP:=Lib.hid (fun (W:World)=>bpublic_c x hx hxb W)
 have hal:=puB_length x
 have halb:=puB_bts x
 have hals:=bysA_size' hal
 have HS:=Lib.hid (fun (W:World) (h:Tabs W) (hb:Below w.heap.size w W)=>show Calls Tryz.prog 33 #[.agg (bysA x),.agg (bysA (puB x)),.slice p n cap] W fun e w'=>∃ v,e=.returned (.tuple #[v,.int .i64 (secE (secF [x] (puB x) L))])∧OwnR w' w.heap.size 23 32 v (((secF [x] (puB x) L).getD []).map bysA)∧(∀ k,v.ownBlock=some k→W.heap.size≤k)∧Below W.heap.size W w' from (secrets_c x (puB x) L p n cap hx hxb hal halb hok hn h15.2 W h (hR.grow hb)).mono (by rintro e w' ⟨v,rfl,hv,hb'⟩;exact⟨v,rfl,OwnR.base hv hb.size,fun k hk=>(OwnR.ltb hv k hk).1,hb'⟩))
 obtain⟨T,eT⟩:∃ T,T=secF [x] (puB x) L:=⟨_,rfl⟩
 have HH:=Lib.hid (show hbH x L=hdrT x L T by unfold hbH hbS;rw[if_pos hr,eT];unfold hdrT;cases secF [x] (puB x) L<;>rfl)
 have HK:=Lib.hid (show hbK x L=T.getD [] by unfold hbK hbS;rw[if_pos hr,eT])
 have HE:=Lib.hid (show hbE x L=if T.isSome then 0 else 7 by unfold hbE hbS;rw[if_pos hr,eT])
 rw[HH.out,HK.out,HE.out]
 rw[←eT] at HS
 have HTn:=Lib.hid eT
 have HT:=Lib.hid hT
 clear hT eT HH HK HE
 cases T with
 | none =>
  rw[show secE none=7 from rfl] at HS
  rw[show (if (none:Option (List (List Nat))).isSome=true then (0:Int) else 7)=7 from rfl,show (none:Option (List (List Nat))).getD []=[] from rfl,show hdrT x L none=zs 208 from rfl]
  clear hx hxb hok hn hR hr h15 hal halb HTn
  generalize puB x=A at *
  go_enter Tryz.func11,Tryz.ntmps11
  go_wp2_with fail
  generalize hW:World.alloc _ _=W0
  have R0x0:=Lib.hid (show RowAt W0 (w.heap.size) (bysA x) by rw[←hW];clear hW;exact⟨by go_simp,by first | (go_simp;done) | (go_simp;rfl),by go_simp⟩)
  have R0x1:=Lib.hid (show RowAt W0 (w.heap.size+1) (bysA (zs 208)) by rw[←hW];clear hW;exact⟨by go_simp,by first | (go_simp;done) | (go_simp;rfl),by go_simp⟩)
  have B0:=Lib.hid (show Below w.heap.size w W0 by rw[←hW];repeat (first | apply below_alloc | exact Below.refl _ _))
  clear hW
  have hzs208:=bysA_size' (zs_length 208)
  have l_z:w.heap.size≤w.heap.size:=by omega
  have l_r:w.heap.size≤w.heap.size+1:=by omega
  have n_z_r:w.heap.size≠w.heap.size+1:=by omega
  generalize w.heap.size+1=r at *
  obtain⟨z,ez⟩:∃ z,z=w.heap.size:=⟨_,rfl⟩
  rw[←ez] at R0x0 n_z_r ⊢
  have l_z:w.heap.size≤z:=by rw[ez];exact Nat.le_refl _
  clear ez
  refine(HI.out _ B0.out).mono ?_
  rintro e W1 ⟨rfl,hb1⟩
  have R1x0:=Lib.hid (R0x0.out.grow hb1)
  have R1x1:=Lib.hid (R0x1.out.grow hb1)
  have B1:=Lib.hid (B0.out.trans (hb1.mono B0.out.size))
  clear hb1 B0 R0x0 R0x1
  obtain⟨R1x0a,R1x0b,R1x0c⟩:=R1x0.out
  obtain⟨R1x1a,R1x1b,R1x1c⟩:=R1x1.out
  go_wp2_with fail
  refine(HP.out _).mono ?_
  rintro e W2 ⟨rfl,hb2⟩
  clear R1x0a R1x0b R1x0c R1x1a R1x1b R1x1c
  have R2x0:=Lib.hid (R1x0.out.grow hb2)
  have R2x1:=Lib.hid (R1x1.out.grow hb2)
  have B2:=Lib.hid (B1.out.trans (hb2.mono B1.out.size))
  clear hb2 B1 R1x0 R1x1
  obtain⟨R2x0a,R2x0b,R2x0c⟩:=R2x0.out
  obtain⟨R2x1a,R2x1b,R2x1c⟩:=R2x1.out
  go_wp2_with fail
  have n_z_al:z≠W2.heap.size:=Nat.ne_of_lt R2x0.out.2.2
  have n_r_al:r≠W2.heap.size:=Nat.ne_of_lt R2x1.out.2.2
  have l_al:w.heap.size≤W2.heap.size:=B2.out.size
  have hb3:=below_alloc (Below.refl W2.heap.size W2) (.cells (bysA A) 23)
  have N3:=Lib.hid (RowAt.of (block_new W2 (.cells (bysA A) 23)))
  have R3x0:=Lib.hid (R2x0.out.grow hb3)
  have R3x1:=Lib.hid (R2x1.out.grow hb3)
  have B3:=Lib.hid (B2.out.trans (hb3.mono B2.out.size))
  clear hb3 B2 R2x0 R2x1 R2x0a R2x0b R2x0c R2x1a R2x1b R2x1c
  generalize W2.heap.size=al at *
  generalize W2.alloc (.cells (bysA A) 23)=W3 at *
  refine(HS.out _ (HT.out.grow B3.out) B3.out).mono ?_
  rintro e W4 ⟨v,rfl,hv,hgk,hb4⟩
  have R4x0:=Lib.hid (R3x0.out.grow hb4)
  have R4x1:=Lib.hid (R3x1.out.grow hb4)
  have R4x2:=Lib.hid (N3.out.grow hb4)
  have B4:=Lib.hid (B3.out.trans (hb4.mono B3.out.size))
  clear hb4 B3 R3x0 R3x1 N3
  clear hv hgk
  obtain⟨R4x0a,R4x0b,R4x0c⟩:=R4x0.out
  obtain⟨R4x1a,R4x1b,R4x1c⟩:=R4x1.out
  obtain⟨R4x2a,R4x2b,R4x2c⟩:=R4x2.out
  go_wp2_with fail
  refine bodyPost_ret (v:=.tuple #[.agg (bysA (zs 208)),.slice none 0 0,.int .i64 7]) (results_hdr2 Tryz.results11 hzs208 _ _ _ rfl (by go_simp) (by go_simp) rfl rfl) rfl ⟨_,rfl,OwnR.nil _ _ _ _,?_⟩
  exact below_setRow B4.out l_r _
 | some ss =>
  rw[show secE (some ss)=0 from rfl] at HS
  rw[show (if (some ss).isSome=true then (0:Int) else 7)=0 from rfl,show (some ss).getD []=ss from rfl,show hdrT x L (some ss)=puB x++beta0 ss L++prf (ss.headD []) (beta0 ss L) from rfl]
  have hsl:=secF_length HTn.out.symm
  have hsb:=secF_bts HTn.out.symm
  have hb0:=beta0_ok hr hok hsl
  have HF:=Lib.hid (fun (W:World) (h:Tabs W) (q:Option Addr) (c:Nat) (hb:Below w.heap.size w W) (hc:n≤c) (hq:RowsAt 32 W q (ss.map bysA))=>firstBeta_c ss L q p n c cap hsb.1 hsb.2 hok (by rw[hn,hsl]) hsl.symm h15.1 h15.2 hc W h hq (hR.grow hb))
  rw[show betas [] (ss.zip (cmdsE L))=beta0 ss L by unfold beta0;rw[cmds_enc hr]] at HF
  obtain⟨s0,sr,rfl⟩:∃ s0 sr,ss=s0::sr:=by
   cases ss with
   | nil=>rw[List.length_nil] at hsl;omega
   | cons a b=>exact⟨a,b,rfl⟩
  have hs0:=hsb.1 s0 (by simp)
  have hs0s:=bysA_size' hs0
  have HPr:=Lib.hid (fun (W:World) (h:Tabs W)=>hproof_c s0 (beta0 (s0::sr) L) hs0 (hsb.2 s0 (by simp)) hb0.1 hb0.2 W h)
  have hbs:=bysA_size' hb0.1
  have hpl:=prf_length s0 (beta0 (s0::sr) L)
  have hps:=bysA_size' hpl
  have hbd:=fun W=>run_bldHdr hal hb0.1 hpl W
  rw[show (s0::sr).headD []=s0 from rfl]
  have hHs:=bysA_size' (show (puB x++beta0 (s0::sr) L++prf s0 (beta0 (s0::sr) L)).length=208 by rw[List.length_append,List.length_append,hal,hb0.1,hpl])
  have Hs0:=Lib.hid hs0
  have Hsl:=Lib.hid (show (s0::sr).length=n by rw[hsl,hn])
  have H15:=Lib.hid h15
  generalize puB x++beta0 (s0::sr) L++prf s0 (beta0 (s0::sr) L)=H at *
  generalize prf s0 (beta0 (s0::sr) L)=P at *
  generalize beta0 (s0::sr) L=B at *
  generalize puB x=A at *
  have hn0:0<n:=by omega
  have hz160:=bysA_size' (zs_length 160)
  clear hx hxb hok hn hR hr h15 hal halb HTn hsl hsb hb0 hs0 hpl
  go_enter Tryz.func11,Tryz.ntmps11
  go_wp2_with fail
  generalize hW:World.alloc _ _=W0
  have R0x0:=Lib.hid (show RowAt W0 (w.heap.size) (bysA x) by rw[←hW];clear hW;exact⟨by go_simp,by first | (go_simp;done) | (go_simp;rfl),by go_simp⟩)
  have R0x1:=Lib.hid (show RowAt W0 (w.heap.size+1) (bysA (zs 208)) by rw[←hW];clear hW;exact⟨by go_simp,by first | (go_simp;done) | (go_simp;rfl),by go_simp⟩)
  have B0:=Lib.hid (show Below w.heap.size w W0 by rw[←hW];repeat (first | apply below_alloc | exact Below.refl _ _))
  clear hW
  have hzs208:=bysA_size' (zs_length 208)
  have l_z:w.heap.size≤w.heap.size:=by omega
  have l_r:w.heap.size≤w.heap.size+1:=by omega
  have n_z_r:w.heap.size≠w.heap.size+1:=by omega
  generalize w.heap.size+1=r at *
  obtain⟨z,ez⟩:∃ z,z=w.heap.size:=⟨_,rfl⟩
  rw[←ez] at R0x0 n_z_r ⊢
  have l_z:w.heap.size≤z:=by rw[ez];exact Nat.le_refl _
  clear ez
  refine(HI.out _ B0.out).mono ?_
  rintro e W1 ⟨rfl,hb1⟩
  have R1x0:=Lib.hid (R0x0.out.grow hb1)
  have R1x1:=Lib.hid (R0x1.out.grow hb1)
  have B1:=Lib.hid (B0.out.trans (hb1.mono B0.out.size))
  clear hb1 B0 R0x0 R0x1
  obtain⟨R1x0a,R1x0b,R1x0c⟩:=R1x0.out
  obtain⟨R1x1a,R1x1b,R1x1c⟩:=R1x1.out
  go_wp2_with fail
  refine(HP.out _).mono ?_
  rintro e W2 ⟨rfl,hb2⟩
  clear R1x0a R1x0b R1x0c R1x1a R1x1b R1x1c
  have R2x0:=Lib.hid (R1x0.out.grow hb2)
  have R2x1:=Lib.hid (R1x1.out.grow hb2)
  have B2:=Lib.hid (B1.out.trans (hb2.mono B1.out.size))
  clear hb2 B1 R1x0 R1x1
  obtain⟨R2x0a,R2x0b,R2x0c⟩:=R2x0.out
  obtain⟨R2x1a,R2x1b,R2x1c⟩:=R2x1.out
  go_wp2_with fail
  have n_z_al:z≠W2.heap.size:=Nat.ne_of_lt R2x0.out.2.2
  have n_r_al:r≠W2.heap.size:=Nat.ne_of_lt R2x1.out.2.2
  have l_al:w.heap.size≤W2.heap.size:=B2.out.size
  have hb3:=below_alloc (Below.refl W2.heap.size W2) (.cells (bysA A) 23)
  have N3:=Lib.hid (RowAt.of (block_new W2 (.cells (bysA A) 23)))
  have R3x0:=Lib.hid (R2x0.out.grow hb3)
  have R3x1:=Lib.hid (R2x1.out.grow hb3)
  have B3:=Lib.hid (B2.out.trans (hb3.mono B2.out.size))
  clear hb3 B2 R2x0 R2x1 R2x0a R2x0b R2x0c R2x1a R2x1b R2x1c
  generalize W2.heap.size=al at *
  generalize W2.alloc (.cells (bysA A) 23)=W3 at *
  have hrW:r<W3.heap.size:=R3x1.out.2.2
  refine(HS.out _ (HT.out.grow B3.out) B3.out).mono ?_
  rintro e W4 ⟨v,rfl,hv,hgk,hb4⟩
  have R4x0:=Lib.hid (R3x0.out.grow hb4)
  have R4x1:=Lib.hid (R3x1.out.grow hb4)
  have R4x2:=Lib.hid (N3.out.grow hb4)
  have B4:=Lib.hid (B3.out.trans (hb4.mono B3.out.size))
  clear hb4 B3 R3x0 R3x1 N3
  have hv':OwnR W4 _ 23 32 v ((s0::sr).map bysA):=hv
  clear hv
  obtain⟨ps,cs,rfl,hro,hcl,hx1,hpa⟩:=OwnR.form hv'
  clear hx1
  rw[List.length_map,Hsl.out] at hcl hv' ⊢
  obtain⟨gs,rfl,hgs⟩:=hpa (by simp)
  have HV4:=Lib.hid hv'
  have hRo:=Lib.hid hro
  have Hcl:=Lib.hid hcl
  have Hgr:=Lib.hid (show gs≠r by have:=hgk gs rfl;omega)
  clear hv' hro hcl hpa hgs hgk hrW
  obtain⟨R4x0a,R4x0b,R4x0c⟩:=R4x0.out
  obtain⟨R4x1a,R4x1b,R4x1c⟩:=R4x1.out
  obtain⟨R4x2a,R4x2b,R4x2c⟩:=R4x2.out
  go_wp2_with fail
  refine(HF.out _ (HT.out.grow B4.out) _ _ B4.out Hcl.out hRo.out).mono ?_
  rintro e W5 ⟨rfl,hb5⟩
  clear R4x0a R4x0b R4x0c R4x1a R4x1b R4x1c R4x2a R4x2b R4x2c
  have O5x0:=Lib.hid (HV4.out.grow hb5)
  clear HV4
  have R5x0:=Lib.hid (R4x0.out.grow hb5)
  have R5x1:=Lib.hid (R4x1.out.grow hb5)
  have R5x2:=Lib.hid (R4x2.out.grow hb5)
  have B5:=Lib.hid (B4.out.trans (hb5.mono B4.out.size))
  clear hb5 B4 R4x0 R4x1 R4x2
  clear hRo
  obtain⟨R5x0a,R5x0b,R5x0c⟩:=R5x0.out
  obtain⟨R5x1a,R5x1b,R5x1c⟩:=R5x1.out
  obtain⟨R5x2a,R5x2b,R5x2c⟩:=R5x2.out
  go_wp2_with fail
  have m0_bb:(Value.slice (some ⟨gs,0,none⟩) n cs).ownBlock≠some W5.heap.size:=fun e=>by have:=(O5x0.out.ltb _ e).2;omega
  have n_z_bb:z≠W5.heap.size:=Nat.ne_of_lt R5x0.out.2.2
  have n_r_bb:r≠W5.heap.size:=Nat.ne_of_lt R5x1.out.2.2
  have n_al_bb:al≠W5.heap.size:=Nat.ne_of_lt R5x2.out.2.2
  have l_bb:w.heap.size≤W5.heap.size:=B5.out.size
  have hb6:=below_alloc (Below.refl W5.heap.size W5) (.cells (bysA B) 27)
  have N6:=Lib.hid (RowAt.of (block_new W5 (.cells (bysA B) 27)))
  have O6x0:=Lib.hid (O5x0.out.grow hb6)
  clear O5x0
  have R6x0:=Lib.hid (R5x0.out.grow hb6)
  have R6x1:=Lib.hid (R5x1.out.grow hb6)
  have R6x2:=Lib.hid (R5x2.out.grow hb6)
  have B6:=Lib.hid (B5.out.trans (hb6.mono B5.out.size))
  clear hb6 B5 R5x0 R5x1 R5x2 R5x0a R5x0b R5x0c R5x1a R5x1b R5x1c R5x2a R5x2b R5x2c
  generalize W5.heap.size=bb at *
  generalize W5.alloc (.cells (bysA B) 27)=W6 at *
  have hk0:∀ (o':Array Obj) (d':Nat),(loadRow 23 (.pointer (some ⟨gs,0,none⟩))).run Tryz.prog (W6.plus o' d')=.ok (.agg (bysA s0)) (W6.plus o' d'):=fun o' d'=>own_load0 (O6x0.out.grow (below_plus_of _ _ _ (Below.refl _ _) (Nat.le_refl _))) Hs0.out
  obtain⟨R6x0a,R6x0b,R6x0c⟩:=R6x0.out
  obtain⟨R6x1a,R6x1b,R6x1c⟩:=R6x1.out
  obtain⟨R6x2a,R6x2b,R6x2c⟩:=R6x2.out
  obtain⟨N6a,N6b,N6c⟩:=N6.out
  refine wp_region_pick W6 [0,1,2,3,4,5,6,7,8] [false,false,false,false,false,false,false,false,true] [] [] 9 (by kernel_rfl) rfl (by kernel_rfl) (by intro c a d v w h;cases d<;>exact h) (by first | exact(Below.refl _ _).drew | exact Below.refl _ _) ?_
  simp only[pick,List.getElem?_cons_succ,List.getElem?_cons_zero,List.drop_succ_cons,List.drop_zero]
  refine wpHoldF_val (wanted_none rfl) (by intro K o d hK;go_simp;exact hK _ (Below.refl _ _)) ?_
  refine wpHoldF_val (wanted_none rfl) (by intro K o d hK;go_simp;exact hK _ (Below.refl _ _)) ?_
  refine wpHoldF_val (wanted_none rfl) (by intro K o d hK;go_simp;exact hK _ (Below.refl _ _)) ?_
  refine wpHoldF_val (wanted_none rfl) (by intro K o d hK;go_simp;exact hK _ (Below.refl _ _)) ?_
  refine wpHoldF_val (wanted_none rfl) (by intro K o d hK;go_simp;exact hK _ (Below.refl _ _)) ?_
  refine wpHoldF_val (wanted_none rfl) (by intro K o d hK;go_simp;exact hK _ (Below.refl _ _)) ?_
  refine wpHoldF_call (v:=.agg (bysA P)) (wanted_none rfl) (by intro K o d hK;go_simp;refine(HPr.out _ (HT.out.grow (below_plus_of _ _ _ B6.out B6.out.size))).mono ?_;rintro e w' ⟨rfl,hbw⟩;exact⟨_,rfl,hK _ hbw⟩) ?_
  refine wpHoldF_val (wanted_none rfl) (by intro K o d hK;go_simp;exact hK _ (Below.refl _ _)) ?_
  refine wpHoldF_late (wanted_none rfl) (fun w=>by go_simp;rfl) ?_
  refine wpHoldF_nil ?_
  intro W7 hb7 hblk
  clear hblk
  clear R6x0a R6x0b R6x0c R6x1a R6x1b R6x1c R6x2a R6x2b R6x2c N6a N6b N6c
  have O7x0:=Lib.hid (O6x0.out.grow hb7)
  clear O6x0
  have R7x0:=Lib.hid (R6x0.out.grow hb7)
  have R7x1:=Lib.hid (R6x1.out.grow hb7)
  have R7x2:=Lib.hid (R6x2.out.grow hb7)
  have R7x3:=Lib.hid (N6.out.grow hb7)
  have B7:=Lib.hid (B6.out.trans (hb7.mono B6.out.size))
  clear hb7 B6 R6x0 R6x1 R6x2 N6
  obtain⟨R7x0a,R7x0b,R7x0c⟩:=R7x0.out
  obtain⟨R7x1a,R7x1b,R7x1c⟩:=R7x1.out
  obtain⟨R7x2a,R7x2b,R7x2c⟩:=R7x2.out
  obtain⟨R7x3a,R7x3b,R7x3c⟩:=R7x3.out
  go_wp2_with fail
  refine bodyPost_ret (v:=.tuple #[.agg (bysA H),.slice (some ⟨gs,0,none⟩) n cs,.int .i64 0]) (results_hdr2 Tryz.results11 hHs _ _ _ rfl (by go_simp) (by go_simp) rfl rfl) rfl ⟨_,rfl,O7x0.out.setRow (fun e=>Hgr.out (by simpa [Value.ownBlock] using e)) _,?_⟩
  exact below_setRow B7.out l_r _
theorem build_c (x:List Nat) (L:List Hop) (p:Option Addr) (n cap:Nat) (hx:x.length=32) (hxb:∀ i,x.getD i 0<256) (hok:∀ h∈L,HopOk h) (hn:n=L.length) (w:World) (hT:Tabs w) (hR:RowsAt 43 w p (hopR L)) :
  Calls Tryz.prog 11 #[.agg (bysA x),.slice p n cap] w fun e w'=>∃ v,e=.returned (.tuple #[.agg (bysA (hbH x L)),v,.int .i64 (hbE x L)])∧OwnR w' w.heap.size 23 32 v ((hbK x L).map bysA)∧Below w.heap.size w w':=by
 cases hr:isRt L with
 | true=>exact build_sec x L p n cap hx hxb hok hn hr w hT hR
 | false =>
  have h1:hbH x L=zs 208:=by unfold hbH;rw[hr];rfl
  have h2:hbK x L=[]:=by unfold hbK;rw[hr];rfl
  have h3:hbE x L=14:=by unfold hbE;rw[hr];rfl
  rw[h1,h2,h3]
  refine(build_bad x L p n cap hx hok hn hr w hR).mono ?_
  rintro e w' ⟨rfl,hb⟩
  exact⟨_,rfl,OwnR.nil _ _ _ _,hb⟩
end Go.Proofs.YtddmjddlbhdcpaaGreatDoor

namespace Go.Proofs.YtddmjddlbhdcpaaGreatDoor
open Go.RowKit Go.Hold Go.Sh Go.Ch Go.Cm Go.Hd
set_option maxRecDepth 100000 in
theorem lays_wide (o:Oper) (h:o.op=.alloc 99) (hg:o.guard=none):Lays Tryz.prog o 99 (bysA (zs 192)):=by
 refine⟨hg,fun a w=>?_⟩
 obtain⟨dst,op,ty,pos,after,guard⟩:=o
 simp only at h hg
 subst h;subst hg
 go_simp
set_option maxRecDepth 100000 in
theorem lays_hdr (o:Oper) (h:o.op=.alloc 31) (hg:o.guard=none):Lays Tryz.prog o 31 (bysA (zs 208)):=by
 refine⟨hg,fun a w=>?_⟩
 obtain⟨dst,op,ty,pos,after,guard⟩:=o
 simp only at h hg
 subst h;subst hg
 go_simp
set_option maxRecDepth 100000 in
theorem lays_keyB (o:Oper) (h:o.op=.alloc 23) (hg:o.guard=none):Lays Tryz.prog o 23 (bysA (zs 32)):=by
 refine⟨hg,fun a w=>?_⟩
 obtain⟨dst,op,ty,pos,after,guard⟩:=o
 simp only at h hg
 subst h;subst hg
 go_simp
 rfl
set_option maxHeartbeats 3000000 in
set_option maxRecDepth 100000 in
theorem unwrap_c (o a b g:List Nat) (ho:o.length=32) (hob:∀ i,o.getD i 0<256) (ha:a.length=32) (hab:∀ i,a.getD i 0<256) (hb:b.length=160) (hbb:∀ i,b.getD i 0<256) (hg:g.length=16) (hgb:∀ i,g.getD i 0<256) (w:World) (hT:Tabs w) :
  Calls Tryz.prog 18 #[.agg (bysA o),.agg (bysA (a++b++g))] w fun e w'=>e=.returned (.tuple #[.agg (stepA (unwV o a b g)),.int .i64 (unwE o a b g)])∧Below w.heap.size w w':=by
 have hos:=bysA_size' ho
 have has:=bysA_size' ha
 have hbs:=bysA_size' hb
 have hgs:=bysA_size' hg
 obtain⟨H,eH⟩:∃ H,H=a++b++g:=⟨_,rfl⟩
 have hHl:H.length=208:=by rw[eH,List.length_append,List.length_append,ha,hb,hg]
 have hHs:=bysA_size' hHl
 have hA:H.take 32=a:=by rw[eH,List.append_assoc,show 32=a.length from ha.symm,List.take_left]
 have hB:(H.drop 32).take 160=b:=by rw[eH,List.append_assoc,show 32=a.length from ha.symm,List.drop_left,show 160=b.length from hb.symm,List.take_left]
 have hG:=Lib.hid (show H.drop 192=g by rw[eH,show 192=(a++b).length by rw[List.length_append,ha,hb],List.drop_left])
 rw[←eH]
 clear eH
 have hzz:=stepA_size stpOk_zero
 have HT:=Lib.hid hT
 have hz192:=bysA_size' (zs_length 192)
 have hz208:=bysA_size' (zs_length 208)
 have hz32:=bysA_size' (zs_length 32)
 have hz16:=bysA_size' (zs_length 16)
 have hcz:(cmdA .zero).size=11:=cmdA_size rfl
 have KS:=Lib.hid (fun (W:World)=>bshared_c o a ho hob ha hab W)
 obtain⟨s,es⟩:∃ s,s=keyB (shB o a):=⟨_,rfl⟩
 have hs:s.length=32:=by rw[es];exact keyB_length _
 have hsb:∀ i,s.getD i 0<256:=by rw[es];exact keyB_bts _
 have hss:=bysA_size' hs
 have KP:=Lib.hid (fun (W:World) (h:Tabs W)=>hproof_c s b hs hsb hb hbb W h)
 have hPl:=prf_length s b
 have hPb:=prf_bts s b
 have hPs:=bysA_size' hPl
 have KE:=Lib.hid (fun (W:World) (q r:Option Addr) (hq:Bs0 W q (prf s b)) (hr:Bs0 W r g)=>show Calls Tryz.prog 44 #[.slice q 16 16,.slice r 16 16] W fun e w'=>e=.returned (.bool (decide (prf s b=g)))∧Below W.heap.size W w' from by
  have:=equal_c 16 16 q r (prf s b) g W (by rw[hPl];decide) hPb hq hgb hr
  rwa [hPl,hg] at this)
 have KWd:=Lib.hid (fun (W:World)=>widened_c b hb W)
 have hbz:(b++zs 32).length=192:=by rw[List.length_append,hb,zs_length]
 have KT:=Lib.hid (fun (W:World) (h:Tabs W)=>show Calls Tryz.prog 46 #[.agg (bysA (b++zs 32)),.agg (bysA s)] W fun e w'=>e=.returned (.agg (bysA (opn s b)))∧Below W.heap.size W w' from turned_c (b++zs 32) s hbz (bts_app hbb (bts_zs _)) hs hsb W h)
 have hOl:=opn_length (s:=s) hb
 have hOb:=opn_bts (s:=s) hbb
 have hOs:=bysA_size' hOl
 have KC:=Lib.hid (fun (W:World)=>wcmd_c (opn s b) hOl W)
 have hcl:((opn s b).take 16).length=16:=by rw[List.length_take,hOl];rfl
 have KD:=Lib.hid (fun (W:World)=>decode_c ((opn s b).take 16) hcl (bts_take hOb 16) W)
 have hCs:=bysA_size' hcl
 have hdi:=decV_id hcl
 have hds:=cmdA_size hdi
 have KB:=Lib.hid (fun (W:World) (h:Tabs W)=>blinding_c s a hs hsb ha hab W h)
 have hbl:=bli_length s a
 have hbls:=bysA_size' hbl
 have KN:=Lib.hid (fun (W:World)=>show Calls Tryz.prog 29 #[.agg (bysA (bli s a)),.agg (bysA a)] W fun e w'=>e=.returned (.tuple #[.agg (bysA (keyB (nxA s a))),.int .i64 (F.errOf (nxA s a))])∧Below W.heap.size W w' from bshared_c (bli s a) a hbl (bli_bts s a) ha hab W)
 have KNb:=Lib.hid (fun (W:World)=>wnxb_c (opn s b) hOl W)
 have KNg:=Lib.hid (fun (W:World)=>wnxg_c (opn s b) hOl W)
 have hnbl:((opn s b).drop 32).length=160:=by rw[List.length_drop,hOl]
 have hngl:(((opn s b).drop 16).take 16).length=16:=by rw[List.length_take,List.length_drop,hOl];rfl
 have hnbs:=bysA_size' hnbl
 have hngs:=bysA_size' hngl
 have hnal:=keyB_length (nxA s a)
 have hnas:=bysA_size' hnal
 have hbdH:=fun W=>run_bldHdr hnal hnbl hngl W
 have hHn:(keyB (nxA s a)++(opn s b).drop 32++((opn s b).drop 16).take 16).length=208:=by rw[List.length_append,List.length_append,hnal,hnbl,hngl]
 have hHns:=bysA_size' hHn
 have KTg:=Lib.hid (fun (W:World) (h:Tabs W)=>htag_c s hs hsb W h)
 have htl:=tagS_length s
 have hts:=bysA_size' htl
 have hE0:unwE o a b g=(if shB o a=0 then 7 else if ¬prf s b=g then 6 else if okB ((opn s b).take 16)=false then 5 else if nxA s a=0 then 7 else 0):=by unfold unwE;rw[es]
 have hV0:unwV o a b g=if unwE o a b g=0 then stpOf a b s else .zero:=by unfold unwV;rw[es]
 obtain⟨st,est⟩:∃ st,st=stpOf a b s:=⟨_,rfl⟩
 have hd0:okB ((opn s b).take 16)=true→decV ((opn s b).take 16)=st.c∧decE ((opn s b).take 16)=0:=fun h=>by unfold decV decE;rw[if_pos h,if_pos h,est];exact⟨rfl,rfl⟩
 have hst:StpOk st:=by rw[est];exact⟨ofB_id _ hcl,hHn,hs,htl⟩
 have hsts:=stepA_size hst
 have hbdS:=fun W=>run_bldStep hst W
 rw[show st.nx=keyB (nxA s a)++(opn s b).drop 32++((opn s b).drop 16).take 16 by rw[est];rfl,show st.s=s by rw[est];rfl,show st.t=tagS s by rw[est];rfl] at hbdS
 rw[hV0]
 rw[←est]
 rw[←es] at KS
 obtain⟨er,eer⟩:∃ er,er=unwE o a b g:=⟨_,rfl⟩
 rw[←eer] at hE0 ⊢
 have hd1:okB ((opn s b).take 16)=false→decE ((opn s b).take 16)=5:=fun h=>by unfold decE;rw[h];rfl
 obtain⟨sn,esn⟩:∃ n,n=shB o a:=⟨_,rfl⟩
 obtain⟨nn,enn⟩:∃ n,n=nxA s a:=⟨_,rfl⟩
 rw[←esn] at KS hE0
 rw[←enn] at hE0
 rw[show F.errOf (nxA s a)=F.errOf nn by rw[enn]] at KN
 have Hd0:=Lib.hid hd0
 have Hd1:=Lib.hid hd1
 have HE0:=Lib.hid hE0
 obtain⟨ans,eans⟩:∃ x,x=(if er=0 then st else Stp.zero):=⟨_,rfl⟩
 rw[←eans]
 have HAn:=Lib.hid eans
 clear hd0 hd1 hE0 hV0 est eer esn enn es eans
 generalize keyB (nxA s a)++(opn s b).drop 32++((opn s b).drop 16).take 16=Hn at *
 generalize keyB (nxA s a)=na at *
 generalize (opn s b).drop 32=nb at *
 generalize ((opn s b).drop 16).take 16=ng at *
 generalize okB ((opn s b).take 16)=ok at *
 generalize decE ((opn s b).take 16)=dE at *
 generalize decV ((opn s b).take 16)=dV at *
 generalize (opn s b).take 16=C at *
 generalize opn s b=O at *
 generalize tagS s=tg at *
 generalize bli s a=bl at *
 generalize b++zs 32=bz at *
 generalize prf s b=P at *
 have Hstk:=Lib.hid hst
 clear ho hob ha hab hb hbb hg hgb hs hsb hPl hPb hbz hOl hOb hcl hdi hbl hnbl hngl hnal hHn htl hT hst hHl
 by_cases h1:sn=0
 ·obtain rfl:er=7:=by rw[HE0.out,if_pos h1]
  rw[errOf_zero h1] at KS
  obtain rfl:ans=.zero:=by rw[HAn.out,if_neg (show ¬(7:Int)=0 by decide)]
  clear h1 HE0 HAn
  go_enter Tryz.func18,Tryz.ntmps18
  go_wp2_with fail
  generalize hW:World.alloc _ _=W0
  have R0x0:=Lib.hid (show RowAt W0 (w.heap.size) (bysA o) by rw[←hW];clear hW;exact⟨by go_simp,by first | (go_simp;done) | (go_simp;rfl),by go_simp⟩)
  have R0x1:=Lib.hid (show RowAt W0 (w.heap.size+1) (bysA H) by rw[←hW];clear hW;exact⟨by go_simp,by first | (go_simp;done) | (go_simp;rfl),by go_simp⟩)
  have R0x2:=Lib.hid (show RowAt W0 (w.heap.size+1+1) (stepA .zero) by rw[←hW];clear hW;exact⟨by go_simp,by first | (go_simp;done) | (go_simp;rfl),by go_simp⟩)
  have B0:=Lib.hid (show Below w.heap.size w W0 by rw[←hW];repeat (first | apply below_alloc | exact Below.refl _ _))
  clear hW
  have l_z:w.heap.size≤w.heap.size:=by omega
  have l_y:w.heap.size≤w.heap.size+1:=by omega
  have n_z_y:w.heap.size≠w.heap.size+1:=by omega
  have l_r:w.heap.size≤w.heap.size+1+1:=by omega
  have n_z_r:w.heap.size≠w.heap.size+1+1:=by omega
  have n_y_r:w.heap.size+1≠w.heap.size+1+1:=by omega
  generalize w.heap.size+1+1=r at *
  generalize w.heap.size+1=y at *
  obtain⟨z,ez⟩:∃ z,z=w.heap.size:=⟨_,rfl⟩
  rw[←ez] at R0x0 n_z_y n_z_r ⊢
  have l_z:w.heap.size≤z:=by rw[ez];exact Nat.le_refl _
  clear ez
  obtain⟨R0x0a,R0x0b,R0x0c⟩:=R0x0.out
  obtain⟨R0x1a,R0x1b,R0x1c⟩:=R0x1.out
  obtain⟨R0x2a,R0x2b,R0x2c⟩:=R0x2.out
  go_wp2_with fail
  refine(KS.out _).mono ?_
  rintro e W1 ⟨rfl,hb1⟩
  clear R0x0a R0x0b R0x0c R0x1a R0x1b R0x1c R0x2a R0x2b R0x2c
  have R1x0:=Lib.hid (R0x0.out.grow hb1)
  have R1x1:=Lib.hid (R0x1.out.grow hb1)
  have R1x2:=Lib.hid (R0x2.out.grow hb1)
  have B1:=Lib.hid (B0.out.trans (hb1.mono B0.out.size))
  clear hb1 B0 R0x0 R0x1 R0x2
  obtain⟨R1x0a,R1x0b,R1x0c⟩:=R1x0.out
  obtain⟨R1x1a,R1x1b,R1x1c⟩:=R1x1.out
  obtain⟨R1x2a,R1x2b,R1x2c⟩:=R1x2.out
  go_wp2_with fail
  refine bodyPost_ret (v:=.tuple #[.agg (stepA .zero),.int .i64 7]) (results_step_slot Tryz.results18 hzz _ _ _ rfl (by go_simp) (by go_simp) rfl) rfl ⟨rfl,?_⟩
  first | exact below_setRow B1.out l_r _ | exact below_alloc (below_setRow B1.out l_r _) _ | exact below_setRow (below_setRow B1.out l_av _) l_r _
 rw[if_neg h1] at HE0
 rw[errOf_ne h1] at KS
 clear h1
 go_enter Tryz.func18,Tryz.ntmps18
 go_wp2_with fail
 generalize hW:World.alloc _ _=W0
 have R0x0:=Lib.hid (show RowAt W0 (w.heap.size) (bysA o) by rw[←hW];clear hW;exact⟨by go_simp,by first | (go_simp;done) | (go_simp;rfl),by go_simp⟩)
 have R0x1:=Lib.hid (show RowAt W0 (w.heap.size+1) (bysA H) by rw[←hW];clear hW;exact⟨by go_simp,by first | (go_simp;done) | (go_simp;rfl),by go_simp⟩)
 have R0x2:=Lib.hid (show RowAt W0 (w.heap.size+1+1) (stepA .zero) by rw[←hW];clear hW;exact⟨by go_simp,by first | (go_simp;done) | (go_simp;rfl),by go_simp⟩)
 have B0:=Lib.hid (show Below w.heap.size w W0 by rw[←hW];repeat (first | apply below_alloc | exact Below.refl _ _))
 clear hW
 have l_z:w.heap.size≤w.heap.size:=by omega
 have l_y:w.heap.size≤w.heap.size+1:=by omega
 have n_z_y:w.heap.size≠w.heap.size+1:=by omega
 have l_r:w.heap.size≤w.heap.size+1+1:=by omega
 have n_z_r:w.heap.size≠w.heap.size+1+1:=by omega
 have n_y_r:w.heap.size+1≠w.heap.size+1+1:=by omega
 generalize w.heap.size+1+1=r at *
 generalize w.heap.size+1=y at *
 obtain⟨z,ez⟩:∃ z,z=w.heap.size:=⟨_,rfl⟩
 rw[←ez] at R0x0 n_z_y n_z_r ⊢
 have l_z:w.heap.size≤z:=by rw[ez];exact Nat.le_refl _
 clear ez
 obtain⟨R0x0a,R0x0b,R0x0c⟩:=R0x0.out
 obtain⟨R0x1a,R0x1b,R0x1c⟩:=R0x1.out
 obtain⟨R0x2a,R0x2b,R0x2c⟩:=R0x2.out
 go_wp2_with fail
 refine(KS.out _).mono ?_
 rintro e W1 ⟨rfl,hb1⟩
 clear R0x0a R0x0b R0x0c R0x1a R0x1b R0x1c R0x2a R0x2b R0x2c
 have R1x0:=Lib.hid (R0x0.out.grow hb1)
 have R1x1:=Lib.hid (R0x1.out.grow hb1)
 have R1x2:=Lib.hid (R0x2.out.grow hb1)
 have B1:=Lib.hid (B0.out.trans (hb1.mono B0.out.size))
 clear hb1 B0 R0x0 R0x1 R0x2
 obtain⟨R1x0a,R1x0b,R1x0c⟩:=R1x0.out
 obtain⟨R1x1a,R1x1b,R1x1c⟩:=R1x1.out
 obtain⟨R1x2a,R1x2b,R1x2c⟩:=R1x2.out
 go_wp2_with fail
 have n_z_sv:z≠W1.heap.size:=Nat.ne_of_lt R1x0.out.2.2
 have n_y_sv:y≠W1.heap.size:=Nat.ne_of_lt R1x1.out.2.2
 have n_r_sv:r≠W1.heap.size:=Nat.ne_of_lt R1x2.out.2.2
 have l_sv:w.heap.size≤W1.heap.size:=B1.out.size
 have hb2:=below_alloc (Below.refl W1.heap.size W1) (.cells (bysA s) 23)
 have N2:=Lib.hid (RowAt.of (block_new W1 (.cells (bysA s) 23)))
 have R2x0:=Lib.hid (R1x0.out.grow hb2)
 have R2x1:=Lib.hid (R1x1.out.grow hb2)
 have R2x2:=Lib.hid (R1x2.out.grow hb2)
 have B2:=Lib.hid (B1.out.trans (hb2.mono B1.out.size))
 clear hb2 B1 R1x0 R1x1 R1x2 R1x0a R1x0b R1x0c R1x1a R1x1b R1x1c R1x2a R1x2b R1x2c
 generalize W1.heap.size=sv at *
 generalize W1.alloc (.cells (bysA s) 23)=W2 at *
 obtain⟨R2x0a,R2x0b,R2x0c⟩:=R2x0.out
 obtain⟨R2x1a,R2x1b,R2x1c⟩:=R2x1.out
 obtain⟨R2x2a,R2x2b,R2x2c⟩:=R2x2.out
 obtain⟨N2a,N2b,N2c⟩:=N2.out
 go_wp2_with fail
 refine(KP.out _ (HT.out.grow B2.out)).mono ?_
 rintro e W3 ⟨rfl,hb3⟩
 clear R2x0a R2x0b R2x0c R2x1a R2x1b R2x1c R2x2a R2x2b R2x2c N2a N2b N2c
 have R3x0:=Lib.hid (R2x0.out.grow hb3)
 have R3x1:=Lib.hid (R2x1.out.grow hb3)
 have R3x2:=Lib.hid (R2x2.out.grow hb3)
 have R3x3:=Lib.hid (N2.out.grow hb3)
 have B3:=Lib.hid (B2.out.trans (hb3.mono B2.out.size))
 clear hb3 B2 R2x0 R2x1 R2x2 N2
 obtain⟨R3x0a,R3x0b,R3x0c⟩:=R3x0.out
 obtain⟨R3x1a,R3x1b,R3x1c⟩:=R3x1.out
 obtain⟨R3x2a,R3x2b,R3x2c⟩:=R3x2.out
 obtain⟨R3x3a,R3x3b,R3x3c⟩:=R3x3.out
 go_wp2_with fail
 have n_z_pv:z≠W3.heap.size:=Nat.ne_of_lt R3x0.out.2.2
 have n_y_pv:y≠W3.heap.size:=Nat.ne_of_lt R3x1.out.2.2
 have n_r_pv:r≠W3.heap.size:=Nat.ne_of_lt R3x2.out.2.2
 have n_sv_pv:sv≠W3.heap.size:=Nat.ne_of_lt R3x3.out.2.2
 have l_pv:w.heap.size≤W3.heap.size:=B3.out.size
 have hb4:=below_alloc (Below.refl W3.heap.size W3) (.cells (bysA P) 29)
 have N4:=Lib.hid (RowAt.of (block_new W3 (.cells (bysA P) 29)))
 have R4x0:=Lib.hid (R3x0.out.grow hb4)
 have R4x1:=Lib.hid (R3x1.out.grow hb4)
 have R4x2:=Lib.hid (R3x2.out.grow hb4)
 have R4x3:=Lib.hid (R3x3.out.grow hb4)
 have B4:=Lib.hid (B3.out.trans (hb4.mono B3.out.size))
 clear hb4 B3 R3x0 R3x1 R3x2 R3x3 R3x0a R3x0b R3x0c R3x1a R3x1b R3x1c R3x2a R3x2b R3x2c R3x3a R3x3b R3x3c
 generalize W3.heap.size=pv at *
 generalize W3.alloc (.cells (bysA P) 29)=W4 at *
 obtain⟨R4x0a,R4x0b,R4x0c⟩:=R4x0.out
 obtain⟨R4x1a,R4x1b,R4x1c⟩:=R4x1.out
 obtain⟨R4x2a,R4x2b,R4x2c⟩:=R4x2.out
 obtain⟨R4x3a,R4x3b,R4x3c⟩:=R4x3.out
 obtain⟨N4a,N4b,N4c⟩:=N4.out
 clear R4x0a R4x0b R4x0c R4x1a R4x1b R4x1c R4x2a R4x2b R4x2c R4x3a R4x3b R4x3c N4a N4b N4c
 refine wp_region_pickT W4 [0,1,2] [true,true,true] [3,4] (by kernel_rfl) (by kernel_rfl) (by intro c a d v w h;cases d<;>exact h) (by first | exact(Below.refl _ _).drew | exact Below.refl _ _) ?_
 simp only[pick,List.getElem?_cons_succ,List.getElem?_cons_zero]
 iterate 3 (refine wpHoldF_late (wanted_none rfl) (fun w=>by go_simp;rfl) ?_)
 refine wpHoldF_nil ?_
 intro W5 hb5
 have R5x0:=Lib.hid (R4x0.out.grow hb5)
 have R5x1:=Lib.hid (R4x1.out.grow hb5)
 have R5x2:=Lib.hid (R4x2.out.grow hb5)
 have R5x3:=Lib.hid (R4x3.out.grow hb5)
 have R5x4:=Lib.hid (N4.out.grow hb5)
 have B5:=Lib.hid (B4.out.trans (hb5.mono B4.out.size))
 clear hb5 B4 R4x0 R4x1 R4x2 R4x3 N4
 go_wp2_with fail
 have hBy:BytesAt W5 y 192 g:=by
  have:=(bytes_row R5x1.out).from 192
  rwa [hG.out,Nat.zero_add] at this
 by_cases h2:P=g
 ·rw[if_neg (fun h=>h h2)] at HE0
  rw[decide_eq_true h2] at KE
  clear h2
  refine(KE.out _ _ _ (Bs0.some (bytes_row R5x4.out)) (Bs0.some hBy)).mono ?_
  rintro e W6 ⟨rfl,hb6⟩
  have R6x0:=Lib.hid (R5x0.out.grow hb6)
  have R6x1:=Lib.hid (R5x1.out.grow hb6)
  have R6x2:=Lib.hid (R5x2.out.grow hb6)
  have R6x3:=Lib.hid (R5x3.out.grow hb6)
  have R6x4:=Lib.hid (R5x4.out.grow hb6)
  have B6:=Lib.hid (B5.out.trans (hb6.mono B5.out.size))
  clear hb6 B5 R5x0 R5x1 R5x2 R5x3 R5x4
  clear hBy
  obtain⟨R6x0a,R6x0b,R6x0c⟩:=R6x0.out
  obtain⟨R6x1a,R6x1b,R6x1c⟩:=R6x1.out
  obtain⟨R6x2a,R6x2b,R6x2c⟩:=R6x2.out
  obtain⟨R6x3a,R6x3b,R6x3c⟩:=R6x3.out
  obtain⟨R6x4a,R6x4b,R6x4c⟩:=R6x4.out
  go_wp2_with fail
  refine wp_region_pick W6 [0,1,2,3,4] [false,false,false,false,false] [5] [(99,bysA (zs 192))] 6 (by kernel_rfl) rfl (by kernel_rfl) (by intro c a d v w h;cases d<;>exact h) (by first | exact(Below.refl _ _).drew | exact Below.refl _ _) ?_
  simp only[pick,List.getElem?_cons_succ,List.getElem?_cons_zero,List.drop_succ_cons,List.drop_zero]
  refine wpHoldF_val (wanted_none rfl) (by intro K o d hK;go_simp;exact hK _ (Below.refl _ _)) ?_
  refine wpHoldF_val (wanted_none rfl) (by intro K o d hK;go_simp;exact hK _ (Below.refl _ _)) ?_
  refine wpHoldF_call (v:=.agg (bysA bz)) (wanted_none rfl) (by intro K o d hK;go_simp;refine(KWd.out _).mono ?_;rintro e w' ⟨rfl,hbw⟩;exact⟨_,rfl,hK _ hbw⟩) ?_
  refine wpHoldF_val (wanted_none rfl) (by intro K o d hK;go_simp;exact hK _ (Below.refl _ _)) ?_
  refine wpHoldF_call (v:=.agg (bysA O)) (wanted_none rfl) (by intro K o d hK;go_simp;refine(KT.out _ (HT.out.grow (below_plus_of _ _ _ B6.out B6.out.size))).mono ?_;rintro e w' ⟨rfl,hbw⟩;exact⟨_,rfl,hK _ hbw⟩) ?_
  refine wpHoldF_nil ?_
  refine⟨lays_wide _ rfl rfl,fun wv hg0 hn0=>?_⟩
  intro W7 hb7 hblk
  have n_z_wv:z≠wv:=by have:=R6x0.out.2.2;omega
  have n_y_wv:y≠wv:=by have:=R6x1.out.2.2;omega
  have n_r_wv:r≠wv:=by have:=R6x2.out.2.2;omega
  have n_sv_wv:sv≠wv:=by have:=R6x3.out.2.2;omega
  have n_pv_wv:pv≠wv:=by have:=R6x4.out.2.2;omega
  have l_wv:w.heap.size≤wv:=Nat.le_trans B6.out.size hg0
  have V7x0:=Lib.hid (RowAt.of (hblk 0 wv _ _ rfl rfl))
  clear hblk
  clear R6x0a R6x0b R6x0c R6x1a R6x1b R6x1c R6x2a R6x2b R6x2c R6x3a R6x3b R6x3c R6x4a R6x4b R6x4c
  have R7x0:=Lib.hid (R6x0.out.grow hb7)
  have R7x1:=Lib.hid (R6x1.out.grow hb7)
  have R7x2:=Lib.hid (R6x2.out.grow hb7)
  have R7x3:=Lib.hid (R6x3.out.grow hb7)
  have R7x4:=Lib.hid (R6x4.out.grow hb7)
  have B7:=Lib.hid (B6.out.trans (hb7.mono B6.out.size))
  clear hb7 B6 R6x0 R6x1 R6x2 R6x3 R6x4
  obtain⟨R7x0a,R7x0b,R7x0c⟩:=R7x0.out
  obtain⟨R7x1a,R7x1b,R7x1c⟩:=R7x1.out
  obtain⟨R7x2a,R7x2b,R7x2c⟩:=R7x2.out
  obtain⟨R7x3a,R7x3b,R7x3c⟩:=R7x3.out
  obtain⟨R7x4a,R7x4b,R7x4c⟩:=R7x4.out
  obtain⟨V7x0a,V7x0b,V7x0c⟩:=V7x0.out
  go_wp2_with fail
  have R8x0:=Lib.hid (R7x0.out.other n_z_wv (bysA O))
  have R8x1:=Lib.hid (R7x1.out.other n_y_wv (bysA O))
  have R8x2:=Lib.hid (R7x2.out.other n_r_wv (bysA O))
  have R8x3:=Lib.hid (R7x3.out.other n_sv_wv (bysA O))
  have R8x4:=Lib.hid (R7x4.out.other n_pv_wv (bysA O))
  have R8x5:=Lib.hid (V7x0.out.set (bysA O))
  have B8:=Lib.hid (below_setRow B7.out l_wv (bysA O))
  clear B7 R7x0 R7x1 R7x2 R7x3 R7x4 V7x0 R7x0a R7x0b R7x0c R7x1a R7x1b R7x1c R7x2a R7x2b R7x2c R7x3a R7x3b R7x3c R7x4a R7x4b R7x4c V7x0a V7x0b V7x0c
  generalize W7.setRow wv (bysA O)=W8 at *
  refine(KC.out _).mono ?_
  rintro e W9 ⟨rfl,hb9⟩
  have R9x0:=Lib.hid (R8x0.out.grow hb9)
  have R9x1:=Lib.hid (R8x1.out.grow hb9)
  have R9x2:=Lib.hid (R8x2.out.grow hb9)
  have R9x3:=Lib.hid (R8x3.out.grow hb9)
  have R9x4:=Lib.hid (R8x4.out.grow hb9)
  have R9x5:=Lib.hid (R8x5.out.grow hb9)
  have B9:=Lib.hid (B8.out.trans (hb9.mono B8.out.size))
  clear hb9 B8 R8x0 R8x1 R8x2 R8x3 R8x4 R8x5
  obtain⟨R9x0a,R9x0b,R9x0c⟩:=R9x0.out
  obtain⟨R9x1a,R9x1b,R9x1c⟩:=R9x1.out
  obtain⟨R9x2a,R9x2b,R9x2c⟩:=R9x2.out
  obtain⟨R9x3a,R9x3b,R9x3c⟩:=R9x3.out
  obtain⟨R9x4a,R9x4b,R9x4c⟩:=R9x4.out
  obtain⟨R9x5a,R9x5b,R9x5c⟩:=R9x5.out
  go_wp2_with fail
  rcases ok with _ | _
  ·rw[if_pos rfl] at HE0
   obtain rfl:er=5:=HE0.out
   obtain rfl:ans=.zero:=by rw[HAn.out,if_neg (show ¬(5:Int)=0 by decide)]
   have e5:=Hd1.out rfl
   subst e5
   clear HE0 HAn Hd0 Hd1
   refine(KD.out _).mono ?_
   rintro e W10 ⟨rfl,hb10⟩
   clear R9x0a R9x0b R9x0c R9x1a R9x1b R9x1c R9x2a R9x2b R9x2c R9x3a R9x3b R9x3c R9x4a R9x4b R9x4c R9x5a R9x5b R9x5c
   have R10x0:=Lib.hid (R9x0.out.grow hb10)
   have R10x1:=Lib.hid (R9x1.out.grow hb10)
   have R10x2:=Lib.hid (R9x2.out.grow hb10)
   have R10x3:=Lib.hid (R9x3.out.grow hb10)
   have R10x4:=Lib.hid (R9x4.out.grow hb10)
   have R10x5:=Lib.hid (R9x5.out.grow hb10)
   have B10:=Lib.hid (B9.out.trans (hb10.mono B9.out.size))
   clear hb10 B9 R9x0 R9x1 R9x2 R9x3 R9x4 R9x5
   obtain⟨R10x0a,R10x0b,R10x0c⟩:=R10x0.out
   obtain⟨R10x1a,R10x1b,R10x1c⟩:=R10x1.out
   obtain⟨R10x2a,R10x2b,R10x2c⟩:=R10x2.out
   obtain⟨R10x3a,R10x3b,R10x3c⟩:=R10x3.out
   obtain⟨R10x4a,R10x4b,R10x4c⟩:=R10x4.out
   obtain⟨R10x5a,R10x5b,R10x5c⟩:=R10x5.out
   go_wp2_with fail
   refine bodyPost_ret (v:=.tuple #[.agg (stepA .zero),.int .i64 5]) (results_step_slot Tryz.results18 hzz _ _ _ rfl (by go_simp) (by go_simp) rfl) rfl ⟨rfl,?_⟩
   first | exact below_setRow B10.out l_r _ | exact below_alloc (below_setRow B10.out l_r _) _ | exact below_setRow (below_setRow B10.out l_av _) l_r _
  ·rw[if_neg (by decide)] at HE0
   obtain⟨e1,e2⟩:=Hd0.out rfl
   subst e1 e2
   clear Hd0 Hd1
   by_cases h3:nn=0
   ·rw[if_pos h3] at HE0
    obtain rfl:er=7:=HE0.out
    obtain rfl:ans=.zero:=by rw[HAn.out,if_neg (show ¬(7:Int)=0 by decide)]
    rw[errOf_zero h3] at KN
    clear h3 HE0 HAn
    refine(KD.out _).mono ?_
    rintro e W10 ⟨rfl,hb10⟩
    clear R9x0a R9x0b R9x0c R9x1a R9x1b R9x1c R9x2a R9x2b R9x2c R9x3a R9x3b R9x3c R9x4a R9x4b R9x4c R9x5a R9x5b R9x5c
    have R10x0:=Lib.hid (R9x0.out.grow hb10)
    have R10x1:=Lib.hid (R9x1.out.grow hb10)
    have R10x2:=Lib.hid (R9x2.out.grow hb10)
    have R10x3:=Lib.hid (R9x3.out.grow hb10)
    have R10x4:=Lib.hid (R9x4.out.grow hb10)
    have R10x5:=Lib.hid (R9x5.out.grow hb10)
    have B10:=Lib.hid (B9.out.trans (hb10.mono B9.out.size))
    clear hb10 B9 R9x0 R9x1 R9x2 R9x3 R9x4 R9x5
    obtain⟨R10x0a,R10x0b,R10x0c⟩:=R10x0.out
    obtain⟨R10x1a,R10x1b,R10x1c⟩:=R10x1.out
    obtain⟨R10x2a,R10x2b,R10x2c⟩:=R10x2.out
    obtain⟨R10x3a,R10x3b,R10x3c⟩:=R10x3.out
    obtain⟨R10x4a,R10x4b,R10x4c⟩:=R10x4.out
    obtain⟨R10x5a,R10x5b,R10x5c⟩:=R10x5.out
    go_wp2_with fail
    have n_z_cv:z≠W10.heap.size:=Nat.ne_of_lt R10x0.out.2.2
    have n_y_cv:y≠W10.heap.size:=Nat.ne_of_lt R10x1.out.2.2
    have n_r_cv:r≠W10.heap.size:=Nat.ne_of_lt R10x2.out.2.2
    have n_sv_cv:sv≠W10.heap.size:=Nat.ne_of_lt R10x3.out.2.2
    have n_pv_cv:pv≠W10.heap.size:=Nat.ne_of_lt R10x4.out.2.2
    have n_wv_cv:wv≠W10.heap.size:=Nat.ne_of_lt R10x5.out.2.2
    have l_cv:w.heap.size≤W10.heap.size:=B10.out.size
    have hb11:=below_alloc (Below.refl W10.heap.size W10) (.cells (cmdA st.c) 51)
    have N11:=Lib.hid (RowAt.of (block_new W10 (.cells (cmdA st.c) 51)))
    have R11x0:=Lib.hid (R10x0.out.grow hb11)
    have R11x1:=Lib.hid (R10x1.out.grow hb11)
    have R11x2:=Lib.hid (R10x2.out.grow hb11)
    have R11x3:=Lib.hid (R10x3.out.grow hb11)
    have R11x4:=Lib.hid (R10x4.out.grow hb11)
    have R11x5:=Lib.hid (R10x5.out.grow hb11)
    have B11:=Lib.hid (B10.out.trans (hb11.mono B10.out.size))
    clear hb11 B10 R10x0 R10x1 R10x2 R10x3 R10x4 R10x5 R10x0a R10x0b R10x0c R10x1a R10x1b R10x1c R10x2a R10x2b R10x2c R10x3a R10x3b R10x3c R10x4a R10x4b R10x4c R10x5a R10x5b R10x5c
    generalize W10.heap.size=cv at *
    generalize W10.alloc (.cells (cmdA st.c) 51)=W11 at *
    obtain⟨R11x0a,R11x0b,R11x0c⟩:=R11x0.out
    obtain⟨R11x1a,R11x1b,R11x1c⟩:=R11x1.out
    obtain⟨R11x2a,R11x2b,R11x2c⟩:=R11x2.out
    obtain⟨R11x3a,R11x3b,R11x3c⟩:=R11x3.out
    obtain⟨R11x4a,R11x4b,R11x4c⟩:=R11x4.out
    obtain⟨R11x5a,R11x5b,R11x5c⟩:=R11x5.out
    obtain⟨N11a,N11b,N11c⟩:=N11.out
    refine wp_region_pick W11 [0,1,2,3,4,5,6,7,8,9] [false,false,false,false,false,false,false,false,false,true] [10] [(23,bysA (zs 32))] 11 (by kernel_rfl) rfl (by kernel_rfl) (by intro c a d v w h;cases d<;>exact h) (by first | exact(Below.refl _ _).drew | exact Below.refl _ _) ?_
    simp only[pick,List.getElem?_cons_succ,List.getElem?_cons_zero,List.drop_succ_cons,List.drop_zero]
    refine wpHoldF_val (wanted_none rfl) (by intro K o d hK;go_simp;exact hK _ (Below.refl _ _)) ?_
    refine wpHoldF_val (wanted_none rfl) (by intro K o d hK;go_simp;exact hK _ (Below.refl _ _)) ?_
    refine wpHoldF_val (wanted_none rfl) (by intro K o d hK;go_simp;exact hK _ (Below.refl _ _)) ?_
    refine wpHoldF_call (v:=.agg (bysA bl)) (wanted_none rfl) (by intro K o d hK;go_simp;refine(KB.out _ (HT.out.grow (below_plus_of _ _ _ B11.out B11.out.size))).mono ?_;rintro e w' ⟨rfl,hbw⟩;exact⟨_,rfl,hK _ hbw⟩) ?_
    refine wpHoldF_val (wanted_none rfl) (by intro K o d hK;go_simp;exact hK _ (Below.refl _ _)) ?_
    refine wpHoldF_val (wanted_none rfl) (by intro K o d hK;go_simp;exact hK _ (Below.refl _ _)) ?_
    refine wpHoldF_call (v:=.tuple #[.agg (bysA na),.int .i64 7]) (wanted_none rfl) (by intro K o d hK;go_simp;refine(KN.out _).mono ?_;rintro e w' ⟨rfl,hbw⟩;exact⟨_,rfl,hK _ hbw⟩) ?_
    refine wpHoldF_val (wanted_none rfl) (by intro K o d hK;go_simp;exact hK _ (Below.refl _ _)) ?_
    refine wpHoldF_val (wanted_none rfl) (by intro K o d hK;go_simp;exact hK _ (Below.refl _ _)) ?_
    refine wpHoldF_late (wanted_none rfl) (fun w=>by go_simp;rfl) ?_
    refine wpHoldF_nil ?_
    refine⟨lays_keyB _ rfl rfl,fun av hg0 hn0=>?_⟩
    intro W12 hb12 hblk
    have n_z_av:z≠av:=by have:=R11x0.out.2.2;omega
    have n_y_av:y≠av:=by have:=R11x1.out.2.2;omega
    have n_r_av:r≠av:=by have:=R11x2.out.2.2;omega
    have n_sv_av:sv≠av:=by have:=R11x3.out.2.2;omega
    have n_pv_av:pv≠av:=by have:=R11x4.out.2.2;omega
    have n_wv_av:wv≠av:=by have:=R11x5.out.2.2;omega
    have n_cv_av:cv≠av:=by have:=N11.out.2.2;omega
    have l_av:w.heap.size≤av:=Nat.le_trans B11.out.size hg0
    have V12x0:=Lib.hid (RowAt.of (hblk 0 av _ _ rfl rfl))
    clear hblk
    clear R11x0a R11x0b R11x0c R11x1a R11x1b R11x1c R11x2a R11x2b R11x2c R11x3a R11x3b R11x3c R11x4a R11x4b R11x4c R11x5a R11x5b R11x5c N11a N11b N11c
    have R12x0:=Lib.hid (R11x0.out.grow hb12)
    have R12x1:=Lib.hid (R11x1.out.grow hb12)
    have R12x2:=Lib.hid (R11x2.out.grow hb12)
    have R12x3:=Lib.hid (R11x3.out.grow hb12)
    have R12x4:=Lib.hid (R11x4.out.grow hb12)
    have R12x5:=Lib.hid (R11x5.out.grow hb12)
    have R12x6:=Lib.hid (N11.out.grow hb12)
    have B12:=Lib.hid (B11.out.trans (hb12.mono B11.out.size))
    clear hb12 B11 R11x0 R11x1 R11x2 R11x3 R11x4 R11x5 N11
    obtain⟨R12x0a,R12x0b,R12x0c⟩:=R12x0.out
    obtain⟨R12x1a,R12x1b,R12x1c⟩:=R12x1.out
    obtain⟨R12x2a,R12x2b,R12x2c⟩:=R12x2.out
    obtain⟨R12x3a,R12x3b,R12x3c⟩:=R12x3.out
    obtain⟨R12x4a,R12x4b,R12x4c⟩:=R12x4.out
    obtain⟨R12x5a,R12x5b,R12x5c⟩:=R12x5.out
    obtain⟨R12x6a,R12x6b,R12x6c⟩:=R12x6.out
    obtain⟨V12x0a,V12x0b,V12x0c⟩:=V12x0.out
    go_wp2_with fail
    refine bodyPost_ret (v:=.tuple #[.agg (stepA .zero),.int .i64 7]) (results_step_slot Tryz.results18 hzz _ _ _ rfl (by go_simp) (by go_simp) rfl) rfl ⟨rfl,?_⟩
    first | exact below_setRow B12.out l_r _ | exact below_alloc (below_setRow B12.out l_r _) _ | exact below_setRow (below_setRow B12.out l_av _) l_r _
   ·rw[if_neg h3] at HE0
    obtain rfl:er=0:=HE0.out
    obtain rfl:st=ans:=by rw[HAn.out,if_pos rfl]
    rw[errOf_ne h3] at KN
    clear h3 HE0 HAn
    refine(KD.out _).mono ?_
    rintro e W10 ⟨rfl,hb10⟩
    clear R9x0a R9x0b R9x0c R9x1a R9x1b R9x1c R9x2a R9x2b R9x2c R9x3a R9x3b R9x3c R9x4a R9x4b R9x4c R9x5a R9x5b R9x5c
    have R10x0:=Lib.hid (R9x0.out.grow hb10)
    have R10x1:=Lib.hid (R9x1.out.grow hb10)
    have R10x2:=Lib.hid (R9x2.out.grow hb10)
    have R10x3:=Lib.hid (R9x3.out.grow hb10)
    have R10x4:=Lib.hid (R9x4.out.grow hb10)
    have R10x5:=Lib.hid (R9x5.out.grow hb10)
    have B10:=Lib.hid (B9.out.trans (hb10.mono B9.out.size))
    clear hb10 B9 R9x0 R9x1 R9x2 R9x3 R9x4 R9x5
    obtain⟨R10x0a,R10x0b,R10x0c⟩:=R10x0.out
    obtain⟨R10x1a,R10x1b,R10x1c⟩:=R10x1.out
    obtain⟨R10x2a,R10x2b,R10x2c⟩:=R10x2.out
    obtain⟨R10x3a,R10x3b,R10x3c⟩:=R10x3.out
    obtain⟨R10x4a,R10x4b,R10x4c⟩:=R10x4.out
    obtain⟨R10x5a,R10x5b,R10x5c⟩:=R10x5.out
    go_wp2_with fail
    have n_z_cv:z≠W10.heap.size:=Nat.ne_of_lt R10x0.out.2.2
    have n_y_cv:y≠W10.heap.size:=Nat.ne_of_lt R10x1.out.2.2
    have n_r_cv:r≠W10.heap.size:=Nat.ne_of_lt R10x2.out.2.2
    have n_sv_cv:sv≠W10.heap.size:=Nat.ne_of_lt R10x3.out.2.2
    have n_pv_cv:pv≠W10.heap.size:=Nat.ne_of_lt R10x4.out.2.2
    have n_wv_cv:wv≠W10.heap.size:=Nat.ne_of_lt R10x5.out.2.2
    have l_cv:w.heap.size≤W10.heap.size:=B10.out.size
    have hb11:=below_alloc (Below.refl W10.heap.size W10) (.cells (cmdA st.c) 51)
    have N11:=Lib.hid (RowAt.of (block_new W10 (.cells (cmdA st.c) 51)))
    have R11x0:=Lib.hid (R10x0.out.grow hb11)
    have R11x1:=Lib.hid (R10x1.out.grow hb11)
    have R11x2:=Lib.hid (R10x2.out.grow hb11)
    have R11x3:=Lib.hid (R10x3.out.grow hb11)
    have R11x4:=Lib.hid (R10x4.out.grow hb11)
    have R11x5:=Lib.hid (R10x5.out.grow hb11)
    have B11:=Lib.hid (B10.out.trans (hb11.mono B10.out.size))
    clear hb11 B10 R10x0 R10x1 R10x2 R10x3 R10x4 R10x5 R10x0a R10x0b R10x0c R10x1a R10x1b R10x1c R10x2a R10x2b R10x2c R10x3a R10x3b R10x3c R10x4a R10x4b R10x4c R10x5a R10x5b R10x5c
    generalize W10.heap.size=cv at *
    generalize W10.alloc (.cells (cmdA st.c) 51)=W11 at *
    obtain⟨R11x0a,R11x0b,R11x0c⟩:=R11x0.out
    obtain⟨R11x1a,R11x1b,R11x1c⟩:=R11x1.out
    obtain⟨R11x2a,R11x2b,R11x2c⟩:=R11x2.out
    obtain⟨R11x3a,R11x3b,R11x3c⟩:=R11x3.out
    obtain⟨R11x4a,R11x4b,R11x4c⟩:=R11x4.out
    obtain⟨R11x5a,R11x5b,R11x5c⟩:=R11x5.out
    obtain⟨N11a,N11b,N11c⟩:=N11.out
    refine wp_region_pick W11 [0,1,2,3,4,5,6,7,8,9] [false,false,false,false,false,false,false,false,false,true] [10] [(23,bysA (zs 32))] 11 (by kernel_rfl) rfl (by kernel_rfl) (by intro c a d v w h;cases d<;>exact h) (by first | exact(Below.refl _ _).drew | exact Below.refl _ _) ?_
    simp only[pick,List.getElem?_cons_succ,List.getElem?_cons_zero,List.drop_succ_cons,List.drop_zero]
    refine wpHoldF_val (wanted_none rfl) (by intro K o d hK;go_simp;exact hK _ (Below.refl _ _)) ?_
    refine wpHoldF_val (wanted_none rfl) (by intro K o d hK;go_simp;exact hK _ (Below.refl _ _)) ?_
    refine wpHoldF_val (wanted_none rfl) (by intro K o d hK;go_simp;exact hK _ (Below.refl _ _)) ?_
    refine wpHoldF_call (v:=.agg (bysA bl)) (wanted_none rfl) (by intro K o d hK;go_simp;refine(KB.out _ (HT.out.grow (below_plus_of _ _ _ B11.out B11.out.size))).mono ?_;rintro e w' ⟨rfl,hbw⟩;exact⟨_,rfl,hK _ hbw⟩) ?_
    refine wpHoldF_val (wanted_none rfl) (by intro K o d hK;go_simp;exact hK _ (Below.refl _ _)) ?_
    refine wpHoldF_val (wanted_none rfl) (by intro K o d hK;go_simp;exact hK _ (Below.refl _ _)) ?_
    refine wpHoldF_call (v:=.tuple #[.agg (bysA na),.int .i64 0]) (wanted_none rfl) (by intro K o d hK;go_simp;refine(KN.out _).mono ?_;rintro e w' ⟨rfl,hbw⟩;exact⟨_,rfl,hK _ hbw⟩) ?_
    refine wpHoldF_val (wanted_none rfl) (by intro K o d hK;go_simp;exact hK _ (Below.refl _ _)) ?_
    refine wpHoldF_val (wanted_none rfl) (by intro K o d hK;go_simp;exact hK _ (Below.refl _ _)) ?_
    refine wpHoldF_late (wanted_none rfl) (fun w=>by go_simp;rfl) ?_
    refine wpHoldF_nil ?_
    refine⟨lays_keyB _ rfl rfl,fun av hg0 hn0=>?_⟩
    intro W12 hb12 hblk
    have n_z_av:z≠av:=by have:=R11x0.out.2.2;omega
    have n_y_av:y≠av:=by have:=R11x1.out.2.2;omega
    have n_r_av:r≠av:=by have:=R11x2.out.2.2;omega
    have n_sv_av:sv≠av:=by have:=R11x3.out.2.2;omega
    have n_pv_av:pv≠av:=by have:=R11x4.out.2.2;omega
    have n_wv_av:wv≠av:=by have:=R11x5.out.2.2;omega
    have n_cv_av:cv≠av:=by have:=N11.out.2.2;omega
    have l_av:w.heap.size≤av:=Nat.le_trans B11.out.size hg0
    have V12x0:=Lib.hid (RowAt.of (hblk 0 av _ _ rfl rfl))
    clear hblk
    clear R11x0a R11x0b R11x0c R11x1a R11x1b R11x1c R11x2a R11x2b R11x2c R11x3a R11x3b R11x3c R11x4a R11x4b R11x4c R11x5a R11x5b R11x5c N11a N11b N11c
    have R12x0:=Lib.hid (R11x0.out.grow hb12)
    have R12x1:=Lib.hid (R11x1.out.grow hb12)
    have R12x2:=Lib.hid (R11x2.out.grow hb12)
    have R12x3:=Lib.hid (R11x3.out.grow hb12)
    have R12x4:=Lib.hid (R11x4.out.grow hb12)
    have R12x5:=Lib.hid (R11x5.out.grow hb12)
    have R12x6:=Lib.hid (N11.out.grow hb12)
    have B12:=Lib.hid (B11.out.trans (hb12.mono B11.out.size))
    clear hb12 B11 R11x0 R11x1 R11x2 R11x3 R11x4 R11x5 N11
    obtain⟨R12x0a,R12x0b,R12x0c⟩:=R12x0.out
    obtain⟨R12x1a,R12x1b,R12x1c⟩:=R12x1.out
    obtain⟨R12x2a,R12x2b,R12x2c⟩:=R12x2.out
    obtain⟨R12x3a,R12x3b,R12x3c⟩:=R12x3.out
    obtain⟨R12x4a,R12x4b,R12x4c⟩:=R12x4.out
    obtain⟨R12x5a,R12x5b,R12x5c⟩:=R12x5.out
    obtain⟨R12x6a,R12x6b,R12x6c⟩:=R12x6.out
    obtain⟨V12x0a,V12x0b,V12x0c⟩:=V12x0.out
    go_wp2_with fail
    have R13x0:=Lib.hid (R12x0.out.other n_z_av (bysA na))
    have R13x1:=Lib.hid (R12x1.out.other n_y_av (bysA na))
    have R13x2:=Lib.hid (R12x2.out.other n_r_av (bysA na))
    have R13x3:=Lib.hid (R12x3.out.other n_sv_av (bysA na))
    have R13x4:=Lib.hid (R12x4.out.other n_pv_av (bysA na))
    have R13x5:=Lib.hid (R12x5.out.other n_wv_av (bysA na))
    have R13x6:=Lib.hid (R12x6.out.other n_cv_av (bysA na))
    have R13x7:=Lib.hid (V12x0.out.set (bysA na))
    have B13:=Lib.hid (below_setRow B12.out l_av (bysA na))
    clear B12 R12x0 R12x1 R12x2 R12x3 R12x4 R12x5 R12x6 V12x0 R12x0a R12x0b R12x0c R12x1a R12x1b R12x1c R12x2a R12x2b R12x2c R12x3a R12x3b R12x3c R12x4a R12x4b R12x4c R12x5a R12x5b R12x5c R12x6a R12x6b R12x6c V12x0a V12x0b V12x0c
    generalize W12.setRow av (bysA na)=W13 at *
    obtain⟨R13x0a,R13x0b,R13x0c⟩:=R13x0.out
    obtain⟨R13x1a,R13x1b,R13x1c⟩:=R13x1.out
    obtain⟨R13x2a,R13x2b,R13x2c⟩:=R13x2.out
    obtain⟨R13x3a,R13x3b,R13x3c⟩:=R13x3.out
    obtain⟨R13x4a,R13x4b,R13x4c⟩:=R13x4.out
    obtain⟨R13x5a,R13x5b,R13x5c⟩:=R13x5.out
    obtain⟨R13x6a,R13x6b,R13x6c⟩:=R13x6.out
    obtain⟨R13x7a,R13x7b,R13x7c⟩:=R13x7.out
    refine wp_region_pick W13 [0,1,2,3,4,5] [false,false,false,false,false,false] [6] [(31,bysA (zs 208))] 7 (by kernel_rfl) rfl (by kernel_rfl) (by intro c a d v w h;cases d<;>exact h) (by first | exact(Below.refl _ _).drew | exact Below.refl _ _) ?_
    simp only[pick,List.getElem?_cons_succ,List.getElem?_cons_zero,List.drop_succ_cons,List.drop_zero]
    refine wpHoldF_val (wanted_none rfl) (by intro K o d hK;go_simp;exact hK _ (Below.refl _ _)) ?_
    refine wpHoldF_val (wanted_none rfl) (by intro K o d hK;go_simp;exact hK _ (Below.refl _ _)) ?_
    refine wpHoldF_call (v:=.agg (bysA nb)) (wanted_none rfl) (by intro K o d hK;go_simp;refine(KNb.out _).mono ?_;rintro e w' ⟨rfl,hbw⟩;exact⟨_,rfl,hK _ hbw⟩) ?_
    refine wpHoldF_val (wanted_none rfl) (by intro K o d hK;go_simp;exact hK _ (Below.refl _ _)) ?_
    refine wpHoldF_call (v:=.agg (bysA ng)) (wanted_none rfl) (by intro K o d hK;go_simp;refine(KNg.out _).mono ?_;rintro e w' ⟨rfl,hbw⟩;exact⟨_,rfl,hK _ hbw⟩) ?_
    refine wpHoldF_val (wanted_none rfl) (by intro K o d hK;go_simp;exact hK _ (Below.refl _ _)) ?_
    refine wpHoldF_nil ?_
    refine⟨lays_hdr _ rfl rfl,fun nv hg0 hn0=>?_⟩
    intro W14 hb14 hblk
    have n_z_nv:z≠nv:=by have:=R13x0.out.2.2;omega
    have n_y_nv:y≠nv:=by have:=R13x1.out.2.2;omega
    have n_r_nv:r≠nv:=by have:=R13x2.out.2.2;omega
    have n_sv_nv:sv≠nv:=by have:=R13x3.out.2.2;omega
    have n_pv_nv:pv≠nv:=by have:=R13x4.out.2.2;omega
    have n_wv_nv:wv≠nv:=by have:=R13x5.out.2.2;omega
    have n_cv_nv:cv≠nv:=by have:=R13x6.out.2.2;omega
    have n_av_nv:av≠nv:=by have:=R13x7.out.2.2;omega
    have l_nv:w.heap.size≤nv:=Nat.le_trans B13.out.size hg0
    have V14x0:=Lib.hid (RowAt.of (hblk 0 nv _ _ rfl rfl))
    clear hblk
    clear R13x0a R13x0b R13x0c R13x1a R13x1b R13x1c R13x2a R13x2b R13x2c R13x3a R13x3b R13x3c R13x4a R13x4b R13x4c R13x5a R13x5b R13x5c R13x6a R13x6b R13x6c R13x7a R13x7b R13x7c
    have R14x0:=Lib.hid (R13x0.out.grow hb14)
    have R14x1:=Lib.hid (R13x1.out.grow hb14)
    have R14x2:=Lib.hid (R13x2.out.grow hb14)
    have R14x3:=Lib.hid (R13x3.out.grow hb14)
    have R14x4:=Lib.hid (R13x4.out.grow hb14)
    have R14x5:=Lib.hid (R13x5.out.grow hb14)
    have R14x6:=Lib.hid (R13x6.out.grow hb14)
    have R14x7:=Lib.hid (R13x7.out.grow hb14)
    have B14:=Lib.hid (B13.out.trans (hb14.mono B13.out.size))
    clear hb14 B13 R13x0 R13x1 R13x2 R13x3 R13x4 R13x5 R13x6 R13x7
    obtain⟨R14x0a,R14x0b,R14x0c⟩:=R14x0.out
    obtain⟨R14x1a,R14x1b,R14x1c⟩:=R14x1.out
    obtain⟨R14x2a,R14x2b,R14x2c⟩:=R14x2.out
    obtain⟨R14x3a,R14x3b,R14x3c⟩:=R14x3.out
    obtain⟨R14x4a,R14x4b,R14x4c⟩:=R14x4.out
    obtain⟨R14x5a,R14x5b,R14x5c⟩:=R14x5.out
    obtain⟨R14x6a,R14x6b,R14x6c⟩:=R14x6.out
    obtain⟨R14x7a,R14x7b,R14x7c⟩:=R14x7.out
    obtain⟨V14x0a,V14x0b,V14x0c⟩:=V14x0.out
    go_wp2_with fail
    have R15x0:=Lib.hid (R14x0.out.other n_z_nv (bysA Hn))
    have R15x1:=Lib.hid (R14x1.out.other n_y_nv (bysA Hn))
    have R15x2:=Lib.hid (R14x2.out.other n_r_nv (bysA Hn))
    have R15x3:=Lib.hid (R14x3.out.other n_sv_nv (bysA Hn))
    have R15x4:=Lib.hid (R14x4.out.other n_pv_nv (bysA Hn))
    have R15x5:=Lib.hid (R14x5.out.other n_wv_nv (bysA Hn))
    have R15x6:=Lib.hid (R14x6.out.other n_cv_nv (bysA Hn))
    have R15x7:=Lib.hid (R14x7.out.other n_av_nv (bysA Hn))
    have R15x8:=Lib.hid (V14x0.out.set (bysA Hn))
    have B15:=Lib.hid (below_setRow B14.out l_nv (bysA Hn))
    clear B14 R14x0 R14x1 R14x2 R14x3 R14x4 R14x5 R14x6 R14x7 V14x0 R14x0a R14x0b R14x0c R14x1a R14x1b R14x1c R14x2a R14x2b R14x2c R14x3a R14x3b R14x3c R14x4a R14x4b R14x4c R14x5a R14x5b R14x5c R14x6a R14x6b R14x6c R14x7a R14x7b R14x7c V14x0a V14x0b V14x0c
    generalize W14.setRow nv (bysA Hn)=W15 at *
    obtain⟨R15x0a,R15x0b,R15x0c⟩:=R15x0.out
    obtain⟨R15x1a,R15x1b,R15x1c⟩:=R15x1.out
    obtain⟨R15x2a,R15x2b,R15x2c⟩:=R15x2.out
    obtain⟨R15x3a,R15x3b,R15x3c⟩:=R15x3.out
    obtain⟨R15x4a,R15x4b,R15x4c⟩:=R15x4.out
    obtain⟨R15x5a,R15x5b,R15x5c⟩:=R15x5.out
    obtain⟨R15x6a,R15x6b,R15x6c⟩:=R15x6.out
    obtain⟨R15x7a,R15x7b,R15x7c⟩:=R15x7.out
    obtain⟨R15x8a,R15x8b,R15x8c⟩:=R15x8.out
    refine wp_region_pick W15 [0,1,2,3,4,5] [false,false,false,false,false,false] [] [] 6 (by kernel_rfl) rfl (by kernel_rfl) (by intro c a d v w h;cases d<;>exact h) (by first | exact(Below.refl _ _).drew | exact Below.refl _ _) ?_
    simp only[pick,List.getElem?_cons_succ,List.getElem?_cons_zero,List.drop_succ_cons,List.drop_zero]
    refine wpHoldF_val (wanted_none rfl) (by intro K o d hK;go_simp;exact hK _ (Below.refl _ _)) ?_
    refine wpHoldF_val (wanted_none rfl) (by intro K o d hK;go_simp;exact hK _ (Below.refl _ _)) ?_
    refine wpHoldF_val (wanted_none rfl) (by intro K o d hK;go_simp;exact hK _ (Below.refl _ _)) ?_
    refine wpHoldF_val (wanted_none rfl) (by intro K o d hK;go_simp;exact hK _ (Below.refl _ _)) ?_
    refine wpHoldF_call (v:=.agg (bysA tg)) (wanted_none rfl) (by intro K o d hK;go_simp;refine(KTg.out _ (HT.out.grow (below_plus_of _ _ _ B15.out B15.out.size))).mono ?_;rintro e w' ⟨rfl,hbw⟩;exact⟨_,rfl,hK _ hbw⟩) ?_
    refine wpHoldF_val (wanted_none rfl) (by intro K o d hK;go_simp;exact hK _ (Below.refl _ _)) ?_
    refine wpHoldF_nil ?_
    intro W16 hb16 hblk
    clear hblk
    clear R15x0a R15x0b R15x0c R15x1a R15x1b R15x1c R15x2a R15x2b R15x2c R15x3a R15x3b R15x3c R15x4a R15x4b R15x4c R15x5a R15x5b R15x5c R15x6a R15x6b R15x6c R15x7a R15x7b R15x7c R15x8a R15x8b R15x8c
    have R16x0:=Lib.hid (R15x0.out.grow hb16)
    have R16x1:=Lib.hid (R15x1.out.grow hb16)
    have R16x2:=Lib.hid (R15x2.out.grow hb16)
    have R16x3:=Lib.hid (R15x3.out.grow hb16)
    have R16x4:=Lib.hid (R15x4.out.grow hb16)
    have R16x5:=Lib.hid (R15x5.out.grow hb16)
    have R16x6:=Lib.hid (R15x6.out.grow hb16)
    have R16x7:=Lib.hid (R15x7.out.grow hb16)
    have R16x8:=Lib.hid (R15x8.out.grow hb16)
    have B16:=Lib.hid (B15.out.trans (hb16.mono B15.out.size))
    clear hb16 B15 R15x0 R15x1 R15x2 R15x3 R15x4 R15x5 R15x6 R15x7 R15x8
    obtain⟨R16x0a,R16x0b,R16x0c⟩:=R16x0.out
    obtain⟨R16x1a,R16x1b,R16x1c⟩:=R16x1.out
    obtain⟨R16x2a,R16x2b,R16x2c⟩:=R16x2.out
    obtain⟨R16x3a,R16x3b,R16x3c⟩:=R16x3.out
    obtain⟨R16x4a,R16x4b,R16x4c⟩:=R16x4.out
    obtain⟨R16x5a,R16x5b,R16x5c⟩:=R16x5.out
    obtain⟨R16x6a,R16x6b,R16x6c⟩:=R16x6.out
    obtain⟨R16x7a,R16x7b,R16x7c⟩:=R16x7.out
    obtain⟨R16x8a,R16x8b,R16x8c⟩:=R16x8.out
    go_wp2_with fail
    refine bodyPost_ret (v:=.tuple #[.agg (stepA st),.int .i64 0]) (results_step_slot Tryz.results18 hsts _ _ _ rfl (by go_simp) (by go_simp) rfl) rfl ⟨rfl,?_⟩
    exact below_setRow B16.out l_r _
 ·rw[if_pos h2] at HE0
  obtain rfl:er=6:=HE0.out
  rw[decide_eq_false h2] at KE
  obtain rfl:ans=.zero:=by rw[HAn.out,if_neg (show ¬(6:Int)=0 by decide)]
  clear h2 HE0 HAn
  refine(KE.out _ _ _ (Bs0.some (bytes_row R5x4.out)) (Bs0.some hBy)).mono ?_
  rintro e W6 ⟨rfl,hb6⟩
  have R6x0:=Lib.hid (R5x0.out.grow hb6)
  have R6x1:=Lib.hid (R5x1.out.grow hb6)
  have R6x2:=Lib.hid (R5x2.out.grow hb6)
  have R6x3:=Lib.hid (R5x3.out.grow hb6)
  have R6x4:=Lib.hid (R5x4.out.grow hb6)
  have B6:=Lib.hid (B5.out.trans (hb6.mono B5.out.size))
  clear hb6 B5 R5x0 R5x1 R5x2 R5x3 R5x4
  clear hBy
  obtain⟨R6x0a,R6x0b,R6x0c⟩:=R6x0.out
  obtain⟨R6x1a,R6x1b,R6x1c⟩:=R6x1.out
  obtain⟨R6x2a,R6x2b,R6x2c⟩:=R6x2.out
  obtain⟨R6x3a,R6x3b,R6x3c⟩:=R6x3.out
  obtain⟨R6x4a,R6x4b,R6x4c⟩:=R6x4.out
  go_wp2_with fail
  refine bodyPost_ret (v:=.tuple #[.agg (stepA .zero),.int .i64 6]) (results_step_slot Tryz.results18 hzz _ _ _ rfl (by go_simp) (by go_simp) rfl) rfl ⟨rfl,?_⟩
  first | exact below_setRow B6.out l_r _ | exact below_alloc (below_setRow B6.out l_r _) _ | exact below_setRow (below_setRow B6.out l_av _) l_r _
end Go.Proofs.YtddmjddlbhdcpaaGreatDoor

namespace Go.Proofs.YtddmjddlbhdcpaaGreatDoor
open Go.RowKit Go.Hold Go.Sh Go.Ch Go.Cm Go.Hd
set_option maxHeartbeats 1000000 in
set_option maxRecDepth 100000 in
theorem hencode_c (H:List Nat) (hH:H.length=208) (w:World) :
  Calls Tryz.prog 23 #[.agg (bysA H)] w fun e w'=>∃ v,e=.returned v∧OwnB w' w.heap.size v H∧Below w.heap.size w w':=by
 have hHs:=bysA_size' hH
 have Hl:=Lib.hid (show (H.take 32).length=32∧((H.drop 32).take 160).length=160∧((H.drop 192).take 16).length=16 from ⟨by simp[hH],by simp[hH],by simp[hH]⟩)
 have HJ:=Lib.hid (show H.take 32++(H.drop 32).take 160++(H.drop 192).take 16=H by
  rw[List.take_of_length_le (l:=H.drop 192) (by simp[hH]),List.append_assoc,show H.drop 192=(H.drop 32).drop 160 by rw[List.drop_drop],List.take_append_drop,List.take_append_drop])
 clear hH
 go_enter Tryz.func23,Tryz.ntmps23
 go_wp2_with fail
 generalize hW:World.alloc _ _=W0
 have R0x0:=Lib.hid (show RowAt W0 (w.heap.size) (bysA H) by rw[←hW];clear hW;exact⟨by go_simp,by first | (go_simp;done) | (go_simp;rfl),by go_simp⟩)
 have B0:=Lib.hid (show Below w.heap.size w W0 by rw[←hW];repeat (first | apply below_alloc | exact Below.refl _ _))
 clear hW
 have l_y:w.heap.size≤w.heap.size:=by omega
 obtain⟨y,ey⟩:∃ z,z=w.heap.size:=⟨_,rfl⟩
 rw[←ey] at R0x0  ⊢
 have l_y:w.heap.size≤y:=by rw[ey];exact Nat.le_refl _
 clear ey
 refine wp_region_pickT W0 [0,1,2,3,4,5] [true,true,true,true,true,true] [6,7,8] (by kernel_rfl) (by kernel_rfl) (by intro c a d v w h;cases d<;>exact h) (by first | exact(Below.refl _ _).drew | exact Below.refl _ _) ?_
 simp only[pick,List.getElem?_cons_succ,List.getElem?_cons_zero]
 iterate 6 (refine wpHoldF_late (wanted_none rfl) (fun w=>by go_simp;rfl) ?_)
 refine wpHoldF_nil ?_
 intro W1 hb1
 have R1x0:=Lib.hid (R0x0.out.grow hb1)
 have B1:=Lib.hid (B0.out.trans (hb1.mono B0.out.size))
 clear hb1 B0 R0x0
 go_wp2_with fail
 have hy:=(bytes_row R1x0.out)
 have hp1:BytesAt W1 y 0 (H.take 32):=by have:=hy.mid 0 32;rwa [Nat.add_zero,List.drop_zero] at this
 have hp2:BytesAt W1 y 32 ((H.drop 32).take 160):=by have:=hy.mid 32 160;rwa [Nat.zero_add] at this
 have hp3:BytesAt W1 y 192 ((H.drop 192).take 16):=by have:=hy.mid 192 16;rwa [Nat.zero_add] at this
 have BA:=below_alloc (Below.refl W1.heap.size W1) (.cells #[.slice (some ⟨y,0,none⟩) 32 32,.slice (some ⟨y,32,none⟩) 160 160,.slice (some ⟨y,192,none⟩) 16 16] 38)
 refine(concat3_c (RowAt.of (block_new W1 _)) Hl.out.1.symm Hl.out.2.1.symm Hl.out.2.2.symm (Bs0.some (hp1.grow BA)) (Bs0.some (hp2.grow BA)) (Bs0.some (hp3.grow BA)) (fun h=>by cases h) (fun h=>by cases h) (fun h=>by cases h) (by rw[Hl.out.1,Hl.out.2.1,Hl.out.2.2];decide)).mono ?_
 rintro e W9 ⟨v,rfl,hown,hb9⟩
 rw[HJ.out] at hown
 have B9:=Lib.hid (B1.out.trans ((BA.trans (hb9.mono BA.size)).mono B1.out.size))
 have O9:=Lib.hid (hown.base (Nat.le_trans B1.out.size BA.size))
 clear hy hp1 hp2 hp3 hown hb9 BA
 go_wp2_with fail
 go_ret
 exact⟨v,rfl,O9.out,B9.out⟩
end Go.Proofs.YtddmjddlbhdcpaaGreatDoor
