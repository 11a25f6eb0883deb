/-
  Part 13 of the texts behind the theorem.
-/
import Derived.Test.YtddmjddlbhdcpaaGreatDoorPart11
import Derived.Test.YtddmjddlbhdcpaaGreatDoorPart12
import Derived.Test.YtddmjddlbhdcpaaGreatDoorPart8
namespace Go.Proofs.YtddmjddlbhdcpaaGreatDoor
open Go.RowKit Go.Hold Go.Sh Go.Ch Go.Cm Go.Hd
def keyU (n:Nat):List Nat:=n::zs 31
@[go_sem ↓ high] theorem fold_bldKeyB (ps:Array (Nat × Value)):Instr.build 23 ps=bldA 23 ps:=rfl
theorem keyU_length (n:Nat):(keyU n).length=32:=by simp[keyU,zs]
theorem keyU_bts {n:Nat} (h:n<256):∀ i,(keyU n).getD i 0<256:=getD_lt fun x hx=>by
 rcases List.mem_cons.1 hx with rfl | hx
 ·exact h
 ·exact mem_lt (bts_zs 31) x hx
set_option maxRecDepth 100000 in
theorem run_bldKeyU (n:Nat) (w:World):(bldA 23 #[(0,.int .u8 (n:Int))]).run Tryz.prog w=.ok (.agg (bysA (keyU n))) w:=run_build w _ _ _ (by kernel_rfl)
set_option maxRecDepth 100000 in
theorem run_bldCmd2 (k n:Int) (w:World):(bldA 51 #[(0,.int .i64 k),(1,.int .i64 n)]).run Tryz.prog w=.ok (.agg (cmdA ⟨k,n,0,zs 8⟩)) w:=run_build w _ _ _ (by kernel_rfl)
theorem cells_hop (k:List Nat) (c:Cmd):cellsAll [.agg (bysA k),.agg (cmdA c)]=(hopA k c).toList:=by
 show (bysA k).toList++((cmdA c).toList++[])=_
 unfold hopA
 rw[List.append_nil,Array.toList_append]
set_option maxRecDepth 100000 in
theorem run_bldHop {k:List Nat} {c:Cmd} (hk:k.length=32) (hc:c.id.length=8) (w:World):(bldA 77 #[(0,.agg (bysA k)),(1,.agg (cmdA c))]).run Tryz.prog w=.ok (.agg (hopA k c)) w:=by
 have s0:(bysA k).size=32:=by rw[bysA_size,hk]
 have s1:(cmdA c).size=11:=cmdA_size hc
 have:=run_build_all (P:=Tryz.prog) Tryz.underlying77 w [.agg (bysA k),.agg (cmdA c)]
  (by rw[cells_hop,Array.length_toList,hopA_size hk hc];kernel_rfl)
  (by simp only[offs,Value.cells,s0,s1];kernel_rfl) #[(0,.agg (bysA k)),(1,.agg (cmdA c))] rfl
 rw[cells_hop,Array.toArray_toList] at this
 exact this
def bldHs (n:Nat) (ps:Array (Nat × Value)):Sem Value:=Instr.buildSlice 36 n ps
@[go_sem ↓ high] theorem fold_bldHs (n:Nat) (ps:Array (Nat × Value)):Instr.buildSlice 36 n ps=bldHs n ps:=rfl
def hopZ:Array Value:=hopA (zs 32) .zero
set_option maxRecDepth 100000 in
theorem info_hop:(Tryz.prog.info? 77).map (fun i=>(i.zero,i.size))=some (some (.agg hopZ),43):=by kernel_rfl
theorem run_bldHs2 {k k':List Nat} {c c':Cmd} (hk:k.length=32) (hc:c.id.length=8) (hk':k'.length=32) (hc':c'.id.length=8) (w:World):(bldHs 2 #[(0,.agg (hopA k c)),(1,.agg (hopA k' c'))]).run Tryz.prog w=.ok (.slice (some ⟨w.heap.size,0,none⟩) 2 2) (w.alloc (.cells (hopA k c++hopA k' c') 77)):=by
 obtain⟨Y,hY⟩:∃ Y,(Tryz.prog.info? 77).map (fun i=>(i.zero,i.size,i.bytes))=some (some (.agg hopZ),43,Y):=by
  have:=info_hop
  cases h:Tryz.prog.info? 77 with
  | none=>rw[h] at this;cases this
  | some i =>
   rw[h] at this
   simp only[Option.map_some,Option.some.injEq,Prod.mk.injEq] at this
   exact⟨i.bytes,by rw[Option.map_some,this.1,this.2]⟩
 have:=run_bldRows (P:=Tryz.prog) Tryz.underlying36 hY [.agg (hopA k c),.agg (hopA k' c')] (fun v hv=>by
  rcases List.mem_cons.1 hv with rfl | hv
  ·exact hopA_size hk hc
  ·rw[List.mem_singleton.1 hv];exact hopA_size hk' hc') (rfl:_=2) (by decide) (by decide) #[(0,.agg (hopA k c)),(1,.agg (hopA k' c'))] rfl w
 rwa [show (cellsAll [.agg (hopA k c),.agg (hopA k' c')]).toArray=hopA k c++hopA k' c' by
  show ((hopA k c).toList++((hopA k' c').toList++[])).toArray=_
  rw[List.append_nil,←Array.toList_append,Array.toArray_toList]] at this
theorem rowsAt_row {C:Nat} {w:World} {g:Nat} {ls:List (Array Value)} (h:RowAt w g (flatR ls).toArray) (hs:∀ x∈ls,x.size=C):RowsAt C w (some ⟨g,0,none⟩) ls:=fun i x hx=>by
 refine⟨g,0,rfl,h.2.2,fun j v hv=>?_⟩
 have hxs:x.size=C:=hs x (List.mem_of_getElem? hx)
 have hj:j<C:=by
  have:=(List.getElem?_eq_some_iff.1 hv).1
  simpa [hxs] using this
 have:=flatR_get hs i j x hx hj
 rw[Nat.zero_add]
 exact h.cellAt _ (by rw[List.getElem?_toArray,this,←Array.getElem?_toList,hv])
theorem flat_two (a b:Array Value):(flatR [a,b]).toArray=a++b:=by
 show (a.toList++(b.toList++[])).toArray=_
 rw[List.append_nil,←Array.toList_append,Array.toArray_toList]
theorem own_load1 {w:World} {B gs n cs:Nat} {s t:List Nat} {sr:List (List Nat)} (h:OwnR w B 23 32 (.slice (some ⟨gs,0,none⟩) n cs) ((s::t::sr).map bysA)) (ht:t.length=32) :
  (loadRow 23 (.pointer (some ⟨gs,32,none⟩))).run Tryz.prog w=.ok (.agg (bysA t)) w:=by
 obtain⟨g',o',e,_,hl⟩:=h.rows.load Tryz.underlying23 rfl (by kernel_rfl) (i:=1) (x:=bysA t) rfl (by rw[bysA_size,ht])
 obtain⟨p',c',e2,_,_,_,hp⟩:=h.form
 obtain⟨g2,rfl,_⟩:=hp (by simp)
 cases e2;cases e
 simpa using hl
theorem sl_hops (a:Option Addr) (len cap n:Nat) (h:n≤cap) (w:World):(Instr.sliceAt 36 (.slice a len cap) none (some (.int .i64 (n:Int))) none).run Tryz.prog w=.ok (.slice a n cap) w:=by
 have hu:Tryz.prog.underlying 36=some (.slice (Tryz.prog.elem 36)):=by kernel_rfl
 have hs:(sizeOf (Tryz.prog.elem 36)).run Tryz.prog w=.ok 43 w:=by kernel_rfl
 rw[run_sliceAt_slice _ _ _ _ _ _ hu,run_slice_h _ _ _ _ _ hu _ _ (by omega) (by omega),hs]
 cases a<;>simp[sliced,Result.andThen,Addr.add]
theorem hopR_two (o1 o2:List Nat) (c1 c2:Cmd):hopR (hopsOf [o1,o2] [c1,c2])=[hopA (puB o1) c1,hopA (puB o2) c2]:=rfl
theorem hops_ok {o1 o2:List Nat} {c1 c2:Cmd} (h1:c1.id=zs 8) (h2:c2.id=zs 8):∀ h∈hopsOf [o1,o2] [c1,c2],HopOk h:=fun h hh=>by
 have e:hopsOf [o1,o2] [c1,c2]=[⟨puB o1,c1⟩,⟨puB o2,c2⟩]:=rfl
 rw[e] at hh
 rcases List.mem_cons.1 hh with rfl | hh
 ·exact⟨puB_length _,puB_bts _,by rw[h1];rfl,by rw[h1];exact bts_zs 8⟩
 ·rw[List.mem_singleton.1 hh];exact⟨puB_length _,puB_bts _,by rw[h2];rfl,by rw[h2];exact bts_zs 8⟩
theorem two_rows {o1 o2:List Nat} {c1 c2:Cmd} (h1:c1.id=zs 8) (h2:c2.id=zs 8) {W:World} {v:Nat} (h:RowAt W v (hopA (puB o1) c1++hopA (puB o2) c2)):RowsAt 43 W (some ⟨v,0,none⟩) (hopR (hopsOf [o1,o2] [c1,c2])):=by
 rw[hopR_two]
 refine rowsAt_row (by rw[flat_two];exact h) fun z hz=>?_
 rcases List.mem_cons.1 hz with rfl | hz
 ·exact hopA_size (puB_length _) (by rw[h1];rfl)
 ·rw[List.mem_singleton.1 hz];exact hopA_size (puB_length _) (by rw[h2];rfl)
theorem two_one {o1 o2:List Nat} {c1 c2:Cmd} {W:World} {q:Option Addr} (h:RowsAt 43 W q (hopR (hopsOf [o1,o2] [c1,c2]))):RowsAt 43 W q (hopR [⟨puB o1,c1⟩]):=h.take 1
theorem two_cmd0 {o1 o2:List Nat} {c1 c2:Cmd} (h1:c1.id=zs 8) (h2:c2.id=zs 8) {W:World} {v:Nat} (h:RowsAt 43 W (some ⟨v,0,none⟩) (hopR (hopsOf [o1,o2] [c1,c2]))):(loadRow 51 (.pointer (some ⟨v,32,none⟩))).run Tryz.prog W=.ok (.agg (cmdA c1)) W:=by
 have hm:(hopsOf [o1,o2] [c1,c2])[0]?=some ⟨puB o1,c1⟩:=rfl
 obtain⟨g',o',e,_,hl⟩:=loadHopCmd h hm (hops_ok h1 h2 _ (List.mem_of_getElem? hm))
 cases e
 simpa using hl
theorem two_cmd1 {o1 o2:List Nat} {c1 c2:Cmd} (h1:c1.id=zs 8) (h2:c2.id=zs 8) {W:World} {v:Nat} (h:RowsAt 43 W (some ⟨v,0,none⟩) (hopR (hopsOf [o1,o2] [c1,c2]))):(loadRow 51 (.pointer (some ⟨v,75,none⟩))).run Tryz.prog W=.ok (.agg (cmdA c2)) W:=by
 have hm:(hopsOf [o1,o2] [c1,c2])[1]?=some ⟨puB o2,c2⟩:=rfl
 obtain⟨g',o',e,_,hl⟩:=loadHopCmd h hm (hops_ok h1 h2 _ (List.mem_of_getElem? hm))
 cases e
 simpa using hl
def C1:Cmd:=(Cmd.mk 1 3 1 (zs 8))
def C2:Cmd:=(Cmd.mk 2 5 0 (zs 8))
theorem two_pure:∃ (H a b g s0 s1:List Nat) (x y:Stp) (a' b' g':List Nat),hbH (keyU 9) (hopsOf [keyU 1,keyU 2] [C1,C2])=H∧hbK (keyU 9) (hopsOf [keyU 1,keyU 2] [C1,C2])=[s0,s1]∧hbE (keyU 9) (hopsOf [keyU 1,keyU 2] [C1,C2])=0
  ∧ HdParts H a b g∧unwE (keyU 1) a b g=0∧unwV (keyU 1) a b g=x∧StpOk x∧x.c=C1∧x.s=s0∧HdParts x.nx a' b' g'∧unwE (keyU 2) a' b' g'=0∧unwV (keyU 2) a' b' g'=y∧StpOk y∧y.c=C2∧y.s=s1:=by
 have hr:isRt (hopsOf [keyU 1,keyU 2] [C1,C2])=true:=by
  show (decide (1≤2∧2≤5) && (okAt 2 0 C1 && (okAt 2 1 C2 && true)))=true
  decide
 obtain⟨ss,hw,hl,hK,hE,hH⟩:=built (x:=keyU 9) (os:=[keyU 1,keyU 2]) (cs:=[C1,C2]) rfl hr
 match ss,hl with
 | [s0,s1],_ =>
  have hid:∀ d∈[C1,C2],d.id.length=8:=fun d hd=>by
   rcases List.mem_cons.1 hd with rfl | hd
   ·rfl
   ·rw[List.mem_singleton.1 hd];rfl
  have hib:∀ d∈[C1,C2],∀ i,d.id.getD i 0<256:=fun d hd=>by
   rcases List.mem_cons.1 hd with rfl | hd
   ·exact bts_zs 8
   ·rw[List.mem_singleton.1 hd];exact bts_zs 8
  have h0:=On.start (x:=keyU 9) (os:=[keyU 1,keyU 2]) (cs:=[C1,C2]) rfl hr hid hib hw rfl hH
  obtain⟨x,e1,e2,e3,e4,e5,h1⟩:=h0.step
  obtain⟨y,f1,f2,f3,f4,f5,_⟩:=h1.step
  exact⟨_,_,_,_,s0,s1,x,y,_,_,_,rfl,hK,hE,h0.parts rfl,e1,e2,e3,e4,e5,h1.parts rfl,f1,f2,f3,f4,f5⟩
theorem one_bad:isRt [⟨puB (keyU 1),C1⟩]=false:=by
 show (decide (1≤1∧1≤5) && (okAt 1 0 C1 && true))=false
 decide
set_option maxHeartbeats 4000000 in
set_option maxRecDepth 100000 in
theorem alive10_c (w:World) (hT:Tabs w):Calls Tryz.prog 10 #[] w fun e w'=>e=.returned (.bool true)∧Below w.heap.size w w':=by
 have HT:=Lib.hid hT
 obtain⟨H,a,b,g,s0,s1,x,y,a',b',g',hH,hK,hE,hp,hx1,hx2,hx3,hx4,hx5,hp',hy1,hy2,hy3,hy4,hy5⟩:=two_pure
 have hl1:=keyU_length 1
 have hl2:=keyU_length 2
 have hl9:=keyU_length 9
 have hb1:=keyU_bts (n:=1) (by decide)
 have hb2:=keyU_bts (n:=2) (by decide)
 have hb9:=keyU_bts (n:=9) (by decide)
 have hok:=hops_ok (o1:=keyU 1) (o2:=keyU 2) (c1:=C1) (c2:=C2) rfl rfl
 have KB:=Lib.hid (fun (W:World) (h:Tabs W) (q:Option Addr) (hq:RowsAt 43 W q (hopR (hopsOf [keyU 1,keyU 2] [C1,C2])))=>build_c (keyU 9) _ q 2 2 hl9 hb9 hok rfl W h hq)
 rw[hH,hK,hE] at KB
 have KB1:=Lib.hid (fun (W:World) (q:Option Addr) (hq:RowsAt 43 W q (hopR [⟨puB (keyU 1),C1⟩]))=>build_bad (keyU 9) [⟨puB (keyU 1),C1⟩] q 1 2 hl9 (fun h hh=>by rw[List.mem_singleton.1 hh];exact⟨puB_length _,puB_bts _,rfl,bts_zs 8⟩) rfl one_bad W hq)
 have KU1:=Lib.hid (fun (W:World) (h:Tabs W)=>unwrap_c (keyU 1) a b g hl1 hb1 hp.al hp.ab hp.bl hp.bb hp.gl hp.gb W h)
 have KU2:=Lib.hid (fun (W:World) (h:Tabs W)=>unwrap_c (keyU 2) a' b' g' hl2 hb2 hp'.al hp'.ab hp'.bl hp'.bb hp'.gl hp'.gb W h)
 rw[hx1,hx2,←hp.eq] at KU1
 rw[hy1,hy2,←hp'.eq] at KU2
 have KE:=Lib.hid (fun (W:World)=>hencode_c H hp.len W)
 have hHs:=bysA_size' hp.len
 have HHl:=Lib.hid hp.len
 have hns:=bysA_size' hp'.len
 have hxs:=stepA_size hx3
 have hys:=stepA_size hy3
 have hsl0:s0.length=32:=by rw[←hx5];exact hx3.s
 have hsl1:s1.length=32:=by rw[←hy5];exact hy3.s
 have Hs:=Lib.hid (And.intro hsl0 hsl1)
 have hs0s:=bysA_size' hsl0
 have hs1s:=bysA_size' hsl1
 have KP1:=Lib.hid (fun (W:World)=>bpublic_c (keyU 1) hl1 hb1 W)
 have KP2:=Lib.hid (fun (W:World)=>bpublic_c (keyU 2) hl2 hb2 W)
 have hq1:=puB_length (keyU 1)
 have hq2:=puB_length (keyU 2)
 have hq1s:=bysA_size' hq1
 have hq2s:=bysA_size' hq2
 have hks1:=bysA_size' hl1
 have hks2:=bysA_size' hl2
 have hks9:=bysA_size' hl9
 have hi1:C1.id.length=8:=rfl
 have hi2:C2.id.length=8:=rfl
 have hhz1:=hopA_size hq1 hi1
 have hhz2:=hopA_size hq2 hi2
 have hcs1:=cmdA_size hi1
 have hcs2:=cmdA_size hi2
 have hbh1:=fun W=>run_bldHop hq1 hi1 W
 have hbh2:=fun W=>run_bldHop hq2 hi2 W
 have hbs:=fun W=>run_bldHs2 hq1 hi1 hq2 hi2 W
 have HQ:=Lib.hid (fun (W:World) (v:Nat) (h:RowAt W v (hopA (puB (keyU 1)) C1++hopA (puB (keyU 2)) C2))=>two_rows (c1:=C1) (c2:=C2) rfl rfl h)
 have HQ1:=Lib.hid (fun (W:World) (q:Option Addr) (h:RowsAt 43 W q (hopR (hopsOf [keyU 1,keyU 2] [C1,C2])))=>two_one h)
 have HC0:=Lib.hid (fun (W:World) (v:Nat) (h:RowsAt 43 W (some ⟨v,0,none⟩) (hopR (hopsOf [keyU 1,keyU 2] [C1,C2])))=>two_cmd0 (c1:=C1) (c2:=C2) rfl rfl h)
 have HC1:=Lib.hid (fun (W:World) (v:Nat) (h:RowsAt 43 W (some ⟨v,0,none⟩) (hopR (hopsOf [keyU 1,keyU 2] [C1,C2])))=>two_cmd1 (c1:=C1) (c2:=C2) rfl rfl h)
 have hbk1:∀ W,(bldA 23 #[(0,.int .u8 1)]).run Tryz.prog W=.ok (.agg (bysA (keyU 1))) W:=run_bldKeyU 1
 have hbk2:∀ W,(bldA 23 #[(0,.int .u8 2)]).run Tryz.prog W=.ok (.agg (bysA (keyU 2))) W:=run_bldKeyU 2
 have hbk9:∀ W,(bldA 23 #[(0,.int .u8 9)]).run Tryz.prog W=.ok (.agg (bysA (keyU 9))) W:=run_bldKeyU 9
 have hbc1:∀ W,(bldA 51 #[(0,.int .i64 1),(1,.int .i64 3),(2,.int .i64 1)]).run Tryz.prog W=.ok (.agg (cmdA C1)) W:=run_bldCmd3 1 3 1
 have hbc2:∀ W,(bldA 51 #[(0,.int .i64 2),(1,.int .i64 5)]).run Tryz.prog W=.ok (.agg (cmdA C2)) W:=run_bldCmd2 2 5
 have hslh:∀ (q:Option Addr) W,(Instr.sliceAt 36 (.slice q 2 2) none (some (.int .i64 1)) none).run Tryz.prog W=.ok (.slice q 1 2) W:=fun q W=>sl_hops q 2 2 1 (by decide) W
 have hz208:=bysA_size' (zs_length 208)
 have hzst:=stepA_size stpOk_zero
 have hb11:=beqC_self C1
 have hb22:=beqC_self C2
 have HX:=Lib.hid hx3
 have HY:=Lib.hid hy3
 have HXE:=Lib.hid (And.intro hx4 (And.intro hx5 (And.intro hy4 hy5)))
 clear hT hH hK hE hp hp' hx1 hx2 hx4 hx5 hy1 hy2 hy4 hy5 hok hl1 hl2 hl9 hb1 hb2 hb9 hq1 hq2 hsl0 hsl1
 generalize hopR (hopsOf [keyU 1,keyU 2] [C1,C2])=HL at *
 generalize hopR [⟨puB (keyU 1),C1⟩]=HL1 at *
 generalize hopA (puB (keyU 1)) C1++hopA (puB (keyU 2)) C2=HH at *
 generalize hopA (puB (keyU 1)) C1=h1 at *
 generalize hopA (puB (keyU 2)) C2=h2 at *
 generalize puB (keyU 1)=p1 at *
 generalize puB (keyU 2)=p2 at *
 generalize keyU 1=k1 at *
 generalize keyU 2=k2 at *
 generalize keyU 9=k9 at *
 generalize C1=D1 at *
 generalize C2=D2 at *
 go_enter Tryz.func10,Tryz.ntmps10
 go_wp2_with fail
 generalize hW:World.alloc _ _=W0
 have R0x0:=Lib.hid (show RowAt W0 (w.heap.size) (bysA k1) by rw[←hW];clear hW;exact⟨by go_simp,by first | (go_simp;done) | (go_simp;rfl),by go_simp⟩)
 have R0x1:=Lib.hid (show RowAt W0 (w.heap.size+1) (bysA k2) by rw[←hW];clear hW;exact⟨by go_simp,by first | (go_simp;done) | (go_simp;rfl),by go_simp⟩)
 have B0:=Lib.hid (show Below w.heap.size w W0 by rw[←hW];repeat (first | apply below_alloc | exact Below.refl _ _))
 clear hW
 have l_v1:w.heap.size≤w.heap.size:=by omega
 have l_v2:w.heap.size≤w.heap.size+1:=by omega
 have n_v1_v2:w.heap.size≠w.heap.size+1:=by omega
 generalize w.heap.size+1=v2 at *
 obtain⟨v1,ev1⟩:∃ z,z=w.heap.size:=⟨_,rfl⟩
 rw[←ev1] at R0x0 n_v1_v2 ⊢
 have l_v1:w.heap.size≤v1:=by rw[ev1];exact Nat.le_refl _
 clear ev1
 obtain⟨R0x0a,R0x0b,R0x0c⟩:=R0x0.out
 obtain⟨R0x1a,R0x1b,R0x1c⟩:=R0x1.out
 refine wp_region_pick W0 [0,1,2,3,4,5,6,7] [false,false,false,false,false,false,false,false] [] [] 8 (by kernel_rfl) rfl (by kernel_rfl) (by intro c a d v w h;cases d<;>exact h) (by first | exact(Below.refl _ _).drew | exact Below.refl _ _) ?_
 simp only[pick,List.getElem?_cons_succ,List.getElem?_cons_zero,List.drop_succ_cons,List.drop_zero]
 refine wpHoldF_val (wanted_none rfl) (by intro K o d hK;go_simp;exact hK _ (Below.refl _ _)) ?_
 refine wpHoldF_call (v:=.agg (bysA p1)) (wanted_none rfl) (by intro K o d hK;go_simp;refine(KP1.out _).mono ?_;rintro e w' ⟨rfl,hbw⟩;exact⟨_,rfl,hK _ hbw⟩) ?_
 refine wpHoldF_val (wanted_none rfl) (by intro K o d hK;go_simp;exact hK _ (Below.refl _ _)) ?_
 refine wpHoldF_val (wanted_none rfl) (by intro K o d hK;go_simp;exact hK _ (Below.refl _ _)) ?_
 refine wpHoldF_val (wanted_none rfl) (by intro K o d hK;go_simp;exact hK _ (Below.refl _ _)) ?_
 refine wpHoldF_call (v:=.agg (bysA p2)) (wanted_none rfl) (by intro K o d hK;go_simp;refine(KP2.out _).mono ?_;rintro e w' ⟨rfl,hbw⟩;exact⟨_,rfl,hK _ hbw⟩) ?_
 refine wpHoldF_val (wanted_none rfl) (by intro K o d hK;go_simp;exact hK _ (Below.refl _ _)) ?_
 refine wpHoldF_val (wanted_none rfl) (by intro K o d hK;go_simp;exact hK _ (Below.refl _ _)) ?_
 refine wpHoldF_nil ?_
 intro W1 hb1 hblk
 clear hblk
 clear R0x0a R0x0b R0x0c R0x1a R0x1b R0x1c
 have R1x0:=Lib.hid (R0x0.out.grow hb1)
 have R1x1:=Lib.hid (R0x1.out.grow hb1)
 have B1:=Lib.hid (B0.out.trans (hb1.mono B0.out.size))
 clear hb1 B0 R0x0 R0x1
 obtain⟨R1x0a,R1x0b,R1x0c⟩:=R1x0.out
 obtain⟨R1x1a,R1x1b,R1x1c⟩:=R1x1.out
 go_wp2_with fail
 have n_v1_hv:v1≠W1.heap.size:=Nat.ne_of_lt R1x0.out.2.2
 have n_v2_hv:v2≠W1.heap.size:=Nat.ne_of_lt R1x1.out.2.2
 have l_hv:w.heap.size≤W1.heap.size:=B1.out.size
 have hb2:=below_alloc (Below.refl W1.heap.size W1) (.cells (HH) 77)
 have N2:=Lib.hid (RowAt.of (block_new W1 (.cells (HH) 77)))
 have R2x0:=Lib.hid (R1x0.out.grow hb2)
 have R2x1:=Lib.hid (R1x1.out.grow hb2)
 have B2:=Lib.hid (B1.out.trans (hb2.mono B1.out.size))
 clear hb2 B1 R1x0 R1x1 R1x0a R1x0b R1x0c R1x1a R1x1b R1x1c
 generalize W1.heap.size=hv at *
 generalize W1.alloc (.cells (HH) 77)=W2 at *
 have HR:=Lib.hid (HQ.out _ hv N2.out)
 have HRW:=Lib.hid (fun (W:World) (hb:Below W2.heap.size W2 W)=>HR.out.grow hb)
 clear HR
 have HRB:=Lib.hid (Below.refl W2.heap.size W2)
 obtain⟨WH,eWH⟩:∃ z,z=W2:=⟨_,rfl⟩
 rw[←eWH] at HRW HRB
 have Z0:=Lib.hid (show Below WH.heap.size WH W2 by rw[eWH];exact Below.refl _ _)
 clear HRB eWH
 refine(KB.out _ (HT.out.grow B2.out) _ (HRW.out _ Z0.out)).mono ?_
 rintro e W3 ⟨v,rfl,hv0,hb3⟩
 have Z3:=Lib.hid (Z0.out.trans (hb3.mono Z0.out.size))
 clear Z0
 have R3x0:=Lib.hid (R2x0.out.grow hb3)
 have R3x1:=Lib.hid (R2x1.out.grow hb3)
 have B3:=Lib.hid (B2.out.trans (hb3.mono B2.out.size))
 clear hb3 B2 R2x0 R2x1
 obtain⟨ps,cs,rfl,hro,hcl,hx1,hpa⟩:=OwnR.form hv0
 clear hx1 hro
 obtain⟨gs,rfl,hgs⟩:=hpa (by simp)
 rw[show ([s0,s1].map bysA).length=2 from rfl] at hcl hv0 ⊢
 have HV:=Lib.hid hv0
 clear hv0 hcl hpa hgs
 obtain⟨R3x0a,R3x0b,R3x0c⟩:=R3x0.out
 obtain⟨R3x1a,R3x1b,R3x1c⟩:=R3x1.out
 go_wp2_with fail
 have m0_hd:(Value.slice (some ⟨gs,0,none⟩) 2 cs).ownBlock≠some W3.heap.size:=fun e=>by have:=(HV.out.ltb _ e).2;omega
 have n_v1_hd:v1≠W3.heap.size:=Nat.ne_of_lt R3x0.out.2.2
 have n_v2_hd:v2≠W3.heap.size:=Nat.ne_of_lt R3x1.out.2.2
 have l_hd:w.heap.size≤W3.heap.size:=B3.out.size
 have hb4:=below_alloc (Below.refl W3.heap.size W3) (.cells (bysA H) 31)
 have N4:=Lib.hid (RowAt.of (block_new W3 (.cells (bysA H) 31)))
 have Z4:=Lib.hid (Z3.out.trans (hb4.mono Z3.out.size))
 clear Z3
 have O4x0:=Lib.hid (HV.out.grow hb4)
 clear HV
 have R4x0:=Lib.hid (R3x0.out.grow hb4)
 have R4x1:=Lib.hid (R3x1.out.grow hb4)
 have B4:=Lib.hid (B3.out.trans (hb4.mono B3.out.size))
 clear hb4 B3 R3x0 R3x1 R3x0a R3x0b R3x0c R3x1a R3x1b R3x1c
 generalize W3.heap.size=hd at *
 generalize W3.alloc (.cells (bysA H) 31)=W4 at *
 refine(KU1.out _ (HT.out.grow B4.out)).mono ?_
 rintro e W5 ⟨rfl,hb5⟩
 have Z5:=Lib.hid (Z4.out.trans (hb5.mono Z4.out.size))
 clear Z4
 have O5x0:=Lib.hid (O4x0.out.grow hb5)
 clear O4x0
 have R5x0:=Lib.hid (R4x0.out.grow hb5)
 have R5x1:=Lib.hid (R4x1.out.grow hb5)
 have R5x2:=Lib.hid (N4.out.grow hb5)
 have B5:=Lib.hid (B4.out.trans (hb5.mono B4.out.size))
 clear hb5 B4 R4x0 R4x1 N4
 obtain⟨R5x0a,R5x0b,R5x0c⟩:=R5x0.out
 obtain⟨R5x1a,R5x1b,R5x1c⟩:=R5x1.out
 obtain⟨R5x2a,R5x2b,R5x2c⟩:=R5x2.out
 go_wp2_with fail
 have m0_xv:(Value.slice (some ⟨gs,0,none⟩) 2 cs).ownBlock≠some W5.heap.size:=fun e=>by have:=(O5x0.out.ltb _ e).2;omega
 have n_v1_xv:v1≠W5.heap.size:=Nat.ne_of_lt R5x0.out.2.2
 have n_v2_xv:v2≠W5.heap.size:=Nat.ne_of_lt R5x1.out.2.2
 have n_hd_xv:hd≠W5.heap.size:=Nat.ne_of_lt R5x2.out.2.2
 have l_xv:w.heap.size≤W5.heap.size:=B5.out.size
 have hb6:=below_alloc (Below.refl W5.heap.size W5) (.cells (stepA x) 53)
 have N6:=Lib.hid (RowAt.of (block_new W5 (.cells (stepA x) 53)))
 have Z6:=Lib.hid (Z5.out.trans (hb6.mono Z5.out.size))
 clear Z5
 have O6x0:=Lib.hid (O5x0.out.grow hb6)
 clear O5x0
 have R6x0:=Lib.hid (R5x0.out.grow hb6)
 have R6x1:=Lib.hid (R5x1.out.grow hb6)
 have R6x2:=Lib.hid (R5x2.out.grow hb6)
 have B6:=Lib.hid (B5.out.trans (hb6.mono B5.out.size))
 clear hb6 B5 R5x0 R5x1 R5x2 R5x0a R5x0b R5x0c R5x1a R5x1b R5x1c R5x2a R5x2b R5x2c
 generalize W5.heap.size=xv at *
 generalize W5.alloc (.cells (stepA x) 53)=W6 at *
 refine(KU2.out _ (HT.out.grow B6.out)).mono ?_
 rintro e W7 ⟨rfl,hb7⟩
 have Z7:=Lib.hid (Z6.out.trans (hb7.mono Z6.out.size))
 clear Z6
 have O7x0:=Lib.hid (O6x0.out.grow hb7)
 clear O6x0
 have R7x0:=Lib.hid (R6x0.out.grow hb7)
 have R7x1:=Lib.hid (R6x1.out.grow hb7)
 have R7x2:=Lib.hid (R6x2.out.grow hb7)
 have R7x3:=Lib.hid (N6.out.grow hb7)
 have B7:=Lib.hid (B6.out.trans (hb7.mono B6.out.size))
 clear hb7 B6 R6x0 R6x1 R6x2 N6
 obtain⟨R7x0a,R7x0b,R7x0c⟩:=R7x0.out
 obtain⟨R7x1a,R7x1b,R7x1c⟩:=R7x1.out
 obtain⟨R7x2a,R7x2b,R7x2c⟩:=R7x2.out
 obtain⟨R7x3a,R7x3b,R7x3c⟩:=R7x3.out
 go_wp2_with fail
 have m0_yv:(Value.slice (some ⟨gs,0,none⟩) 2 cs).ownBlock≠some W7.heap.size:=fun e=>by have:=(O7x0.out.ltb _ e).2;omega
 have n_v1_yv:v1≠W7.heap.size:=Nat.ne_of_lt R7x0.out.2.2
 have n_v2_yv:v2≠W7.heap.size:=Nat.ne_of_lt R7x1.out.2.2
 have n_hd_yv:hd≠W7.heap.size:=Nat.ne_of_lt R7x2.out.2.2
 have n_xv_yv:xv≠W7.heap.size:=Nat.ne_of_lt R7x3.out.2.2
 have l_yv:w.heap.size≤W7.heap.size:=B7.out.size
 have hb8:=below_alloc (Below.refl W7.heap.size W7) (.cells (stepA y) 53)
 have N8:=Lib.hid (RowAt.of (block_new W7 (.cells (stepA y) 53)))
 have Z8:=Lib.hid (Z7.out.trans (hb8.mono Z7.out.size))
 clear Z7
 have O8x0:=Lib.hid (O7x0.out.grow hb8)
 clear O7x0
 have R8x0:=Lib.hid (R7x0.out.grow hb8)
 have R8x1:=Lib.hid (R7x1.out.grow hb8)
 have R8x2:=Lib.hid (R7x2.out.grow hb8)
 have R8x3:=Lib.hid (R7x3.out.grow hb8)
 have B8:=Lib.hid (B7.out.trans (hb8.mono B7.out.size))
 clear hb8 B7 R7x0 R7x1 R7x2 R7x3 R7x0a R7x0b R7x0c R7x1a R7x1b R7x1c R7x2a R7x2b R7x2c R7x3a R7x3b R7x3c
 generalize W7.heap.size=yv at *
 generalize W7.alloc (.cells (stepA y) 53)=W8 at *
 refine(KB1.out _ _ (HQ1.out _ _ (HRW.out _ Z8.out))).mono ?_
 rintro e W9 ⟨rfl,hb9⟩
 have Z9:=Lib.hid (Z8.out.trans (hb9.mono Z8.out.size))
 clear Z8
 have O9x0:=Lib.hid (O8x0.out.grow hb9)
 clear O8x0
 have R9x0:=Lib.hid (R8x0.out.grow hb9)
 have R9x1:=Lib.hid (R8x1.out.grow hb9)
 have R9x2:=Lib.hid (R8x2.out.grow hb9)
 have R9x3:=Lib.hid (R8x3.out.grow hb9)
 have R9x4:=Lib.hid (N8.out.grow hb9)
 have B9:=Lib.hid (B8.out.trans (hb9.mono B8.out.size))
 clear hb9 B8 R8x0 R8x1 R8x2 R8x3 N8
 obtain⟨R9x0a,R9x0b,R9x0c⟩:=R9x0.out
 obtain⟨R9x1a,R9x1b,R9x1c⟩:=R9x1.out
 obtain⟨R9x2a,R9x2b,R9x2c⟩:=R9x2.out
 obtain⟨R9x3a,R9x3b,R9x3c⟩:=R9x3.out
 obtain⟨R9x4a,R9x4b,R9x4c⟩:=R9x4.out
 go_wp2_with fail
 have m0_he:(Value.slice (some ⟨gs,0,none⟩) 2 cs).ownBlock≠some W9.heap.size:=fun e=>by have:=(O9x0.out.ltb _ e).2;omega
 have n_v1_he:v1≠W9.heap.size:=Nat.ne_of_lt R9x0.out.2.2
 have n_v2_he:v2≠W9.heap.size:=Nat.ne_of_lt R9x1.out.2.2
 have n_hd_he:hd≠W9.heap.size:=Nat.ne_of_lt R9x2.out.2.2
 have n_xv_he:xv≠W9.heap.size:=Nat.ne_of_lt R9x3.out.2.2
 have n_yv_he:yv≠W9.heap.size:=Nat.ne_of_lt R9x4.out.2.2
 have l_he:w.heap.size≤W9.heap.size:=B9.out.size
 have hb10:=below_alloc (Below.refl W9.heap.size W9) (.cells (bysA (zs 208)) 31)
 have N10:=Lib.hid (RowAt.of (block_new W9 (.cells (bysA (zs 208)) 31)))
 have Z10:=Lib.hid (Z9.out.trans (hb10.mono Z9.out.size))
 clear Z9
 have O10x0:=Lib.hid (O9x0.out.grow hb10)
 clear O9x0
 have R10x0:=Lib.hid (R9x0.out.grow hb10)
 have R10x1:=Lib.hid (R9x1.out.grow hb10)
 have R10x2:=Lib.hid (R9x2.out.grow hb10)
 have R10x3:=Lib.hid (R9x3.out.grow hb10)
 have R10x4:=Lib.hid (R9x4.out.grow hb10)
 have B10:=Lib.hid (B9.out.trans (hb10.mono B9.out.size))
 clear hb10 B9 R9x0 R9x1 R9x2 R9x3 R9x4 R9x0a R9x0b R9x0c R9x1a R9x1b R9x1c R9x2a R9x2b R9x2c R9x3a R9x3b R9x3c R9x4a R9x4b R9x4c
 generalize W9.heap.size=he at *
 generalize W9.alloc (.cells (bysA (zs 208)) 31)=W10 at *
 refine wp_region_grows W10 50 (fun w w'=>Below w.heap.size w w') (listR [fixV (.int .i64 0),fixV (.bool true),fixV (.bool true),fixV (.int .i64 0),fixV (.bool true),fixV (.bool true),fixV (.bool true),fixV (.pointer (some ⟨xv,0,none⟩)),fixV (.agg (cmdA D1)),fixV (.slice (some ⟨hv,0,none⟩) 2 2),fixV (.pointer (some ⟨hv,0,none⟩)),fixV (.pointer (some ⟨hv,32,none⟩)),fixV (.agg (cmdA D1)),fixV (.bool true),fixV (.bool true),fixV (.bool true),fixV (.pointer (some ⟨yv,0,none⟩)),fixV (.agg (cmdA D2)),fixV (.slice (some ⟨hv,0,none⟩) 2 2),fixV (.pointer (some ⟨hv,43,none⟩)),fixV (.pointer (some ⟨hv,75,none⟩)),fixV (.agg (cmdA D2)),fixV (.bool true),fixV (.bool true),fixV (.bool true),fixV (.pointer (some ⟨xv,219,none⟩)),fixV (.agg (bysA s0)),fixV (.slice (some ⟨gs,0,none⟩) 2 cs),fixV (.pointer (some ⟨gs,0,none⟩)),fixV (.agg (bysA s0)),fixV (.bool true),fixV (.bool true),fixV (.bool true),fixV (.pointer (some ⟨yv,219,none⟩)),fixV (.agg (bysA s1)),fixV (.slice (some ⟨gs,0,none⟩) 2 cs),fixV (.pointer (some ⟨gs,32,none⟩)),fixV (.agg (bysA s1)),fixV (.bool true),fixV (.bool true),fixV (.bool true),fixV (.int .i64 14),fixV (.bool true),fixV (.bool true),fixV (.bool true),fixV (.agg (bysA H)),ownV W10.heap.size H,fixV (.int .i64 208),fixV (.bool true),fixV (.bool true)]) [50] [0,1,2,3,4,5,6,7,8,9,10,11,12,13,14,15,16,17,18,19,20,21,22,23,24,25,26,27,28,29,30,31,32,33,34,35,36,37,38,39,40,41,42,43,44,45,46,47,48,49] [some 60,some 61,some 62,some 63,some 64,some 65,some 66,some 67,some 68,some 69,some 70,some 71,some 72,some 73,some 74,some 75,some 76,some 77,some 78,some 79,some 80,some 81,some 82,some 83,some 84,some 85,some 86,some 87,some 88,some 89,some 90,some 91,some 92,some 93,some 94,some 95,some 96,some 97,some 98,some 99,some 100,some 101,some 102,some 103,some 104,some 105,some 106,some 107,some 108,some 109] (by kernel_rfl) (by kernel_rfl) (by kernel_rfl) (by kernel_rfl) (by first | exact(Below.refl _ _).drew | exact Below.refl _ _) (fun w w' h h'=>h.trans (h'.mono h.size)) (listR_mono ⟨stays_fix _,stays_fix _,stays_fix _,stays_fix _,stays_fix _,stays_fix _,stays_fix _,stays_fix _,stays_fix _,stays_fix _,stays_fix _,stays_fix _,stays_fix _,stays_fix _,stays_fix _,stays_fix _,stays_fix _,stays_fix _,stays_fix _,stays_fix _,stays_fix _,stays_fix _,stays_fix _,stays_fix _,stays_fix _,stays_fix _,stays_fix _,stays_fix _,stays_fix _,stays_fix _,stays_fix _,stays_fix _,stays_fix _,stays_fix _,stays_fix _,stays_fix _,stays_fix _,stays_fix _,stays_fix _,stays_fix _,stays_fix _,stays_fix _,stays_fix _,stays_fix _,stays_fix _,stays_fix _,stays_own _ _,stays_fix _,stays_fix _,stays_fix _,trivial⟩) ?_
 intro vals
 simp only[List.take_succ_cons,List.take_zero]
 refine⟨grow_val [] [] (by kernel_rfl) rfl (fun K w hb hd hK=>?_),?_⟩
 ·simp only[putZ]
  refine⟨wanted_none rfl,?_⟩
  go_simp
  exact hK _ _ _ (Below.refl _ _) rfl
 refine⟨grow_val [0] [some 60] (by kernel_rfl) (by kernel_rfl) (fun K w hb hd hK=>?_),?_⟩
 ·have d0:vals 0=.int .i64 0:=hd 0 (by simp)
  simp only[List.map_cons,List.map_nil,putZ,d0]
  refine⟨wanted_none rfl,?_⟩
  go_simp
  exact hK _ _ _ (Below.refl _ _) rfl
 refine⟨grow_val [1] [some 61] (by kernel_rfl) (by kernel_rfl) (fun K w hb hd hK=>?_),?_⟩
 ·have d1:vals 1=.bool true:=hd 1 (by simp)
  simp only[List.map_cons,List.map_nil,putZ,d1]
  refine⟨wanted_none rfl,?_⟩
  go_simp
  exact hK _ _ _ (Below.refl _ _) rfl
 refine⟨grow_val [2] [some 62] (by kernel_rfl) (by kernel_rfl) (fun K w hb hd hK=>?_),?_⟩
 ·have d2:vals 2=.bool true:=hd 2 (by simp)
  simp only[List.map_cons,List.map_nil,putZ,d2]
  refine⟨wanted_some rfl rfl rfl,?_⟩
  go_simp
  exact hK _ _ _ (Below.refl _ _) rfl
 refine⟨grow_val [2,3] [some 62,some 63] (by kernel_rfl) (by kernel_rfl) (fun K w hb hd hK=>?_),?_⟩
 ·have d2:vals 2=.bool true:=hd 2 (by simp)
  have d3:vals 3=.int .i64 0:=hd 3 (by simp)
  simp only[List.map_cons,List.map_nil,putZ,d2,d3]
  refine⟨wanted_some rfl rfl rfl,?_⟩
  go_simp
  exact hK _ _ _ (Below.refl _ _) rfl
 refine⟨grow_val [2,4] [some 62,some 64] (by kernel_rfl) (by kernel_rfl) (fun K w hb hd hK=>?_),?_⟩
 ·have d2:vals 2=.bool true:=hd 2 (by simp)
  have d4:vals 4=.bool true:=hd 4 (by simp)
  simp only[List.map_cons,List.map_nil,putZ,d2,d4]
  refine⟨wanted_none rfl,?_⟩
  go_simp
  exact hK _ _ _ (Below.refl _ _) rfl
 refine⟨grow_val [5] [some 65] (by kernel_rfl) (by kernel_rfl) (fun K w hb hd hK=>?_),?_⟩
 ·have d5:vals 5=.bool true:=hd 5 (by simp)
  simp only[List.map_cons,List.map_nil,putZ,d5]
  refine⟨wanted_none rfl,?_⟩
  go_simp
  exact hK _ _ _ (Below.refl _ _) rfl
 refine⟨grow_val [6] [some 66] (by kernel_rfl) (by kernel_rfl) (fun K w hb hd hK=>?_),?_⟩
 ·have d6:vals 6=.bool true:=hd 6 (by simp)
  simp only[List.map_cons,List.map_nil,putZ,d6]
  refine⟨wanted_some rfl rfl rfl,?_⟩
  go_simp
  exact hK _ _ _ (Below.refl _ _) rfl
 refine⟨grow_val [6,7] [some 66,some 67] (by kernel_rfl) (by kernel_rfl) (fun K w hb hd hK=>?_),?_⟩
 ·have d6:vals 6=.bool true:=hd 6 (by simp)
  have d7:vals 7=.pointer (some ⟨xv,0,none⟩):=hd 7 (by simp)
  obtain⟨x1,x2,x3⟩:=R10x3.out.grow hb
  have hxc:=HXE.out.1
  simp only[List.map_cons,List.map_nil,putZ,d6,d7]
  refine⟨wanted_some rfl rfl rfl,?_⟩
  go_simp
  exact hK _ _ _ (Below.refl _ _) rfl
 refine⟨grow_val [6] [some 66] (by kernel_rfl) (by kernel_rfl) (fun K w hb hd hK=>?_),?_⟩
 ·have d6:vals 6=.bool true:=hd 6 (by simp)
  simp only[List.map_cons,List.map_nil,putZ,d6]
  refine⟨wanted_some rfl rfl rfl,?_⟩
  go_simp
  exact hK _ _ _ (Below.refl _ _) rfl
 refine⟨grow_val [6,9] [some 66,some 69] (by kernel_rfl) (by kernel_rfl) (fun K w hb hd hK=>?_),?_⟩
 ·have d6:vals 6=.bool true:=hd 6 (by simp)
  have d9:vals 9=.slice (some ⟨hv,0,none⟩) 2 2:=hd 9 (by simp)
  simp only[List.map_cons,List.map_nil,putZ,d6,d9]
  refine⟨wanted_some rfl rfl rfl,?_⟩
  go_simp
  exact hK _ _ _ (Below.refl _ _) rfl
 refine⟨grow_val [6,10] [some 66,some 70] (by kernel_rfl) (by kernel_rfl) (fun K w hb hd hK=>?_),?_⟩
 ·have d6:vals 6=.bool true:=hd 6 (by simp)
  have d10:vals 10=.pointer (some ⟨hv,0,none⟩):=hd 10 (by simp)
  simp only[List.map_cons,List.map_nil,putZ,d6,d10]
  refine⟨wanted_some rfl rfl rfl,?_⟩
  go_simp
  exact hK _ _ _ (Below.refl _ _) rfl
 refine⟨grow_val [6,11] [some 66,some 71] (by kernel_rfl) (by kernel_rfl) (fun K w hb hd hK=>?_),?_⟩
 ·have d6:vals 6=.bool true:=hd 6 (by simp)
  have d11:vals 11=.pointer (some ⟨hv,32,none⟩):=hd 11 (by simp)
  have hc0:=HC0.out _ hv (HRW.out _ (Z10.out.trans (hb.mono Z10.out.size)))
  simp only[List.map_cons,List.map_nil,putZ,d6,d11]
  refine⟨wanted_some rfl rfl rfl,?_⟩
  go_simp
  exact hK _ _ _ (Below.refl _ _) rfl
 refine⟨grow_val [6,8,12] [some 66,some 68,some 72] (by kernel_rfl) (by kernel_rfl) (fun K w hb hd hK=>?_),?_⟩
 ·have d6:vals 6=.bool true:=hd 6 (by simp)
  have d8:vals 8=.agg (cmdA D1):=hd 8 (by simp)
  have d12:vals 12=.agg (cmdA D1):=hd 12 (by simp)
  simp only[List.map_cons,List.map_nil,putZ,d6,d8,d12]
  refine⟨wanted_some rfl rfl rfl,?_⟩
  go_simp
  exact hK _ _ _ (Below.refl _ _) rfl
 refine⟨grow_val [6,13] [some 66,some 73] (by kernel_rfl) (by kernel_rfl) (fun K w hb hd hK=>?_),?_⟩
 ·have d6:vals 6=.bool true:=hd 6 (by simp)
  have d13:vals 13=.bool true:=hd 13 (by simp)
  simp only[List.map_cons,List.map_nil,putZ,d6,d13]
  refine⟨wanted_none rfl,?_⟩
  go_simp
  exact hK _ _ _ (Below.refl _ _) rfl
 refine⟨grow_val [14] [some 74] (by kernel_rfl) (by kernel_rfl) (fun K w hb hd hK=>?_),?_⟩
 ·have d14:vals 14=.bool true:=hd 14 (by simp)
  simp only[List.map_cons,List.map_nil,putZ,d14]
  refine⟨wanted_none rfl,?_⟩
  go_simp
  exact hK _ _ _ (Below.refl _ _) rfl
 refine⟨grow_val [15] [some 75] (by kernel_rfl) (by kernel_rfl) (fun K w hb hd hK=>?_),?_⟩
 ·have d15:vals 15=.bool true:=hd 15 (by simp)
  simp only[List.map_cons,List.map_nil,putZ,d15]
  refine⟨wanted_some rfl rfl rfl,?_⟩
  go_simp
  exact hK _ _ _ (Below.refl _ _) rfl
 refine⟨grow_val [15,16] [some 75,some 76] (by kernel_rfl) (by kernel_rfl) (fun K w hb hd hK=>?_),?_⟩
 ·have d15:vals 15=.bool true:=hd 15 (by simp)
  have d16:vals 16=.pointer (some ⟨yv,0,none⟩):=hd 16 (by simp)
  obtain⟨y1,y2,y3⟩:=R10x4.out.grow hb
  have hyc:=HXE.out.2.2.1
  simp only[List.map_cons,List.map_nil,putZ,d15,d16]
  refine⟨wanted_some rfl rfl rfl,?_⟩
  go_simp
  exact hK _ _ _ (Below.refl _ _) rfl
 refine⟨grow_val [15] [some 75] (by kernel_rfl) (by kernel_rfl) (fun K w hb hd hK=>?_),?_⟩
 ·have d15:vals 15=.bool true:=hd 15 (by simp)
  simp only[List.map_cons,List.map_nil,putZ,d15]
  refine⟨wanted_some rfl rfl rfl,?_⟩
  go_simp
  exact hK _ _ _ (Below.refl _ _) rfl
 refine⟨grow_val [15,18] [some 75,some 78] (by kernel_rfl) (by kernel_rfl) (fun K w hb hd hK=>?_),?_⟩
 ·have d15:vals 15=.bool true:=hd 15 (by simp)
  have d18:vals 18=.slice (some ⟨hv,0,none⟩) 2 2:=hd 18 (by simp)
  simp only[List.map_cons,List.map_nil,putZ,d15,d18]
  refine⟨wanted_some rfl rfl rfl,?_⟩
  go_simp
  exact hK _ _ _ (Below.refl _ _) rfl
 refine⟨grow_val [15,19] [some 75,some 79] (by kernel_rfl) (by kernel_rfl) (fun K w hb hd hK=>?_),?_⟩
 ·have d15:vals 15=.bool true:=hd 15 (by simp)
  have d19:vals 19=.pointer (some ⟨hv,43,none⟩):=hd 19 (by simp)
  simp only[List.map_cons,List.map_nil,putZ,d15,d19]
  refine⟨wanted_some rfl rfl rfl,?_⟩
  go_simp
  exact hK _ _ _ (Below.refl _ _) rfl
 refine⟨grow_val [15,20] [some 75,some 80] (by kernel_rfl) (by kernel_rfl) (fun K w hb hd hK=>?_),?_⟩
 ·have d15:vals 15=.bool true:=hd 15 (by simp)
  have d20:vals 20=.pointer (some ⟨hv,75,none⟩):=hd 20 (by simp)
  have hc0:=HC1.out _ hv (HRW.out _ (Z10.out.trans (hb.mono Z10.out.size)))
  simp only[List.map_cons,List.map_nil,putZ,d15,d20]
  refine⟨wanted_some rfl rfl rfl,?_⟩
  go_simp
  exact hK _ _ _ (Below.refl _ _) rfl
 refine⟨grow_val [15,17,21] [some 75,some 77,some 81] (by kernel_rfl) (by kernel_rfl) (fun K w hb hd hK=>?_),?_⟩
 ·have d15:vals 15=.bool true:=hd 15 (by simp)
  have d17:vals 17=.agg (cmdA D2):=hd 17 (by simp)
  have d21:vals 21=.agg (cmdA D2):=hd 21 (by simp)
  simp only[List.map_cons,List.map_nil,putZ,d15,d17,d21]
  refine⟨wanted_some rfl rfl rfl,?_⟩
  go_simp
  exact hK _ _ _ (Below.refl _ _) rfl
 refine⟨grow_val [15,22] [some 75,some 82] (by kernel_rfl) (by kernel_rfl) (fun K w hb hd hK=>?_),?_⟩
 ·have d15:vals 15=.bool true:=hd 15 (by simp)
  have d22:vals 22=.bool true:=hd 22 (by simp)
  simp only[List.map_cons,List.map_nil,putZ,d15,d22]
  refine⟨wanted_none rfl,?_⟩
  go_simp
  exact hK _ _ _ (Below.refl _ _) rfl
 refine⟨grow_val [23] [some 83] (by kernel_rfl) (by kernel_rfl) (fun K w hb hd hK=>?_),?_⟩
 ·have d23:vals 23=.bool true:=hd 23 (by simp)
  simp only[List.map_cons,List.map_nil,putZ,d23]
  refine⟨wanted_none rfl,?_⟩
  go_simp
  exact hK _ _ _ (Below.refl _ _) rfl
 refine⟨grow_val [24] [some 84] (by kernel_rfl) (by kernel_rfl) (fun K w hb hd hK=>?_),?_⟩
 ·have d24:vals 24=.bool true:=hd 24 (by simp)
  simp only[List.map_cons,List.map_nil,putZ,d24]
  refine⟨wanted_some rfl rfl rfl,?_⟩
  go_simp
  exact hK _ _ _ (Below.refl _ _) rfl
 refine⟨grow_val [24,25] [some 84,some 85] (by kernel_rfl) (by kernel_rfl) (fun K w hb hd hK=>?_),?_⟩
 ·have d24:vals 24=.bool true:=hd 24 (by simp)
  have d25:vals 25=.pointer (some ⟨xv,219,none⟩):=hd 25 (by simp)
  obtain⟨x1,x2,x3⟩:=R10x3.out.grow hb
  have hxc:=HXE.out.2.1
  simp only[List.map_cons,List.map_nil,putZ,d24,d25]
  refine⟨wanted_some rfl rfl rfl,?_⟩
  go_simp
  exact hK _ _ _ (Below.refl _ _) rfl
 refine⟨grow_val [24] [some 84] (by kernel_rfl) (by kernel_rfl) (fun K w hb hd hK=>?_),?_⟩
 ·have d24:vals 24=.bool true:=hd 24 (by simp)
  simp only[List.map_cons,List.map_nil,putZ,d24]
  refine⟨wanted_some rfl rfl rfl,?_⟩
  go_simp
  exact hK _ _ _ (Below.refl _ _) rfl
 refine⟨grow_val [24,27] [some 84,some 87] (by kernel_rfl) (by kernel_rfl) (fun K w hb hd hK=>?_),?_⟩
 ·have d24:vals 24=.bool true:=hd 24 (by simp)
  have d27:vals 27=.slice (some ⟨gs,0,none⟩) 2 cs:=hd 27 (by simp)
  simp only[List.map_cons,List.map_nil,putZ,d24,d27]
  refine⟨wanted_some rfl rfl rfl,?_⟩
  go_simp
  exact hK _ _ _ (Below.refl _ _) rfl
 refine⟨grow_val [24,28] [some 84,some 88] (by kernel_rfl) (by kernel_rfl) (fun K w hb hd hK=>?_),?_⟩
 ·have d24:vals 24=.bool true:=hd 24 (by simp)
  have d28:vals 28=.pointer (some ⟨gs,0,none⟩):=hd 28 (by simp)
  have ho:=own_load0 (O10x0.out.grow hb) Hs.out.1
  simp only[List.map_cons,List.map_nil,putZ,d24,d28]
  refine⟨wanted_some rfl rfl rfl,?_⟩
  go_simp
  exact hK _ _ _ (Below.refl _ _) rfl
 refine⟨grow_val [24,26,29] [some 84,some 86,some 89] (by kernel_rfl) (by kernel_rfl) (fun K w hb hd hK=>?_),?_⟩
 ·have d24:vals 24=.bool true:=hd 24 (by simp)
  have d26:vals 26=.agg (bysA s0):=hd 26 (by simp)
  have d29:vals 29=.agg (bysA s0):=hd 29 (by simp)
  simp only[List.map_cons,List.map_nil,putZ,d24,d26,d29]
  refine⟨wanted_some rfl rfl rfl,?_⟩
  go_simp
  exact hK _ _ _ (Below.refl _ _) rfl
 refine⟨grow_val [24,30] [some 84,some 90] (by kernel_rfl) (by kernel_rfl) (fun K w hb hd hK=>?_),?_⟩
 ·have d24:vals 24=.bool true:=hd 24 (by simp)
  have d30:vals 30=.bool true:=hd 30 (by simp)
  simp only[List.map_cons,List.map_nil,putZ,d24,d30]
  refine⟨wanted_none rfl,?_⟩
  go_simp
  exact hK _ _ _ (Below.refl _ _) rfl
 refine⟨grow_val [31] [some 91] (by kernel_rfl) (by kernel_rfl) (fun K w hb hd hK=>?_),?_⟩
 ·have d31:vals 31=.bool true:=hd 31 (by simp)
  simp only[List.map_cons,List.map_nil,putZ,d31]
  refine⟨wanted_none rfl,?_⟩
  go_simp
  exact hK _ _ _ (Below.refl _ _) rfl
 refine⟨grow_val [32] [some 92] (by kernel_rfl) (by kernel_rfl) (fun K w hb hd hK=>?_),?_⟩
 ·have d32:vals 32=.bool true:=hd 32 (by simp)
  simp only[List.map_cons,List.map_nil,putZ,d32]
  refine⟨wanted_some rfl rfl rfl,?_⟩
  go_simp
  exact hK _ _ _ (Below.refl _ _) rfl
 refine⟨grow_val [32,33] [some 92,some 93] (by kernel_rfl) (by kernel_rfl) (fun K w hb hd hK=>?_),?_⟩
 ·have d32:vals 32=.bool true:=hd 32 (by simp)
  have d33:vals 33=.pointer (some ⟨yv,219,none⟩):=hd 33 (by simp)
  obtain⟨y1,y2,y3⟩:=R10x4.out.grow hb
  have hyc:=HXE.out.2.2.2
  simp only[List.map_cons,List.map_nil,putZ,d32,d33]
  refine⟨wanted_some rfl rfl rfl,?_⟩
  go_simp
  exact hK _ _ _ (Below.refl _ _) rfl
 refine⟨grow_val [32] [some 92] (by kernel_rfl) (by kernel_rfl) (fun K w hb hd hK=>?_),?_⟩
 ·have d32:vals 32=.bool true:=hd 32 (by simp)
  simp only[List.map_cons,List.map_nil,putZ,d32]
  refine⟨wanted_some rfl rfl rfl,?_⟩
  go_simp
  exact hK _ _ _ (Below.refl _ _) rfl
 refine⟨grow_val [32,35] [some 92,some 95] (by kernel_rfl) (by kernel_rfl) (fun K w hb hd hK=>?_),?_⟩
 ·have d32:vals 32=.bool true:=hd 32 (by simp)
  have d35:vals 35=.slice (some ⟨gs,0,none⟩) 2 cs:=hd 35 (by simp)
  simp only[List.map_cons,List.map_nil,putZ,d32,d35]
  refine⟨wanted_some rfl rfl rfl,?_⟩
  go_simp
  exact hK _ _ _ (Below.refl _ _) rfl
 refine⟨grow_val [32,36] [some 92,some 96] (by kernel_rfl) (by kernel_rfl) (fun K w hb hd hK=>?_),?_⟩
 ·have d32:vals 32=.bool true:=hd 32 (by simp)
  have d36:vals 36=.pointer (some ⟨gs,32,none⟩):=hd 36 (by simp)
  have ho:=own_load1 (O10x0.out.grow hb) Hs.out.2
  simp only[List.map_cons,List.map_nil,putZ,d32,d36]
  refine⟨wanted_some rfl rfl rfl,?_⟩
  go_simp
  exact hK _ _ _ (Below.refl _ _) rfl
 refine⟨grow_val [32,34,37] [some 92,some 94,some 97] (by kernel_rfl) (by kernel_rfl) (fun K w hb hd hK=>?_),?_⟩
 ·have d32:vals 32=.bool true:=hd 32 (by simp)
  have d34:vals 34=.agg (bysA s1):=hd 34 (by simp)
  have d37:vals 37=.agg (bysA s1):=hd 37 (by simp)
  simp only[List.map_cons,List.map_nil,putZ,d32,d34,d37]
  refine⟨wanted_some rfl rfl rfl,?_⟩
  go_simp
  exact hK _ _ _ (Below.refl _ _) rfl
 refine⟨grow_val [32,38] [some 92,some 98] (by kernel_rfl) (by kernel_rfl) (fun K w hb hd hK=>?_),?_⟩
 ·have d32:vals 32=.bool true:=hd 32 (by simp)
  have d38:vals 38=.bool true:=hd 38 (by simp)
  simp only[List.map_cons,List.map_nil,putZ,d32,d38]
  refine⟨wanted_none rfl,?_⟩
  go_simp
  exact hK _ _ _ (Below.refl _ _) rfl
 refine⟨grow_val [39] [some 99] (by kernel_rfl) (by kernel_rfl) (fun K w hb hd hK=>?_),?_⟩
 ·have d39:vals 39=.bool true:=hd 39 (by simp)
  simp only[List.map_cons,List.map_nil,putZ,d39]
  refine⟨wanted_none rfl,?_⟩
  go_simp
  exact hK _ _ _ (Below.refl _ _) rfl
 refine⟨grow_val [40] [some 100] (by kernel_rfl) (by kernel_rfl) (fun K w hb hd hK=>?_),?_⟩
 ·have d40:vals 40=.bool true:=hd 40 (by simp)
  simp only[List.map_cons,List.map_nil,putZ,d40]
  refine⟨wanted_some rfl rfl rfl,?_⟩
  go_simp
  exact hK _ _ _ (Below.refl _ _) rfl
 refine⟨grow_val [40,41] [some 100,some 101] (by kernel_rfl) (by kernel_rfl) (fun K w hb hd hK=>?_),?_⟩
 ·have d40:vals 40=.bool true:=hd 40 (by simp)
  have d41:vals 41=.int .i64 14:=hd 41 (by simp)
  simp only[List.map_cons,List.map_nil,putZ,d40,d41]
  refine⟨wanted_some rfl rfl rfl,?_⟩
  go_simp
  exact hK _ _ _ (Below.refl _ _) rfl
 refine⟨grow_val [40,42] [some 100,some 102] (by kernel_rfl) (by kernel_rfl) (fun K w hb hd hK=>?_),?_⟩
 ·have d40:vals 40=.bool true:=hd 40 (by simp)
  have d42:vals 42=.bool true:=hd 42 (by simp)
  simp only[List.map_cons,List.map_nil,putZ,d40,d42]
  refine⟨wanted_none rfl,?_⟩
  go_simp
  exact hK _ _ _ (Below.refl _ _) rfl
 refine⟨grow_val [43] [some 103] (by kernel_rfl) (by kernel_rfl) (fun K w hb hd hK=>?_),?_⟩
 ·have d43:vals 43=.bool true:=hd 43 (by simp)
  simp only[List.map_cons,List.map_nil,putZ,d43]
  refine⟨wanted_none rfl,?_⟩
  go_simp
  exact hK _ _ _ (Below.refl _ _) rfl
 refine⟨grow_val [44] [some 104] (by kernel_rfl) (by kernel_rfl) (fun K w hb hd hK=>?_),?_⟩
 ·have d44:vals 44=.bool true:=hd 44 (by simp)
  obtain⟨z1,z2,z3⟩:=R10x2.out.grow hb
  simp only[List.map_cons,List.map_nil,putZ,d44]
  refine⟨wanted_some rfl rfl rfl,?_⟩
  go_simp
  exact hK _ _ _ (Below.refl _ _) rfl
 refine⟨grow_call [44,45] [some 104,some 105] (by kernel_rfl) (by kernel_rfl) (fun K w hb hd hK=>?_),?_⟩
 ·have d44:vals 44=.bool true:=hd 44 (by simp)
  have d45:vals 45=.agg (bysA H):=hd 45 (by simp)
  simp only[List.map_cons,List.map_nil,putZ,d44,d45]
  refine⟨wanted_some rfl rfl rfl,?_⟩
  go_simp
  refine(KE.out w).mono ?_
  rintro e w' ⟨u,rfl,ho,hb'⟩
  exact⟨_,rfl,hK _ _ hb' (ho.base hb.size)⟩
 refine⟨grow_val [44,46] [some 104,some 106] (by kernel_rfl) (by kernel_rfl) (fun K w hb hd hK=>?_),?_⟩
 ·have d44:vals 44=.bool true:=hd 44 (by simp)
  obtain⟨p46,c46,d46,y46,q46,z46⟩:=OwnB.bs (show OwnB w W10.heap.size (vals 46) H from hd 46 (by simp))
  rw[HHl.out] at d46
  simp only[List.map_cons,List.map_nil,putZ,d44,d46]
  refine⟨wanted_some rfl rfl rfl,?_⟩
  go_simp
  exact hK _ _ _ (Below.refl _ _) rfl
 refine⟨grow_val [44,47] [some 104,some 107] (by kernel_rfl) (by kernel_rfl) (fun K w hb hd hK=>?_),?_⟩
 ·have d44:vals 44=.bool true:=hd 44 (by simp)
  have d47:vals 47=.int .i64 208:=hd 47 (by simp)
  simp only[List.map_cons,List.map_nil,putZ,d44,d47]
  refine⟨wanted_some rfl rfl rfl,?_⟩
  go_simp
  exact hK _ _ _ (Below.refl _ _) rfl
 refine⟨grow_val [44,48] [some 104,some 108] (by kernel_rfl) (by kernel_rfl) (fun K w hb hd hK=>?_),?_⟩
 ·have d44:vals 44=.bool true:=hd 44 (by simp)
  have d48:vals 48=.bool true:=hd 48 (by simp)
  simp only[List.map_cons,List.map_nil,putZ,d44,d48]
  refine⟨wanted_none rfl,?_⟩
  go_simp
  exact hK _ _ _ (Below.refl _ _) rfl
 intro Wz hbz hR
 obtain d49:vals 49=.bool true:=hR 49 (by simp)
 clear hR
 simp only[List.map_cons,List.map_nil,putZ,d49,pick,List.getElem?_cons_succ,List.getElem?_cons_zero]
 generalize vals 0=q0
 generalize vals 1=q1
 generalize vals 2=q2
 generalize vals 3=q3
 generalize vals 4=q4
 generalize vals 5=q5
 generalize vals 6=q6
 generalize vals 7=q7
 generalize vals 8=q8
 generalize vals 9=q9
 generalize vals 10=q10
 generalize vals 11=q11
 generalize vals 12=q12
 generalize vals 13=q13
 generalize vals 14=q14
 generalize vals 15=q15
 generalize vals 16=q16
 generalize vals 17=q17
 generalize vals 18=q18
 generalize vals 19=q19
 generalize vals 20=q20
 generalize vals 21=q21
 generalize vals 22=q22
 generalize vals 23=q23
 generalize vals 24=q24
 generalize vals 25=q25
 generalize vals 26=q26
 generalize vals 27=q27
 generalize vals 28=q28
 generalize vals 29=q29
 generalize vals 30=q30
 generalize vals 31=q31
 generalize vals 32=q32
 generalize vals 33=q33
 generalize vals 34=q34
 generalize vals 35=q35
 generalize vals 36=q36
 generalize vals 37=q37
 generalize vals 38=q38
 generalize vals 39=q39
 generalize vals 40=q40
 generalize vals 41=q41
 generalize vals 42=q42
 generalize vals 43=q43
 generalize vals 44=q44
 generalize vals 45=q45
 generalize vals 46=q46
 generalize vals 47=q47
 generalize vals 48=q48
 have Bz:=Lib.hid (B10.out.trans (hbz.mono B10.out.size))
 clear hbz d49
 clear vals
 go_wp2_with fail
 go_ret
 exact⟨rfl,Bz.out⟩
end Go.Proofs.YtddmjddlbhdcpaaGreatDoor

namespace Go.Proofs.YtddmjddlbhdcpaaGreatDoor
open Go.RowKit Go.Hold Go.Sh Go.Ch Go.Cm Go.Hd
def rhV (a b g:List Nat):Value→World→Prop:=fun v w=>IsRH w v a b g
theorem stays_rh (a b g:List Nat):Stays (rhV a b g):=fun _ _ _ h hb=>IsRH.grow h hb
theorem zs_parts:(zs 208).take 32=zs 32∧((zs 208).drop 32).take 160=zs 160∧(zs 208).drop 192=zs 16:=⟨rfl,rfl,rfl⟩
set_option maxHeartbeats 12000000 in
set_option maxRecDepth 100000 in
theorem bytes_any (s H l:List Nat) (p:Option Addr) (n cap:Nat) (hs:s.length=32) (hsb:∀ i,s.getD i 0<256) (hHl:H.length=208) (hHb:∀ i,H.getD i 0<256) (hn:n=l.length) (hc:l.length≤cap) (w:World) (hT:Tabs w) (hB0:Bs0 w p l) :
  Calls Tryz.prog 5 #[.agg (bysA s),.agg (bysA H),.slice p n cap] w fun e w'=>e=.returned (.bool true)∧Below w.heap.size w w':=by
 have HT:=Lib.hid hT
 have hss:=bysA_size' hs
 have hHs:=bysA_size' hHl
 have hz208:=bysA_size' (zs_length 208)
 by_cases h1:1000<n
 ·have i1:(1000:Int)<(n:Int):=by omega
  clear hT hs hsb hHl hHb hn hc hB0 h1
  go_enter Tryz.func5,Tryz.ntmps5
  go_wp2_with fail
  generalize hW:World.alloc _ _=W0
  have R0x0:=Lib.hid (show RowAt W0 (w.heap.size) (bysA s) by rw[←hW];clear hW;exact⟨by go_simp,by first | (go_simp;done) | (go_simp;rfl),by go_simp⟩)
  have R0x1:=Lib.hid (show RowAt W0 (w.heap.size+1) (bysA H) by rw[←hW];clear hW;exact⟨by go_simp,by first | (go_simp;done) | (go_simp;rfl),by go_simp⟩)
  have B0:=Lib.hid (show Below w.heap.size w W0 by rw[←hW];repeat (first | apply below_alloc | exact Below.refl _ _))
  clear hW
  have l_sv:w.heap.size≤w.heap.size:=by omega
  have l_hh:w.heap.size≤w.heap.size+1:=by omega
  have n_sv_hh:w.heap.size≠w.heap.size+1:=by omega
  generalize w.heap.size+1=hh at *
  obtain⟨sv,esv⟩:∃ z,z=w.heap.size:=⟨_,rfl⟩
  rw[←esv] at R0x0 n_sv_hh ⊢
  have l_sv:w.heap.size≤sv:=by rw[esv];exact Nat.le_refl _
  clear esv
  refine(alive10_c W0 (HT.out.grow B0.out)).mono ?_
  rintro e W1 ⟨rfl,hb1⟩
  have R1x0:=Lib.hid (R0x0.out.grow hb1)
  have R1x1:=Lib.hid (R0x1.out.grow hb1)
  have B1:=Lib.hid (B0.out.trans (hb1.mono B0.out.size))
  clear hb1 B0 R0x0 R0x1
  obtain⟨R1x0a,R1x0b,R1x0c⟩:=R1x0.out
  obtain⟨R1x1a,R1x1b,R1x1c⟩:=R1x1.out
  go_wp2_with fail
  go_ret
  exact⟨rfl,by first | exact below_alloc B1.out _ | exact B1.out | exact below_alloc (below_alloc B1.out _) _⟩
 have i1:¬(1000:Int)<(n:Int):=by omega
 clear h1
 obtain⟨a,b,g,hp⟩:∃ a b g,HdParts H a b g:=⟨_,_,_,HdParts.of hHl hHb⟩
 have hA:H.take 32=a:=by rw[hp.eq,List.append_assoc,show 32=a.length from hp.al.symm,List.take_left]
 have hB:(H.drop 32).take 160=b:=by rw[hp.eq,List.append_assoc,show 32=a.length from hp.al.symm,List.drop_left,show 160=b.length from hp.bl.symm,List.take_left]
 have hG:H.drop 192=g:=by rw[hp.eq,show 192=(a++b).length by rw[List.length_append,hp.al,hp.bl],List.drop_left]
 have has:=bysA_size' hp.al
 have hbs:=bysA_size' hp.bl
 have hgs:=bysA_size' hp.gl
 have KP:=Lib.hid (fun (W:World) (h:Tabs W)=>hproof_c s b hs hsb hp.bl hp.bb W h)
 have KRP:=Lib.hid (fun (W:World) (q:Option Addr) (hq:Bs0 W q b) (hqc:q=none→160=0)=>rproof10_c s b q 160 160 hs hsb hp.bl.symm (by rw[hp.bl];decide) hp.bb hqc W hq)
 have hPs:=bysA_size' (prf_length s b)
 have KEn:=Lib.hid (fun (W:World)=>hencode_c H hHl W)
 have KO:=Lib.hid (fun (W:World)=>ours10_c H hHl W)
 rw[hA,hB,hG] at KO
 have KRE:=Lib.hid (fun (W:World) (q:Option Addr) (c:Nat) (hq:Bs0 W q b) (hqc:q=none→c=0)=>rencode10_c a b g q b.length c hp.al hp.gl rfl (by rw[hp.bl];decide) hqc W hq)
 rw[←hp.eq] at KRE
 have KZ:=Lib.hid (fun (W:World) (g1 c1:Nat) (h1:208≤c1) (h2:BytesAt W g1 0 H)=>hdec_good H g1 0 c1 hHl h1 W h2)
 have HHl:=Lib.hid hHl
 have HB:=Lib.hid hB
 obtain⟨P,eP⟩:∃ z,z=prf s b:=⟨_,rfl⟩
 rw[←eP] at KP KRP hPs
 clear eP hp hs hsb hHb hA hG hT
 by_cases h2:n=208
 ·subst h2
  obtain⟨g0,o0,rfl,hBy⟩:∃ g0 o0,p=some ⟨g0,o0,none⟩∧BytesAt w g0 o0 l:=by
   rcases hB0 with h | h
   ·rw[h] at hn;cases hn
   ·exact h
  have hl:=hn.symm
  have hXs:=bysA_size' hl
  have hY:=rhA_size (.slice (some ⟨g0,o0+32,none⟩) 160 (cap-32)) (show (l.take 32).length=32 by simp[hl]) (show (l.drop 192).length=16 by simp[hl])
  have hY1:=rhA_one (l.take 32) (l.drop 192) (some ⟨g0,o0+32,none⟩) 160 (cap-32)
  have HX:=Lib.hid (fun (W:World) (h:Below w.heap.size w W)=>show BytesAt W g0 o0 l from hBy.grow h)
  have KD:=Lib.hid (fun (W:World) (h:Below w.heap.size w W)=>hdec_good l g0 o0 cap hl (by omega) W (HX.out W h))
  have KR:=Lib.hid (fun (W:World) (h:Below w.heap.size w W)=>rhdec_good l g0 o0 cap hl (by omega) W (HX.out W h))
  have KX:=Lib.hid (fun (W:World)=>ours10_c l hl W)
  have KEX:=Lib.hid (fun (W:World)=>hencode_c l hl W)
  have hbl:((l.drop 32).take 160).length=160:=by simp[hl]
  have KN:=Lib.hid (fun (W:World) (h:Below w.heap.size w W)=>none10_some (l.take 32) ((l.drop 32).take 160) (l.drop 192) (some ⟨g0,o0+32,none⟩) 160 (cap-32) (by simp[hl]) (by simp[hl]) hbl.symm (by decide) (fun h=>by cases h) W (Bs0.some ((HX.out W h).mid 32 160)))
  have KS:=Lib.hid (fun (W:World) (p1 p2:Option Addr) (c1 c2:Nat) (h1:Bs0 W p1 ((l.drop 32).take 160)) (h2:Bs0 W p2 ((l.drop 32).take 160))=>same10_c (l.take 32) ((l.drop 32).take 160) (l.drop 192) p1 p2 ((l.drop 32).take 160).length c1 c2 (by simp[hl]) (by simp[hl]) rfl W h1 h2)
  have HBX:=Lib.hid (fun (W:World) (h:Below w.heap.size w W)=>Bs0.some (HX.out W h))
  have HXl:=Lib.hid hn
  generalize rhA (l.take 32) (.slice (some ⟨g0,o0+32,none⟩) 160 (cap-32)) (l.drop 192)=Y at *
  generalize l.take 32=a1 at *
  generalize (l.drop 32).take 160=b1 at *
  generalize l.drop 192=g1 at *
  clear hB0 hBy hn hl hc hbl hHl HX
  obtain⟨X,eX⟩:∃ z,z=l:=⟨_,rfl⟩
  rw[←eX] at KD KX KEX HBX HXl hXs
  clear eX
  go_enter Tryz.func5,Tryz.ntmps5
  go_wp2_with fail
  generalize hW:World.alloc _ _=W0
  have R0x0:=Lib.hid (show RowAt W0 (w.heap.size) (bysA s) by rw[←hW];clear hW;exact⟨by go_simp,by first | (go_simp;done) | (go_simp;rfl),by go_simp⟩)
  have R0x1:=Lib.hid (show RowAt W0 (w.heap.size+1) (bysA H) by rw[←hW];clear hW;exact⟨by go_simp,by first | (go_simp;done) | (go_simp;rfl),by go_simp⟩)
  have B0:=Lib.hid (show Below w.heap.size w W0 by rw[←hW];repeat (first | apply below_alloc | exact Below.refl _ _))
  clear hW
  have l_sv:w.heap.size≤w.heap.size:=by omega
  have l_hh:w.heap.size≤w.heap.size+1:=by omega
  have n_sv_hh:w.heap.size≠w.heap.size+1:=by omega
  generalize w.heap.size+1=hh at *
  obtain⟨sv,esv⟩:∃ z,z=w.heap.size:=⟨_,rfl⟩
  rw[←esv] at R0x0 n_sv_hh ⊢
  have l_sv:w.heap.size≤sv:=by rw[esv];exact Nat.le_refl _
  clear esv
  refine(alive10_c W0 (HT.out.grow B0.out)).mono ?_
  rintro e W1 ⟨rfl,hb1⟩
  have R1x0:=Lib.hid (R0x0.out.grow hb1)
  have R1x1:=Lib.hid (R0x1.out.grow hb1)
  have B1:=Lib.hid (B0.out.trans (hb1.mono B0.out.size))
  clear hb1 B0 R0x0 R0x1
  obtain⟨R1x0a,R1x0b,R1x0c⟩:=R1x0.out
  obtain⟨R1x1a,R1x1b,R1x1c⟩:=R1x1.out
  go_wp2_with fail
  refine(KD.out _ B1.out).mono ?_
  rintro e W2 ⟨rfl,hb2⟩
  clear R1x0a R1x0b R1x0c R1x1a R1x1b R1x1c
  have R2x0:=Lib.hid (R1x0.out.grow hb2)
  have R2x1:=Lib.hid (R1x1.out.grow hb2)
  have B2:=Lib.hid (B1.out.trans (hb2.mono B1.out.size))
  clear hb2 B1 R1x0 R1x1
  obtain⟨R2x0a,R2x0b,R2x0c⟩:=R2x0.out
  obtain⟨R2x1a,R2x1b,R2x1c⟩:=R2x1.out
  go_wp2_with fail
  have n_sv_xv:sv≠W2.heap.size:=Nat.ne_of_lt R2x0.out.2.2
  have n_hh_xv:hh≠W2.heap.size:=Nat.ne_of_lt R2x1.out.2.2
  have l_xv:w.heap.size≤W2.heap.size:=B2.out.size
  have hb3:=below_alloc (Below.refl W2.heap.size W2) (.cells (bysA X) 31)
  have N3:=Lib.hid (RowAt.of (block_new W2 (.cells (bysA X) 31)))
  have R3x0:=Lib.hid (R2x0.out.grow hb3)
  have R3x1:=Lib.hid (R2x1.out.grow hb3)
  have B3:=Lib.hid (B2.out.trans (hb3.mono B2.out.size))
  clear hb3 B2 R2x0 R2x1 R2x0a R2x0b R2x0c R2x1a R2x1b R2x1c
  generalize W2.heap.size=xv at *
  generalize W2.alloc (.cells (bysA X) 31)=W3 at *
  obtain⟨R3x0a,R3x0b,R3x0c⟩:=R3x0.out
  obtain⟨R3x1a,R3x1b,R3x1c⟩:=R3x1.out
  obtain⟨N3a,N3b,N3c⟩:=N3.out
  go_wp2_with fail
  refine(KR.out _ B3.out).mono ?_
  rintro e W4 ⟨rfl,hb4⟩
  clear R3x0a R3x0b R3x0c R3x1a R3x1b R3x1c N3a N3b N3c
  have R4x0:=Lib.hid (R3x0.out.grow hb4)
  have R4x1:=Lib.hid (R3x1.out.grow hb4)
  have R4x2:=Lib.hid (N3.out.grow hb4)
  have B4:=Lib.hid (B3.out.trans (hb4.mono B3.out.size))
  clear hb4 B3 R3x0 R3x1 N3
  obtain⟨R4x0a,R4x0b,R4x0c⟩:=R4x0.out
  obtain⟨R4x1a,R4x1b,R4x1c⟩:=R4x1.out
  obtain⟨R4x2a,R4x2b,R4x2c⟩:=R4x2.out
  go_wp2_with fail
  have n_sv_yv:sv≠W4.heap.size:=Nat.ne_of_lt R4x0.out.2.2
  have n_hh_yv:hh≠W4.heap.size:=Nat.ne_of_lt R4x1.out.2.2
  have n_xv_yv:xv≠W4.heap.size:=Nat.ne_of_lt R4x2.out.2.2
  have l_yv:w.heap.size≤W4.heap.size:=B4.out.size
  have hb5:=below_alloc (Below.refl W4.heap.size W4) (.cells (Y) 40)
  have N5:=Lib.hid (RowAt.of (block_new W4 (.cells (Y) 40)))
  have R5x0:=Lib.hid (R4x0.out.grow hb5)
  have R5x1:=Lib.hid (R4x1.out.grow hb5)
  have R5x2:=Lib.hid (R4x2.out.grow hb5)
  have B5:=Lib.hid (B4.out.trans (hb5.mono B4.out.size))
  clear hb5 B4 R4x0 R4x1 R4x2 R4x0a R4x0b R4x0c R4x1a R4x1b R4x1c R4x2a R4x2b R4x2c
  generalize W4.heap.size=yv at *
  generalize W4.alloc (.cells (Y) 40)=W5 at *
  obtain⟨R5x0a,R5x0b,R5x0c⟩:=R5x0.out
  obtain⟨R5x1a,R5x1b,R5x1c⟩:=R5x1.out
  obtain⟨R5x2a,R5x2b,R5x2c⟩:=R5x2.out
  obtain⟨N5a,N5b,N5c⟩:=N5.out
  go_wp2_with fail
  refine(KEn.out _).mono ?_
  rintro e W6 ⟨v,rfl,ho,hb6⟩
  clear R5x0a R5x0b R5x0c R5x1a R5x1b R5x1c R5x2a R5x2b R5x2c N5a N5b N5c
  have R6x0:=Lib.hid (R5x0.out.grow hb6)
  have R6x1:=Lib.hid (R5x1.out.grow hb6)
  have R6x2:=Lib.hid (R5x2.out.grow hb6)
  have R6x3:=Lib.hid (N5.out.grow hb6)
  have B6:=Lib.hid (B5.out.trans (hb6.mono B5.out.size))
  clear hb6 B5 R5x0 R5x1 R5x2 N5
  have hv:=ho
  obtain⟨gq,cq,rfl,_,hg1,hc1⟩:=ho.addr HHl.out (by decide)
  have hby:=hv.bytes hg1
  clear ho hv
  obtain⟨R6x0a,R6x0b,R6x0c⟩:=R6x0.out
  obtain⟨R6x1a,R6x1b,R6x1c⟩:=R6x1.out
  obtain⟨R6x2a,R6x2b,R6x2c⟩:=R6x2.out
  obtain⟨R6x3a,R6x3b,R6x3c⟩:=R6x3.out
  go_wp2_with fail
  refine(KZ.out _ _ _ hc1 hby).mono ?_
  rintro e W7 ⟨rfl,hb7⟩
  clear R6x0a R6x0b R6x0c R6x1a R6x1b R6x1c R6x2a R6x2b R6x2c R6x3a R6x3b R6x3c
  have R7x0:=Lib.hid (R6x0.out.grow hb7)
  have R7x1:=Lib.hid (R6x1.out.grow hb7)
  have R7x2:=Lib.hid (R6x2.out.grow hb7)
  have R7x3:=Lib.hid (R6x3.out.grow hb7)
  have B7:=Lib.hid (B6.out.trans (hb7.mono B6.out.size))
  clear hb7 B6 R6x0 R6x1 R6x2 R6x3
  clear hby hc1 hg1
  obtain⟨R7x0a,R7x0b,R7x0c⟩:=R7x0.out
  obtain⟨R7x1a,R7x1b,R7x1c⟩:=R7x1.out
  obtain⟨R7x2a,R7x2b,R7x2c⟩:=R7x2.out
  obtain⟨R7x3a,R7x3b,R7x3c⟩:=R7x3.out
  go_wp2_with fail
  have n_sv_zv:sv≠W7.heap.size:=Nat.ne_of_lt R7x0.out.2.2
  have n_hh_zv:hh≠W7.heap.size:=Nat.ne_of_lt R7x1.out.2.2
  have n_xv_zv:xv≠W7.heap.size:=Nat.ne_of_lt R7x2.out.2.2
  have n_yv_zv:yv≠W7.heap.size:=Nat.ne_of_lt R7x3.out.2.2
  have l_zv:w.heap.size≤W7.heap.size:=B7.out.size
  have hb8:=below_alloc (Below.refl W7.heap.size W7) (.cells (bysA H) 31)
  have N8:=Lib.hid (RowAt.of (block_new W7 (.cells (bysA H) 31)))
  have R8x0:=Lib.hid (R7x0.out.grow hb8)
  have R8x1:=Lib.hid (R7x1.out.grow hb8)
  have R8x2:=Lib.hid (R7x2.out.grow hb8)
  have R8x3:=Lib.hid (R7x3.out.grow hb8)
  have B8:=Lib.hid (B7.out.trans (hb8.mono B7.out.size))
  clear hb8 B7 R7x0 R7x1 R7x2 R7x3 R7x0a R7x0b R7x0c R7x1a R7x1b R7x1c R7x2a R7x2b R7x2c R7x3a R7x3b R7x3c
  generalize W7.heap.size=zv at *
  generalize W7.alloc (.cells (bysA H) 31)=W8 at *
  refine wp_region_grows W8 52 (fun w w'=>Below w.heap.size w w') (listR [fixV (.agg (bysA s)),fixV (.pointer (some ⟨hh,32,none⟩)),fixV (.agg (bysA b)),fixV (.agg (bysA P)),fixV (.agg (bysA s)),fixV (.pointer (some ⟨hh,32,none⟩)),fixV (.slice (some ⟨hh,32,none⟩) 160 160),fixV (.agg (bysA P)),fixV (.bool true),fixV (.bool true),fixV (.agg (bysA H)),ownV W8.heap.size (H),fixV (.string (toS H)),fixV (.agg (bysA H)),rhV a b g,ownV W8.heap.size (H),fixV (.string (toS H)),fixV (.bool true),fixV (.bool true),fixV (.bool true),fixV (.agg (bysA X)),rhV a1 b1 g1,fixV (.agg Y),rhV a1 b1 g1,fixV (.bool true),fixV (.bool true),fixV (.bool true),fixV (.int .i64 0),fixV (.int .i64 0),fixV (.bool true),fixV (.bool true),fixV (.bool true),fixV (.agg (bysA H)),fixV (.agg (bysA H)),fixV (.bool true),fixV (.bool true),fixV (.bool true),fixV (.int .i64 0),fixV (.bool true),fixV (.bool true),fixV (.bool true),fixV (.int .i64 0),fixV (.bool false),fixV (.bool false),fixV (.agg (bysA X)),ownV W8.heap.size (X),fixV (.string (toS X)),fixV (.slice (some ⟨g0,o0,none⟩) 208 cap),fixV (.string (toS X)),fixV (.bool true),fixV (.bool true),fixV (.bool true)]) [52] [0,1,2,3,4,5,6,7,8,9,10,11,12,13,14,15,16,17,18,19,20,21,22,23,24,25,26,27,28,29,30,31,32,33,34,35,36,37,38,39,40,41,42,43,44,45,46,47,48,49,50,51] [some 34,some 35,some 36,some 37,some 38,some 39,some 40,some 41,some 42,some 43,some 44,some 45,some 46,some 47,some 48,some 49,some 50,some 51,some 52,some 53,some 54,some 55,some 56,some 57,some 58,some 59,some 60,some 61,some 62,some 63,some 64,some 65,some 66,some 67,some 68,some 69,some 70,some 71,some 72,some 73,some 74,some 75,some 76,some 77,some 78,some 79,some 80,some 81,some 82,some 83,some 84,some 85] (by kernel_rfl) (by kernel_rfl) (by kernel_rfl) (by kernel_rfl) (by first | exact(Below.refl _ _).drew | exact Below.refl _ _) (fun w w' h h'=>h.trans (h'.mono h.size)) (listR_mono ⟨stays_fix _,stays_fix _,stays_fix _,stays_fix _,stays_fix _,stays_fix _,stays_fix _,stays_fix _,stays_fix _,stays_fix _,stays_fix _,stays_own _ _,stays_fix _,stays_fix _,stays_rh _ _ _,stays_own _ _,stays_fix _,stays_fix _,stays_fix _,stays_fix _,stays_fix _,stays_rh _ _ _,stays_fix _,stays_rh _ _ _,stays_fix _,stays_fix _,stays_fix _,stays_fix _,stays_fix _,stays_fix _,stays_fix _,stays_fix _,stays_fix _,stays_fix _,stays_fix _,stays_fix _,stays_fix _,stays_fix _,stays_fix _,stays_fix _,stays_fix _,stays_fix _,stays_fix _,stays_fix _,stays_fix _,stays_own _ _,stays_fix _,stays_fix _,stays_fix _,stays_fix _,stays_fix _,stays_fix _,trivial⟩) ?_
  intro vals
  simp only[List.take_succ_cons,List.take_zero]
  refine⟨(grow_val [] [] (by kernel_rfl) rfl (fun K w hb hdq hK=>?_)),?_⟩
  ·obtain⟨x1,x2,x3⟩:=R8x0.out.grow hb
   simp only[putZ]
   refine⟨wanted_none rfl,?_⟩
   go_simp
   exact hK _ _ _ (Below.refl _ _) rfl
  refine⟨(grow_val [] [] (by kernel_rfl) rfl (fun K w hb hdq hK=>?_)),?_⟩
  ·simp only[putZ]
   refine⟨wanted_none rfl,?_⟩
   go_simp
   exact hK _ _ _ (Below.refl _ _) rfl
  refine⟨(grow_val [1] [some 35] (by kernel_rfl) (by kernel_rfl) (fun K w hb hdq hK=>?_)),?_⟩
  ·have d1:vals 1=.pointer (some ⟨hh,32,none⟩):=hdq 1 (by simp)
   obtain⟨x1,x2,x3⟩:=R8x1.out.grow hb
   simp only[List.map_cons,List.map_nil,putZ,d1]
   refine⟨wanted_none rfl,?_⟩
   go_simp
   exact hK _ _ _ (Below.refl _ _) rfl
  refine⟨(grow_call [0,2] [some 34,some 36] (by kernel_rfl) (by kernel_rfl) (fun K w hb hdq hK=>?_)),?_⟩
  ·have d0:vals 0=.agg (bysA s):=hdq 0 (by simp)
   have d2:vals 2=.agg (bysA b):=hdq 2 (by simp)
   simp only[List.map_cons,List.map_nil,putZ,d0,d2]
   refine⟨wanted_none rfl,?_⟩
   go_simp
   refine(KP.out w (HT.out.grow (B8.out.trans (hb.mono B8.out.size)))).mono ?_
   rintro e w' ⟨rfl,hb'⟩
   exact⟨_,rfl,hK _ _ hb' rfl⟩
  refine⟨(grow_val [] [] (by kernel_rfl) rfl (fun K w hb hdq hK=>?_)),?_⟩
  ·obtain⟨x1,x2,x3⟩:=R8x0.out.grow hb
   simp only[putZ]
   refine⟨wanted_none rfl,?_⟩
   go_simp
   exact hK _ _ _ (Below.refl _ _) rfl
  refine⟨(grow_val [] [] (by kernel_rfl) rfl (fun K w hb hdq hK=>?_)),?_⟩
  ·simp only[putZ]
   refine⟨wanted_none rfl,?_⟩
   go_simp
   exact hK _ _ _ (Below.refl _ _) rfl
  refine⟨(grow_val [5] [some 39] (by kernel_rfl) (by kernel_rfl) (fun K w hb hdq hK=>?_)),?_⟩
  ·have d5:vals 5=.pointer (some ⟨hh,32,none⟩):=hdq 5 (by simp)
   simp only[List.map_cons,List.map_nil,putZ,d5]
   refine⟨wanted_none rfl,?_⟩
   go_simp
   exact hK _ _ _ (Below.refl _ _) rfl
  refine⟨(grow_call [4,6] [some 38,some 40] (by kernel_rfl) (by kernel_rfl) (fun K w hb hdq hK=>?_)),?_⟩
  ·have d4:vals 4=.agg (bysA s):=hdq 4 (by simp)
   have d6:vals 6=.slice (some ⟨hh,32,none⟩) 160 160:=hdq 6 (by simp)
   have hy:=(bytes_row (R8x1.out.grow hb)).mid 32 160
   rw[Nat.zero_add,HB.out] at hy
   simp only[List.map_cons,List.map_nil,putZ,d4,d6]
   refine⟨wanted_none rfl,?_⟩
   go_simp
   refine(KRP.out w _ (Bs0.some hy) (fun h=>by cases h)).mono ?_
   rintro e w' ⟨rfl,hb'⟩
   exact⟨_,rfl,hK _ _ hb' rfl⟩
  refine⟨(grow_val [3,7] [some 37,some 41] (by kernel_rfl) (by kernel_rfl) (fun K w hb hdq hK=>?_)),?_⟩
  ·have d3:vals 3=.agg (bysA P):=hdq 3 (by simp)
   have d7:vals 7=.agg (bysA P):=hdq 7 (by simp)
   simp only[List.map_cons,List.map_nil,putZ,d3,d7]
   refine⟨wanted_none rfl,?_⟩
   go_simp
   exact hK _ _ _ (Below.refl _ _) rfl
  refine⟨(grow_val [8] [some 42] (by kernel_rfl) (by kernel_rfl) (fun K w hb hdq hK=>?_)),?_⟩
  ·have d8:vals 8=.bool true:=hdq 8 (by simp)
   simp only[List.map_cons,List.map_nil,putZ,d8]
   refine⟨wanted_none rfl,?_⟩
   go_simp
   exact hK _ _ _ (Below.refl _ _) rfl
  refine⟨(grow_val [9] [some 43] (by kernel_rfl) (by kernel_rfl) (fun K w hb hdq hK=>?_)),?_⟩
  ·have d9:vals 9=.bool true:=hdq 9 (by simp)
   obtain⟨x1,x2,x3⟩:=R8x1.out.grow hb
   simp only[List.map_cons,List.map_nil,putZ,d9]
   refine⟨wanted_some rfl rfl rfl,?_⟩
   go_simp
   exact hK _ _ _ (Below.refl _ _) rfl
  refine⟨(grow_call [9,10] [some 43,some 44] (by kernel_rfl) (by kernel_rfl) (fun K w hb hdq hK=>?_)),?_⟩
  ·have d9:vals 9=.bool true:=hdq 9 (by simp)
   have d10:vals 10=.agg (bysA H):=hdq 10 (by simp)
   simp only[List.map_cons,List.map_nil,putZ,d9,d10]
   refine⟨wanted_some rfl rfl rfl,?_⟩
   go_simp
   refine(KEn.out w).mono ?_
   rintro e w' ⟨u,rfl,ho,hb'⟩
   exact⟨_,rfl,hK _ _ hb' (ho.base hb.size)⟩
  refine⟨(grow_val [9,11] [some 43,some 45] (by kernel_rfl) (by kernel_rfl) (fun K w hb hdq hK=>?_)),?_⟩
  ·have d9:vals 9=.bool true:=hdq 9 (by simp)
   obtain⟨p11,c11,d11,y11,q11,z11⟩:=OwnB.bs (show OwnB w W8.heap.size (vals 11) (H) from hdq 11 (by simp))
   have hv:=run_cvBS (c:=c11) y11 rfl
   simp only[List.map_cons,List.map_nil,putZ,d9,d11]
   refine⟨wanted_some rfl rfl rfl,?_⟩
   go_simp
   exact hK _ _ _ (Below.refl _ _) rfl
  refine⟨(grow_val [9] [some 43] (by kernel_rfl) (by kernel_rfl) (fun K w hb hdq hK=>?_)),?_⟩
  ·have d9:vals 9=.bool true:=hdq 9 (by simp)
   obtain⟨x1,x2,x3⟩:=R8x1.out.grow hb
   simp only[List.map_cons,List.map_nil,putZ,d9]
   refine⟨wanted_some rfl rfl rfl,?_⟩
   go_simp
   exact hK _ _ _ (Below.refl _ _) rfl
  refine⟨(grow_call [9,13] [some 43,some 47] (by kernel_rfl) (by kernel_rfl) (fun K w hb hdq hK=>?_)),?_⟩
  ·have d9:vals 9=.bool true:=hdq 9 (by simp)
   have d13:vals 13=.agg (bysA H):=hdq 13 (by simp)
   simp only[List.map_cons,List.map_nil,putZ,d9,d13]
   refine⟨wanted_some rfl rfl rfl,?_⟩
   go_simp
   refine(KO.out w).mono ?_
   rintro e w' ⟨v,rfl,ho,hb'⟩
   exact⟨_,rfl,hK _ _ hb' ho⟩
  refine⟨(grow_call [9,14] [some 43,some 48] (by kernel_rfl) (by kernel_rfl) (fun K w hb hdq hK=>?_)),?_⟩
  ·have d9:vals 9=.bool true:=hdq 9 (by simp)
   obtain⟨p14,c14,d14,y14,z14⟩:IsRH w (vals 14) a b g:=hdq 14 (by simp)
   simp only[List.map_cons,List.map_nil,putZ,d9,d14]
   refine⟨wanted_some rfl rfl rfl,?_⟩
   go_simp
   refine(KRE.out w p14 c14 y14 z14).mono ?_
   rintro e w' ⟨u,rfl,ho,hb'⟩
   exact⟨_,rfl,hK _ _ hb' (ho.base hb.size)⟩
  refine⟨(grow_val [9,15] [some 43,some 49] (by kernel_rfl) (by kernel_rfl) (fun K w hb hdq hK=>?_)),?_⟩
  ·have d9:vals 9=.bool true:=hdq 9 (by simp)
   obtain⟨p15,c15,d15,y15,q15,z15⟩:=OwnB.bs (show OwnB w W8.heap.size (vals 15) (H) from hdq 15 (by simp))
   have hv:=run_cvBS (c:=c15) y15 rfl
   simp only[List.map_cons,List.map_nil,putZ,d9,d15]
   refine⟨wanted_some rfl rfl rfl,?_⟩
   go_simp
   exact hK _ _ _ (Below.refl _ _) rfl
  refine⟨(grow_val [9,12,16] [some 43,some 46,some 50] (by kernel_rfl) (by kernel_rfl) (fun K w hb hdq hK=>?_)),?_⟩
  ·have d9:vals 9=.bool true:=hdq 9 (by simp)
   have d12:vals 12=.string (toS H):=hdq 12 (by simp)
   have d16:vals 16=.string (toS H):=hdq 16 (by simp)
   simp only[List.map_cons,List.map_nil,putZ,d9,d12,d16]
   refine⟨wanted_some rfl rfl rfl,?_⟩
   go_simp
   exact hK _ _ _ (Below.refl _ _) rfl
  refine⟨(grow_val [9,17] [some 43,some 51] (by kernel_rfl) (by kernel_rfl) (fun K w hb hdq hK=>?_)),?_⟩
  ·have d9:vals 9=.bool true:=hdq 9 (by simp)
   have d17:vals 17=.bool true:=hdq 17 (by simp)
   simp only[List.map_cons,List.map_nil,putZ,d9,d17]
   refine⟨wanted_none rfl,?_⟩
   go_simp
   exact hK _ _ _ (Below.refl _ _) rfl
  refine⟨(grow_val [18] [some 52] (by kernel_rfl) (by kernel_rfl) (fun K w hb hdq hK=>?_)),?_⟩
  ·have d18:vals 18=.bool true:=hdq 18 (by simp)
   simp only[List.map_cons,List.map_nil,putZ,d18]
   refine⟨wanted_none rfl,?_⟩
   go_simp
   exact hK _ _ _ (Below.refl _ _) rfl
  refine⟨(grow_val [19] [some 53] (by kernel_rfl) (by kernel_rfl) (fun K w hb hdq hK=>?_)),?_⟩
  ·have d19:vals 19=.bool true:=hdq 19 (by simp)
   obtain⟨x1,x2,x3⟩:=R8x2.out.grow hb
   simp only[List.map_cons,List.map_nil,putZ,d19]
   refine⟨wanted_some rfl rfl rfl,?_⟩
   go_simp
   exact hK _ _ _ (Below.refl _ _) rfl
  refine⟨(grow_call [19,20] [some 53,some 54] (by kernel_rfl) (by kernel_rfl) (fun K w hb hdq hK=>?_)),?_⟩
  ·have d19:vals 19=.bool true:=hdq 19 (by simp)
   have d20:vals 20=.agg (bysA X):=hdq 20 (by simp)
   simp only[List.map_cons,List.map_nil,putZ,d19,d20]
   refine⟨wanted_some rfl rfl rfl,?_⟩
   go_simp
   refine(KX.out w).mono ?_
   rintro e w' ⟨v,rfl,ho,hb'⟩
   exact⟨_,rfl,hK _ _ hb' ho⟩
  refine⟨(grow_val [19] [some 53] (by kernel_rfl) (by kernel_rfl) (fun K w hb hdq hK=>?_)),?_⟩
  ·have d19:vals 19=.bool true:=hdq 19 (by simp)
   obtain⟨x1,x2,x3⟩:=R8x3.out.grow hb
   simp only[List.map_cons,List.map_nil,putZ,d19]
   refine⟨wanted_some rfl rfl rfl,?_⟩
   go_simp
   exact hK _ _ _ (Below.refl _ _) rfl
  refine⟨(grow_call [19,22] [some 53,some 56] (by kernel_rfl) (by kernel_rfl) (fun K w hb hdq hK=>?_)),?_⟩
  ·have d19:vals 19=.bool true:=hdq 19 (by simp)
   have d22:vals 22=.agg Y:=hdq 22 (by simp)
   simp only[List.map_cons,List.map_nil,putZ,d19,d22]
   refine⟨wanted_some rfl rfl rfl,?_⟩
   go_simp
   refine(KN.out w (B8.out.trans (hb.mono B8.out.size))).mono ?_
   rintro e w' ⟨v,rfl,ho,hb'⟩
   exact⟨_,rfl,hK _ _ hb' ho⟩
  refine⟨(grow_call [19,21,23] [some 53,some 55,some 57] (by kernel_rfl) (by kernel_rfl) (fun K w hb hdq hK=>?_)),?_⟩
  ·have d19:vals 19=.bool true:=hdq 19 (by simp)
   obtain⟨p21,c21,d21,y21,z21⟩:IsRH w (vals 21) a1 b1 g1:=hdq 21 (by simp)
   obtain⟨p23,c23,d23,y23,z23⟩:IsRH w (vals 23) a1 b1 g1:=hdq 23 (by simp)
   simp only[List.map_cons,List.map_nil,putZ,d19,d21,d23]
   refine⟨wanted_some rfl rfl rfl,?_⟩
   go_simp
   refine(KS.out w _ _ _ _ y21 y23).mono ?_
   rintro e w' ⟨rfl,hb'⟩
   exact⟨_,rfl,hK _ _ hb' rfl⟩
  refine⟨(grow_val [19,24] [some 53,some 58] (by kernel_rfl) (by kernel_rfl) (fun K w hb hdq hK=>?_)),?_⟩
  ·have d19:vals 19=.bool true:=hdq 19 (by simp)
   have d24:vals 24=.bool true:=hdq 24 (by simp)
   simp only[List.map_cons,List.map_nil,putZ,d19,d24]
   refine⟨wanted_none rfl,?_⟩
   go_simp
   exact hK _ _ _ (Below.refl _ _) rfl
  refine⟨(grow_val [25] [some 59] (by kernel_rfl) (by kernel_rfl) (fun K w hb hdq hK=>?_)),?_⟩
  ·have d25:vals 25=.bool true:=hdq 25 (by simp)
   simp only[List.map_cons,List.map_nil,putZ,d25]
   refine⟨wanted_none rfl,?_⟩
   go_simp
   exact hK _ _ _ (Below.refl _ _) rfl
  refine⟨(grow_val [26] [some 60] (by kernel_rfl) (by kernel_rfl) (fun K w hb hdq hK=>?_)),?_⟩
  ·have d26:vals 26=.bool true:=hdq 26 (by simp)
   simp only[List.map_cons,List.map_nil,putZ,d26]
   refine⟨wanted_some rfl rfl rfl,?_⟩
   go_simp
   exact hK _ _ _ (Below.refl _ _) rfl
  refine⟨(grow_val [26] [some 60] (by kernel_rfl) (by kernel_rfl) (fun K w hb hdq hK=>?_)),?_⟩
  ·have d26:vals 26=.bool true:=hdq 26 (by simp)
   simp only[List.map_cons,List.map_nil,putZ,d26]
   refine⟨wanted_some rfl rfl rfl,?_⟩
   go_simp
   exact hK _ _ _ (Below.refl _ _) rfl
  refine⟨(grow_val [26,27,28] [some 60,some 61,some 62] (by kernel_rfl) (by kernel_rfl) (fun K w hb hdq hK=>?_)),?_⟩
  ·have d26:vals 26=.bool true:=hdq 26 (by simp)
   have d27:vals 27=.int .i64 0:=hdq 27 (by simp)
   have d28:vals 28=.int .i64 0:=hdq 28 (by simp)
   simp only[List.map_cons,List.map_nil,putZ,d26,d27,d28]
   refine⟨wanted_some rfl rfl rfl,?_⟩
   go_simp
   exact hK _ _ _ (Below.refl _ _) rfl
  refine⟨(grow_val [26,29] [some 60,some 63] (by kernel_rfl) (by kernel_rfl) (fun K w hb hdq hK=>?_)),?_⟩
  ·have d26:vals 26=.bool true:=hdq 26 (by simp)
   have d29:vals 29=.bool true:=hdq 29 (by simp)
   simp only[List.map_cons,List.map_nil,putZ,d26,d29]
   refine⟨wanted_none rfl,?_⟩
   go_simp
   exact hK _ _ _ (Below.refl _ _) rfl
  refine⟨(grow_val [30] [some 64] (by kernel_rfl) (by kernel_rfl) (fun K w hb hdq hK=>?_)),?_⟩
  ·have d30:vals 30=.bool true:=hdq 30 (by simp)
   simp only[List.map_cons,List.map_nil,putZ,d30]
   refine⟨wanted_none rfl,?_⟩
   go_simp
   exact hK _ _ _ (Below.refl _ _) rfl
  refine⟨(grow_val [31] [some 65] (by kernel_rfl) (by kernel_rfl) (fun K w hb hdq hK=>?_)),?_⟩
  ·have d31:vals 31=.bool true:=hdq 31 (by simp)
   obtain⟨x1,x2,x3⟩:=N8.out.grow hb
   simp only[List.map_cons,List.map_nil,putZ,d31]
   refine⟨wanted_some rfl rfl rfl,?_⟩
   go_simp
   exact hK _ _ _ (Below.refl _ _) rfl
  refine⟨(grow_val [31] [some 65] (by kernel_rfl) (by kernel_rfl) (fun K w hb hdq hK=>?_)),?_⟩
  ·have d31:vals 31=.bool true:=hdq 31 (by simp)
   obtain⟨x1,x2,x3⟩:=R8x1.out.grow hb
   simp only[List.map_cons,List.map_nil,putZ,d31]
   refine⟨wanted_some rfl rfl rfl,?_⟩
   go_simp
   exact hK _ _ _ (Below.refl _ _) rfl
  refine⟨(grow_val [31,32,33] [some 65,some 66,some 67] (by kernel_rfl) (by kernel_rfl) (fun K w hb hdq hK=>?_)),?_⟩
  ·have d31:vals 31=.bool true:=hdq 31 (by simp)
   have d32:vals 32=.agg (bysA H):=hdq 32 (by simp)
   have d33:vals 33=.agg (bysA H):=hdq 33 (by simp)
   simp only[List.map_cons,List.map_nil,putZ,d31,d32,d33]
   refine⟨wanted_some rfl rfl rfl,?_⟩
   go_simp
   exact hK _ _ _ (Below.refl _ _) rfl
  refine⟨(grow_val [31,34] [some 65,some 68] (by kernel_rfl) (by kernel_rfl) (fun K w hb hdq hK=>?_)),?_⟩
  ·have d31:vals 31=.bool true:=hdq 31 (by simp)
   have d34:vals 34=.bool true:=hdq 34 (by simp)
   simp only[List.map_cons,List.map_nil,putZ,d31,d34]
   refine⟨wanted_none rfl,?_⟩
   go_simp
   exact hK _ _ _ (Below.refl _ _) rfl
  refine⟨(grow_val [35] [some 69] (by kernel_rfl) (by kernel_rfl) (fun K w hb hdq hK=>?_)),?_⟩
  ·have d35:vals 35=.bool true:=hdq 35 (by simp)
   simp only[List.map_cons,List.map_nil,putZ,d35]
   refine⟨wanted_none rfl,?_⟩
   go_simp
   exact hK _ _ _ (Below.refl _ _) rfl
  refine⟨(grow_val [36] [some 70] (by kernel_rfl) (by kernel_rfl) (fun K w hb hdq hK=>?_)),?_⟩
  ·have d36:vals 36=.bool true:=hdq 36 (by simp)
   simp only[List.map_cons,List.map_nil,putZ,d36]
   refine⟨wanted_some rfl rfl rfl,?_⟩
   go_simp
   exact hK _ _ _ (Below.refl _ _) rfl
  refine⟨(grow_val [36,37] [some 70,some 71] (by kernel_rfl) (by kernel_rfl) (fun K w hb hdq hK=>?_)),?_⟩
  ·have d36:vals 36=.bool true:=hdq 36 (by simp)
   have d37:vals 37=.int .i64 0:=hdq 37 (by simp)
   simp only[List.map_cons,List.map_nil,putZ,d36,d37]
   refine⟨wanted_some rfl rfl rfl,?_⟩
   go_simp
   exact hK _ _ _ (Below.refl _ _) rfl
  refine⟨(grow_val [36,38] [some 70,some 72] (by kernel_rfl) (by kernel_rfl) (fun K w hb hdq hK=>?_)),?_⟩
  ·have d36:vals 36=.bool true:=hdq 36 (by simp)
   have d38:vals 38=.bool true:=hdq 38 (by simp)
   simp only[List.map_cons,List.map_nil,putZ,d36,d38]
   refine⟨wanted_none rfl,?_⟩
   go_simp
   exact hK _ _ _ (Below.refl _ _) rfl
  refine⟨(grow_val [39] [some 73] (by kernel_rfl) (by kernel_rfl) (fun K w hb hdq hK=>?_)),?_⟩
  ·have d39:vals 39=.bool true:=hdq 39 (by simp)
   simp only[List.map_cons,List.map_nil,putZ,d39]
   refine⟨wanted_none rfl,?_⟩
   go_simp
   exact hK _ _ _ (Below.refl _ _) rfl
  refine⟨(grow_val [40] [some 74] (by kernel_rfl) (by kernel_rfl) (fun K w hb hdq hK=>?_)),?_⟩
  ·have d40:vals 40=.bool true:=hdq 40 (by simp)
   simp only[List.map_cons,List.map_nil,putZ,d40]
   refine⟨wanted_some rfl rfl rfl,?_⟩
   go_simp
   exact hK _ _ _ (Below.refl _ _) rfl
  refine⟨(grow_val [40,41] [some 74,some 75] (by kernel_rfl) (by kernel_rfl) (fun K w hb hdq hK=>?_)),?_⟩
  ·have d40:vals 40=.bool true:=hdq 40 (by simp)
   have d41:vals 41=.int .i64 0:=hdq 41 (by simp)
   simp only[List.map_cons,List.map_nil,putZ,d40,d41]
   refine⟨wanted_some rfl rfl rfl,?_⟩
   go_simp
   exact hK _ _ _ (Below.refl _ _) rfl
  refine⟨(grow_val [40,42] [some 74,some 76] (by kernel_rfl) (by kernel_rfl) (fun K w hb hdq hK=>?_)),?_⟩
  ·have d40:vals 40=.bool true:=hdq 40 (by simp)
   have d42:vals 42=.bool false:=hdq 42 (by simp)
   simp only[List.map_cons,List.map_nil,putZ,d40,d42]
   refine⟨wanted_some rfl rfl rfl,?_⟩
   go_simp
   exact hK _ _ _ (Below.refl _ _) rfl
  refine⟨(grow_val [43] [some 77] (by kernel_rfl) (by kernel_rfl) (fun K w hb hdq hK=>?_)),?_⟩
  ·have d43:vals 43=.bool false:=hdq 43 (by simp)
   obtain⟨x1,x2,x3⟩:=R8x2.out.grow hb
   simp only[List.map_cons,List.map_nil,putZ,d43]
   refine⟨wanted_some rfl rfl rfl,?_⟩
   go_simp
   exact hK _ _ _ (Below.refl _ _) rfl
  refine⟨(grow_call [43,44] [some 77,some 78] (by kernel_rfl) (by kernel_rfl) (fun K w hb hdq hK=>?_)),?_⟩
  ·have d43:vals 43=.bool false:=hdq 43 (by simp)
   have d44:vals 44=.agg (bysA X):=hdq 44 (by simp)
   simp only[List.map_cons,List.map_nil,putZ,d43,d44]
   refine⟨wanted_some rfl rfl rfl,?_⟩
   go_simp
   refine(KEX.out w).mono ?_
   rintro e w' ⟨u,rfl,ho,hb'⟩
   exact⟨_,rfl,hK _ _ hb' (ho.base hb.size)⟩
  refine⟨(grow_val [43,45] [some 77,some 79] (by kernel_rfl) (by kernel_rfl) (fun K w hb hdq hK=>?_)),?_⟩
  ·have d43:vals 43=.bool false:=hdq 43 (by simp)
   obtain⟨p45,c45,d45,y45,q45,z45⟩:=OwnB.bs (show OwnB w W8.heap.size (vals 45) (X) from hdq 45 (by simp))
   have hv:=run_cvBS (c:=c45) y45 rfl
   simp only[List.map_cons,List.map_nil,putZ,d43,d45]
   refine⟨wanted_some rfl rfl rfl,?_⟩
   go_simp
   exact hK _ _ _ (Below.refl _ _) rfl
  refine⟨(grow_val [43] [some 77] (by kernel_rfl) (by kernel_rfl) (fun K w hb hdq hK=>?_)),?_⟩
  ·have d43:vals 43=.bool false:=hdq 43 (by simp)
   simp only[List.map_cons,List.map_nil,putZ,d43]
   refine⟨wanted_some rfl rfl rfl,?_⟩
   go_simp
   exact hK _ _ _ (Below.refl _ _) rfl
  refine⟨(grow_val [43,47] [some 77,some 81] (by kernel_rfl) (by kernel_rfl) (fun K w hb hdq hK=>?_)),?_⟩
  ·have d43:vals 43=.bool false:=hdq 43 (by simp)
   have d47:vals 47=.slice (some ⟨g0,o0,none⟩) 208 cap:=hdq 47 (by simp)
   have hv:=run_cvBS (c:=cap) (HBX.out _ (B8.out.trans (hb.mono B8.out.size))) HXl.out
   simp only[List.map_cons,List.map_nil,putZ,d43,d47]
   refine⟨wanted_some rfl rfl rfl,?_⟩
   go_simp
   exact hK _ _ _ (Below.refl _ _) rfl
  refine⟨(grow_val [43,46,48] [some 77,some 80,some 82] (by kernel_rfl) (by kernel_rfl) (fun K w hb hdq hK=>?_)),?_⟩
  ·have d43:vals 43=.bool false:=hdq 43 (by simp)
   have d46:vals 46=.string (toS X):=hdq 46 (by simp)
   have d48:vals 48=.string (toS X):=hdq 48 (by simp)
   simp only[List.map_cons,List.map_nil,putZ,d43,d46,d48]
   refine⟨wanted_some rfl rfl rfl,?_⟩
   go_simp
   exact hK _ _ _ (Below.refl _ _) rfl
  refine⟨(grow_val [40,43,49] [some 74,some 77,some 83] (by kernel_rfl) (by kernel_rfl) (fun K w hb hdq hK=>?_)),?_⟩
  ·have d40:vals 40=.bool true:=hdq 40 (by simp)
   have d43:vals 43=.bool false:=hdq 43 (by simp)
   have d49:vals 49=.bool true:=hdq 49 (by simp)
   simp only[List.map_cons,List.map_nil,putZ,d40,d43,d49]
   refine⟨wanted_some rfl rfl rfl,?_⟩
   go_simp
   exact hK _ _ _ (Below.refl _ _) rfl
  refine⟨(grow_val [40,50] [some 74,some 84] (by kernel_rfl) (by kernel_rfl) (fun K w hb hdq hK=>?_)),?_⟩
  ·have d40:vals 40=.bool true:=hdq 40 (by simp)
   have d50:vals 50=.bool true:=hdq 50 (by simp)
   simp only[List.map_cons,List.map_nil,putZ,d40,d50]
   refine⟨wanted_none rfl,?_⟩
   go_simp
   exact hK _ _ _ (Below.refl _ _) rfl
  intro Wz hbz hR
  obtain d51:vals 51=.bool true:=hR 51 (by simp)
  clear hR
  simp only[List.map_cons,List.map_nil,putZ,d51,pick,List.getElem?_cons_succ,List.getElem?_cons_zero]
  generalize vals 0=q0
  generalize vals 1=q1
  generalize vals 2=q2
  generalize vals 3=q3
  generalize vals 4=q4
  generalize vals 5=q5
  generalize vals 6=q6
  generalize vals 7=q7
  generalize vals 8=q8
  generalize vals 9=q9
  generalize vals 10=q10
  generalize vals 11=q11
  generalize vals 12=q12
  generalize vals 13=q13
  generalize vals 14=q14
  generalize vals 15=q15
  generalize vals 16=q16
  generalize vals 17=q17
  generalize vals 18=q18
  generalize vals 19=q19
  generalize vals 20=q20
  generalize vals 21=q21
  generalize vals 22=q22
  generalize vals 23=q23
  generalize vals 24=q24
  generalize vals 25=q25
  generalize vals 26=q26
  generalize vals 27=q27
  generalize vals 28=q28
  generalize vals 29=q29
  generalize vals 30=q30
  generalize vals 31=q31
  generalize vals 32=q32
  generalize vals 33=q33
  generalize vals 34=q34
  generalize vals 35=q35
  generalize vals 36=q36
  generalize vals 37=q37
  generalize vals 38=q38
  generalize vals 39=q39
  generalize vals 40=q40
  generalize vals 41=q41
  generalize vals 42=q42
  generalize vals 43=q43
  generalize vals 44=q44
  generalize vals 45=q45
  generalize vals 46=q46
  generalize vals 47=q47
  generalize vals 48=q48
  generalize vals 49=q49
  generalize vals 50=q50
  have Bz:=Lib.hid (B8.out.trans (hbz.mono B8.out.size))
  clear hbz d51
  clear vals
  go_step
  go_simp
  go_wp2_with fail
  go_ret
  exact⟨rfl,Bz.out⟩
 ·have hXs:=hz208
  have hY:=rhdr_zero
  have hY1:=rhA_one (zs 32) (zs 16) none 0 0
  have KD:=Lib.hid (fun (W:World) (_:Below w.heap.size w W)=>hdec_bad p n cap h2 W)
  have KR:=Lib.hid (fun (W:World) (_:Below w.heap.size w W)=>rhdec_bad p n cap h2 W)
  have KX:=Lib.hid (fun (W:World)=>ours10_c (zs 208) (zs_length 208) W)
  rw[zs_parts.1,zs_parts.2.1,zs_parts.2.2] at KX
  have KN:=Lib.hid (fun (W:World) (_:Below w.heap.size w W)=>none10_nil (zs 32) (zs 16) (zs_length 32) (zs_length 16) W)
  have KS:=Lib.hid (fun (W:World) (p1 p2:Option Addr) (c1 c2:Nat) (h1:Bs0 W p1 (zs 160)) (h2:Bs0 W p2 (zs 160))=>same10_c (zs 32) (zs 160) (zs 16) p1 p2 (zs 160).length c1 c2 (zs_length 32) (zs_length 16) rfl W h1 h2)
  obtain⟨X,eX⟩:∃ z,z=zs 208:=⟨_,rfl⟩
  rw[←eX] at KD KX hXs
  clear eX
  generalize rhA (zs 32) (.slice none 0 0) (zs 16)=Y at *
  generalize zs 32=a1 at *
  generalize zs 160=b1 at *
  generalize zs 16=g1 at *
  clear hB0 hn hc hHl h2
  go_enter Tryz.func5,Tryz.ntmps5
  go_wp2_with fail
  generalize hW:World.alloc _ _=W0
  have R0x0:=Lib.hid (show RowAt W0 (w.heap.size) (bysA s) by rw[←hW];clear hW;exact⟨by go_simp,by first | (go_simp;done) | (go_simp;rfl),by go_simp⟩)
  have R0x1:=Lib.hid (show RowAt W0 (w.heap.size+1) (bysA H) by rw[←hW];clear hW;exact⟨by go_simp,by first | (go_simp;done) | (go_simp;rfl),by go_simp⟩)
  have B0:=Lib.hid (show Below w.heap.size w W0 by rw[←hW];repeat (first | apply below_alloc | exact Below.refl _ _))
  clear hW
  have l_sv:w.heap.size≤w.heap.size:=by omega
  have l_hh:w.heap.size≤w.heap.size+1:=by omega
  have n_sv_hh:w.heap.size≠w.heap.size+1:=by omega
  generalize w.heap.size+1=hh at *
  obtain⟨sv,esv⟩:∃ z,z=w.heap.size:=⟨_,rfl⟩
  rw[←esv] at R0x0 n_sv_hh ⊢
  have l_sv:w.heap.size≤sv:=by rw[esv];exact Nat.le_refl _
  clear esv
  refine(alive10_c W0 (HT.out.grow B0.out)).mono ?_
  rintro e W1 ⟨rfl,hb1⟩
  have R1x0:=Lib.hid (R0x0.out.grow hb1)
  have R1x1:=Lib.hid (R0x1.out.grow hb1)
  have B1:=Lib.hid (B0.out.trans (hb1.mono B0.out.size))
  clear hb1 B0 R0x0 R0x1
  obtain⟨R1x0a,R1x0b,R1x0c⟩:=R1x0.out
  obtain⟨R1x1a,R1x1b,R1x1c⟩:=R1x1.out
  go_wp2_with fail
  refine(KD.out _ B1.out).mono ?_
  rintro e W2 ⟨rfl,hb2⟩
  clear R1x0a R1x0b R1x0c R1x1a R1x1b R1x1c
  have R2x0:=Lib.hid (R1x0.out.grow hb2)
  have R2x1:=Lib.hid (R1x1.out.grow hb2)
  have B2:=Lib.hid (B1.out.trans (hb2.mono B1.out.size))
  clear hb2 B1 R1x0 R1x1
  obtain⟨R2x0a,R2x0b,R2x0c⟩:=R2x0.out
  obtain⟨R2x1a,R2x1b,R2x1c⟩:=R2x1.out
  go_wp2_with fail
  have n_sv_xv:sv≠W2.heap.size:=Nat.ne_of_lt R2x0.out.2.2
  have n_hh_xv:hh≠W2.heap.size:=Nat.ne_of_lt R2x1.out.2.2
  have l_xv:w.heap.size≤W2.heap.size:=B2.out.size
  have hb3:=below_alloc (Below.refl W2.heap.size W2) (.cells (bysA X) 31)
  have N3:=Lib.hid (RowAt.of (block_new W2 (.cells (bysA X) 31)))
  have R3x0:=Lib.hid (R2x0.out.grow hb3)
  have R3x1:=Lib.hid (R2x1.out.grow hb3)
  have B3:=Lib.hid (B2.out.trans (hb3.mono B2.out.size))
  clear hb3 B2 R2x0 R2x1 R2x0a R2x0b R2x0c R2x1a R2x1b R2x1c
  generalize W2.heap.size=xv at *
  generalize W2.alloc (.cells (bysA X) 31)=W3 at *
  obtain⟨R3x0a,R3x0b,R3x0c⟩:=R3x0.out
  obtain⟨R3x1a,R3x1b,R3x1c⟩:=R3x1.out
  obtain⟨N3a,N3b,N3c⟩:=N3.out
  go_wp2_with fail
  refine(KR.out _ B3.out).mono ?_
  rintro e W4 ⟨rfl,hb4⟩
  clear R3x0a R3x0b R3x0c R3x1a R3x1b R3x1c N3a N3b N3c
  have R4x0:=Lib.hid (R3x0.out.grow hb4)
  have R4x1:=Lib.hid (R3x1.out.grow hb4)
  have R4x2:=Lib.hid (N3.out.grow hb4)
  have B4:=Lib.hid (B3.out.trans (hb4.mono B3.out.size))
  clear hb4 B3 R3x0 R3x1 N3
  obtain⟨R4x0a,R4x0b,R4x0c⟩:=R4x0.out
  obtain⟨R4x1a,R4x1b,R4x1c⟩:=R4x1.out
  obtain⟨R4x2a,R4x2b,R4x2c⟩:=R4x2.out
  go_wp2_with fail
  have n_sv_yv:sv≠W4.heap.size:=Nat.ne_of_lt R4x0.out.2.2
  have n_hh_yv:hh≠W4.heap.size:=Nat.ne_of_lt R4x1.out.2.2
  have n_xv_yv:xv≠W4.heap.size:=Nat.ne_of_lt R4x2.out.2.2
  have l_yv:w.heap.size≤W4.heap.size:=B4.out.size
  have hb5:=below_alloc (Below.refl W4.heap.size W4) (.cells (Y) 40)
  have N5:=Lib.hid (RowAt.of (block_new W4 (.cells (Y) 40)))
  have R5x0:=Lib.hid (R4x0.out.grow hb5)
  have R5x1:=Lib.hid (R4x1.out.grow hb5)
  have R5x2:=Lib.hid (R4x2.out.grow hb5)
  have B5:=Lib.hid (B4.out.trans (hb5.mono B4.out.size))
  clear hb5 B4 R4x0 R4x1 R4x2 R4x0a R4x0b R4x0c R4x1a R4x1b R4x1c R4x2a R4x2b R4x2c
  generalize W4.heap.size=yv at *
  generalize W4.alloc (.cells (Y) 40)=W5 at *
  obtain⟨R5x0a,R5x0b,R5x0c⟩:=R5x0.out
  obtain⟨R5x1a,R5x1b,R5x1c⟩:=R5x1.out
  obtain⟨R5x2a,R5x2b,R5x2c⟩:=R5x2.out
  obtain⟨N5a,N5b,N5c⟩:=N5.out
  go_wp2_with fail
  refine(KEn.out _).mono ?_
  rintro e W6 ⟨v,rfl,ho,hb6⟩
  clear R5x0a R5x0b R5x0c R5x1a R5x1b R5x1c R5x2a R5x2b R5x2c N5a N5b N5c
  have R6x0:=Lib.hid (R5x0.out.grow hb6)
  have R6x1:=Lib.hid (R5x1.out.grow hb6)
  have R6x2:=Lib.hid (R5x2.out.grow hb6)
  have R6x3:=Lib.hid (N5.out.grow hb6)
  have B6:=Lib.hid (B5.out.trans (hb6.mono B5.out.size))
  clear hb6 B5 R5x0 R5x1 R5x2 N5
  have hv:=ho
  obtain⟨gq,cq,rfl,_,hg1,hc1⟩:=ho.addr HHl.out (by decide)
  have hby:=hv.bytes hg1
  clear ho hv
  obtain⟨R6x0a,R6x0b,R6x0c⟩:=R6x0.out
  obtain⟨R6x1a,R6x1b,R6x1c⟩:=R6x1.out
  obtain⟨R6x2a,R6x2b,R6x2c⟩:=R6x2.out
  obtain⟨R6x3a,R6x3b,R6x3c⟩:=R6x3.out
  go_wp2_with fail
  refine(KZ.out _ _ _ hc1 hby).mono ?_
  rintro e W7 ⟨rfl,hb7⟩
  clear R6x0a R6x0b R6x0c R6x1a R6x1b R6x1c R6x2a R6x2b R6x2c R6x3a R6x3b R6x3c
  have R7x0:=Lib.hid (R6x0.out.grow hb7)
  have R7x1:=Lib.hid (R6x1.out.grow hb7)
  have R7x2:=Lib.hid (R6x2.out.grow hb7)
  have R7x3:=Lib.hid (R6x3.out.grow hb7)
  have B7:=Lib.hid (B6.out.trans (hb7.mono B6.out.size))
  clear hb7 B6 R6x0 R6x1 R6x2 R6x3
  clear hby hc1 hg1
  obtain⟨R7x0a,R7x0b,R7x0c⟩:=R7x0.out
  obtain⟨R7x1a,R7x1b,R7x1c⟩:=R7x1.out
  obtain⟨R7x2a,R7x2b,R7x2c⟩:=R7x2.out
  obtain⟨R7x3a,R7x3b,R7x3c⟩:=R7x3.out
  go_wp2_with fail
  have n_sv_zv:sv≠W7.heap.size:=Nat.ne_of_lt R7x0.out.2.2
  have n_hh_zv:hh≠W7.heap.size:=Nat.ne_of_lt R7x1.out.2.2
  have n_xv_zv:xv≠W7.heap.size:=Nat.ne_of_lt R7x2.out.2.2
  have n_yv_zv:yv≠W7.heap.size:=Nat.ne_of_lt R7x3.out.2.2
  have l_zv:w.heap.size≤W7.heap.size:=B7.out.size
  have hb8:=below_alloc (Below.refl W7.heap.size W7) (.cells (bysA H) 31)
  have N8:=Lib.hid (RowAt.of (block_new W7 (.cells (bysA H) 31)))
  have R8x0:=Lib.hid (R7x0.out.grow hb8)
  have R8x1:=Lib.hid (R7x1.out.grow hb8)
  have R8x2:=Lib.hid (R7x2.out.grow hb8)
  have R8x3:=Lib.hid (R7x3.out.grow hb8)
  have B8:=Lib.hid (B7.out.trans (hb8.mono B7.out.size))
  clear hb8 B7 R7x0 R7x1 R7x2 R7x3 R7x0a R7x0b R7x0c R7x1a R7x1b R7x1c R7x2a R7x2b R7x2c R7x3a R7x3b R7x3c
  generalize W7.heap.size=zv at *
  generalize W7.alloc (.cells (bysA H) 31)=W8 at *
  refine wp_region_growsM W8 52 (fun w w'=>Below w.heap.size w w') (listR [fixV (.agg (bysA s)),fixV (.pointer (some ⟨hh,32,none⟩)),fixV (.agg (bysA b)),fixV (.agg (bysA P)),fixV (.agg (bysA s)),fixV (.pointer (some ⟨hh,32,none⟩)),fixV (.slice (some ⟨hh,32,none⟩) 160 160),fixV (.agg (bysA P)),fixV (.bool true),fixV (.bool true),fixV (.agg (bysA H)),ownV W8.heap.size (H),fixV (.string (toS H)),fixV (.agg (bysA H)),rhV a b g,ownV W8.heap.size (H),fixV (.string (toS H)),fixV (.bool true),fixV (.bool true),fixV (.bool true),fixV (.agg (bysA X)),rhV a1 b1 g1,fixV (.agg Y),rhV a1 b1 g1,fixV (.bool true),fixV (.bool true),fixV (.bool true),fixV (.int .i64 5),fixV (.int .i64 5),fixV (.bool true),fixV (.bool true),fixV (.bool true),fixV (.agg (bysA H)),fixV (.agg (bysA H)),fixV (.bool true),fixV (.bool true),fixV (.bool true),fixV (.int .i64 0),fixV (.bool true),fixV (.bool true),fixV (.bool true),fixV (.int .i64 5),fixV (.bool true),fixV (.bool true),fixV undef,fixV undef,fixV undef,fixV undef,fixV undef,fixV undef,fixV (.bool true),fixV (.bool true)]) [] [52] [0,1,2,3,4,5,6,7,8,9,10,11,12,13,14,15,16,17,18,19,20,21,22,23,24,25,26,27,28,29,30,31,32,33,34,35,36,37,38,39,40,41,42,43,44,45,46,47,48,49,50,51] [some 34,some 35,some 36,some 37,some 38,some 39,some 40,some 41,some 42,some 43,some 44,some 45,some 46,some 47,some 48,some 49,some 50,some 51,some 52,some 53,some 54,some 55,some 56,some 57,some 58,some 59,some 60,some 61,some 62,some 63,some 64,some 65,some 66,some 67,some 68,some 69,some 70,some 71,some 72,some 73,some 74,some 75,some 76,some 77,some 78,some 79,some 80,some 81,some 82,some 83,some 84,some 85] (by kernel_rfl) (by kernel_rfl) (by kernel_rfl) (by kernel_rfl) (by intro c a d v w h;cases d<;>exact h) (fun _=>Below.refl _ _) (by first | exact(Below.refl _ _).drew | exact Below.refl _ _) (fun w w' h h'=>h.trans (h'.mono h.size)) (listR_mono ⟨stays_fix _,stays_fix _,stays_fix _,stays_fix _,stays_fix _,stays_fix _,stays_fix _,stays_fix _,stays_fix _,stays_fix _,stays_fix _,stays_own _ _,stays_fix _,stays_fix _,stays_rh _ _ _,stays_own _ _,stays_fix _,stays_fix _,stays_fix _,stays_fix _,stays_fix _,stays_rh _ _ _,stays_fix _,stays_rh _ _ _,stays_fix _,stays_fix _,stays_fix _,stays_fix _,stays_fix _,stays_fix _,stays_fix _,stays_fix _,stays_fix _,stays_fix _,stays_fix _,stays_fix _,stays_fix _,stays_fix _,stays_fix _,stays_fix _,stays_fix _,stays_fix _,stays_fix _,stays_fix _,stays_fix _,stays_fix _,stays_fix _,stays_fix _,stays_fix _,stays_fix _,stays_fix _,stays_fix _,trivial⟩) ?_
  intro vals
  simp only[List.take_succ_cons,List.take_zero]
  refine⟨stepE rfl (grow_val [] [] (by kernel_rfl) rfl (fun K w hb hdq hK=>?_)),?_⟩
  ·obtain⟨x1,x2,x3⟩:=R8x0.out.grow hb
   simp only[putZ]
   refine⟨wanted_none rfl,?_⟩
   go_simp
   exact hK _ _ _ (Below.refl _ _) rfl
  refine⟨stepE rfl (grow_val [] [] (by kernel_rfl) rfl (fun K w hb hdq hK=>?_)),?_⟩
  ·simp only[putZ]
   refine⟨wanted_none rfl,?_⟩
   go_simp
   exact hK _ _ _ (Below.refl _ _) rfl
  refine⟨stepE rfl (grow_val [1] [some 35] (by kernel_rfl) (by kernel_rfl) (fun K w hb hdq hK=>?_)),?_⟩
  ·have d1:vals 1=.pointer (some ⟨hh,32,none⟩):=hdq 1 (by simp)
   obtain⟨x1,x2,x3⟩:=R8x1.out.grow hb
   simp only[List.map_cons,List.map_nil,putZ,d1]
   refine⟨wanted_none rfl,?_⟩
   go_simp
   exact hK _ _ _ (Below.refl _ _) rfl
  refine⟨stepE rfl (grow_call [0,2] [some 34,some 36] (by kernel_rfl) (by kernel_rfl) (fun K w hb hdq hK=>?_)),?_⟩
  ·have d0:vals 0=.agg (bysA s):=hdq 0 (by simp)
   have d2:vals 2=.agg (bysA b):=hdq 2 (by simp)
   simp only[List.map_cons,List.map_nil,putZ,d0,d2]
   refine⟨wanted_none rfl,?_⟩
   go_simp
   refine(KP.out w (HT.out.grow (B8.out.trans (hb.mono B8.out.size)))).mono ?_
   rintro e w' ⟨rfl,hb'⟩
   exact⟨_,rfl,hK _ _ hb' rfl⟩
  refine⟨stepE rfl (grow_val [] [] (by kernel_rfl) rfl (fun K w hb hdq hK=>?_)),?_⟩
  ·obtain⟨x1,x2,x3⟩:=R8x0.out.grow hb
   simp only[putZ]
   refine⟨wanted_none rfl,?_⟩
   go_simp
   exact hK _ _ _ (Below.refl _ _) rfl
  refine⟨stepE rfl (grow_val [] [] (by kernel_rfl) rfl (fun K w hb hdq hK=>?_)),?_⟩
  ·simp only[putZ]
   refine⟨wanted_none rfl,?_⟩
   go_simp
   exact hK _ _ _ (Below.refl _ _) rfl
  refine⟨stepE rfl (grow_val [5] [some 39] (by kernel_rfl) (by kernel_rfl) (fun K w hb hdq hK=>?_)),?_⟩
  ·have d5:vals 5=.pointer (some ⟨hh,32,none⟩):=hdq 5 (by simp)
   simp only[List.map_cons,List.map_nil,putZ,d5]
   refine⟨wanted_none rfl,?_⟩
   go_simp
   exact hK _ _ _ (Below.refl _ _) rfl
  refine⟨stepE rfl (grow_call [4,6] [some 38,some 40] (by kernel_rfl) (by kernel_rfl) (fun K w hb hdq hK=>?_)),?_⟩
  ·have d4:vals 4=.agg (bysA s):=hdq 4 (by simp)
   have d6:vals 6=.slice (some ⟨hh,32,none⟩) 160 160:=hdq 6 (by simp)
   have hy:=(bytes_row (R8x1.out.grow hb)).mid 32 160
   rw[Nat.zero_add,HB.out] at hy
   simp only[List.map_cons,List.map_nil,putZ,d4,d6]
   refine⟨wanted_none rfl,?_⟩
   go_simp
   refine(KRP.out w _ (Bs0.some hy) (fun h=>by cases h)).mono ?_
   rintro e w' ⟨rfl,hb'⟩
   exact⟨_,rfl,hK _ _ hb' rfl⟩
  refine⟨stepE rfl (grow_val [3,7] [some 37,some 41] (by kernel_rfl) (by kernel_rfl) (fun K w hb hdq hK=>?_)),?_⟩
  ·have d3:vals 3=.agg (bysA P):=hdq 3 (by simp)
   have d7:vals 7=.agg (bysA P):=hdq 7 (by simp)
   simp only[List.map_cons,List.map_nil,putZ,d3,d7]
   refine⟨wanted_none rfl,?_⟩
   go_simp
   exact hK _ _ _ (Below.refl _ _) rfl
  refine⟨stepE rfl (grow_val [8] [some 42] (by kernel_rfl) (by kernel_rfl) (fun K w hb hdq hK=>?_)),?_⟩
  ·have d8:vals 8=.bool true:=hdq 8 (by simp)
   simp only[List.map_cons,List.map_nil,putZ,d8]
   refine⟨wanted_none rfl,?_⟩
   go_simp
   exact hK _ _ _ (Below.refl _ _) rfl
  refine⟨stepE rfl (grow_val [9] [some 43] (by kernel_rfl) (by kernel_rfl) (fun K w hb hdq hK=>?_)),?_⟩
  ·have d9:vals 9=.bool true:=hdq 9 (by simp)
   obtain⟨x1,x2,x3⟩:=R8x1.out.grow hb
   simp only[List.map_cons,List.map_nil,putZ,d9]
   refine⟨wanted_some rfl rfl rfl,?_⟩
   go_simp
   exact hK _ _ _ (Below.refl _ _) rfl
  refine⟨stepE rfl (grow_call [9,10] [some 43,some 44] (by kernel_rfl) (by kernel_rfl) (fun K w hb hdq hK=>?_)),?_⟩
  ·have d9:vals 9=.bool true:=hdq 9 (by simp)
   have d10:vals 10=.agg (bysA H):=hdq 10 (by simp)
   simp only[List.map_cons,List.map_nil,putZ,d9,d10]
   refine⟨wanted_some rfl rfl rfl,?_⟩
   go_simp
   refine(KEn.out w).mono ?_
   rintro e w' ⟨u,rfl,ho,hb'⟩
   exact⟨_,rfl,hK _ _ hb' (ho.base hb.size)⟩
  refine⟨stepE rfl (grow_val [9,11] [some 43,some 45] (by kernel_rfl) (by kernel_rfl) (fun K w hb hdq hK=>?_)),?_⟩
  ·have d9:vals 9=.bool true:=hdq 9 (by simp)
   obtain⟨p11,c11,d11,y11,q11,z11⟩:=OwnB.bs (show OwnB w W8.heap.size (vals 11) (H) from hdq 11 (by simp))
   have hv:=run_cvBS (c:=c11) y11 rfl
   simp only[List.map_cons,List.map_nil,putZ,d9,d11]
   refine⟨wanted_some rfl rfl rfl,?_⟩
   go_simp
   exact hK _ _ _ (Below.refl _ _) rfl
  refine⟨stepE rfl (grow_val [9] [some 43] (by kernel_rfl) (by kernel_rfl) (fun K w hb hdq hK=>?_)),?_⟩
  ·have d9:vals 9=.bool true:=hdq 9 (by simp)
   obtain⟨x1,x2,x3⟩:=R8x1.out.grow hb
   simp only[List.map_cons,List.map_nil,putZ,d9]
   refine⟨wanted_some rfl rfl rfl,?_⟩
   go_simp
   exact hK _ _ _ (Below.refl _ _) rfl
  refine⟨stepE rfl (grow_call [9,13] [some 43,some 47] (by kernel_rfl) (by kernel_rfl) (fun K w hb hdq hK=>?_)),?_⟩
  ·have d9:vals 9=.bool true:=hdq 9 (by simp)
   have d13:vals 13=.agg (bysA H):=hdq 13 (by simp)
   simp only[List.map_cons,List.map_nil,putZ,d9,d13]
   refine⟨wanted_some rfl rfl rfl,?_⟩
   go_simp
   refine(KO.out w).mono ?_
   rintro e w' ⟨v,rfl,ho,hb'⟩
   exact⟨_,rfl,hK _ _ hb' ho⟩
  refine⟨stepE rfl (grow_call [9,14] [some 43,some 48] (by kernel_rfl) (by kernel_rfl) (fun K w hb hdq hK=>?_)),?_⟩
  ·have d9:vals 9=.bool true:=hdq 9 (by simp)
   obtain⟨p14,c14,d14,y14,z14⟩:IsRH w (vals 14) a b g:=hdq 14 (by simp)
   simp only[List.map_cons,List.map_nil,putZ,d9,d14]
   refine⟨wanted_some rfl rfl rfl,?_⟩
   go_simp
   refine(KRE.out w p14 c14 y14 z14).mono ?_
   rintro e w' ⟨u,rfl,ho,hb'⟩
   exact⟨_,rfl,hK _ _ hb' (ho.base hb.size)⟩
  refine⟨stepE rfl (grow_val [9,15] [some 43,some 49] (by kernel_rfl) (by kernel_rfl) (fun K w hb hdq hK=>?_)),?_⟩
  ·have d9:vals 9=.bool true:=hdq 9 (by simp)
   obtain⟨p15,c15,d15,y15,q15,z15⟩:=OwnB.bs (show OwnB w W8.heap.size (vals 15) (H) from hdq 15 (by simp))
   have hv:=run_cvBS (c:=c15) y15 rfl
   simp only[List.map_cons,List.map_nil,putZ,d9,d15]
   refine⟨wanted_some rfl rfl rfl,?_⟩
   go_simp
   exact hK _ _ _ (Below.refl _ _) rfl
  refine⟨stepE rfl (grow_val [9,12,16] [some 43,some 46,some 50] (by kernel_rfl) (by kernel_rfl) (fun K w hb hdq hK=>?_)),?_⟩
  ·have d9:vals 9=.bool true:=hdq 9 (by simp)
   have d12:vals 12=.string (toS H):=hdq 12 (by simp)
   have d16:vals 16=.string (toS H):=hdq 16 (by simp)
   simp only[List.map_cons,List.map_nil,putZ,d9,d12,d16]
   refine⟨wanted_some rfl rfl rfl,?_⟩
   go_simp
   exact hK _ _ _ (Below.refl _ _) rfl
  refine⟨stepE rfl (grow_val [9,17] [some 43,some 51] (by kernel_rfl) (by kernel_rfl) (fun K w hb hdq hK=>?_)),?_⟩
  ·have d9:vals 9=.bool true:=hdq 9 (by simp)
   have d17:vals 17=.bool true:=hdq 17 (by simp)
   simp only[List.map_cons,List.map_nil,putZ,d9,d17]
   refine⟨wanted_none rfl,?_⟩
   go_simp
   exact hK _ _ _ (Below.refl _ _) rfl
  refine⟨stepE rfl (grow_val [18] [some 52] (by kernel_rfl) (by kernel_rfl) (fun K w hb hdq hK=>?_)),?_⟩
  ·have d18:vals 18=.bool true:=hdq 18 (by simp)
   simp only[List.map_cons,List.map_nil,putZ,d18]
   refine⟨wanted_none rfl,?_⟩
   go_simp
   exact hK _ _ _ (Below.refl _ _) rfl
  refine⟨stepE rfl (grow_val [19] [some 53] (by kernel_rfl) (by kernel_rfl) (fun K w hb hdq hK=>?_)),?_⟩
  ·have d19:vals 19=.bool true:=hdq 19 (by simp)
   obtain⟨x1,x2,x3⟩:=R8x2.out.grow hb
   simp only[List.map_cons,List.map_nil,putZ,d19]
   refine⟨wanted_some rfl rfl rfl,?_⟩
   go_simp
   exact hK _ _ _ (Below.refl _ _) rfl
  refine⟨stepE rfl (grow_call [19,20] [some 53,some 54] (by kernel_rfl) (by kernel_rfl) (fun K w hb hdq hK=>?_)),?_⟩
  ·have d19:vals 19=.bool true:=hdq 19 (by simp)
   have d20:vals 20=.agg (bysA X):=hdq 20 (by simp)
   simp only[List.map_cons,List.map_nil,putZ,d19,d20]
   refine⟨wanted_some rfl rfl rfl,?_⟩
   go_simp
   refine(KX.out w).mono ?_
   rintro e w' ⟨v,rfl,ho,hb'⟩
   exact⟨_,rfl,hK _ _ hb' ho⟩
  refine⟨stepE rfl (grow_val [19] [some 53] (by kernel_rfl) (by kernel_rfl) (fun K w hb hdq hK=>?_)),?_⟩
  ·have d19:vals 19=.bool true:=hdq 19 (by simp)
   obtain⟨x1,x2,x3⟩:=R8x3.out.grow hb
   simp only[List.map_cons,List.map_nil,putZ,d19]
   refine⟨wanted_some rfl rfl rfl,?_⟩
   go_simp
   exact hK _ _ _ (Below.refl _ _) rfl
  refine⟨stepE rfl (grow_call [19,22] [some 53,some 56] (by kernel_rfl) (by kernel_rfl) (fun K w hb hdq hK=>?_)),?_⟩
  ·have d19:vals 19=.bool true:=hdq 19 (by simp)
   have d22:vals 22=.agg Y:=hdq 22 (by simp)
   simp only[List.map_cons,List.map_nil,putZ,d19,d22]
   refine⟨wanted_some rfl rfl rfl,?_⟩
   go_simp
   refine(KN.out w (B8.out.trans (hb.mono B8.out.size))).mono ?_
   rintro e w' ⟨v,rfl,ho,hb'⟩
   exact⟨_,rfl,hK _ _ hb' ho⟩
  refine⟨stepE rfl (grow_call [19,21,23] [some 53,some 55,some 57] (by kernel_rfl) (by kernel_rfl) (fun K w hb hdq hK=>?_)),?_⟩
  ·have d19:vals 19=.bool true:=hdq 19 (by simp)
   obtain⟨p21,c21,d21,y21,z21⟩:IsRH w (vals 21) a1 b1 g1:=hdq 21 (by simp)
   obtain⟨p23,c23,d23,y23,z23⟩:IsRH w (vals 23) a1 b1 g1:=hdq 23 (by simp)
   simp only[List.map_cons,List.map_nil,putZ,d19,d21,d23]
   refine⟨wanted_some rfl rfl rfl,?_⟩
   go_simp
   refine(KS.out w _ _ _ _ y21 y23).mono ?_
   rintro e w' ⟨rfl,hb'⟩
   exact⟨_,rfl,hK _ _ hb' rfl⟩
  refine⟨stepE rfl (grow_val [19,24] [some 53,some 58] (by kernel_rfl) (by kernel_rfl) (fun K w hb hdq hK=>?_)),?_⟩
  ·have d19:vals 19=.bool true:=hdq 19 (by simp)
   have d24:vals 24=.bool true:=hdq 24 (by simp)
   simp only[List.map_cons,List.map_nil,putZ,d19,d24]
   refine⟨wanted_none rfl,?_⟩
   go_simp
   exact hK _ _ _ (Below.refl _ _) rfl
  refine⟨stepE rfl (grow_val [25] [some 59] (by kernel_rfl) (by kernel_rfl) (fun K w hb hdq hK=>?_)),?_⟩
  ·have d25:vals 25=.bool true:=hdq 25 (by simp)
   simp only[List.map_cons,List.map_nil,putZ,d25]
   refine⟨wanted_none rfl,?_⟩
   go_simp
   exact hK _ _ _ (Below.refl _ _) rfl
  refine⟨stepE rfl (grow_val [26] [some 60] (by kernel_rfl) (by kernel_rfl) (fun K w hb hdq hK=>?_)),?_⟩
  ·have d26:vals 26=.bool true:=hdq 26 (by simp)
   simp only[List.map_cons,List.map_nil,putZ,d26]
   refine⟨wanted_some rfl rfl rfl,?_⟩
   go_simp
   exact hK _ _ _ (Below.refl _ _) rfl
  refine⟨stepE rfl (grow_val [26] [some 60] (by kernel_rfl) (by kernel_rfl) (fun K w hb hdq hK=>?_)),?_⟩
  ·have d26:vals 26=.bool true:=hdq 26 (by simp)
   simp only[List.map_cons,List.map_nil,putZ,d26]
   refine⟨wanted_some rfl rfl rfl,?_⟩
   go_simp
   exact hK _ _ _ (Below.refl _ _) rfl
  refine⟨stepE rfl (grow_val [26,27,28] [some 60,some 61,some 62] (by kernel_rfl) (by kernel_rfl) (fun K w hb hdq hK=>?_)),?_⟩
  ·have d26:vals 26=.bool true:=hdq 26 (by simp)
   have d27:vals 27=.int .i64 5:=hdq 27 (by simp)
   have d28:vals 28=.int .i64 5:=hdq 28 (by simp)
   simp only[List.map_cons,List.map_nil,putZ,d26,d27,d28]
   refine⟨wanted_some rfl rfl rfl,?_⟩
   go_simp
   exact hK _ _ _ (Below.refl _ _) rfl
  refine⟨stepE rfl (grow_val [26,29] [some 60,some 63] (by kernel_rfl) (by kernel_rfl) (fun K w hb hdq hK=>?_)),?_⟩
  ·have d26:vals 26=.bool true:=hdq 26 (by simp)
   have d29:vals 29=.bool true:=hdq 29 (by simp)
   simp only[List.map_cons,List.map_nil,putZ,d26,d29]
   refine⟨wanted_none rfl,?_⟩
   go_simp
   exact hK _ _ _ (Below.refl _ _) rfl
  refine⟨stepE rfl (grow_val [30] [some 64] (by kernel_rfl) (by kernel_rfl) (fun K w hb hdq hK=>?_)),?_⟩
  ·have d30:vals 30=.bool true:=hdq 30 (by simp)
   simp only[List.map_cons,List.map_nil,putZ,d30]
   refine⟨wanted_none rfl,?_⟩
   go_simp
   exact hK _ _ _ (Below.refl _ _) rfl
  refine⟨stepE rfl (grow_val [31] [some 65] (by kernel_rfl) (by kernel_rfl) (fun K w hb hdq hK=>?_)),?_⟩
  ·have d31:vals 31=.bool true:=hdq 31 (by simp)
   obtain⟨x1,x2,x3⟩:=N8.out.grow hb
   simp only[List.map_cons,List.map_nil,putZ,d31]
   refine⟨wanted_some rfl rfl rfl,?_⟩
   go_simp
   exact hK _ _ _ (Below.refl _ _) rfl
  refine⟨stepE rfl (grow_val [31] [some 65] (by kernel_rfl) (by kernel_rfl) (fun K w hb hdq hK=>?_)),?_⟩
  ·have d31:vals 31=.bool true:=hdq 31 (by simp)
   obtain⟨x1,x2,x3⟩:=R8x1.out.grow hb
   simp only[List.map_cons,List.map_nil,putZ,d31]
   refine⟨wanted_some rfl rfl rfl,?_⟩
   go_simp
   exact hK _ _ _ (Below.refl _ _) rfl
  refine⟨stepE rfl (grow_val [31,32,33] [some 65,some 66,some 67] (by kernel_rfl) (by kernel_rfl) (fun K w hb hdq hK=>?_)),?_⟩
  ·have d31:vals 31=.bool true:=hdq 31 (by simp)
   have d32:vals 32=.agg (bysA H):=hdq 32 (by simp)
   have d33:vals 33=.agg (bysA H):=hdq 33 (by simp)
   simp only[List.map_cons,List.map_nil,putZ,d31,d32,d33]
   refine⟨wanted_some rfl rfl rfl,?_⟩
   go_simp
   exact hK _ _ _ (Below.refl _ _) rfl
  refine⟨stepE rfl (grow_val [31,34] [some 65,some 68] (by kernel_rfl) (by kernel_rfl) (fun K w hb hdq hK=>?_)),?_⟩
  ·have d31:vals 31=.bool true:=hdq 31 (by simp)
   have d34:vals 34=.bool true:=hdq 34 (by simp)
   simp only[List.map_cons,List.map_nil,putZ,d31,d34]
   refine⟨wanted_none rfl,?_⟩
   go_simp
   exact hK _ _ _ (Below.refl _ _) rfl
  refine⟨stepE rfl (grow_val [35] [some 69] (by kernel_rfl) (by kernel_rfl) (fun K w hb hdq hK=>?_)),?_⟩
  ·have d35:vals 35=.bool true:=hdq 35 (by simp)
   simp only[List.map_cons,List.map_nil,putZ,d35]
   refine⟨wanted_none rfl,?_⟩
   go_simp
   exact hK _ _ _ (Below.refl _ _) rfl
  refine⟨stepE rfl (grow_val [36] [some 70] (by kernel_rfl) (by kernel_rfl) (fun K w hb hdq hK=>?_)),?_⟩
  ·have d36:vals 36=.bool true:=hdq 36 (by simp)
   simp only[List.map_cons,List.map_nil,putZ,d36]
   refine⟨wanted_some rfl rfl rfl,?_⟩
   go_simp
   exact hK _ _ _ (Below.refl _ _) rfl
  refine⟨stepE rfl (grow_val [36,37] [some 70,some 71] (by kernel_rfl) (by kernel_rfl) (fun K w hb hdq hK=>?_)),?_⟩
  ·have d36:vals 36=.bool true:=hdq 36 (by simp)
   have d37:vals 37=.int .i64 0:=hdq 37 (by simp)
   simp only[List.map_cons,List.map_nil,putZ,d36,d37]
   refine⟨wanted_some rfl rfl rfl,?_⟩
   go_simp
   exact hK _ _ _ (Below.refl _ _) rfl
  refine⟨stepE rfl (grow_val [36,38] [some 70,some 72] (by kernel_rfl) (by kernel_rfl) (fun K w hb hdq hK=>?_)),?_⟩
  ·have d36:vals 36=.bool true:=hdq 36 (by simp)
   have d38:vals 38=.bool true:=hdq 38 (by simp)
   simp only[List.map_cons,List.map_nil,putZ,d36,d38]
   refine⟨wanted_none rfl,?_⟩
   go_simp
   exact hK _ _ _ (Below.refl _ _) rfl
  refine⟨stepE rfl (grow_val [39] [some 73] (by kernel_rfl) (by kernel_rfl) (fun K w hb hdq hK=>?_)),?_⟩
  ·have d39:vals 39=.bool true:=hdq 39 (by simp)
   simp only[List.map_cons,List.map_nil,putZ,d39]
   refine⟨wanted_none rfl,?_⟩
   go_simp
   exact hK _ _ _ (Below.refl _ _) rfl
  refine⟨stepE rfl (grow_val [40] [some 74] (by kernel_rfl) (by kernel_rfl) (fun K w hb hdq hK=>?_)),?_⟩
  ·have d40:vals 40=.bool true:=hdq 40 (by simp)
   simp only[List.map_cons,List.map_nil,putZ,d40]
   refine⟨wanted_some rfl rfl rfl,?_⟩
   go_simp
   exact hK _ _ _ (Below.refl _ _) rfl
  refine⟨stepE rfl (grow_val [40,41] [some 74,some 75] (by kernel_rfl) (by kernel_rfl) (fun K w hb hdq hK=>?_)),?_⟩
  ·have d40:vals 40=.bool true:=hdq 40 (by simp)
   have d41:vals 41=.int .i64 5:=hdq 41 (by simp)
   simp only[List.map_cons,List.map_nil,putZ,d40,d41]
   refine⟨wanted_some rfl rfl rfl,?_⟩
   go_simp
   exact hK _ _ _ (Below.refl _ _) rfl
  refine⟨stepE rfl (grow_val [40,42] [some 74,some 76] (by kernel_rfl) (by kernel_rfl) (fun K w hb hdq hK=>?_)),?_⟩
  ·have d40:vals 40=.bool true:=hdq 40 (by simp)
   have d42:vals 42=.bool true:=hdq 42 (by simp)
   simp only[List.map_cons,List.map_nil,putZ,d40,d42]
   refine⟨wanted_some rfl rfl rfl,?_⟩
   go_simp
   exact hK _ _ _ (Below.refl _ _) rfl
  refine⟨stepS rfl (grow_skip [43] [some 77] (by kernel_rfl) (by kernel_rfl) (fun w hb hdq=>?_)),?_⟩
  ·have d43:vals 43=.bool true:=hdq 43 (by simp)
   simp only[List.map_cons,List.map_nil,putZ,d43]
   exact⟨unwanted rfl rfl rfl,rfl⟩
  refine⟨stepS rfl (grow_skip [43,44] [some 77,some 78] (by kernel_rfl) (by kernel_rfl) (fun w hb hdq=>?_)),?_⟩
  ·have d43:vals 43=.bool true:=hdq 43 (by simp)
   have d44:vals 44=undef:=hdq 44 (by simp)
   simp only[List.map_cons,List.map_nil,putZ,d43,d44]
   exact⟨unwanted rfl rfl rfl,rfl⟩
  refine⟨stepS rfl (grow_skip [43,45] [some 77,some 79] (by kernel_rfl) (by kernel_rfl) (fun w hb hdq=>?_)),?_⟩
  ·have d43:vals 43=.bool true:=hdq 43 (by simp)
   have d45:vals 45=undef:=hdq 45 (by simp)
   simp only[List.map_cons,List.map_nil,putZ,d43,d45]
   exact⟨unwanted rfl rfl rfl,rfl⟩
  refine⟨stepS rfl (grow_skip [43] [some 77] (by kernel_rfl) (by kernel_rfl) (fun w hb hdq=>?_)),?_⟩
  ·have d43:vals 43=.bool true:=hdq 43 (by simp)
   simp only[List.map_cons,List.map_nil,putZ,d43]
   exact⟨unwanted rfl rfl rfl,rfl⟩
  refine⟨stepS rfl (grow_skip [43,47] [some 77,some 81] (by kernel_rfl) (by kernel_rfl) (fun w hb hdq=>?_)),?_⟩
  ·have d43:vals 43=.bool true:=hdq 43 (by simp)
   have d47:vals 47=undef:=hdq 47 (by simp)
   simp only[List.map_cons,List.map_nil,putZ,d43,d47]
   exact⟨unwanted rfl rfl rfl,rfl⟩
  refine⟨stepS rfl (grow_skip [43,46,48] [some 77,some 80,some 82] (by kernel_rfl) (by kernel_rfl) (fun w hb hdq=>?_)),?_⟩
  ·have d43:vals 43=.bool true:=hdq 43 (by simp)
   have d46:vals 46=undef:=hdq 46 (by simp)
   have d48:vals 48=undef:=hdq 48 (by simp)
   simp only[List.map_cons,List.map_nil,putZ,d43,d46,d48]
   exact⟨unwanted rfl rfl rfl,rfl⟩
  refine⟨stepE rfl (grow_val [40,43,49] [some 74,some 77,some 83] (by kernel_rfl) (by kernel_rfl) (fun K w hb hdq hK=>?_)),?_⟩
  ·have d40:vals 40=.bool true:=hdq 40 (by simp)
   have d43:vals 43=.bool true:=hdq 43 (by simp)
   have d49:vals 49=undef:=hdq 49 (by simp)
   simp only[List.map_cons,List.map_nil,putZ,d40,d43,d49]
   refine⟨wanted_some rfl rfl rfl,?_⟩
   go_simp
   exact hK _ _ _ (Below.refl _ _) rfl
  refine⟨stepE rfl (grow_val [40,50] [some 74,some 84] (by kernel_rfl) (by kernel_rfl) (fun K w hb hdq hK=>?_)),?_⟩
  ·have d40:vals 40=.bool true:=hdq 40 (by simp)
   have d50:vals 50=.bool true:=hdq 50 (by simp)
   simp only[List.map_cons,List.map_nil,putZ,d40,d50]
   refine⟨wanted_none rfl,?_⟩
   go_simp
   exact hK _ _ _ (Below.refl _ _) rfl
  intro Wz hbz hR
  obtain d51:vals 51=.bool true:=hR 51 (by simp)
  clear hR
  simp only[List.map_cons,List.map_nil,putZ,d51,pick,List.getElem?_cons_succ,List.getElem?_cons_zero]
  generalize vals 0=q0
  generalize vals 1=q1
  generalize vals 2=q2
  generalize vals 3=q3
  generalize vals 4=q4
  generalize vals 5=q5
  generalize vals 6=q6
  generalize vals 7=q7
  generalize vals 8=q8
  generalize vals 9=q9
  generalize vals 10=q10
  generalize vals 11=q11
  generalize vals 12=q12
  generalize vals 13=q13
  generalize vals 14=q14
  generalize vals 15=q15
  generalize vals 16=q16
  generalize vals 17=q17
  generalize vals 18=q18
  generalize vals 19=q19
  generalize vals 20=q20
  generalize vals 21=q21
  generalize vals 22=q22
  generalize vals 23=q23
  generalize vals 24=q24
  generalize vals 25=q25
  generalize vals 26=q26
  generalize vals 27=q27
  generalize vals 28=q28
  generalize vals 29=q29
  generalize vals 30=q30
  generalize vals 31=q31
  generalize vals 32=q32
  generalize vals 33=q33
  generalize vals 34=q34
  generalize vals 35=q35
  generalize vals 36=q36
  generalize vals 37=q37
  generalize vals 38=q38
  generalize vals 39=q39
  generalize vals 40=q40
  generalize vals 41=q41
  generalize vals 42=q42
  generalize vals 43=q43
  generalize vals 44=q44
  generalize vals 45=q45
  generalize vals 46=q46
  generalize vals 47=q47
  generalize vals 48=q48
  generalize vals 49=q49
  generalize vals 50=q50
  have Bz:=Lib.hid (B8.out.trans (hbz.mono B8.out.size))
  clear hbz d51
  clear vals
  go_step
  go_simp
  go_wp2_with fail
  go_ret
  exact⟨rfl,Bz.out⟩
end Go.Proofs.YtddmjddlbhdcpaaGreatDoor
