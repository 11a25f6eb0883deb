/-
  Part 14 of the texts behind the theorem.
-/
import Derived.Test.YtddmjddlbhdcpaaGreatDoorPart12
import Derived.Test.YtddmjddlbhdcpaaGreatDoorPart11
import Derived.Test.YtddmjddlbhdcpaaGreatDoorPart9
import Derived.Test.YtddmjddlbhdcpaaGreatDoorPart13
import Derived.Test.YtddmjddlbhdcpaaGreatDoorPart7
set_option maxHeartbeats 8000000
set_option maxRecDepth 100000
namespace Go.Proofs.YtddmjddlbhdcpaaGreatDoor
open Go.RowKit Go.Hold Go.Sh Go.Ch Go.Cm Go.Hd
theorem Zne (H:List Nat) (hH:H.length=208) (w:World) :
  Calls Tryz.prog 23 #[.agg (bysA H)] w fun e w'=>∃ v,e=.returned v∧OwnB w' w.heap.size v H∧Below w.heap.size w w':=by
 have hHs:=Zae hH
 have Hl:=Zq (show (H.take 32).length=32∧((H.drop 32).take 160).length=160∧((H.drop 192).take 16).length=16 from ⟨by simp[hH],by simp[hH],by simp[hH]⟩)
 have HJ:=Zq (show H.take 32++(H.drop 32).take 160++(H.drop 192).take 16=H by
  rw[List.take_of_length_le (l:=H.drop 192) (by simp[hH]),List.append_assoc,show H.drop 192=(H.drop 32).drop 160 by rw[List.drop_drop],List.take_append_drop,List.take_append_drop])
 clear hH
 go_enter Tryz.func23,Tryz.ntmps23
 go_wp2_with fail
 generalize hW:World.alloc _ _=W0
 have R0x0:=Zq (show RowAt W0 (w.heap.size) (bysA H) by rw[←hW];clear hW;exact⟨by go_simp,by first | (go_simp;done) | (go_simp;rfl),by go_simp⟩)
 have B0:=Zq (show Below w.heap.size w W0 by rw[←hW];repeat (first | apply Zab | exact Below.refl _ _))
 clear hW
 have l_y:w.heap.size≤w.heap.size:=by omega
 obtain⟨y,ey⟩:∃z,z=w.heap.size:=⟨_,rfl⟩
 rw[←ey] at R0x0  ⊢
 have l_y:w.heap.size≤y:=by rw[ey];exact Nat.le_refl _
 clear ey
 refine ZaI W0 [0,1,2,3,4,5] [true,true,true,true,true,true] [6,7,8] (by kernel_rfl) (by kernel_rfl) (by intro c a d v w h;cases d<;>exact h) (by first | exact(Below.refl _ _).drew | exact Below.refl _ _) ?_
 simp only[pick,List.getElem?_cons_succ,List.getElem?_cons_zero]
 iterate 6 (refine Zay (Zaa rfl) (fun w=>by go_simp;rfl) ?_)
 refine Zan ?_
 intro W1 hb1
 have R1x0:=Zq (R0x0.out.grow hb1)
 have B1:=Zq (B0.out.trans (hb1.mono B0.out.size))
 clear hb1 B0 R0x0
 go_wp2_with fail
 have hy:=(ZaH R1x0.out)
 have hp1:BytesAt W1 y 0 (H.take 32):=by have:=hy.mid 0 32;rwa [Nat.add_zero,List.drop_zero] at this
 have hp2:BytesAt W1 y 32 ((H.drop 32).take 160):=by have:=hy.mid 32 160;rwa [Nat.zero_add] at this
 have hp3:BytesAt W1 y 192 ((H.drop 192).take 16):=by have:=hy.mid 192 16;rwa [Nat.zero_add] at this
 have BA:=Zab (Below.refl W1.heap.size W1) (.cells #[.slice (some ⟨y,0,none⟩) 32 32,.slice (some ⟨y,32,none⟩) 160 160,.slice (some ⟨y,192,none⟩) 16 16] 38)
 refine(ZiC (RowAt.of (Zaq W1 _)) Hl.out.1.symm Hl.out.2.1.symm Hl.out.2.2.symm (Bs0.some (hp1.grow BA)) (Bs0.some (hp2.grow BA)) (Bs0.some (hp3.grow BA)) (fun h=>by cases h) (fun h=>by cases h) (fun h=>by cases h) (by rw[Hl.out.1,Hl.out.2.1,Hl.out.2.2];decide)).mono ?_
 rintro e W9 ⟨v,rfl,hown,hb9⟩
 rw[HJ.out] at hown
 have B9:=Zq (B1.out.trans ((BA.trans (hb9.mono BA.size)).mono B1.out.size))
 have O9:=Zq (hown.base (Nat.le_trans B1.out.size BA.size))
 clear hy hp1 hp2 hp3 hown hb9 BA
 go_wp2_with fail
 go_ret
 exact⟨v,rfl,O9.out,B9.out⟩
@[go_sem ↓ high] theorem Zq0 (ps:Array (Nat×Value)):Instr.build 23 ps=bldA 23 ps:=rfl
theorem ZdY (n:Nat):(keyU n).length=32:=by simp[keyU,zs]
theorem Zhc {n:Nat} (h:n<256):∀i,(keyU n).getD i 0<256:=Zbp fun x hx=>by
 rcases List.mem_cons.1 hx with rfl | hx
 ·exact h
 ·exact Zdo (Zbs 31) x hx
theorem ZdX (n:Nat) (w:World):(bldA 23 #[(0,.int .u8 (n:Int))]).run Tryz.prog w=.ok (.agg (bysA (keyU n))) w:=run_build w _ _ _ (by kernel_rfl)
theorem Zjg (k n:Int) (w:World):(bldA 51 #[(0,.int .i64 k),(1,.int .i64 n)]).run Tryz.prog w=.ok (.agg (cmdA ⟨k,n,0,zs 8⟩)) w:=run_build w _ _ _ (by kernel_rfl)
theorem ZhB (k:List Nat) (c:Cmd):Za5 [.agg (bysA k),.agg (cmdA c)]=(hopA k c).toList:=by
 show (bysA k).toList++((cmdA c).toList++[])=_
 unfold hopA
 rw[List.append_nil,Array.toList_append]
theorem Zew {k:List Nat} {c:Cmd} (hk:k.length=32) (hc:c.id.length=8) (w:World):(bldA 77 #[(0,.agg (bysA k)),(1,.agg (cmdA c))]).run Tryz.prog w=.ok (.agg (hopA k c)) w:=by
 have s0:(bysA k).size=32:=by rw[Zaj,hk]
 have s1:(cmdA c).size=11:=Zax hc
 have:=Zcn (P:=Tryz.prog) Tryz.underlying77 w [.agg (bysA k),.agg (cmdA c)]
  (by rw[ZhB,Array.length_toList,Za0 hk hc];kernel_rfl)
  (by simp only[offs,Value.cells,s0,s1];kernel_rfl) #[(0,.agg (bysA k)),(1,.agg (cmdA c))] rfl
 rw[ZhB,Array.toArray_toList] at this
 exact this
def Zrp (n:Nat) (ps:Array (Nat×Value)):Sem Value:=Instr.buildSlice 36 n ps
@[go_sem ↓ high] theorem ZtH (n:Nat) (ps:Array (Nat×Value)):Instr.buildSlice 36 n ps=Zrp n ps:=rfl
def hopZ:Array Value:=hopA (zs 32) .zero
theorem Zom:(Tryz.prog.info? 77).map (fun i=>(i.zero,i.size))=some (some (.agg hopZ),43):=by kernel_rfl
theorem Zk8 {k k':List Nat} {c c':Cmd} (hk:k.length=32) (hc:c.id.length=8) (hk':k'.length=32) (hc':c'.id.length=8) (w:World):(Zrp 2 #[(0,.agg (hopA k c)),(1,.agg (hopA k' c'))]).run Tryz.prog w=.ok (.slice (some ⟨w.heap.size,0,none⟩) 2 2) (w.alloc (.cells (hopA k c++hopA k' c') 77)):=by
 obtain⟨Y,hY⟩:∃Y,(Tryz.prog.info? 77).map (fun i=>(i.zero,i.size,i.bytes))=some (some (.agg hopZ),43,Y):=by
  have:=Zom
  cases h:Tryz.prog.info? 77 with
  | none=>rw[h] at this;cases this
  | some i =>
   rw[h] at this
   simp only[Option.map_some,Option.some.injEq,Prod.mk.injEq] at this
   exact⟨i.bytes,by rw[Option.map_some,this.1,this.2]⟩
 have:=Zea (P:=Tryz.prog) Tryz.underlying36 hY [.agg (hopA k c),.agg (hopA k' c')] (fun v hv=>by
  rcases List.mem_cons.1 hv with rfl | hv
  ·exact Za0 hk hc
  ·rw[List.mem_singleton.1 hv];exact Za0 hk' hc') (rfl:_=2) (by decide) (by decide) #[(0,.agg (hopA k c)),(1,.agg (hopA k' c'))] rfl w
 rwa [show (Za5 [.agg (hopA k c),.agg (hopA k' c')]).toArray=hopA k c++hopA k' c' by
  show ((hopA k c).toList++((hopA k' c').toList++[])).toArray=_
  rw[List.append_nil,←Array.toList_append,Array.toArray_toList]] at this
theorem Zlu {C:Nat} {w:World} {g:Nat} {ls:List (Array Value)} (h:RowAt w g (ZdQ ls).toArray) (hs:∀x∈ls,x.size=C):RowsAt C w (some ⟨g,0,none⟩) ls:=fun i x hx=>by
 refine⟨g,0,rfl,h.2.2,fun j v hv=>?_⟩
 have hxs:x.size=C:=hs x (List.mem_of_getElem? hx)
 have hj:j<C:=by
  have:=(List.getElem?_eq_some_iff.1 hv).1
  simpa [hxs] using this
 have:=ZfI hs i j x hx hj
 rw[Nat.zero_add]
 exact h.cellAt _ (by rw[List.getElem?_toArray,this,←Array.getElem?_toList,hv])
theorem Zoe (a b:Array Value):(ZdQ [a,b]).toArray=a++b:=by
 show (a.toList++(b.toList++[])).toArray=_
 rw[List.append_nil,←Array.toList_append,Array.toArray_toList]
theorem Zm9 {w:World} {B gs n cs:Nat} {s t:List Nat} {sr:List (List Nat)} (h:OwnR w B 23 32 (.slice (some ⟨gs,0,none⟩) n cs) ((s::t::sr).map bysA)) (ht:t.length=32) :
  (Zam 23 (.pointer (some ⟨gs,32,none⟩))).run Tryz.prog w=.ok (.agg (bysA t)) w:=by
 obtain⟨g',o',e,_,hl⟩:=h.rows.load Tryz.underlying23 rfl (by kernel_rfl) (i:=1) (x:=bysA t) rfl (by rw[Zaj,ht])
 obtain⟨p',c',e2,_,_,_,hp⟩:=h.form
 obtain⟨g2,rfl,_⟩:=hp (by simp)
 cases e2;cases e
 simpa using hl
theorem Zrr (a:Option Addr) (len cap n:Nat) (h:n≤cap) (w:World):(Instr.sliceAt 36 (.slice a len cap) none (some (.int .i64 (n:Int))) none).run Tryz.prog w=.ok (.slice a n cap) w:=by
 have hu:Tryz.prog.underlying 36=some (.slice (Tryz.prog.elem 36)):=by kernel_rfl
 have hs:(sizeOf (Tryz.prog.elem 36)).run Tryz.prog w=.ok 43 w:=by kernel_rfl
 rw[run_sliceAt_slice _ _ _ _ _ _ hu,run_slice_h _ _ _ _ _ hu _ _ (by omega) (by omega),hs]
 cases a<;>simp[sliced,Result.andThen,Addr.add]
theorem ZpC (o1 o2:List Nat) (c1 c2:Cmd):hopR (Zbb [o1,o2] [c1,c2])=[hopA (puB o1) c1,hopA (puB o2) c2]:=rfl
theorem ZjV {o1 o2:List Nat} {c1 c2:Cmd} (h1:c1.id=zs 8) (h2:c2.id=zs 8):∀h∈Zbb [o1,o2] [c1,c2],HopOk h:=fun h hh=>by
 have e:Zbb [o1,o2] [c1,c2]=[⟨puB o1,c1⟩,⟨puB o2,c2⟩]:=rfl
 rw[e] at hh
 rcases List.mem_cons.1 hh with rfl | hh
 ·exact⟨ZaX _,Zey _,by rw[h1];rfl,by rw[h1];exact Zbs 8⟩
 ·rw[List.mem_singleton.1 hh];exact⟨ZaX _,Zey _,by rw[h2];rfl,by rw[h2];exact Zbs 8⟩
theorem ZpG {o1 o2:List Nat} {c1 c2:Cmd} (h1:c1.id=zs 8) (h2:c2.id=zs 8) {W:World} {v:Nat} (h:RowAt W v (hopA (puB o1) c1++hopA (puB o2) c2)):RowsAt 43 W (some ⟨v,0,none⟩) (hopR (Zbb [o1,o2] [c1,c2])):=by
 rw[ZpC]
 refine Zlu (by rw[Zoe];exact h) fun z hz=>?_
 rcases List.mem_cons.1 hz with rfl | hz
 ·exact Za0 (ZaX _) (by rw[h1];rfl)
 ·rw[List.mem_singleton.1 hz];exact Za0 (ZaX _) (by rw[h2];rfl)
theorem ZrR {o1 o2:List Nat} {c1 c2:Cmd} {W:World} {q:Option Addr} (h:RowsAt 43 W q (hopR (Zbb [o1,o2] [c1,c2]))):RowsAt 43 W q (hopR [⟨puB o1,c1⟩]):=h.take 1
theorem Zp1 {o1 o2:List Nat} {c1 c2:Cmd} (h1:c1.id=zs 8) (h2:c2.id=zs 8) {W:World} {v:Nat} (h:RowsAt 43 W (some ⟨v,0,none⟩) (hopR (Zbb [o1,o2] [c1,c2]))):(Zam 51 (.pointer (some ⟨v,32,none⟩))).run Tryz.prog W=.ok (.agg (cmdA c1)) W:=by
 have hm:(Zbb [o1,o2] [c1,c2])[0]?=some ⟨puB o1,c1⟩:=rfl
 obtain⟨g',o',e,_,hl⟩:=ZdK h hm (ZjV h1 h2 _ (List.mem_of_getElem? hm))
 cases e
 simpa using hl
theorem ZpN {o1 o2:List Nat} {c1 c2:Cmd} (h1:c1.id=zs 8) (h2:c2.id=zs 8) {W:World} {v:Nat} (h:RowsAt 43 W (some ⟨v,0,none⟩) (hopR (Zbb [o1,o2] [c1,c2]))):(Zam 51 (.pointer (some ⟨v,75,none⟩))).run Tryz.prog W=.ok (.agg (cmdA c2)) W:=by
 have hm:(Zbb [o1,o2] [c1,c2])[1]?=some ⟨puB o2,c2⟩:=rfl
 obtain⟨g',o',e,_,hl⟩:=ZdK h hm (ZjV h1 h2 _ (List.mem_of_getElem? hm))
 cases e
 simpa using hl
def C1:Cmd:=(Cmd.mk 1 3 1 (zs 8))
def C2:Cmd:=(Cmd.mk 2 5 0 (zs 8))
theorem Zpu:∃(H a b g s0 s1:List Nat) (x y:Stp) (a' b' g':List Nat),hbH (keyU 9) (Zbb [keyU 1,keyU 2] [C1,C2])=H∧hbK (keyU 9) (Zbb [keyU 1,keyU 2] [C1,C2])=[s0,s1]∧hbE (keyU 9) (Zbb [keyU 1,keyU 2] [C1,C2])=0
  ∧ HdParts H a b g∧unwE (keyU 1) a b g=0∧unwV (keyU 1) a b g=x∧StpOk x∧x.c=C1∧x.s=s0∧HdParts x.nx a' b' g'∧unwE (keyU 2) a' b' g'=0∧unwV (keyU 2) a' b' g'=y∧StpOk y∧y.c=C2∧y.s=s1:=by
 have hr:isRt (Zbb [keyU 1,keyU 2] [C1,C2])=true:=by
  show (decide (1≤2∧2≤5)&&(okAt 2 0 C1&&(okAt 2 1 C2&&true)))=true
  decide
 obtain⟨h1',hw⟩:=Zs1 C1 C2
 obtain⟨hK,hE,hH⟩:=Zpb (x:=keyU 9) (os:=[keyU 1,keyU 2]) (cs:=[C1,C2]) rfl hr h1'
 clear h1'
 generalize tS0=s0 at *
 generalize tS1=s1 at *
 have hid:∀d∈[C1,C2],d.id.length=8:=fun d hd=>by
  rcases List.mem_cons.1 hd with rfl | hd
  ·rfl
  ·rw[List.mem_singleton.1 hd];rfl
 have hib:∀d∈[C1,C2],∀ i,d.id.getD i 0<256:=fun d hd=>by
  rcases List.mem_cons.1 hd with rfl | hd
  ·exact Zbs 8
  ·rw[List.mem_singleton.1 hd];exact Zbs 8
 have h0:=On.start (x:=keyU 9) (os:=[keyU 1,keyU 2]) (cs:=[C1,C2]) rfl hr hid hib hw rfl hH
 obtain⟨x,e1,e2,e3,e4,e5,h1⟩:=h0.step
 obtain⟨y,f1,f2,f3,f4,f5,_⟩:=h1.step
 exact⟨_,_,_,_,s0,s1,x,y,_,_,_,rfl,hK,hE,h0.parts rfl,e1,e2,e3,e4,e5,h1.parts rfl,f1,f2,f3,f4,f5⟩
theorem ZsQ:isRt [⟨puB (keyU 1),C1⟩]=false:=by
 show (decide (1≤1∧1≤5)&&(okAt 1 0 C1&&true))=false
 decide
theorem ZiK (w:World) (hT:Tabs w):Calls Tryz.prog 10 #[] w fun e w'=>e=.returned (.bool true)∧Below w.heap.size w w':=by
 have HT:=Zq hT
 obtain⟨H,a,b,g,s0,s1,x,y,a',b',g',hH,hK,hE,hp,hx1,hx2,hx3,hx4,hx5,hp',hy1,hy2,hy3,hy4,hy5⟩:=Zpu
 have hl1:=ZdY 1
 have hl2:=ZdY 2
 have hl9:=ZdY 9
 have hb1:=Zhc (n:=1) (by decide)
 have hb2:=Zhc (n:=2) (by decide)
 have hb9:=Zhc (n:=9) (by decide)
 have hok:=ZjV (o1:=keyU 1) (o2:=keyU 2) (c1:=C1) (c2:=C2) rfl rfl
 have KB:=Zq (fun (W:World) (h:Tabs W) (q:Option Addr) (hq:RowsAt 43 W q (hopR (Zbb [keyU 1,keyU 2] [C1,C2])))=>Zm3 (keyU 9) _ q 2 2 hl9 hb9 hok rfl W h hq)
 rw[hH,hK,hE] at KB
 have KB1:=Zq (fun (W:World) (q:Option Addr) (hq:RowsAt 43 W q (hopR [⟨puB (keyU 1),C1⟩]))=>Zhz (keyU 9) [⟨puB (keyU 1),C1⟩] q 1 2 hl9 (fun h hh=>by rw[List.mem_singleton.1 hh];exact⟨ZaX _,Zey _,rfl,Zbs 8⟩) rfl ZsQ W hq)
 have KU1:=Zq (fun (W:World) (h:Tabs W)=>Zkt (keyU 1) a b g hl1 hb1 hp.al hp.ab hp.bl hp.bb hp.gl hp.gb W h)
 have KU2:=Zq (fun (W:World) (h:Tabs W)=>Zkt (keyU 2) a' b' g' hl2 hb2 hp'.al hp'.ab hp'.bl hp'.bb hp'.gl hp'.gb W h)
 rw[hx1,hx2,←hp.eq] at KU1
 rw[hy1,hy2,←hp'.eq] at KU2
 have KE:=Zq (fun (W:World)=>Zne H hp.len W)
 have hHs:=Zae hp.len
 have HHl:=Zq hp.len
 have hns:=Zae hp'.len
 have hxs:=Zcs hx3
 have hys:=Zcs hy3
 have hsl0:s0.length=32:=by rw[←hx5];exact hx3.s
 have hsl1:s1.length=32:=by rw[←hy5];exact hy3.s
 have Hs:=Zq (And.intro hsl0 hsl1)
 have hs0s:=Zae hsl0
 have hs1s:=Zae hsl1
 have KP1:=Zq (fun (W:World)=>ZfK (keyU 1) hl1 hb1 W)
 have KP2:=Zq (fun (W:World)=>ZfK (keyU 2) hl2 hb2 W)
 have hq1:=ZaX (keyU 1)
 have hq2:=ZaX (keyU 2)
 have hq1s:=Zae hq1
 have hq2s:=Zae hq2
 have hks1:=Zae hl1
 have hks2:=Zae hl2
 have hks9:=Zae hl9
 have hi1:C1.id.length=8:=rfl
 have hi2:C2.id.length=8:=rfl
 have hhz1:=Za0 hq1 hi1
 have hhz2:=Za0 hq2 hi2
 have hcs1:=Zax hi1
 have hcs2:=Zax hi2
 have hbh1:=fun W=>Zew hq1 hi1 W
 have hbh2:=fun W=>Zew hq2 hi2 W
 have hbs:=fun W=>Zk8 hq1 hi1 hq2 hi2 W
 have HQ:=Zq (fun (W:World) (v:Nat) (h:RowAt W v (hopA (puB (keyU 1)) C1++hopA (puB (keyU 2)) C2))=>ZpG (c1:=C1) (c2:=C2) rfl rfl h)
 have HQ1:=Zq (fun (W:World) (q:Option Addr) (h:RowsAt 43 W q (hopR (Zbb [keyU 1,keyU 2] [C1,C2])))=>ZrR h)
 have HC0:=Zq (fun (W:World) (v:Nat) (h:RowsAt 43 W (some ⟨v,0,none⟩) (hopR (Zbb [keyU 1,keyU 2] [C1,C2])))=>Zp1 (c1:=C1) (c2:=C2) rfl rfl h)
 have HC1:=Zq (fun (W:World) (v:Nat) (h:RowsAt 43 W (some ⟨v,0,none⟩) (hopR (Zbb [keyU 1,keyU 2] [C1,C2])))=>ZpN (c1:=C1) (c2:=C2) rfl rfl h)
 have hbk1:∀W,(bldA 23 #[(0,.int .u8 1)]).run Tryz.prog W=.ok (.agg (bysA (keyU 1))) W:=ZdX 1
 have hbk2:∀W,(bldA 23 #[(0,.int .u8 2)]).run Tryz.prog W=.ok (.agg (bysA (keyU 2))) W:=ZdX 2
 have hbk9:∀W,(bldA 23 #[(0,.int .u8 9)]).run Tryz.prog W=.ok (.agg (bysA (keyU 9))) W:=ZdX 9
 have hbc1:∀W,(bldA 51 #[(0,.int .i64 1),(1,.int .i64 3),(2,.int .i64 1)]).run Tryz.prog W=.ok (.agg (cmdA C1)) W:=Zjs 1 3 1
 have hbc2:∀W,(bldA 51 #[(0,.int .i64 2),(1,.int .i64 5)]).run Tryz.prog W=.ok (.agg (cmdA C2)) W:=Zjg 2 5
 have hslh:∀(q:Option Addr) W,(Instr.sliceAt 36 (.slice q 2 2) none (some (.int .i64 1)) none).run Tryz.prog W=.ok (.slice q 1 2) W:=fun q W=>Zrr q 2 2 1 (by decide) W
 have hz208:=Zae (Zah 208)
 have hzst:=Zcs ZgC
 have hb11:=Zif C1
 have hb22:=Zif C2
 have HX:=Zq hx3
 have HY:=Zq hy3
 have HXE:=Zq (And.intro hx4 (And.intro hx5 (And.intro hy4 hy5)))
 clear hT hH hK hE hp hp' hx1 hx2 hx4 hx5 hy1 hy2 hy4 hy5 hok hl1 hl2 hl9 hb1 hb2 hb9 hq1 hq2 hsl0 hsl1
 generalize hopR (Zbb [keyU 1,keyU 2] [C1,C2])=HL at *
 generalize hopR [⟨puB (keyU 1),C1⟩]=HL1 at *
 generalize hopA (puB (keyU 1)) C1++hopA (puB (keyU 2)) C2=HH at *
 generalize hopA (puB (keyU 1)) C1=h1 at *
 generalize hopA (puB (keyU 2)) C2=h2 at *
 generalize puB (keyU 1)=p1 at *
 generalize puB (keyU 2)=p2 at *
 generalize keyU 1=k1 at *
 generalize keyU 2=k2 at *
 generalize keyU 9=k9 at *
 generalize C1=D1 at *
 generalize C2=D2 at *
 go_enter Tryz.func10,Tryz.ntmps10
 go_wp2_with fail
 generalize hW:World.alloc _ _=W0
 have R0x0:=Zq (show RowAt W0 (w.heap.size) (bysA k1) by rw[←hW];clear hW;exact⟨by go_simp,by first | (go_simp;done) | (go_simp;rfl),by go_simp⟩)
 have R0x1:=Zq (show RowAt W0 (w.heap.size+1) (bysA k2) by rw[←hW];clear hW;exact⟨by go_simp,by first | (go_simp;done) | (go_simp;rfl),by go_simp⟩)
 have B0:=Zq (show Below w.heap.size w W0 by rw[←hW];repeat (first | apply Zab | exact Below.refl _ _))
 clear hW
 have l_v1:w.heap.size≤w.heap.size:=by omega
 have l_v2:w.heap.size≤w.heap.size+1:=by omega
 have n_v1_v2:w.heap.size≠w.heap.size+1:=by omega
 generalize w.heap.size+1=v2 at *
 obtain⟨v1,ev1⟩:∃z,z=w.heap.size:=⟨_,rfl⟩
 rw[←ev1] at R0x0 n_v1_v2 ⊢
 have l_v1:w.heap.size≤v1:=by rw[ev1];exact Nat.le_refl _
 clear ev1
 obtain⟨R0x0a,R0x0b,R0x0c⟩:=R0x0.out
 obtain⟨R0x1a,R0x1b,R0x1c⟩:=R0x1.out
 refine Zal W0 [0,1,2,3,4,5,6,7] [false,false,false,false,false,false,false,false] [] [] 8 (by kernel_rfl) rfl (by kernel_rfl) (by intro c a d v w h;cases d<;>exact h) (by first | exact(Below.refl _ _).drew | exact Below.refl _ _) ?_
 simp only[pick,List.getElem?_cons_succ,List.getElem?_cons_zero,List.drop_succ_cons,List.drop_zero]
 refine Zac (Zaa rfl) (by intro K o d hK;go_simp;exact hK _ (Below.refl _ _)) ?_
 refine Zai (v:=.agg (bysA p1)) (Zaa rfl) (by intro K o d hK;go_simp;refine(KP1.out _).mono ?_;rintro e w' ⟨rfl,hbw⟩;exact⟨_,rfl,hK _ hbw⟩) ?_
 refine Zac (Zaa rfl) (by intro K o d hK;go_simp;exact hK _ (Below.refl _ _)) ?_
 refine Zac (Zaa rfl) (by intro K o d hK;go_simp;exact hK _ (Below.refl _ _)) ?_
 refine Zac (Zaa rfl) (by intro K o d hK;go_simp;exact hK _ (Below.refl _ _)) ?_
 refine Zai (v:=.agg (bysA p2)) (Zaa rfl) (by intro K o d hK;go_simp;refine(KP2.out _).mono ?_;rintro e w' ⟨rfl,hbw⟩;exact⟨_,rfl,hK _ hbw⟩) ?_
 refine Zac (Zaa rfl) (by intro K o d hK;go_simp;exact hK _ (Below.refl _ _)) ?_
 refine Zac (Zaa rfl) (by intro K o d hK;go_simp;exact hK _ (Below.refl _ _)) ?_
 refine Zan ?_
 intro W1 hb1 hblk
 clear hblk
 clear R0x0a R0x0b R0x0c R0x1a R0x1b R0x1c
 have R1x0:=Zq (R0x0.out.grow hb1)
 have R1x1:=Zq (R0x1.out.grow hb1)
 have B1:=Zq (B0.out.trans (hb1.mono B0.out.size))
 clear hb1 B0 R0x0 R0x1
 obtain⟨R1x0a,R1x0b,R1x0c⟩:=R1x0.out
 obtain⟨R1x1a,R1x1b,R1x1c⟩:=R1x1.out
 go_wp2_with fail
 have n_v1_hv:v1≠W1.heap.size:=Nat.ne_of_lt R1x0.out.2.2
 have n_v2_hv:v2≠W1.heap.size:=Nat.ne_of_lt R1x1.out.2.2
 have l_hv:w.heap.size≤W1.heap.size:=B1.out.size
 have hb2:=Zab (Below.refl W1.heap.size W1) (.cells (HH) 77)
 have N2:=Zq (RowAt.of (Zaq W1 (.cells (HH) 77)))
 have R2x0:=Zq (R1x0.out.grow hb2)
 have R2x1:=Zq (R1x1.out.grow hb2)
 have B2:=Zq (B1.out.trans (hb2.mono B1.out.size))
 clear hb2 B1 R1x0 R1x1 R1x0a R1x0b R1x0c R1x1a R1x1b R1x1c
 generalize W1.heap.size=hv at *
 generalize W1.alloc (.cells (HH) 77)=W2 at *
 have HR:=Zq (HQ.out _ hv N2.out)
 have HRW:=Zq (fun (W:World) (hb:Below W2.heap.size W2 W)=>HR.out.grow hb)
 clear HR
 have HRB:=Zq (Below.refl W2.heap.size W2)
 obtain⟨WH,eWH⟩:∃z,z=W2:=⟨_,rfl⟩
 rw[←eWH] at HRW HRB
 have Z0:=Zq (show Below WH.heap.size WH W2 by rw[eWH];exact Below.refl _ _)
 clear HRB eWH
 refine(KB.out _ (HT.out.grow B2.out) _ (HRW.out _ Z0.out)).mono ?_
 rintro e W3 ⟨v,rfl,hv0,hb3⟩
 have Z3:=Zq (Z0.out.trans (hb3.mono Z0.out.size))
 clear Z0
 have R3x0:=Zq (R2x0.out.grow hb3)
 have R3x1:=Zq (R2x1.out.grow hb3)
 have B3:=Zq (B2.out.trans (hb3.mono B2.out.size))
 clear hb3 B2 R2x0 R2x1
 obtain⟨ps,cs,rfl,hro,hcl,hx1,hpa⟩:=OwnR.form hv0
 clear hx1 hro
 obtain⟨gs,rfl,hgs⟩:=hpa (by simp)
 rw[show ([s0,s1].map bysA).length=2 from rfl] at hcl hv0 ⊢
 have HV:=Zq hv0
 clear hv0 hcl hpa hgs
 obtain⟨R3x0a,R3x0b,R3x0c⟩:=R3x0.out
 obtain⟨R3x1a,R3x1b,R3x1c⟩:=R3x1.out
 go_wp2_with fail
 have m0_hd:(Value.slice (some ⟨gs,0,none⟩) 2 cs).ownBlock≠some W3.heap.size:=fun e=>by have:=(HV.out.ltb _ e).2;omega
 have n_v1_hd:v1≠W3.heap.size:=Nat.ne_of_lt R3x0.out.2.2
 have n_v2_hd:v2≠W3.heap.size:=Nat.ne_of_lt R3x1.out.2.2
 have l_hd:w.heap.size≤W3.heap.size:=B3.out.size
 have hb4:=Zab (Below.refl W3.heap.size W3) (.cells (bysA H) 31)
 have N4:=Zq (RowAt.of (Zaq W3 (.cells (bysA H) 31)))
 have Z4:=Zq (Z3.out.trans (hb4.mono Z3.out.size))
 clear Z3
 have O4x0:=Zq (HV.out.grow hb4)
 clear HV
 have R4x0:=Zq (R3x0.out.grow hb4)
 have R4x1:=Zq (R3x1.out.grow hb4)
 have B4:=Zq (B3.out.trans (hb4.mono B3.out.size))
 clear hb4 B3 R3x0 R3x1 R3x0a R3x0b R3x0c R3x1a R3x1b R3x1c
 generalize W3.heap.size=hd at *
 generalize W3.alloc (.cells (bysA H) 31)=W4 at *
 refine(KU1.out _ (HT.out.grow B4.out)).mono ?_
 rintro e W5 ⟨rfl,hb5⟩
 have Z5:=Zq (Z4.out.trans (hb5.mono Z4.out.size))
 clear Z4
 have O5x0:=Zq (O4x0.out.grow hb5)
 clear O4x0
 have R5x0:=Zq (R4x0.out.grow hb5)
 have R5x1:=Zq (R4x1.out.grow hb5)
 have R5x2:=Zq (N4.out.grow hb5)
 have B5:=Zq (B4.out.trans (hb5.mono B4.out.size))
 clear hb5 B4 R4x0 R4x1 N4
 obtain⟨R5x0a,R5x0b,R5x0c⟩:=R5x0.out
 obtain⟨R5x1a,R5x1b,R5x1c⟩:=R5x1.out
 obtain⟨R5x2a,R5x2b,R5x2c⟩:=R5x2.out
 go_wp2_with fail
 have m0_xv:(Value.slice (some ⟨gs,0,none⟩) 2 cs).ownBlock≠some W5.heap.size:=fun e=>by have:=(O5x0.out.ltb _ e).2;omega
 have n_v1_xv:v1≠W5.heap.size:=Nat.ne_of_lt R5x0.out.2.2
 have n_v2_xv:v2≠W5.heap.size:=Nat.ne_of_lt R5x1.out.2.2
 have n_hd_xv:hd≠W5.heap.size:=Nat.ne_of_lt R5x2.out.2.2
 have l_xv:w.heap.size≤W5.heap.size:=B5.out.size
 have hb6:=Zab (Below.refl W5.heap.size W5) (.cells (Zbn x) 53)
 have N6:=Zq (RowAt.of (Zaq W5 (.cells (Zbn x) 53)))
 have Z6:=Zq (Z5.out.trans (hb6.mono Z5.out.size))
 clear Z5
 have O6x0:=Zq (O5x0.out.grow hb6)
 clear O5x0
 have R6x0:=Zq (R5x0.out.grow hb6)
 have R6x1:=Zq (R5x1.out.grow hb6)
 have R6x2:=Zq (R5x2.out.grow hb6)
 have B6:=Zq (B5.out.trans (hb6.mono B5.out.size))
 clear hb6 B5 R5x0 R5x1 R5x2 R5x0a R5x0b R5x0c R5x1a R5x1b R5x1c R5x2a R5x2b R5x2c
 generalize W5.heap.size=xv at *
 generalize W5.alloc (.cells (Zbn x) 53)=W6 at *
 refine(KU2.out _ (HT.out.grow B6.out)).mono ?_
 rintro e W7 ⟨rfl,hb7⟩
 have Z7:=Zq (Z6.out.trans (hb7.mono Z6.out.size))
 clear Z6
 have O7x0:=Zq (O6x0.out.grow hb7)
 clear O6x0
 have R7x0:=Zq (R6x0.out.grow hb7)
 have R7x1:=Zq (R6x1.out.grow hb7)
 have R7x2:=Zq (R6x2.out.grow hb7)
 have R7x3:=Zq (N6.out.grow hb7)
 have B7:=Zq (B6.out.trans (hb7.mono B6.out.size))
 clear hb7 B6 R6x0 R6x1 R6x2 N6
 obtain⟨R7x0a,R7x0b,R7x0c⟩:=R7x0.out
 obtain⟨R7x1a,R7x1b,R7x1c⟩:=R7x1.out
 obtain⟨R7x2a,R7x2b,R7x2c⟩:=R7x2.out
 obtain⟨R7x3a,R7x3b,R7x3c⟩:=R7x3.out
 go_wp2_with fail
 have m0_yv:(Value.slice (some ⟨gs,0,none⟩) 2 cs).ownBlock≠some W7.heap.size:=fun e=>by have:=(O7x0.out.ltb _ e).2;omega
 have n_v1_yv:v1≠W7.heap.size:=Nat.ne_of_lt R7x0.out.2.2
 have n_v2_yv:v2≠W7.heap.size:=Nat.ne_of_lt R7x1.out.2.2
 have n_hd_yv:hd≠W7.heap.size:=Nat.ne_of_lt R7x2.out.2.2
 have n_xv_yv:xv≠W7.heap.size:=Nat.ne_of_lt R7x3.out.2.2
 have l_yv:w.heap.size≤W7.heap.size:=B7.out.size
 have hb8:=Zab (Below.refl W7.heap.size W7) (.cells (Zbn y) 53)
 have N8:=Zq (RowAt.of (Zaq W7 (.cells (Zbn y) 53)))
 have Z8:=Zq (Z7.out.trans (hb8.mono Z7.out.size))
 clear Z7
 have O8x0:=Zq (O7x0.out.grow hb8)
 clear O7x0
 have R8x0:=Zq (R7x0.out.grow hb8)
 have R8x1:=Zq (R7x1.out.grow hb8)
 have R8x2:=Zq (R7x2.out.grow hb8)
 have R8x3:=Zq (R7x3.out.grow hb8)
 have B8:=Zq (B7.out.trans (hb8.mono B7.out.size))
 clear hb8 B7 R7x0 R7x1 R7x2 R7x3 R7x0a R7x0b R7x0c R7x1a R7x1b R7x1c R7x2a R7x2b R7x2c R7x3a R7x3b R7x3c
 generalize W7.heap.size=yv at *
 generalize W7.alloc (.cells (Zbn y) 53)=W8 at *
 refine(KB1.out _ _ (HQ1.out _ _ (HRW.out _ Z8.out))).mono ?_
 rintro e W9 ⟨rfl,hb9⟩
 have Z9:=Zq (Z8.out.trans (hb9.mono Z8.out.size))
 clear Z8
 have O9x0:=Zq (O8x0.out.grow hb9)
 clear O8x0
 have R9x0:=Zq (R8x0.out.grow hb9)
 have R9x1:=Zq (R8x1.out.grow hb9)
 have R9x2:=Zq (R8x2.out.grow hb9)
 have R9x3:=Zq (R8x3.out.grow hb9)
 have R9x4:=Zq (N8.out.grow hb9)
 have B9:=Zq (B8.out.trans (hb9.mono B8.out.size))
 clear hb9 B8 R8x0 R8x1 R8x2 R8x3 N8
 obtain⟨R9x0a,R9x0b,R9x0c⟩:=R9x0.out
 obtain⟨R9x1a,R9x1b,R9x1c⟩:=R9x1.out
 obtain⟨R9x2a,R9x2b,R9x2c⟩:=R9x2.out
 obtain⟨R9x3a,R9x3b,R9x3c⟩:=R9x3.out
 obtain⟨R9x4a,R9x4b,R9x4c⟩:=R9x4.out
 go_wp2_with fail
 have m0_he:(Value.slice (some ⟨gs,0,none⟩) 2 cs).ownBlock≠some W9.heap.size:=fun e=>by have:=(O9x0.out.ltb _ e).2;omega
 have n_v1_he:v1≠W9.heap.size:=Nat.ne_of_lt R9x0.out.2.2
 have n_v2_he:v2≠W9.heap.size:=Nat.ne_of_lt R9x1.out.2.2
 have n_hd_he:hd≠W9.heap.size:=Nat.ne_of_lt R9x2.out.2.2
 have n_xv_he:xv≠W9.heap.size:=Nat.ne_of_lt R9x3.out.2.2
 have n_yv_he:yv≠W9.heap.size:=Nat.ne_of_lt R9x4.out.2.2
 have l_he:w.heap.size≤W9.heap.size:=B9.out.size
 have hb10:=Zab (Below.refl W9.heap.size W9) (.cells (bysA (zs 208)) 31)
 have N10:=Zq (RowAt.of (Zaq W9 (.cells (bysA (zs 208)) 31)))
 have Z10:=Zq (Z9.out.trans (hb10.mono Z9.out.size))
 clear Z9
 have O10x0:=Zq (O9x0.out.grow hb10)
 clear O9x0
 have R10x0:=Zq (R9x0.out.grow hb10)
 have R10x1:=Zq (R9x1.out.grow hb10)
 have R10x2:=Zq (R9x2.out.grow hb10)
 have R10x3:=Zq (R9x3.out.grow hb10)
 have R10x4:=Zq (R9x4.out.grow hb10)
 have B10:=Zq (B9.out.trans (hb10.mono B9.out.size))
 clear hb10 B9 R9x0 R9x1 R9x2 R9x3 R9x4 R9x0a R9x0b R9x0c R9x1a R9x1b R9x1c R9x2a R9x2b R9x2c R9x3a R9x3b R9x3c R9x4a R9x4b R9x4c
 generalize W9.heap.size=he at *
 generalize W9.alloc (.cells (bysA (zs 208)) 31)=W10 at *
 refine Zbv W10 50 (fun w w'=>Below w.heap.size w w') (Zhk [fixV (.int .i64 0),fixV (.bool true),fixV (.bool true),fixV (.int .i64 0),fixV (.bool true),fixV (.bool true),fixV (.bool true),fixV (.pointer (some ⟨xv,0,none⟩)),fixV (.agg (cmdA D1)),fixV (.slice (some ⟨hv,0,none⟩) 2 2),fixV (.pointer (some ⟨hv,0,none⟩)),fixV (.pointer (some ⟨hv,32,none⟩)),fixV (.agg (cmdA D1)),fixV (.bool true),fixV (.bool true),fixV (.bool true),fixV (.pointer (some ⟨yv,0,none⟩)),fixV (.agg (cmdA D2)),fixV (.slice (some ⟨hv,0,none⟩) 2 2),fixV (.pointer (some ⟨hv,43,none⟩)),fixV (.pointer (some ⟨hv,75,none⟩)),fixV (.agg (cmdA D2)),fixV (.bool true),fixV (.bool true),fixV (.bool true),fixV (.pointer (some ⟨xv,219,none⟩)),fixV (.agg (bysA s0)),fixV (.slice (some ⟨gs,0,none⟩) 2 cs),fixV (.pointer (some ⟨gs,0,none⟩)),fixV (.agg (bysA s0)),fixV (.bool true),fixV (.bool true),fixV (.bool true),fixV (.pointer (some ⟨yv,219,none⟩)),fixV (.agg (bysA s1)),fixV (.slice (some ⟨gs,0,none⟩) 2 cs),fixV (.pointer (some ⟨gs,32,none⟩)),fixV (.agg (bysA s1)),fixV (.bool true),fixV (.bool true),fixV (.bool true),fixV (.int .i64 14),fixV (.bool true),fixV (.bool true),fixV (.bool true),fixV (.agg (bysA H)),ownV W10.heap.size H,fixV (.int .i64 208),fixV (.bool true),fixV (.bool true)]) [50] [0,1,2,3,4,5,6,7,8,9,10,11,12,13,14,15,16,17,18,19,20,21,22,23,24,25,26,27,28,29,30,31,32,33,34,35,36,37,38,39,40,41,42,43,44,45,46,47,48,49] [some 60,some 61,some 62,some 63,some 64,some 65,some 66,some 67,some 68,some 69,some 70,some 71,some 72,some 73,some 74,some 75,some 76,some 77,some 78,some 79,some 80,some 81,some 82,some 83,some 84,some 85,some 86,some 87,some 88,some 89,some 90,some 91,some 92,some 93,some 94,some 95,some 96,some 97,some 98,some 99,some 100,some 101,some 102,some 103,some 104,some 105,some 106,some 107,some 108,some 109] (by kernel_rfl) (by kernel_rfl) (by kernel_rfl) (by kernel_rfl) (by first | exact(Below.refl _ _).drew | exact Below.refl _ _) (fun w w' h h'=>h.trans (h'.mono h.size)) (Zcw ⟨Zak _,Zak _,Zak _,Zak _,Zak _,Zak _,Zak _,Zak _,Zak _,Zak _,Zak _,Zak _,Zak _,Zak _,Zak _,Zak _,Zak _,Zak _,Zak _,Zak _,Zak _,Zak _,Zak _,Zak _,Zak _,Zak _,Zak _,Zak _,Zak _,Zak _,Zak _,Zak _,Zak _,Zak _,Zak _,Zak _,Zak _,Zak _,Zak _,Zak _,Zak _,Zak _,Zak _,Zak _,Zak _,Zak _,Zdw _ _,Zak _,Zak _,Zak _,trivial⟩) ?_
 intro vals
 simp only[List.take_succ_cons,List.take_zero]
 refine⟨Zao [] [] (by kernel_rfl) rfl (fun K w hb hd hK=>?_),?_⟩
 ·simp only[putZ]
  refine⟨Zaa rfl,?_⟩
  go_simp
  exact hK _ _ _ (Below.refl _ _) rfl
 refine⟨Zao [0] [some 60] (by kernel_rfl) (by kernel_rfl) (fun K w hb hd hK=>?_),?_⟩
 ·have d0:vals 0=.int .i64 0:=hd 0 (by simp)
  simp only[List.map_cons,List.map_nil,putZ,d0]
  refine⟨Zaa rfl,?_⟩
  go_simp
  exact hK _ _ _ (Below.refl _ _) rfl
 refine⟨Zao [1] [some 61] (by kernel_rfl) (by kernel_rfl) (fun K w hb hd hK=>?_),?_⟩
 ·have d1:vals 1=.bool true:=hd 1 (by simp)
  simp only[List.map_cons,List.map_nil,putZ,d1]
  refine⟨Zaa rfl,?_⟩
  go_simp
  exact hK _ _ _ (Below.refl _ _) rfl
 refine⟨Zao [2] [some 62] (by kernel_rfl) (by kernel_rfl) (fun K w hb hd hK=>?_),?_⟩
 ·have d2:vals 2=.bool true:=hd 2 (by simp)
  simp only[List.map_cons,List.map_nil,putZ,d2]
  refine⟨Zau rfl rfl rfl,?_⟩
  go_simp
  exact hK _ _ _ (Below.refl _ _) rfl
 refine⟨Zao [2,3] [some 62,some 63] (by kernel_rfl) (by kernel_rfl) (fun K w hb hd hK=>?_),?_⟩
 ·have d2:vals 2=.bool true:=hd 2 (by simp)
  have d3:vals 3=.int .i64 0:=hd 3 (by simp)
  simp only[List.map_cons,List.map_nil,putZ,d2,d3]
  refine⟨Zau rfl rfl rfl,?_⟩
  go_simp
  exact hK _ _ _ (Below.refl _ _) rfl
 refine⟨Zao [2,4] [some 62,some 64] (by kernel_rfl) (by kernel_rfl) (fun K w hb hd hK=>?_),?_⟩
 ·have d2:vals 2=.bool true:=hd 2 (by simp)
  have d4:vals 4=.bool true:=hd 4 (by simp)
  simp only[List.map_cons,List.map_nil,putZ,d2,d4]
  refine⟨Zaa rfl,?_⟩
  go_simp
  exact hK _ _ _ (Below.refl _ _) rfl
 refine⟨Zao [5] [some 65] (by kernel_rfl) (by kernel_rfl) (fun K w hb hd hK=>?_),?_⟩
 ·have d5:vals 5=.bool true:=hd 5 (by simp)
  simp only[List.map_cons,List.map_nil,putZ,d5]
  refine⟨Zaa rfl,?_⟩
  go_simp
  exact hK _ _ _ (Below.refl _ _) rfl
 refine⟨Zao [6] [some 66] (by kernel_rfl) (by kernel_rfl) (fun K w hb hd hK=>?_),?_⟩
 ·have d6:vals 6=.bool true:=hd 6 (by simp)
  simp only[List.map_cons,List.map_nil,putZ,d6]
  refine⟨Zau rfl rfl rfl,?_⟩
  go_simp
  exact hK _ _ _ (Below.refl _ _) rfl
 refine⟨Zao [6,7] [some 66,some 67] (by kernel_rfl) (by kernel_rfl) (fun K w hb hd hK=>?_),?_⟩
 ·have d6:vals 6=.bool true:=hd 6 (by simp)
  have d7:vals 7=.pointer (some ⟨xv,0,none⟩):=hd 7 (by simp)
  obtain⟨x1,x2,x3⟩:=R10x3.out.grow hb
  have hxc:=HXE.out.1
  simp only[List.map_cons,List.map_nil,putZ,d6,d7]
  refine⟨Zau rfl rfl rfl,?_⟩
  go_simp
  exact hK _ _ _ (Below.refl _ _) rfl
 refine⟨Zao [6] [some 66] (by kernel_rfl) (by kernel_rfl) (fun K w hb hd hK=>?_),?_⟩
 ·have d6:vals 6=.bool true:=hd 6 (by simp)
  simp only[List.map_cons,List.map_nil,putZ,d6]
  refine⟨Zau rfl rfl rfl,?_⟩
  go_simp
  exact hK _ _ _ (Below.refl _ _) rfl
 refine⟨Zao [6,9] [some 66,some 69] (by kernel_rfl) (by kernel_rfl) (fun K w hb hd hK=>?_),?_⟩
 ·have d6:vals 6=.bool true:=hd 6 (by simp)
  have d9:vals 9=.slice (some ⟨hv,0,none⟩) 2 2:=hd 9 (by simp)
  simp only[List.map_cons,List.map_nil,putZ,d6,d9]
  refine⟨Zau rfl rfl rfl,?_⟩
  go_simp
  exact hK _ _ _ (Below.refl _ _) rfl
 refine⟨Zao [6,10] [some 66,some 70] (by kernel_rfl) (by kernel_rfl) (fun K w hb hd hK=>?_),?_⟩
 ·have d6:vals 6=.bool true:=hd 6 (by simp)
  have d10:vals 10=.pointer (some ⟨hv,0,none⟩):=hd 10 (by simp)
  simp only[List.map_cons,List.map_nil,putZ,d6,d10]
  refine⟨Zau rfl rfl rfl,?_⟩
  go_simp
  exact hK _ _ _ (Below.refl _ _) rfl
 refine⟨Zao [6,11] [some 66,some 71] (by kernel_rfl) (by kernel_rfl) (fun K w hb hd hK=>?_),?_⟩
 ·have d6:vals 6=.bool true:=hd 6 (by simp)
  have d11:vals 11=.pointer (some ⟨hv,32,none⟩):=hd 11 (by simp)
  have hc0:=HC0.out _ hv (HRW.out _ (Z10.out.trans (hb.mono Z10.out.size)))
  simp only[List.map_cons,List.map_nil,putZ,d6,d11]
  refine⟨Zau rfl rfl rfl,?_⟩
  go_simp
  exact hK _ _ _ (Below.refl _ _) rfl
 refine⟨Zao [6,8,12] [some 66,some 68,some 72] (by kernel_rfl) (by kernel_rfl) (fun K w hb hd hK=>?_),?_⟩
 ·have d6:vals 6=.bool true:=hd 6 (by simp)
  have d8:vals 8=.agg (cmdA D1):=hd 8 (by simp)
  have d12:vals 12=.agg (cmdA D1):=hd 12 (by simp)
  simp only[List.map_cons,List.map_nil,putZ,d6,d8,d12]
  refine⟨Zau rfl rfl rfl,?_⟩
  go_simp
  exact hK _ _ _ (Below.refl _ _) rfl
 refine⟨Zao [6,13] [some 66,some 73] (by kernel_rfl) (by kernel_rfl) (fun K w hb hd hK=>?_),?_⟩
 ·have d6:vals 6=.bool true:=hd 6 (by simp)
  have d13:vals 13=.bool true:=hd 13 (by simp)
  simp only[List.map_cons,List.map_nil,putZ,d6,d13]
  refine⟨Zaa rfl,?_⟩
  go_simp
  exact hK _ _ _ (Below.refl _ _) rfl
 refine⟨Zao [14] [some 74] (by kernel_rfl) (by kernel_rfl) (fun K w hb hd hK=>?_),?_⟩
 ·have d14:vals 14=.bool true:=hd 14 (by simp)
  simp only[List.map_cons,List.map_nil,putZ,d14]
  refine⟨Zaa rfl,?_⟩
  go_simp
  exact hK _ _ _ (Below.refl _ _) rfl
 refine⟨Zao [15] [some 75] (by kernel_rfl) (by kernel_rfl) (fun K w hb hd hK=>?_),?_⟩
 ·have d15:vals 15=.bool true:=hd 15 (by simp)
  simp only[List.map_cons,List.map_nil,putZ,d15]
  refine⟨Zau rfl rfl rfl,?_⟩
  go_simp
  exact hK _ _ _ (Below.refl _ _) rfl
 refine⟨Zao [15,16] [some 75,some 76] (by kernel_rfl) (by kernel_rfl) (fun K w hb hd hK=>?_),?_⟩
 ·have d15:vals 15=.bool true:=hd 15 (by simp)
  have d16:vals 16=.pointer (some ⟨yv,0,none⟩):=hd 16 (by simp)
  obtain⟨y1,y2,y3⟩:=R10x4.out.grow hb
  have hyc:=HXE.out.2.2.1
  simp only[List.map_cons,List.map_nil,putZ,d15,d16]
  refine⟨Zau rfl rfl rfl,?_⟩
  go_simp
  exact hK _ _ _ (Below.refl _ _) rfl
 refine⟨Zao [15] [some 75] (by kernel_rfl) (by kernel_rfl) (fun K w hb hd hK=>?_),?_⟩
 ·have d15:vals 15=.bool true:=hd 15 (by simp)
  simp only[List.map_cons,List.map_nil,putZ,d15]
  refine⟨Zau rfl rfl rfl,?_⟩
  go_simp
  exact hK _ _ _ (Below.refl _ _) rfl
 refine⟨Zao [15,18] [some 75,some 78] (by kernel_rfl) (by kernel_rfl) (fun K w hb hd hK=>?_),?_⟩
 ·have d15:vals 15=.bool true:=hd 15 (by simp)
  have d18:vals 18=.slice (some ⟨hv,0,none⟩) 2 2:=hd 18 (by simp)
  simp only[List.map_cons,List.map_nil,putZ,d15,d18]
  refine⟨Zau rfl rfl rfl,?_⟩
  go_simp
  exact hK _ _ _ (Below.refl _ _) rfl
 refine⟨Zao [15,19] [some 75,some 79] (by kernel_rfl) (by kernel_rfl) (fun K w hb hd hK=>?_),?_⟩
 ·have d15:vals 15=.bool true:=hd 15 (by simp)
  have d19:vals 19=.pointer (some ⟨hv,43,none⟩):=hd 19 (by simp)
  simp only[List.map_cons,List.map_nil,putZ,d15,d19]
  refine⟨Zau rfl rfl rfl,?_⟩
  go_simp
  exact hK _ _ _ (Below.refl _ _) rfl
 refine⟨Zao [15,20] [some 75,some 80] (by kernel_rfl) (by kernel_rfl) (fun K w hb hd hK=>?_),?_⟩
 ·have d15:vals 15=.bool true:=hd 15 (by simp)
  have d20:vals 20=.pointer (some ⟨hv,75,none⟩):=hd 20 (by simp)
  have hc0:=HC1.out _ hv (HRW.out _ (Z10.out.trans (hb.mono Z10.out.size)))
  simp only[List.map_cons,List.map_nil,putZ,d15,d20]
  refine⟨Zau rfl rfl rfl,?_⟩
  go_simp
  exact hK _ _ _ (Below.refl _ _) rfl
 refine⟨Zao [15,17,21] [some 75,some 77,some 81] (by kernel_rfl) (by kernel_rfl) (fun K w hb hd hK=>?_),?_⟩
 ·have d15:vals 15=.bool true:=hd 15 (by simp)
  have d17:vals 17=.agg (cmdA D2):=hd 17 (by simp)
  have d21:vals 21=.agg (cmdA D2):=hd 21 (by simp)
  simp only[List.map_cons,List.map_nil,putZ,d15,d17,d21]
  refine⟨Zau rfl rfl rfl,?_⟩
  go_simp
  exact hK _ _ _ (Below.refl _ _) rfl
 refine⟨Zao [15,22] [some 75,some 82] (by kernel_rfl) (by kernel_rfl) (fun K w hb hd hK=>?_),?_⟩
 ·have d15:vals 15=.bool true:=hd 15 (by simp)
  have d22:vals 22=.bool true:=hd 22 (by simp)
  simp only[List.map_cons,List.map_nil,putZ,d15,d22]
  refine⟨Zaa rfl,?_⟩
  go_simp
  exact hK _ _ _ (Below.refl _ _) rfl
 refine⟨Zao [23] [some 83] (by kernel_rfl) (by kernel_rfl) (fun K w hb hd hK=>?_),?_⟩
 ·have d23:vals 23=.bool true:=hd 23 (by simp)
  simp only[List.map_cons,List.map_nil,putZ,d23]
  refine⟨Zaa rfl,?_⟩
  go_simp
  exact hK _ _ _ (Below.refl _ _) rfl
 refine⟨Zao [24] [some 84] (by kernel_rfl) (by kernel_rfl) (fun K w hb hd hK=>?_),?_⟩
 ·have d24:vals 24=.bool true:=hd 24 (by simp)
  simp only[List.map_cons,List.map_nil,putZ,d24]
  refine⟨Zau rfl rfl rfl,?_⟩
  go_simp
  exact hK _ _ _ (Below.refl _ _) rfl
 refine⟨Zao [24,25] [some 84,some 85] (by kernel_rfl) (by kernel_rfl) (fun K w hb hd hK=>?_),?_⟩
 ·have d24:vals 24=.bool true:=hd 24 (by simp)
  have d25:vals 25=.pointer (some ⟨xv,219,none⟩):=hd 25 (by simp)
  obtain⟨x1,x2,x3⟩:=R10x3.out.grow hb
  have hxc:=HXE.out.2.1
  simp only[List.map_cons,List.map_nil,putZ,d24,d25]
  refine⟨Zau rfl rfl rfl,?_⟩
  go_simp
  exact hK _ _ _ (Below.refl _ _) rfl
 refine⟨Zao [24] [some 84] (by kernel_rfl) (by kernel_rfl) (fun K w hb hd hK=>?_),?_⟩
 ·have d24:vals 24=.bool true:=hd 24 (by simp)
  simp only[List.map_cons,List.map_nil,putZ,d24]
  refine⟨Zau rfl rfl rfl,?_⟩
  go_simp
  exact hK _ _ _ (Below.refl _ _) rfl
 refine⟨Zao [24,27] [some 84,some 87] (by kernel_rfl) (by kernel_rfl) (fun K w hb hd hK=>?_),?_⟩
 ·have d24:vals 24=.bool true:=hd 24 (by simp)
  have d27:vals 27=.slice (some ⟨gs,0,none⟩) 2 cs:=hd 27 (by simp)
  simp only[List.map_cons,List.map_nil,putZ,d24,d27]
  refine⟨Zau rfl rfl rfl,?_⟩
  go_simp
  exact hK _ _ _ (Below.refl _ _) rfl
 refine⟨Zao [24,28] [some 84,some 88] (by kernel_rfl) (by kernel_rfl) (fun K w hb hd hK=>?_),?_⟩
 ·have d24:vals 24=.bool true:=hd 24 (by simp)
  have d28:vals 28=.pointer (some ⟨gs,0,none⟩):=hd 28 (by simp)
  have ho:=Ziy (O10x0.out.grow hb) Hs.out.1
  simp only[List.map_cons,List.map_nil,putZ,d24,d28]
  refine⟨Zau rfl rfl rfl,?_⟩
  go_simp
  exact hK _ _ _ (Below.refl _ _) rfl
 refine⟨Zao [24,26,29] [some 84,some 86,some 89] (by kernel_rfl) (by kernel_rfl) (fun K w hb hd hK=>?_),?_⟩
 ·have d24:vals 24=.bool true:=hd 24 (by simp)
  have d26:vals 26=.agg (bysA s0):=hd 26 (by simp)
  have d29:vals 29=.agg (bysA s0):=hd 29 (by simp)
  simp only[List.map_cons,List.map_nil,putZ,d24,d26,d29]
  refine⟨Zau rfl rfl rfl,?_⟩
  go_simp
  exact hK _ _ _ (Below.refl _ _) rfl
 refine⟨Zao [24,30] [some 84,some 90] (by kernel_rfl) (by kernel_rfl) (fun K w hb hd hK=>?_),?_⟩
 ·have d24:vals 24=.bool true:=hd 24 (by simp)
  have d30:vals 30=.bool true:=hd 30 (by simp)
  simp only[List.map_cons,List.map_nil,putZ,d24,d30]
  refine⟨Zaa rfl,?_⟩
  go_simp
  exact hK _ _ _ (Below.refl _ _) rfl
 refine⟨Zao [31] [some 91] (by kernel_rfl) (by kernel_rfl) (fun K w hb hd hK=>?_),?_⟩
 ·have d31:vals 31=.bool true:=hd 31 (by simp)
  simp only[List.map_cons,List.map_nil,putZ,d31]
  refine⟨Zaa rfl,?_⟩
  go_simp
  exact hK _ _ _ (Below.refl _ _) rfl
 refine⟨Zao [32] [some 92] (by kernel_rfl) (by kernel_rfl) (fun K w hb hd hK=>?_),?_⟩
 ·have d32:vals 32=.bool true:=hd 32 (by simp)
  simp only[List.map_cons,List.map_nil,putZ,d32]
  refine⟨Zau rfl rfl rfl,?_⟩
  go_simp
  exact hK _ _ _ (Below.refl _ _) rfl
 refine⟨Zao [32,33] [some 92,some 93] (by kernel_rfl) (by kernel_rfl) (fun K w hb hd hK=>?_),?_⟩
 ·have d32:vals 32=.bool true:=hd 32 (by simp)
  have d33:vals 33=.pointer (some ⟨yv,219,none⟩):=hd 33 (by simp)
  obtain⟨y1,y2,y3⟩:=R10x4.out.grow hb
  have hyc:=HXE.out.2.2.2
  simp only[List.map_cons,List.map_nil,putZ,d32,d33]
  refine⟨Zau rfl rfl rfl,?_⟩
  go_simp
  exact hK _ _ _ (Below.refl _ _) rfl
 refine⟨Zao [32] [some 92] (by kernel_rfl) (by kernel_rfl) (fun K w hb hd hK=>?_),?_⟩
 ·have d32:vals 32=.bool true:=hd 32 (by simp)
  simp only[List.map_cons,List.map_nil,putZ,d32]
  refine⟨Zau rfl rfl rfl,?_⟩
  go_simp
  exact hK _ _ _ (Below.refl _ _) rfl
 refine⟨Zao [32,35] [some 92,some 95] (by kernel_rfl) (by kernel_rfl) (fun K w hb hd hK=>?_),?_⟩
 ·have d32:vals 32=.bool true:=hd 32 (by simp)
  have d35:vals 35=.slice (some ⟨gs,0,none⟩) 2 cs:=hd 35 (by simp)
  simp only[List.map_cons,List.map_nil,putZ,d32,d35]
  refine⟨Zau rfl rfl rfl,?_⟩
  go_simp
  exact hK _ _ _ (Below.refl _ _) rfl
 refine⟨Zao [32,36] [some 92,some 96] (by kernel_rfl) (by kernel_rfl) (fun K w hb hd hK=>?_),?_⟩
 ·have d32:vals 32=.bool true:=hd 32 (by simp)
  have d36:vals 36=.pointer (some ⟨gs,32,none⟩):=hd 36 (by simp)
  have ho:=Zm9 (O10x0.out.grow hb) Hs.out.2
  simp only[List.map_cons,List.map_nil,putZ,d32,d36]
  refine⟨Zau rfl rfl rfl,?_⟩
  go_simp
  exact hK _ _ _ (Below.refl _ _) rfl
 refine⟨Zao [32,34,37] [some 92,some 94,some 97] (by kernel_rfl) (by kernel_rfl) (fun K w hb hd hK=>?_),?_⟩
 ·have d32:vals 32=.bool true:=hd 32 (by simp)
  have d34:vals 34=.agg (bysA s1):=hd 34 (by simp)
  have d37:vals 37=.agg (bysA s1):=hd 37 (by simp)
  simp only[List.map_cons,List.map_nil,putZ,d32,d34,d37]
  refine⟨Zau rfl rfl rfl,?_⟩
  go_simp
  exact hK _ _ _ (Below.refl _ _) rfl
 refine⟨Zao [32,38] [some 92,some 98] (by kernel_rfl) (by kernel_rfl) (fun K w hb hd hK=>?_),?_⟩
 ·have d32:vals 32=.bool true:=hd 32 (by simp)
  have d38:vals 38=.bool true:=hd 38 (by simp)
  simp only[List.map_cons,List.map_nil,putZ,d32,d38]
  refine⟨Zaa rfl,?_⟩
  go_simp
  exact hK _ _ _ (Below.refl _ _) rfl
 refine⟨Zao [39] [some 99] (by kernel_rfl) (by kernel_rfl) (fun K w hb hd hK=>?_),?_⟩
 ·have d39:vals 39=.bool true:=hd 39 (by simp)
  simp only[List.map_cons,List.map_nil,putZ,d39]
  refine⟨Zaa rfl,?_⟩
  go_simp
  exact hK _ _ _ (Below.refl _ _) rfl
 refine⟨Zao [40] [some 100] (by kernel_rfl) (by kernel_rfl) (fun K w hb hd hK=>?_),?_⟩
 ·have d40:vals 40=.bool true:=hd 40 (by simp)
  simp only[List.map_cons,List.map_nil,putZ,d40]
  refine⟨Zau rfl rfl rfl,?_⟩
  go_simp
  exact hK _ _ _ (Below.refl _ _) rfl
 refine⟨Zao [40,41] [some 100,some 101] (by kernel_rfl) (by kernel_rfl) (fun K w hb hd hK=>?_),?_⟩
 ·have d40:vals 40=.bool true:=hd 40 (by simp)
  have d41:vals 41=.int .i64 14:=hd 41 (by simp)
  simp only[List.map_cons,List.map_nil,putZ,d40,d41]
  refine⟨Zau rfl rfl rfl,?_⟩
  go_simp
  exact hK _ _ _ (Below.refl _ _) rfl
 refine⟨Zao [40,42] [some 100,some 102] (by kernel_rfl) (by kernel_rfl) (fun K w hb hd hK=>?_),?_⟩
 ·have d40:vals 40=.bool true:=hd 40 (by simp)
  have d42:vals 42=.bool true:=hd 42 (by simp)
  simp only[List.map_cons,List.map_nil,putZ,d40,d42]
  refine⟨Zaa rfl,?_⟩
  go_simp
  exact hK _ _ _ (Below.refl _ _) rfl
 refine⟨Zao [43] [some 103] (by kernel_rfl) (by kernel_rfl) (fun K w hb hd hK=>?_),?_⟩
 ·have d43:vals 43=.bool true:=hd 43 (by simp)
  simp only[List.map_cons,List.map_nil,putZ,d43]
  refine⟨Zaa rfl,?_⟩
  go_simp
  exact hK _ _ _ (Below.refl _ _) rfl
 refine⟨Zao [44] [some 104] (by kernel_rfl) (by kernel_rfl) (fun K w hb hd hK=>?_),?_⟩
 ·have d44:vals 44=.bool true:=hd 44 (by simp)
  obtain⟨z1,z2,z3⟩:=R10x2.out.grow hb
  simp only[List.map_cons,List.map_nil,putZ,d44]
  refine⟨Zau rfl rfl rfl,?_⟩
  go_simp
  exact hK _ _ _ (Below.refl _ _) rfl
 refine⟨Za7 [44,45] [some 104,some 105] (by kernel_rfl) (by kernel_rfl) (fun K w hb hd hK=>?_),?_⟩
 ·have d44:vals 44=.bool true:=hd 44 (by simp)
  have d45:vals 45=.agg (bysA H):=hd 45 (by simp)
  simp only[List.map_cons,List.map_nil,putZ,d44,d45]
  refine⟨Zau rfl rfl rfl,?_⟩
  go_simp
  refine(KE.out w).mono ?_
  rintro e w' ⟨u,rfl,ho,hb'⟩
  exact⟨_,rfl,hK _ _ hb' (ho.base hb.size)⟩
 refine⟨Zao [44,46] [some 104,some 106] (by kernel_rfl) (by kernel_rfl) (fun K w hb hd hK=>?_),?_⟩
 ·have d44:vals 44=.bool true:=hd 44 (by simp)
  obtain⟨p46,c46,d46,y46,q46,z46⟩:=OwnB.bs (show OwnB w W10.heap.size (vals 46) H from hd 46 (by simp))
  rw[HHl.out] at d46
  simp only[List.map_cons,List.map_nil,putZ,d44,d46]
  refine⟨Zau rfl rfl rfl,?_⟩
  go_simp
  exact hK _ _ _ (Below.refl _ _) rfl
 refine⟨Zao [44,47] [some 104,some 107] (by kernel_rfl) (by kernel_rfl) (fun K w hb hd hK=>?_),?_⟩
 ·have d44:vals 44=.bool true:=hd 44 (by simp)
  have d47:vals 47=.int .i64 208:=hd 47 (by simp)
  simp only[List.map_cons,List.map_nil,putZ,d44,d47]
  refine⟨Zau rfl rfl rfl,?_⟩
  go_simp
  exact hK _ _ _ (Below.refl _ _) rfl
 refine⟨Zao [44,48] [some 104,some 108] (by kernel_rfl) (by kernel_rfl) (fun K w hb hd hK=>?_),?_⟩
 ·have d44:vals 44=.bool true:=hd 44 (by simp)
  have d48:vals 48=.bool true:=hd 48 (by simp)
  simp only[List.map_cons,List.map_nil,putZ,d44,d48]
  refine⟨Zaa rfl,?_⟩
  go_simp
  exact hK _ _ _ (Below.refl _ _) rfl
 intro Wz hbz hR
 obtain d49:vals 49=.bool true:=hR 49 (by simp)
 clear hR
 simp only[List.map_cons,List.map_nil,putZ,d49,pick,List.getElem?_cons_succ,List.getElem?_cons_zero]
 generalize vals 0=q0
 generalize vals 1=q1
 generalize vals 2=q2
 generalize vals 3=q3
 generalize vals 4=q4
 generalize vals 5=q5
 generalize vals 6=q6
 generalize vals 7=q7
 generalize vals 8=q8
 generalize vals 9=q9
 generalize vals 10=q10
 generalize vals 11=q11
 generalize vals 12=q12
 generalize vals 13=q13
 generalize vals 14=q14
 generalize vals 15=q15
 generalize vals 16=q16
 generalize vals 17=q17
 generalize vals 18=q18
 generalize vals 19=q19
 generalize vals 20=q20
 generalize vals 21=q21
 generalize vals 22=q22
 generalize vals 23=q23
 generalize vals 24=q24
 generalize vals 25=q25
 generalize vals 26=q26
 generalize vals 27=q27
 generalize vals 28=q28
 generalize vals 29=q29
 generalize vals 30=q30
 generalize vals 31=q31
 generalize vals 32=q32
 generalize vals 33=q33
 generalize vals 34=q34
 generalize vals 35=q35
 generalize vals 36=q36
 generalize vals 37=q37
 generalize vals 38=q38
 generalize vals 39=q39
 generalize vals 40=q40
 generalize vals 41=q41
 generalize vals 42=q42
 generalize vals 43=q43
 generalize vals 44=q44
 generalize vals 45=q45
 generalize vals 46=q46
 generalize vals 47=q47
 generalize vals 48=q48
 have Bz:=Zq (B10.out.trans (hbz.mono B10.out.size))
 clear hbz d49
 clear vals
 go_wp2_with fail
 go_ret
 exact⟨rfl,Bz.out⟩
theorem Ziq:(Tryz.prog.info? 77).map (fun i=>(i.zero,i.size,i.bytes))=some (some (.agg hopZ),43,64):=by kernel_rfl
theorem Zl9:(Value.agg hopZ).cells.size=43:=by show (hopA (zs 32) .zero).size=43;exact Za0 (Zah 32) rfl
theorem Zlb {k:List Nat} {c:Cmd} (hk:k.length=32) (hc:c.id.length=8) (w:World):(Zrp 1 #[(0,.agg (hopA k c))]).run Tryz.prog w=.ok (.slice (some ⟨w.heap.size,0,none⟩) 1 1) (w.alloc (.cells (hopA k c) 77)):=by
 have:=Zea (P:=Tryz.prog) Tryz.underlying36 Ziq [.agg (hopA k c)] (fun v hv=>by rw[List.mem_singleton.1 hv];exact Za0 hk hc) (rfl:_=1) (by decide) (by decide) #[(0,.agg (hopA k c))] rfl w
 rwa [show (Za5 [.agg (hopA k c)]).toArray=hopA k c by
  show ((hopA k c).toList++[]).toArray=_
  rw[List.append_nil,Array.toArray_toList]] at this
theorem Zr6 {w:World} {B gn o:Nat} {v:Value} {ls:List Hop} {x:Hop} (h:OwnR w B 77 43 v (hopR ls)) (hn:w.rangeAt gn o (hopA x.k x.c).toList) (hx:HopOk x) (hBw:B≤w.heap.size) (hlen:ls.length≤1000) :
  ∃ v' w',(Builtin.append_ #[36,36] 36 #[v,.slice (some ⟨gn,o,none⟩) 1 1]).run Tryz.prog w=.ok v' w'∧OwnR w' B 77 43 v' (hopR (ls++[x]))∧w.grownBy w' v.ownBlock∧NewB w v.ownBlock v'.ownBlock:=by
 have:=Zm8 (C:=43) (Y:=64) (z:=.agg hopZ) Tryz.underlying36 Ziq Zl9 (by decide) (by decide) h hn (Za0 hx.k hx.i) (Zpc _ _) hBw (by unfold hopR;rw[List.length_map];exact hlen)
 rwa [show hopR (ls++[x])=hopR ls++[hopA x.k x.c] by simp[hopR]]
theorem Zpk {w:World} {p:Option Addr} {L:List Hop} (hR:RowsAt 43 w p (hopR L)) {j:Nat} {h:Hop} (hj:L[j]?=some h) (ho:HopOk h) :
  ∃ g o,p=some ⟨g,o,none⟩∧g<w.heap.size∧(Zam 84 (.pointer (some ⟨g,o+j*43,none⟩))).run Tryz.prog w=.ok (.agg (hopA h.k h.c)) w :=
 hR.load Tryz.underlying84 rfl (by kernel_rfl) (Zen hj) (Za0 ho.k ho.i)
theorem Zt5 (L:List Hop) (p:Option Addr) (n cap:Nat) (hok:∀h∈L,HopOk h) (hn:n=L.length) (h20:n≤20) (w:World) (hR:RowsAt 43 w p (hopR L)) :
  Calls Tryz.prog 12 #[.slice p n cap] w fun e w'=>∃ v,e=.returned v∧OwnR w' w.heap.size 77 43 v (hopR L)∧Below w.heap.size w w':=by
 have HR:=Zq hR
 have Hn:=Zq (And.intro hn h20)
 have Hok:=Zq hok
 have i20:¬(20:Int)<(n:Int):=by omega
 clear hR hn h20 hok
 go_enter Tryz.func12,Tryz.ntmps12
 go_wp2_with fail
 go_loopw [3,8] (fun f i wr=>∃ (v:Value) (k:Nat),v=f∧k≤n∧i=.int .i64 k∧OwnR wr w.heap.size 77 43 v (hopR (L.take k))∧Below w.heap.size w wr) (fun _ i _=>n-(intOf i).toNat)
 case atStart=>exact⟨_,0,rfl,Nat.zero_le _,rfl,OwnR.nil _ _ _ _,Below.refl _ _⟩
 case round =>
  obtain⟨v,k,rfl,hk,rfl,hown,hbel⟩:=hrel
  by_cases hkn:k<n
  ·have hk1:(k:Int)<(n:Int):=by omega
   obtain⟨h,hj⟩:∃h,L[k]?=some h:=⟨_,List.getElem?_eq_getElem (by rw[←Hn.out.1];exact hkn)⟩
   have ho:=Hok.out h (List.mem_of_getElem? hj)
   obtain⟨g,o,ep,hg,hld⟩:=Zpk (HR.out.grow hbel) hj ho
   subst ep
   have hks:=ho.k
   have his:=ho.i
   have hsz:=Za0 hks his
   have hkey:=Zae hks
   have hcs:=Zax his
   have KT:=Zq (fun (W:World)=>Zpl h.c his W)
   have hbh:=fun W=>Zew hks his W
   have hbs:=fun W=>Zlb hks his W
   have Ht:=Zq (show L.take (k+1)=L.take k++[h] by rw[List.take_add_one,hj];rfl)
   have Ho:=Zq ho
   have Hlen:=Zq (show (L.take k).length≤1000 by rw[List.length_take];have:=Hn.out.2;omega)
   have Hown:=Zq hown
   have Hbel:=Zq hbel
   clear hown hbel hj ho
   go_wp2_with fail
   have m0_hb:v.ownBlock≠some wr.heap.size:=fun e=>by have:=(Hown.out.ltb _ e).2;omega
   have l_hb:w.heap.size≤wr.heap.size:=Hbel.out.size
   have hb11:=Zab (Below.refl wr.heap.size wr) (.cells (hopA h.k h.c) 84)
   have N11:=Zq (RowAt.of (Zaq wr (.cells (hopA h.k h.c) 84)))
   have O11x0:=Zq (Hown.out.grow hb11)
   clear Hown
   have B11:=Zq (Hbel.out.trans (hb11.mono Hbel.out.size))
   clear hb11 Hbel hld hg
   generalize wr.heap.size=hb at *
   generalize wr.alloc (.cells (hopA h.k h.c) 84)=W11 at *
   obtain⟨N11a,N11b,N11c⟩:=N11.out
   refine Zal W11 [0,1,2,3,4,5,6] [true,false,false,false,false,false,false] [] [] 7 (by kernel_rfl) rfl (by kernel_rfl) (by intro c a d v w h;cases d<;>exact h) (by first | exact(Below.refl _ _).drew | exact Below.refl _ _) ?_
   simp only[pick,List.getElem?_cons_succ,List.getElem?_cons_zero,List.drop_succ_cons,List.drop_zero]
   refine Zay (Zaa rfl) (fun w=>by go_simp;rfl) ?_
   refine Zac (Zaa rfl) (by intro K o d hK;go_simp;exact hK _ (Below.refl _ _)) ?_
   refine Zac (Zaa rfl) (by intro K o d hK;go_simp;exact hK _ (Below.refl _ _)) ?_
   refine Zac (Zaa rfl) (by intro K o d hK;go_simp;exact hK _ (Below.refl _ _)) ?_
   refine Zac (Zaa rfl) (by intro K o d hK;go_simp;exact hK _ (Below.refl _ _)) ?_
   refine Zai (v:=.agg (cmdA h.c)) (Zaa rfl) (by intro K o d hK;go_simp;refine(KT.out _).mono ?_;rintro e w' ⟨rfl,hbw⟩;exact⟨_,rfl,hK _ hbw⟩) ?_
   refine Zac (Zaa rfl) (by intro K o d hK;go_simp;exact hK _ (Below.refl _ _)) ?_
   refine Zan ?_
   intro W12 hb12 hblk
   clear hblk
   clear N11a N11b N11c
   have O12x0:=Zq (O11x0.out.grow hb12)
   clear O11x0
   have R12x0:=Zq (N11.out.grow hb12)
   have B12:=Zq (B11.out.trans (hb12.mono B11.out.size))
   clear hb12 B11 N11
   have hb13:=Zab (Below.refl W12.heap.size W12) (.cells (hopA h.k h.c) 77)
   have O13x0:=Zq (O12x0.out.grow hb13)
   have n_hb_tb:hb≠W12.heap.size:=Nat.ne_of_lt R12x0.out.2.2
   have R13x0:=Zq (R12x0.out.grow hb13)
   have m0_tb:v.ownBlock≠some W12.heap.size:=fun e=>by have:=(O12x0.out.ltb _ e).2;omega
   have R13n:=Zq (RowAt.of (Zaq W12 (.cells (hopA h.k h.c) 77)))
   have l_tb:w.heap.size≤W12.heap.size:=B12.out.size
   have B13:=Zq (B12.out.trans (hb13.mono B12.out.size))
   clear hb13
   obtain⟨tb,etb⟩:∃z,z=W12.heap.size:=⟨_,rfl⟩
   obtain⟨W13,eW13⟩:∃z,z=W12.alloc (.cells (hopA h.k h.c) 77):=⟨_,rfl⟩
   rw[←etb] at R13n l_tb n_hb_tb m0_tb
   rw[←eW13] at R13x0 R13n O13x0 B13
   have hW13:=eW13.symm
   have htb:=etb.symm
   clear eW13 etb
   obtain⟨v2,W14,hr14,ho14,hg14,hn14⟩:=Zr6 O13x0.out (Zcb R13n.out) Ho.out B13.out.size Hlen.out
   have P14:=Zq ho14
   have A14:=Zq (Zc2 B13.out O13x0.out B13.out.size hg14)
   have N14:=Zq hn14
   have Q14x0:=Zq (ZaM R13x0.out hg14 m0_hb)
   have Q14x1:=Zq (ZaM R13n.out hg14 m0_tb)
   have G14:=Zq hg14.size
   clear ho14 hg14 hn14
   go_wp2_with (at_builtin;refine Lib.wpList_append_run _ rfl _ _ _ _ rfl _ _ rfl rfl _ _ hr14 ?_)
   go_roundw
   case rel=>exact⟨v2,k+1,rfl,by omega,by go_num,by rw[Ht.out];exact P14.out,A14.out⟩
   case measure=>simp[intOf];omega
  ·obtain rfl:k=n:=by omega
   rw[List.take_of_length_le (by rw[←Hn.out.1];exact Nat.le_refl _)] at hown
   have Hown:=Zq hown
   have Hbel:=Zq hbel
   clear hbel hown
   go_wp2_with fail
   go_ret
   exact⟨v,rfl,Hown.out,Hbel.out⟩
def ZrV (B:Nat) (e:TypeId) (C:Nat) (ls:List (Array Value)):Value→World→Prop:=fun v w=>OwnR w B e C v ls
theorem ZgS (B:Nat) (e:TypeId) (C:Nat) (ls:List (Array Value)):Zf8 (ZrV B e C ls):=fun _ _ _ h hb=>OwnR.grow h hb
def Zsp (B:Nat) (e:TypeId) (C:Nat) (x y:Value) (ls:List (Array Value)):Value→World→Prop:=fun v w=>∃ u,v=.tuple #[x,u,y]∧OwnR w B e C u ls
theorem ZgA (B:Nat) (e:TypeId) (C:Nat) (x y:Value) (ls:List (Array Value)):Zf8 (Zsp B e C x y ls):=fun _ _ _ ⟨u,h,ho⟩ hb=>⟨u,h,ho.grow hb⟩
def ZqP (B:Nat) (f:Nat→Value) (c:Array Value) (t:TypeId):Value→World→Prop:=fun v w=>∃ g,v=f g∧w.heap[g]?=some (.cells c t (0,0))∧B≤g
theorem ZjD (B:Nat) (f:Nat→Value) (c:Array Value) (t:TypeId):Zf8 (ZqP B f c t):=fun _ _ _ ⟨g,h,hr,hg⟩ hb=>⟨g,h,by rw[hb.block g (Array.getElem?_eq_some_iff.1 hr).1];exact hr,hg⟩
theorem Zjo {w:World} {B C g:Nat} {e t:TypeId} {v:Value} {ls:List (Array Value)} {c:Array Value} (ho:OwnR w B e C v ls) (hg:w.heap[g]?=some (.cells c t (0,0))) (hne:e≠t):v.ownBlock≠some g:=by
 rcases ho.own.2 with ⟨rfl,_⟩ | ⟨g0,cap,cur,rfl,_,hx,_⟩
 ·simp[Value.ownBlock]
 ·intro h
  simp only[Value.ownBlock,Option.some.injEq] at h
  subst h
  rw[hx] at hg
  cases hg
  exact hne rfl
open Go.ChangeShapes Go.WideShapes Go.ChangeAt Go.RowKit Go.Sh Go.Cm Go.Hd
theorem Zm5 {α:Type} {f:α→Array Value} {Q:α→Prop}:∀{ls:List (Array Value)},(∀ c∈ls,∃ x,c=f x∧Q x)→∃ L:List α,ls=L.map f∧∀ x∈L,Q x
 | [],_=>⟨[],rfl,fun x hx=>by simp at hx⟩
 | c::ls,h=>by
  obtain⟨x,rfl,hq⟩:=h c (by simp)
  obtain⟨L,rfl,hL⟩:=Zm5 (ls:=ls) fun d hd=>h d (by simp[hd])
  refine⟨x::L,rfl,fun y hy=>?_⟩
  rcases List.mem_cons.1 hy with rfl | hy
  ·exact hq
  ·exact hL y hy
theorem ZlI {H:Type} {enc:TypeId×Value→H} {w:World} {r:Reach} {b0 base:Nat} {spare:Nat→Bool} {held:Bool} {v:Value} {d:DataW H} {p:List MemPlace} {t e:TypeId} {C:Nat} {Q:Array Value→Prop}
  (ht:Tryz.prog.underlying t=some (.slice e)) (hce:Tryz.prog.cellsOf e=C) (hC:0<C)
  (hof:∀(fuel:Nat) (cs:List Value) (x:DataW H×List MemPlace),DataW.trod enc Tryz.prog w base spare held fuel e cs=some x→∃ c:Array Value,cs=c.toList∧Q c∧c.size=C∧∃ k z,c[0]?=some (.int k z))
  (hv:Value.okWide Tryz.prog w r b0 t v) (h:DataW.Trod enc Tryz.prog w base spare held t v d p) :
  ∃ (pt:Option Addr) (ls:List (Array Value)) (cap:Nat),v=.slice pt ls.length cap∧RowsAt C w pt ls∧∀ c∈ls,Q c:=by
 obtain⟨a,len,cap,rfl⟩:=okWide_slice ht hv
 obtain⟨fuel,hf⟩:=h
 rcases DataW.trod_slice ht hf with ⟨h0,_⟩ | ⟨a',len',cap',elems,rest,n,_,hcs,_,_,_,_,hlen,hel,_⟩
 ·have h1:Value.slice a len cap=.slice none 0 0:=by simpa [Value.cells] using h0
  cases h1
  exact⟨none,[],0,rfl,fun i x hx=>by simp at hx,fun c hc=>by simp at hc⟩
 ·have h1:Value.slice a len cap=.slice (some a') len' cap':=by simpa [Value.cells] using hcs
  cases h1
  have each:∀i,i<len→∃ x:Array Value,Q x∧x.size=C∧(∃ k z,x[0]?=some (.int k z))∧∀ j,j<C→w.cell? ((a'.add (i*C)).add j)=x[j]?:=fun i hi=>by
   have h2:=hel i hi
   rw[List.getElem?_eq_getElem (show i<elems.length by omega),hce,Option.bind_eq_some_iff] at h2
   obtain⟨cs,h3,h4⟩:=h2
   obtain⟨x,rfl,hq,hs,hz⟩:=hof _ _ _ h4
   refine⟨x,hq,hs,hz,fun j hj=>?_⟩
   rw[(World.cells?_some h3).2.2 j hj,Array.getElem?_toList]
  have hch:∃f:Nat→Array Value,∀ i,i<len→Q (f i)∧(f i).size=C∧(∃ k z,(f i)[0]?=some (.int k z))∧∀ j,j<C→w.cell? ((a'.add (i*C)).add j)=(f i)[j]? :=
   ⟨fun i=>if h:i<len then Classical.choose (each i h) else #[],fun i hi=>by simp only[hi,dif_pos];exact Classical.choose_spec (each i hi)⟩
  obtain⟨f,hf'⟩:=hch
  have hat:∀{i:Nat} {x:Array Value},((List.range len).map f)[i]?=some x→i<len∧f i=x:=fun {i x} hx=>by
   have hi:i<len:=by
    have:=(List.getElem?_eq_some_iff.1 hx).1
    simpa using this
   have:((List.range len).map f)[i]?=some (f i):=by simp[hi]
   rw[hx] at this
   exact⟨hi,(Option.some.inj this).symm⟩
  refine⟨some a',(List.range len).map f,cap,by simp,fun i x hx=>?_,fun c hc=>?_⟩
  ·obtain⟨hi,rfl⟩:=hat hx
   obtain⟨k0,z0,hz0⟩:=(hf' 0 (by omega)).2.2.1
   have h00:w.cell? a'=some (.int k0 z0):=by
    have:=(hf' 0 (by omega)).2.2.2 0 hC
    rw[hz0] at this
    simpa [Addr.add] using this
   obtain⟨g,o,sp⟩:=a'
   have hsp:sp=none:=by
    cases sp with
    | none=>rfl
    | some k =>
     exfalso
     unfold World.cell? at h00
     split at h00
     ·simp at h00
     ·cases h00
   subst hsp
   refine⟨g,o,rfl,World.block_lt_of_cell? w _ h00,fun j v hv=>?_⟩
   have hj:j<C:=by
    have:=(List.getElem?_eq_some_iff.1 hv).1
    simpa [(hf' i hi).2.1] using this
   have h5:=(hf' i hi).2.2.2 j hj
   rw[Addr.add_mid,Addr.add_mid] at h5
   rw[h5]
   simpa using hv
  ·obtain⟨i,hi,rfl⟩:=List.mem_map.1 hc
   exact(hf' i (List.mem_range.1 hi)).1
theorem Zli {l:List Nat} (h:0<l.length):∃k z,(bysA l)[0]?=some (.int k z):=by
 cases l with
 | nil=>simp at h
 | cons a l=>exact⟨.u8,(a:Int),rfl⟩
theorem Zjq {H:Type} {enc:TypeId×Value→H} {w:World} {base:Nat} {spare:Nat→Bool} {held:Bool} {fuel:Nat} {cs:List Value} {x:DataW H×List MemPlace}
  (hf:DataW.trod enc Tryz.prog w base spare held fuel 84 cs=some x):∃h:Hop,cs=(hopA h.k h.c).toList∧HopOk h:=by
 have hc0:Tryz.prog.cellsOf 23=32:=by kernel_rfl
 have hc1:Tryz.prog.cellsOf 57=11:=by kernel_rfl
 have hca:Tryz.prog.cellsOf 84=43:=by kernel_rfl
 obtain⟨xs,n,_,_,hl,hxl,hx⟩:=DataW.trod_struct Tryz.underlying84 hf
 rw[hca] at hl
 have hxl2:xs.length=2:=by rw[hxl];rfl
 have h0:DataW.trod enc Tryz.prog w base spare held n 23 ((cs.drop 0).take (Tryz.prog.cellsOf 23))=xs[0]?:=hx 0 _ rfl
 have h1:DataW.trod enc Tryz.prog w base spare held n 57 ((cs.drop 32).take (Tryz.prog.cellsOf 57))=xs[1]?:=hx 1 _ rfl
 rw[hc0] at h0
 rw[hc1] at h1
 rw[List.getElem?_eq_getElem (by omega)] at h0 h1
 obtain⟨a,e0,ha,hab⟩:=Zfo Tryz.underlying23 hc0 h0
 obtain⟨c,e1,hc,hcb⟩:=Zi8 h1
 refine⟨⟨a,c⟩,?_,ha,hab,hc,hcb⟩
 show cs=(bysA a++cmdA c).toList
 rw[Array.toList_append,←e1,List.take_of_length_le (l:=cs.drop 32) (by rw[List.length_drop,hl];decide)]
 show cs=bys a++cs.drop 32
 rw[←e0,List.drop_zero,List.take_append_drop]
theorem Zlj {h:Hop} (ho:HopOk h):∃k z,(hopA h.k h.c)[0]?=some (.int k z):=by
 obtain⟨k,z,e⟩:=Zli (l:=h.k) (by rw[ho.k];decide)
 refine⟨k,z,?_⟩
 unfold hopA
 rw[Array.getElem?_append_left (by rw[Zaj,ho.k];decide)]
 exact e
theorem ZmG {H:Type} {enc:TypeId×Value→H} {w:World} {r:Reach} {b0 base:Nat} {spare:Nat→Bool} {held:Bool} {v:Value} {d:DataW H} {p:List MemPlace}
  (hv:Value.okWide Tryz.prog w r b0 24 v) (h:DataW.Trod enc Tryz.prog w base spare held 24 v d p) :
  ∃ (pt:Option Addr) (L:List Hop) (cap:Nat),v=.slice pt L.length cap∧RowsAt 43 w pt (hopR L)∧∀ h∈L,HopOk h:=by
 obtain⟨pt,ls,cap,rfl,hR,hQ⟩:=ZlI (Q:=fun c=>∃ h:Hop,c=hopA h.k h.c∧HopOk h) Tryz.underlying24 (by kernel_rfl) (by decide:0<43)
  (fun fuel cs x hx=>by
   obtain⟨h,rfl,ho⟩:=Zjq hx
   exact⟨_,rfl,⟨h,rfl,ho⟩,Za0 ho.k ho.i,Zlj ho⟩) hv h
 obtain⟨L,rfl,hL⟩:=Zm5 hQ
 exact⟨pt,L,cap,by rw[List.length_map],hR,hL⟩
open Go.RowKit Go.Hold Go.Sh Go.Ch Go.Cm Go.Hd
def rhW (a b g:List Nat):Value→World→Prop:=fun v w=>IsRH w v a b g
theorem Ziv (a b g:List Nat):Zf8 (rhW a b g):=fun _ _ _ h hb=>IsRH.grow h hb
theorem Zd9:(zs 208).take 32=zs 32∧((zs 208).drop 32).take 160=zs 160∧(zs 208).drop 192=zs 16:=⟨rfl,rfl,rfl⟩
theorem ZvC (x:List Nat) (L:List Hop):(∀ s∈hbK x L,s.length=32)∧(hbK x L).length≤5:=by
 unfold hbK
 split
 case isTrue hr =>
  unfold hbS
  cases hs:secF [x] (puB x) L with
  | none=>exact⟨fun s h=>(by cases h),by decide⟩
  | some ss=>exact⟨(Ze0 hs).1,by show ss.length≤5;rw[Zb5 hs];exact(Zec hr).2⟩
 case isFalse=>exact⟨fun s h=>(by cases h),by decide⟩
theorem Zll (x:List Nat) (L:List Hop) (hok:∀h∈L,HopOk h):(hbH x L).length=208:=by
 unfold hbH
 split
 case isTrue hr =>
  unfold hbS
  cases hs:secF [x] (puB x) L with
  | none=>exact Zah 208
  | some ss =>
   show (puB x++Zbq ss L++prf (ss.headD []) (Zbq ss L)).length=208
   rw[List.length_append,List.length_append,ZaX,(Zhp hr hok (Zb5 hs)).1,ZaS]
 case isFalse=>exact Zah 208
theorem ZwJ {W0:World} {h:Array Value} {H:List Nat} (I:IsRB W0 h H) (hH:H.length=208) (W:World) (hb:Below W0.heap.size W0 W) :
  Calls Tryz.prog 16 #[.agg h] W fun e w'=>∃ v,e=.returned v∧IsRH w' v (H.take 32) ((H.drop 32).take 160) (H.drop 192)∧Below W.heap.size W w':=by
 have hbl:((H.drop 32).take 160).length=160:=by simp[hH]
 rcases I.2.2 with ⟨e1,e2⟩ | ⟨q,c,e2,hB,hq⟩
 ·rw[e1,e2,Zd9.1,Zd9.2.1,Zd9.2.2]
  exact Zk0 (zs 32) (zs 16) (Zah 32) (Zah 16) W
 ·cases e2
  rw[hbl]
  exact ZjR (H.take 32) ((H.drop 32).take 160) (H.drop 192) q 160 c (by simp[hH]) (by simp[hH]) hbl.symm (by decide) hq W (hB.grow hb)
theorem Zk1 (x:List Nat) (L:List Hop) (p:Option Addr) (n cap:Nat) (hx:x.length=32) (hxb:∀i,x.getD i 0<256) (hok:∀h∈L,HopOk h) (hn:n=L.length) (h20:n≤20) (w:World) (hT:Tabs w) (hR:RowsAt 43 w p (hopR L)) :
  Calls Tryz.prog 3 #[.agg (bysA x),.slice p n cap] w fun e w'=>e=.returned (.bool true)∧Below w.heap.size w w':=by
 have HT:=Zq hT
 have HR:=Zq (fun (W:World) (hb:Below w.heap.size w W)=>hR.grow hb)
 have HlR:(hopR L).length=L.length:=by unfold hopR;rw[List.length_map]
 have KH:=Zq (fun (W:World) (h:RowsAt 43 W p (hopR L))=>Zt5 L p n cap hok hn h20 W h)
 have KB:=Zq (fun (W:World) (h:Tabs W) (q:Option Addr) (c:Nat) (hq:RowsAt 43 W q (hopR L))=>Zm3 x L q (hopR L).length c hx hxb hok HlR W h hq)
 have KRB:=Zq (fun (W:World) (hb:Below w.heap.size w W)=>Zoj x L p n cap hx hxb hok hn h20 W (hR.grow hb))
 have i20:¬(20:Int)<(n:Int):=by omega
 have hxs:=Zae hx
 have hz208:=Zae (Zah 208)
 have hrz:=Zcc
 have hHl:=Zll x L hok
 have hKo:=ZvC x L
 obtain⟨H,eH⟩:∃z,z=hbH x L:=⟨_,rfl⟩
 obtain⟨Kq,eK⟩:∃z,z=hbK x L:=⟨_,rfl⟩
 obtain⟨E,eE⟩:∃z,z=hbE x L:=⟨_,rfl⟩
 rw[←eH,←eK,←eE] at KB KRB
 rw[←eH] at hHl
 rw[←eK] at hKo
 have hHs:=Zae hHl
 have KO:=Zq (fun (W:World)=>ZpI H hHl W)
 have KS:=Zq (fun (W:World) (p1 p2:Option Addr) (c1 c2:Nat) (h1:Bs0 W p1 ((H.drop 32).take 160)) (h2:Bs0 W p2 ((H.drop 32).take 160))=>Zoq (H.take 32) ((H.drop 32).take 160) (H.drop 192) p1 p2 ((H.drop 32).take 160).length c1 c2 (by simp[hHl]) (by simp[hHl]) rfl W h1 h2)
 have KSm:=Zq (fun (W:World) (p1 p2:Option Addr) (c1 c2:Nat) (h1:RowsAt 32 W p1 (Kq.map bysA)) (h2:RowsAt 32 W p2 (Kq.map bysA))=>Zr7 Kq p1 p2 Kq.length c1 c2 hKo.1 rfl hKo.2 W h1 h2)
 clear eH eK eE hT hR hx hxb hok hn h20 HlR hKo
 go_enter Tryz.func3,Tryz.ntmps3
 go_wp2_with fail
 generalize hW:World.alloc _ _=W0
 have R0x0:=Zq (show RowAt W0 (w.heap.size) (bysA x) by rw[←hW];clear hW;exact⟨by go_simp,by first | (go_simp;done) | (go_simp;rfl),by go_simp⟩)
 have B0:=Zq (show Below w.heap.size w W0 by rw[←hW];repeat (first | apply Zab | exact Below.refl _ _))
 clear hW
 have l_xb:w.heap.size≤w.heap.size:=by omega
 obtain⟨xb,exb⟩:∃z,z=w.heap.size:=⟨_,rfl⟩
 rw[←exb] at R0x0  ⊢
 have l_xb:w.heap.size≤xb:=by rw[exb];exact Nat.le_refl _
 clear exb
 refine(ZiK W0 (HT.out.grow B0.out)).mono ?_
 rintro e W1 ⟨rfl,hb1⟩
 have R1x0:=Zq (R0x0.out.grow hb1)
 have B1:=Zq (B0.out.trans (hb1.mono B0.out.size))
 clear hb1 B0 R0x0
 obtain⟨R1x0a,R1x0b,R1x0c⟩:=R1x0.out
 go_wp2_with fail
 refine Zci W1 9 (fun w w'=>Below w.heap.size w w') (Zhk [fixV (.agg (bysA x)),fixV (.slice p n cap),ZrV W1.heap.size 77 43 (hopR L),Zsp W1.heap.size 23 32 (.agg (bysA H)) (.int .i64 E) (Kq.map bysA),Zsp W1.heap.size 23 32 (.agg (bysA H)) (.int .i64 E) (Kq.map bysA),fixV (.agg (bysA H)),ZrV W1.heap.size 23 32 (Kq.map bysA),fixV (.int .i64 E),ZqP W1.heap.size (fun g=>.pointer (some ⟨g,0,none⟩)) (bysA (zs 208)) 31]) [6,7] [9,10,11] [0,1,2,3,4,5,6,7,8] [some 17,some 18,some 19,some 20,some 16,some 21,some 22,some 23,some 5] (by kernel_rfl) (by kernel_rfl) (by kernel_rfl) (by kernel_rfl) (by intro c a d v w h;cases d<;>exact h) (fun _=>Below.refl _ _) (by first | exact(Below.refl _ _).drew | exact Below.refl _ _) (fun w w' h h'=>h.trans (h'.mono h.size)) (Zcw ⟨Zak _,Zak _,ZgS _ _ _ _,ZgA _ _ _ _ _ _,ZgA _ _ _ _ _ _,Zak _,ZgS _ _ _ _,Zak _,ZjD _ _ _ _,trivial⟩) ?_
 intro vals
 simp only[List.take_succ_cons,List.take_zero]
 refine⟨Zb8 rfl (Zao [] [] (by kernel_rfl) rfl (fun K w hb hdq hK=>?_)),?_⟩
 ·obtain⟨x1,x2,x3⟩:=R1x0.out.grow hb
  simp only[putZ]
  refine⟨Zaa rfl,?_⟩
  go_simp
  exact hK _ _ _ (Below.refl _ _) rfl
 refine⟨Zb8 rfl (Zao [] [] (by kernel_rfl) rfl (fun K w hb hdq hK=>?_)),?_⟩
 ·simp only[putZ]
  refine⟨Zaa rfl,?_⟩
  go_simp
  exact hK _ _ _ (Below.refl _ _) rfl
 refine⟨Zb8 rfl (Za7 [1] [some 18] (by kernel_rfl) (by kernel_rfl) (fun K w hb hdq hK=>?_)),?_⟩
 ·have d1:vals 1=.slice p n cap:=hdq 1 (by simp)
  simp only[List.map_cons,List.map_nil,putZ,d1]
  refine⟨Zaa rfl,?_⟩
  go_simp
  refine(KH.out w (HR.out w (B1.out.trans (hb.mono B1.out.size)))).mono ?_
  rintro e w' ⟨v,rfl,ho,hb'⟩
  exact⟨_,rfl,hK _ _ hb' (ho.base hb.size)⟩
 refine⟨Zb8 rfl (Za7 [0,2] [some 17,some 19] (by kernel_rfl) (by kernel_rfl) (fun K w hb hdq hK=>?_)),?_⟩
 ·have d0:vals 0=.agg (bysA x):=hdq 0 (by simp)
  obtain⟨p2,c2,d2,y2,q2,z2,u2⟩:=OwnR.form (show OwnR w W1.heap.size 77 43 (vals 2) (hopR L) from hdq 2 (by simp))
  simp only[List.map_cons,List.map_nil,putZ,d0,d2]
  refine⟨Zaa rfl,?_⟩
  go_simp
  refine(KB.out w (HT.out.grow (B1.out.trans (hb.mono B1.out.size))) p2 c2 y2).mono ?_
  rintro e w' ⟨v,rfl,ho,hb'⟩
  exact⟨_,rfl,hK _ _ hb' ⟨v,rfl,ho.base hb.size⟩⟩
 refine⟨Zb8 rfl (Zao [3] [some 20] (by kernel_rfl) (by kernel_rfl) (fun K w hb hdq hK=>?_)),?_⟩
 ·obtain⟨v3,d3,o3⟩:∃u,vals 3=.tuple #[.agg (bysA H),u,.int .i64 E]∧OwnR w W1.heap.size 23 32 u (Kq.map bysA):=hdq 3 (by simp)
  simp only[List.map_cons,List.map_nil,putZ,d3]
  refine⟨Zaa rfl,?_⟩
  go_simp
  exact hK _ _ _ (Below.refl _ _) ⟨v3,rfl,o3⟩
 refine⟨Zb8 rfl (Zao [4] [some 16] (by kernel_rfl) (by kernel_rfl) (fun K w hb hdq hK=>?_)),?_⟩
 ·obtain⟨v4,d4,o4⟩:∃u,vals 4=.tuple #[.agg (bysA H),u,.int .i64 E]∧OwnR w W1.heap.size 23 32 u (Kq.map bysA):=hdq 4 (by simp)
  simp only[List.map_cons,List.map_nil,putZ,d4]
  refine⟨Zaa rfl,?_⟩
  go_simp
  exact hK _ _ _ (Below.refl _ _) rfl
 refine⟨Zsm rfl (ZfV [4] [some 16] (by kernel_rfl) (by kernel_rfl) (fun w hb hdq=>?_)),?_⟩
 ·obtain⟨v4,d4,o4⟩:∃u,vals 4=.tuple #[.agg (bysA H),u,.int .i64 E]∧OwnR w W1.heap.size 23 32 u (Kq.map bysA):=hdq 4 (by simp)
  simp only[List.map_cons,List.map_nil,putZ,d4]
  refine⟨v4,o4,Zaa rfl,fun w'=>?_⟩
  go_simp
 refine⟨Zsm rfl (ZfV [4] [some 16] (by kernel_rfl) (by kernel_rfl) (fun w hb hdq=>?_)),?_⟩
 ·obtain⟨v4,d4,o4⟩:∃u,vals 4=.tuple #[.agg (bysA H),u,.int .i64 E]∧OwnR w W1.heap.size 23 32 u (Kq.map bysA):=hdq 4 (by simp)
  simp only[List.map_cons,List.map_nil,putZ,d4]
  refine⟨.int .i64 E,rfl,Zaa rfl,fun w'=>?_⟩
  go_simp
 refine⟨Zb8 rfl (Zao [] [] (by kernel_rfl) rfl (fun K w hb hdq hK=>?_)),?_⟩
 ·simp only[putZ]
  refine⟨Zaa rfl,?_⟩
  go_simp
  exact hK _ _ _ (Zab (Below.refl _ _) _) ⟨w.heap.size,rfl,Zaq w _,hb.size⟩
 intro W2 hb2 hR5
 obtain d5:vals 5=.agg (bysA H):=hR5 5 (by simp)
 have ho6:OwnR W2 W1.heap.size 23 32 (vals 6) (Kq.map bysA):=hR5 6 (by simp)
 obtain d7:vals 7=.int .i64 E:=hR5 7 (by simp)
 obtain⟨hd,d8,ht8,hg8⟩:∃g,vals 8=.pointer (some ⟨g,0,none⟩)∧W2.heap[g]?=some (.cells (bysA (zs 208)) 31 (0,0))∧W1.heap.size≤g:=hR5 8 (by simp)
 have hr8:=RowAt.of ht8
 have m_hd:=Zjo ho6 ht8 (by decide)
 clear ht8
 clear hR5
 simp only[List.map_cons,List.map_nil,putZ,d5,d7,d8,pick,List.getElem?_cons_succ,List.getElem?_cons_zero]
 generalize vals 0=q0
 generalize vals 1=q1
 generalize vals 2=q2
 generalize vals 3=q3
 generalize vals 4=q4
 generalize vals 6=v6 at *
 clear d5 d7 d8
 clear vals
 have n_xb_hd:xb≠hd:=by have:=R1x0.out.2.2;omega
 have l_hd:w.heap.size≤hd:=Nat.le_trans B1.out.size hg8
 have V2x0:=Zq hr8
 have O2:=Zq ho6
 clear hr8 ho6 hg8
 clear R1x0a R1x0b R1x0c
 have R2x0:=Zq (R1x0.out.grow hb2)
 have B2:=Zq (B1.out.trans (hb2.mono B1.out.size))
 clear hb2 B1 R1x0
 obtain⟨R2x0a,R2x0b,R2x0c⟩:=R2x0.out
 obtain⟨V2x0a,V2x0b,V2x0c⟩:=V2x0.out
 go_step
 go_simp
 go_wp2_with fail
 have O3x0:=Zq (O2.out.setRow m_hd (bysA H))
 clear O2
 have R3x0:=Zq (R2x0.out.other n_xb_hd (bysA H))
 have R3x1:=Zq (V2x0.out.set (bysA H))
 have B3:=Zq (Zad B2.out l_hd (bysA H))
 clear B2 R2x0 V2x0 R2x0a R2x0b R2x0c V2x0a V2x0b V2x0c
 generalize W2.setRow hd (bysA H)=W3 at *
 obtain⟨R3x0a,R3x0b,R3x0c⟩:=R3x0.out
 obtain⟨R3x1a,R3x1b,R3x1c⟩:=R3x1.out
 go_wp2_with fail
 refine(KRB.out _ B3.out).mono ?_
 rintro e W4 ⟨h,v9,rfl,hh,ho9,hb4⟩
 clear R3x0a R3x0b R3x0c R3x1a R3x1b R3x1c
 have O4x0:=Zq (O3x0.out.grow hb4)
 clear O3x0
 have R4x0:=Zq (R3x0.out.grow hb4)
 have R4x1:=Zq (R3x1.out.grow hb4)
 have B4:=Zq (B3.out.trans (hb4.mono B3.out.size))
 clear hb4 B3 R3x0 R3x1
 have IB:=Zq hh
 have Ho9:=Zq ho9
 have hh49:=hh.1
 have hh1:=hh.2.1
 clear hh ho9
 have KN:=Zq (fun (W:World) (hb:Below W4.heap.size W4 W)=>show Calls Tryz.prog 16 #[.agg h] W fun e w'=>∃ v,e=.returned v∧IsRH w' v (H.take 32) ((H.drop 32).take 160) (H.drop 192)∧Below W.heap.size W w' from ZwJ IB.out hHl W hb)
 clear IB
 obtain⟨R4x0a,R4x0b,R4x0c⟩:=R4x0.out
 obtain⟨R4x1a,R4x1b,R4x1c⟩:=R4x1.out
 go_wp2_with fail
 have m0_ih:v6.ownBlock≠some W4.heap.size:=fun e=>by have:=(O4x0.out.ltb _ e).2;omega
 have m1_ih:v9.ownBlock≠some W4.heap.size:=fun e=>by have:=(Ho9.out.ltb _ e).2;omega
 have n_xb_ih:xb≠W4.heap.size:=Nat.ne_of_lt R4x0.out.2.2
 have n_hd_ih:hd≠W4.heap.size:=Nat.ne_of_lt R4x1.out.2.2
 have l_ih:w.heap.size≤W4.heap.size:=B4.out.size
 have HbN:=Zq (Zab (Below.refl W4.heap.size W4) (.cells (h) 40))
 have hb5:=Zab (Below.refl W4.heap.size W4) (.cells (h) 40)
 have N5:=Zq (RowAt.of (Zaq W4 (.cells (h) 40)))
 have O5x0:=Zq (O4x0.out.grow hb5)
 clear O4x0
 have O5x1:=Zq (Ho9.out.grow hb5)
 clear Ho9
 have R5x0:=Zq (R4x0.out.grow hb5)
 have R5x1:=Zq (R4x1.out.grow hb5)
 have B5:=Zq (B4.out.trans (hb5.mono B4.out.size))
 clear hb5 B4 R4x0 R4x1 R4x0a R4x0b R4x0c R4x1a R4x1b R4x1c
 generalize W4.heap.size=ih at *
 generalize W4.alloc (.cells (h) 40)=W5 at *
 have hbe:=HbN.out
 obtain⟨p6,c6,rfl,hr6,_,_,_⟩:=OwnR.form O5x0.out
 obtain⟨p9,c9,rfl,hr9,_,_,_⟩:=OwnR.form O5x1.out
 rw[List.length_map] at *
 have R6:=Zq hr6
 have R9:=Zq hr9
 clear hr6 hr9
 generalize H.take 32=a1 at *
 generalize (H.drop 32).take 160=b1 at *
 generalize H.drop 192=g1 at *
 refine Zbv W5 15 (fun w w'=>Below w.heap.size w w') (Zhk [fixV (.agg (bysA H)),rhW a1 b1 g1,fixV (.agg h),rhW a1 b1 g1,fixV (.bool true),fixV (.bool true),fixV (.slice p6 Kq.length c6),fixV (.slice p9 Kq.length c9),fixV (.bool true),fixV (.bool true),fixV (.bool true),fixV (.int .i64 E),fixV (.int .i64 E),fixV (.bool true),fixV (.bool true)]) [15] [0,1,2,3,4,5,6,7,8,9,10,11,12,13,14] [some 31,some 32,some 33,some 34,some 35,some 36,some 37,some 38,some 39,some 40,some 41,some 42,some 43,some 44,some 45] (by kernel_rfl) (by kernel_rfl) (by kernel_rfl) (by kernel_rfl) (by first | exact(Below.refl _ _).drew | exact Below.refl _ _) (fun w w' h h'=>h.trans (h'.mono h.size)) (Zcw ⟨Zak _,Ziv _ _ _,Zak _,Ziv _ _ _,Zak _,Zak _,Zak _,Zak _,Zak _,Zak _,Zak _,Zak _,Zak _,Zak _,Zak _,trivial⟩) ?_
 intro vals
 simp only[List.take_succ_cons,List.take_zero]
 refine⟨(Zao [] [] (by kernel_rfl) rfl (fun K w hb hdq hK=>?_)),?_⟩
 ·obtain⟨x1,x2,x3⟩:=R5x1.out.grow hb
  simp only[putZ]
  refine⟨Zaa rfl,?_⟩
  go_simp
  exact hK _ _ _ (Below.refl _ _) rfl
 refine⟨(Za7 [0] [some 31] (by kernel_rfl) (by kernel_rfl) (fun K w hb hdq hK=>?_)),?_⟩
 ·have d0:vals 0=.agg (bysA H):=hdq 0 (by simp)
  simp only[List.map_cons,List.map_nil,putZ,d0]
  refine⟨Zaa rfl,?_⟩
  go_simp
  refine(KO.out w).mono ?_
  rintro e w' ⟨v,rfl,ho,hb'⟩
  exact⟨_,rfl,hK _ _ hb' ho⟩
 refine⟨(Zao [] [] (by kernel_rfl) rfl (fun K w hb hdq hK=>?_)),?_⟩
 ·obtain⟨x1,x2,x3⟩:=N5.out.grow hb
  simp only[putZ]
  refine⟨Zaa rfl,?_⟩
  go_simp
  exact hK _ _ _ (Below.refl _ _) rfl
 refine⟨(Za7 [2] [some 33] (by kernel_rfl) (by kernel_rfl) (fun K w hb hdq hK=>?_)),?_⟩
 ·have d2:vals 2=.agg h:=hdq 2 (by simp)
  simp only[List.map_cons,List.map_nil,putZ,d2]
  refine⟨Zaa rfl,?_⟩
  go_simp
  refine(KN.out w (hbe.trans (hb.mono (Nat.le_of_lt N5.out.2.2)))).mono ?_
  rintro e w' ⟨v,rfl,ho,hb'⟩
  exact⟨_,rfl,hK _ _ hb' ho⟩
 refine⟨(Za7 [1,3] [some 32,some 34] (by kernel_rfl) (by kernel_rfl) (fun K w hb hdq hK=>?_)),?_⟩
 ·obtain⟨p1,c1,d1,y1,z1⟩:IsRH w (vals 1) a1 b1 g1:=hdq 1 (by simp)
  obtain⟨p3,c3,d3,y3,z3⟩:IsRH w (vals 3) a1 b1 g1:=hdq 3 (by simp)
  simp only[List.map_cons,List.map_nil,putZ,d1,d3]
  refine⟨Zaa rfl,?_⟩
  go_simp
  refine(KS.out w _ _ _ _ y1 y3).mono ?_
  rintro e w' ⟨rfl,hb'⟩
  exact⟨_,rfl,hK _ _ hb' rfl⟩
 refine⟨(Zao [4] [some 35] (by kernel_rfl) (by kernel_rfl) (fun K w hb hdq hK=>?_)),?_⟩
 ·have d4:vals 4=.bool true:=hdq 4 (by simp)
  simp only[List.map_cons,List.map_nil,putZ,d4]
  refine⟨Zaa rfl,?_⟩
  go_simp
  exact hK _ _ _ (Below.refl _ _) rfl
 refine⟨(Zao [5] [some 36] (by kernel_rfl) (by kernel_rfl) (fun K w hb hdq hK=>?_)),?_⟩
 ·have d5:vals 5=.bool true:=hdq 5 (by simp)
  simp only[List.map_cons,List.map_nil,putZ,d5]
  refine⟨Zau rfl rfl rfl,?_⟩
  go_simp
  exact hK _ _ _ (Below.refl _ _) rfl
 refine⟨(Zao [5] [some 36] (by kernel_rfl) (by kernel_rfl) (fun K w hb hdq hK=>?_)),?_⟩
 ·have d5:vals 5=.bool true:=hdq 5 (by simp)
  simp only[List.map_cons,List.map_nil,putZ,d5]
  refine⟨Zau rfl rfl rfl,?_⟩
  go_simp
  exact hK _ _ _ (Below.refl _ _) rfl
 refine⟨(Za7 [5,6,7] [some 36,some 37,some 38] (by kernel_rfl) (by kernel_rfl) (fun K w hb hdq hK=>?_)),?_⟩
 ·have d5:vals 5=.bool true:=hdq 5 (by simp)
  have d6:vals 6=.slice p6 Kq.length c6:=hdq 6 (by simp)
  have d7:vals 7=.slice p9 Kq.length c9:=hdq 7 (by simp)
  simp only[List.map_cons,List.map_nil,putZ,d5,d6,d7]
  refine⟨Zau rfl rfl rfl,?_⟩
  go_simp
  refine(KSm.out w _ _ _ _ (R6.out.grow hb) (R9.out.grow hb)).mono ?_
  rintro e w' ⟨rfl,hb'⟩
  exact⟨_,rfl,hK _ _ hb' rfl⟩
 refine⟨(Zao [5,8] [some 36,some 39] (by kernel_rfl) (by kernel_rfl) (fun K w hb hdq hK=>?_)),?_⟩
 ·have d5:vals 5=.bool true:=hdq 5 (by simp)
  have d8:vals 8=.bool true:=hdq 8 (by simp)
  simp only[List.map_cons,List.map_nil,putZ,d5,d8]
  refine⟨Zaa rfl,?_⟩
  go_simp
  exact hK _ _ _ (Below.refl _ _) rfl
 refine⟨(Zao [9] [some 40] (by kernel_rfl) (by kernel_rfl) (fun K w hb hdq hK=>?_)),?_⟩
 ·have d9:vals 9=.bool true:=hdq 9 (by simp)
  simp only[List.map_cons,List.map_nil,putZ,d9]
  refine⟨Zaa rfl,?_⟩
  go_simp
  exact hK _ _ _ (Below.refl _ _) rfl
 refine⟨(Zao [10] [some 41] (by kernel_rfl) (by kernel_rfl) (fun K w hb hdq hK=>?_)),?_⟩
 ·have d10:vals 10=.bool true:=hdq 10 (by simp)
  simp only[List.map_cons,List.map_nil,putZ,d10]
  refine⟨Zau rfl rfl rfl,?_⟩
  go_simp
  exact hK _ _ _ (Below.refl _ _) rfl
 refine⟨(Zao [10] [some 41] (by kernel_rfl) (by kernel_rfl) (fun K w hb hdq hK=>?_)),?_⟩
 ·have d10:vals 10=.bool true:=hdq 10 (by simp)
  simp only[List.map_cons,List.map_nil,putZ,d10]
  refine⟨Zau rfl rfl rfl,?_⟩
  go_simp
  exact hK _ _ _ (Below.refl _ _) rfl
 refine⟨(Zao [10,11,12] [some 41,some 42,some 43] (by kernel_rfl) (by kernel_rfl) (fun K w hb hdq hK=>?_)),?_⟩
 ·have d10:vals 10=.bool true:=hdq 10 (by simp)
  have d11:vals 11=.int .i64 E:=hdq 11 (by simp)
  have d12:vals 12=.int .i64 E:=hdq 12 (by simp)
  simp only[List.map_cons,List.map_nil,putZ,d10,d11,d12]
  refine⟨Zau rfl rfl rfl,?_⟩
  go_simp
  exact hK _ _ _ (Below.refl _ _) rfl
 refine⟨(Zao [10,13] [some 41,some 44] (by kernel_rfl) (by kernel_rfl) (fun K w hb hdq hK=>?_)),?_⟩
 ·have d10:vals 10=.bool true:=hdq 10 (by simp)
  have d13:vals 13=.bool true:=hdq 13 (by simp)
  simp only[List.map_cons,List.map_nil,putZ,d10,d13]
  refine⟨Zaa rfl,?_⟩
  go_simp
  exact hK _ _ _ (Below.refl _ _) rfl
 intro Wz hbz hR
 obtain d14:vals 14=.bool true:=hR 14 (by simp)
 clear hR
 simp only[List.map_cons,List.map_nil,putZ,d14,pick,List.getElem?_cons_succ,List.getElem?_cons_zero]
 generalize vals 0=q0
 generalize vals 1=q1
 generalize vals 2=q2
 generalize vals 3=q3
 generalize vals 4=q4
 generalize vals 5=q5
 generalize vals 6=q6
 generalize vals 7=q7
 generalize vals 8=q8
 generalize vals 9=q9
 generalize vals 10=q10
 generalize vals 11=q11
 generalize vals 12=q12
 generalize vals 13=q13
 have Bz:=Zq (B5.out.trans (hbz.mono B5.out.size))
 clear hbz d14
 clear vals
 go_step
 go_simp
 go_wp2_with fail
 go_ret
 exact⟨rfl,Bz.out⟩
theorem ZiT (x:List Nat) (p:Option Addr) (n cap:Nat) (hx:x.length=32) (h20:¬n≤20) (w:World) (hT:Tabs w) :
  Calls Tryz.prog 3 #[.agg (bysA x),.slice p n cap] w fun e w'=>e=.returned (.bool true)∧Below w.heap.size w w':=by
 have HT:=Zq hT
 have i20:(20:Int)<(n:Int):=by omega
 have hxs:=Zae hx
 clear hT h20 hx
 go_enter Tryz.func3,Tryz.ntmps3
 go_wp2_with fail
 generalize hW:World.alloc _ _=W0
 have R0x0:=Zq (show RowAt W0 (w.heap.size) (bysA x) by rw[←hW];clear hW;exact⟨by go_simp,by first | (go_simp;done) | (go_simp;rfl),by go_simp⟩)
 have B0:=Zq (show Below w.heap.size w W0 by rw[←hW];repeat (first | apply Zab | exact Below.refl _ _))
 clear hW
 have l_xb:w.heap.size≤w.heap.size:=by omega
 obtain⟨xb,exb⟩:∃z,z=w.heap.size:=⟨_,rfl⟩
 rw[←exb] at R0x0  ⊢
 have l_xb:w.heap.size≤xb:=by rw[exb];exact Nat.le_refl _
 clear exb
 refine(ZiK W0 (HT.out.grow B0.out)).mono ?_
 rintro e W1 ⟨rfl,hb1⟩
 have R1x0:=Zq (R0x0.out.grow hb1)
 have B1:=Zq (B0.out.trans (hb1.mono B0.out.size))
 clear hb1 B0 R0x0
 obtain⟨R1x0a,R1x0b,R1x0c⟩:=R1x0.out
 go_wp2_with fail
 go_ret
 exact⟨rfl,by first | exact Zab B1.out _ | exact B1.out⟩
theorem ZlL (x:List Nat) (L:List Hop) (p:Option Addr) (n cap:Nat) (hx:x.length=32) (hxb:∀i,x.getD i 0<256) (hok:∀h∈L,HopOk h) (hn:n=L.length) (w:World) (hT:Tabs w) (hR:RowsAt 43 w p (hopR L)) :
  Calls Tryz.prog 3 #[.agg (bysA x),.slice p n cap] w fun e w'=>e=.returned (.bool true)∧Below w.heap.size w w':=by
 by_cases h20:n≤20
 ·exact Zk1 x L p n cap hx hxb hok hn h20 w hT hR
 ·exact ZiT x p n cap hx h20 w hT
end Go.Proofs.YtddmjddlbhdcpaaGreatDoor
