/-
  Part 10 of the texts behind the theorem.
-/
import Derived.Test.YtddmjddlbhdcpaaGreatDoorPart9
import Derived.Test.YtddmjddlbhdcpaaGreatDoorPart1
import Derived.Test.YtddmjddlbhdcpaaGreatDoorPart6
import Derived.Great.BuildSlice
import Derived.Laws.Bits64b
namespace Go.Proofs.YtddmjddlbhdcpaaGreatDoor
open Go.RowKit Go.Hold Go.Sh Go.Ch Go.Cm Go.Hd
theorem lays_beta (o:Oper) (h:o.op=.alloc 27) (hg:o.guard=none):Lays Tryz.prog o 27 (bysA (zs 160)):=by
 refine⟨hg,fun a w=>?_⟩
 obtain⟨dst,op,ty,pos,after,guard⟩:=o
 simp only at h hg
 subst h;subst hg
 go_simp
theorem sl_keys (a:Option Addr) (len cap n:Nat) (h:n≤cap) (w:World):(Instr.sliceAt 32 (.slice a len cap) none (some (.int .i64 (n:Int))) none).run Tryz.prog w=.ok (.slice a n cap) w:=by
 have hu:Tryz.prog.underlying 32=some (.slice (Tryz.prog.elem 32)):=by kernel_rfl
 have hs:(sizeOf (Tryz.prog.elem 32)).run Tryz.prog w=.ok 32 w:=by kernel_rfl
 rw[run_sliceAt_slice _ _ _ _ _ _ hu,run_slice_h _ _ _ _ _ hu _ _ (by omega) (by omega),hs]
 cases a<;>simp[sliced,Result.andThen,Addr.add]
set_option maxHeartbeats 1000000 in
set_option maxRecDepth 100000 in
theorem lastBeta_c (done:List (List Nat)) (s:List Nat) (c:Cmd) (p:Option Addr) (n cap:Nat) (hs:∀ t∈done++[s],t.length=32) (hsb:∀ t∈done++[s],∀ i,t.getD i 0<256) (hid:c.id.length=8) (hidb:∀ i,c.id.getD i 0<256) (hn:n=done.length+1) (h5:n≤5) (hnc:n≤cap) (w:World) (hT:Tabs w) (hR:RowsAt 32 w p ((done++[s]).map bysA)) :
  Calls Tryz.prog 70 #[.slice p n cap,.agg (cmdA c)] w fun e w'=>e=.returned (.agg (bysA (betaL done s (encV c))))∧Below w.heap.size w w':=by
 obtain⟨d,ed⟩:∃ d,d=done.length:=⟨_,rfl⟩
 have hnd:(n:Int)-1=(d:Int):=by omega
 have hd5:¬(5:Int)<(n:Int):=by omega
 have hdn:(d:Int)<(n:Int):=by omega
 have hcs:=cmdA_size hid
 have hsm:=hs s (by simp)
 have hsbm:=hsb s (by simp)
 have hj:(done++[s])[d]?=some s:=by rw[ed];simp
 have HLd:=Lib.hid (fun (W:World) (hb:Below w.heap.size w W)=>loadKeyAt (hR.grow hb) hj hsm)
 obtain⟨g,o,ep,hx1,hx2⟩:=loadKeyAt hR hj hsm
 clear hx1 hx2
 subst ep
 have HLK:=Lib.hid (fun (W:World) (hb:Below w.heap.size w W)=>show (loadRow 23 (.pointer (some ⟨g,o+d*32,none⟩))).run Tryz.prog W=.ok (.agg (bysA s)) W by
  obtain⟨g',o',e,_,h⟩:=HLd.out W hb
  cases e;exact h)
 clear HLd
 have HRd:=Lib.hid (show RowsAt 32 w (some ⟨g,o,none⟩) (done.map bysA) by
  have:=hR.take d
  rwa [←List.map_take,ed,List.take_left] at this)
 have HF:=Lib.hid (fun (W:World) (h:Tabs W) (hb:Below w.heap.size w W)=>hfiller_c done (some ⟨g,o,none⟩) d cap (fun t ht=>hs t (by simp[ht])) (fun t ht=>hsb t (by simp[ht])) ed (by omega) W h (HRd.out.grow hb))
 have HLa:=Lib.hid (fun (W:World)=>laid_c c hid (zs 16) (zs 160) (zs_length 16) (zs_length 160) W)
 have hel:=encV_length hid
 have HTu:=Lib.hid (fun (W:World) (h:Tabs W)=>turned_c (encV c++zs 16++zs 160) s (by rw[List.length_append,List.length_append,hel,zs_length,zs_length]) (bts_app (bts_app (encV_bts hidb) (bts_zs _)) (bts_zs _)) hsm hsbm W h)
 have hwl:=wid_length (s:=s) hel (zs_length 16) (zs_length 160)
 have HWb:=Lib.hid (fun (W:World)=>wbeta_c (wid s (encV c) (zs 16) (zs 160)) hwl W)
 have HE:=Lib.hid (show betaL done s (encV c)=(wid s (encV c) (zs 16) (zs 160)).take (160-32*d)++fil done by rw[ed];rfl)
 have hb0:((wid s (encV c) (zs 16) (zs 160)).take 160).length=160:=by rw[List.length_take,hwl];rfl
 obtain⟨k,ek⟩:∃ k,k=32*d:=⟨_,rfl⟩
 have Hfl:=Lib.hid (show (fil done).length=k by rw[fil_length,←ed,ek])
 obtain⟨u,eu⟩:∃ u,u=160-k:=⟨_,rfl⟩
 have hu1:u≤160:=by omega
 have hu2:160-u=k:=by omega
 rw[←ek,←eu] at HE
 have hbl:(betaL done s (encV c)).length=160:=by rw[HE.out,List.length_append,List.length_take,hwl,Hfl.out];omega
 have hbs:=bysA_size' hbl
 change Hid (∀ (W:World),Tabs W→Calls Tryz.prog 46 #[.agg (bysA (encV c++zs 16++zs 160)),.agg (bysA s)] W fun e w'=>e=.returned (.agg (bysA (wid s (encV c) (zs 16) (zs 160))))∧Below W.heap.size W w') at HTu
 have hE2:=Lib.hid (show ((wid s (encV c) (zs 16) (zs 160)).take 160).take u=(wid s (encV c) (zs 16) (zs 160)).take u by rw[List.take_take,Nat.min_eq_left hu1])
 generalize betaL done s (encV c)=R at *
 generalize fil done=F at *
 generalize wid s (encV c) (zs 16) (zs 160)=V at *
 generalize encV c++zs 16++zs 160=Y at *
 have hb0s:=bysA_size' hb0
 obtain⟨Z,eZ⟩:∃ Z,Z=V.take 160:=⟨_,rfl⟩
 rw[←eZ] at hb0 hb0s HWb hE2
 have hsl:=fun (bb:Nat) (W:World)=>sl_beta bb u hu1 W
 have hslk:=fun (W:World)=>sl_keys (some ⟨g,o,none⟩) n cap d (by omega) W
 rw[hu2] at hsl
 have hw1:wrap64 (160-(k:Int))=(u:Int):=by rw[show (160:Int)-(k:Int)=(u:Int) by omega];exact IntWalk.wrap64_in _ (by omega)
 have HCp:=Lib.hid (fun (W:World) (gb cf:Nat) (pf:Option Addr) (hg:RowAt W gb (bysA Z)) (hB:Bs0 W pf F)=>show (Builtin.copy_ #[38,38] 3 #[.slice (some ⟨gb,if u=160 then 0 else u,none⟩) k k,.slice pf k cf]).run Tryz.prog W=.ok (.int .i64 (k:Int)) (W.setRow gb (bysA R)) by
  by_cases e:u=160
  ·have hd0:k=0:=by omega
   have hF0:F=[]:=List.eq_nil_of_length_eq_zero (by rw[Hfl.out,hd0])
   have hRZ:R=Z:=by rw[HE.out,hF0,List.append_nil,e,←eZ]
   rw[if_pos e,hd0,hRZ,setRow_self hg]
   exact copy_none W _ _ _ _ _
  ·rw[if_neg e]
   have:=copy_at (u:=u) (c2:=k) (cap:=cf) (d:=k) (s:=k) (k:=k) hg (by rw[hb0];exact hu1) (by rw[hb0,hu2]) Hfl.out.symm (by rw[hb0,Hfl.out];omega) hB
   rwa [hE2.out,List.take_of_length_le (l:=F) (by rw[Hfl.out];exact Nat.le_refl _),List.drop_of_length_le (l:=Z) (by rw[hb0];omega),List.append_nil,←HE.out] at this)
 generalize (if u=160 then 0 else u)=q at *
 have HT:=Lib.hid hT
 have hz160:=bysA_size' (zs_length 160)
 clear hT hR hs hsb hid hidb hn hnc hj hsm hsbm hel hwl hE2 eZ hb0 hu1 hu2 eu ek ed hbl h5
 go_enter Tryz.func70,Tryz.ntmps70
 go_wp2_with fail
 generalize hW:World.alloc _ _=W0
 have R0x0:=Lib.hid (show RowAt W0 (w.heap.size) (cmdA c) by rw[←hW];clear hW;exact⟨by go_simp,by first | (go_simp;done) | (go_simp;rfl),by go_simp⟩)
 have R0x1:=Lib.hid (show RowAt W0 (w.heap.size+1) (bysA (zs 160)) by rw[←hW];clear hW;exact⟨by go_simp,by first | (go_simp;done) | (go_simp;rfl),by go_simp⟩)
 have B0:=Lib.hid (show Below w.heap.size w W0 by rw[←hW];repeat (first | apply below_alloc | exact Below.refl _ _))
 clear hW
 have hzs160:=bysA_size' (zs_length 160)
 have l_x:w.heap.size≤w.heap.size:=by omega
 have l_r:w.heap.size≤w.heap.size+1:=by omega
 have n_x_r:w.heap.size≠w.heap.size+1:=by omega
 generalize w.heap.size+1=r at *
 obtain⟨x,ex⟩:∃ z,z=w.heap.size:=⟨_,rfl⟩
 rw[←ex] at R0x0 n_x_r ⊢
 have l_x:w.heap.size≤x:=by rw[ex];exact Nat.le_refl _
 clear ex
 obtain⟨R0x0a,R0x0b,R0x0c⟩:=R0x0.out
 obtain⟨R0x1a,R0x1b,R0x1c⟩:=R0x1.out
 have hlk:∀ (o':Array Obj) (d':Nat),(loadRow 23 (.pointer (some ⟨g,o+d*32,none⟩))).run Tryz.prog (W0.plus o' d')=.ok (.agg (bysA s)) (W0.plus o' d'):=fun o' d'=>HLK.out _ (below_plus_of _ _ _ B0.out B0.out.size)
 refine wp_region_pick W0 [0,1,2,3,4,5,6,7,8,9] [false,false,false,false,false,false,false,false,false,false] [10] [(27,bysA (zs 160))] 11 (by kernel_rfl) rfl (by kernel_rfl) (by intro c a d v w h;cases d<;>exact h) (by first | exact(Below.refl _ _).drew | exact Below.refl _ _) ?_
 simp only[pick,List.getElem?_cons_succ,List.getElem?_cons_zero,List.drop_succ_cons,List.drop_zero]
 refine wpHoldF_val (wanted_none rfl) (by intro K o d hK;go_simp;exact hK _ (Below.refl _ _)) ?_
 refine wpHoldF_val (wanted_none rfl) (by intro K o d hK;go_simp;exact hK _ (Below.refl _ _)) ?_
 refine wpHoldF_val (wanted_none rfl) (by intro K o d hK;go_simp;exact hK _ (Below.refl _ _)) ?_
 refine wpHoldF_call (v:=.agg (bysA Y)) (wanted_none rfl) (by intro K o d hK;go_simp;refine(HLa.out _).mono ?_;rintro e w' ⟨rfl,hbw⟩;exact⟨_,rfl,hK _ hbw⟩) ?_
 refine wpHoldF_val (wanted_none rfl) (by intro K o d hK;go_simp;exact hK _ (Below.refl _ _)) ?_
 refine wpHoldF_val (wanted_none rfl) (by intro K o d hK;go_simp;exact hK _ (Below.refl _ _)) ?_
 refine wpHoldF_val (wanted_none rfl) (by intro K o d hK;go_simp;exact hK _ (Below.refl _ _)) ?_
 refine wpHoldF_val (wanted_none rfl) (by intro K o d hK;go_simp;exact hK _ (Below.refl _ _)) ?_
 refine wpHoldF_call (v:=.agg (bysA V)) (wanted_none rfl) (by intro K o d hK;go_simp;refine(HTu.out _ (HT.out.grow (below_plus_of _ _ _ B0.out B0.out.size))).mono ?_;rintro e w' ⟨rfl,hbw⟩;exact⟨_,rfl,hK _ hbw⟩) ?_
 refine wpHoldF_call (v:=.agg (bysA Z)) (wanted_none rfl) (by intro K o d hK;go_simp;refine(HWb.out _).mono ?_;rintro e w' ⟨rfl,hbw⟩;exact⟨_,rfl,hK _ hbw⟩) ?_
 refine wpHoldF_nil ?_
 refine⟨lays_beta _ rfl rfl,fun b hg0 hn0=>?_⟩
 intro W1 hb1 hblk
 have n_x_b:x≠b:=by have:=R0x0.out.2.2;omega
 have n_r_b:r≠b:=by have:=R0x1.out.2.2;omega
 have l_b:w.heap.size≤b:=Nat.le_trans B0.out.size hg0
 have V1x0:=Lib.hid (RowAt.of (hblk 0 b _ _ rfl rfl))
 clear hblk
 clear R0x0a R0x0b R0x0c R0x1a R0x1b R0x1c
 have R1x0:=Lib.hid (R0x0.out.grow hb1)
 have R1x1:=Lib.hid (R0x1.out.grow hb1)
 have B1:=Lib.hid (B0.out.trans (hb1.mono B0.out.size))
 clear hb1 B0 R0x0 R0x1
 obtain⟨R1x0a,R1x0b,R1x0c⟩:=R1x0.out
 obtain⟨R1x1a,R1x1b,R1x1c⟩:=R1x1.out
 obtain⟨V1x0a,V1x0b,V1x0c⟩:=V1x0.out
 go_wp2_with fail
 have R2x0:=Lib.hid (R1x0.out.other n_x_b (bysA Z))
 have R2x1:=Lib.hid (R1x1.out.other n_r_b (bysA Z))
 have R2x2:=Lib.hid (V1x0.out.set (bysA Z))
 have B2:=Lib.hid (below_setRow B1.out l_b (bysA Z))
 clear B1 R1x0 R1x1 V1x0 R1x0a R1x0b R1x0c R1x1a R1x1b R1x1c V1x0a V1x0b V1x0c
 generalize W1.setRow b (bysA Z)=W2 at *
 refine(HF.out _ (HT.out.grow B2.out) B2.out).mono ?_
 rintro e W3 ⟨v,rfl,hown,hb3⟩
 have R3x0:=Lib.hid (R2x0.out.grow hb3)
 have R3x1:=Lib.hid (R2x1.out.grow hb3)
 have R3x2:=Lib.hid (R2x2.out.grow hb3)
 have B3:=Lib.hid (B2.out.trans (hb3.mono B2.out.size))
 clear hb3 B2 R2x0 R2x1 R2x2
 obtain⟨pf,cf,rfl,hBs,hx1,hx2⟩:=hown.bs
 clear hx1 hx2 hown
 rw[Hfl.out]
 have hcp:=HCp.out _ b cf pf R3x2.out hBs
 clear hBs
 obtain⟨R3x0a,R3x0b,R3x0c⟩:=R3x0.out
 obtain⟨R3x1a,R3x1b,R3x1c⟩:=R3x1.out
 obtain⟨R3x2a,R3x2b,R3x2c⟩:=R3x2.out
 go_wp2_with fail
 refine bodyPost_ret (v:=.agg (bysA R)) (results_beta Tryz.results70 hbs _ _ _ rfl (by go_simp) (by go_simp)) rfl ⟨rfl,?_⟩
 exact below_setRow (below_setRow (B3.out) l_b _) l_r _
end Go.Proofs.YtddmjddlbhdcpaaGreatDoor

namespace Go.Proofs.YtddmjddlbhdcpaaGreatDoor
open Go.RowKit Go.Hold Go.Sh
theorem offs_const {C:Nat}:∀ (vs:List Value) (o j:Nat) (x:Nat × Nat),(∀ v∈vs,v.cells.size=C)→(offs o vs)[j]?=some x→x=(o+j*C,C)
 | [],o,j,x,_,h=>by simp[offs] at h
 | v::vs,o,0,x,hv,h=>by
  simp only[offs,List.getElem?_cons_zero,Option.some.injEq] at h
  rw[←h,hv v List.mem_cons_self,Nat.zero_mul,Nat.add_zero]
 | v::vs,o,j+1,x,hv,h=>by
  simp only[offs,List.getElem?_cons_succ] at h
  have:=offs_const vs _ j x (fun u hu=>hv u (List.mem_cons_of_mem _ hu)) h
  rw[this,hv v List.mem_cons_self,Nat.add_mul,Nat.one_mul]
  congr 1;omega
theorem cellsAll_const {C:Nat}:∀ (vs:List Value),(∀ v∈vs,v.cells.size=C)→(cellsAll vs).length=vs.length*C
 | [],_=>by simp[cellsAll]
 | v::vs,hv=>by
  show (v.cells.toList++cellsAll vs).length=_
  rw[List.length_append,Array.length_toList,hv v List.mem_cons_self,cellsAll_const vs (fun u hu=>hv u (List.mem_cons_of_mem _ hu)),List.length_cons,Nat.add_mul];omega
theorem run_bldRows {P:Program} {t e:TypeId} {C Y len:Nat} {z:Value} (hu:P.underlying t=some (.slice e)) (hinfo:(P.info? e).map (fun i=>(i.zero,i.size,i.bytes))=some (some z,C,Y)) (vs:List Value) (hv:∀ v∈vs,v.cells.size=C) (hl:vs.length=len) (h0:¬len*C=0) (hm:¬len*C > 2^24)
  (parts:Array (Nat × Value)) (hp:parts.toList=vs.zipIdx.map fun p=>(p.2,p.1)) (w:World) :
  (Instr.buildSlice t len parts).run P w=.ok (.slice (some ⟨w.heap.size,0,none⟩) len len) (w.alloc (.cells (cellsAll vs).toArray e)):=by
 obtain⟨ie,h1,h2,h3,_⟩:=info_parts hinfo
 refine run_buildSlice w _ _ len _ _ ie _ hu h1 h2 (by rw[h3];exact hm) (by rw[h3];exact h0) ?_
 rw[h3,hp]
 have hca:=cellsAll_const vs hv
 rw[hl] at hca
 obtain⟨r,g1,g2,g3⟩:=fill_all (fun i=>some (i*C,C)) vs 0 0 ((Array.range (len*C)).map (z.cells[· % z.cells.size]!)) (fun j x hx=>by
  rw[offs_const vs 0 j x hv hx,Nat.zero_add,Nat.zero_add]) (by rw[hca];simp)
 rw[g1]
 congr 1
 have h5:r.toList.length=(cellsAll vs).length:=by rw[Array.length_toList,g2,hca];simp
 rw[Nat.zero_add,List.take_zero,List.nil_append,←h5,List.take_length] at g3
 rw[←g3,Array.toArray_toList]
end Go.Proofs.YtddmjddlbhdcpaaGreatDoor

namespace Go.Oc
theorem or_add (a x:Nat) (hx:x<256):a*256 ||| x=a*256+x:=by
 have:=Nat.shiftLeft_add_eq_or_of_lt (i:=8) (b:=x) hx a
 rw[Nat.shiftLeft_eq] at this
 exact this.symm
end Go.Oc
namespace Go.Proofs.YtddmjddlbhdcpaaGreatDoor
open Go.RowKit Go.Hold Go.Sh Go.Oc
def RB (w:World) (bb:Option Nat) (p:Option Addr) (l:List Nat):Prop:=(p=none∧l=[])∨∃ b o,bb=some b∧p=some ⟨b,o,none⟩∧BytesAt w b o l
theorem RB.any {w:World} {bb:Option Nat} {p:Option Addr} {l:List Nat} (h:RB w bb p l):Bs0 w p l:=by
 rcases h with ⟨_,h⟩ | ⟨b,o,_,e,h⟩
 ·exact .inl h
 ·exact .inr ⟨b,o,e,h⟩
theorem RB.moves {w w':World} {g:Nat} {a bb:Option Nat} {p:Option Addr} {l:List Nat} (h:RB w bb p l) (m:Moves w g a w') (h1:bb≠some g) (h2:∀ k,bb=some k→a≠some k):RB w' bb p l:=by
 rcases h with h | ⟨b,o,e1,e,h⟩
 ·exact .inl h
 ·exact .inr ⟨b,o,e1,e,h.moves m (fun e2=>h1 (by rw[e1,e2])) (h2 b e1)⟩
theorem RB.lt {w:World} {bb:Option Nat} {p:Option Addr} {l:List Nat} (h:RB w bb p l):p≠none→∀ k,bb=some k→k<w.heap.size:=by
 rcases h with ⟨h,_⟩ | ⟨b,o,e1,_,h⟩
 ·intro hp;exact absurd h hp
 ·intro _ k hk;rw[e1] at hk;cases hk;exact h.1
def Rd (w:World) (g:Nat) (bb:Option Nat) (s:Ws):Prop :=
 ∃ p c,RowAt w g (rrow true s.1 (.slice p s.2.length c))∧RB w bb p s.2∧(p=none→c=0)∧s.2.length≤c∧bb≠some g∧s.2.length≤65536∧∀ k,bb=some k→k<w.heap.size
def RStep (w:World) (g:Nat) (bb:Option Nat) (s':Ws) (w':World):Prop:=Rd w' g bb s'∧Moves w g none w'
theorem Rd.lt {w:World} {g:Nat} {bb:Option Nat} {s:Ws} (h:Rd w g bb s):g<w.heap.size∧∀ k,bb=some k→k<w.heap.size:=by
 obtain⟨p,c,h,_,_,_,_,_,h2⟩:=h
 exact⟨h.2.2,h2⟩
theorem Rd.le {w:World} {g:Nat} {bb:Option Nat} {s:Ws} (h:Rd w g bb s):s.2.length≤65536:=by
 obtain⟨p,c,_,_,_,_,_,h,_⟩:=h;exact h
theorem Rd.apart {w:World} {g:Nat} {bb:Option Nat} {s:Ws} (h:Rd w g bb s):bb≠some g:=by
 obtain⟨p,c,_,_,_,_,h,_,_⟩:=h;exact h
theorem Rd.moves {w w':World} {g g2:Nat} {bb ob2:Option Nat} {s:Ws} (h:Rd w g bb s) (m:Moves w g2 ob2 w') (h1:g≠g2) (h2:ob2≠some g) (h3:bb≠some g2) (h4:∀ k,bb=some k→ob2≠some k):Rd w' g bb s:=by
 obtain⟨p,c,hr,hb,h5,h6,h7,h8,h9⟩:=h
 exact⟨p,c,RowAt.moves hr m h1 h2,hb.moves m h3 h4,h5,h6,h7,h8,fun k hk=>Nat.lt_of_lt_of_le (h9 k hk) m.size⟩
theorem Rd.grow {w w':World} {g:Nat} {bb:Option Nat} {s:Ws} (h:Rd w g bb s) (hb:Below w.heap.size w w'):Rd w' g bb s:=by
 have hl:=h.lt
 refine h.moves (g2:=w.heap.size) (ob2:=none) (Moves.of _ _ hb) (by omega) (fun e=>by cases e) (fun e=>?_) (fun _ _ e=>by cases e)
 have:=hl.2 _ e;omega
theorem RStep.refl {w:World} {g:Nat} {bb:Option Nat} {s:Ws} (h:Rd w g bb s):RStep w g bb s w:=⟨h,Moves.refl _ _ _⟩
theorem RStep.grow {w w1 w':World} {g:Nat} {bb:Option Nat} {s:Ws} (h:RStep w g bb s w1) (hb:Below w1.heap.size w1 w'):RStep w g bb s w':=⟨h.1.grow hb,h.2.grow hb⟩
theorem Rd.row {w:World} {g:Nat} {bb:Option Nat} {s:Ws} (h:Rd w g bb s):∃ v,RowAt w g (rrow true s.1 v):=by
 obtain⟨p,c,h,_⟩:=h;exact⟨_,h⟩
theorem RStep.err {w:World} {g:Nat} {bb:Option Nat} {s:Ws} (h:Rd w g bb s) (er:Int):RStep w g bb (er,s.2) (w.setCell ⟨g,1,none⟩ (.int .i64 er)):=by
 have hl:=h.lt
 obtain⟨p,c,hr,hb,h5,h6,h7,h8,h9⟩:=h
 rw[setCell_row hr]
 have m:=Moves.setRow (Moves.refl w g none) ((rrow true s.1 (.slice p s.2.length c)).setIfInBounds 1 (.int .i64 er))
 exact⟨⟨p,c,hr.set _,hb.moves m h7 (fun _ _ e=>by cases e),h5,h6,h7,h8,fun k hk=>Nat.lt_of_lt_of_le (h9 k hk) m.size⟩,m⟩
theorem RStep.put {w:World} {g:Nat} {bb:Option Nat} {s:Ws} {l:List Nat} {p:Option Addr} {c:Nat} (h:Rd w g bb s) (hb:RB w bb p l) (hp:p=none→c=0) (hc:l.length≤c) (hl:l.length≤65536) :
  RStep w g bb (s.1,l) (w.setCell ⟨g,2,none⟩ (.slice p l.length c)):=by
 obtain⟨p0,c0,hr,hb0,h5,h6,h7,h8,h9⟩:=h
 rw[setCell_row hr]
 have m:=Moves.setRow (Moves.refl w g none) ((rrow true s.1 (.slice p0 s.2.length c0)).setIfInBounds 2 (.slice p l.length c))
 exact⟨⟨p,c,hr.set _,hb.moves m h7 (fun _ _ e=>by cases e),hp,hc,h7,hl,fun k hk=>Nat.lt_of_lt_of_le (h9 k hk) m.size⟩,m⟩
theorem slB_loN (w:World):(slB (.slice none 0 0) (some (.int .i64 ((0:Nat):Int))) none none).run Tryz.prog w=.ok (.slice none 0 0) w:=by
 unfold slB
 rw[run_sliceAt_slice _ _ _ _ _ _ elem8,run_slice_l _ _ _ _ _ elem8 _ _ (by omega) (by omega),size8]
 simp[sliced,Result.andThen]
set_option maxHeartbeats 600000 in
set_option maxRecDepth 100000 in
theorem newReader_c (p:Option Addr) (l:List Nat) (n cap:Nat) (w:World) (hn:n=l.length) (hl:l.length≤65536) (hB:Bs0 w p l) (hp:p=none→cap=0) :
  Calls Tryz.prog 81 #[.slice p n cap] w fun e w'=>∃ g bb,e=.returned (.pointer (some ⟨g,0,none⟩))∧Rd w' g bb (0,l)∧w.heap.size≤g∧(∀ k,bb=some k→w.heap.size≤k)∧Below w.heap.size w w':=by
 have h1:¬(65536:Int)<(n:Int):=by omega
 have KC:=Lib.hid (clone_c p l n cap w hn hB hp (by omega))
 have HL:=Lib.hid hl
 clear hl hB hp hn
 go_enter Tryz.func81,Tryz.ntmps81
 go_wp2_with fail
 refine KC.out.mono ?_
 rintro e w1 ⟨v,rfl,ho,hb1⟩
 have HO:=Lib.hid ho
 have HB:=Lib.hid hb1
 obtain⟨p1,c1,rfl,_,hc1,hp1⟩:=ho.bs
 have HC:=Lib.hid hc1
 have HP:=Lib.hid hp1
 have HE:=Lib.hid (Eq.refl l.length)
 clear ho hb1 hc1 hp1
 generalize hk:l.length=k at *
 have Hk:=Lib.hid hk
 clear hk
 go_wp2_with fail
 go_ret
 refine⟨_,(Value.slice p1 k c1).ownBlock,rfl,?_,HB.out.size,fun k' hk'=>(World.ownsRow.lt HO.out k' hk').1,(HB.out).trans ((below_alloc (Below.refl w1.heap.size w1) _).mono HB.out.size)⟩
 have hlt:=World.ownsRow.lt HO.out
 refine⟨p1,c1,by simp only[Hk.out];exact RowAt.of (block_new w1 _),?_,HP.out,by simp only[Hk.out];exact HC.out,fun e=>by have:=(hlt _ e).2;omega,by simp only[Hk.out];exact HL.out,fun k' hk'=>Nat.lt_of_lt_of_le (hlt k' hk').2 (by simp)⟩
 rcases HO.out.2 with ⟨hv,h0⟩ | ⟨gx,cap,cur,hv,_⟩
 ·cases hv
  exact .inl ⟨rfl,List.length_eq_zero_iff.1 h0⟩
 ·cases hv
  exact .inr ⟨gx,0,rfl,rfl,(OwnB.bytes HO.out (hlt gx rfl).2).grow (below_alloc (Below.refl _ _) _)⟩
end Go.Proofs.YtddmjddlbhdcpaaGreatDoor

namespace Go.Proofs.YtddmjddlbhdcpaaGreatDoor
open Go.RowKit Go.Hold Go.Sh Go.Oc
def tkL (l:List Nat) (n:Nat):List Nat:=if l.length<n then [] else l.take n
theorem Rd.stop {w:World} {g:Nat} {bb:Option Nat} {s:Ws} (h:Rd w g bb s) :
  Calls Tryz.prog 110 #[.pointer (some ⟨g,0,none⟩)] w fun e w'=>e=.returned (.int .i64 s.1)∧w'=w:=by
 obtain⟨v,hr⟩:=h.row
 exact rstopped_c g true s.1 w (hr.cellAt 0 rfl) (hr.cellAt 1 rfl)
theorem RB.drop {w:World} {bb:Option Nat} {b o n cap:Nat} {l:List Nat} (h:RB w bb (some ⟨b,o,none⟩) l) (hc:l.length≤cap):RB w bb (some ⟨b,adv o n cap,none⟩) (l.drop n):=by
 rcases h with ⟨h,_⟩ | ⟨b',o',e1,e2,h⟩
 ·cases h
 ·cases e2
  exact .inr ⟨b,_,e1,rfl,h.adv hc⟩
set_option maxHeartbeats 600000 in
set_option maxRecDepth 100000 in
theorem rtake_c (g:Nat) (bb:Option Nat) (l:List Nat) (n:Nat) (w:World) (h:Rd w g bb (0,l)) :
  Calls Tryz.prog 112 #[.pointer (some ⟨g,0,none⟩),.int .i64 (n:Int)] w fun e w'=>∃ p c,e=.returned (.tuple #[.slice p (tkL l n).length c,.int .i64 (takS (0,l) n).1])∧Bs0 w' p (tkL l n)∧(p=none→c=0)∧RStep w g bb (takS (0,l) n) w':=by
 have H:=Lib.hid h
 obtain⟨p,c,hr,hb,hpc,hlc,hap,hle,hbl⟩:=h
 simp only at hr hb hlc hle
 have hc1:=hr.cellAt 1 (show (rrow true 0 (.slice p l.length c))[1]?=some (.int .i64 0) from rfl)
 have hc2:=hr.cellAt 2 (show (rrow true 0 (.slice p l.length c))[2]?=some (.slice p l.length c) from rfl)
 have hf1:=hr.frozenAt 1
 have hf2:=hr.frozenAt 2
 have hgl:=hr.2.2
 obtain⟨k,ek⟩:∃ k,k=l.length:=⟨_,rfl⟩
 by_cases hs:l.length<n
 ·have e1:tkL l n=[]:=by unfold tkL;rw[if_pos hs]
  have e2:takS (0,l) n=(4,l):=by unfold takS;rw[if_pos hs]
  rw[e1,e2]
  have h1:(k:Int)<(n:Int):=by omega
  have KF:=Lib.hid (fail_c g 4 0 w hc1 hf1)
  have HE:=Lib.hid (RStep.err H.out 4)
  rw[←ek] at hc2
  clear hr hb hpc hlc hap hle hbl hs e1 e2 hc1 hf1 hf2 ek
  go_enter Tryz.func112,Tryz.ntmps112
  go_wp2_with fail
  refine KF.out.mono ?_
  rintro e w' ⟨rfl,rfl⟩
  go_wp2_with fail
  refine bodyPost_ret (v:=.tuple #[.slice none 0 0,.int .i64 4]) (results_tmp2 Tryz.results112 _ _ _) rfl ⟨none,0,rfl,.inl rfl,fun _=>rfl,HE.out⟩
 ·have e1:tkL l n=l.take n:=by unfold tkL;rw[if_neg hs]
  have e2:takS (0,l) n=(0,l.drop n):=by unfold takS;rw[if_neg hs]
  rw[e1,e2]
  have h1:¬(k:Int)<(n:Int):=by omega
  have hlen:(l.take n).length=n:=by rw[List.length_take];omega
  have hh:=slB_h p k c n (by omega)
  have hbt:=hb.any.take n
  have hld:(l.drop n).length=k-n:=by rw[List.length_drop,ek]
  have hc64:c≤c:=Nat.le_refl _
  rcases hb with ⟨rfl,rfl⟩ | ⟨b,o,rfl,rfl,hb⟩
  ·obtain rfl:=hpc rfl
   obtain rfl:n=0:=by simp at hs;exact hs
   obtain rfl:k=0:=by rw[ek];rfl
   have hlo:=slB_loN
   have HE:=Lib.hid (RStep.put H.out (.inl ⟨rfl,rfl⟩) (fun _=>rfl) (Nat.le_refl _) (by simp):RStep w g bb (0,[]) _)
   clear hr hpc hlc hap hle hbl hs e1 e2 hc1 hf1 ek hlen hld hbt
   simp only[List.length_nil,List.take_nil,List.drop_nil] at *
   rw[show ((0:Nat):Int)=0 from rfl] at *
   go_enter Tryz.func112,Tryz.ntmps112
   go_wp2_with fail
   refine bodyPost_ret (v:=.tuple #[.slice none 0 0,.int .i64 0]) (results_tmp2 Tryz.results112 _ _ _) rfl ⟨none,0,rfl,.inl rfl,fun _=>rfl,HE.out⟩
  ·have hlo:=slB_lo b o k c n (by omega)
   have hrb:RB w (some b) (some ⟨b,adv o n c,none⟩) (l.drop n):=RB.drop (.inr ⟨b,o,rfl,rfl,hb⟩) hlc
   have HE0:RStep w g (some b) (0,l.drop n) _:=RStep.put (c:=c-n) H.out hrb (fun e=>by cases e) (by omega) (by omega)
   have HBt:=Lib.hid (show Bs0 (w.setCell ⟨g,2,none⟩ (.slice (some ⟨b,adv o n c,none⟩) (l.drop n).length (c-n))) (some ⟨b,o,none⟩) (l.take n) from
    hbt.moves (Moves.setCell (Moves.refl w g none) 2 _) (fun b' o' e=>by cases e;exact⟨fun e=>hap (by rw[e]),fun e=>by cases e⟩))
   rw[hld] at HE0 HBt
   have HE:=Lib.hid HE0
   rw[←ek] at hc2
   clear hr hpc hlc hap hle hbl hs e1 e2 hc1 hf1 ek hrb hld hbt hb HE0
   generalize l.take n=t at *
   subst hlen
   go_enter Tryz.func112,Tryz.ntmps112
   go_wp2_with fail
   refine bodyPost_ret (v:=.tuple #[.slice (some ⟨b,o,none⟩) t.length c,.int .i64 0]) (results_tmp2 Tryz.results112 _ _ _) rfl ⟨_,_,rfl,HBt.out,(fun e=>by cases e),HE.out⟩
set_option maxHeartbeats 600000 in
set_option maxRecDepth 100000 in
theorem joined_c (p:Option Addr) (l:List Nat) (n cap:Nat) (w:World) (hn:n=l.length) (hl:l.length≤8) (hB:Bs0 w p l) (hlb:∀ i,l.getD i 0<256) :
  Calls Tryz.prog 113 #[.slice p n cap] w fun e w'=>e=.returned (.int .u64 (joinN l:Int))∧w'=w:=by
 have HB:=Lib.hid hB
 have Hn:=Lib.hid hn
 have HL:=Lib.hid hl
 have HLb:=Lib.hid hlb
 clear hB hn hl hlb
 go_enter Tryz.func113,Tryz.ntmps113
 go_wp2_with fail
 go_loopw [3,8] (fun z i wr=>∃ j:Nat,j≤n∧i=.int .i64 j∧z=.int .u64 (joinN (l.take j):Int)∧wr=w) (fun _ i _=>n-(intOf i).toNat)
 case atStart=>exact⟨0,Nat.zero_le _,rfl,rfl,rfl⟩
 case round =>
  obtain⟨j,hj,rfl,rfl,hwr⟩:=hrel
  subst hwr
  by_cases hjn:j<n
  ·have hj0:(0:Int)≤(j:Int):=by omega
   have hj1:(j:Int)<(n:Int):=by omega
   have hjb:(j:Int)<8:=by have:=HL.out;have:=Hn.out;omega
   have hjl:j<l.length:=by rw[←Hn.out];exact hjn
   obtain⟨b,o,hp,hby⟩:∃ b o,p=some ⟨b,o,none⟩∧BytesAt wr b o l:=by
    rcases HB.out with rfl | h
    ·simp at hjl
    ·exact h
   subst hp
   have hcj:=hby.2 j hjl
   have hx:=HLb.out j
   have ht:l.take (j+1)=l.take j++[l.getD j 0]:=by rw[List.take_add_one,List.getElem?_eq_getElem hjl];simp[List.getD,hjl]
   obtain⟨x,ex⟩:∃ x,x=l.getD j 0:=⟨_,rfl⟩
   rw[←ex] at hcj hx ht
   have hjs:joinN (l.take (j+1))=joinN (l.take j)*256+x:=by rw[ht,join_snoc]
   have hlt:=join_lt (l.take (j+1)) (bts_take HLb.out _)
   have hpow:(2:Nat)^(8*(l.take (j+1)).length)≤18446744073709551616:=by
    rw[show (18446744073709551616:Nat)=2^64 from rfl]
    refine Nat.pow_le_pow_right (by decide) ?_
    rw[List.length_take];have:=HL.out;omega
   obtain⟨a2,ea2⟩:∃ a,a=joinN (l.take (j+1)):=⟨_,rfl⟩
   obtain⟨a,ea⟩:∃ a,a=joinN (l.take j):=⟨_,rfl⟩
   rw[←ea2,←ea] at hjs
   rw[←ea2] at hlt
   rw[←ea]
   obtain⟨y,ey⟩:∃ y,y=a*256:=⟨_,rfl⟩
   have hsh:IntKind.u64.wrap ((a:Int)*256)=(y:Int):=by rw[IntWalk.u64_in _ (by omega)];omega
   have hcx:IntKind.u64.wrap (x:Int)=(x:Int):=IntWalk.u64_in _ (by omega)
   have hor:bits .or .u64 (y:Int) (x:Int)=(a2:Int):=by rw[bits_or_u64_nat y x (by omega) (by omega),ey,Go.Oc.or_add a x hx,hjs]
   have Ea2:=Lib.hid ea2
   clear hby hx ht ex hjs hlt hpow ea2 ea ey hjl
   go_wp2_with fail
   go_roundw
   case rel=>exact⟨j+1,by omega,by go_num,by rw[←Ea2.out],by first | trivial | rfl⟩
   case measure=>simp[intOf];omega
  ·obtain rfl:j=n:=by omega
   have hall:l.take j=l:=List.take_of_length_le (by rw[←Hn.out];exact Nat.le_refl _)
   rw[hall]
   clear hall
   go_wp2_with fail
   go_ret
   exact⟨rfl,rfl⟩
end Go.Proofs.YtddmjddlbhdcpaaGreatDoor

namespace Go.Proofs.YtddmjddlbhdcpaaGreatDoor
open Go.RowKit Go.Hold Go.Sh Go.Oc
def RStop (w:World) (v:Value) (er:Int):Prop:=Calls Tryz.prog 110 #[v] w fun e w'=>e=.returned (.int .i64 er)∧w'=w
theorem rdNum_stop (po:Option Addr) (er:Int) (her:¬er=0) (a:Value) (w:World) (h:RStop w (.pointer po) er):Calls Tryz.prog 82 #[.pointer po,a] w fun e w'=>e=.returned (.tuple #[.int .u64 0,.int .i64 er])∧w'=w:=by
 have HS:=Lib.hid h
 unfold RStop at HS
 clear h
 go_enter Tryz.func82,Tryz.ntmps82
 go_wp2_with fail
 refine HS.out.mono ?_
 rintro e w' ⟨rfl,rfl⟩
 go_wp2_with fail
 refine bodyPost_ret (v:=.tuple #[.int .u64 0,.int .i64 er]) (results_tmp2 Tryz.results82 _ _ _) rfl ⟨rfl,rfl⟩
theorem rdBytes_stop (po:Option Addr) (er:Int) (her:¬er=0) (a:Value) (w:World) (h:RStop w (.pointer po) er):Calls Tryz.prog 83 #[.pointer po,a] w fun e w'=>e=.returned (.tuple #[.slice none 0 0,.int .i64 er])∧w'=w:=by
 have HS:=Lib.hid h
 unfold RStop at HS
 clear h
 go_enter Tryz.func83,Tryz.ntmps83
 go_wp2_with fail
 refine HS.out.mono ?_
 rintro e w' ⟨rfl,rfl⟩
 go_wp2_with fail
 refine bodyPost_ret (v:=.tuple #[.slice none 0 0,.int .i64 er]) (results_tmp2 Tryz.results83 _ _ _) rfl ⟨rfl,rfl⟩
theorem rdDone_stop (po:Option Addr) (er:Int) (her:¬er=0) (w:World) (h:RStop w (.pointer po) er):Calls Tryz.prog 84 #[.pointer po] w fun e w'=>e=.returned (.bool false)∧w'=w:=by
 have HS:=Lib.hid h
 unfold RStop at HS
 have h2:(er != 0)=true:=by simpa using her
 clear h
 go_enter Tryz.func84,Tryz.ntmps84
 go_wp2_with fail
 refine HS.out.mono ?_
 rintro e w' ⟨rfl,rfl⟩
 go_wp2_with fail
 go_ret
 exact⟨rfl,rfl⟩
set_option maxHeartbeats 1000000 in
set_option maxRecDepth 100000 in
theorem rdNum_c (g:Nat) (bb:Option Nat) (s:Ws) (sz:Int) (w:World) (h:Rd w g bb s) (hb:∀ i,s.2.getD i 0<256) :
  Calls Tryz.prog 82 #[.pointer (some ⟨g,0,none⟩),.int .i64 sz] w fun e w'=>e=.returned (.tuple #[.int .u64 (rnumV s sz:Int),.int .i64 (rnumS s sz).1])∧RStep w g bb (rnumS s sz) w':=by
 have HS:=Lib.hid h.stop
 obtain⟨er,l⟩:=s
 by_cases her:er=0
 ·subst her
  have hs:rnumS (0,l) sz=if ¬(1≤sz∧sz≤8) then (2,l) else takS (0,l) sz.toNat:=by unfold rnumS;rw[if_neg (by simp)]
  rw[hs]
  by_cases h18:1≤sz∧sz≤8
  ·rw[if_neg (by simpa using h18)]
   obtain⟨z,rfl⟩:∃ z:Nat,sz=(z:Int):=⟨sz.toNat,by omega⟩
   rw[Int.toNat_natCast]
   have KT:=Lib.hid (rtake_c g bb l z w h)
   have hv:rnumV (0,l) (z:Int)=joinN (tkL l z):=by
    unfold rnumV tkL
    simp only[Int.toNat_natCast]
    by_cases hx:l.length<z
    ·rw[if_neg (by omega),if_pos hx];rfl
    ·rw[if_pos ⟨by simp,h18,by omega⟩,if_neg hx]
   rw[hv]
   have HT:=Lib.hid (show (tkL l z).length≤8∧∀ i,(tkL l z).getD i 0<256 by
    unfold tkL;split
    ·exact⟨by simp,fun i=>by simp⟩
    ·exact⟨by rw[List.length_take];omega,bts_take hb _⟩)
   have h1:¬(z:Int)<1:=by omega
   have h8:¬(8:Int)<(z:Int):=by omega
   obtain⟨x,ex⟩:∃ x,x=joinN (tkL l z):=⟨_,rfl⟩
   rw[←ex]
   have Ex:=Lib.hid ex
   clear hs h hb hv h18 ex
   go_enter Tryz.func82,Tryz.ntmps82
   go_wp2_with fail
   refine HS.out.mono ?_
   rintro e w' ⟨rfl,rfl⟩
   go_wp2_with fail
   refine KT.out.mono ?_
   rintro e w1 ⟨p,c,rfl,hb1,_,hst⟩
   have KJ:=Lib.hid (joined_c p (tkL l z) (tkL l z).length c w1 rfl HT.out.1 hb1 HT.out.2)
   have HR:=Lib.hid hst
   clear hb1 hst KT
   rw[←Ex.out] at KJ
   generalize (tkL l z).length=k at *
   go_wp2_with fail
   refine KJ.out.mono ?_
   rintro e w' ⟨rfl,rfl⟩
   go_wp2_with fail
   refine bodyPost_ret (v:=.tuple #[.int .u64 (x:Int),.int .i64 (takS (0,l) z).1]) (results_tmp2 Tryz.results82 _ _ _) rfl ⟨rfl,HR.out⟩
  ·rw[if_pos h18]
   have hv:rnumV (0,l) sz=0:=by unfold rnumV;rw[if_neg (fun e=>h18 e.2.1)]
   rw[hv]
   obtain⟨v,hr⟩:=h.row
   have KF:=Lib.hid (fail_c g 2 0 w (hr.cellAt 1 rfl) (hr.frozenAt 1))
   have HE:=Lib.hid (RStep.err h 2)
   clear hs h hb hv hr
   by_cases h1:sz<1
   ·clear h18
    go_enter Tryz.func82,Tryz.ntmps82
    go_wp2_with fail
    refine HS.out.mono ?_
    rintro e w' ⟨rfl,rfl⟩
    go_wp2_with fail
    refine KF.out.mono ?_
    rintro e w' ⟨rfl,rfl⟩
    go_wp2_with fail
    refine bodyPost_ret (v:=.tuple #[.int .u64 0,.int .i64 2]) (results_tmp2 Tryz.results82 _ _ _) rfl ⟨rfl,HE.out⟩
   ·have h8:(8:Int)<sz:=by omega
    clear h18
    go_enter Tryz.func82,Tryz.ntmps82
    go_wp2_with fail
    refine HS.out.mono ?_
    rintro e w' ⟨rfl,rfl⟩
    go_wp2_with fail
    refine KF.out.mono ?_
    rintro e w' ⟨rfl,rfl⟩
    go_wp2_with fail
    refine bodyPost_ret (v:=.tuple #[.int .u64 0,.int .i64 2]) (results_tmp2 Tryz.results82 _ _ _) rfl ⟨rfl,HE.out⟩
 ·have hs:rnumS (er,l) sz=(er,l):=by unfold rnumS;rw[if_pos her]
  have hv:rnumV (er,l) sz=0:=by unfold rnumV;rw[if_neg (fun e=>her e.1)]
  rw[hs,hv]
  refine(rdNum_stop _ er her _ w HS.out).mono ?_
  rintro e w' ⟨rfl,rfl⟩
  exact⟨rfl,RStep.refl h⟩
set_option maxHeartbeats 1000000 in
set_option maxRecDepth 100000 in
theorem rdBytes_c (g:Nat) (bb:Option Nat) (s:Ws) (n:Int) (w:World) (h:Rd w g bb s) :
  Calls Tryz.prog 83 #[.pointer (some ⟨g,0,none⟩),.int .i64 n] w fun e w'=>∃ v,e=.returned (.tuple #[v,.int .i64 (rbytS s n).1])∧OwnB w' w.heap.size v (rbytV s n)∧RStep w g bb (rbytS s n) w':=by
 have HS:=Lib.hid h.stop
 obtain⟨er,l⟩:=s
 by_cases her:er=0
 ·subst her
  have hs:rbytS (0,l) n=if n<0 then (2,l) else takS (0,l) n.toNat:=by unfold rbytS;rw[if_neg (by simp)]
  rw[hs]
  by_cases h0:n<0
  ·rw[if_pos h0]
   have hv:rbytV (0,l) n=[]:=by unfold rbytV;rw[if_neg (fun e=>by have:=e.2.1;omega)]
   rw[hv]
   obtain⟨v,hr⟩:=h.row
   have KF:=Lib.hid (fail_c g 2 0 w (hr.cellAt 1 rfl) (hr.frozenAt 1))
   have HE:=Lib.hid (RStep.err h 2)
   clear hs h hv hr
   go_enter Tryz.func83,Tryz.ntmps83
   go_wp2_with fail
   refine HS.out.mono ?_
   rintro e w' ⟨rfl,rfl⟩
   go_wp2_with fail
   refine KF.out.mono ?_
   rintro e w' ⟨rfl,rfl⟩
   go_wp2_with fail
   refine bodyPost_ret (v:=.tuple #[.slice none 0 0,.int .i64 2]) (results_tmp2 Tryz.results83 _ _ _) rfl ⟨_,rfl,own_nil _ _,HE.out⟩
  ·rw[if_neg h0]
   obtain⟨z,rfl⟩:∃ z:Nat,n=(z:Int):=⟨n.toNat,by omega⟩
   rw[Int.toNat_natCast]
   have KT:=Lib.hid (rtake_c g bb l z w h)
   have hv:rbytV (0,l) (z:Int)=tkL l z:=by
    unfold rbytV tkL
    simp only[Int.toNat_natCast]
    by_cases hx:l.length<z
    ·rw[if_neg (by omega),if_pos hx]
    ·rw[if_pos ⟨by simp,by omega,by omega⟩,if_neg hx]
   rw[hv]
   have HT:=Lib.hid (show (tkL l z).length≤16000000 by
    have:=h.le
    simp only at this
    unfold tkL;split
    ·simp
    ·rw[List.length_take];omega)
   clear hs h hv
   go_enter Tryz.func83,Tryz.ntmps83
   go_wp2_with fail
   refine HS.out.mono ?_
   rintro e w' ⟨rfl,rfl⟩
   go_wp2_with fail
   refine KT.out.mono ?_
   rintro e w1 ⟨p,c,rfl,hb1,hp1,hst⟩
   have KJ:=Lib.hid (clone_c p (tkL l z) (tkL l z).length c w1 rfl hb1 hp1 HT.out)
   have HR:=Lib.hid hst
   clear hb1 hp1 hst KT
   generalize (tkL l z).length=k at *
   go_wp2_with fail
   refine KJ.out.mono ?_
   rintro e w2 ⟨v2,rfl,ho2,hb2⟩
   have HO:=Lib.hid ho2
   have HB:=Lib.hid hb2
   clear ho2 hb2
   go_wp2_with fail
   refine bodyPost_ret (v:=.tuple #[v2,.int .i64 (takS (0,l) z).1]) (results_tmp2 Tryz.results83 _ _ _) rfl ⟨_,rfl,HO.out.base HR.out.2.size,HR.out.grow HB.out⟩
 ·have hs:rbytS (er,l) n=(er,l):=by unfold rbytS;rw[if_pos her]
  have hv:rbytV (er,l) n=[]:=by unfold rbytV;rw[if_neg (fun e=>her e.1)]
  rw[hs,hv]
  refine(rdBytes_stop _ er her _ w HS.out).mono ?_
  rintro e w' ⟨rfl,rfl⟩
  exact⟨_,rfl,own_nil _ _,RStep.refl h⟩
theorem done_zero (l:List Nat) (k:Nat) (h:∀ i,i<k→l.getD i 0=0) (hk:l.length≤k):l.all (· == 0)=true:=by
 rw[List.all_eq_true]
 intro x hx
 obtain⟨i,hi,rfl⟩:=List.getElem_of_mem hx
 have:=h i (by omega)
 simpa [List.getD,hi] using this
theorem done_not (l:List Nat) (k:Nat) (hk:k<l.length) (h:l.getD k 0≠0):l.all (· == 0)=false:=by
 rw[List.all_eq_false]
 refine⟨l[k],List.getElem_mem hk,?_⟩
 simpa [List.getD,hk] using h
set_option maxHeartbeats 1000000 in
set_option maxRecDepth 100000 in
theorem rdDone_c (g:Nat) (bb:Option Nat) (s:Ws) (w:World) (h:Rd w g bb s) :
  Calls Tryz.prog 84 #[.pointer (some ⟨g,0,none⟩)] w fun e w'=>e=.returned (.bool (doneS s))∧w'=w:=by
 have HS:=Lib.hid h.stop
 obtain⟨er,l⟩:=s
 by_cases her:er=0
 ·subst her
  have hs:doneS (0,l)=l.all (· == 0):=by unfold doneS;simp
  rw[hs]
  have hle:=h.le
  obtain⟨p,c,hr,hb,_⟩:=h
  simp only at hr hb hle
  have hc2:=hr.cellAt 2 (show (rrow true 0 (.slice p l.length c))[2]?=some (.slice p l.length c) from rfl)
  have hgl:=hr.2.2
  have HB:=Lib.hid hb.any
  clear hs hr hb
  obtain⟨n,en⟩:∃ n,n=l.length:=⟨_,rfl⟩
  have hnb:(n:Int)≤65536:=by omega
  have Hn:=Lib.hid en
  rw[←en] at hc2
  clear en hle
  go_enter Tryz.func84,Tryz.ntmps84
  go_wp2_with fail
  refine HS.out.mono ?_
  rintro e w' ⟨rfl,rfl⟩
  go_wp2_with fail
  go_loopw [13] (fun i wr=>∃ j:Nat,j≤n∧i=.int .i64 j∧(∀ i,i<j→l.getD i 0=0)∧wr=w') (fun i _=>n-(intOf i).toNat)
  case atStart=>exact⟨0,Nat.zero_le _,rfl,fun i hi=>absurd hi (by omega),rfl⟩
  case round =>
   obtain⟨j,hj,rfl,hz,hwr⟩:=hrel
   subst hwr
   have HZ:=Lib.hid hz
   clear hz
   by_cases hjn:j<n
   ·have hj0:(0:Int)≤(j:Int):=by omega
    have hj1:(j:Int)<(n:Int):=by omega
    have hjb:(j:Int)<65536:=by omega
    have hjl:j<l.length:=by rw[←Hn.out];exact hjn
    obtain⟨b,o,hp,hby⟩:∃ b o,p=some ⟨b,o,none⟩∧BytesAt wr b o l:=by
     rcases HB.out with rfl | h
     ·simp at hjl
     ·exact h
    subst hp
    have hcj:=hby.2 j hjl
    have HJ:=Lib.hid hjl
    obtain⟨x,ex⟩:∃ x,x=l.getD j 0:=⟨_,rfl⟩
    rw[←ex] at hcj
    have Ex:=Lib.hid ex
    clear hby hjl ex
    by_cases hx:x=0
    ·subst hx
     go_wp2_with fail
     go_roundw
     case rel=>exact⟨j+1,by omega,by go_num,fun i hi=>by
      by_cases e:i=j
      ·subst e;exact Ex.out.symm
      ·exact HZ.out i (by omega),by first | trivial | rfl⟩
     case measure=>simp[intOf];omega
    ·have hx':((x:Int) != 0)=true:=by simpa using hx
     have HF:=Lib.hid (done_not l j HJ.out (by rw[←Ex.out];exact hx))
     clear hx
     go_wp2_with fail
     go_ret
     exact⟨by rw[HF.out];rfl,rfl⟩
   ·obtain rfl:j=n:=by omega
    have HF:=Lib.hid (done_zero l j HZ.out (by rw[←Hn.out];exact Nat.le_refl _))
    go_wp2_with fail
    go_ret
    exact⟨by rw[HF.out];rfl,rfl⟩
 ·have hs:doneS (er,l)=false:=by unfold doneS;simp[her]
  rw[hs]
  exact rdDone_stop _ er her w HS.out
end Go.Proofs.YtddmjddlbhdcpaaGreatDoor

namespace Go.Proofs.YtddmjddlbhdcpaaGreatDoor
open Go.RowKit Go.Hold Go.Sh Go.Oc
theorem rnum_ok {W0 w:World} {g:Nat} {bb:Option Nat} {l:List Nat} (h:Rd w g bb (0,l)) (hl:∀ i,l.getD i 0<256) (hg:W0.heap.size≤g) (hb:Below W0.heap.size W0 w) (sz:Nat) (h1:1≤sz) (h8:sz≤8) (hr:sz≤l.length) :
  Calls Tryz.prog 82 #[.pointer (some ⟨g,0,none⟩),.int .i64 (sz:Int)] w fun e w'=>e=.returned (.tuple #[.int .u64 (joinN (l.take sz):Int),.int .i64 0])∧Rd w' g bb (0,l.drop sz)∧Below W0.heap.size W0 w':=by
 refine(rdNum_c g bb (0,l) (sz:Int) w h hl).mono ?_
 rintro e w' ⟨rfl,h2,hm⟩
 rw[rnumS_ok h1 h8 hr] at h2 ⊢
 rw[rnumV_ok h1 h8 hr]
 exact⟨rfl,h2,hm.below hb hb.size hg (fun _ e=>by cases e)⟩
theorem rbytes_ok {W0 w:World} {g:Nat} {bb:Option Nat} {l:List Nat} (h:Rd w g bb (0,l)) (hg:W0.heap.size≤g) (hb:Below W0.heap.size W0 w) (n:Nat) (hr:n≤l.length) :
  Calls Tryz.prog 83 #[.pointer (some ⟨g,0,none⟩),.int .i64 (n:Int)] w fun e w'=>∃ v,e=.returned (.tuple #[v,.int .i64 0])∧OwnB w' w.heap.size v (l.take n)∧Rd w' g bb (0,l.drop n)∧Below W0.heap.size W0 w':=by
 refine(rdBytes_c g bb (0,l) (n:Int) w h).mono ?_
 rintro e w' ⟨v,rfl,ho,h2,hm⟩
 rw[rbytS_ok hr] at h2 ⊢
 rw[rbytV_ok hr] at ho
 exact⟨v,rfl,ho,h2,hm.below hb hb.size hg (fun _ e=>by cases e)⟩
theorem rdone_ok {w:World} {g:Nat} {bb:Option Nat} {l:List Nat} (h:Rd w g bb (0,l)) :
  Calls Tryz.prog 84 #[.pointer (some ⟨g,0,none⟩)] w fun e w'=>e=.returned (.bool (l.all (· == 0)))∧w'=w:=by
 refine(rdDone_c g bb (0,l) w h).mono ?_
 rintro e w' ⟨rfl,hw⟩
 exact⟨by simp[doneS],hw⟩
end Go.Proofs.YtddmjddlbhdcpaaGreatDoor

namespace Go.Cm
open Go Go.Sh Go.Oc
theorem join_1 {l:List Nat} (h:1≤l.length):joinN (l.take 1)=l.getD 0 0:=by
 match l,h with
 | x::_,_=>simp[joinN]
theorem join_2 {l:List Nat} (h:2≤l.length):joinN (l.take 2)=l.getD 0 0*256+l.getD 1 0:=by
 match l,h with
 | x::y::_,_=>simp[joinN]
theorem getD_drop (l:List Nat) (i j:Nat):(l.drop i).getD j 0=l.getD (i+j) 0:=by simp[List.getD,List.getElem?_drop]
end Go.Cm
namespace Go.Proofs.YtddmjddlbhdcpaaGreatDoor
open Go.RowKit Go.Hold Go.Sh Go.Oc Go.Cm
theorem setL_id (c:Cmd) (hc:c.id.length=8) (m:List Nat) (hm:m.length=8):setL (cmdA c) 3 (bys m)=cmdA ⟨c.k,c.n,c.d,m⟩:=by
 apply Array.ext_getElem?
 intro i
 rw[setL_get,bys_length,hm,cmdA_size hc]
 by_cases h:3≤i∧i<3+8∧i<11
 ·rw[if_pos h]
  obtain⟨j,rfl⟩:∃ j,i=3+j:=⟨i-3,by omega⟩
  rw[cmdA_get ⟨c.k,c.n,c.d,m⟩ j (by simp only[hm];omega),Nat.add_sub_cancel_left]
  simp only[bys,List.getElem?_map,List.getD]
  rw[List.getElem?_eq_getElem (by omega)];rfl
 ·rw[if_neg h]
  by_cases h3:i<3
  ·match i,h3 with
   | 0,_=>rw[cmdA_0,cmdA_0]
   | 1,_=>rw[cmdA_1,cmdA_1]
   | 2,_=>rw[cmdA_2,cmdA_2]
  ·rw[Array.getElem?_eq_none (by rw[cmdA_size hc];omega),Array.getElem?_eq_none (by rw[cmdA_size (c:=⟨c.k,c.n,c.d,m⟩) hm];omega)]
theorem copy_id {W:World} {g cap:Nat} {p:Option Addr} {c:Cmd} {m:List Nat} (h:RowAt W g (cmdA c)) (hc:c.id.length=8) (hm:m.length=8) (hB:Bs0 W p m) :
  (Builtin.copy_ #[38,38] 3 #[.slice (some ⟨g,3,none⟩) 8 8,.slice p 8 cap]).run Tryz.prog W=.ok (.int .i64 8) (W.setRow g (cmdA ⟨c.k,c.n,c.d,m⟩)):=by
 rcases hB with rfl | ⟨b,o,rfl,hB⟩
 ·cases hm
 ·have hl:(bys m).length=8:=by rw[bys_length];exact hm
  have hi:(Tryz.prog.info? 5).map (·.size)=some 1:=by kernel_rfl
  have:=run_copy_cells (P:=Tryz.prog) W 38 38 3 5 g 3 8 8 ⟨b,o,none⟩ 8 cap (bys m) Tryz.underlying38 hi (by rw[hl];decide)
   (fun j v hv=>by
    have hj:j<8:=by have:=(List.getElem?_eq_some_iff.1 hv).1;omega
    rw[Addr.add_mid,hB.2 j (by omega),←hv]
    simp only[bys,List.getElem?_map,List.getD]
    rw[List.getElem?_eq_getElem (by omega)];rfl)
   (fun j hj=>by rw[h.cellAt (3+j) (Array.getElem?_eq_getElem (by rw[cmdA_size hc];omega))];rfl)
   (fun j _=>h.frozenAt _) (bys_one _)
  rw[this,hl,setCells_row _ _ h,setL_id c hc m hm]
  rfl
set_option maxHeartbeats 1000000 in
set_option maxRecDepth 100000 in
theorem decode_c (b:List Nat) (hb:b.length=16) (hbb:∀ i,b.getD i 0<256) (w:World) :
  Calls Tryz.prog 47 #[.agg (bysA b)] w fun e w'=>e=.returned (.tuple #[.agg (cmdA (decV b)),.int .i64 (decE b)])∧Below w.heap.size w w':=by
 have hzs:(cmdA .zero).size=11:=cmdA_size rfl
 obtain⟨x0,e0⟩:∃ x,x=b.getD 0 0:=⟨_,rfl⟩
 obtain⟨x1,e1⟩:∃ x,x=b.getD 1 0:=⟨_,rfl⟩
 obtain⟨x2,e2⟩:∃ x,x=b.getD 2 0*256+b.getD 3 0:=⟨_,rfl⟩
 obtain⟨m,em⟩:∃ m,m=(b.drop 4).take 8:=⟨_,rfl⟩
 obtain⟨dn,ed⟩:∃ d,d=(b.drop 12).all (· == 0):=⟨_,rfl⟩
 have hml:m.length=8:=by rw[em];simp[hb]
 have hC:ofB b=⟨x0,x1,x2,m⟩:=by rw[e0,e1,e2,em];rfl
 have hO:okB b=(dn && (Cmd.mk x0 x1 x2 m).may):=by unfold okB;rw[hC,ed]
 have l0:x0<256:=by rw[e0];exact hbb 0
 have l1:x1<256:=by rw[e1];exact hbb 1
 have l2:x2<65536:=by rw[e2];have:=hbb 2;have:=hbb 3;omega
 have HJ0:=Lib.hid (show joinN (b.take 1)=x0 by rw[join_1 (by omega),←e0])
 have HJ1:=Lib.hid (show joinN ((b.drop 1).take 1)=x1 by rw[join_1 (by simp;omega),getD_drop,←e1])
 have HJ2:=Lib.hid (show joinN (((b.drop 1).drop 1).take 2)=x2 by rw[join_2 (by simp;omega),List.drop_drop,getD_drop,getD_drop,←e2])
 have HJ3:=Lib.hid (show ((((b.drop 1).drop 1).drop 2).take 8)=m by rw[List.drop_drop,List.drop_drop,em])
 have HJ4:=Lib.hid (show (((((b.drop 1).drop 1).drop 2).drop 8).all (· == 0))=dn by rw[List.drop_drop,List.drop_drop,List.drop_drop,ed])
 have u0:IntKind.i64.wrap (x0:Int)=(x0:Int):=IntWalk.i64_in _ (by omega)
 have u1:IntKind.i64.wrap (x1:Int)=(x1:Int):=IntWalk.i64_in _ (by omega)
 have u2:IntKind.i64.wrap (x2:Int)=(x2:Int):=IntWalk.i64_in _ (by omega)
 have Hb:=Lib.hid hb
 have Hbb:=Lib.hid hbb
 have hbs:(bysA b).size=16:=by rw[bysA_size];exact hb
 have hcz:(cmdA ⟨x0,x1,x2,zs 8⟩).size=11:=cmdA_size rfl
 have hcm:(cmdA ⟨x0,x1,x2,m⟩).size=11:=cmdA_size hml
 have KM:=Lib.hid (fun (W:World)=>may_c ⟨x0,x1,x2,m⟩ hml W)
 have Hml:=Lib.hid hml
 have HD:=Lib.hid (show decV b=(if okB b then ⟨x0,x1,x2,m⟩ else .zero) by unfold decV;rw[hC])
 have HE:=Lib.hid (show decE b=(if okB b then 0 else 5) from rfl)
 rw[hO] at HD HE
 obtain⟨mb,emb⟩:∃ mb,mb=(Cmd.mk x0 x1 x2 m).may:=⟨_,rfl⟩
 rw[←emb] at HD HE KM
 rw[HD.out,HE.out]
 clear HD HE hO hC emb e0 e1 e2 em ed l0 l1 l2 hml hb hbb
 go_enter Tryz.func47,Tryz.ntmps47
 go_wp2_with fail
 generalize hW:World.alloc _ _=W0
 have R0:=Lib.hid (show RowAt W0 w.heap.size (bysA b) by rw[←hW];clear hW;exact⟨by go_simp,by go_simp,by go_simp⟩)
 have T0:=Lib.hid (show RowAt W0 (w.heap.size+1) (cmdA .zero) by rw[←hW];clear hW;exact⟨by go_simp,by go_simp;rfl,by go_simp⟩)
 have B0:=Lib.hid (show Below w.heap.size w W0 by rw[←hW];repeat (first | apply below_alloc | exact Below.refl _ _))
 have hz1:w.heap.size≤w.heap.size+1:=by omega
 clear hW
 generalize w.heap.size+1=t at *
 obtain⟨z,ez⟩:∃ z,z=w.heap.size:=⟨_,rfl⟩
 rw[←ez] at R0 hz1 ⊢
 have Ez:=Lib.hid ez
 clear ez
 refine(newReader_c (some ⟨z,0,none⟩) b 16 16 W0 Hb.out.symm (by rw[Hb.out];decide) (Bs0.some (bytes_row R0.out)) (fun h=>by cases h)).mono ?_
 rintro e w1 ⟨g,bb,rfl,hr1,hg1,_,hb1⟩
 have X1:=Lib.hid hr1
 have Y1:=Lib.hid hb1
 have G1:=Lib.hid hg1
 clear hr1 hb1 hg1 R0
 go_wp2_with fail
 refine(rnum_ok X1.out Hbb.out G1.out Y1.out 1 (by decide) (by decide) (by rw[Hb.out];decide)).mono ?_
 rintro e w2 ⟨rfl,hr2,hb2⟩
 rw[HJ0.out]
 have X2:=Lib.hid hr2
 have Y2:=Lib.hid hb2
 clear hr2 hb2 X1 Y1
 go_wp2_with fail
 refine(rnum_ok X2.out (bts_drop Hbb.out 1) G1.out Y2.out 1 (by decide) (by decide) (by simp[Hb.out])).mono ?_
 rintro e w3 ⟨rfl,hr3,hb3⟩
 rw[HJ1.out]
 have X3:=Lib.hid hr3
 have Y3:=Lib.hid hb3
 clear hr3 hb3 X2 Y2
 go_wp2_with fail
 refine(rnum_ok X3.out (bts_drop (bts_drop Hbb.out 1) 1) G1.out Y3.out 2 (by decide) (by decide) (by simp[Hb.out])).mono ?_
 rintro e w4 ⟨rfl,hr4,hb4⟩
 rw[HJ2.out]
 have X4:=Lib.hid hr4
 have Y4:=Lib.hid hb4
 clear hr4 hb4 X3 Y3
 go_wp2_with fail
 refine(rbytes_ok X4.out G1.out Y4.out 8 (by simp[Hb.out])).mono ?_
 rintro e w5 ⟨v,rfl,ho,hr5,hb5⟩
 rw[HJ3.out] at ho
 obtain⟨p,q,rfl,hs5,_,_⟩:=ho.bs
 rw[Hml.out]
 have X5:=Lib.hid hr5
 have Y5:=Lib.hid hb5
 have S5:=Lib.hid hs5
 clear ho hs5 hr5 hb5 X4 Y4 HJ0 HJ1 HJ2 HJ3
 go_wp2_with fail
 generalize hW:World.alloc _ _=W6
 have hbA:Below w5.heap.size w5 W6:=by rw[←hW];exact below_alloc (Below.refl _ _) _
 have C6:=Lib.hid (show RowAt W6 w5.heap.size (cmdA ⟨x0,x1,x2,zs 8⟩) by rw[←hW];clear hW;exact⟨by go_simp,by go_simp,by go_simp⟩)
 have S6:=Lib.hid (S5.out.grow hbA)
 have X6:=Lib.hid (X5.out.grow hbA)
 have T6:=Lib.hid ((T0.out.keep Y5.out T0.out.2.2).grow hbA)
 have B6:=Lib.hid ((B0.out.trans (Y5.out.mono B0.out.size)).trans (hbA.mono (Nat.le_trans B0.out.size Y5.out.size)))
 have hne:t≠w5.heap.size:=by have:=T0.out.2.2;have:=Y5.out.size;omega
 have hle:w.heap.size≤w5.heap.size:=Nat.le_trans B0.out.size Y5.out.size
 have hng:g≠w5.heap.size:=by have:=X5.out.lt.1;omega
 have hnb:bb≠some w5.heap.size:=fun e=>by have:=X5.out.lt.2 _ e;omega
 clear hW hbA S5 X5 T0 B0 Y5 G1
 generalize w5.heap.size=gc at *
 have hcp:=copy_id (cap:=q) C6.out rfl Hml.out S6.out
 have C7:=Lib.hid (C6.out.set (cmdA ⟨x0,x1,x2,m⟩))
 have T7:=Lib.hid (T6.out.other hne (cmdA ⟨x0,x1,x2,m⟩))
 have B7:=Lib.hid (below_setRow B6.out hle (cmdA ⟨x0,x1,x2,m⟩))
 have X7:=Lib.hid (X6.out.moves (Moves.setRow (Moves.refl W6 gc none) (cmdA ⟨x0,x1,x2,m⟩)) hng (fun e=>by cases e) hnb (fun _ _ e=>by cases e))
 rw[hcp]
 clear hcp
 generalize W6.setRow gc (cmdA ⟨x0,x1,x2,m⟩)=W7 at *
 clear C6 S6 X6 T6 B6 hng hnb
 obtain⟨c1,c2,c3⟩:=C7.out
 obtain⟨t1,t2,t3⟩:=T7.out
 go_simp
 go_wp2_with fail
 refine(rdone_ok X7.out).mono ?_
 rintro e w' ⟨rfl,rfl⟩
 rw[HJ4.out]
 cases dn
 ·go_wp2_with fail
  refine bodyPost_ret (v:=.tuple #[.agg (cmdA .zero),.int .i64 5]) (results_cmd Tryz.results47 .zero rfl _ _ _ t rfl (by go_simp) (by go_simp) rfl) rfl ⟨rfl,?_⟩
  exact below_setRow B7.out (by rw[←Ez.out];exact hz1) _
 go_wp2_with fail
 refine(KM.out w').mono ?_
 rintro e W8 ⟨rfl,hb8⟩
 have C8:=Lib.hid (C7.out.grow hb8)
 have T8:=Lib.hid (T7.out.grow hb8)
 have B8:=Lib.hid (B7.out.trans (hb8.mono B7.out.size))
 clear hb8 C7 T7 B7 X7 c1 c2 c3 t1 t2 t3
 obtain⟨c1,c2,c3⟩:=C8.out
 obtain⟨t1,t2,t3⟩:=T8.out
 cases mb
 ·go_wp2_with fail
  refine bodyPost_ret (v:=.tuple #[.agg (cmdA .zero),.int .i64 5]) (results_cmd Tryz.results47 .zero rfl _ _ _ t rfl (by go_simp) (by go_simp) rfl) rfl ⟨rfl,?_⟩
  exact below_setRow B8.out (by rw[←Ez.out];exact hz1) _
 go_wp2_with fail
 refine bodyPost_ret (v:=.tuple #[.agg (cmdA ⟨x0,x1,x2,m⟩),.int .i64 0]) (results_cmd Tryz.results47 ⟨x0,x1,x2,m⟩ Hml.out _ _ _ t rfl (by go_simp) (by go_simp) rfl) rfl ⟨rfl,?_⟩
 exact below_setRow B8.out (by rw[←Ez.out];exact hz1) _
end Go.Proofs.YtddmjddlbhdcpaaGreatDoor
