/-
  Part 8 of the texts behind the theorem.
-/
import Derived.Test.YtddmjddlbhdcpaaGreatDoorPart7
import Derived.Test.YtddmjddlbhdcpaaGreatDoorPart6
import Derived.Lib.ConvBytes
import Derived.Laws.BytesString
namespace Go.Proofs.YtddmjddlbhdcpaaGreatDoor
open Go.RowKit Go.Hold Go.Sh
def stL (s:St):List Int:=[s.a,s.b,s.c,s.d,s.e,s.f,s.g,s.h]
theorem stL_A (s:St):wosA (stL s)=stA s:=rfl
theorem SlW.new (w:World) (s:St):SlW (w.alloc (.cells (stA s) 129)) w.heap.size (stL s):=by
 have h:=RowAt.of (block_new w (.cells (stA s) 129))
 exact⟨words_row (by rw[stL_A];exact h),fun i _=>h.frozenAt i⟩
def mixW (s r:St) (k:Nat):List Int:=(List.range 8).map fun j=>if j<k then add32 ((stL r).getD j 0) ((stL s).getD j 0) else (stL r).getD j 0
theorem mixW_length (s r:St) (k:Nat):(mixW s r k).length=8:=by simp[mixW]
theorem mixW_get (s r:St) (k j:Nat) (h:j<8):(mixW s r k).getD j 0=if j<k then add32 ((stL r).getD j 0) ((stL s).getD j 0) else (stL r).getD j 0:=by simp[mixW,List.getD,h]
theorem mixW_set (s r:St) (k:Nat) (h:k<8):(mixW s r k).set k (add32 ((stL r).getD k 0) ((stL s).getD k 0))=mixW s r (k+1):=by
 apply List.ext_getElem?
 intro j
 rw[List.getElem?_set]
 by_cases hj:j<8
 ·have e1:(mixW s r k)[j]?=some (if j<k then add32 ((stL r).getD j 0) ((stL s).getD j 0) else (stL r).getD j 0):=by simp[mixW,hj]
  have e2:(mixW s r (k+1))[j]?=some (if j<k+1 then add32 ((stL r).getD j 0) ((stL s).getD j 0) else (stL r).getD j 0):=by simp[mixW,hj]
  rw[e1,e2]
  by_cases e:k=j
  ·subst e;rw[if_pos rfl,if_pos (by rw[mixW_length];exact h),if_pos (by omega)]
  ·rw[if_neg e]
   by_cases h1:j<k
   ·rw[if_pos h1,if_pos (by omega)]
   ·rw[if_neg h1,if_neg (by omega)]
 ·rw[if_neg (by omega),List.getElem?_eq_none (by rw[mixW_length];omega),List.getElem?_eq_none (by rw[mixW_length];omega)]
theorem mixW_all (s r:St):mixW s r 8=stL (splus s r):=by
 show [add32 r.a s.a,add32 r.b s.b,add32 r.c s.c,add32 r.d s.d,add32 r.e s.e,add32 r.f s.f,add32 r.g s.g,add32 r.h s.h]=_
 rw[add32_comm r.a,add32_comm r.b,add32_comm r.c,add32_comm r.d,add32_comm r.e,add32_comm r.f,add32_comm r.g,add32_comm r.h]
 rfl
set_option maxHeartbeats 4000000 in
set_option maxRecDepth 100000 in
theorem block_c (gh ch b o cap:Nat) (s:St) (C:List Nat) (w:World) (hH:WordsAt w gh (stL s)) (hC:C.length=64) (hCb:∀ i,C.getD i 0<256) (hB:BytesAt w b o C) :
  Calls Tryz.prog 120 #[.slice (some ⟨gh,0,none⟩) 8 ch,.slice (some ⟨b,o,none⟩) 64 cap] w fun e w'=>∃ g c,e=.returned (.slice (some ⟨g,0,none⟩) 8 c)∧WordsAt w' g (stL (scmp s C))∧Below w.heap.size w w':=by
 obtain⟨ie,hi,hz0,hz1,hz2⟩:=info_parts info_u32
 obtain⟨B,eB⟩:∃ B,B=w.heap.size:=⟨_,rfl⟩
 have HH:=Lib.hid hH
 have HC:=Lib.hid (schedule_c b o cap C w hC hCb hB)
 have EB:=Lib.hid eB
 have hBw:B≤w.heap.size:=by omega
 have hghB:gh<B:=by rw[eB];exact hH.1
 rw[←eB] at HC
 clear hH hB hCb eB
 go_enter Tryz.func120,Tryz.ntmps120
 go_wp2_with fail
 refine HC.out.mono ?_
 rintro e W1 ⟨g5,c5,rfl,hw5,hb1⟩
 have H5:=Lib.hid hw5
 have B1:=Lib.hid hb1
 have hs1:=hb1.size
 clear hw5 hb1 HC
 go_wp2_with fail
 refine(constants_c _).mono ?_
 rintro e W2 ⟨g6,rfl,hw6,hb2⟩
 have H5':=Lib.hid (H5.out.grow hb2)
 have H6:=Lib.hid hw6
 have B2:=Lib.hid (B1.out.trans (hb2.mono (by omega)))
 have hs2:=hb2.size
 clear hw6 hb2 H5 B1
 have hsz2:B≤W2.heap.size:=by omega
 have HHW:=Lib.hid (show WordsAt (W2.alloc (.cells #[] 129)) gh (stL s) from ⟨by simp;omega,fun i hi=>by rw[((B2.out.alloc hsz2 (.cells #[] 129))).cell hghB];exact HH.out.2 i hi⟩)
 go_wp2_with (at_builtin;refine wpList_append_own _ rfl _ _ 179 rfl B 129 ie (.int .u32 0) 1 4 Tryz.underlying179 hi hz0 hz1 hz2 rfl (by decide) _ _ _ rfl (ownW_empty W2 B hsz2) ⟨gh,0,none⟩ 8 ch (wos (stL s)) rfl rfl (wos_at HHW.out) (wos_one _) (maxLen_small (by decide)) (by decide) (by simp;omega) ?_)
 intro v3 w3 hown3 hgrow3 _
 have B3:=Lib.hid (grown_below (B2.out.alloc hsz2 _) (ownW_empty W2 B hsz2) (by simp;omega) hgrow3)
 have hO3:OwnW w3 B v3 (stL s):=hown3
 obtain⟨g7,c7,ev7,hg7,hgl7,_⟩:=hO3.addr (k:=8) rfl (by decide)
 subst ev7
 have S7:=Lib.hid (hO3.slw hgl7)
 have hkeep:∀ g l,WordsAt W2 g l→WordsAt w3 g l:=fun g l h=>by
  have hne:g≠W2.heap.size:=by have:=h.1;omega
  have hlt:=h.1
  have h1:(W2.alloc (.cells #[] 129)).heap[g]?=W2.heap[g]?:=block_old _ _ hlt
  have h2:w3.heap[g]?=W2.heap[g]?:=by rw[hgrow3.block g (by simp;omega) (by simp[Value.ownBlock];omega),h1]
  refine⟨by have:=hgrow3.size;simp at this;omega,fun i hi=>?_⟩
  rw[World.cell?_of_block (w:=W2) h2];exact h.2 i hi
 have H5w:=Lib.hid (hkeep _ _ H5'.out)
 have H6w:=Lib.hid (hkeep _ _ H6.out)
 have hsz3:B≤w3.heap.size:=by have:=hgrow3.size;simp at this;omega
 clear hown3 hO3 hgrow3 hkeep HHW H5' H6 B2 hs1 hs2 hsz2
 go_wp2_with fail
 go_loopw [7,8] (fun v t wr=>∃ (k g c:Nat) (r:St),k≤64∧t=.int .i64 k∧r=srnds (sch C) s k∧v=.slice (some ⟨g,0,none⟩) 8 c∧SlW wr g (stL r)∧B≤g∧Below w3.heap.size w3 wr) (fun _ t _=>64-(intOf t).toNat)
 case atStart=>exact⟨0,g7,c7,s,by decide,rfl,rfl,rfl,S7.out,hg7,Below.refl _ _⟩
 case round =>
  obtain⟨k,g,c,r,hk,rfl,hr,rfl,hsl,hgB,hbel⟩:=hrel
  have hkk:(0:Int)≤(k:Int):=by omega
  by_cases hk64:k<64
  ·have hk1:(k:Int)<64:=by omega
   have hgl:=hsl.1.1
   have hc0:wr.cell? ⟨g,0,none⟩=some (.int .u32 r.a):=hsl.1.2 0 (show 0<8 by decide)
   have hc1:wr.cell? ⟨g,1,none⟩=some (.int .u32 r.b):=hsl.1.2 1 (show 1<8 by decide)
   have hc2:wr.cell? ⟨g,2,none⟩=some (.int .u32 r.c):=hsl.1.2 2 (show 2<8 by decide)
   have hc3:wr.cell? ⟨g,3,none⟩=some (.int .u32 r.d):=hsl.1.2 3 (show 3<8 by decide)
   have hc4:wr.cell? ⟨g,4,none⟩=some (.int .u32 r.e):=hsl.1.2 4 (show 4<8 by decide)
   have hc5:wr.cell? ⟨g,5,none⟩=some (.int .u32 r.f):=hsl.1.2 5 (show 5<8 by decide)
   have hc6:wr.cell? ⟨g,6,none⟩=some (.int .u32 r.g):=hsl.1.2 6 (show 6<8 by decide)
   have hc7:wr.cell? ⟨g,7,none⟩=some (.int .u32 r.h):=hsl.1.2 7 (show 7<8 by decide)
   have h5:=H5w.out.grow hbel
   have h6:=H6w.out.grow hbel
   have hl5:=h5.1
   have hl6:=h6.1
   have hcw:=h5.2 k (by rw[sch_length];exact hk64)
   have hck:=h6.2 k (by rw[Ks_length];exact hk64)
   generalize eK:Ks.getD k 0=kk at hck
   generalize eW:(sch C).getD k 0=ww at hcw
   have Hr:=Lib.hid (show srnd r kk ww=srnds (sch C) s (k+1) by rw[hr,←eK,←eW];rfl)
   have Hbel:=Lib.hid hbel
   have hsz:B≤wr.heap.size:=by have:=hbel.size;omega
   clear eK eW hr h5 h6 hsl hbel
   go_wp2_with fail
   refine wp_region_fast (fun w'=>∃ o d,w'=wr.plus o d) (by kernel_rfl) (by kernel_rfl) ⟨#[],_,rfl⟩ ?_
   iterate 8 (refine wpHold_val ⟨_,#[],0,rfl⟩ (wanted_none rfl) (by rintro K _ ⟨o,d,rfl⟩ hK;go_simp;exact hK _ ⟨o,d,rfl⟩) ?_)
   refine wpHold_nil ?_
   rintro _ ⟨o1,n1,rfl⟩
   go_wp2_with fail
   refine wp_region_fast (fun w'=>∃ o d,w'=wr.plus o d) (by kernel_rfl) (by kernel_rfl) ⟨_,_,rfl⟩ ?_
   iterate 4 (refine wpHold_val ⟨_,#[],0,rfl⟩ (wanted_none rfl) (by rintro K _ ⟨o,d,rfl⟩ hK;go_simp;exact hK _ ⟨o,d,rfl⟩) ?_)
   refine wpHold_call (v:=.int .u32 (rotr r.e 6)) (wanted_none rfl) (by rintro K _ ⟨o,d,rfl⟩ hK;go_simp;refine(turn_6 _ _).mono ?_;rintro e w' ⟨rfl,rfl⟩;exact⟨_,rfl,hK _ ⟨o,d,rfl⟩⟩) ?_
   refine wpHold_val ⟨_,#[],0,rfl⟩ (wanted_none rfl) (by rintro K _ ⟨o,d,rfl⟩ hK;go_simp;exact hK _ ⟨o,d,rfl⟩) ?_
   refine wpHold_call (v:=.int .u32 (rotr r.e 11)) (wanted_none rfl) (by rintro K _ ⟨o,d,rfl⟩ hK;go_simp;refine(turn_11 _ _).mono ?_;rintro e w' ⟨rfl,rfl⟩;exact⟨_,rfl,hK _ ⟨o,d,rfl⟩⟩) ?_
   iterate 2 (refine wpHold_val ⟨_,#[],0,rfl⟩ (wanted_none rfl) (by rintro K _ ⟨o,d,rfl⟩ hK;go_simp;exact hK _ ⟨o,d,rfl⟩) ?_)
   refine wpHold_call (v:=.int .u32 (rotr r.e 25)) (wanted_none rfl) (by rintro K _ ⟨o,d,rfl⟩ hK;go_simp;refine(turn_25 _ _).mono ?_;rintro e w' ⟨rfl,rfl⟩;exact⟨_,rfl,hK _ ⟨o,d,rfl⟩⟩) ?_
   iterate 26 (refine wpHold_val ⟨_,#[],0,rfl⟩ (wanted_none rfl) (by rintro K _ ⟨o,d,rfl⟩ hK;go_simp;exact hK _ ⟨o,d,rfl⟩) ?_)
   refine wpHold_nil ?_
   rintro _ ⟨o2,n2,rfl⟩
   generalize e1:add32 (add32 (add32 (add32 r.h (x32 (x32 (rotr r.e 6) (rotr r.e 11)) (rotr r.e 25))) (x32 (a32 r.e r.f) (a32 (n32 r.e) r.g))) kk) ww=t1
   have He1:=Lib.hid (show T1 r kk ww=t1 from e1)
   clear e1
   go_wp2_with fail
   refine wp_region_fast (fun w'=>∃ o d,w'=wr.plus o d) (by kernel_rfl) (by kernel_rfl) ⟨_,_,rfl⟩ ?_
   refine wpHold_val ⟨_,#[],0,rfl⟩ (wanted_none rfl) (by rintro K _ ⟨o,d,rfl⟩ hK;go_simp;exact hK _ ⟨o,d,rfl⟩) ?_
   refine wpHold_call (v:=.int .u32 (rotr r.a 2)) (wanted_none rfl) (by rintro K _ ⟨o,d,rfl⟩ hK;go_simp;refine(turn_2 _ _).mono ?_;rintro e w' ⟨rfl,rfl⟩;exact⟨_,rfl,hK _ ⟨o,d,rfl⟩⟩) ?_
   refine wpHold_val ⟨_,#[],0,rfl⟩ (wanted_none rfl) (by rintro K _ ⟨o,d,rfl⟩ hK;go_simp;exact hK _ ⟨o,d,rfl⟩) ?_
   refine wpHold_call (v:=.int .u32 (rotr r.a 13)) (wanted_none rfl) (by rintro K _ ⟨o,d,rfl⟩ hK;go_simp;refine(turn_13 _ _).mono ?_;rintro e w' ⟨rfl,rfl⟩;exact⟨_,rfl,hK _ ⟨o,d,rfl⟩⟩) ?_
   iterate 2 (refine wpHold_val ⟨_,#[],0,rfl⟩ (wanted_none rfl) (by rintro K _ ⟨o,d,rfl⟩ hK;go_simp;exact hK _ ⟨o,d,rfl⟩) ?_)
   refine wpHold_call (v:=.int .u32 (rotr r.a 22)) (wanted_none rfl) (by rintro K _ ⟨o,d,rfl⟩ hK;go_simp;refine(turn_22 _ _).mono ?_;rintro e w' ⟨rfl,rfl⟩;exact⟨_,rfl,hK _ ⟨o,d,rfl⟩⟩) ?_
   iterate 22 (refine wpHold_val ⟨_,#[],0,rfl⟩ (wanted_none rfl) (by rintro K _ ⟨o,d,rfl⟩ hK;go_simp;exact hK _ ⟨o,d,rfl⟩) ?_)
   refine wpHold_nil ?_
   rintro _ ⟨o3,n3,rfl⟩
   generalize e2:add32 (x32 (x32 (rotr r.a 2) (rotr r.a 13)) (rotr r.a 22)) (x32 (x32 (a32 r.a r.b) (a32 r.a r.c)) (a32 r.b r.c))=t2
   have He2:=Lib.hid (show T2 r=t2 from e2)
   clear e2
   go_wp2_with fail
   refine wp_region_pick wr [0,1,2,3,4,5,6,7,8,9,10,11,12,13,14,15,16,17,18,19,20,21,22,23,24,25] [false,false,false,false,false,false,false,false,false,false,false,false,false,false,false,false,false,false,false,false,false,false,false,false,false,false] [] [] 26 (by kernel_rfl) rfl (by kernel_rfl) (by intro c a d v w h;cases d<;>exact h) ((below_more (Below.refl _ _) _ _).drew) ?_
   simp only[pick,List.getElem?_cons_succ,List.getElem?_cons_zero,List.drop_succ_cons,List.drop_zero]
   iterate 26 (refine wpHoldF_val (wanted_none rfl) (by intro K o d hK;go_simp;exact hK _ (Below.refl _ _)) ?_)
   refine wpHoldF_nil ?_
   intro w2 hb2 _
   have eR:srnd r kk ww=⟨add32 t1 t2,r.a,r.b,r.c,add32 r.d t1,r.e,r.f,r.g⟩:=by unfold srnd;rw[He1.out,He2.out]
   have HS2:=Lib.hid (show SlW (w2.alloc (.cells (stA ⟨add32 t1 t2,r.a,r.b,r.c,add32 r.d t1,r.e,r.f,r.g⟩) 129)) w2.heap.size (stL (srnd r kk ww)) by rw[eR];exact SlW.new w2 _)
   clear eR
   have HB2:=Lib.hid ((Hbel.out.trans (hb2.mono Hbel.out.size)).alloc (by have:=Hbel.out.size;have:=hb2.size;omega) (.cells (stA ⟨add32 t1 t2,r.a,r.b,r.c,add32 r.d t1,r.e,r.f,r.g⟩) 129))
   have hBw2:B≤w2.heap.size:=by have:=hb2.size;omega
   clear hb2
   go_wp2_with fail
   go_roundw
   case rel =>
    first
    | exact⟨k+1,_,_,srnd r kk ww,by omega,by go_num,Hr.out,rfl,HS2.out,hBw2,HB2.out⟩
    | exact⟨_,_,_,_,_,_,_,_,_,_,_,_,_,_,_,_,_,_,_,_,_,_,_,_,_,_,_,_,_,_,_,_,_,_,_,_,_,_,_,_,_,_,_,_,_,_,_,_,_,_,_,_,_,_,_,_,_,_,_,_,_,_,_,_,_,_,_,_,_,_,_,_,_,_,_,_,_,_,_,_,_,_,_,_,_,_,_,_,_,_,_,_,_,_,_,_,_,_,_,_,_,_,_,_,_,_,⟨k+1,_,_,srnd r kk ww,by omega,by go_num,Hr.out,rfl,HS2.out,hBw2,HB2.out⟩,rfl⟩
   case measure=>simp[intOf];omega
  ·obtain rfl:k=64:=by omega
   have Hr:=Lib.hid hr
   have S8:=Lib.hid hsl
   have hgl:=hsl.1.1
   have B4:=Lib.hid (B3.out.trans (hbel.mono hsz3))
   have hsz:B≤wr.heap.size:=by have:=hbel.size;omega
   clear hr hsl hbel
   go_wp2_with fail
   obtain⟨W4,eW4⟩:∃ x,x=wr:=⟨_,rfl⟩
   rw[←eW4] at S8 B4 hgl hsz ⊢
   clear eW4
   go_loopw [13] (fun i wr=>∃ k:Nat,k≤8∧i=.int .i64 k∧SlW wr g (mixW s r k)∧Below B w wr∧B≤wr.heap.size) (fun i _=>8-(intOf i).toNat)
   case atStart=>exact⟨0,by decide,rfl,S8.out,B4.out,hsz⟩
   case round =>
    obtain⟨k,hk,rfl,hsl,hbel,hsz⟩:=hrel
    have hkk:(0:Int)≤(k:Int):=by omega
    by_cases hk8:k<8
    ·have hk1:(k:Int)<8:=by omega
     have hgl:=hsl.1.1
     have hca:=hsl.1.2 k (by rw[mixW_length];exact hk8)
     rw[mixW_get _ _ _ _ hk8,if_neg (by omega)] at hca
     have hcb:wr.cell? ⟨gh,k,none⟩=some (.int .u32 ((stL s).getD k 0)):=by rw[hbel.cell hghB];exact HH.out.2 k hk8
     have hghl:gh<wr.heap.size:=by omega
     have Hset:=Lib.hid (mixW_set s r k hk8)
     generalize (stL r).getD k 0=xr at hca Hset
     generalize (stL s).getD k 0=xs at hcb Hset
     have HS:=Lib.hid hsl
     have Hbel:=Lib.hid hbel
     clear hsl hbel
     go_wp2_with fail
     refine wp_region_pick wr [0,1,2,3,4,5,6,7,8,9,10,11] [false,false,false,false,false,false,false,false,false,false,false,false] [] [] 12 (by kernel_rfl) rfl (by kernel_rfl) (by intro c a d v w h;cases d<;>exact h) ((Below.refl _ _).drew) ?_
     simp only[pick,List.getElem?_cons_succ,List.getElem?_cons_zero,List.drop_succ_cons,List.drop_zero]
     iterate 12 (refine wpHoldF_val (wanted_none rfl) (by intro K o d hK;go_simp;exact hK _ (Below.refl _ _)) ?_)
     refine wpHoldF_nil ?_
     intro w2 hb2 _
     have HS2:=Lib.hid (HS.out.grow hb2)
     have hcc:w2.cell? ⟨g,k,none⟩=some (.int .u32 xr):=by rw[hb2.cell hgl];exact hca
     have hff:=HS2.out.2 k (by rw[mixW_length];exact hk8)
     have HB2:=Lib.hid (Hbel.out.trans (hb2.mono hsz))
     have hsz2:B≤w2.heap.size:=by have:=hb2.size;omega
     clear hb2 hca hcb
     go_wp2_with fail
     go_roundw
     case rel =>
      have h1:=HS2.out.set (i:=k) (x:=add32 xr xs) (by rw[mixW_length];exact hk8)
      rw[Hset.out] at h1
      exact⟨_,_,_,_,_,_,_,_,_,_,_,_,_,_,_,_,_,⟨k+1,by omega,by go_num,h1,HB2.out.setCell (p:=⟨_,_,none⟩) hgB _,by rw[World.size_setCell];exact hsz2⟩,rfl⟩
     case measure=>simp[intOf];omega
    ·obtain rfl:k=8:=by omega
     rw[mixW_all] at hsl
     have HS:=Lib.hid hsl
     have Hbel:=Lib.hid hbel
     clear hsl hbel
     go_wp2_with fail
     go_ret
     exact⟨_,_,rfl,by have h:=HS.out.1;rw[Hr.out] at h;exact h,by rw[←EB.out];exact Hbel.out⟩
end Go.Proofs.YtddmjddlbhdcpaaGreatDoor

namespace Go.Proofs.YtddmjddlbhdcpaaGreatDoor
open Go.RowKit Go.Hold Go.Sh
theorem slB_lh (b o len cap lo hi:Nat) (h:lo≤hi) (h':hi≤cap) (w:World):(slB (.slice (some ⟨b,o,none⟩) len cap) (some (.int .i64 (lo:Int))) (some (.int .i64 (hi:Int))) none).run Tryz.prog w=.ok (.slice (some ⟨b,adv o lo cap,none⟩) (hi-lo) (cap-lo)) w:=by
 unfold slB
 rw[run_sliceAt_slice _ _ _ _ _ _ elem8,run_slice_lh _ _ _ _ _ elem8 _ _ _ _ (by omega) (by omega) (by omega),size8]
 unfold adv
 by_cases e:cap=lo
 ·simp[sliced,Result.andThen,e]
 ·simp[sliced,Result.andThen,e,Addr.add_mid]
theorem pad_bts {l:List Nat} (h:∀ i,l.getD i 0<256):∀ i,(pad l).getD i 0<256:=by
 unfold pad
 refine bts_app (bts_app h (getD_lt fun x hx=>?_)) (bts_len8 _)
 rcases List.mem_cons.1 hx with rfl | hx
 ·decide
 ·exact mem_lt (bts_zs _) x hx
theorem BytesAt.mid {w:World} {b o:Nat} {l:List Nat} (h:BytesAt w b o l) (n k:Nat):BytesAt w b (o+n) ((l.drop n).take k):=by
 refine⟨h.1,fun i hi=>?_⟩
 rw[List.length_take,List.length_drop] at hi
 rw[Nat.add_assoc,h.2 (n+i) (by omega)]
 simp[List.getD,List.getElem?_drop,show i<k by omega]
theorem WordsAt.word {w:World} {g:Nat} {s:St} (h:WordsAt w g (stL s)) (j:Nat) (hj:j<8):w.cell? ⟨g,j,none⟩=some (.int .u32 (sWord s j)):=by
 rw[h.2 j hj]
 have:j=0∨j=1∨j=2∨j=3∨j=4∨j=5∨j=6∨j=7:=by omega
 rcases this with rfl | rfl | rfl | rfl | rfl | rfl | rfl | rfl<;>rfl
set_option maxHeartbeats 1000000 in
set_option maxRecDepth 100000 in
theorem rsum_c (cap:Nat) (p:Option Addr) (l:List Nat) (w:World) (hl:l.length≤100000) (hlb:∀ i,l.getD i 0<256) (hB:Bs0 w p l) (hpc:p=none→cap=0) :
  Calls Tryz.prog 94 #[.slice p l.length cap] w fun e w'=>e=.returned (.agg (keA (dig l)))∧Below w.heap.size w w':=by
 have HB:=Lib.hid hB
 have Hpl:=Lib.hid (pad_length l)
 have Hpb:=Lib.hid (pad_bts hlb)
 have hpl:(pad l).length≤200000:=by rw[Hpl.out];omega
 obtain⟨N,eN⟩:∃ N,N=(pad l).length:=⟨_,rfl⟩
 obtain⟨M,eM⟩:∃ M,M=(l.length+72)/64:=⟨_,rfl⟩
 have hNM:N=64*M:=by rw[eN,eM];exact Hpl.out
 rw[←eN] at hpl
 have EN:=Lib.hid eN
 have HP:=Lib.hid (fun ob=>padded_c cap p l (w.alloc ob) hl (hB.grow (below_alloc (Below.refl _ _) _)) hpc)
 have hrun:dig l=hruns st0 (pad l) M:=by unfold dig hrun;rw[←eN,hNM,show 64*M/64=M by omega]
 obtain⟨D,eD⟩:∃ D,D=dig l:=⟨_,rfl⟩
 rw[←eD] at hrun ⊢
 have Hrun:=Lib.hid hrun
 have HNM:=Lib.hid hNM
 clear hB hrun eM eN hNM eD
 obtain⟨n,en⟩:∃ n,n=l.length:=⟨_,rfl⟩
 rw[←en] at HP ⊢
 clear en hl
 go_enter Tryz.func94,Tryz.ntmps94
 go_wp2_with fail
 refine(HP.out _).mono ?_
 rintro e W1 ⟨g,c,rfl,hby,hcap,hb1⟩
 have hR1:=Lib.hid (show RowAt W1 w.heap.size (byI (keyZ st0 0)) from RowAt.grow (RowAt.of (block_new w _)) hb1)
 have B1:=Lib.hid ((below_alloc (Below.refl w.heap.size w) _).trans (hb1.mono (by simp)))
 have HY1:=Lib.hid hby
 rw[←EN.out] at hcap ⊢
 clear hby hb1 HP
 go_wp2_with fail
 refine(first_c _).mono ?_
 rintro e W2 ⟨g4,rfl,hrow4,_,hb2⟩
 have hR2:=Lib.hid (hR1.out.grow hb2)
 have B2:=Lib.hid (B1.out.trans (hb2.mono B1.out.size))
 have HY2:=Lib.hid (HY1.out.grow hb2)
 have HW2:=Lib.hid (show WordsAt W2 g4 (stL st0) from words_row hrow4)
 clear hrow4 hb2 hR1 B1 HY1
 go_wp2_with fail
 go_loopw [4,5] (fun v t wr=>∃ j g4 c4 i:Nat,j≤M∧i=64*j∧t=.int .i64 i∧v=.slice (some ⟨g4,0,none⟩) 8 c4∧WordsAt wr g4 (stL (hruns st0 (pad l) j))∧Below W2.heap.size W2 wr) (fun _ t _=>N-(intOf t).toNat)
 case atStart=>exact⟨0,g4,8,0,Nat.zero_le _,rfl,rfl,rfl,HW2.out,Below.refl _ _⟩
 case round =>
  obtain⟨j,g4,c4,i,hj,hij,rfl,rfl,hwd,hbel⟩:=hrel
  have hi0:(0:Int)≤(i:Int):=by omega
  have hNM:=HNM.out
  by_cases hjM:j<M
  ·have hlt:(i:Int)<(N:Int):=by omega
   obtain⟨i2,ei2⟩:∃ y,y=i+64:=⟨_,rfl⟩
   have hw1:IntKind.i64.wrap ((i:Int)+64)=(i2:Int):=by rw[IntWalk.i64_in _ (by omega)];omega
   have hsl:=slB_lh g 0 N c i i2 (by omega) (by omega)
   rw[show i2-i=64 by omega] at hsl
   have hY:=HY2.out.grow hbel
   have hadv:adv 0 i c=i:=by unfold adv;rw[if_neg (by omega),Nat.zero_add]
   rw[hadv] at hsl
   obtain⟨c6,ec6⟩:∃ y,y=c-i:=⟨_,rfl⟩
   rw[←ec6] at hsl
   have HBl:=Lib.hid (block_c g4 c4 g i c6 (hruns st0 (pad l) j) (((pad l).drop (64*j)).take 64) wr hwd (by rw[List.length_take,List.length_drop,←EN.out];omega) (bts_take (bts_drop Hpb.out _) _) (by have h:=hY.mid (64*j) 64;rw[←hij,Nat.zero_add] at h;rw[←hij];exact h))
   have Hbel:=Lib.hid hbel
   have Hij:=Lib.hid hij
   have Hi2:=Lib.hid ei2
   clear hwd hbel hY hadv ec6 hij ei2 hNM
   go_wp2_with fail
   refine HBl.out.mono ?_
   rintro e W5 ⟨g5,c5,rfl,hwd5,hb5⟩
   have HW5:=Lib.hid (show WordsAt W5 g5 (stL (hruns st0 (pad l) (j+1))) from hwd5)
   have HB5:=Lib.hid (Hbel.out.trans (hb5.mono Hbel.out.size))
   clear hwd5 hb5 HBl
   go_wp2_with fail
   go_roundw
   case rel=>exact⟨j+1,g5,c5,i2,by omega,by have:=Hij.out;have:=Hi2.out;omega,rfl,rfl,HW5.out,HB5.out⟩
   case measure=>have:=Hi2.out;have:=HNM.out;have:=Hij.out;simp[intOf];omega
  ·obtain rfl:j=M:=by omega
   have hlt:¬(i:Int)<(N:Int):=by omega
   have HW:=Lib.hid hwd
   have hR3:=Lib.hid (hR2.out.grow hbel)
   have B3:=Lib.hid (B2.out.trans (hbel.mono B2.out.size))
   rw[←Hrun.out] at HW
   have hsb:=B3.out.size
   clear hwd hbel hNM hij
   go_wp2_with fail
   generalize hW:World.alloc _ _=W6
   have K6:=Lib.hid (show RowAt W6 wr.heap.size (byI (keyZ D 0)) by rw[←hW];clear hW;exact⟨by go_simp,by go_simp;rfl,by go_simp⟩)
   have R6:=Lib.hid (show RowAt W6 w.heap.size (byI (keyZ st0 0)) by rw[←hW];exact hR3.out.grow (below_alloc (Below.refl _ _) _))
   have HW6:=Lib.hid (show WordsAt W6 g4 (stL D) by rw[←hW];exact HW.out.grow (below_alloc (Below.refl _ _) _))
   have B6:=Lib.hid (show Below w.heap.size w W6 by rw[←hW];exact below_alloc B3.out _)
   have hr6:w.heap.size<wr.heap.size:=hR3.out.2.2
   have hg6:g4<wr.heap.size:=HW.out.1
   clear hW
   generalize wr.heap.size=x at *
   clear hR3 HW B3
   go_loopw [7] (fun i wr=>∃ k:Nat,k≤32∧i=.int .i64 k∧RowAt wr x (byI (keyZ D k))∧Below x W6 wr) (fun i _=>32-(intOf i).toNat)
   case atStart=>exact⟨0,by decide,rfl,K6.out,Below.refl _ _⟩
   case round =>
    obtain⟨k,hk,rfl,hrow,hbel⟩:=hrel
    by_cases hk32:k<32
    ·have hk0:(0:Int)≤(k:Int):=by omega
     have hk1:(k:Int)<32:=by omega
     have hq:(k:Int).tdiv 4=((k/4:Nat):Int):=rfl
     have hm:=cast_tmod k
     have hc:=HW6.out.word (k/4) (by omega)
     rw[←hbel.cell hg6] at hc
     have hck:=hrow.cellAt k (byI_get _ _ (keyZ_get D k k hk32))
     have hfk:=hrow.frozenAt k
     have Hset:=Lib.hid (keyZ_set D k hk32)
     have h0:(0:Int)≤((k/4:Nat):Int):=by omega
     have h8:((k/4:Nat):Int)<8:=by omega
     obtain⟨m,em⟩:∃ y,y=k%4*8:=⟨_,rfl⟩
     obtain⟨y,ey⟩:∃ y,y=24-k%4*8:=⟨_,rfl⟩
     have h1:IntKind.i64.wrap (8*((k%4:Nat):Int))=(m:Int):=by rw[IntWalk.i64_in _ (by omega)];omega
     have h2:IntKind.i64.wrap (24-(m:Int))=(y:Int):=by rw[IntWalk.i64_in _ (by omega)];omega
     have h3:IntKind.u64.wrap (y:Int)=(y:Int):=by rw[IntWalk.u64_in _ (by omega)]
     have hy0:(0:Int)≤(y:Int):=by omega
     have hy1:(y:Int)≤32:=by omega
     obtain⟨v,ev⟩:∃ v,v=sByte D k:=⟨_,rfl⟩
     rw[←ev] at Hset
     unfold sByte at ev
     rw[←ey] at ev
     have hv:=ev.symm
     clear em ey ev
     generalize sWord D (k/4)=z at hc hv
     generalize k/4=q at *
     generalize k%4=r4 at *
     have Hrow:=Lib.hid hrow
     have Hbel:=Lib.hid hbel
     clear hrow hbel
     go_wp2_with fail
     go_roundw
     case rel =>
      refine⟨k+1,by omega,by go_num,?_,?_⟩
      ·rw[←Hset.out,←byI_set];exact Hrow.out.setCell _ _
      ·exact Hbel.out.setCell (p:=⟨_,_,none⟩) (Nat.le_refl _) _
     case measure=>simp[intOf];omega
    ·obtain rfl:k=32:=by omega
     rw[keyZ_all] at hrow
     have hr:RowAt wr x (keA D):=hrow
     obtain⟨q1,q2,q3⟩:=R6.out.keep hbel hr6
     obtain⟨r1,r2,r3⟩:=hr
     have hz:(byI (keyZ st0 0)).size=32:=by rw[byI_size,keyZ_length]
     have Hbel:=Lib.hid hbel
     have hne:¬w.heap.size=x:=by omega
     clear hrow hbel
     go_wp2_with fail
     refine bodyPost_ret (v:=.agg (keA D)) (results_key Tryz.results94 (keA_size D) _ _ _ rfl (by go_simp) (by go_simp)) rfl ⟨rfl,?_⟩
     exact below_setRow (B6.out.trans (Hbel.out.mono (by omega))) (Nat.le_refl _) _
end Go.Proofs.YtddmjddlbhdcpaaGreatDoor

namespace Go.Proofs.YtddmjddlbhdcpaaGreatDoor
open Go.RowKit Go.Hold Go.Sh
set_option maxHeartbeats 800000 in
set_option maxRecDepth 100000 in
theorem rmac_c (kc bc nk nb:Nat) (kp bp:Option Addr) (k b:List Nat) (w:World) (hnk:nk=k.length) (hnb:nb=b.length) (hk:k.length≤90000) (hkb:∀ i,k.getD i 0<256) (hkB:Bs0 w kp k) (hkp:kp=none→kc=0)
  (hb:b.length≤90000) (hbb:∀ i,b.getD i 0<256) (hbB:Bs0 w bp b) (hbp:bp=none→bc=0) :
  Calls Tryz.prog 63 #[.slice kp nk kc,.slice bp nb bc] w fun e w'=>e=.returned (.agg (keA (mac k b)))∧Below w.heap.size w w':=by
 have HkB:=Lib.hid hkB
 have HbB:=Lib.hid hbB
 have Hkp:=Lib.hid hkp
 have Hbp:=Lib.hid hbp
 have Hkb:=Lib.hid hkb
 have Hbb:=Lib.hid hbb
 have Enk:=Lib.hid hnk
 have Enb:=Lib.hid hnb
 have Hk:=Lib.hid hk
 have Hb:=Lib.hid hb
 obtain⟨M,eM⟩:∃ M,M=mac k b:=⟨_,rfl⟩
 rw[←eM]
 unfold mac at eM
 have HFb:=Lib.hid (fillK_bts hkb)
 have HFl:=Lib.hid (fillK_length k)
 have HFs:=Lib.hid (show fillK k=if 64<k.length then keyN (dig k)++zs 32 else k++zs (64-k.length) from rfl)
 have EM:=Lib.hid eM
 generalize fillK k=F at *
 clear hkB hbB hkp hbp hkb hbb hnk hnb hk hb eM
 by_cases h64:64<nk
 ·have h64':(64:Int)<(nk:Int):=by omega
  go_enter Tryz.func63,Tryz.ntmps63
  go_wp2_with fail
  generalize hW:World.alloc _ _=W0
  obtain⟨z0,hz0,hR0⟩:∃ c,c.size=32∧RowAt W0 w.heap.size c:=by rw[←hW];clear hW;exact⟨byI (List.replicate 32 0),by simp[byI],by go_simp,by go_simp;rfl,by go_simp⟩
  have R0:=Lib.hid hR0
  have B0:=Lib.hid (show Below w.heap.size w W0 by rw[←hW];exact below_alloc (Below.refl _ _) _)
  clear hW hR0
  have HS:=rsum_c kc kp k W0 (by have:=Hk.out;omega) Hkb.out (HkB.out.grow B0.out) Hkp.out
  rw[←Enk.out] at HS
  obtain⟨D,eD⟩:∃ D,D=dig k:=⟨_,rfl⟩
  rw[←eD] at HS
  have HFk:=Lib.hid (show F=keyN D++zs (64-32) by rw[HFs.out,if_pos (by rw[←Enk.out];exact h64),eD])
  clear eD
  refine HS.mono ?_
  rintro e W1 ⟨rfl,hb1⟩
  have R1:=Lib.hid (R0.out.grow hb1)
  have B1:=Lib.hid (B0.out.trans (hb1.mono B0.out.size))
  clear hb1 R0 HS
  go_wp2_with fail
  have HBy:=rbytes_c (keyN D) (keyN_length D) W1
  rw[←keA_bys] at HBy
  refine HBy.mono ?_
  rintro e W2 ⟨v,rfl,hown,hb2⟩
  obtain⟨pk,ck,rfl,hBk,hck,hpk⟩:=hown.bs
  rw[keyN_length] at hck ⊢
  obtain⟨n1,en1⟩:∃ n,n=32:=⟨_,rfl⟩
  rw[←en1] at hck HFk ⊢
  have En1:=Lib.hid (show n1=(keyN D).length by rw[keyN_length];exact en1)
  have HK:=Lib.hid hBk
  have R2:=Lib.hid (R1.out.grow hb2)
  have B2:=Lib.hid (B1.out.trans (hb2.mono B1.out.size))
  clear hb2 R1 HBy hown hBk hck hpk en1
  go_wp2_with fail
  have hxl54:=Lib.hid (show (xorL 54 F).length=64 by rw[xorL_length,HFl.out])
  have hxl92:=Lib.hid (show (xorL 92 F).length=64 by rw[xorL_length,HFl.out])
  go_loopw [5,6,7] (fun v u i wr=>∃ j:Nat,j≤64∧i=.int .i64 j∧OwnB wr W2.heap.size v ((xorL 54 F).take j)∧OwnB wr W2.heap.size u ((xorL 92 F).take j)∧Apart v u∧Below W2.heap.size W2 wr) (fun _ _ i _=>64-(intOf i).toNat)
  case atStart=>exact⟨0,by decide,rfl,own_nil W2 _,own_nil W2 _,.inl rfl,Below.refl _ _⟩
  case round =>
   obtain⟨j,hj,rfl,hov,hou,hap,hbel⟩:=hrel
   by_cases hj64:j<64
   ·have hj0:(0:Int)≤(j:Int):=by omega
    have hj1:(j:Int)<64:=by omega
    have hjF:j<F.length:=by rw[HFl.out];exact hj64
    have ht1:=take_one (xorL 54 F) j (by rw[xorL_length];exact hjF)
    have ht2:=take_one (xorL 92 F) j (by rw[xorL_length];exact hjF)
    rw[xorL_get 54 F j hjF] at ht1
    rw[xorL_get 92 F j hjF] at ht2
    have hx1:bits .xor .u8 ((F.getD j 0:Nat):Int) 54=((F.getD j 0 ^^^ 54:Nat):Int):=u8_xor_nat (F.getD j 0) 54 (HFb.out j) (by decide)
    have hx2:bits .xor .u8 ((F.getD j 0:Nat):Int) 92=((F.getD j 0 ^^^ 92:Nat):Int):=u8_xor_nat (F.getD j 0) 92 (HFb.out j) (by decide)
    obtain⟨v',w1,u',w2,hr1,hr2,ho1,ho2,hap2,hb2⟩:=app_two (y:=F.getD j 0 ^^^ 54) (z:=F.getD j 0 ^^^ 92) hov hou hap hbel.size (by rw[List.length_take];omega) (by rw[List.length_take];omega)
    rw[ht1] at ho1
    rw[ht2] at ho2
    have Ho1:=Lib.hid ho1
    have Ho2:=Lib.hid ho2
    have Hap:=Lib.hid hap2
    have Hb2:=Lib.hid (hbel.trans hb2)
    have hcF:j<n1→wr.cell? ⟨(pk.getD ⟨0,0,none⟩).block,(pk.getD ⟨0,0,none⟩).off+j,none⟩=some (.int .u8 ((F.getD j 0:Nat):Int))∧pk=some ⟨(pk.getD ⟨0,0,none⟩).block,(pk.getD ⟨0,0,none⟩).off,none⟩:=fun hjn=>by
     rcases HK.out.grow hbel with h | ⟨g,o,rfl,h⟩
     ·exfalso;have:=En1.out;rw[h] at this;simp at this;omega
     ·refine⟨?_,rfl⟩
      show wr.cell? ⟨g,o+j,none⟩=_
      rw[h.2 j (by rw[←En1.out];exact hjn),HFk.out]
      simp only[List.getD]
      rw[List.getElem?_append_left (by rw[←En1.out];exact hjn)]
    have hF0:¬j<n1→F.getD j 0=0:=fun hjn=>by
     rw[HFk.out]
     simp only[List.getD]
     rw[List.getElem?_append_right (by rw[←En1.out];omega)]
     simp[zs,List.getElem?_replicate]
     split<;>rfl
    generalize F.getD j 0=y at *
    generalize hy1:y ^^^ 54=y1 at *
    generalize hy2:y ^^^ 92=y2 at *
    clear ho1 ho2 hap2 hb2 hov hou hap hbel ht1 ht2 hjF
    by_cases hjn:j<n1
    ·have hjn':(j:Int)<(n1:Int):=by omega
     obtain⟨hc,hpk⟩:=hcF hjn
     generalize (pk.getD ⟨0,0,none⟩).block=g at *
     generalize (pk.getD ⟨0,0,none⟩).off=o at *
     subst hpk
     clear hcF hF0 hy1 hy2
     go_wp2_with (at_builtin;first | refine Lib.wpList_append_run _ rfl _ _ _ _ rfl _ _ rfl rfl _ _ hr1 ?_ | refine Lib.wpList_append_run _ rfl _ _ _ _ rfl _ _ rfl rfl _ _ hr2 ?_)
     go_wp2_with fail
     go_roundw
     case rel=>exact⟨j+1,by omega,by go_num,Ho1.out,Ho2.out,Hap.out,Hb2.out⟩
     case measure=>simp[intOf];omega
    ·have hjn':¬(j:Int)<(n1:Int):=by omega
     have hy0:=hF0 hjn
     have hx3:bits .xor .u8 0 54=(y1:Int):=by rw[hy0] at hx1;exact hx1
     have hx4:bits .xor .u8 0 92=(y2:Int):=by rw[hy0] at hx2;exact hx2
     clear hcF hF0 hy1 hy2 hx1 hx2 hy0
     go_wp2_with (at_builtin;first | refine Lib.wpList_append_run _ rfl _ _ _ _ rfl _ _ rfl rfl _ _ hr1 ?_ | refine Lib.wpList_append_run _ rfl _ _ _ _ rfl _ _ rfl rfl _ _ hr2 ?_)
     go_wp2_with fail
     go_roundw
     case rel=>exact⟨j+1,by omega,by go_num,Ho1.out,Ho2.out,Hap.out,Hb2.out⟩
     case measure=>simp[intOf];omega
   ·obtain rfl:j=64:=by omega
    rw[List.take_of_length_le (by rw[hxl54.out];exact Nat.le_refl _)] at hov
    rw[List.take_of_length_le (by rw[hxl92.out];exact Nat.le_refl _)] at hou
    obtain⟨pi,ci,rfl,hBi,_,hpi⟩:=hov.bs
    obtain⟨po,co,rfl,hBo,_,hpo⟩:=hou.bs
    rw[hxl54.out,hxl92.out]
    have HBi:=Lib.hid hBi
    have Hpi:=Lib.hid hpi
    have HBo:=Lib.hid hBo
    have Hpo:=Lib.hid hpo
    have R3:=Lib.hid (R2.out.grow hbel)
    have B3:=Lib.hid (B2.out.trans (hbel.mono B2.out.size))
    clear hov hou hap hbel hBi hpi hBo hpo
    go_wp2_with fail
    refine(rjoin_c ci bc 64 nb pi bp (xorL 54 F) b wr hxl54.out.symm Enb.out HBi.out Hpi.out (HbB.out.grow B3.out) Hbp.out (by rw[hxl54.out];have:=Hb.out;omega)).mono ?_
    rintro e W4 ⟨v4,rfl,hown4,hb4⟩
    obtain⟨p4,c4,rfl,hB4,_,hp4⟩:=hown4.bs
    have O4:=Lib.hid (HBo.out.grow hb4)
    have R4:=Lib.hid (R3.out.grow hb4)
    have B4:=Lib.hid (B3.out.trans (hb4.mono B3.out.size))
    obtain⟨L1,eL1⟩:∃ L,L=xorL 54 F++b:=⟨_,rfl⟩
    rw[←eL1] at hB4 ⊢
    have HS1:=rsum_c c4 p4 L1 W4 (by rw[eL1,List.length_append,hxl54.out];have:=Hb.out;omega) (by rw[eL1];exact bts_app (xorL_bts (by decide) HFb.out) Hbb.out) hB4 hp4
    obtain⟨n4,en4⟩:∃ n,n=L1.length:=⟨_,rfl⟩
    obtain⟨D1,eD1⟩:∃ D,D=dig L1:=⟨_,rfl⟩
    rw[←en4,←eD1] at HS1
    rw[←en4]
    have HS1:=Lib.hid HS1
    have ED1:=Lib.hid (show D1=dig (xorL 54 F++b) by rw[eD1,eL1])
    clear hown4 hb4 hB4 hp4 en4 eD1 eL1 R3
    go_wp2_with fail
    refine HS1.out.mono ?_
    rintro e W5 ⟨rfl,hb5⟩
    have O5:=Lib.hid (O4.out.grow hb5)
    have R5:=Lib.hid (R4.out.grow hb5)
    have B5:=Lib.hid (B4.out.trans (hb5.mono B4.out.size))
    clear hb5 O4 R4 HS1
    go_wp2_with fail
    have HB1:=rbytes_c (keyN D1) (keyN_length D1) W5
    rw[←keA_bys] at HB1
    refine HB1.mono ?_
    rintro e W6 ⟨v6,rfl,hown6,hb6⟩
    obtain⟨p6,c6,rfl,hB6,_,hp6⟩:=hown6.bs
    rw[keyN_length]
    have O6:=Lib.hid (O5.out.grow hb6)
    have R6:=Lib.hid (R5.out.grow hb6)
    have B6:=Lib.hid (B5.out.trans (hb6.mono B5.out.size))
    have HB6:=Lib.hid hB6
    have Hp6:=Lib.hid hp6
    clear hb6 O5 R5 HB1 hown6 hB6 hp6
    go_wp2_with fail
    refine(rjoin_c co c6 64 32 po p6 (xorL 92 F) (keyN D1) W6 hxl92.out.symm (keyN_length D1).symm O6.out Hpo.out HB6.out Hp6.out (by rw[hxl92.out,keyN_length];decide)).mono ?_
    rintro e W7 ⟨v7,rfl,hown7,hb7⟩
    obtain⟨p7,c7,rfl,hB7,_,hp7⟩:=hown7.bs
    have R7:=Lib.hid (R6.out.grow hb7)
    have B7:=Lib.hid (B6.out.trans (hb7.mono B6.out.size))
    obtain⟨L2,eL2⟩:∃ L,L=xorL 92 F++keyN D1:=⟨_,rfl⟩
    rw[←eL2] at hB7 ⊢
    have HS2:=rsum_c c7 p7 L2 W7 (by rw[eL2,List.length_append,hxl92.out,keyN_length];decide) (by rw[eL2];exact bts_app (xorL_bts (by decide) HFb.out) (keyN_bts _)) hB7 hp7
    rw[show dig L2=M by rw[EM.out,eL2,ED1.out]] at HS2
    obtain⟨n7,en7⟩:∃ n,n=L2.length:=⟨_,rfl⟩
    rw[←en7] at HS2 ⊢
    have HS2:=Lib.hid HS2
    clear hown7 hb7 hB7 hp7 en7 eL2 R6
    go_wp2_with fail
    refine HS2.out.mono ?_
    rintro e W8 ⟨rfl,hb8⟩
    obtain⟨r1,r2,r3⟩:=R7.out.grow hb8
    have B8:=Lib.hid (B7.out.trans (hb8.mono B7.out.size))
    clear hb8 R7 HS2
    go_wp2_with fail
    refine bodyPost_ret (v:=.agg (keA M)) (results_key Tryz.results63 (keA_size _) _ _ _ rfl (by go_simp) (by go_simp)) rfl ⟨rfl,?_⟩
    exact below_setRow B8.out (Nat.le_refl _) _
 ·have h64':¬(64:Int)<(nk:Int):=by omega
  have HFk:=Lib.hid (show F=k++zs (64-nk) by rw[HFs.out,if_neg (by rw[←Enk.out];exact h64),Enk.out])
  go_enter Tryz.func63,Tryz.ntmps63
  go_wp2_with fail
  generalize hW:World.alloc _ _=W2
  obtain⟨z0,hz0,hR0⟩:∃ c,c.size=32∧RowAt W2 w.heap.size c:=by rw[←hW];clear hW;exact⟨byI (List.replicate 32 0),by simp[byI],by go_simp,by go_simp;rfl,by go_simp⟩
  have R2:=Lib.hid hR0
  have B2:=Lib.hid (show Below w.heap.size w W2 by rw[←hW];exact below_alloc (Below.refl _ _) _)
  clear hW hR0
  have HK:=Lib.hid (HkB.out.grow B2.out)
  have En1:=Lib.hid Enk.out
  obtain⟨pk,epk⟩:∃ y,y=kp:=⟨_,rfl⟩
  obtain⟨n1,en1⟩:∃ y,y=nk:=⟨_,rfl⟩
  rw[←epk] at HK ⊢
  rw[←en1] at HFk En1 h64' ⊢
  clear epk en1
  have hxl54:=Lib.hid (show (xorL 54 F).length=64 by rw[xorL_length,HFl.out])
  have hxl92:=Lib.hid (show (xorL 92 F).length=64 by rw[xorL_length,HFl.out])
  go_loopw [5,6,7] (fun v u i wr=>∃ j:Nat,j≤64∧i=.int .i64 j∧OwnB wr W2.heap.size v ((xorL 54 F).take j)∧OwnB wr W2.heap.size u ((xorL 92 F).take j)∧Apart v u∧Below W2.heap.size W2 wr) (fun _ _ i _=>64-(intOf i).toNat)
  case atStart=>exact⟨0,by decide,rfl,own_nil W2 _,own_nil W2 _,.inl rfl,Below.refl _ _⟩
  case round =>
   obtain⟨j,hj,rfl,hov,hou,hap,hbel⟩:=hrel
   by_cases hj64:j<64
   ·have hj0:(0:Int)≤(j:Int):=by omega
    have hj1:(j:Int)<64:=by omega
    have hjF:j<F.length:=by rw[HFl.out];exact hj64
    have ht1:=take_one (xorL 54 F) j (by rw[xorL_length];exact hjF)
    have ht2:=take_one (xorL 92 F) j (by rw[xorL_length];exact hjF)
    rw[xorL_get 54 F j hjF] at ht1
    rw[xorL_get 92 F j hjF] at ht2
    have hx1:bits .xor .u8 ((F.getD j 0:Nat):Int) 54=((F.getD j 0 ^^^ 54:Nat):Int):=u8_xor_nat (F.getD j 0) 54 (HFb.out j) (by decide)
    have hx2:bits .xor .u8 ((F.getD j 0:Nat):Int) 92=((F.getD j 0 ^^^ 92:Nat):Int):=u8_xor_nat (F.getD j 0) 92 (HFb.out j) (by decide)
    obtain⟨v',w1,u',w2,hr1,hr2,ho1,ho2,hap2,hb2⟩:=app_two (y:=F.getD j 0 ^^^ 54) (z:=F.getD j 0 ^^^ 92) hov hou hap hbel.size (by rw[List.length_take];omega) (by rw[List.length_take];omega)
    rw[ht1] at ho1
    rw[ht2] at ho2
    have Ho1:=Lib.hid ho1
    have Ho2:=Lib.hid ho2
    have Hap:=Lib.hid hap2
    have Hb2:=Lib.hid (hbel.trans hb2)
    have hcF:j<n1→wr.cell? ⟨(pk.getD ⟨0,0,none⟩).block,(pk.getD ⟨0,0,none⟩).off+j,none⟩=some (.int .u8 ((F.getD j 0:Nat):Int))∧pk=some ⟨(pk.getD ⟨0,0,none⟩).block,(pk.getD ⟨0,0,none⟩).off,none⟩:=fun hjn=>by
     rcases HK.out.grow hbel with h | ⟨g,o,rfl,h⟩
     ·exfalso;have:=En1.out;rw[h] at this;simp at this;omega
     ·refine⟨?_,rfl⟩
      show wr.cell? ⟨g,o+j,none⟩=_
      rw[h.2 j (by rw[←En1.out];exact hjn),HFk.out]
      simp only[List.getD]
      rw[List.getElem?_append_left (by rw[←En1.out];exact hjn)]
    have hF0:¬j<n1→F.getD j 0=0:=fun hjn=>by
     rw[HFk.out]
     simp only[List.getD]
     rw[List.getElem?_append_right (by rw[←En1.out];omega)]
     simp[zs,List.getElem?_replicate]
     split<;>rfl
    generalize F.getD j 0=y at *
    generalize hy1:y ^^^ 54=y1 at *
    generalize hy2:y ^^^ 92=y2 at *
    clear ho1 ho2 hap2 hb2 hov hou hap hbel ht1 ht2 hjF
    by_cases hjn:j<n1
    ·have hjn':(j:Int)<(n1:Int):=by omega
     obtain⟨hc,hpk⟩:=hcF hjn
     generalize (pk.getD ⟨0,0,none⟩).block=g at *
     generalize (pk.getD ⟨0,0,none⟩).off=o at *
     subst hpk
     clear hcF hF0 hy1 hy2
     go_wp2_with (at_builtin;first | refine Lib.wpList_append_run _ rfl _ _ _ _ rfl _ _ rfl rfl _ _ hr1 ?_ | refine Lib.wpList_append_run _ rfl _ _ _ _ rfl _ _ rfl rfl _ _ hr2 ?_)
     go_wp2_with fail
     go_roundw
     case rel=>exact⟨j+1,by omega,by go_num,Ho1.out,Ho2.out,Hap.out,Hb2.out⟩
     case measure=>simp[intOf];omega
    ·have hjn':¬(j:Int)<(n1:Int):=by omega
     have hy0:=hF0 hjn
     have hx3:bits .xor .u8 0 54=(y1:Int):=by rw[hy0] at hx1;exact hx1
     have hx4:bits .xor .u8 0 92=(y2:Int):=by rw[hy0] at hx2;exact hx2
     clear hcF hF0 hy1 hy2 hx1 hx2 hy0
     go_wp2_with (at_builtin;first | refine Lib.wpList_append_run _ rfl _ _ _ _ rfl _ _ rfl rfl _ _ hr1 ?_ | refine Lib.wpList_append_run _ rfl _ _ _ _ rfl _ _ rfl rfl _ _ hr2 ?_)
     go_wp2_with fail
     go_roundw
     case rel=>exact⟨j+1,by omega,by go_num,Ho1.out,Ho2.out,Hap.out,Hb2.out⟩
     case measure=>simp[intOf];omega
   ·obtain rfl:j=64:=by omega
    rw[List.take_of_length_le (by rw[hxl54.out];exact Nat.le_refl _)] at hov
    rw[List.take_of_length_le (by rw[hxl92.out];exact Nat.le_refl _)] at hou
    obtain⟨pi,ci,rfl,hBi,_,hpi⟩:=hov.bs
    obtain⟨po,co,rfl,hBo,_,hpo⟩:=hou.bs
    rw[hxl54.out,hxl92.out]
    have HBi:=Lib.hid hBi
    have Hpi:=Lib.hid hpi
    have HBo:=Lib.hid hBo
    have Hpo:=Lib.hid hpo
    have R3:=Lib.hid (R2.out.grow hbel)
    have B3:=Lib.hid (B2.out.trans (hbel.mono B2.out.size))
    clear hov hou hap hbel hBi hpi hBo hpo
    go_wp2_with fail
    refine(rjoin_c ci bc 64 nb pi bp (xorL 54 F) b wr hxl54.out.symm Enb.out HBi.out Hpi.out (HbB.out.grow B3.out) Hbp.out (by rw[hxl54.out];have:=Hb.out;omega)).mono ?_
    rintro e W4 ⟨v4,rfl,hown4,hb4⟩
    obtain⟨p4,c4,rfl,hB4,_,hp4⟩:=hown4.bs
    have O4:=Lib.hid (HBo.out.grow hb4)
    have R4:=Lib.hid (R3.out.grow hb4)
    have B4:=Lib.hid (B3.out.trans (hb4.mono B3.out.size))
    obtain⟨L1,eL1⟩:∃ L,L=xorL 54 F++b:=⟨_,rfl⟩
    rw[←eL1] at hB4 ⊢
    have HS1:=rsum_c c4 p4 L1 W4 (by rw[eL1,List.length_append,hxl54.out];have:=Hb.out;omega) (by rw[eL1];exact bts_app (xorL_bts (by decide) HFb.out) Hbb.out) hB4 hp4
    obtain⟨n4,en4⟩:∃ n,n=L1.length:=⟨_,rfl⟩
    obtain⟨D1,eD1⟩:∃ D,D=dig L1:=⟨_,rfl⟩
    rw[←en4,←eD1] at HS1
    rw[←en4]
    have HS1:=Lib.hid HS1
    have ED1:=Lib.hid (show D1=dig (xorL 54 F++b) by rw[eD1,eL1])
    clear hown4 hb4 hB4 hp4 en4 eD1 eL1 R3
    go_wp2_with fail
    refine HS1.out.mono ?_
    rintro e W5 ⟨rfl,hb5⟩
    have O5:=Lib.hid (O4.out.grow hb5)
    have R5:=Lib.hid (R4.out.grow hb5)
    have B5:=Lib.hid (B4.out.trans (hb5.mono B4.out.size))
    clear hb5 O4 R4 HS1
    go_wp2_with fail
    have HB1:=rbytes_c (keyN D1) (keyN_length D1) W5
    rw[←keA_bys] at HB1
    refine HB1.mono ?_
    rintro e W6 ⟨v6,rfl,hown6,hb6⟩
    obtain⟨p6,c6,rfl,hB6,_,hp6⟩:=hown6.bs
    rw[keyN_length]
    have O6:=Lib.hid (O5.out.grow hb6)
    have R6:=Lib.hid (R5.out.grow hb6)
    have B6:=Lib.hid (B5.out.trans (hb6.mono B5.out.size))
    have HB6:=Lib.hid hB6
    have Hp6:=Lib.hid hp6
    clear hb6 O5 R5 HB1 hown6 hB6 hp6
    go_wp2_with fail
    refine(rjoin_c co c6 64 32 po p6 (xorL 92 F) (keyN D1) W6 hxl92.out.symm (keyN_length D1).symm O6.out Hpo.out HB6.out Hp6.out (by rw[hxl92.out,keyN_length];decide)).mono ?_
    rintro e W7 ⟨v7,rfl,hown7,hb7⟩
    obtain⟨p7,c7,rfl,hB7,_,hp7⟩:=hown7.bs
    have R7:=Lib.hid (R6.out.grow hb7)
    have B7:=Lib.hid (B6.out.trans (hb7.mono B6.out.size))
    obtain⟨L2,eL2⟩:∃ L,L=xorL 92 F++keyN D1:=⟨_,rfl⟩
    rw[←eL2] at hB7 ⊢
    have HS2:=rsum_c c7 p7 L2 W7 (by rw[eL2,List.length_append,hxl92.out,keyN_length];decide) (by rw[eL2];exact bts_app (xorL_bts (by decide) HFb.out) (keyN_bts _)) hB7 hp7
    rw[show dig L2=M by rw[EM.out,eL2,ED1.out]] at HS2
    obtain⟨n7,en7⟩:∃ n,n=L2.length:=⟨_,rfl⟩
    rw[←en7] at HS2 ⊢
    have HS2:=Lib.hid HS2
    clear hown7 hb7 hB7 hp7 en7 eL2 R6
    go_wp2_with fail
    refine HS2.out.mono ?_
    rintro e W8 ⟨rfl,hb8⟩
    obtain⟨r1,r2,r3⟩:=R7.out.grow hb8
    have B8:=Lib.hid (B7.out.trans (hb8.mono B7.out.size))
    clear hb8 R7 HS2
    go_wp2_with fail
    refine bodyPost_ret (v:=.agg (keA M)) (results_key Tryz.results63 (keA_size _) _ _ _ rfl (by go_simp) (by go_simp)) rfl ⟨rfl,?_⟩
    exact below_setRow B8.out (Nat.le_refl _) _
end Go.Proofs.YtddmjddlbhdcpaaGreatDoor

namespace Go.Proofs.YtddmjddlbhdcpaaGreatDoor
open Go.RowKit Go.Hold Go.Sh
set_option maxHeartbeats 1000000 in
set_option maxRecDepth 100000 in
theorem rexpand_c (ic n m:Nat) (ip:Option Addr) (s info:List Nat) (w:World) (hm:m=info.length) (hs:s.length=32) (hsb:∀ i,s.getD i 0<256) (hi:m≤80000) (hib:∀ i,info.getD i 0<256) (hiB:Bs0 w ip info) (hic:ip=none→ic=0) (hn:n≤8160) :
  Calls Tryz.prog 93 #[.agg (bysA s),.slice ip m ic,.int .i64 (n:Int)] w fun e w'=>∃ p c,e=.returned (.tuple #[.slice p n c,.int .i64 0])∧Bs0 w' p (expN s info n)∧Below w.heap.size w w':=by
 have HI:=Lib.hid hiB
 have HIc:=Lib.hid hic
 have Hsb:=Lib.hid hsb
 have Hib:=Lib.hid hib
 have Hs:=Lib.hid hs
 have h0:¬(n:Int)<0:=by omega
 have h1:¬(8160:Int)<(n:Int):=by omega
 have Em:=Lib.hid hm
 have hsz:(bysA s).size=32:=by rw[bysA_size,hs]
 clear hiB hic hsb hib hs hm
 go_enter Tryz.func93,Tryz.ntmps93
 go_wp2_with fail
 generalize hW:World.alloc _ _=W0
 have R0:=Lib.hid (show RowAt W0 w.heap.size (bysA s) by rw[←hW];exact RowAt.of (block_new w _))
 have B0:=Lib.hid (show Below w.heap.size w W0 by rw[←hW];exact below_alloc (Below.refl _ _) _)
 clear hW
 obtain⟨x,ex⟩:∃ x,x=w.heap.size:=⟨_,rfl⟩
 rw[←ex] at R0 ⊢
 have Ex:=Lib.hid ex
 clear ex
 go_loopw [8,9,10] (fun all last i wr=>∃ j:Nat,i=.int .i64 ((j+1:Nat):Int)∧32*j<n+32∧OwnB wr W0.heap.size all (exps s info j)∧SlV wr last (tagT s info j)∧Below W0.heap.size W0 wr) (fun _ _ i _=>300-(intOf i).toNat)
 case atStart=>exact⟨0,rfl,by omega,own_nil W0 _,⟨none,0,rfl,.inl rfl,Nat.le_refl _,fun _=>rfl⟩,Below.refl _ _⟩
 case round =>
  obtain⟨j,rfl,hj,hown,hlast,hbel⟩:=hrel
  have hel:=exps_length s info j
  obtain⟨pa,ca,rfl,hBa,hca,hpa⟩:=hown.bs
  rw[hel] at hown hca ⊢
  obtain⟨na,ena⟩:∃ y,y=32*j:=⟨_,rfl⟩
  rw[←ena] at hown hca hj ⊢
  have Hown:=Lib.hid hown
  have Hlast:=Lib.hid hlast
  have Hbel:=Lib.hid hbel
  have Ena:=Lib.hid ena
  have HBa:=Lib.hid hBa
  clear hown hlast hbel ena hel hBa hpa
  obtain⟨j1,ej1⟩:∃ y,y=j+1:=⟨_,rfl⟩
  rw[←ej1]
  by_cases hjn:na<n
  ·have hlt:(na:Int)<(n:Int):=by omega
   have hw8:=u8_wrap j1
   obtain⟨pl,cl,rfl,hBl,hcl,hpl⟩:=Hlast.out
   obtain⟨nl,enl⟩:∃ y,y=(tagT s info j).length:=⟨_,rfl⟩
   have hnl:=tagT_le s info j
   rw[←enl] at hcl hnl ⊢
   have Enl:=Lib.hid enl
   have HBl:=Lib.hid hBl
   have Hpl:=Lib.hid hpl
   have Ej1:=Lib.hid ej1
   have hj1:j1≤256:=by have:=Ena.out;omega
   clear hBl hpl enl ej1 hcl Hlast
   obtain⟨L,eL⟩:∃ y,y=tagT s info j++info++[j1%256]:=⟨_,rfl⟩
   obtain⟨D,eD⟩:∃ y,y=mac s L:=⟨_,rfl⟩
   have Htag:=Lib.hid (show tagT s info (j+1)=keyN D by rw[tagT,eD,eL,Ej1.out])
   have HLb:=Lib.hid (show ∀ i,L.getD i 0<256 by rw[eL];exact bts_app (bts_app (tagT_bts _ _ _) Hib.out) (bts_1 _ (Nat.mod_lt _ (by decide))))
   have hLl:L.length≤90000:=by rw[eL,List.length_append,List.length_append,←Enl.out,←Em.out];simp only[List.length_cons,List.length_nil];omega
   have EL:=Lib.hid eL
   have ED:=Lib.hid eD
   clear eL eD
   have R1:=Lib.hid (R0.out.grow Hbel.out)
   have I1:=Lib.hid ((HI.out.grow B0.out).grow Hbel.out)
   obtain⟨r1,r2,r3⟩:=R1.out
   obtain⟨b8,eb8⟩:∃ y,y=j1%256:=⟨_,rfl⟩
   rw[←eb8] at hw8
   have Eb8:=Lib.hid eb8
   clear eb8
   go_wp2_with fail
   refine(rbytes_c s Hs.out wr).mono ?_
   rintro e W1 ⟨v1,rfl,ho1,hb1⟩
   obtain⟨p1,c1,rfl,hB1,hc1,hp1⟩:=ho1.bs
   rw[Hs.out]
   have H1:=Lib.hid hB1
   have Hp1:=Lib.hid hp1
   have B1:=Lib.hid hb1
   clear ho1 hB1 hb1 hc1 hp1 r1 r2 r3
   go_wp2_with fail
   refine(rjoin_c cl ic nl m pl ip (tagT s info j) info W1 Enl.out Em.out (HBl.out.grow B1.out) Hpl.out (I1.out.grow B1.out) HIc.out (by rw[←Enl.out,←Em.out];omega)).mono ?_
   rintro e W2 ⟨v2,rfl,ho2,hb2⟩
   have B2:=Lib.hid (B1.out.trans (hb2.mono B1.out.size))
   have BA:=below_alloc (Below.refl W2.heap.size W2) (.cells #[.int .u8 (b8:Int)] 5)
   obtain⟨v3,W3,hr3,ho3,hg3⟩:=app_own (k:=1) (cap:=1) (ho2.below BA) (Bs0.some (bytes_new W2 [b8] 5 (0,0))) rfl (fun h=>by cases h) (Nat.le_trans hb2.size BA.size) (by rw[List.length_append,←Enl.out,←Em.out];simp only[List.length_cons,List.length_nil];omega)
   have hb3:=own_below (hb2.alloc hb2.size (.cells #[.int .u8 (b8:Int)] 5)) (ho2.below BA) (Nat.le_trans hb2.size BA.size) hg3
   have B3:=Lib.hid (B1.out.trans (hb3.mono B1.out.size))
   rw[Eb8.out,←EL.out] at ho3
   obtain⟨p3,c3,ev3,hB3,hc3,hp3⟩:=ho3.bs
   obtain⟨n3,en3⟩:∃ y,y=L.length:=⟨_,rfl⟩
   rw[←en3] at ev3
   subst ev3
   have H3:=Lib.hid hB3
   have Hp3:=Lib.hid hp3
   have En3:=Lib.hid en3
   have H31:=Lib.hid (H1.out.grow hb3)
   clear ho2 hb2 BA ho3 hg3 hb3 hB3 hc3 hp3 en3 B2
   go_wp2_with (at_builtin;refine Lib.wpList_append_run _ rfl _ _ _ _ rfl _ _ rfl rfl _ _ hr3 ?_)
   have HM:=rmac_c c1 c3 32 n3 p1 p3 s L W3 Hs.out.symm En3.out (by rw[Hs.out];decide) Hsb.out H31.out Hp1.out hLl HLb.out H3.out Hp3.out
   rw[←ED.out,keA_bys] at HM
   refine HM.mono ?_
   rintro e W4 ⟨rfl,hb4⟩
   have B4:=Lib.hid (B3.out.trans (hb4.mono B3.out.size))
   clear hb4 HM
   go_wp2_with fail
   refine(rbytes_c (keyN D) (keyN_length D) W4).mono ?_
   rintro e W5 ⟨v5,rfl,ho5,hb5⟩
   have B5:=Lib.hid (B4.out.trans (hb5.mono B4.out.size))
   have hown5:OwnB W5 W0.heap.size (.slice pa na ca) (exps s info j):=Hown.out.below B5.out
   obtain⟨p5,c5,ev5,hB5,hc5,hp5⟩:=ho5.bs
   rw[keyN_length] at ev5
   have hb05:Below W0.heap.size W0 W5:=Hbel.out.trans (B5.out.mono Hbel.out.size)
   obtain⟨va,wa,hra,howna,hgra⟩:=app_own (cap:=c5) (k:=32) hown5 hB5 (keyN_length D).symm hp5 hb05.size (by rw[exps_length,keyN_length];have:=Ena.out;omega)
   have Hba:=Lib.hid (own_below hb05 hown5 hb05.size hgra)
   have Hoa:=Lib.hid (show OwnB wa W0.heap.size va (exps s info (j+1)) by rw[exps,Htag.out];exact howna)
   have Hla:=Lib.hid (show SlV wa (.slice p5 32 c5) (tagT s info (j+1)) by
    rw[Htag.out,←ev5]
    refine(ho5.kept hgra ?_).bs
    cases hvb:v5.ownBlock with
    | none=>exact .inl rfl
    | some k =>
     right
     intro he
     have h1:=(ho5.ltb k hvb).1
     have h2:=(Hown.out.ltb k he.symm).2
     have:=B4.out.size
     omega)
   subst ev5
   clear ho5 hb5 hown5 hB5 hc5 hp5 hb05 howna hgra
   go_wp2_with (at_builtin;refine Lib.wpList_append_run _ rfl _ _ _ _ rfl _ _ rfl rfl _ _ hra ?_)
   go_wp2_with fail
   go_roundw
   case rel=>exact⟨j+1,by rw[←Ej1.out];go_num,by have:=Ena.out;omega,Hoa.out,Hla.out,Hba.out⟩
   case measure=>simp[intOf];omega
  ·have hlt:¬(na:Int)<(n:Int):=by omega
   have hsl:=slB_h pa na ca n (by omega)
   clear ej1
   go_wp2_with fail
   refine bodyPost_ret (v:=.tuple #[.slice pa n ca,.int .i64 0]) (results_tmp2 Tryz.results93 _ _ _) rfl ⟨pa,⟨ca,rfl⟩,?_,B0.out.trans (Hbel.out.mono B0.out.size)⟩
   rw[expN_take s info n j (by have:=Ena.out;omega)]
   exact Bs0.take HBa.out n
end Go.Proofs.YtddmjddlbhdcpaaGreatDoor

namespace Go.Proofs.YtddmjddlbhdcpaaGreatDoor
open Go.RowKit Go.Hold Go.Sh
def strB (s:ByteArray):List Nat:=s.data.toList.map fun b=>b.toNat
theorem strB_length (s:ByteArray):(strB s).length=s.size:=by simp[strB]
theorem strB_bts (s:ByteArray):∀ i,(strB s).getD i 0<256:=getD_lt fun x hx=>by
 obtain⟨b,_,rfl⟩:=List.mem_map.1 hx
 exact b.toNat_lt
theorem strB_app (s t:ByteArray):strB (s++t)=strB s++strB t:=by simp[strB]
def cvSB (v:Value):Sem Value:=convert 9 38 v
@[go_sem ↓ high] theorem fold_cvSB (v:Value):convert 9 38 v=cvSB v:=rfl
theorem run_cvSB (s:ByteArray) (w:World):∃ c W,(cvSB (.string s)).run Tryz.prog w=.ok (.slice (some ⟨w.heap.size,0,none⟩) s.size c) W∧BytesAt W w.heap.size 0 (strB s)∧Below w.heap.size w W∧s.size≤c:=by
 refine⟨grownCap w s.size 0 5,Lib.bytesWorld w 5 s,Lib.run_convert_string_bytes w _ _ 5 s Tryz.underlying9 Tryz.underlying38 Tryz.underlying5,⟨by rw[Lib.bytesWorld_size];omega,fun i hi=>?_⟩,⟨?_,?_,?_,by rw[Lib.bytesWorld_size];omega,fun k hk=>Lib.bytesWorld_at_old w _ s k hk⟩,grownCap_ge _ _ _ _⟩
 ·rw[strB_length] at hi
  rw[Nat.zero_add,Lib.bytesWorld_cell w _ s i hi]
  simp[strB,List.getD,hi]
 ·rfl
 ·rfl
 ·rfl
def toS (l:List Nat):ByteArray:=⟨(l.map UInt8.ofNat).toArray⟩
def cvBS (v:Value):Sem Value:=convert 38 9 v
@[go_sem ↓ high] theorem fold_cvBS (v:Value):convert 38 9 v=cvBS v:=rfl
theorem foldl_toS:∀ (l:List Nat) (s:ByteArray),(l.map fun n:Nat=>(n:Int)).foldl (fun r n=>r.push (UInt8.ofNat n.toNat)) s=⟨s.data++(l.map UInt8.ofNat).toArray⟩
 | [],s=>by simp
 | n::l,s=>by
  rw[List.map_cons,List.foldl_cons,foldl_toS l]
  simp[ByteArray.push]
theorem run_cvBS {w:World} {p:Option Addr} {l:List Nat} {n c:Nat} (h:Bs0 w p l) (hn:n=l.length):(cvBS (.slice p n c)).run Tryz.prog w=.ok (.string (toS l)) w:=by
 subst hn
 unfold cvBS
 rw[run_convert_bytes_string w _ _ 5 _ _ _ Tryz.underlying38 Tryz.underlying5 Tryz.underlying9]
 have key:∀ a:Addr,(∀ j u,(bys l)[j]?=some u→w.cell? (a.add j)=some u)→(Conv.bytesToString (.slice (some a) l.length c)).run Tryz.prog w=.ok (.string (toS l)) w:=fun a ha=>by
  have h1:=run_loadCells_list (P:=Tryz.prog) w a (bys l) ha
  rw[bys_length] at h1
  have h2:bys l=(l.map fun n:Nat=>(n:Int)).map (Value.int .u8):=by simp[bys]
  rw[h2] at h1
  rw[run_bytesToString w a l.length c _ h1,foldl_toS]
  simp[toS]
 cases p with
 | none =>
  have hl:l=[]:=by
   rcases h with h | ⟨b,o,h,_⟩
   ·exact h
   ·cases h
  subst hl
  simp[Conv.bytesToString,toS]
  rfl
 | some a =>
  refine key a ?_
  rcases h with rfl | ⟨b,o,he,h⟩
  ·intro j u hu;simp[bys] at hu
  ·cases he;exact bys_at h
end Go.Proofs.YtddmjddlbhdcpaaGreatDoor

namespace Go.Proofs.YtddmjddlbhdcpaaGreatDoor
open Go.RowKit Go.Hold Go.Sh
theorem purp_str:strB ⟨#[112,105,103,101,111,110,114,121,32]⟩=purp:=by decide
set_option maxHeartbeats 400000 in
set_option maxRecDepth 100000 in
theorem derive_c (s:List Nat) (lab:ByteArray) (w:World) (hT:Tabs w) (hs:s.length=32) (hsb:∀ i,s.getD i 0<256) (hl:lab.size≤50000) :
  Calls Tryz.prog 58 #[.agg (bysA s),.string lab] w fun e w'=>e=.returned (.agg (keA (drv s (purp++strB lab))))∧Below w.heap.size w w':=by
 have hz:(bysA s).size=32:=by rw[bysA_size,hs]
 have HT:=Lib.hid hT
 have Hs:=Lib.hid hs
 have Hsb:=Lib.hid hsb
 obtain⟨D,eD⟩:∃ y,y=drv s (purp++strB lab):=⟨_,rfl⟩
 rw[←eD]
 have ED:=Lib.hid eD
 clear hT hs hsb eD
 go_enter Tryz.func58,Tryz.ntmps58
 go_wp2_with fail
 generalize hS:({ data:=#[112,105,103,101,111,110,114,121,32] }:ByteArray)++lab=S0
 have HS0:=Lib.hid (show strB S0=purp++strB lab by rw[←hS,strB_app,purp_str])
 have hS0:S0.size≤60000:=by
  have:=congrArg List.length HS0.out
  rw[strB_length,List.length_append,strB_length] at this
  simp[purp] at this;omega
 clear hS
 generalize hW:World.alloc _ _=W0
 obtain⟨z0,hz0,hR0⟩:∃ c:Array Value,c.size=32∧RowAt W0 (w.heap.size+1) c:=by rw[←hW];clear hW;exact⟨byI (List.replicate 32 0),by simp[byI],by go_simp,by go_simp;rfl,by go_simp⟩
 have K0:=Lib.hid (show RowAt W0 (w.heap.size+1+1) (bysA (zs 32)) by rw[←hW];clear hW;exact⟨by go_simp,by go_simp;rfl,by go_simp⟩)
 have R0:=Lib.hid hR0
 have B0:=Lib.hid (show Below w.heap.size w W0 by rw[←hW];repeat (first | apply below_more | apply below_alloc | exact Below.refl _ _))
 clear hW hR0
 have hg1:w.heap.size≤w.heap.size+1+1:=by omega
 have hg2:¬w.heap.size+1=w.heap.size+1+1:=by omega
 have hg3:w.heap.size≤w.heap.size+1:=by omega
 generalize w.heap.size+1+1=t at *
 generalize w.heap.size+1=r at *
 obtain⟨c,W1,hr,hby,hb1,hc⟩:=run_cvSB S0 W0
 have HE:=expand_c c 32 (some ⟨W0.heap.size,0,none⟩) s (strB S0) W1 ((HT.out.grow B0.out).grow hb1) Hs.out Hsb.out (by rw[strB_length];omega) (strB_bts _) (Bs0.some hby) (fun h=>by cases h) (by decide)
 rw[strB_length,expN_32,HS0.out,←ED.out] at HE
 have HE:=Lib.hid HE
 have R1:=Lib.hid (R0.out.grow hb1)
 have K1:=Lib.hid (K0.out.grow hb1)
 have B1:=Lib.hid (B0.out.trans (hb1.mono B0.out.size))
 clear hby hb1 hc R0 K0 hS0
 rw[hr]
 go_simp
 go_wp2_with fail
 refine HE.out.mono ?_
 rintro e W2 ⟨p,rfl,hB2,hp2,hb2⟩
 have hcp:=copy_bytes (c2:=32) (cap:=32) (d:=32) (s:=32) (k:=32) (K1.out.grow hb2) (by rw[zs_length]) (keyN_length D).symm (by rw[zs_length,keyN_length];decide) hB2
 rw[show (keyN D).take 32++(zs 32).drop 32=keyN D by rw[List.take_of_length_le (by rw[keyN_length];exact Nat.le_refl _),zs_drop];simp[zs],←keA_bys] at hcp
 have K2:=(K1.out.grow hb2).set (keA D)
 have R2:=(R1.out.grow hb2).other hg2 (keA D)
 have B2:=Lib.hid (below_setRow (B1.out.trans (hb2.mono B1.out.size)) hg1 (keA D))
 generalize W2.setRow t (keA D)=W3 at *
 obtain⟨k1,k2,k3⟩:=K2
 obtain⟨r1,r2,r3⟩:=R2
 clear hb2 hB2 hp2 HE K1 R1
 go_wp2_with fail
 refine bodyPost_ret (v:=.agg (keA D)) (results_key Tryz.results58 (keA_size _) _ _ _ rfl (by go_simp) (by go_simp)) rfl ⟨rfl,?_⟩
 exact below_setRow B2.out hg3 _
end Go.Proofs.YtddmjddlbhdcpaaGreatDoor

namespace Go.Proofs.YtddmjddlbhdcpaaGreatDoor
open Go.RowKit Go.Hold Go.Sh
theorem tk_set32 (s:List Nat) (k:Nat) (h:k<32) (hs:s.length=32):(s.take k++zs (32-k)).set k (s.getD k 0)=s.take (k+1)++zs (32-(k+1)):=by
 have hk:k<s.length:=by omega
 have e:zs (32-k)=0::zs (32-(k+1)):=by
  obtain⟨m,hm⟩:∃ m,32-k=m+1:=⟨31-k,by omega⟩
  rw[hm,show 32-(k+1)=m by omega];rfl
 have hlen:(s.take k).length=k:=by rw[List.length_take];omega
 rw[List.set_append,if_neg (by omega),hlen,Nat.sub_self,e,List.set_cons_zero,List.take_add_one,List.getElem?_eq_getElem hk,List.append_assoc]
 congr 2
 simp[List.getD,hk]
set_option maxHeartbeats 1000000 in
set_option maxRecDepth 100000 in
theorem rderive_c (s:List Nat) (lab:ByteArray) (w:World) (hs:s.length=32) (hsb:∀ i,s.getD i 0<256) (hl:lab.size≤50000) :
  Calls Tryz.prog 61 #[.agg (bysA s),.string lab] w fun e w'=>e=.returned (.agg (keA (drv s (purp++strB lab))))∧Below w.heap.size w w':=by
 have hz:(bysA s).size=32:=by rw[bysA_size,hs]
 have Hs:=Lib.hid hs
 have Hsb:=Lib.hid hsb
 obtain⟨D,eD⟩:∃ y,y=drv s (purp++strB lab):=⟨_,rfl⟩
 rw[←eD]
 have ED:=Lib.hid eD
 clear hs hsb eD
 go_enter Tryz.func61,Tryz.ntmps61
 go_wp2_with fail
 generalize hS:({ data:=#[112,105,103,101,111,110,114,121,32] }:ByteArray)++lab=S0
 have HS0:=Lib.hid (show strB S0=purp++strB lab by rw[←hS,strB_app,purp_str])
 have hS0:S0.size≤60000:=by
  have:=congrArg List.length HS0.out
  rw[strB_length,List.length_append,strB_length] at this
  simp[purp] at this;omega
 clear hS
 generalize hW:World.alloc _ _=W0
 obtain⟨z0,hz0,hR0⟩:∃ c:Array Value,c.size=32∧RowAt W0 (w.heap.size+1) c:=by rw[←hW];clear hW;exact⟨byI (List.replicate 32 0),by simp[byI],by go_simp,by go_simp;rfl,by go_simp⟩
 have R0:=Lib.hid hR0
 have B0:=Lib.hid (show Below w.heap.size w W0 by rw[←hW];repeat (first | apply below_more | apply below_alloc | exact Below.refl _ _))
 clear hW hR0
 have hg3:w.heap.size≤w.heap.size+1:=by omega
 generalize w.heap.size+1=r at *
 obtain⟨c,W1,hr,hby,hb1,hc⟩:=run_cvSB S0 W0
 have HE:=rexpand_c c 32 S0.size (some ⟨W0.heap.size,0,none⟩) s (strB S0) W1 (strB_length _).symm Hs.out Hsb.out (by omega) (strB_bts _) (Bs0.some hby) (fun h=>by cases h) (by decide)
 rw[expN_32,HS0.out,←ED.out] at HE
 have HE:=Lib.hid HE
 have R1:=Lib.hid (R0.out.grow hb1)
 have B1:=Lib.hid (B0.out.trans (hb1.mono B0.out.size))
 clear hby hb1 hc R0 hS0
 rw[hr]
 go_simp
 go_wp2_with fail
 refine HE.out.mono ?_
 rintro e W2 ⟨p,c2,rfl,hB2,hb2⟩
 have hD:=keyN_length D
 obtain⟨g,o,rfl,hby2⟩:∃ g o,p=some ⟨g,o,none⟩∧BytesAt W2 g o (keyN D):=by
  rcases hB2 with h | h
  ·rw[h] at hD;cases hD
  ·exact h
 have HY:=Lib.hid hby2
 have HDl:=Lib.hid hD
 have R2:=Lib.hid (R1.out.grow hb2)
 have B2:=Lib.hid (B1.out.trans (hb2.mono B1.out.size))
 clear hb2 hB2 HE R1 hby2 hD
 go_wp2_with fail
 generalize hW:World.alloc _ _=W3
 have BW:=Lib.hid (show Below W2.heap.size W2 W3 by rw[←hW];exact below_alloc (Below.refl _ _) _)
 have T0:=Lib.hid (show RowAt W3 W2.heap.size (bysA (zs 32)) by rw[←hW];clear hW;exact⟨by go_simp,by go_simp;rfl,by go_simp⟩)
 clear hW
 have hgt:g<W2.heap.size:=HY.out.1
 have hrt:r<W2.heap.size:=R2.out.2.2
 have hwt:w.heap.size≤W2.heap.size:=B2.out.size
 have Y3:=Lib.hid (HY.out.grow BW.out)
 have R3:=Lib.hid (R2.out.grow BW.out)
 have B3:=Lib.hid (B2.out.trans (BW.out.mono B2.out.size))
 clear HY R2 B2 BW
 generalize W2.heap.size=t at *
 go_loopw [8] (fun i wr=>∃ k:Nat,k≤32∧i=.int .i64 k∧RowAt wr t (bysA ((keyN D).take k++zs (32-k)))∧Below t W3 wr) (fun i _=>32-(intOf i).toNat)
 case atStart=>exact⟨0,by decide,rfl,T0.out,Below.refl _ _⟩
 case round =>
  obtain⟨k,hk,rfl,hrow,hbel⟩:=hrel
  by_cases hk32:k<32
  ·have hk0:(0:Int)≤(k:Int):=by omega
   have hk1:(k:Int)<32:=by omega
   have hc:wr.cell? ⟨g,o+k,none⟩=some (.int .u8 (((keyN D).getD k 0:Nat):Int)):=by
    rw[hbel.cell hgt];exact Y3.out.2 k (by rw[HDl.out];exact hk32)
   have Hset:=Lib.hid (tk_set32 (keyN D) k hk32 HDl.out)
   generalize (keyN D).getD k 0=y at *
   have hlx:k<((keyN D).take k++zs (32-k)).length:=by rw[List.length_append,List.length_take,zs_length,HDl.out];omega
   have hcx:=hrow.cellAt k (bysA_get _ k hlx)
   have hfx:=hrow.frozenAt k
   have Hrow:=Lib.hid hrow
   have Hbel:=Lib.hid hbel
   clear hrow hbel hlx
   go_wp2_with fail
   go_roundw
   case rel =>
    refine⟨k+1,by omega,by go_num,?_,?_⟩
    ·rw[←Hset.out,←bysA_set];exact Hrow.out.setCell _ _
    ·exact Hbel.out.setCell (p:=⟨_,_,none⟩) (Nat.le_refl _) _
   case measure=>simp[intOf];omega
  ·obtain rfl:k=32:=by omega
   rw[show zs (32-32)=[] from rfl,List.append_nil,List.take_of_length_le (by rw[HDl.out];exact Nat.le_refl _),←keA_bys] at hrow
   obtain⟨t1,t2,t3⟩:=hrow
   obtain⟨r1,r2,r3⟩:=R3.out.keep hbel hrt
   have Hbel:=Lib.hid hbel
   clear hbel
   go_wp2_with fail
   refine bodyPost_ret (v:=.agg (keA D)) (results_key Tryz.results61 (keA_size _) _ _ _ rfl (by go_simp) (by go_simp)) rfl ⟨rfl,?_⟩
   exact below_setRow (B3.out.trans (Hbel.out.mono hwt)) hg3 _
end Go.Proofs.YtddmjddlbhdcpaaGreatDoor

namespace Go.Proofs.YtddmjddlbhdcpaaGreatDoor
open Go.RowKit Go.Hold Go.Sh
theorem tk_set (s:List Nat) (k:Nat) (h:k<16) (hs:s.length=32):(s.take k++zs (16-k)).set k (s.getD k 0)=s.take (k+1)++zs (16-(k+1)):=by
 have hk:k<s.length:=by omega
 have e:zs (16-k)=0::zs (16-(k+1)):=by
  obtain⟨m,hm⟩:∃ m,16-k=m+1:=⟨15-k,by omega⟩
  rw[hm,show 16-(k+1)=m by omega];rfl
 have hlen:(s.take k).length=k:=by rw[List.length_take];omega
 rw[List.set_append,if_neg (by omega),hlen,Nat.sub_self,e,List.set_cons_zero,List.take_add_one,List.getElem?_eq_getElem hk,List.append_assoc]
 congr 2
 simp[List.getD,hk]
set_option maxHeartbeats 400000 in
set_option maxRecDepth 100000 in
theorem rshort_c (s:List Nat) (hs:s.length=32) (w:World):Calls Tryz.prog 62 #[.agg (bysA s)] w fun e w'=>e=.returned (.agg (bysA (s.take 16)))∧Below w.heap.size w w':=by
 have hz2:(bysA (s.take 16)).size=16:=by rw[bysA_size,List.length_take,hs];rfl
 have Hs:=Lib.hid hs
 clear hs
 go_enter Tryz.func62,Tryz.ntmps62
 go_wp2_with fail
 generalize hW:World.alloc _ _=W0
 have K0:=Lib.hid (show RowAt W0 w.heap.size (bysA s) by rw[←hW];clear hW;exact⟨by go_simp,by go_simp,by go_simp⟩)
 obtain⟨z0,hz0,hR0⟩:∃ c:Array Value,c.size=16∧RowAt W0 (w.heap.size+1) c:=by rw[←hW];clear hW;exact⟨bysA (zs 16),by rw[bysA_size,zs_length],by go_simp,by go_simp;rfl,by go_simp⟩
 have T0:=Lib.hid (show RowAt W0 (w.heap.size+1+1) (bysA (zs 16)) by rw[←hW];clear hW;exact⟨by go_simp,by go_simp;rfl,by go_simp⟩)
 have R0:=Lib.hid hR0
 have B0:=Lib.hid (show Below w.heap.size w W0 by rw[←hW];repeat (first | apply below_more | apply below_alloc | exact Below.refl _ _))
 clear hW hR0
 go_loopw [4] (fun i wr=>∃ k:Nat,k≤16∧i=.int .i64 k∧RowAt wr (w.heap.size+1+1) (bysA (s.take k++zs (16-k)))∧Below (w.heap.size+1+1) W0 wr) (fun i _=>16-(intOf i).toNat)
 case atStart=>exact⟨0,by decide,rfl,T0.out,Below.refl _ _⟩
 case round =>
  obtain⟨k,hk,rfl,hrow,hbel⟩:=hrel
  by_cases hk16:k<16
  ·have hk0:(0:Int)≤(k:Int):=by omega
   have hk1:(k:Int)<16:=by omega
   have hk32:(k:Int)<32:=by omega
   have hc:=(K0.out.keep hbel (by omega)).cellAt k (bysA_get s k (by rw[Hs.out];omega))
   have Hset:=Lib.hid (tk_set s k hk16 Hs.out)
   generalize s.getD k 0=y at *
   have hlx:k<(s.take k++zs (16-k)).length:=by rw[List.length_append,List.length_take,zs_length,Hs.out];omega
   have hcx:=hrow.cellAt k (bysA_get _ k hlx)
   have hfx:=hrow.frozenAt k
   have Hrow:=Lib.hid hrow
   have Hbel:=Lib.hid hbel
   clear hrow hbel hlx
   go_wp2_with fail
   go_roundw
   case rel =>
    refine⟨k+1,by omega,by go_num,?_,?_⟩
    ·rw[←Hset.out,←bysA_set];exact Hrow.out.setCell _ _
    ·exact Hbel.out.setCell (p:=⟨_,_,none⟩) (Nat.le_refl _) _
   case measure=>simp[intOf];omega
  ·obtain rfl:k=16:=by omega
   rw[show zs (16-16)=[] from rfl,List.append_nil] at hrow
   obtain⟨t1,t2,t3⟩:=hrow
   obtain⟨r1,r2,r3⟩:=R0.out.keep hbel (by omega)
   have Hbel:=Lib.hid hbel
   clear hbel
   go_wp2_with fail
   refine bodyPost_ret (v:=.agg (bysA (s.take 16))) (results_tag Tryz.results62 hz2 _ _ _ rfl (by go_simp) (by go_simp)) rfl ⟨rfl,?_⟩
   exact below_setRow (B0.out.trans (Hbel.out.mono (by omega))) (by omega) _
end Go.Proofs.YtddmjddlbhdcpaaGreatDoor

namespace Go.Hold
open Go Go.RowKit
section
variable {P:Program} {md:Region.Mode} {W:World} {Q:Exit→Act→World→Prop} {ops:Array Oper} {R:Nat→Value→World→Prop} {G:World→World→Prop}
theorem doneA_eq {listed:Array Bool} {D:List Nat} {n:Nat} (hls:listed.size=ops.size) (hl:∀ i,i<ops.size→listed.getD i false=decide (i∈D)) (h1:∀ i,i∈D→i<n) (h2:∀ i,i<n→i∈D):listed=doneA n ops.size:=by
 apply Array.ext_getElem?
 intro i
 by_cases hi:i<ops.size
 ·have e1:=hl i hi
  have e2:listed[i]?=some (listed.getD i false):=by simp[hls,hi]
  rw[e2,e1]
  unfold doneA
  rw[Array.getElem?_map,Array.getElem?_range,if_pos hi]
  simp only[Option.map_some,Option.some.injEq]
  by_cases e:i<n
  ·rw[decide_eq_true (h2 i e)];exact((show Nat.blt i n=true from by rw[Nat.blt_eq];exact e)).symm
  ·rw[decide_eq_false fun h=>e (h1 i h)]
   cases hx:Nat.blt i n
   ·rfl
   ·exact absurd ((by rw[Nat.blt_eq] at hx;exact hx)) e
 ·rw[Array.getElem?_eq_none (by omega),Array.getElem?_eq_none (by simp[doneA];omega)]
def growLB (md:Region.Mode) (ops:Array Oper) (m t0:Nat) (tr:List Nat):Bool :=
 Region.noSelect ops && decide (m+1+(t0::tr).length=ops.size) && ((t0::tr).all fun i=>decide (i<ops.size)) &&
 ((List.range (m+1)).all fun i=>match ops[i]? with
  | some o=>edgesOk md i o && ((List.range (m+1)).all fun j=>!looksB ops o j || boundB md o j)
  | none=>false) &&
 ((List.range (m+1)).all fun i=>(List.range (m+1)).all fun j=>Nat.beq i j || apartD (dstOf ops i) (dstOf ops j)) &&
 ((List.range ops.size).all fun t=>Nat.blt t (m+1) || match ops[t]? with
  | some o=>(List.range m).all fun j=>boundB md o j
  | none=>false) &&
 seqT md ops (t0::tr) (doneA (m+1) ops.size) &&
 ((Region.ready md ops (doneA m ops.size)).all fun i=>Nat.beq i m || Nat.beq i t0) &&
 seqT md ops (m::tr) ((doneA m ops.size).setIfInBounds t0 true)
end
end Go.Hold

namespace Go.Hold
open Go Go.RowKit
section
variable {P:Program} {md:Region.Mode} {W:World} {Q:Exit→Act→World→Prop} {ops:Array Oper} {n:Nat} {R:Nat→Value→World→Prop} {G:World→World→Prop} {ls:List Nat}
def LateStep (P:Program) (ops:Array Oper) (W:World) (n:Nat) (R:Nat→Value→World→Prop) (a:Act) (vals:Nat→Value) (i:Nat) (o:Oper):Prop :=
 ∀ w,Below W.heap.size W w→(∀ j∈depsOf ops n o,R j (vals j) w) →
  ∃ v,R i v w∧Region.wanted o (yielded ops (putAll ops vals (depsOf ops n o) a).tmps)=true∧∀ w',(execOp (putAll ops vals (depsOf ops n o) a).eval o).run P w'=.ok (.value v) w'
def SkipStep (ops:Array Oper) (W:World) (n:Nat) (R:Nat→Value→World→Prop) (a:Act) (vals:Nat→Value) (i:Nat) (o:Oper):Prop :=
 ∀ w,Below W.heap.size W w→(∀ j∈depsOf ops n o,R j (vals j) w)→Region.wanted o (yielded ops (putAll ops vals (depsOf ops n o) a).tmps)=false∧R i undef w
def StepM (ls:List Nat) (P:Program) (ops:Array Oper) (W:World) (n:Nat) (G:World→World→Prop) (R:Nat→Value→World→Prop) (a:Act) (vals:Nat→Value) (i:Nat) (o:Oper):Prop :=
 if i∈ls then LateStep P ops W n R a vals i o else (GrowStep P ops W n G R a vals i o∨SkipStep ops W n R a vals i o)
theorem stepE {a:Act} {vals:Nat→Value} {i:Nat} {o:Oper} (h:ls.contains i=false) (s:GrowStep P ops W n G R a vals i o):StepM ls P ops W n G R a vals i o:=by
 unfold StepM
 rw[if_neg (fun hm=>by rw[List.contains_iff_mem.2 hm] at h;cases h)]
 exact .inl s
theorem stepS {a:Act} {vals:Nat→Value} {i:Nat} {o:Oper} (h:ls.contains i=false) (s:SkipStep ops W n R a vals i o):StepM ls P ops W n G R a vals i o:=by
 unfold StepM
 rw[if_neg (fun hm=>by rw[List.contains_iff_mem.2 hm] at h;cases h)]
 exact .inr s
def growMB (md:Region.Mode) (ops:Array Oper) (n:Nat) (ls ts:List Nat):Bool :=
 Region.noSelect ops && decide (n+ts.length=ops.size) && (ts.all fun i=>decide (i<ops.size)) &&
 ((List.range n).all fun i=>match ops[i]? with
  | some o=>edgesOk md i o && ((List.range n).all fun j=>!looksB ops o j || boundB md o j)
  | none=>false) &&
 ((List.range n).all fun i=>(List.range n).all fun j=>Nat.beq i j || apartD (dstOf ops i) (dstOf ops j)) &&
 ((List.range ops.size).all fun t=>Nat.blt t n || match ops[t]? with
  | some o=>(List.range n).all fun j=>ls.contains j || boundB md o j
  | none=>false) &&
 (ls.all fun i=>match ops[i]? with
  | some oi=>(List.range ops.size).all fun j=>Nat.beq j i || (Nat.blt j n && !ls.contains j) || match ops[j]? with
   | some oj=>boundB md oj i || oi.apart ops oj
   | none=>true
  | none=>false) &&
 seqT md ops ts (doneA n ops.size)
theorem grow_anyM {l:List Oper} {ts:List Nat} {a:Act} (hop:ops=l.toArray) (hsel:Region.noSelect ops=true) (hsz:n+ts.length=ops.size) (hts:∀ i∈ts,i<l.length)
  (hedge:∀ i o,i<n→ops[i]?=some o→edgesOk md i o=true∧∀ j,j<n→looksB ops o j=true→boundB md o j=true)
  (hdst:∀ i j,i<n→j<n→i≠j→∀ d,dstOf ops i=some d→dstOf ops j≠some d)
  (hlate:∀ t o,n≤t→ops[t]?=some o→∀ j,j<n→j∉ls→boundB md o j=true)
  (hfree:∀ i oi,i∈ls→ops[i]?=some oi→∀ j oj,ops[j]?=some oj→j≠i→(n≤j∨j∈ls)→boundB md oj i=true∨oi.apart ops oj=true)
  (hseq:seqT md ops ts (doneA n ops.size)=true)
  (hQ:∀ c a d v w,Q (.panic c) (Act.put a d v) w→Q (.panic c) a w) (hG:∀ w,G w w)
  (hGB:∀ w w',Below W.heap.size W w→G w w'→Below W.heap.size W w') (hmono:∀ i v w w',R i v w→G w w'→R i v w')
  (hst:∀ vals i o,i<n→ops[i]?=some o→StepM ls P ops W n G R a vals i o)
  (hfin:∀ vals w,Below W.heap.size W w→(∀ i,i<n→R i (vals i) w)→wpList P ops Q (pick l ts) (putAll ops vals (List.range n) a) w) :
  ∀ (f:Nat) (D:List Nat) (listed:Array Bool) (vals:Nat→Value) (w:World),D.Nodup→(∀ i∈D,i<n)→D.length+f=n→listed.size=ops.size →
  (∀ i,i<ops.size→listed.getD i false=decide (i∈D))→Below W.heap.size W w→(∀ i∈D,R i (vals i) w)→wpAny P md ops Q (f+ts.length) listed (putAll ops vals D a) w
 | 0,D,listed,vals,w,hnd,hlt,hlen,hls,hl,hb,hR=>by
  have hall:∀ i,i<n→i∈D:=fun i hi=>by
   by_cases e:i∈D
   ·exact e
   ·exfalso
    have:=nodup_le (i::D) (List.range n) (List.nodup_cons.2 ⟨e,hnd⟩) fun j hj=>by
     rcases List.mem_cons.1 hj with rfl | h
     ·exact List.mem_range.2 hi
     ·exact List.mem_range.2 (hlt j h)
    simp at this;omega
  have hp:D.Perm (List.range n):=(List.perm_ext_iff_of_nodup hnd List.nodup_range).2 fun i=>⟨fun h=>List.mem_range.2 (hlt i h),fun h=>hall i (List.mem_range.1 h)⟩
  have hle:listed=doneA n ops.size:=doneA_eq hls hl hlt hall
  subst hle
  rw[Nat.zero_add,putAll_perm vals hdst hp hlt]
  subst hop
  exact wpAny_of_seqT ts _ _ _ hts hseq (hfin vals w hb fun i hi=>hR i (hall i hi))
 | f+1,D,listed,vals,w,hnd,hlt,hlen,hls,hl,hb,hR=>by
  have hex:∃ i,i<n∧i∉D:=by
   apply Classical.byContradiction
   intro hno
   have:=nodup_le (List.range n) D List.nodup_range fun i hi=>by
    by_cases e:i∈D
    ·exact e
    ·exact absurd ⟨i,List.mem_range.1 hi,e⟩ hno
   simp at this;omega
  obtain⟨i0,hi0,hi0D,hmin⟩:=least_not D n hex
  have hget:∀ i,i<ops.size→listed.getD i true=decide (i∈D):=fun i hi=>by
   have:=hl i hi
   simpa [hls,hi] using this
  have hr0:i0∈Region.ready md ops listed:=by
   have hs0:i0<ops.size:=by omega
   obtain⟨o,ho⟩:∃ o,ops[i0]?=some o:=⟨_,Array.getElem?_eq_getElem hs0⟩
   refine mem_ready.2 ⟨by rw[hget i0 hs0];exact decide_eq_false hi0D,o,ho,fun e he hbe=>?_⟩
   have h1:=List.all_eq_true.1 (hedge i0 o hi0 ho).1 e (by simpa using he)
   have h2:e.on<i0:=by simpa [hbe] using h1
   rw[hl _ (by omega)];exact decide_eq_true (hmin _ h2)
  rw[show f+1+ts.length=(f+ts.length)+1 by omega]
  have cut:∀ i o,ops[i]?=some o→(∀ j∈depsOf ops n o,j∈D)→execOp (putAll ops vals D a).eval o=execOp (putAll ops vals (depsOf ops n o) a).eval o∧Region.wanted o (yielded ops (putAll ops vals D a).tmps)=Region.wanted o (yielded ops (putAll ops vals (depsOf ops n o) a).tmps):=fun i o ho hdep=>by
   have hsl:=fun cs b=>Region.noSelect_spec hsel i o cs b ho
   have hcut:∀ b,putAll ops vals D b=putAll ops vals (D.filter fun j=>!looksB ops o j) (putAll ops vals (depsOf ops n o) b):=fun b=>by
    rw[←putAll_append]
    refine putAll_perm vals hdst ?_ hlt b
    refine(List.filter_append_perm (looksB ops o) D).symm.trans (List.Perm.append_right _ ?_)
    refine(List.perm_ext_iff_of_nodup (hnd.filter _) (List.nodup_range.filter _)).2 fun j=>?_
    constructor
    ·intro h
     obtain⟨h1,h2⟩:=List.mem_filter.1 h
     exact List.mem_filter.2 ⟨List.mem_range.2 (hlt j h1),h2⟩
    ·intro h
     exact List.mem_filter.2 ⟨hdep j h,(List.mem_filter.1 h).2⟩
   obtain⟨e1,e2⟩:=putAll_unlooked (ops:=ops) vals (o:=o) hsl (D.filter fun j=>!looksB ops o j) (putAll ops vals (depsOf ops n o) a) fun j hj=>by
    have:=(List.mem_filter.1 hj).2
    simpa using this
   rw[←hcut] at e1 e2
   exact⟨e1,e2⟩
  have next:∀ i o,i<n→i∉D→ops[i]?=some o→∀ v w',G w w'→R i v w'→wpAny P md ops Q (f+ts.length) (listed.setIfInBounds i true) ((putAll ops vals D a).put o.dst v) w':=fun i o hin hiD ho v w' hb' hRv=>by
   have hsi:i<ops.size:=(Array.getElem?_eq_some_iff.1 ho).1
   have he:(putAll ops vals D a).put o.dst v=putAll ops (fun j=>if j=i then v else vals j) (D++[i]) a:=by
    rw[putAll_append,putAll_congr (v:=fun j=>if j=i then v else vals j) (u:=vals) D a (fun j hj=>if_neg (fun (e:j=i)=>hiD (e▸hj)))]
    simp[putAll,dstOf,ho]
   rw[he]
   refine grow_anyM hop hsel hsz hts hedge hdst hlate hfree hseq hQ hG hGB hmono hst hfin f (D++[i]) _ _ w' ?_ ?_ (by simp;omega) (by simp[hls]) ?_ (hGB _ _ hb hb') ?_
   ·exact List.nodup_append.2 ⟨hnd,by simp,fun x hx y hy=>by simp at hy;subst hy;intro e;subst e;exact hiD hx⟩
   ·intro j hj
    rcases List.mem_append.1 hj with h | h
    ·exact hlt j h
    ·simp at h;omega
   ·intro j hj
    by_cases e:j=i
    ·subst e;simp[hls,hj]
    ·have h1:=hl j hj
     have h2:(listed.setIfInBounds i true).getD j false=listed.getD j false:=by
      simp only[Array.getD_eq_getD_getElem?]
      rw[Array.getElem?_setIfInBounds_ne (fun h=>e h.symm)]
     rw[h2,h1]
     simp[e]
   ·intro j hj
    rcases List.mem_append.1 hj with h | h
    ·have:j≠i:=fun e=>hiD (e▸h)
     simp only[this,if_false]
     exact hmono _ _ _ _ (hR j h) hb'
    ·simp at h;subst h;simpa using hRv
  by_cases hall:∀ j,j<n→j∉ls→j∈D
  ·have hi0l:i0∈ls:=Classical.byContradiction fun h=>hi0D (hall i0 hi0 h)
   obtain⟨o,ho⟩:∃ o,ops[i0]?=some o:=⟨_,Array.getElem?_eq_getElem (by omega)⟩
   have hdep:∀ j∈depsOf ops n o,j∈D:=fun j hj=>by
    obtain⟨h1,h2⟩:=List.mem_filter.1 hj
    obtain⟨e,hem,heb⟩:=List.any_eq_true.1 ((hedge i0 o hi0 ho).2 j (List.mem_range.1 h1) h2)
    rw[Bool.and_eq_true] at heb
    have h3:=List.all_eq_true.1 (hedge i0 o hi0 ho).1 e (by simpa using hem)
    have h4:e.on<i0:=by simpa [heb.1] using h3
    rw[Nat.eq_of_beq_eq_true heb.2] at h4
    exact hmin _ h4
   obtain⟨e1,e2⟩:=cut i0 o ho hdep
   have hs:=hst vals i0 o hi0 ho
   unfold StepM at hs
   rw[if_pos hi0l] at hs
   obtain⟨v,hRv,hw,hy⟩:=hs w hb fun j hj=>hR j (hdep j hj)
   refine wpAny_first (oi:=o) (v:=v) ho (Region.noSelect_spec hsel) (fun c a w=>hQ c a _ _ w) (f+ts.length) listed _ w (fun j oj hj hne hun hno=>?_) hr0 (.inl ⟨by rw[e2];exact hw,fun w'=>by rw[e1];exact hy w'⟩) (next i0 o hi0 hi0D ho v w (hG w) hRv)
   have hsj:j<ops.size:=(Array.getElem?_eq_some_iff.1 hj).1
   have hjD:j∉D:=by rw[hget j hsj] at hun;exact of_decide_eq_false hun
   have hjl:n≤j∨j∈ls:=by
    by_cases h1:n≤j
    ·exact .inl h1
    ·exact .inr (Classical.byContradiction fun h=>hjD (hall j (by omega) h))
   rcases hfree i0 o hi0l ho j oj hj hne hjl with h | h
   ·obtain⟨e,hem,heb⟩:=List.any_eq_true.1 h
    rw[Bool.and_eq_true] at heb
    exact absurd (Nat.eq_of_beq_eq_true heb.2) (hno e (by simpa using hem) heb.1)
   ·exact h
  refine⟨fun h=>(by rw[h] at hr0;cases hr0),fun i hi=>?_⟩
  obtain⟨hun,o,ho,hdeps⟩:=mem_ready.1 hi
  have hsi:i<ops.size:=(Array.getElem?_eq_some_iff.1 ho).1
  have hiD:i∉D:=by rw[hget i hsi] at hun;exact of_decide_eq_false hun
  have hbd:∀ j,j<n→boundB md o j=true→j∈D:=fun j hj hbj=>by
   obtain⟨e,hem,heb⟩:=List.any_eq_true.1 hbj
   rw[Bool.and_eq_true] at heb
   have h1:=hdeps e (by simpa using hem) heb.1
   rw[Nat.eq_of_beq_eq_true heb.2,hl j (by omega)] at h1
   exact of_decide_eq_true h1
  have hin:i<n:=by
   apply Classical.byContradiction
   intro hni
   exact hall fun j hj hjl=>hbd j hj (hlate i o (by omega) ho j hj hjl)
  have hdep:∀ j∈depsOf ops n o,j∈D:=fun j hj=>by
   obtain⟨h1,h2⟩:=List.mem_filter.1 hj
   have hjn:=List.mem_range.1 h1
   exact hbd j hjn ((hedge i o hin ho).2 j hjn h2)
  obtain⟨e1,e2⟩:=cut i o ho hdep
  have hs:=hst vals i o hin ho
  unfold StepM at hs
  by_cases hil:i∈ls
  ·rw[if_pos hil] at hs
   obtain⟨v,hRv,hw,hy⟩:=hs w hb fun j hj=>hR j (hdep j hj)
   rw[←e2] at hw
   have hy':=hy w
   rw[←e1] at hy'
   unfold Go.wpOp
   simp only[ho,hw,if_true]
   refine .inl ?_
   unfold Oper.wp
   rw[hy']
   exact next i o hin hiD ho v w (hG w) hRv
  rw[if_neg hil] at hs
  rcases hs with hs | hs
  case inr =>
   obtain⟨hw,hRu⟩:=hs w hb fun j hj=>hR j (hdep j hj)
   rw[←e2] at hw
   unfold Go.wpOp
   simp only[ho,hw,Bool.false_eq_true,if_false]
   exact next i o hin hiD ho undef w (hG w) hRu
  obtain⟨hw,hc⟩:=hs w hb fun j hj=>hR j (hdep j hj)
  rw[←e2] at hw
  rw[←e1] at hc
  unfold Go.wpOp
  simp only[ho,hw,if_true]
  refine .inl ?_
  unfold Oper.wp
  revert hc
  generalize (execOp (putAll ops vals D a).eval o).run P w=r
  intro hc
  cases r with
  | halt x w=>exact False.elim hc
  | ok nx w2 =>
   cases nx<;>try exact False.elim hc
   case value u=>exact next i o hin hiD ho _ _ hc.1 hc.2
   case skip=>exact next i o hin hiD ho _ _ hc.1 hc.2
   case enter fn args =>
    refine Calls.mono (P:=P) hc ?_
    rintro e w'' ⟨u,rfl,h1,h2⟩
    exact next i o hin hiD ho _ _ h1 h2
def wpGrowM (ls:List Nat) (P:Program) (ops:Array Oper) (W:World) (n:Nat) (G:World→World→Prop) (R:Nat→Value→World→Prop) (a:Act) (vals:Nat→Value) (Fin:Prop):Nat→List Oper→Prop
 | _,[]=>Fin
 | k,o::r=>StepM ls P ops W n G R a vals k o∧wpGrowM ls P ops W n G R a vals Fin (k+1) r
theorem wpGrowM_out {a:Act} {vals:Nat→Value} {Fin:Prop}:∀ (k:Nat) (r:List Oper),wpGrowM ls P ops W n G R a vals Fin k r→Fin∧∀ j o,r[j]?=some o→StepM ls P ops W n G R a vals (k+j) o
 | _,[],h=>⟨h,fun j o ho=>by simp at ho⟩
 | k,o::r,h=>by
  obtain⟨h1,h2⟩:=wpGrowM_out (k+1) r h.2
  refine⟨h1,fun j x hx=>?_⟩
  cases j with
  | zero=>simp at hx;subst hx;exact h.1
  | succ j=>rw[show k+(j+1)=k+1+j by omega];exact h2 j x (by simpa using hx)
theorem wp_region_growsM {id:Nat} {a:Act} {w:World} {l:List Oper} (W:World) (n:Nat) (G:World→World→Prop) (R:Nat→Value→World→Prop) (ls ts ns:List Nat) (qa:List (Option Tmp)) (hm:P.follows .mixedOrders=true) (hB:growMB .any l.toArray n ls ts=true)
  (hns:List.range n=ns) (hqa:ns.map (dstOf l.toArray)=qa) (hQ:∀ c a d v w,Q (.panic c) (Act.put a d v) w→Q (.panic c) a w) (hG:∀ w,G w w)
  (hW:Below W.heap.size W { w with drawn:=w.drawn+1 }) (hGB:∀ w w',Below W.heap.size W w→G w w'→Below W.heap.size W w') (hmono:∀ i v w w',R i v w→G w w'→R i v w')
  (h:∀ vals,wpGrowM ls P l.toArray W n G R a vals (∀ w,Below W.heap.size W w→(∀ i∈ns,R i (vals i) w)→wpList P l.toArray Q (pick l ts) (putZ qa (ns.map vals) a) w) 0 (l.take n)) :
  (Code.region id l.toArray true).wp P Q a w:=by
 subst hns hqa
 simp only[growMB,Bool.and_eq_true,decide_eq_true_eq] at hB
 obtain⟨⟨⟨⟨⟨⟨⟨hsel,hsz⟩,hts⟩,h1⟩,h2⟩,h3⟩,h5⟩,hseq⟩:=hB
 have hts':∀ i∈ts,i<l.length:=fun i hi=>by simpa using List.all_eq_true.1 hts i hi
 refine wp_region_any hm ?_
 have H:=grow_anyM (md:=.any) (P:=P) (W:=W) (Q:=Q) (n:=n) (R:=R) (G:=G) (ls:=ls) (l:=l) (ts:=ts) (a:=a) rfl hsel hsz hts'
  (fun i o hi ho=>by
   have:=List.all_eq_true.1 h1 i (List.mem_range.2 hi)
   rw[ho] at this
   simp only[Bool.and_eq_true] at this
   refine⟨this.1,fun j hj hlj=>?_⟩
   have h4:=List.all_eq_true.1 this.2 j (List.mem_range.2 hj)
   simpa [hlj] using h4)
  (fun i j hi hj hne d hd=>by
   have:=List.all_eq_true.1 (List.all_eq_true.1 h2 i (List.mem_range.2 hi)) j (List.mem_range.2 hj)
   rcases Bool.or_eq_true_iff.1 this with h | h
   ·exact absurd (Nat.eq_of_beq_eq_true h) hne
   ·rw[hd] at h
    simpa [apartD] using h)
  (fun t o ht ho j hj hjl=>by
   have:=List.all_eq_true.1 h3 t (List.mem_range.2 (Array.getElem?_eq_some_iff.1 ho).1)
   rw[ho] at this
   rcases Bool.or_eq_true_iff.1 this with h | h
   ·exact absurd (by rw[Nat.blt_eq] at h;exact h:t<n) (by omega)
   ·rcases Bool.or_eq_true_iff.1 (List.all_eq_true.1 h j (List.mem_range.2 hj)) with h | h
    ·exact absurd (List.contains_iff_mem.1 h) hjl
    ·exact h)
  (fun i oi hi hoi j oj hoj hne hjl=>by
   have:=List.all_eq_true.1 h5 i hi
   rw[hoi] at this
   have:=List.all_eq_true.1 this j (List.mem_range.2 (Array.getElem?_eq_some_iff.1 hoj).1)
   rw[hoj] at this
   rcases Bool.or_eq_true_iff.1 this with h | h
   ·rcases Bool.or_eq_true_iff.1 h with h | h
    ·exact absurd (Nat.eq_of_beq_eq_true h) hne
    ·rw[Bool.and_eq_true] at h
     rcases hjl with h' | h'
     ·exact absurd (by have:=h.1;rw[Nat.blt_eq] at this;exact this:j<n) (by omega)
     ·have h6:=h.2
      rw[List.contains_iff_mem.2 h'] at h6
      cases h6
   ·exact Bool.or_eq_true_iff.1 h)
  hseq hQ hG hGB hmono
  (fun vals i o hi ho=>by
   have:=(wpGrowM_out 0 _ (h vals)).2 i o (by rw[List.getElem?_take,if_pos hi];simpa using ho)
   rwa [Nat.zero_add] at this)
  (fun vals w hb hR=>by
   rw[putZ_eq]
   exact(wpGrowM_out 0 _ (h vals)).1 w hb fun i hi=>hR i (List.mem_range.1 hi))
  n [] (Array.replicate l.toArray.size false) (fun _=>undef) { w with drawn:=w.drawn+1 } List.nodup_nil (fun i hi=>by cases hi) (by simp) (by simp) (fun i hi=>by rw[getD_replicate_false];simp) hW (fun i hi=>by cases hi)
 rw[hsz] at H
 exact H
theorem grow_skip {a:Act} {vals:Nat→Value} {i:Nat} {o:Oper} (ds:List Nat) (qs:List (Option Tmp)) (hds:depsOf ops n o=ds) (hqs:ds.map (dstOf ops)=qs)
  (h:∀ w,Below W.heap.size W w→(∀ j∈ds,R j (vals j) w)→Region.wanted o (yielded ops (putZ qs (ds.map vals) a).tmps)=false∧R i undef w):SkipStep ops W n R a vals i o:=by
 subst hds hqs
 intro w hb hd
 rw[putZ_eq]
 exact h w hb hd
end
end Go.Hold

namespace Go.Proofs.YtddmjddlbhdcpaaGreatDoor
open Go.RowKit Go.Hold Go.Sh
def Stays (r:Value→World→Prop):Prop:=∀ v w w',r v w→Below w.heap.size w w'→r v w'
def StaysAll:List (Value→World→Prop)→Prop
 | []=>True
 | r::L=>Stays r∧StaysAll L
def listR (L:List (Value→World→Prop)) (i:Nat) (v:Value) (w:World):Prop:=match L[i]? with | some r=>r v w | none=>True
theorem staysAll_get {L:List (Value→World→Prop)} (h:StaysAll L):∀ (i:Nat) (r:Value→World→Prop),L[i]?=some r→Stays r:=by
 induction L with
 | nil=>intro i r hi;simp at hi
 | cons s L ih =>
  intro i r hi
  cases i with
  | zero=>simp at hi;subst hi;exact h.1
  | succ i=>exact ih h.2 i r (by simpa using hi)
theorem listR_mono {L:List (Value→World→Prop)} (h:StaysAll L):∀ i v w w',listR L i v w→Below w.heap.size w w'→listR L i v w':=by
 intro i v w w' hr hb
 unfold listR at hr ⊢
 cases e:L[i]? with
 | none=>trivial
 | some r=>rw[e] at hr;exact staysAll_get h i r e v w w' hr hb
def fixV (x:Value):Value→World→Prop:=fun v _=>v=x
theorem stays_fix (x:Value):Stays (fixV x):=fun _ _ _ h _=>h
def ownV (B:Nat) (l:List Nat):Value→World→Prop:=fun v w=>OwnB w B v l
theorem stays_own (B:Nat) (l:List Nat):Stays (ownV B l):=fun _ _ _ h hb=>OwnB.below h hb
def ownT (B:Nat) (l:List Nat):Value→World→Prop:=fun v w=>∃ u,v=.tuple #[u,.int .i64 0]∧OwnB w B u l
def rowV (B:Nat) (f:Nat→Value) (c:Array Value):Value→World→Prop:=fun v w=>∃ g,v=f g∧RowAt w g c∧B≤g
def slV (l:List Nat):Value→World→Prop:=fun v w=>SlV w v l
end Go.Proofs.YtddmjddlbhdcpaaGreatDoor

namespace Go.Proofs.YtddmjddlbhdcpaaGreatDoor
open Go.RowKit Go.Hold Go.Sh
theorem setL_at (r l:List Nat) (u:Nat) (h:u+l.length≤r.length):setL (bysA r) u (bys l)=bysA (r.take u++l++r.drop (u+l.length)):=by
 apply Array.ext_getElem?
 intro i
 rw[setL_get,bys_length,bysA_size]
 have hn:(r.take u++l++r.drop (u+l.length)).length=r.length:=by simp;omega
 by_cases hi:i<r.length
 ·rw[bysA_get (r.take u++l++r.drop (u+l.length)) i (by rw[hn];exact hi)]
  by_cases h1:u≤i∧i<u+l.length
  ·rw[if_pos (by omega)]
   simp only[bys,List.getElem?_map,List.getD]
   rw[List.append_assoc,List.getElem?_append_right (by simp;omega),List.getElem?_append_left (by simp;omega)]
   simp only[List.length_take]
   rw[show min u r.length=u by omega,List.getElem?_eq_getElem (by omega)]
   rfl
  ·rw[if_neg (by omega),bysA_get _ i hi]
   congr 3
   simp only[List.getD]
   by_cases h2:i<u
   ·rw[List.append_assoc,List.getElem?_append_left (by simp;omega),List.getElem?_take,if_pos h2]
   ·rw[List.getElem?_append_right (by simp;omega),List.getElem?_drop]
    congr 2
    simp only[List.length_append,List.length_take];omega
 ·rw[if_neg (by omega),Array.getElem?_eq_none (by rw[bysA_size];omega),Array.getElem?_eq_none (by rw[bysA_size,hn];omega)]
theorem copy_at {W:World} {g u c2 cap d s k:Nat} {p:Option Addr} {r l:List Nat} (h:RowAt W g (bysA r)) (hu:u≤r.length) (hd:d=r.length-u) (hs:s=l.length) (hk:k=min l.length (r.length-u)) (hB:Bs0 W p l) :
  (Builtin.copy_ #[38,38] 3 #[.slice (some ⟨g,u,none⟩) d c2,.slice p s cap]).run Tryz.prog W=.ok (.int .i64 (k:Int)) (W.setRow g (bysA (r.take u++l.take k++r.drop (u+k)))):=by
 subst hd hs
 rcases hB with rfl | ⟨b,o,rfl,hB⟩
 ·have hk0:k=0:=by simpa using hk
  subst hk0
  rw[List.take_zero,List.append_nil,Nat.add_zero,List.take_append_drop,setRow_self h]
  exact copy_none W _ _ _ _ _
 ·have hl:(bys (l.take k)).length=k:=by rw[bys_length,List.length_take];omega
  have hi:(Tryz.prog.info? 5).map (·.size)=some 1:=by kernel_rfl
  have:=run_copy_cells (P:=Tryz.prog) W 38 38 3 5 g u (r.length-u) c2 ⟨b,o,none⟩ l.length cap (bys (l.take k)) Tryz.underlying38 hi (by rw[hl,hk])
   (fun j v hv=>by
    have hj:j<k:=by have:=(List.getElem?_eq_some_iff.1 hv).1;omega
    rw[Addr.add_mid,hB.2 j (by omega),←hv]
    simp only[bys,List.getElem?_map,List.getElem?_take,if_pos hj,List.getD]
    rw[List.getElem?_eq_getElem (by omega)];rfl)
   (fun j hj=>by rw[h.cellAt (u+j) (Array.getElem?_eq_getElem (by rw[bysA_size];omega))];rfl)
   (fun j _=>h.frozenAt _) (bys_one _)
  rw[this,hl,setCells_row _ _ h,setL_at _ _ _ (by rw[List.length_take];omega)]
  rw[show (l.take k).length=k by rw[List.length_take];omega]
  rfl
end Go.Proofs.YtddmjddlbhdcpaaGreatDoor

namespace Go.Proofs.YtddmjddlbhdcpaaGreatDoor
open Go.RowKit Go.Hold Go.Sh Go.Ch
set_option maxHeartbeats 1000000 in
set_option maxRecDepth 100000 in
theorem put_c (g b a n cap:Nat) (s:List Int) (l:List Nat) (w:World) (hn:n=l.length) (hs:s.length=16) (hz:∀ j,a≤j→s.getD j 0=0) (ha:a+(n+3)/4≤16) (hlb:∀ i,l.getD i 0<256) (h:RowAt w g (wosA s)) (hB:BytesAt w b 0 l) (hbg:b≠g) :
  Calls Tryz.prog 175 #[.pointer (some ⟨g,0,none⟩),.int .i64 (a:Int),.slice (some ⟨b,0,none⟩) n cap] w fun e w'=>e=.returned (.tuple #[])∧Sets w g (wosA (wput s a l n)) w':=by
 have H:=Lib.hid h
 have HB:=Lib.hid hB
 have Hn:=Lib.hid hn
 have S0:=Lib.hid (show Sets w g (wosA (wput s a l 0)) w by rw[wput_zero s a l hs hz];exact Sets.refl h)
 clear h hB hn hs hz
 go_enter Tryz.func175,Tryz.ntmps175
 go_wp2_with fail
 go_loopw [10] (fun i wr=>∃ k:Nat,k≤n∧i=.int .i64 k∧Sets w g (wosA (wput s a l k)) wr) (fun i _=>n-(intOf i).toNat)
 case atStart=>exact⟨0,by omega,rfl,S0.out⟩
 case round =>
  obtain⟨k,hk,rfl,hset⟩:=hrel
  by_cases hkn:k<n
  ·have hk0:(0:Int)≤(k:Int):=by omega
   have hk1:(k:Int)<(n:Int):=by omega
   have hkl:k<l.length:=by rw[←Hn.out];exact hkn
   have hrow:=hset.row H.out
   have hcb:wr.cell? ⟨b,k,none⟩=some (.int .u8 ((l.getD k 0:Nat):Int)):=by
    have:=(hset.bytes HB.out hbg).2 k hkl
    rwa [Nat.zero_add] at this
   have hq:(k:Int).tdiv 4=((k/4:Nat):Int):=rfl
   have hm:(k:Int).tmod 4=((k%4:Nat):Int):=rfl
   have hc:=hrow.cellAt (a+k/4) (wosA_get' _ _ (wput_get s a l k (a+k/4) (by omega)))
   rw[if_neg (by omega),show a+k/4-a=k/4 by omega,show k-4*(k/4)=k%4 by omega] at hc
   have hf:=hrow.frozenAt (a+k/4)
   have hst:=wput_step l hlb k
   have Hset:=Lib.hid (wput_set s a l k (by omega))
   have hlt:=hlb k
   generalize l.getD k 0=y at hcb hst hlt
   have hyw:IntKind.u32.wrap (y:Int)=(y:Int):=IntWalk.u32_in _ (by omega)
   have hm3:k%4<4:=by omega
   generalize pkl l (k/4) (k%4)=p at hc hst
   generalize ((pkl l (k/4) (k%4+1):Nat):Int)=p' at hst Hset
   have hq4:a+k/4<16:=by omega
   generalize k/4=q at *
   generalize k%4=r at *
   obtain⟨x,ex⟩:∃ x,x=a+q:=⟨_,rfl⟩
   rw[←ex] at hc hf hq4 Hset
   have hqw:IntKind.i64.wrap (q:Int)=(q:Int):=IntWalk.i64_in _ (by omega)
   have hx:IntKind.i64.wrap ((a:Int)+(q:Int))=(x:Int):=by rw[IntWalk.i64_in _ (by omega)];omega
   have hx0:(0:Int)≤(x:Int):=by omega
   have hx1:(x:Int)<16:=by omega
   obtain⟨m,em⟩:∃ m,m=r*8:=⟨_,rfl⟩
   rw[←em] at hst
   have hmw:IntKind.i64.wrap ((r:Int)*8)=(m:Int):=by rw[IntWalk.i64_in _ (by omega)];omega
   have hm0:(0:Int)≤(m:Int):=by omega
   have hm1:(m:Int)≤32:=by omega
   have Hset2:=Lib.hid hset
   have hgl:=hrow.2.2
   clear ex em hset hrow hkl
   go_wp2_with fail
   refine wp_region_pick wr [0,1,2,3,4,5,6,7,8,9,10,11,12,13,14,15,16] [false,false,false,false,false,false,false,false,false,false,false,false,false,false,false,false,false] [] [] 17 (by kernel_rfl) rfl (by kernel_rfl) (by intro c a d v w h;cases d<;>exact h) ((Below.refl _ _).drew) ?_
   simp only[pick,List.getElem?_cons_succ,List.getElem?_cons_zero,List.drop_succ_cons,List.drop_zero]
   iterate 17 (refine wpHoldF_val (wanted_none rfl) (by intro K o d hK;go_simp;exact hK _ (Below.refl _ _)) ?_)
   refine wpHoldF_nil ?_
   intro w2 hb2 _
   have S2:=Lib.hid (Hset2.out.grow hb2)
   have hc2:w2.cell? ⟨g,x,none⟩=some (.int .u32 (p:Int)):=by rw[hb2.cell hgl];exact hc
   have hf2:=(S2.out.row H.out).frozenAt x
   clear hb2 hc hf Hset2
   go_wp2_with fail
   go_roundw
   case rel =>
    refine⟨k+1,by omega,by go_num,?_⟩
    rw[←Hset.out,←wosA_set];exact S2.out.cell H.out
   case measure=>simp[intOf];omega
  ·obtain rfl:k=n:=by omega
   have HS:=Lib.hid hset
   clear hset
   go_wp2_with fail
   go_end0
   exact⟨rfl,HS.out⟩
end Go.Proofs.YtddmjddlbhdcpaaGreatDoor

namespace Go.Proofs.YtddmjddlbhdcpaaGreatDoor
open Go.RowKit Go.Hold Go.Sh Go.Ch
theorem quart_eq (s:List Int) (i j k l:Nat):quart s i j k l=(((s.set i (qr (s.getD i 0) (s.getD j 0) (s.getD k 0) (s.getD l 0)).a).set j (qr (s.getD i 0) (s.getD j 0) (s.getD k 0) (s.getD l 0)).b).set k (qr (s.getD i 0) (s.getD j 0) (s.getD k 0) (s.getD l 0)).c).set l (qr (s.getD i 0) (s.getD j 0) (s.getD k 0) (s.getD l 0)).d:=rfl
theorem wos_cell {w:World} {g:Nat} {s:List Int} (h:RowAt w g (wosA s)) (i:Nat) (hi:i<s.length):w.cell? ⟨g,i,none⟩=some (.int .u32 (s.getD i 0)):=h.cellAt i (wosA_get s i hi)
set_option maxHeartbeats 1000000 in
set_option maxRecDepth 100000 in
theorem quarter_c (g i j k l:Nat) (s:List Int) (w:World) (hs:s.length=16) (hi:i<j) (hj:j<k) (hk:k<l) (hl:l<16) (h:RowAt w g (wosA s)) :
  Calls Tryz.prog 176 #[.pointer (some ⟨g,0,none⟩),.int .i64 (i:Int),.int .i64 (j:Int),.int .i64 (k:Int),.int .i64 (l:Int)] w fun e w'=>e=.returned (.tuple #[])∧Sets w g (wosA (quart s i j k l)) w':=by
 have H:=Lib.hid h
 have Hq:=Lib.hid (quart_eq s i j k l)
 have Hs:=Lib.hid hs
 have hi0:(0:Int)≤(i:Int):=by omega
 have hi1:(i:Int)<16:=by omega
 have hj0:(0:Int)≤(j:Int):=by omega
 have hj1:(j:Int)<16:=by omega
 have hk0:(0:Int)≤(k:Int):=by omega
 have hk1:(k:Int)<16:=by omega
 have hl0:(0:Int)≤(l:Int):=by omega
 have hl1:(l:Int)<16:=by omega
 have hci:=wos_cell h i (by omega)
 have hcj:=wos_cell h j (by omega)
 have hck:=wos_cell h k (by omega)
 have hcl:=wos_cell h l (by omega)
 have hgl:=h.2.2
 generalize s.getD i 0=a0 at *
 generalize s.getD j 0=b0 at *
 generalize s.getD k 0=c0 at *
 generalize s.getD l 0=d0 at *
 have n1:¬i=j:=by omega
 have n2:¬i=k:=by omega
 have n3:¬i=l:=by omega
 have n4:¬j=k:=by omega
 have n5:¬j=l:=by omega
 have n6:¬k=l:=by omega
 clear h hs
 go_enter Tryz.func176,Tryz.ntmps176
 go_wp2_with fail
 refine wp_region_fast (fun w'=>∃ o d,w'=w.plus o d) (by kernel_rfl) (by kernel_rfl) ⟨#[],_,rfl⟩ ?_
 iterate 24 (refine wpHold_val ⟨_,#[],0,rfl⟩ (wanted_none rfl) (by rintro K _ ⟨o,d,rfl⟩ hK;go_simp;exact hK _ ⟨o,d,rfl⟩) ?_)
 refine wpHold_nil ?_
 rintro _ ⟨o1,n1,rfl⟩
 have S1:=Lib.hid ((Sets.refl H.out).grow (below_more (Below.refl _ _) o1 n1))
 clear hci hcj hck hcl
 generalize w.plus o1 n1=W1 at *
 go_wp2_with fail
 refine(rotP_16 _ _).mono ?_
 rintro e w' ⟨rfl,hwE⟩
 rw[hwE]
 clear hwE w'
 go_wp2_with fail
 refine(rotP_12 _ _).mono ?_
 rintro e w' ⟨rfl,hwE⟩
 rw[hwE]
 clear hwE w'
 go_wp2_with fail
 refine(rotP_8 _ _).mono ?_
 rintro e w' ⟨rfl,hwE⟩
 rw[hwE]
 clear hwE w'
 go_wp2_with fail
 refine(rotP_7 _ _).mono ?_
 rintro e w' ⟨rfl,hwE⟩
 rw[hwE]
 clear hwE w'
 go_wp2_with fail
 refine wp_region_pickT W1 [0,1,2,3,4,5,6,7,8,9,10,11,12,15,18,21] [true,true,true,true,true,true,true,true,true,true,true,true,true,true,true,true] [13,14,16,17,19,20,22,23] (by kernel_rfl) (by kernel_rfl) (by intro c a d v w h;cases d<;>exact h) ((Below.refl _ _).drew) ?_
 simp only[pick,List.getElem?_cons_succ,List.getElem?_cons_zero]
 iterate 16 (refine wpHoldF_late (wanted_none rfl) (fun w=>by go_simp;rfl) ?_)
 refine wpHoldF_nil ?_
 intro W2 hb2
 have S2:=Lib.hid (S1.out.grow hb2)
 have R2:=S2.out.row H.out
 have hci:=wos_cell R2 i (by rw[Hs.out];omega)
 have hcj:=wos_cell R2 j (by rw[Hs.out];omega)
 have hck:=wos_cell R2 k (by rw[Hs.out];omega)
 have hcl:=wos_cell R2 l (by rw[Hs.out];omega)
 have hfi:=R2.frozenAt i
 have hfj:=R2.frozenAt j
 have hfk:=R2.frozenAt k
 have hfl:=R2.frozenAt l
 clear hb2 R2 S1
 go_wp2_with fail
 go_end0
 refine⟨rfl,?_⟩
 have h4:=(((S2.out.cell (i:=i) (v:=.int .u32 (qr a0 b0 c0 d0).a) H.out).cell (i:=j) (v:=.int .u32 (qr a0 b0 c0 d0).b) H.out).cell (i:=k) (v:=.int .u32 (qr a0 b0 c0 d0).c) H.out).cell (i:=l) (v:=.int .u32 (qr a0 b0 c0 d0).d) H.out
 rw[wosA_set,wosA_set,wosA_set,wosA_set,←Hq.out] at h4
 exact h4
end Go.Proofs.YtddmjddlbhdcpaaGreatDoor

namespace Go.Proofs.YtddmjddlbhdcpaaGreatDoor
open Go.RowKit Go.Hold Go.Sh Go.Ch
set_option maxHeartbeats 1000000 in
set_option maxRecDepth 100000 in
theorem doubleRound_c (g:Nat) (s:List Int) (w:World) (hs:s.length=16) (h:RowAt w g (wosA s)) :
  Calls Tryz.prog 165 #[.pointer (some ⟨g,0,none⟩)] w fun e w'=>e=.returned (.tuple #[])∧Sets w g (wosA (drnd s)) w':=by
 have H:=Lib.hid h
 have Hs:=Lib.hid hs
 clear h hs
 go_enter Tryz.func165,Tryz.ntmps165
 go_wp2_with fail
 go_loopw [4] (fun i wr=>∃ n:Nat,n≤4∧i=.int .i64 n∧Sets w g (wosA (cols s n)) wr) (fun i _=>4-(intOf i).toNat)
 case atStart=>exact⟨0,by decide,rfl,Sets.refl H.out⟩
 case round =>
  obtain⟨n,hn,rfl,hset⟩:=hrel
  by_cases hn4:n<4
  ·have hn0:(n:Int)<4:=by omega
   have h1:IntKind.i64.wrap (4+(n:Int))=((4+n:Nat):Int):=by rw[IntWalk.i64_in _ (by omega)];omega
   have h2:IntKind.i64.wrap (8+(n:Int))=((8+n:Nat):Int):=by rw[IntWalk.i64_in _ (by omega)];omega
   have h3:IntKind.i64.wrap (12+(n:Int))=((12+n:Nat):Int):=by rw[IntWalk.i64_in _ (by omega)];omega
   have HQ:=Lib.hid (quarter_c g n (4+n) (8+n) (12+n) (cols s n) wr (by rw[cols_length,Hs.out]) (by omega) (by omega) (by omega) (by omega) (hset.row H.out))
   have HE:=Lib.hid (show cols s (n+1)=quart (cols s n) n (4+n) (8+n) (12+n) from rfl)
   generalize ((4+n:Nat):Int)=x1 at *
   generalize ((8+n:Nat):Int)=x2 at *
   generalize ((12+n:Nat):Int)=x3 at *
   have HS:=Lib.hid hset
   clear hset
   go_wp2_with fail
   refine HQ.out.mono ?_
   rintro e W ⟨rfl,hW⟩
   have HW:=Lib.hid (HS.out.trans H.out hW)
   clear hW
   go_wp2_with fail
   go_roundw
   case rel=>exact⟨n+1,by omega,by go_num,by rw[HE.out];exact HW.out⟩
   case measure=>simp[intOf];omega
  ·obtain rfl:n=4:=by omega
   have HS:=Lib.hid hset
   clear hset
   rw[show ((4:Nat):Int)=4 from rfl]
   go_wp2_with fail
   obtain⟨W2,eW2⟩:∃ x,x=wr:=⟨_,rfl⟩
   rw[←eW2] at HS ⊢
   clear eW2
   go_loopw [17] (fun i wr=>∃ n:Nat,n≤4∧i=.int .i64 n∧Sets w g (wosA (dias (cols s 4) n)) wr) (fun i _=>4-(intOf i).toNat)
   case atStart=>exact⟨0,by decide,rfl,HS.out⟩
   case round =>
    obtain⟨n,hn,rfl,hset⟩:=hrel
    by_cases hn4:n<4
    ·have hn0:(n:Int)<4:=by omega
     have h1:IntKind.i64.wrap ((n:Int)+1)=((n+1:Nat):Int):=by rw[IntWalk.i64_in _ (by omega)];omega
     have h2:IntKind.i64.wrap ((n:Int)+2)=((n+2:Nat):Int):=by rw[IntWalk.i64_in _ (by omega)];omega
     have h3:IntKind.i64.wrap ((n:Int)+3)=((n+3:Nat):Int):=by rw[IntWalk.i64_in _ (by omega)];omega
     have t1:((n+1:Nat):Int).tmod 4=(((n+1)%4:Nat):Int):=rfl
     have t2:((n+2:Nat):Int).tmod 4=(((n+2)%4:Nat):Int):=rfl
     have t3:((n+3:Nat):Int).tmod 4=(((n+3)%4:Nat):Int):=rfl
     have m1:IntKind.i64.wrap (4+(((n+1)%4:Nat):Int))=((4+(n+1)%4:Nat):Int):=by rw[IntWalk.i64_in _ (by omega)];omega
     have m2:IntKind.i64.wrap (8+(((n+2)%4:Nat):Int))=((8+(n+2)%4:Nat):Int):=by rw[IntWalk.i64_in _ (by omega)];omega
     have m3:IntKind.i64.wrap (12+(((n+3)%4:Nat):Int))=((12+(n+3)%4:Nat):Int):=by rw[IntWalk.i64_in _ (by omega)];omega
     have HQ:=Lib.hid (quarter_c g n (4+(n+1)%4) (8+(n+2)%4) (12+(n+3)%4) (dias (cols s 4) n) wr (by rw[dias_length,cols_length,Hs.out]) (by omega) (by omega) (by omega) (by omega) (hset.row H.out))
     have HE:=Lib.hid (show dias (cols s 4) (n+1)=quart (dias (cols s 4) n) n (4+(n+1)%4) (8+(n+2)%4) (12+(n+3)%4) from rfl)
     generalize ((4+(n+1)%4:Nat):Int)=x1 at *
     generalize ((8+(n+2)%4:Nat):Int)=x2 at *
     generalize ((12+(n+3)%4:Nat):Int)=x3 at *
     generalize (((n+1)%4:Nat):Int)=y1 at *
     generalize (((n+2)%4:Nat):Int)=y2 at *
     generalize (((n+3)%4:Nat):Int)=y3 at *
     generalize ez1:((n+1:Nat):Int)=z1 at *
     have Ez1:=Lib.hid ez1
     clear ez1
     generalize ((n+2:Nat):Int)=z2 at *
     generalize ((n+3:Nat):Int)=z3 at *
     have HS:=Lib.hid hset
     clear hset
     go_wp2_with fail
     refine HQ.out.mono ?_
     rintro e W ⟨rfl,hW⟩
     have HW:=Lib.hid (HS.out.trans H.out hW)
     clear hW
     go_wp2_with fail
     go_roundw
     case rel=>exact⟨n+1,by omega,by rw[Ez1.out],by rw[HE.out];exact HW.out⟩
     case measure=>have:=Ez1.out;simp[intOf];omega
    ·obtain rfl:n=4:=by omega
     have HS:=Lib.hid hset
     clear hset
     go_wp2_with fail
     go_end0
     exact⟨rfl,HS.out⟩
set_option maxHeartbeats 1000000 in
set_option maxRecDepth 100000 in
theorem wblock_c (s:List Int) (hs:s.length=16) (w:World) :
  Calls Tryz.prog 166 #[.agg (wosA s)] w fun e w'=>e=.returned (.agg (bysA (outB s)))∧Below w.heap.size w w':=by
 have hsz:=wosA_size' hs
 go_enter Tryz.func166,Tryz.ntmps166
 go_wp2_with fail
 generalize hW:World.alloc _ _=W1
 have R0:=Lib.hid (show RowAt W1 w.heap.size (wosA s) by rw[←hW];clear hW;exact⟨by go_simp,by go_simp,by go_simp⟩)
 have Q0:=Lib.hid (show RowAt W1 (w.heap.size+1) (bysA (outP s 0)) by rw[←hW,outP_zero];clear hW;exact⟨by go_simp,by go_simp;rfl,by go_simp⟩)
 have K0:=Lib.hid (show RowAt W1 (w.heap.size+1+1) (bysA (outP s 0)) by rw[←hW,outP_zero];clear hW;exact⟨by go_simp,by go_simp;rfl,by go_simp⟩)
 have B0:=Lib.hid (show Below w.heap.size w W1 by rw[←hW];repeat (first | apply below_more | apply below_alloc | apply Below.drew | exact Below.refl _ _))
 clear hW
 go_loopw [5] (fun i wr=>∃ k:Nat,k≤64∧i=.int .i64 k∧RowAt wr (w.heap.size+1+1) (bysA (outP s k))∧Below (w.heap.size+1+1) W1 wr) (fun i _=>64-(intOf i).toNat)
 case atStart=>exact⟨0,by decide,rfl,K0.out,Below.refl _ _⟩
 case round =>
  obtain⟨k,hk,rfl,hrow,hbel⟩:=hrel
  by_cases hk64:k<64
  ·have hk0:(0:Int)≤(k:Int):=by omega
   have hk1:(k:Int)<64:=by omega
   have hq:(k:Int).tdiv 4=((k/4:Nat):Int):=rfl
   have hm:(k:Int).tmod 4=((k%4:Nat):Int):=rfl
   have hc:=wos_cell (R0.out.keep hbel (by omega)) (k/4) (by omega)
   have hck:=hrow.cellAt k (bysA_get _ k (by rw[outP_length];exact hk64))
   have hfk:=hrow.frozenAt k
   have Hset:=Lib.hid (outP_set s k hk64)
   have h0:(0:Int)≤((k/4:Nat):Int):=by omega
   have h8:((k/4:Nat):Int)<16:=by omega
   obtain⟨m,em⟩:∃ y,y=k%4*8:=⟨_,rfl⟩
   have h1:IntKind.i64.wrap (((k%4:Nat):Int)*8)=(m:Int):=by rw[IntWalk.i64_in _ (by omega)];omega
   have hm0:(0:Int)≤(m:Int):=by omega
   have hm1:(m:Int)≤32:=by omega
   obtain⟨v,ev⟩:∃ v,v=oB s k:=⟨_,rfl⟩
   rw[←ev] at Hset
   have hv:s.getD (k/4) 0/2^m%256=(v:Int):=by rw[ev,oI_nat,em];rfl
   clear em ev
   generalize s.getD (k/4) 0=x at hc hv
   have hqw:IntKind.i64.wrap ((k/4:Nat):Int)=((k/4:Nat):Int):=IntWalk.i64_in _ (by omega)
   generalize k/4=q at *
   generalize k%4=r4 at *
   have Hrow:=Lib.hid hrow
   have Hbel:=Lib.hid hbel
   clear hrow hbel
   go_wp2_with fail
   go_roundw
   case rel =>
    refine⟨k+1,by omega,by go_num,?_,?_⟩
    ·rw[←Hset.out,←bysA_set];exact Hrow.out.setCell _ _
    ·exact Hbel.out.setCell (p:=⟨_,_,none⟩) (Nat.le_refl _) _
   case measure=>simp[intOf];omega
  ·obtain rfl:k=64:=by omega
   rw[outP_all] at hrow
   obtain⟨q1,q2,q3⟩:=Q0.out.keep hbel (by omega)
   obtain⟨r1,r2,r3⟩:=hrow
   have hz:=bysA_size' (outP_length s 0)
   have hy:=bysA_size' (outB_length s)
   have Hbel:=Lib.hid hbel
   clear hbel
   go_wp2_with fail
   refine bodyPost_ret (v:=.agg (bysA (outB s))) (results_b64 Tryz.results166 hy _ _ _ rfl (by go_simp) (by go_simp)) rfl ⟨rfl,?_⟩
   exact below_setRow (B0.out.trans (Hbel.out.mono (by omega))) (by omega) _
end Go.Proofs.YtddmjddlbhdcpaaGreatDoor

namespace Go.Proofs.YtddmjddlbhdcpaaGreatDoor
open Go.RowKit Go.Hold Go.Sh Go.Ch
set_option maxHeartbeats 1000000 in
set_option maxRecDepth 100000 in
theorem firstWords_c (k n:List Nat) (c:Int) (hk:k.length=32) (hkb:∀ i,k.getD i 0<256) (hn:n.length=12) (hnb:∀ i,n.getD i 0<256) (w:World) :
  Calls Tryz.prog 164 #[.agg (bysA k),.agg (bysA n),.int .u32 c] w fun e w'=>e=.returned (.agg (wosA (fst k n c)))∧Below w.heap.size w w':=by
 have hks:=bysA_size' hk
 have hns:=bysA_size' hn
 have hcs:=wosA_size' cst0_length
 go_enter Tryz.func164,Tryz.ntmps164
 go_wp2_with fail
 generalize hW:World.alloc _ _=W1
 have K1:=Lib.hid (show RowAt W1 w.heap.size (bysA k) by rw[←hW];clear hW;exact⟨by go_simp,by go_simp,by go_simp⟩)
 have N1:=Lib.hid (show RowAt W1 (w.heap.size+1) (bysA n) by rw[←hW];clear hW;exact⟨by go_simp,by go_simp,by go_simp⟩)
 obtain⟨z0,hz0,hR0⟩:∃ c:Array Value,c.size=16∧RowAt W1 (w.heap.size+1+1) c:=by rw[←hW];clear hW;exact⟨wosA (List.replicate 16 0),by rw[wosA_size];rfl,by go_simp,by go_simp;rfl,by go_simp⟩
 have C1:=Lib.hid (show RowAt W1 (w.heap.size+1+1+1) (wosA cst0) by rw[←hW];clear hW;exact⟨by go_simp,by go_simp,by go_simp⟩)
 have B1:=Lib.hid (show Below w.heap.size w W1 by rw[←hW];repeat (first | apply below_more | apply below_alloc | apply Below.drew | exact Below.refl _ _))
 have R1:=Lib.hid hR0
 clear hW hR0
 have l0:w.heap.size≤w.heap.size+1+1+1:=by omega
 have l1:w.heap.size≤w.heap.size+1+1:=by omega
 have e0:w.heap.size≠w.heap.size+1+1+1:=by omega
 have e1:w.heap.size+1≠w.heap.size+1+1+1:=by omega
 have e2:w.heap.size+1+1≠w.heap.size+1+1+1:=by omega
 generalize w.heap.size+1+1+1=gc at *
 generalize w.heap.size+1+1=gr at *
 generalize w.heap.size+1=gn at *
 have HP:=Lib.hid (put_c gc w.heap.size 4 32 32 cst0 k W1 hk.symm cst0_length cst0_zero (by decide) hkb C1.out (bytes_row K1.out) e0)
 refine HP.out.mono ?_
 rintro e W2 ⟨rfl,hS2⟩
 have N2:=Lib.hid (hS2.old N1.out e1)
 have R2:=Lib.hid (hS2.old R1.out e2)
 have C2:=Lib.hid (hS2.row C1.out)
 have B2:=Lib.hid (hS2.below B1.out l0 B1.out.size)
 clear hS2 HP K1 N1 R1 C1 B1
 have hc12:=wos_cell C2.out 12 (by rw[wput_length];decide)
 have hf12:=C2.out.frozenAt 12
 have S3:=Lib.hid ((Sets.refl C2.out).cell (i:=12) (v:=.int .u32 c) C2.out)
 go_wp2_with fail
 generalize hW:World.setCell _ _ _=W3
 rw[hW] at S3
 clear hW hc12 hf12
 have hS3:=S3.out
 rw[wosA_set] at hS3
 have N3:=Lib.hid (hS3.old N2.out e1)
 have R3:=Lib.hid (hS3.old R2.out e2)
 have C3:=Lib.hid (show RowAt W3 gc (wosA (mid k c)) from hS3.row C2.out)
 have B3:=Lib.hid (hS3.below B2.out l0 B2.out.size)
 clear hS3 S3 N2 R2 C2 B2
 have HP:=Lib.hid (put_c gc gn 13 12 12 (mid k c) n W3 hn.symm (mid_length k c) (mid_zero k c) (by decide) hnb C3.out (bytes_row N3.out) e1)
 rw[nonce_in] at HP
 refine HP.out.mono ?_
 rintro e W4 ⟨rfl,hS4⟩
 obtain⟨r1,r2,r3⟩:=hS4.old R3.out e2
 obtain⟨c1,c2,c3⟩:=hS4.row C3.out
 have B4:=Lib.hid (hS4.below B3.out l0 B3.out.size)
 have hfz:=wosA_size' (fst_length k n c)
 clear hS4 HP N3 R3 C3 B3
 go_wp2_with fail
 refine bodyPost_ret (v:=.agg (wosA (fst k n c))) (results_cw Tryz.results164 hfz _ _ _ rfl (by go_simp) (by go_simp)) rfl ⟨rfl,?_⟩
 exact below_setRow B4.out l1 _
set_option maxHeartbeats 1000000 in
set_option maxRecDepth 100000 in
theorem chablock_c (k n:List Nat) (c:Nat) (hk:k.length=32) (hkb:∀ i,k.getD i 0<256) (hn:n.length=12) (hnb:∀ i,n.getD i 0<256) (w:World) :
  Calls Tryz.prog 139 #[.agg (bysA k),.agg (bysA n),.int .u32 (c:Int)] w fun e w'=>e=.returned (.agg (bysA (blk k n c)))∧Below w.heap.size w w':=by
 have hks:=bysA_size' hk
 have hns:=bysA_size' hn
 have HF:=Lib.hid (firstWords_c k n (c:Int) hk hkb hn hnb)
 have Hb:=Lib.hid (blk_eq k n c)
 have hlf:=fst_length k n (c:Int)
 generalize fst k n (c:Int)=F at *
 have hFs:=wosA_size' hlf
 have Hlf:=Lib.hid hlf
 clear hlf hk hkb hn hnb
 go_enter Tryz.func139,Tryz.ntmps139
 go_wp2_with fail
 generalize hW:World.alloc _ _=W1
 obtain⟨z0,hz0,hR0⟩:∃ c:Array Value,c.size=64∧RowAt W1 (w.heap.size+1+1) c:=by rw[←hW];clear hW;exact⟨bysA (zs 64),by rw[bysA_size];rfl,by go_simp,by go_simp;rfl,by go_simp⟩
 have R1:=Lib.hid hR0
 have B1:=Lib.hid (show Below w.heap.size w W1 by rw[←hW];repeat (first | apply below_more | apply below_alloc | apply Below.drew | exact Below.refl _ _))
 clear hW hR0
 have l1:w.heap.size≤w.heap.size+1+1:=by omega
 generalize w.heap.size+1+1=gr at *
 refine(HF.out _).mono ?_
 rintro e W2 ⟨rfl,hb2⟩
 have R2:=Lib.hid (R1.out.grow hb2)
 have B2:=Lib.hid (B1.out.trans (hb2.mono B1.out.size))
 clear hb2 R1 B1 HF
 have l2:w.heap.size≤W2.heap.size:=B2.out.size
 have l3:gr<W2.heap.size:=R2.out.2.2
 go_wp2_with fail
 generalize hW:World.alloc _ _=W3
 have F3:=Lib.hid (show RowAt W3 W2.heap.size (wosA F) by rw[←hW];clear hW;exact⟨by go_simp,by go_simp,by go_simp⟩)
 have C3:=Lib.hid (show RowAt W3 (W2.heap.size+1) (wosA F) by rw[←hW];clear hW;exact⟨by go_simp,by go_simp,by go_simp⟩)
 have R3:=Lib.hid (show RowAt W3 gr z0 by rw[←hW];exact R2.out.grow (below_alloc (below_alloc (Below.refl _ _) _) _))
 have B3:=Lib.hid (show Below w.heap.size w W3 by rw[←hW];exact below_alloc (below_alloc B2.out _) _)
 clear hW R2 B2
 have e1:gr≠W2.heap.size+1:=by omega
 have e2:W2.heap.size≠W2.heap.size+1:=by omega
 have l4:w.heap.size≤W2.heap.size+1:=by omega
 generalize W2.heap.size+1=gc at *
 generalize W2.heap.size=gf at *
 go_loopw [15] (fun i wr=>∃ m:Nat,m≤10∧i=.int .i64 m∧Sets W3 gc (wosA (drnds F m)) wr) (fun i _=>10-(intOf i).toNat)
 case atStart=>exact⟨0,by decide,rfl,Sets.refl C3.out⟩
 case round =>
  obtain⟨m,hm,rfl,hset⟩:=hrel
  by_cases hm10:m<10
  ·have hm0:(m:Int)<10:=by omega
   have HQ:=Lib.hid (doubleRound_c gc (drnds F m) wr (by rw[drnds_length,Hlf.out]) (hset.row C3.out))
   have HS:=Lib.hid hset
   clear hset
   go_wp2_with fail
   refine HQ.out.mono ?_
   rintro e W ⟨rfl,hW⟩
   have HW:=Lib.hid (HS.out.trans C3.out hW)
   clear hW
   go_wp2_with fail
   go_roundw
   case rel=>exact⟨m+1,by omega,by go_num,HW.out⟩
   case measure=>simp[intOf];omega
  ·obtain rfl:m=10:=by omega
   have hlD:(drnds F 10).length=16:=by rw[drnds_length,Hlf.out]
   have HlD:=Lib.hid hlD
   generalize drnds F 10=D at *
   have HS:=Lib.hid hset
   clear hset hlD
   rw[show ((10:Nat):Int)=10 from rfl]
   go_wp2_with fail
   have S4:=Lib.hid (show Sets W3 gc (wosA (sumW D F 0)) wr by rw[sumW_zero D F HlD.out];exact HS.out)
   obtain⟨W4,eW4⟩:∃ x,x=wr:=⟨_,rfl⟩
   rw[←eW4] at S4 ⊢
   clear eW4 HS
   go_loopw [19] (fun i wr=>∃ m:Nat,m≤16∧i=.int .i64 m∧Sets W3 gc (wosA (sumW D F m)) wr) (fun i _=>16-(intOf i).toNat)
   case atStart=>exact⟨0,by decide,rfl,S4.out⟩
   case round =>
    obtain⟨m,hm,rfl,hset⟩:=hrel
    by_cases hm16:m<16
    ·have hm0:(m:Int)<16:=by omega
     have hm1:(0:Int)≤(m:Int):=by omega
     have hrow:=hset.row C3.out
     have hca:=hrow.cellAt m (wosA_get' _ _ (sumW_get D F m m hm16))
     rw[if_neg (by omega)] at hca
     have hcb:=wos_cell (hset.old F3.out e2) m (by rw[Hlf.out];exact hm16)
     have Hset:=Lib.hid (sumW_set D F m hm16)
     generalize D.getD m 0=xd at hca Hset
     generalize F.getD m 0=xf at hcb Hset
     have hgl:=hrow.2.2
     have hgf:=(hset.old F3.out e2).2.2
     have HS:=Lib.hid hset
     clear hset hrow
     go_wp2_with fail
     refine wp_region_pick wr [0,1,2,3,4,5,6,7] [false,false,false,false,false,false,false,false] [] [] 8 (by kernel_rfl) rfl (by kernel_rfl) (by intro c a d v w h;cases d<;>exact h) ((Below.refl _ _).drew) ?_
     simp only[pick,List.getElem?_cons_succ,List.getElem?_cons_zero,List.drop_succ_cons,List.drop_zero]
     iterate 8 (refine wpHoldF_val (wanted_none rfl) (by intro K o d hK;go_simp;exact hK _ (Below.refl _ _)) ?_)
     refine wpHoldF_nil ?_
     intro w2 hb2 _
     have S2:=Lib.hid (HS.out.grow hb2)
     have hc2:w2.cell? ⟨gc,m,none⟩=some (.int .u32 xd):=by rw[hb2.cell hgl];exact hca
     have hf2:=(S2.out.row C3.out).frozenAt m
     clear hb2 hca hcb HS
     go_wp2_with fail
     go_roundw
     case rel =>
      refine⟨m+1,by omega,by go_num,?_⟩
      rw[←Hset.out,←wosA_set];exact S2.out.cell C3.out
     case measure=>simp[intOf];omega
    ·obtain rfl:m=16:=by omega
     rw[sumW_all] at hset
     obtain⟨c1,c2,c3⟩:=hset.row C3.out
     have hz:=wosA_size' (sum16_length D F)
     have HQ:=Lib.hid (wblock_c (sum16 D F) (sum16_length D F) wr)
     have R5:=Lib.hid (hset.old R3.out e1)
     have B5:=Lib.hid (hset.below B3.out l4 B3.out.size)
     clear hset
     go_wp2_with fail
     refine HQ.out.mono ?_
     rintro e W6 ⟨rfl,hb6⟩
     obtain⟨r1,r2,r3⟩:=R5.out.grow hb6
     have B6:=Lib.hid (B5.out.trans (hb6.mono B5.out.size))
     have hy:=bysA_size' (outB_length (sum16 D F))
     clear hb6
     go_wp2_with fail
     refine bodyPost_ret (v:=.agg (bysA (outB (sum16 D F)))) (results_b64 Tryz.results139 hy _ _ _ rfl (by go_simp) (by go_simp)) rfl ⟨by rw[Hb.out],?_⟩
     exact below_setRow B6.out l1 _
end Go.Proofs.YtddmjddlbhdcpaaGreatDoor

namespace Go.Proofs.YtddmjddlbhdcpaaGreatDoor
open Go.RowKit Go.Hold Go.Sh Go.Ch
set_option maxHeartbeats 400000 in
theorem blocksOf_c (n:Nat) (hn:n≤1000000) (w:World):Calls Tryz.prog 138 #[.int .i64 (n:Int)] w fun e w'=>e=.returned (.int .i64 (((n+63)/64:Nat):Int))∧w'=w:=by
 have h1:IntKind.i64.wrap ((n:Int)+64)=((n+64:Nat):Int):=by rw[IntWalk.i64_in _ (by omega)];omega
 have h2:IntKind.i64.wrap (((n+64:Nat):Int)-1)=((n+63:Nat):Int):=by rw[IntWalk.i64_in _ (by omega)];omega
 have h3:((n+63:Nat):Int).tdiv 64=(((n+63)/64:Nat):Int):=rfl
 have h4:IntKind.i64.wrap (((n+63)/64:Nat):Int)=(((n+63)/64:Nat):Int):=by rw[IntWalk.i64_in _ (by omega)]
 generalize (((n+63)/64:Nat):Int)=x at *
 generalize ((n+63:Nat):Int)=y at *
 generalize ((n+64:Nat):Int)=z at *
 go_enter Tryz.func138,Tryz.ntmps138
 go_wp2_with fail
 go_ret
 exact⟨rfl,rfl⟩
set_option maxHeartbeats 1000000 in
set_option maxRecDepth 100000 in
theorem stream_c (k n:List Nat) (c m:Nat) (hk:k.length=32) (hkb:∀ i,k.getD i 0<256) (hn:n.length=12) (hnb:∀ i,n.getD i 0<256) (hm:m≤65536) (hc:c+(m+63)/64≤4294967296) (hc':c<4294967296) (w:World) :
  Calls Tryz.prog 108 #[.agg (bysA k),.agg (bysA n),.int .u32 (c:Int),.int .i64 (m:Int)] w fun e w'=>∃ g,e=.returned (.tuple #[.slice (some ⟨g,0,none⟩) m m,.int .i64 0])∧RowAt w' g (bysA (strm k n c m))∧w.heap.size≤g∧Below w.heap.size w w':=by
 have hks:=bysA_size' hk
 have hns:=bysA_size' hn
 have h3:¬(m:Int)<0:=by omega
 have h4:¬(65536:Int)<(m:Int):=by omega
 have HB:=Lib.hid (blocksOf_c m (by omega))
 obtain⟨x,ex⟩:∃ x,x=(m+63)/64:=⟨_,rfl⟩
 rw[←ex] at HB hc
 have h5:IntKind.u64.wrap (c:Int)=(c:Int):=IntWalk.u64_in _ (by omega)
 have h6:IntKind.u64.wrap (x:Int)=(x:Int):=IntWalk.u64_in _ (by omega)
 have h7:IntKind.u64.wrap ((c:Int)+(x:Int))=((c+x:Nat):Int):=by rw[IntWalk.u64_in _ (by omega)];omega
 have h8:¬(4294967296:Int)<((c+x:Nat):Int):=by omega
 generalize ((c+x:Nat):Int)=y at *
 have Ex:=Lib.hid ex
 have Hc:=Lib.hid hc
 have Hm:=Lib.hid hm
 have hxb:(x:Int)≤2000:=by omega
 clear ex hc hm
 have hmk:=fun W=>run_mkS W m (by have:=Hm.out;omega)
 have HBl:=Lib.hid (fun c'=>chablock_c k n c' hk hkb hn hnb)
 clear hk hkb hn hnb
 go_enter Tryz.func108,Tryz.ntmps108
 go_wp2_with fail
 refine(HB.out _).mono ?_
 rintro e w' ⟨rfl,hwE⟩
 rw[hwE]
 clear hwE w'
 go_wp2_with fail
 generalize hW:World.alloc _ _=W1
 have K1:=Lib.hid (show RowAt W1 w.heap.size (bysA k) by rw[←hW];clear hW;exact⟨by go_simp,by go_simp,by go_simp⟩)
 have N1:=Lib.hid (show RowAt W1 (w.heap.size+1) (bysA n) by rw[←hW];clear hW;exact⟨by go_simp,by go_simp,by go_simp⟩)
 have S1:=Lib.hid (show RowAt W1 (w.heap.size+1+1) (bysA (strP k n c m (64*0))) by rw[←hW,Nat.mul_zero,strP_zero];clear hW;exact⟨by go_simp,by go_simp,by go_simp⟩)
 have B1:=Lib.hid (show Below w.heap.size w W1 by rw[←hW];repeat (first | apply below_more | apply below_alloc | apply Below.drew | exact Below.refl _ _))
 clear hW
 have l0:w.heap.size≤w.heap.size+1+1:=by omega
 have e0:w.heap.size≠w.heap.size+1+1:=by omega
 have e1:w.heap.size+1≠w.heap.size+1+1:=by omega
 generalize w.heap.size+1+1=g at *
 generalize w.heap.size+1=gn at *
 go_loopw [29] (fun i wr=>∃ j:Nat,j≤x∧i=.int .i64 j∧Sets W1 g (bysA (strP k n c m (64*j))) wr) (fun i _=>x-(intOf i).toNat)
 case atStart=>exact⟨0,Nat.zero_le _,rfl,Sets.refl S1.out⟩
 case round =>
  obtain⟨j,hj,rfl,hset⟩:=hrel
  by_cases hjx:j<x
  ·have hj0:(j:Int)<(x:Int):=by omega
   have hju:64*j<m:=by have:=Ex.out;omega
   have hjw:IntKind.u32.wrap (j:Int)=(j:Int):=IntWalk.u32_in _ (by have:=Hm.out;omega)
   obtain⟨cj,ecj⟩:∃ y,y=c+j:=⟨_,rfl⟩
   have hcj:add32 (c:Int) (j:Int)=(cj:Int):=by unfold add32;rw[IntWalk.u32_in _ (by have:=Hc.out;omega),ecj];omega
   obtain⟨k1,k2,k3⟩:=hset.old K1.out e0
   obtain⟨n1,n2,n3⟩:=hset.old N1.out e1
   have hgl:=(hset.row S1.out).2.2
   obtain⟨u,eu⟩:∃ u,u=64*j:=⟨_,rfl⟩
   have hjm:IntKind.i64.wrap ((j:Int)*64)=(u:Int):=by rw[IntWalk.i64_in _ (by have:=Hm.out;omega),eu];omega
   have hsl:=slB_lo g 0 m m u (by omega)
   rw[show adv 0 u m=u by unfold adv;rw[if_neg (by omega),Nat.zero_add]] at hsl
   obtain⟨t,et⟩:∃ t,t=min 64 (m-u):=⟨_,rfl⟩
   have Hst:=Lib.hid (strP_step k n c m j t hju (by rw[et,eu]))
   rw[←ecj,←eu] at Hst
   rw[←eu] at hset
   have hPl:=strP_length k n c m u
   have hbl:=blk_length k n cj
   have hbz:=bysA_size' hbl
   have HBj:=Lib.hid (HBl.out cj wr)
   generalize blk k n cj=b at *
   generalize strP k n c m u=P at *
   have Et:=Lib.hid et
   have Eu:=Lib.hid eu
   have HPl:=Lib.hid hPl
   have Hbl:=Lib.hid hbl
   have Hju:=Lib.hid hju
   have HS:=Lib.hid hset
   clear hset ecj eu et hPl hbl hju
   go_wp2_with fail
   refine HBj.out.mono ?_
   rintro e W2 ⟨rfl,hb2⟩
   have S2:=Lib.hid (HS.out.grow hb2)
   clear hb2 k1 k2 k3 n1 n2 n3
   go_wp2_with fail
   generalize hW:World.alloc _ _=W3
   have b3:=Lib.hid (show RowAt W3 W2.heap.size (bysA b) by rw[←hW];clear hW;exact⟨by go_simp,by go_simp,by go_simp⟩)
   have S3:=Lib.hid (show Sets W1 g (bysA P) W3 by rw[←hW];exact S2.out.grow (below_alloc (Below.refl _ _) _))
   clear hW S2
   generalize W2.heap.size=gb at *
   refine wp_region_pickT W3 [0,1,2,3,4] [true,true,true,true,true] [5] (by kernel_rfl) (by kernel_rfl) (by intro c a d v w h;cases d<;>exact h) ((Below.refl _ _).drew) ?_
   simp only[pick,List.getElem?_cons_succ,List.getElem?_cons_zero]
   iterate 5 (refine wpHoldF_late (wanted_none rfl) (fun w=>by go_simp;rfl) ?_)
   refine wpHoldF_nil ?_
   intro W4 hb4
   have S4:=Lib.hid (S3.out.grow hb4)
   have hcp:=copy_at (c2:=m-u) (cap:=64) (d:=m-u) (s:=64) (u:=u) (k:=t) (S4.out.row S1.out) (by rw[HPl.out,Eu.out];have:=Hju.out;omega) (by rw[HPl.out]) Hbl.out.symm (by rw[HPl.out,Hbl.out,Et.out]) (Bs0.some (bytes_row (b3.out.grow hb4)))
   rw[Hst.out] at hcp
   have S5:=Lib.hid (S4.out.set (c':=bysA (strP k n c m (64*(j+1)))) S1.out)
   generalize W4.setRow g (bysA (strP k n c m (64*(j+1))))=W5 at *
   clear hb4
   go_wp2_with fail
   go_roundw
   case rel=>exact⟨j+1,by omega,by go_num,S5.out⟩
   case measure=>simp[intOf];omega
  ·obtain rfl:j=x:=by omega
   have R2:=Lib.hid (hset.row S1.out)
   have B2:=Lib.hid (hset.below B1.out l0 B1.out.size)
   clear hset
   go_wp2_with fail
   refine bodyPost_ret (v:=.tuple #[.slice (some ⟨g,0,none⟩) m m,.int .i64 0]) (results_tmp2 Tryz.results108 _ _ _) rfl ⟨g,rfl,?_,l0,B2.out⟩
   have h1:=R2.out
   rw[strP_all k n c m _ (by have:=Ex.out;omega)] at h1
   exact h1
end Go.Proofs.YtddmjddlbhdcpaaGreatDoor

namespace Go.Proofs.YtddmjddlbhdcpaaGreatDoor
open Go.RowKit Go.Hold Go.Sh
@[go_sem ↓] theorem build_non (ps:Array (Nat × Value)):Instr.build 163 ps=bldA 163 ps:=rfl
set_option maxRecDepth 100000 in
@[go_sem] theorem run_bldNon0 (w:World):(bldA 163 #[]).run Tryz.prog w=.ok (.agg (bysA (zs 12))) w:=run_build w _ _ _ (by kernel_rfl)
end Go.Proofs.YtddmjddlbhdcpaaGreatDoor
