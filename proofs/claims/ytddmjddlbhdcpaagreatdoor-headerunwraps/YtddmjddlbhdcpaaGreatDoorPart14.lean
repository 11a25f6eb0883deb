/-
  Part 14 of the texts behind the theorem.
-/
import Derived.Test.YtddmjddlbhdcpaaGreatDoorPart13
import Derived.Test.YtddmjddlbhdcpaaGreatDoorPart12
import Derived.Test.YtddmjddlbhdcpaaGreatDoorPart11
import Derived.Test.YtddmjddlbhdcpaaGreatDoorPart9
import Derived.Test.YtddmjddlbhdcpaaGreatDoorPart10
namespace Go.Proofs.YtddmjddlbhdcpaaGreatDoor
open Go.RowKit Go.Hold Go.Sh Go.Ch Go.Cm Go.Hd
theorem Zkb {L:List Hop} (h:isRt L=true):ZdM L=L.map fun h=>h.c.enc:=by
 unfold isRt at h
 simp only[Bool.and_eq_true] at h
 unfold ZdM
 apply List.map_congr_left
 intro x hx
 unfold encV
 rw[if_pos (Zji h.2 x hx)]
theorem Zkh {L:List Hop} (h:isRt L=true):1≤L.length∧L.length≤5:=by
 unfold isRt at h
 simp only[Bool.and_eq_true,decide_eq_true_eq] at h
 exact h.1
theorem Zn8 {ss:List (List Nat)} {L:List Hop} (h:isRt L=true) (hok:∀h∈L,HopOk h) (hl:ss.length=L.length):(ZcN ss L).length=160∧∀ i,(ZcN ss L).getD i 0<256:=by
 have h15:=Zkh h
 have hce:∀c∈ZdM L,c.length=16:=fun c hc=>by
  obtain⟨h,hh,rfl⟩:=List.mem_map.1 hc
  exact ZcA (hok h hh).i
 have hcb:∀c∈ZdM L,∀ i,c.getD i 0<256:=fun c hc=>by
  obtain⟨h,hh,rfl⟩:=List.mem_map.1 hc
  exact ZeZ (hok h hh).ib
 have:=Zhe (ss:=ss) (cs:=ZdM L) (by unfold ZdM;rw[List.length_map,hl]) hce hcb 0 (by omega) (by omega)
 unfold ZcN
 rw[←Zkb h]
 exact this
theorem ZpI {L:List Hop} {fs:List (List Nat)} {a:List Nat} {ss:List (List Nat)} (h:secF fs a L=some ss):(∀ s∈ss,s.length=32)∧∀ s∈ss,∀ i,s.getD i 0<256 :=
 ⟨fun s hs=>by obtain⟨n,rfl,_⟩:=Zhk h s hs;exact ZaI _,fun s hs=>by obtain⟨n,rfl,_⟩:=Zhk h s hs;exact Zc1 _⟩
theorem OwnR.base {w:World} {B B' C:Nat} {e:TypeId} {v:Value} {ls:List (Array Value)} (h:OwnR w B e C v ls) (hB:B'≤B):OwnR w B' e C v ls:=by
 refine⟨⟨h.own.1,?_⟩,h.sizes⟩
 rcases h.own.2 with hn | ⟨g,cap,cur,e,hb,rest⟩
 ·exact .inl hn
 ·exact .inr ⟨g,cap,cur,e,Nat.le_trans hB hb,rest⟩
theorem Zh4 {w:World} {B gs n cs:Nat} {s:List Nat} {sr:List (List Nat)} (h:OwnR w B 23 32 (.slice (some ⟨gs,0,none⟩) n cs) ((s::sr).map bysA)) (hs:s.length=32) :
  (Zaq 23 (.pointer (some ⟨gs,0,none⟩))).run Tryz.prog w=.ok (.agg (bysA s)) w:=by
 obtain⟨g',o',e,_,hl⟩:=h.rows.load Tryz.underlying23 rfl (by kernel_rfl) (i:=0) (x:=bysA s) rfl (by rw[Zal,hs])
 obtain⟨p',c',e2,_,_,_,hp⟩:=h.form
 obtain⟨g2,rfl,_⟩:=hp (by simp)
 cases e2;cases e
 simpa using hl
def hdrT (x:List Nat) (L:List Hop):Option (List (List Nat))→List Nat
 | none=>zs 208
 | some ss=>puB x++ZcN ss L++prf (ss.headD []) (ZcN ss L)
set_option maxHeartbeats 2000000 in
set_option maxRecDepth 100000 in
theorem Zh7 (x:List Nat) (L:List Hop) (p:Option Addr) (n cap:Nat) (hx:x.length=32) (hok:∀h∈L,HopOk h) (hn:n=L.length) (hr:isRt L=false) (w:World) (hR:RowsAt 43 w p (hopR L)) :
  Calls Tryz.prog 11 #[.agg (bysA x),.slice p n cap] w fun e w'=>e=.returned (.tuple #[.agg (bysA (zs 208)),.slice none 0 0,.int .i64 14])∧Below w.heap.size w w':=by
 have hxs:=Zae hx
 have HI:=Lib.hid (fun (W:World) (hb:Below w.heap.size w W)=>Zif L p cap hok W (hR.grow hb))
 rw[hr,←hn] at HI
 clear hx hok hn hR hr
 go_enter Tryz.func11,Tryz.ntmps11
 go_wp2_with fail
 generalize hW:World.alloc _ _=W0
 have R0x0:=Lib.hid (show RowAt W0 (w.heap.size) (bysA x) by rw[←hW];clear hW;exact⟨by go_simp,by first | (go_simp;done) | (go_simp;rfl),by go_simp⟩)
 have R0x1:=Lib.hid (show RowAt W0 (w.heap.size+1) (bysA (zs 208)) by rw[←hW];clear hW;exact⟨by go_simp,by first | (go_simp;done) | (go_simp;rfl),by go_simp⟩)
 have B0:=Lib.hid (show Below w.heap.size w W0 by rw[←hW];repeat (first | apply Zab | exact Below.refl _ _))
 clear hW
 have hzs208:=Zae (Zah 208)
 have l_z:w.heap.size≤w.heap.size:=by omega
 have l_r:w.heap.size≤w.heap.size+1:=by omega
 have n_z_r:w.heap.size≠w.heap.size+1:=by omega
 generalize w.heap.size+1=r at *
 obtain⟨z,ez⟩:∃z,z=w.heap.size:=⟨_,rfl⟩
 rw[←ez] at R0x0 n_z_r ⊢
 have l_z:w.heap.size≤z:=by rw[ez];exact Nat.le_refl _
 clear ez
 refine(HI.out _ B0.out).mono ?_
 rintro e W1 ⟨rfl,hb1⟩
 have R1x0:=Lib.hid (R0x0.out.grow hb1)
 have R1x1:=Lib.hid (R0x1.out.grow hb1)
 have B1:=Lib.hid (B0.out.trans (hb1.mono B0.out.size))
 clear hb1 B0 R0x0 R0x1
 obtain⟨R1x0a,R1x0b,R1x0c⟩:=R1x0.out
 obtain⟨R1x1a,R1x1b,R1x1c⟩:=R1x1.out
 go_wp2_with fail
 refine bodyPost_ret (v:=.tuple #[.agg (bysA (zs 208)),.slice none 0 0,.int .i64 14]) (Zdn Tryz.results11 hzs208 _ _ _ rfl (by go_simp) (by go_simp) rfl rfl) rfl ⟨rfl,?_⟩
 exact Zac B1.out l_r _
set_option maxHeartbeats 2000000 in
set_option maxRecDepth 100000 in
theorem ZnA (x:List Nat) (L:List Hop) (p:Option Addr) (n cap:Nat) (hx:x.length=32) (hxb:∀i,x.getD i 0<256) (hok:∀h∈L,HopOk h) (hn:n=L.length) (hr:isRt L=true) (w:World) (hT:Tabs w) (hR:RowsAt 43 w p (hopR L)) :
  Calls Tryz.prog 11 #[.agg (bysA x),.slice p n cap] w fun e w'=>∃ v,e=.returned (.tuple #[.agg (bysA (hbH x L)),v,.int .i64 (hbE x L)])∧OwnR w' w.heap.size 23 32 v ((hbK x L).map bysA)∧Below w.heap.size w w':=by
 have hxs:=Zae hx
 have h15:=Zkh hr
 rw[←hn] at h15
 have HI:=Lib.hid (fun (W:World) (hb:Below w.heap.size w W)=>Zif L p cap hok W (hR.grow hb))
 rw[hr,←hn] at HI
 have HP:=Lib.hid (fun (W:World)=>Zf8 x hx hxb W)
 have hal:=Zbz x
 have halb:=ZfB x
 have hals:=Zae hal
 have HS:=Lib.hid (fun (W:World) (h:Tabs W) (hb:Below w.heap.size w W)=>show Calls Tryz.prog 33 #[.agg (bysA x),.agg (bysA (puB x)),.slice p n cap] W fun e w'=>∃ v,e=.returned (.tuple #[v,.int .i64 (secE (secF [x] (puB x) L))])∧OwnR w' w.heap.size 23 32 v (((secF [x] (puB x) L).getD []).map bysA)∧(∀ k,v.ownBlock=some k→W.heap.size≤k)∧Below W.heap.size W w' from (ZnB x (puB x) L p n cap hx hxb hal halb hok hn h15.2 W h (hR.grow hb)).mono (by rintro e w' ⟨v,rfl,hv,hb'⟩;exact⟨v,rfl,OwnR.base hv hb.size,fun k hk=>(OwnR.ltb hv k hk).1,hb'⟩))
 obtain⟨T,eT⟩:∃T,T=secF [x] (puB x) L:=⟨_,rfl⟩
 have HH:=Lib.hid (show hbH x L=hdrT x L T by unfold hbH hbS;rw[if_pos hr,eT];unfold hdrT;cases secF [x] (puB x) L<;>rfl)
 have HK:=Lib.hid (show hbK x L=T.getD [] by unfold hbK hbS;rw[if_pos hr,eT])
 have HE:=Lib.hid (show hbE x L=if T.isSome then 0 else 7 by unfold hbE hbS;rw[if_pos hr,eT])
 rw[HH.out,HK.out,HE.out]
 rw[←eT] at HS
 have HTn:=Lib.hid eT
 have HT:=Lib.hid hT
 clear hT eT HH HK HE
 cases T with
 | none =>
  rw[show secE none=7 from rfl] at HS
  rw[show (if (none:Option (List (List Nat))).isSome=true then (0:Int) else 7)=7 from rfl,show (none:Option (List (List Nat))).getD []=[] from rfl,show hdrT x L none=zs 208 from rfl]
  clear hx hxb hok hn hR hr h15 hal halb HTn
  generalize puB x=A at *
  go_enter Tryz.func11,Tryz.ntmps11
  go_wp2_with fail
  generalize hW:World.alloc _ _=W0
  have R0x0:=Lib.hid (show RowAt W0 (w.heap.size) (bysA x) by rw[←hW];clear hW;exact⟨by go_simp,by first | (go_simp;done) | (go_simp;rfl),by go_simp⟩)
  have R0x1:=Lib.hid (show RowAt W0 (w.heap.size+1) (bysA (zs 208)) by rw[←hW];clear hW;exact⟨by go_simp,by first | (go_simp;done) | (go_simp;rfl),by go_simp⟩)
  have B0:=Lib.hid (show Below w.heap.size w W0 by rw[←hW];repeat (first | apply Zab | exact Below.refl _ _))
  clear hW
  have hzs208:=Zae (Zah 208)
  have l_z:w.heap.size≤w.heap.size:=by omega
  have l_r:w.heap.size≤w.heap.size+1:=by omega
  have n_z_r:w.heap.size≠w.heap.size+1:=by omega
  generalize w.heap.size+1=r at *
  obtain⟨z,ez⟩:∃z,z=w.heap.size:=⟨_,rfl⟩
  rw[←ez] at R0x0 n_z_r ⊢
  have l_z:w.heap.size≤z:=by rw[ez];exact Nat.le_refl _
  clear ez
  refine(HI.out _ B0.out).mono ?_
  rintro e W1 ⟨rfl,hb1⟩
  have R1x0:=Lib.hid (R0x0.out.grow hb1)
  have R1x1:=Lib.hid (R0x1.out.grow hb1)
  have B1:=Lib.hid (B0.out.trans (hb1.mono B0.out.size))
  clear hb1 B0 R0x0 R0x1
  obtain⟨R1x0a,R1x0b,R1x0c⟩:=R1x0.out
  obtain⟨R1x1a,R1x1b,R1x1c⟩:=R1x1.out
  go_wp2_with fail
  refine(HP.out _).mono ?_
  rintro e W2 ⟨rfl,hb2⟩
  clear R1x0a R1x0b R1x0c R1x1a R1x1b R1x1c
  have R2x0:=Lib.hid (R1x0.out.grow hb2)
  have R2x1:=Lib.hid (R1x1.out.grow hb2)
  have B2:=Lib.hid (B1.out.trans (hb2.mono B1.out.size))
  clear hb2 B1 R1x0 R1x1
  obtain⟨R2x0a,R2x0b,R2x0c⟩:=R2x0.out
  obtain⟨R2x1a,R2x1b,R2x1c⟩:=R2x1.out
  go_wp2_with fail
  have n_z_al:z≠W2.heap.size:=Nat.ne_of_lt R2x0.out.2.2
  have n_r_al:r≠W2.heap.size:=Nat.ne_of_lt R2x1.out.2.2
  have l_al:w.heap.size≤W2.heap.size:=B2.out.size
  have hb3:=Zab (Below.refl W2.heap.size W2) (.cells (bysA A) 23)
  have N3:=Lib.hid (RowAt.of (Zas W2 (.cells (bysA A) 23)))
  have R3x0:=Lib.hid (R2x0.out.grow hb3)
  have R3x1:=Lib.hid (R2x1.out.grow hb3)
  have B3:=Lib.hid (B2.out.trans (hb3.mono B2.out.size))
  clear hb3 B2 R2x0 R2x1 R2x0a R2x0b R2x0c R2x1a R2x1b R2x1c
  generalize W2.heap.size=al at *
  generalize W2.alloc (.cells (bysA A) 23)=W3 at *
  refine(HS.out _ (HT.out.grow B3.out) B3.out).mono ?_
  rintro e W4 ⟨v,rfl,hv,hgk,hb4⟩
  have R4x0:=Lib.hid (R3x0.out.grow hb4)
  have R4x1:=Lib.hid (R3x1.out.grow hb4)
  have R4x2:=Lib.hid (N3.out.grow hb4)
  have B4:=Lib.hid (B3.out.trans (hb4.mono B3.out.size))
  clear hb4 B3 R3x0 R3x1 N3
  clear hv hgk
  obtain⟨R4x0a,R4x0b,R4x0c⟩:=R4x0.out
  obtain⟨R4x1a,R4x1b,R4x1c⟩:=R4x1.out
  obtain⟨R4x2a,R4x2b,R4x2c⟩:=R4x2.out
  go_wp2_with fail
  refine bodyPost_ret (v:=.tuple #[.agg (bysA (zs 208)),.slice none 0 0,.int .i64 7]) (Zdn Tryz.results11 hzs208 _ _ _ rfl (by go_simp) (by go_simp) rfl rfl) rfl ⟨_,rfl,OwnR.nil _ _ _ _,?_⟩
  exact Zac B4.out l_r _
 | some ss =>
  rw[show secE (some ss)=0 from rfl] at HS
  rw[show (if (some ss).isSome=true then (0:Int) else 7)=0 from rfl,show (some ss).getD []=ss from rfl,show hdrT x L (some ss)=puB x++ZcN ss L++prf (ss.headD []) (ZcN ss L) from rfl]
  have hsl:=ZfN HTn.out.symm
  have hsb:=ZpI HTn.out.symm
  have hb0:=Zn8 hr hok hsl
  have HF:=Lib.hid (fun (W:World) (h:Tabs W) (q:Option Addr) (c:Nat) (hb:Below w.heap.size w W) (hc:n≤c) (hq:RowsAt 32 W q (ss.map bysA))=>ZiQ ss L q p n c cap hsb.1 hsb.2 hok (by rw[hn,hsl]) hsl.symm h15.1 h15.2 hc W h hq (hR.grow hb))
  rw[show ZaX [] (ss.zip (ZdM L))=ZcN ss L by unfold ZcN;rw[Zkb hr]] at HF
  obtain⟨s0,sr,rfl⟩:∃s0 sr,ss=s0::sr:=by
   cases ss with
   | nil=>rw[List.length_nil] at hsl;omega
   | cons a b=>exact⟨a,b,rfl⟩
  have hs0:=hsb.1 s0 (by simp)
  have hs0s:=Zae hs0
  have HPr:=Lib.hid (fun (W:World) (h:Tabs W)=>Zhq s0 (ZcN (s0::sr) L) hs0 (hsb.2 s0 (by simp)) hb0.1 hb0.2 W h)
  have hbs:=Zae hb0.1
  have hpl:=Za6 s0 (ZcN (s0::sr) L)
  have hps:=Zae hpl
  have hbd:=fun W=>Zgp hal hb0.1 hpl W
  rw[show (s0::sr).headD []=s0 from rfl]
  have hHs:=Zae (show (puB x++ZcN (s0::sr) L++prf s0 (ZcN (s0::sr) L)).length=208 by rw[List.length_append,List.length_append,hal,hb0.1,hpl])
  have Hs0:=Lib.hid hs0
  have Hsl:=Lib.hid (show (s0::sr).length=n by rw[hsl,hn])
  have H15:=Lib.hid h15
  generalize puB x++ZcN (s0::sr) L++prf s0 (ZcN (s0::sr) L)=H at *
  generalize prf s0 (ZcN (s0::sr) L)=P at *
  generalize ZcN (s0::sr) L=B at *
  generalize puB x=A at *
  have hn0:0<n:=by omega
  have hz160:=Zae (Zah 160)
  clear hx hxb hok hn hR hr h15 hal halb HTn hsl hsb hb0 hs0 hpl
  go_enter Tryz.func11,Tryz.ntmps11
  go_wp2_with fail
  generalize hW:World.alloc _ _=W0
  have R0x0:=Lib.hid (show RowAt W0 (w.heap.size) (bysA x) by rw[←hW];clear hW;exact⟨by go_simp,by first | (go_simp;done) | (go_simp;rfl),by go_simp⟩)
  have R0x1:=Lib.hid (show RowAt W0 (w.heap.size+1) (bysA (zs 208)) by rw[←hW];clear hW;exact⟨by go_simp,by first | (go_simp;done) | (go_simp;rfl),by go_simp⟩)
  have B0:=Lib.hid (show Below w.heap.size w W0 by rw[←hW];repeat (first | apply Zab | exact Below.refl _ _))
  clear hW
  have hzs208:=Zae (Zah 208)
  have l_z:w.heap.size≤w.heap.size:=by omega
  have l_r:w.heap.size≤w.heap.size+1:=by omega
  have n_z_r:w.heap.size≠w.heap.size+1:=by omega
  generalize w.heap.size+1=r at *
  obtain⟨z,ez⟩:∃z,z=w.heap.size:=⟨_,rfl⟩
  rw[←ez] at R0x0 n_z_r ⊢
  have l_z:w.heap.size≤z:=by rw[ez];exact Nat.le_refl _
  clear ez
  refine(HI.out _ B0.out).mono ?_
  rintro e W1 ⟨rfl,hb1⟩
  have R1x0:=Lib.hid (R0x0.out.grow hb1)
  have R1x1:=Lib.hid (R0x1.out.grow hb1)
  have B1:=Lib.hid (B0.out.trans (hb1.mono B0.out.size))
  clear hb1 B0 R0x0 R0x1
  obtain⟨R1x0a,R1x0b,R1x0c⟩:=R1x0.out
  obtain⟨R1x1a,R1x1b,R1x1c⟩:=R1x1.out
  go_wp2_with fail
  refine(HP.out _).mono ?_
  rintro e W2 ⟨rfl,hb2⟩
  clear R1x0a R1x0b R1x0c R1x1a R1x1b R1x1c
  have R2x0:=Lib.hid (R1x0.out.grow hb2)
  have R2x1:=Lib.hid (R1x1.out.grow hb2)
  have B2:=Lib.hid (B1.out.trans (hb2.mono B1.out.size))
  clear hb2 B1 R1x0 R1x1
  obtain⟨R2x0a,R2x0b,R2x0c⟩:=R2x0.out
  obtain⟨R2x1a,R2x1b,R2x1c⟩:=R2x1.out
  go_wp2_with fail
  have n_z_al:z≠W2.heap.size:=Nat.ne_of_lt R2x0.out.2.2
  have n_r_al:r≠W2.heap.size:=Nat.ne_of_lt R2x1.out.2.2
  have l_al:w.heap.size≤W2.heap.size:=B2.out.size
  have hb3:=Zab (Below.refl W2.heap.size W2) (.cells (bysA A) 23)
  have N3:=Lib.hid (RowAt.of (Zas W2 (.cells (bysA A) 23)))
  have R3x0:=Lib.hid (R2x0.out.grow hb3)
  have R3x1:=Lib.hid (R2x1.out.grow hb3)
  have B3:=Lib.hid (B2.out.trans (hb3.mono B2.out.size))
  clear hb3 B2 R2x0 R2x1 R2x0a R2x0b R2x0c R2x1a R2x1b R2x1c
  generalize W2.heap.size=al at *
  generalize W2.alloc (.cells (bysA A) 23)=W3 at *
  have hrW:r<W3.heap.size:=R3x1.out.2.2
  refine(HS.out _ (HT.out.grow B3.out) B3.out).mono ?_
  rintro e W4 ⟨v,rfl,hv,hgk,hb4⟩
  have R4x0:=Lib.hid (R3x0.out.grow hb4)
  have R4x1:=Lib.hid (R3x1.out.grow hb4)
  have R4x2:=Lib.hid (N3.out.grow hb4)
  have B4:=Lib.hid (B3.out.trans (hb4.mono B3.out.size))
  clear hb4 B3 R3x0 R3x1 N3
  have hv':OwnR W4 _ 23 32 v ((s0::sr).map bysA):=hv
  clear hv
  obtain⟨ps,cs,rfl,hro,hcl,hx1,hpa⟩:=OwnR.form hv'
  clear hx1
  rw[List.length_map,Hsl.out] at hcl hv' ⊢
  obtain⟨gs,rfl,hgs⟩:=hpa (by simp)
  have HV4:=Lib.hid hv'
  have hRo:=Lib.hid hro
  have Hcl:=Lib.hid hcl
  have Hgr:=Lib.hid (show gs≠r by have:=hgk gs rfl;omega)
  clear hv' hro hcl hpa hgs hgk hrW
  obtain⟨R4x0a,R4x0b,R4x0c⟩:=R4x0.out
  obtain⟨R4x1a,R4x1b,R4x1c⟩:=R4x1.out
  obtain⟨R4x2a,R4x2b,R4x2c⟩:=R4x2.out
  go_wp2_with fail
  refine(HF.out _ (HT.out.grow B4.out) _ _ B4.out Hcl.out hRo.out).mono ?_
  rintro e W5 ⟨rfl,hb5⟩
  clear R4x0a R4x0b R4x0c R4x1a R4x1b R4x1c R4x2a R4x2b R4x2c
  have O5x0:=Lib.hid (HV4.out.grow hb5)
  clear HV4
  have R5x0:=Lib.hid (R4x0.out.grow hb5)
  have R5x1:=Lib.hid (R4x1.out.grow hb5)
  have R5x2:=Lib.hid (R4x2.out.grow hb5)
  have B5:=Lib.hid (B4.out.trans (hb5.mono B4.out.size))
  clear hb5 B4 R4x0 R4x1 R4x2
  clear hRo
  obtain⟨R5x0a,R5x0b,R5x0c⟩:=R5x0.out
  obtain⟨R5x1a,R5x1b,R5x1c⟩:=R5x1.out
  obtain⟨R5x2a,R5x2b,R5x2c⟩:=R5x2.out
  go_wp2_with fail
  have m0_bb:(Value.slice (some ⟨gs,0,none⟩) n cs).ownBlock≠some W5.heap.size:=fun e=>by have:=(O5x0.out.ltb _ e).2;omega
  have n_z_bb:z≠W5.heap.size:=Nat.ne_of_lt R5x0.out.2.2
  have n_r_bb:r≠W5.heap.size:=Nat.ne_of_lt R5x1.out.2.2
  have n_al_bb:al≠W5.heap.size:=Nat.ne_of_lt R5x2.out.2.2
  have l_bb:w.heap.size≤W5.heap.size:=B5.out.size
  have hb6:=Zab (Below.refl W5.heap.size W5) (.cells (bysA B) 27)
  have N6:=Lib.hid (RowAt.of (Zas W5 (.cells (bysA B) 27)))
  have O6x0:=Lib.hid (O5x0.out.grow hb6)
  clear O5x0
  have R6x0:=Lib.hid (R5x0.out.grow hb6)
  have R6x1:=Lib.hid (R5x1.out.grow hb6)
  have R6x2:=Lib.hid (R5x2.out.grow hb6)
  have B6:=Lib.hid (B5.out.trans (hb6.mono B5.out.size))
  clear hb6 B5 R5x0 R5x1 R5x2 R5x0a R5x0b R5x0c R5x1a R5x1b R5x1c R5x2a R5x2b R5x2c
  generalize W5.heap.size=bb at *
  generalize W5.alloc (.cells (bysA B) 27)=W6 at *
  have hk0:∀(o':Array Obj) (d':Nat),(Zaq 23 (.pointer (some ⟨gs,0,none⟩))).run Tryz.prog (W6.plus o' d')=.ok (.agg (bysA s0)) (W6.plus o' d'):=fun o' d'=>Zh4 (O6x0.out.grow (ZaM _ _ _ (Below.refl _ _) (Nat.le_refl _))) Hs0.out
  obtain⟨R6x0a,R6x0b,R6x0c⟩:=R6x0.out
  obtain⟨R6x1a,R6x1b,R6x1c⟩:=R6x1.out
  obtain⟨R6x2a,R6x2b,R6x2c⟩:=R6x2.out
  obtain⟨N6a,N6b,N6c⟩:=N6.out
  refine Zao W6 [0,1,2,3,4,5,6,7,8] [false,false,false,false,false,false,false,false,true] [] [] 9 (by kernel_rfl) rfl (by kernel_rfl) (by intro c a d v w h;cases d<;>exact h) (by first | exact(Below.refl _ _).drew | exact Below.refl _ _) ?_
  simp only[pick,List.getElem?_cons_succ,List.getElem?_cons_zero,List.drop_succ_cons,List.drop_zero]
  refine Zad (Zaa rfl) (by intro K o d hK;go_simp;exact hK _ (Below.refl _ _)) ?_
  refine Zad (Zaa rfl) (by intro K o d hK;go_simp;exact hK _ (Below.refl _ _)) ?_
  refine Zad (Zaa rfl) (by intro K o d hK;go_simp;exact hK _ (Below.refl _ _)) ?_
  refine Zad (Zaa rfl) (by intro K o d hK;go_simp;exact hK _ (Below.refl _ _)) ?_
  refine Zad (Zaa rfl) (by intro K o d hK;go_simp;exact hK _ (Below.refl _ _)) ?_
  refine Zad (Zaa rfl) (by intro K o d hK;go_simp;exact hK _ (Below.refl _ _)) ?_
  refine Zaj (v:=.agg (bysA P)) (Zaa rfl) (by intro K o d hK;go_simp;refine(HPr.out _ (HT.out.grow (ZaM _ _ _ B6.out B6.out.size))).mono ?_;rintro e w' ⟨rfl,hbw⟩;exact⟨_,rfl,hK _ hbw⟩) ?_
  refine Zad (Zaa rfl) (by intro K o d hK;go_simp;exact hK _ (Below.refl _ _)) ?_
  refine Zaz (Zaa rfl) (fun w=>by go_simp;rfl) ?_
  refine Zap ?_
  intro W7 hb7 hblk
  clear hblk
  clear R6x0a R6x0b R6x0c R6x1a R6x1b R6x1c R6x2a R6x2b R6x2c N6a N6b N6c
  have O7x0:=Lib.hid (O6x0.out.grow hb7)
  clear O6x0
  have R7x0:=Lib.hid (R6x0.out.grow hb7)
  have R7x1:=Lib.hid (R6x1.out.grow hb7)
  have R7x2:=Lib.hid (R6x2.out.grow hb7)
  have R7x3:=Lib.hid (N6.out.grow hb7)
  have B7:=Lib.hid (B6.out.trans (hb7.mono B6.out.size))
  clear hb7 B6 R6x0 R6x1 R6x2 N6
  obtain⟨R7x0a,R7x0b,R7x0c⟩:=R7x0.out
  obtain⟨R7x1a,R7x1b,R7x1c⟩:=R7x1.out
  obtain⟨R7x2a,R7x2b,R7x2c⟩:=R7x2.out
  obtain⟨R7x3a,R7x3b,R7x3c⟩:=R7x3.out
  go_wp2_with fail
  refine bodyPost_ret (v:=.tuple #[.agg (bysA H),.slice (some ⟨gs,0,none⟩) n cs,.int .i64 0]) (Zdn Tryz.results11 hHs _ _ _ rfl (by go_simp) (by go_simp) rfl rfl) rfl ⟨_,rfl,O7x0.out.setRow (fun e=>Hgr.out (by simpa [Value.ownBlock] using e)) _,?_⟩
  exact Zac B7.out l_r _
theorem Zq0 (x:List Nat) (L:List Hop) (p:Option Addr) (n cap:Nat) (hx:x.length=32) (hxb:∀i,x.getD i 0<256) (hok:∀h∈L,HopOk h) (hn:n=L.length) (w:World) (hT:Tabs w) (hR:RowsAt 43 w p (hopR L)) :
  Calls Tryz.prog 11 #[.agg (bysA x),.slice p n cap] w fun e w'=>∃ v,e=.returned (.tuple #[.agg (bysA (hbH x L)),v,.int .i64 (hbE x L)])∧OwnR w' w.heap.size 23 32 v ((hbK x L).map bysA)∧Below w.heap.size w w':=by
 cases hr:isRt L with
 | true=>exact ZnA x L p n cap hx hxb hok hn hr w hT hR
 | false =>
  have h1:hbH x L=zs 208:=by unfold hbH;rw[hr];rfl
  have h2:hbK x L=[]:=by unfold hbK;rw[hr];rfl
  have h3:hbE x L=14:=by unfold hbE;rw[hr];rfl
  rw[h1,h2,h3]
  refine(Zh7 x L p n cap hx hok hn hr w hR).mono ?_
  rintro e w' ⟨rfl,hb⟩
  exact⟨_,rfl,OwnR.nil _ _ _ _,hb⟩
set_option maxHeartbeats 1000000 in
set_option maxRecDepth 100000 in
theorem Zmg (H:List Nat) (hH:H.length=208) (w:World) :
  Calls Tryz.prog 23 #[.agg (bysA H)] w fun e w'=>∃ v,e=.returned v∧OwnB w' w.heap.size v H∧Below w.heap.size w w':=by
 have hHs:=Zae hH
 have Hl:=Lib.hid (show (H.take 32).length=32∧((H.drop 32).take 160).length=160∧((H.drop 192).take 16).length=16 from ⟨by simp[hH],by simp[hH],by simp[hH]⟩)
 have HJ:=Lib.hid (show H.take 32++(H.drop 32).take 160++(H.drop 192).take 16=H by
  rw[List.take_of_length_le (l:=H.drop 192) (by simp[hH]),List.append_assoc,show H.drop 192=(H.drop 32).drop 160 by rw[List.drop_drop],List.take_append_drop,List.take_append_drop])
 clear hH
 go_enter Tryz.func23,Tryz.ntmps23
 go_wp2_with fail
 generalize hW:World.alloc _ _=W0
 have R0x0:=Lib.hid (show RowAt W0 (w.heap.size) (bysA H) by rw[←hW];clear hW;exact⟨by go_simp,by first | (go_simp;done) | (go_simp;rfl),by go_simp⟩)
 have B0:=Lib.hid (show Below w.heap.size w W0 by rw[←hW];repeat (first | apply Zab | exact Below.refl _ _))
 clear hW
 have l_y:w.heap.size≤w.heap.size:=by omega
 obtain⟨y,ey⟩:∃z,z=w.heap.size:=⟨_,rfl⟩
 rw[←ey] at R0x0  ⊢
 have l_y:w.heap.size≤y:=by rw[ey];exact Nat.le_refl _
 clear ey
 refine ZaH W0 [0,1,2,3,4,5] [true,true,true,true,true,true] [6,7,8] (by kernel_rfl) (by kernel_rfl) (by intro c a d v w h;cases d<;>exact h) (by first | exact(Below.refl _ _).drew | exact Below.refl _ _) ?_
 simp only[pick,List.getElem?_cons_succ,List.getElem?_cons_zero]
 iterate 6 (refine Zaz (Zaa rfl) (fun w=>by go_simp;rfl) ?_)
 refine Zap ?_
 intro W1 hb1
 have R1x0:=Lib.hid (R0x0.out.grow hb1)
 have B1:=Lib.hid (B0.out.trans (hb1.mono B0.out.size))
 clear hb1 B0 R0x0
 go_wp2_with fail
 have hy:=(ZaG R1x0.out)
 have hp1:BytesAt W1 y 0 (H.take 32):=by have:=hy.mid 0 32;rwa [Nat.add_zero,List.drop_zero] at this
 have hp2:BytesAt W1 y 32 ((H.drop 32).take 160):=by have:=hy.mid 32 160;rwa [Nat.zero_add] at this
 have hp3:BytesAt W1 y 192 ((H.drop 192).take 16):=by have:=hy.mid 192 16;rwa [Nat.zero_add] at this
 have BA:=Zab (Below.refl W1.heap.size W1) (.cells #[.slice (some ⟨y,0,none⟩) 32 32,.slice (some ⟨y,32,none⟩) 160 160,.slice (some ⟨y,192,none⟩) 16 16] 38)
 refine(Zhz (RowAt.of (Zas W1 _)) Hl.out.1.symm Hl.out.2.1.symm Hl.out.2.2.symm (Bs0.some (hp1.grow BA)) (Bs0.some (hp2.grow BA)) (Bs0.some (hp3.grow BA)) (fun h=>by cases h) (fun h=>by cases h) (fun h=>by cases h) (by rw[Hl.out.1,Hl.out.2.1,Hl.out.2.2];decide)).mono ?_
 rintro e W9 ⟨v,rfl,hown,hb9⟩
 rw[HJ.out] at hown
 have B9:=Lib.hid (B1.out.trans ((BA.trans (hb9.mono BA.size)).mono B1.out.size))
 have O9:=Lib.hid (hown.base (Nat.le_trans B1.out.size BA.size))
 clear hy hp1 hp2 hp3 hown hb9 BA
 go_wp2_with fail
 go_ret
 exact⟨v,rfl,O9.out,B9.out⟩
@[go_sem ↓ high] theorem ZqE (ps:Array (Nat×Value)):Instr.build 23 ps=bldA 23 ps:=rfl
theorem Zd4 (n:Nat):(keyU n).length=32:=by simp[keyU,zs]
theorem ZgU {n:Nat} (h:n<256):∀i,(keyU n).getD i 0<256:=Zbp fun x hx=>by
 rcases List.mem_cons.1 hx with rfl | hx
 ·exact h
 ·exact Zdp (Zbr 31) x hx
set_option maxRecDepth 100000 in
theorem ZdW (n:Nat) (w:World):(bldA 23 #[(0,.int .u8 (n:Int))]).run Tryz.prog w=.ok (.agg (bysA (keyU n))) w:=run_build w _ _ _ (by kernel_rfl)
set_option maxRecDepth 100000 in
theorem ZjB (k n:Int) (w:World):(bldA 51 #[(0,.int .i64 k),(1,.int .i64 n)]).run Tryz.prog w=.ok (.agg (cmdA ⟨k,n,0,zs 8⟩)) w:=run_build w _ _ _ (by kernel_rfl)
theorem ZhU (k:List Nat) (c:Cmd):ZaZ [.agg (bysA k),.agg (cmdA c)]=(hopA k c).toList:=by
 show (bysA k).toList++((cmdA c).toList++[])=_
 unfold hopA
 rw[List.append_nil,Array.toList_append]
set_option maxRecDepth 100000 in
theorem ZgE {k:List Nat} {c:Cmd} (hk:k.length=32) (hc:c.id.length=8) (w:World):(bldA 77 #[(0,.agg (bysA k)),(1,.agg (cmdA c))]).run Tryz.prog w=.ok (.agg (hopA k c)) w:=by
 have s0:(bysA k).size=32:=by rw[Zal,hk]
 have s1:(cmdA c).size=11:=Zax hc
 have:=ZbY (P:=Tryz.prog) Tryz.underlying77 w [.agg (bysA k),.agg (cmdA c)]
  (by rw[ZhU,Array.length_toList,Zbs hk hc];kernel_rfl)
  (by simp only[offs,Value.cells,s0,s1];kernel_rfl) #[(0,.agg (bysA k)),(1,.agg (cmdA c))] rfl
 rw[ZhU,Array.toArray_toList] at this
 exact this
def Zum (n:Nat) (ps:Array (Nat×Value)):Sem Value:=Instr.buildSlice 36 n ps
@[go_sem ↓ high] theorem Ztg (n:Nat) (ps:Array (Nat×Value)):Instr.buildSlice 36 n ps=Zum n ps:=rfl
def hopZ:Array Value:=hopA (zs 32) .zero
set_option maxRecDepth 100000 in
theorem Zpk:(Tryz.prog.info? 77).map (fun i=>(i.zero,i.size))=some (some (.agg hopZ),43):=by kernel_rfl
theorem Zli {k k':List Nat} {c c':Cmd} (hk:k.length=32) (hc:c.id.length=8) (hk':k'.length=32) (hc':c'.id.length=8) (w:World):(Zum 2 #[(0,.agg (hopA k c)),(1,.agg (hopA k' c'))]).run Tryz.prog w=.ok (.slice (some ⟨w.heap.size,0,none⟩) 2 2) (w.alloc (.cells (hopA k c++hopA k' c') 77)):=by
 obtain⟨Y,hY⟩:∃Y,(Tryz.prog.info? 77).map (fun i=>(i.zero,i.size,i.bytes))=some (some (.agg hopZ),43,Y):=by
  have:=Zpk
  cases h:Tryz.prog.info? 77 with
  | none=>rw[h] at this;cases this
  | some i =>
   rw[h] at this
   simp only[Option.map_some,Option.some.injEq,Prod.mk.injEq] at this
   exact⟨i.bytes,by rw[Option.map_some,this.1,this.2]⟩
 have:=Zf7 (P:=Tryz.prog) Tryz.underlying36 hY [.agg (hopA k c),.agg (hopA k' c')] (fun v hv=>by
  rcases List.mem_cons.1 hv with rfl | hv
  ·exact Zbs hk hc
  ·rw[List.mem_singleton.1 hv];exact Zbs hk' hc') (rfl:_=2) (by decide) (by decide) #[(0,.agg (hopA k c)),(1,.agg (hopA k' c'))] rfl w
 rwa [show (ZaZ [.agg (hopA k c),.agg (hopA k' c')]).toArray=hopA k c++hopA k' c' by
  show ((hopA k c).toList++((hopA k' c').toList++[])).toArray=_
  rw[List.append_nil,←Array.toList_append,Array.toArray_toList]] at this
theorem ZkN {C:Nat} {w:World} {g:Nat} {ls:List (Array Value)} (h:RowAt w g (ZdL ls).toArray) (hs:∀x∈ls,x.size=C):RowsAt C w (some ⟨g,0,none⟩) ls:=fun i x hx=>by
 refine⟨g,0,rfl,h.2.2,fun j v hv=>?_⟩
 have hxs:x.size=C:=hs x (List.mem_of_getElem? hx)
 have hj:j<C:=by
  have:=(List.getElem?_eq_some_iff.1 hv).1
  simpa [hxs] using this
 have:=ZfW hs i j x hx hj
 rw[Nat.zero_add]
 exact h.cellAt _ (by rw[List.getElem?_toArray,this,←Array.getElem?_toList,hv])
theorem Zn9 (a b:Array Value):(ZdL [a,b]).toArray=a++b:=by
 show (a.toList++(b.toList++[])).toArray=_
 rw[List.append_nil,←Array.toList_append,Array.toArray_toList]
theorem ZlA {w:World} {B gs n cs:Nat} {s t:List Nat} {sr:List (List Nat)} (h:OwnR w B 23 32 (.slice (some ⟨gs,0,none⟩) n cs) ((s::t::sr).map bysA)) (ht:t.length=32) :
  (Zaq 23 (.pointer (some ⟨gs,32,none⟩))).run Tryz.prog w=.ok (.agg (bysA t)) w:=by
 obtain⟨g',o',e,_,hl⟩:=h.rows.load Tryz.underlying23 rfl (by kernel_rfl) (i:=1) (x:=bysA t) rfl (by rw[Zal,ht])
 obtain⟨p',c',e2,_,_,_,hp⟩:=h.form
 obtain⟨g2,rfl,_⟩:=hp (by simp)
 cases e2;cases e
 simpa using hl
theorem Zr6 (a:Option Addr) (len cap n:Nat) (h:n≤cap) (w:World):(Instr.sliceAt 36 (.slice a len cap) none (some (.int .i64 (n:Int))) none).run Tryz.prog w=.ok (.slice a n cap) w:=by
 have hu:Tryz.prog.underlying 36=some (.slice (Tryz.prog.elem 36)):=by kernel_rfl
 have hs:(sizeOf (Tryz.prog.elem 36)).run Tryz.prog w=.ok 43 w:=by kernel_rfl
 rw[run_sliceAt_slice _ _ _ _ _ _ hu,run_slice_h _ _ _ _ _ hu _ _ (by omega) (by omega),hs]
 cases a<;>simp[sliced,Result.andThen,Addr.add]
theorem Zpi (o1 o2:List Nat) (c1 c2:Cmd):hopR (Za7 [o1,o2] [c1,c2])=[hopA (puB o1) c1,hopA (puB o2) c2]:=rfl
theorem Zjg {o1 o2:List Nat} {c1 c2:Cmd} (h1:c1.id=zs 8) (h2:c2.id=zs 8):∀h∈Za7 [o1,o2] [c1,c2],HopOk h:=fun h hh=>by
 have e:Za7 [o1,o2] [c1,c2]=[⟨puB o1,c1⟩,⟨puB o2,c2⟩]:=rfl
 rw[e] at hh
 rcases List.mem_cons.1 hh with rfl | hh
 ·exact⟨Zbz _,ZfB _,by rw[h1];rfl,by rw[h1];exact Zbr 8⟩
 ·rw[List.mem_singleton.1 hh];exact⟨Zbz _,ZfB _,by rw[h2];rfl,by rw[h2];exact Zbr 8⟩
theorem ZoD {o1 o2:List Nat} {c1 c2:Cmd} (h1:c1.id=zs 8) (h2:c2.id=zs 8) {W:World} {v:Nat} (h:RowAt W v (hopA (puB o1) c1++hopA (puB o2) c2)):RowsAt 43 W (some ⟨v,0,none⟩) (hopR (Za7 [o1,o2] [c1,c2])):=by
 rw[Zpi]
 refine ZkN (by rw[Zn9];exact h) fun z hz=>?_
 rcases List.mem_cons.1 hz with rfl | hz
 ·exact Zbs (Zbz _) (by rw[h1];rfl)
 ·rw[List.mem_singleton.1 hz];exact Zbs (Zbz _) (by rw[h2];rfl)
theorem ZsO {o1 o2:List Nat} {c1 c2:Cmd} {W:World} {q:Option Addr} (h:RowsAt 43 W q (hopR (Za7 [o1,o2] [c1,c2]))):RowsAt 43 W q (hopR [⟨puB o1,c1⟩]):=h.take 1
theorem Zo0 {o1 o2:List Nat} {c1 c2:Cmd} (h1:c1.id=zs 8) (h2:c2.id=zs 8) {W:World} {v:Nat} (h:RowsAt 43 W (some ⟨v,0,none⟩) (hopR (Za7 [o1,o2] [c1,c2]))):(Zaq 51 (.pointer (some ⟨v,32,none⟩))).run Tryz.prog W=.ok (.agg (cmdA c1)) W:=by
 have hm:(Za7 [o1,o2] [c1,c2])[0]?=some ⟨puB o1,c1⟩:=rfl
 obtain⟨g',o',e,_,hl⟩:=Zdy h hm (Zjg h1 h2 _ (List.mem_of_getElem? hm))
 cases e
 simpa using hl
theorem Zn6 {o1 o2:List Nat} {c1 c2:Cmd} (h1:c1.id=zs 8) (h2:c2.id=zs 8) {W:World} {v:Nat} (h:RowsAt 43 W (some ⟨v,0,none⟩) (hopR (Za7 [o1,o2] [c1,c2]))):(Zaq 51 (.pointer (some ⟨v,75,none⟩))).run Tryz.prog W=.ok (.agg (cmdA c2)) W:=by
 have hm:(Za7 [o1,o2] [c1,c2])[1]?=some ⟨puB o2,c2⟩:=rfl
 obtain⟨g',o',e,_,hl⟩:=Zdy h hm (Zjg h1 h2 _ (List.mem_of_getElem? hm))
 cases e
 simpa using hl
def C1:Cmd:=(Cmd.mk 1 3 1 (zs 8))
def C2:Cmd:=(Cmd.mk 2 5 0 (zs 8))
theorem Zn4:∃(H a b g s0 s1:List Nat) (x y:Stp) (a' b' g':List Nat),hbH (keyU 9) (Za7 [keyU 1,keyU 2] [C1,C2])=H∧hbK (keyU 9) (Za7 [keyU 1,keyU 2] [C1,C2])=[s0,s1]∧hbE (keyU 9) (Za7 [keyU 1,keyU 2] [C1,C2])=0
  ∧ HdParts H a b g∧unwE (keyU 1) a b g=0∧unwV (keyU 1) a b g=x∧StpOk x∧x.c=C1∧x.s=s0∧HdParts x.nx a' b' g'∧unwE (keyU 2) a' b' g'=0∧unwV (keyU 2) a' b' g'=y∧StpOk y∧y.c=C2∧y.s=s1:=by
 have hr:isRt (Za7 [keyU 1,keyU 2] [C1,C2])=true:=by
  show (decide (1≤2∧2≤5)&&(okAt 2 0 C1&&(okAt 2 1 C2&&true)))=true
  decide
 obtain⟨h1',hw⟩:=Zrq C1 C2
 obtain⟨hK,hE,hH⟩:=ZpJ (x:=keyU 9) (os:=[keyU 1,keyU 2]) (cs:=[C1,C2]) rfl hr h1'
 clear h1'
 generalize tS0=s0 at *
 generalize tS1=s1 at *
 have hid:∀d∈[C1,C2],d.id.length=8:=fun d hd=>by
  rcases List.mem_cons.1 hd with rfl | hd
  ·rfl
  ·rw[List.mem_singleton.1 hd];rfl
 have hib:∀d∈[C1,C2],∀ i,d.id.getD i 0<256:=fun d hd=>by
  rcases List.mem_cons.1 hd with rfl | hd
  ·exact Zbr 8
  ·rw[List.mem_singleton.1 hd];exact Zbr 8
 have h0:=On.start (x:=keyU 9) (os:=[keyU 1,keyU 2]) (cs:=[C1,C2]) rfl hr hid hib hw rfl hH
 obtain⟨x,e1,e2,e3,e4,e5,h1⟩:=h0.step
 obtain⟨y,f1,f2,f3,f4,f5,_⟩:=h1.step
 exact⟨_,_,_,_,s0,s1,x,y,_,_,_,rfl,hK,hE,h0.parts rfl,e1,e2,e3,e4,e5,h1.parts rfl,f1,f2,f3,f4,f5⟩
theorem ZrJ:isRt [⟨puB (keyU 1),C1⟩]=false:=by
 show (decide (1≤1∧1≤5)&&(okAt 1 0 C1&&true))=false
 decide
set_option maxHeartbeats 4000000 in
set_option maxRecDepth 100000 in
theorem Zmt (w:World) (hT:Tabs w):Calls Tryz.prog 10 #[] w fun e w'=>e=.returned (.bool true)∧Below w.heap.size w w':=by
 have HT:=Lib.hid hT
 obtain⟨H,a,b,g,s0,s1,x,y,a',b',g',hH,hK,hE,hp,hx1,hx2,hx3,hx4,hx5,hp',hy1,hy2,hy3,hy4,hy5⟩:=Zn4
 have hl1:=Zd4 1
 have hl2:=Zd4 2
 have hl9:=Zd4 9
 have hb1:=ZgU (n:=1) (by decide)
 have hb2:=ZgU (n:=2) (by decide)
 have hb9:=ZgU (n:=9) (by decide)
 have hok:=Zjg (o1:=keyU 1) (o2:=keyU 2) (c1:=C1) (c2:=C2) rfl rfl
 have KB:=Lib.hid (fun (W:World) (h:Tabs W) (q:Option Addr) (hq:RowsAt 43 W q (hopR (Za7 [keyU 1,keyU 2] [C1,C2])))=>Zq0 (keyU 9) _ q 2 2 hl9 hb9 hok rfl W h hq)
 rw[hH,hK,hE] at KB
 have KB1:=Lib.hid (fun (W:World) (q:Option Addr) (hq:RowsAt 43 W q (hopR [⟨puB (keyU 1),C1⟩]))=>Zh7 (keyU 9) [⟨puB (keyU 1),C1⟩] q 1 2 hl9 (fun h hh=>by rw[List.mem_singleton.1 hh];exact⟨Zbz _,ZfB _,rfl,Zbr 8⟩) rfl ZrJ W hq)
 have KU1:=Lib.hid (fun (W:World) (h:Tabs W)=>Zhm (keyU 1) a b g hl1 hb1 hp.al hp.ab hp.bl hp.bb hp.gl hp.gb W h)
 have KU2:=Lib.hid (fun (W:World) (h:Tabs W)=>Zhm (keyU 2) a' b' g' hl2 hb2 hp'.al hp'.ab hp'.bl hp'.bb hp'.gl hp'.gb W h)
 rw[hx1,hx2,←hp.eq] at KU1
 rw[hy1,hy2,←hp'.eq] at KU2
 have KE:=Lib.hid (fun (W:World)=>Zmg H hp.len W)
 have hHs:=Zae hp.len
 have HHl:=Lib.hid hp.len
 have hns:=Zae hp'.len
 have hxs:=ZbP hx3
 have hys:=ZbP hy3
 have hsl0:s0.length=32:=by rw[←hx5];exact hx3.s
 have hsl1:s1.length=32:=by rw[←hy5];exact hy3.s
 have Hs:=Lib.hid (And.intro hsl0 hsl1)
 have hs0s:=Zae hsl0
 have hs1s:=Zae hsl1
 have KP1:=Lib.hid (fun (W:World)=>Zf8 (keyU 1) hl1 hb1 W)
 have KP2:=Lib.hid (fun (W:World)=>Zf8 (keyU 2) hl2 hb2 W)
 have hq1:=Zbz (keyU 1)
 have hq2:=Zbz (keyU 2)
 have hq1s:=Zae hq1
 have hq2s:=Zae hq2
 have hks1:=Zae hl1
 have hks2:=Zae hl2
 have hks9:=Zae hl9
 have hi1:C1.id.length=8:=rfl
 have hi2:C2.id.length=8:=rfl
 have hhz1:=Zbs hq1 hi1
 have hhz2:=Zbs hq2 hi2
 have hcs1:=Zax hi1
 have hcs2:=Zax hi2
 have hbh1:=fun W=>ZgE hq1 hi1 W
 have hbh2:=fun W=>ZgE hq2 hi2 W
 have hbs:=fun W=>Zli hq1 hi1 hq2 hi2 W
 have HQ:=Lib.hid (fun (W:World) (v:Nat) (h:RowAt W v (hopA (puB (keyU 1)) C1++hopA (puB (keyU 2)) C2))=>ZoD (c1:=C1) (c2:=C2) rfl rfl h)
 have HQ1:=Lib.hid (fun (W:World) (q:Option Addr) (h:RowsAt 43 W q (hopR (Za7 [keyU 1,keyU 2] [C1,C2])))=>ZsO h)
 have HC0:=Lib.hid (fun (W:World) (v:Nat) (h:RowsAt 43 W (some ⟨v,0,none⟩) (hopR (Za7 [keyU 1,keyU 2] [C1,C2])))=>Zo0 (c1:=C1) (c2:=C2) rfl rfl h)
 have HC1:=Lib.hid (fun (W:World) (v:Nat) (h:RowsAt 43 W (some ⟨v,0,none⟩) (hopR (Za7 [keyU 1,keyU 2] [C1,C2])))=>Zn6 (c1:=C1) (c2:=C2) rfl rfl h)
 have hbk1:∀W,(bldA 23 #[(0,.int .u8 1)]).run Tryz.prog W=.ok (.agg (bysA (keyU 1))) W:=ZdW 1
 have hbk2:∀W,(bldA 23 #[(0,.int .u8 2)]).run Tryz.prog W=.ok (.agg (bysA (keyU 2))) W:=ZdW 2
 have hbk9:∀W,(bldA 23 #[(0,.int .u8 9)]).run Tryz.prog W=.ok (.agg (bysA (keyU 9))) W:=ZdW 9
 have hbc1:∀W,(bldA 51 #[(0,.int .i64 1),(1,.int .i64 3),(2,.int .i64 1)]).run Tryz.prog W=.ok (.agg (cmdA C1)) W:=ZiX 1 3 1
 have hbc2:∀W,(bldA 51 #[(0,.int .i64 2),(1,.int .i64 5)]).run Tryz.prog W=.ok (.agg (cmdA C2)) W:=ZjB 2 5
 have hslh:∀(q:Option Addr) W,(Instr.sliceAt 36 (.slice q 2 2) none (some (.int .i64 1)) none).run Tryz.prog W=.ok (.slice q 1 2) W:=fun q W=>Zr6 q 2 2 1 (by decide) W
 have hz208:=Zae (Zah 208)
 have hzst:=ZbP ZdB
 have hb11:=ZfC C1
 have hb22:=ZfC C2
 have HX:=Lib.hid hx3
 have HY:=Lib.hid hy3
 have HXE:=Lib.hid (And.intro hx4 (And.intro hx5 (And.intro hy4 hy5)))
 clear hT hH hK hE hp hp' hx1 hx2 hx4 hx5 hy1 hy2 hy4 hy5 hok hl1 hl2 hl9 hb1 hb2 hb9 hq1 hq2 hsl0 hsl1
 generalize hopR (Za7 [keyU 1,keyU 2] [C1,C2])=HL at *
 generalize hopR [⟨puB (keyU 1),C1⟩]=HL1 at *
 generalize hopA (puB (keyU 1)) C1++hopA (puB (keyU 2)) C2=HH at *
 generalize hopA (puB (keyU 1)) C1=h1 at *
 generalize hopA (puB (keyU 2)) C2=h2 at *
 generalize puB (keyU 1)=p1 at *
 generalize puB (keyU 2)=p2 at *
 generalize keyU 1=k1 at *
 generalize keyU 2=k2 at *
 generalize keyU 9=k9 at *
 generalize C1=D1 at *
 generalize C2=D2 at *
 go_enter Tryz.func10,Tryz.ntmps10
 go_wp2_with fail
 generalize hW:World.alloc _ _=W0
 have R0x0:=Lib.hid (show RowAt W0 (w.heap.size) (bysA k1) by rw[←hW];clear hW;exact⟨by go_simp,by first | (go_simp;done) | (go_simp;rfl),by go_simp⟩)
 have R0x1:=Lib.hid (show RowAt W0 (w.heap.size+1) (bysA k2) by rw[←hW];clear hW;exact⟨by go_simp,by first | (go_simp;done) | (go_simp;rfl),by go_simp⟩)
 have B0:=Lib.hid (show Below w.heap.size w W0 by rw[←hW];repeat (first | apply Zab | exact Below.refl _ _))
 clear hW
 have l_v1:w.heap.size≤w.heap.size:=by omega
 have l_v2:w.heap.size≤w.heap.size+1:=by omega
 have n_v1_v2:w.heap.size≠w.heap.size+1:=by omega
 generalize w.heap.size+1=v2 at *
 obtain⟨v1,ev1⟩:∃z,z=w.heap.size:=⟨_,rfl⟩
 rw[←ev1] at R0x0 n_v1_v2 ⊢
 have l_v1:w.heap.size≤v1:=by rw[ev1];exact Nat.le_refl _
 clear ev1
 obtain⟨R0x0a,R0x0b,R0x0c⟩:=R0x0.out
 obtain⟨R0x1a,R0x1b,R0x1c⟩:=R0x1.out
 refine Zao W0 [0,1,2,3,4,5,6,7] [false,false,false,false,false,false,false,false] [] [] 8 (by kernel_rfl) rfl (by kernel_rfl) (by intro c a d v w h;cases d<;>exact h) (by first | exact(Below.refl _ _).drew | exact Below.refl _ _) ?_
 simp only[pick,List.getElem?_cons_succ,List.getElem?_cons_zero,List.drop_succ_cons,List.drop_zero]
 refine Zad (Zaa rfl) (by intro K o d hK;go_simp;exact hK _ (Below.refl _ _)) ?_
 refine Zaj (v:=.agg (bysA p1)) (Zaa rfl) (by intro K o d hK;go_simp;refine(KP1.out _).mono ?_;rintro e w' ⟨rfl,hbw⟩;exact⟨_,rfl,hK _ hbw⟩) ?_
 refine Zad (Zaa rfl) (by intro K o d hK;go_simp;exact hK _ (Below.refl _ _)) ?_
 refine Zad (Zaa rfl) (by intro K o d hK;go_simp;exact hK _ (Below.refl _ _)) ?_
 refine Zad (Zaa rfl) (by intro K o d hK;go_simp;exact hK _ (Below.refl _ _)) ?_
 refine Zaj (v:=.agg (bysA p2)) (Zaa rfl) (by intro K o d hK;go_simp;refine(KP2.out _).mono ?_;rintro e w' ⟨rfl,hbw⟩;exact⟨_,rfl,hK _ hbw⟩) ?_
 refine Zad (Zaa rfl) (by intro K o d hK;go_simp;exact hK _ (Below.refl _ _)) ?_
 refine Zad (Zaa rfl) (by intro K o d hK;go_simp;exact hK _ (Below.refl _ _)) ?_
 refine Zap ?_
 intro W1 hb1 hblk
 clear hblk
 clear R0x0a R0x0b R0x0c R0x1a R0x1b R0x1c
 have R1x0:=Lib.hid (R0x0.out.grow hb1)
 have R1x1:=Lib.hid (R0x1.out.grow hb1)
 have B1:=Lib.hid (B0.out.trans (hb1.mono B0.out.size))
 clear hb1 B0 R0x0 R0x1
 obtain⟨R1x0a,R1x0b,R1x0c⟩:=R1x0.out
 obtain⟨R1x1a,R1x1b,R1x1c⟩:=R1x1.out
 go_wp2_with fail
 have n_v1_hv:v1≠W1.heap.size:=Nat.ne_of_lt R1x0.out.2.2
 have n_v2_hv:v2≠W1.heap.size:=Nat.ne_of_lt R1x1.out.2.2
 have l_hv:w.heap.size≤W1.heap.size:=B1.out.size
 have hb2:=Zab (Below.refl W1.heap.size W1) (.cells (HH) 77)
 have N2:=Lib.hid (RowAt.of (Zas W1 (.cells (HH) 77)))
 have R2x0:=Lib.hid (R1x0.out.grow hb2)
 have R2x1:=Lib.hid (R1x1.out.grow hb2)
 have B2:=Lib.hid (B1.out.trans (hb2.mono B1.out.size))
 clear hb2 B1 R1x0 R1x1 R1x0a R1x0b R1x0c R1x1a R1x1b R1x1c
 generalize W1.heap.size=hv at *
 generalize W1.alloc (.cells (HH) 77)=W2 at *
 have HR:=Lib.hid (HQ.out _ hv N2.out)
 have HRW:=Lib.hid (fun (W:World) (hb:Below W2.heap.size W2 W)=>HR.out.grow hb)
 clear HR
 have HRB:=Lib.hid (Below.refl W2.heap.size W2)
 obtain⟨WH,eWH⟩:∃z,z=W2:=⟨_,rfl⟩
 rw[←eWH] at HRW HRB
 have Z0:=Lib.hid (show Below WH.heap.size WH W2 by rw[eWH];exact Below.refl _ _)
 clear HRB eWH
 refine(KB.out _ (HT.out.grow B2.out) _ (HRW.out _ Z0.out)).mono ?_
 rintro e W3 ⟨v,rfl,hv0,hb3⟩
 have Z3:=Lib.hid (Z0.out.trans (hb3.mono Z0.out.size))
 clear Z0
 have R3x0:=Lib.hid (R2x0.out.grow hb3)
 have R3x1:=Lib.hid (R2x1.out.grow hb3)
 have B3:=Lib.hid (B2.out.trans (hb3.mono B2.out.size))
 clear hb3 B2 R2x0 R2x1
 obtain⟨ps,cs,rfl,hro,hcl,hx1,hpa⟩:=OwnR.form hv0
 clear hx1 hro
 obtain⟨gs,rfl,hgs⟩:=hpa (by simp)
 rw[show ([s0,s1].map bysA).length=2 from rfl] at hcl hv0 ⊢
 have HV:=Lib.hid hv0
 clear hv0 hcl hpa hgs
 obtain⟨R3x0a,R3x0b,R3x0c⟩:=R3x0.out
 obtain⟨R3x1a,R3x1b,R3x1c⟩:=R3x1.out
 go_wp2_with fail
 have m0_hd:(Value.slice (some ⟨gs,0,none⟩) 2 cs).ownBlock≠some W3.heap.size:=fun e=>by have:=(HV.out.ltb _ e).2;omega
 have n_v1_hd:v1≠W3.heap.size:=Nat.ne_of_lt R3x0.out.2.2
 have n_v2_hd:v2≠W3.heap.size:=Nat.ne_of_lt R3x1.out.2.2
 have l_hd:w.heap.size≤W3.heap.size:=B3.out.size
 have hb4:=Zab (Below.refl W3.heap.size W3) (.cells (bysA H) 31)
 have N4:=Lib.hid (RowAt.of (Zas W3 (.cells (bysA H) 31)))
 have Z4:=Lib.hid (Z3.out.trans (hb4.mono Z3.out.size))
 clear Z3
 have O4x0:=Lib.hid (HV.out.grow hb4)
 clear HV
 have R4x0:=Lib.hid (R3x0.out.grow hb4)
 have R4x1:=Lib.hid (R3x1.out.grow hb4)
 have B4:=Lib.hid (B3.out.trans (hb4.mono B3.out.size))
 clear hb4 B3 R3x0 R3x1 R3x0a R3x0b R3x0c R3x1a R3x1b R3x1c
 generalize W3.heap.size=hd at *
 generalize W3.alloc (.cells (bysA H) 31)=W4 at *
 refine(KU1.out _ (HT.out.grow B4.out)).mono ?_
 rintro e W5 ⟨rfl,hb5⟩
 have Z5:=Lib.hid (Z4.out.trans (hb5.mono Z4.out.size))
 clear Z4
 have O5x0:=Lib.hid (O4x0.out.grow hb5)
 clear O4x0
 have R5x0:=Lib.hid (R4x0.out.grow hb5)
 have R5x1:=Lib.hid (R4x1.out.grow hb5)
 have R5x2:=Lib.hid (N4.out.grow hb5)
 have B5:=Lib.hid (B4.out.trans (hb5.mono B4.out.size))
 clear hb5 B4 R4x0 R4x1 N4
 obtain⟨R5x0a,R5x0b,R5x0c⟩:=R5x0.out
 obtain⟨R5x1a,R5x1b,R5x1c⟩:=R5x1.out
 obtain⟨R5x2a,R5x2b,R5x2c⟩:=R5x2.out
 go_wp2_with fail
 have m0_xv:(Value.slice (some ⟨gs,0,none⟩) 2 cs).ownBlock≠some W5.heap.size:=fun e=>by have:=(O5x0.out.ltb _ e).2;omega
 have n_v1_xv:v1≠W5.heap.size:=Nat.ne_of_lt R5x0.out.2.2
 have n_v2_xv:v2≠W5.heap.size:=Nat.ne_of_lt R5x1.out.2.2
 have n_hd_xv:hd≠W5.heap.size:=Nat.ne_of_lt R5x2.out.2.2
 have l_xv:w.heap.size≤W5.heap.size:=B5.out.size
 have hb6:=Zab (Below.refl W5.heap.size W5) (.cells (Zbi x) 53)
 have N6:=Lib.hid (RowAt.of (Zas W5 (.cells (Zbi x) 53)))
 have Z6:=Lib.hid (Z5.out.trans (hb6.mono Z5.out.size))
 clear Z5
 have O6x0:=Lib.hid (O5x0.out.grow hb6)
 clear O5x0
 have R6x0:=Lib.hid (R5x0.out.grow hb6)
 have R6x1:=Lib.hid (R5x1.out.grow hb6)
 have R6x2:=Lib.hid (R5x2.out.grow hb6)
 have B6:=Lib.hid (B5.out.trans (hb6.mono B5.out.size))
 clear hb6 B5 R5x0 R5x1 R5x2 R5x0a R5x0b R5x0c R5x1a R5x1b R5x1c R5x2a R5x2b R5x2c
 generalize W5.heap.size=xv at *
 generalize W5.alloc (.cells (Zbi x) 53)=W6 at *
 refine(KU2.out _ (HT.out.grow B6.out)).mono ?_
 rintro e W7 ⟨rfl,hb7⟩
 have Z7:=Lib.hid (Z6.out.trans (hb7.mono Z6.out.size))
 clear Z6
 have O7x0:=Lib.hid (O6x0.out.grow hb7)
 clear O6x0
 have R7x0:=Lib.hid (R6x0.out.grow hb7)
 have R7x1:=Lib.hid (R6x1.out.grow hb7)
 have R7x2:=Lib.hid (R6x2.out.grow hb7)
 have R7x3:=Lib.hid (N6.out.grow hb7)
 have B7:=Lib.hid (B6.out.trans (hb7.mono B6.out.size))
 clear hb7 B6 R6x0 R6x1 R6x2 N6
 obtain⟨R7x0a,R7x0b,R7x0c⟩:=R7x0.out
 obtain⟨R7x1a,R7x1b,R7x1c⟩:=R7x1.out
 obtain⟨R7x2a,R7x2b,R7x2c⟩:=R7x2.out
 obtain⟨R7x3a,R7x3b,R7x3c⟩:=R7x3.out
 go_wp2_with fail
 have m0_yv:(Value.slice (some ⟨gs,0,none⟩) 2 cs).ownBlock≠some W7.heap.size:=fun e=>by have:=(O7x0.out.ltb _ e).2;omega
 have n_v1_yv:v1≠W7.heap.size:=Nat.ne_of_lt R7x0.out.2.2
 have n_v2_yv:v2≠W7.heap.size:=Nat.ne_of_lt R7x1.out.2.2
 have n_hd_yv:hd≠W7.heap.size:=Nat.ne_of_lt R7x2.out.2.2
 have n_xv_yv:xv≠W7.heap.size:=Nat.ne_of_lt R7x3.out.2.2
 have l_yv:w.heap.size≤W7.heap.size:=B7.out.size
 have hb8:=Zab (Below.refl W7.heap.size W7) (.cells (Zbi y) 53)
 have N8:=Lib.hid (RowAt.of (Zas W7 (.cells (Zbi y) 53)))
 have Z8:=Lib.hid (Z7.out.trans (hb8.mono Z7.out.size))
 clear Z7
 have O8x0:=Lib.hid (O7x0.out.grow hb8)
 clear O7x0
 have R8x0:=Lib.hid (R7x0.out.grow hb8)
 have R8x1:=Lib.hid (R7x1.out.grow hb8)
 have R8x2:=Lib.hid (R7x2.out.grow hb8)
 have R8x3:=Lib.hid (R7x3.out.grow hb8)
 have B8:=Lib.hid (B7.out.trans (hb8.mono B7.out.size))
 clear hb8 B7 R7x0 R7x1 R7x2 R7x3 R7x0a R7x0b R7x0c R7x1a R7x1b R7x1c R7x2a R7x2b R7x2c R7x3a R7x3b R7x3c
 generalize W7.heap.size=yv at *
 generalize W7.alloc (.cells (Zbi y) 53)=W8 at *
 refine(KB1.out _ _ (HQ1.out _ _ (HRW.out _ Z8.out))).mono ?_
 rintro e W9 ⟨rfl,hb9⟩
 have Z9:=Lib.hid (Z8.out.trans (hb9.mono Z8.out.size))
 clear Z8
 have O9x0:=Lib.hid (O8x0.out.grow hb9)
 clear O8x0
 have R9x0:=Lib.hid (R8x0.out.grow hb9)
 have R9x1:=Lib.hid (R8x1.out.grow hb9)
 have R9x2:=Lib.hid (R8x2.out.grow hb9)
 have R9x3:=Lib.hid (R8x3.out.grow hb9)
 have R9x4:=Lib.hid (N8.out.grow hb9)
 have B9:=Lib.hid (B8.out.trans (hb9.mono B8.out.size))
 clear hb9 B8 R8x0 R8x1 R8x2 R8x3 N8
 obtain⟨R9x0a,R9x0b,R9x0c⟩:=R9x0.out
 obtain⟨R9x1a,R9x1b,R9x1c⟩:=R9x1.out
 obtain⟨R9x2a,R9x2b,R9x2c⟩:=R9x2.out
 obtain⟨R9x3a,R9x3b,R9x3c⟩:=R9x3.out
 obtain⟨R9x4a,R9x4b,R9x4c⟩:=R9x4.out
 go_wp2_with fail
 have m0_he:(Value.slice (some ⟨gs,0,none⟩) 2 cs).ownBlock≠some W9.heap.size:=fun e=>by have:=(O9x0.out.ltb _ e).2;omega
 have n_v1_he:v1≠W9.heap.size:=Nat.ne_of_lt R9x0.out.2.2
 have n_v2_he:v2≠W9.heap.size:=Nat.ne_of_lt R9x1.out.2.2
 have n_hd_he:hd≠W9.heap.size:=Nat.ne_of_lt R9x2.out.2.2
 have n_xv_he:xv≠W9.heap.size:=Nat.ne_of_lt R9x3.out.2.2
 have n_yv_he:yv≠W9.heap.size:=Nat.ne_of_lt R9x4.out.2.2
 have l_he:w.heap.size≤W9.heap.size:=B9.out.size
 have hb10:=Zab (Below.refl W9.heap.size W9) (.cells (bysA (zs 208)) 31)
 have N10:=Lib.hid (RowAt.of (Zas W9 (.cells (bysA (zs 208)) 31)))
 have Z10:=Lib.hid (Z9.out.trans (hb10.mono Z9.out.size))
 clear Z9
 have O10x0:=Lib.hid (O9x0.out.grow hb10)
 clear O9x0
 have R10x0:=Lib.hid (R9x0.out.grow hb10)
 have R10x1:=Lib.hid (R9x1.out.grow hb10)
 have R10x2:=Lib.hid (R9x2.out.grow hb10)
 have R10x3:=Lib.hid (R9x3.out.grow hb10)
 have R10x4:=Lib.hid (R9x4.out.grow hb10)
 have B10:=Lib.hid (B9.out.trans (hb10.mono B9.out.size))
 clear hb10 B9 R9x0 R9x1 R9x2 R9x3 R9x4 R9x0a R9x0b R9x0c R9x1a R9x1b R9x1c R9x2a R9x2b R9x2c R9x3a R9x3b R9x3c R9x4a R9x4b R9x4c
 generalize W9.heap.size=he at *
 generalize W9.alloc (.cells (bysA (zs 208)) 31)=W10 at *
 refine Za3 W10 50 (fun w w'=>Below w.heap.size w w') (ZfY [fixV (.int .i64 0),fixV (.bool true),fixV (.bool true),fixV (.int .i64 0),fixV (.bool true),fixV (.bool true),fixV (.bool true),fixV (.pointer (some ⟨xv,0,none⟩)),fixV (.agg (cmdA D1)),fixV (.slice (some ⟨hv,0,none⟩) 2 2),fixV (.pointer (some ⟨hv,0,none⟩)),fixV (.pointer (some ⟨hv,32,none⟩)),fixV (.agg (cmdA D1)),fixV (.bool true),fixV (.bool true),fixV (.bool true),fixV (.pointer (some ⟨yv,0,none⟩)),fixV (.agg (cmdA D2)),fixV (.slice (some ⟨hv,0,none⟩) 2 2),fixV (.pointer (some ⟨hv,43,none⟩)),fixV (.pointer (some ⟨hv,75,none⟩)),fixV (.agg (cmdA D2)),fixV (.bool true),fixV (.bool true),fixV (.bool true),fixV (.pointer (some ⟨xv,219,none⟩)),fixV (.agg (bysA s0)),fixV (.slice (some ⟨gs,0,none⟩) 2 cs),fixV (.pointer (some ⟨gs,0,none⟩)),fixV (.agg (bysA s0)),fixV (.bool true),fixV (.bool true),fixV (.bool true),fixV (.pointer (some ⟨yv,219,none⟩)),fixV (.agg (bysA s1)),fixV (.slice (some ⟨gs,0,none⟩) 2 cs),fixV (.pointer (some ⟨gs,32,none⟩)),fixV (.agg (bysA s1)),fixV (.bool true),fixV (.bool true),fixV (.bool true),fixV (.int .i64 14),fixV (.bool true),fixV (.bool true),fixV (.bool true),fixV (.agg (bysA H)),ownV W10.heap.size H,fixV (.int .i64 208),fixV (.bool true),fixV (.bool true)]) [50] [0,1,2,3,4,5,6,7,8,9,10,11,12,13,14,15,16,17,18,19,20,21,22,23,24,25,26,27,28,29,30,31,32,33,34,35,36,37,38,39,40,41,42,43,44,45,46,47,48,49] [some 60,some 61,some 62,some 63,some 64,some 65,some 66,some 67,some 68,some 69,some 70,some 71,some 72,some 73,some 74,some 75,some 76,some 77,some 78,some 79,some 80,some 81,some 82,some 83,some 84,some 85,some 86,some 87,some 88,some 89,some 90,some 91,some 92,some 93,some 94,some 95,some 96,some 97,some 98,some 99,some 100,some 101,some 102,some 103,some 104,some 105,some 106,some 107,some 108,some 109] (by kernel_rfl) (by kernel_rfl) (by kernel_rfl) (by kernel_rfl) (by first | exact(Below.refl _ _).drew | exact Below.refl _ _) (fun w w' h h'=>h.trans (h'.mono h.size)) (ZbS ⟨Zai _,Zai _,Zai _,Zai _,Zai _,Zai _,Zai _,Zai _,Zai _,Zai _,Zai _,Zai _,Zai _,Zai _,Zai _,Zai _,Zai _,Zai _,Zai _,Zai _,Zai _,Zai _,Zai _,Zai _,Zai _,Zai _,Zai _,Zai _,Zai _,Zai _,Zai _,Zai _,Zai _,Zai _,Zai _,Zai _,Zai _,Zai _,Zai _,Zai _,Zai _,Zai _,Zai _,Zai _,Zai _,Zai _,Zde _ _,Zai _,Zai _,Zai _,trivial⟩) ?_
 intro vals
 simp only[List.take_succ_cons,List.take_zero]
 refine⟨Zak [] [] (by kernel_rfl) rfl (fun K w hb hd hK=>?_),?_⟩
 ·simp only[putZ]
  refine⟨Zaa rfl,?_⟩
  go_simp
  exact hK _ _ _ (Below.refl _ _) rfl
 refine⟨Zak [0] [some 60] (by kernel_rfl) (by kernel_rfl) (fun K w hb hd hK=>?_),?_⟩
 ·have d0:vals 0=.int .i64 0:=hd 0 (by simp)
  simp only[List.map_cons,List.map_nil,putZ,d0]
  refine⟨Zaa rfl,?_⟩
  go_simp
  exact hK _ _ _ (Below.refl _ _) rfl
 refine⟨Zak [1] [some 61] (by kernel_rfl) (by kernel_rfl) (fun K w hb hd hK=>?_),?_⟩
 ·have d1:vals 1=.bool true:=hd 1 (by simp)
  simp only[List.map_cons,List.map_nil,putZ,d1]
  refine⟨Zaa rfl,?_⟩
  go_simp
  exact hK _ _ _ (Below.refl _ _) rfl
 refine⟨Zak [2] [some 62] (by kernel_rfl) (by kernel_rfl) (fun K w hb hd hK=>?_),?_⟩
 ·have d2:vals 2=.bool true:=hd 2 (by simp)
  simp only[List.map_cons,List.map_nil,putZ,d2]
  refine⟨Zam rfl rfl rfl,?_⟩
  go_simp
  exact hK _ _ _ (Below.refl _ _) rfl
 refine⟨Zak [2,3] [some 62,some 63] (by kernel_rfl) (by kernel_rfl) (fun K w hb hd hK=>?_),?_⟩
 ·have d2:vals 2=.bool true:=hd 2 (by simp)
  have d3:vals 3=.int .i64 0:=hd 3 (by simp)
  simp only[List.map_cons,List.map_nil,putZ,d2,d3]
  refine⟨Zam rfl rfl rfl,?_⟩
  go_simp
  exact hK _ _ _ (Below.refl _ _) rfl
 refine⟨Zak [2,4] [some 62,some 64] (by kernel_rfl) (by kernel_rfl) (fun K w hb hd hK=>?_),?_⟩
 ·have d2:vals 2=.bool true:=hd 2 (by simp)
  have d4:vals 4=.bool true:=hd 4 (by simp)
  simp only[List.map_cons,List.map_nil,putZ,d2,d4]
  refine⟨Zaa rfl,?_⟩
  go_simp
  exact hK _ _ _ (Below.refl _ _) rfl
 refine⟨Zak [5] [some 65] (by kernel_rfl) (by kernel_rfl) (fun K w hb hd hK=>?_),?_⟩
 ·have d5:vals 5=.bool true:=hd 5 (by simp)
  simp only[List.map_cons,List.map_nil,putZ,d5]
  refine⟨Zaa rfl,?_⟩
  go_simp
  exact hK _ _ _ (Below.refl _ _) rfl
 refine⟨Zak [6] [some 66] (by kernel_rfl) (by kernel_rfl) (fun K w hb hd hK=>?_),?_⟩
 ·have d6:vals 6=.bool true:=hd 6 (by simp)
  simp only[List.map_cons,List.map_nil,putZ,d6]
  refine⟨Zam rfl rfl rfl,?_⟩
  go_simp
  exact hK _ _ _ (Below.refl _ _) rfl
 refine⟨Zak [6,7] [some 66,some 67] (by kernel_rfl) (by kernel_rfl) (fun K w hb hd hK=>?_),?_⟩
 ·have d6:vals 6=.bool true:=hd 6 (by simp)
  have d7:vals 7=.pointer (some ⟨xv,0,none⟩):=hd 7 (by simp)
  obtain⟨x1,x2,x3⟩:=R10x3.out.grow hb
  have hxc:=HXE.out.1
  simp only[List.map_cons,List.map_nil,putZ,d6,d7]
  refine⟨Zam rfl rfl rfl,?_⟩
  go_simp
  exact hK _ _ _ (Below.refl _ _) rfl
 refine⟨Zak [6] [some 66] (by kernel_rfl) (by kernel_rfl) (fun K w hb hd hK=>?_),?_⟩
 ·have d6:vals 6=.bool true:=hd 6 (by simp)
  simp only[List.map_cons,List.map_nil,putZ,d6]
  refine⟨Zam rfl rfl rfl,?_⟩
  go_simp
  exact hK _ _ _ (Below.refl _ _) rfl
 refine⟨Zak [6,9] [some 66,some 69] (by kernel_rfl) (by kernel_rfl) (fun K w hb hd hK=>?_),?_⟩
 ·have d6:vals 6=.bool true:=hd 6 (by simp)
  have d9:vals 9=.slice (some ⟨hv,0,none⟩) 2 2:=hd 9 (by simp)
  simp only[List.map_cons,List.map_nil,putZ,d6,d9]
  refine⟨Zam rfl rfl rfl,?_⟩
  go_simp
  exact hK _ _ _ (Below.refl _ _) rfl
 refine⟨Zak [6,10] [some 66,some 70] (by kernel_rfl) (by kernel_rfl) (fun K w hb hd hK=>?_),?_⟩
 ·have d6:vals 6=.bool true:=hd 6 (by simp)
  have d10:vals 10=.pointer (some ⟨hv,0,none⟩):=hd 10 (by simp)
  simp only[List.map_cons,List.map_nil,putZ,d6,d10]
  refine⟨Zam rfl rfl rfl,?_⟩
  go_simp
  exact hK _ _ _ (Below.refl _ _) rfl
 refine⟨Zak [6,11] [some 66,some 71] (by kernel_rfl) (by kernel_rfl) (fun K w hb hd hK=>?_),?_⟩
 ·have d6:vals 6=.bool true:=hd 6 (by simp)
  have d11:vals 11=.pointer (some ⟨hv,32,none⟩):=hd 11 (by simp)
  have hc0:=HC0.out _ hv (HRW.out _ (Z10.out.trans (hb.mono Z10.out.size)))
  simp only[List.map_cons,List.map_nil,putZ,d6,d11]
  refine⟨Zam rfl rfl rfl,?_⟩
  go_simp
  exact hK _ _ _ (Below.refl _ _) rfl
 refine⟨Zak [6,8,12] [some 66,some 68,some 72] (by kernel_rfl) (by kernel_rfl) (fun K w hb hd hK=>?_),?_⟩
 ·have d6:vals 6=.bool true:=hd 6 (by simp)
  have d8:vals 8=.agg (cmdA D1):=hd 8 (by simp)
  have d12:vals 12=.agg (cmdA D1):=hd 12 (by simp)
  simp only[List.map_cons,List.map_nil,putZ,d6,d8,d12]
  refine⟨Zam rfl rfl rfl,?_⟩
  go_simp
  exact hK _ _ _ (Below.refl _ _) rfl
 refine⟨Zak [6,13] [some 66,some 73] (by kernel_rfl) (by kernel_rfl) (fun K w hb hd hK=>?_),?_⟩
 ·have d6:vals 6=.bool true:=hd 6 (by simp)
  have d13:vals 13=.bool true:=hd 13 (by simp)
  simp only[List.map_cons,List.map_nil,putZ,d6,d13]
  refine⟨Zaa rfl,?_⟩
  go_simp
  exact hK _ _ _ (Below.refl _ _) rfl
 refine⟨Zak [14] [some 74] (by kernel_rfl) (by kernel_rfl) (fun K w hb hd hK=>?_),?_⟩
 ·have d14:vals 14=.bool true:=hd 14 (by simp)
  simp only[List.map_cons,List.map_nil,putZ,d14]
  refine⟨Zaa rfl,?_⟩
  go_simp
  exact hK _ _ _ (Below.refl _ _) rfl
 refine⟨Zak [15] [some 75] (by kernel_rfl) (by kernel_rfl) (fun K w hb hd hK=>?_),?_⟩
 ·have d15:vals 15=.bool true:=hd 15 (by simp)
  simp only[List.map_cons,List.map_nil,putZ,d15]
  refine⟨Zam rfl rfl rfl,?_⟩
  go_simp
  exact hK _ _ _ (Below.refl _ _) rfl
 refine⟨Zak [15,16] [some 75,some 76] (by kernel_rfl) (by kernel_rfl) (fun K w hb hd hK=>?_),?_⟩
 ·have d15:vals 15=.bool true:=hd 15 (by simp)
  have d16:vals 16=.pointer (some ⟨yv,0,none⟩):=hd 16 (by simp)
  obtain⟨y1,y2,y3⟩:=R10x4.out.grow hb
  have hyc:=HXE.out.2.2.1
  simp only[List.map_cons,List.map_nil,putZ,d15,d16]
  refine⟨Zam rfl rfl rfl,?_⟩
  go_simp
  exact hK _ _ _ (Below.refl _ _) rfl
 refine⟨Zak [15] [some 75] (by kernel_rfl) (by kernel_rfl) (fun K w hb hd hK=>?_),?_⟩
 ·have d15:vals 15=.bool true:=hd 15 (by simp)
  simp only[List.map_cons,List.map_nil,putZ,d15]
  refine⟨Zam rfl rfl rfl,?_⟩
  go_simp
  exact hK _ _ _ (Below.refl _ _) rfl
 refine⟨Zak [15,18] [some 75,some 78] (by kernel_rfl) (by kernel_rfl) (fun K w hb hd hK=>?_),?_⟩
 ·have d15:vals 15=.bool true:=hd 15 (by simp)
  have d18:vals 18=.slice (some ⟨hv,0,none⟩) 2 2:=hd 18 (by simp)
  simp only[List.map_cons,List.map_nil,putZ,d15,d18]
  refine⟨Zam rfl rfl rfl,?_⟩
  go_simp
  exact hK _ _ _ (Below.refl _ _) rfl
 refine⟨Zak [15,19] [some 75,some 79] (by kernel_rfl) (by kernel_rfl) (fun K w hb hd hK=>?_),?_⟩
 ·have d15:vals 15=.bool true:=hd 15 (by simp)
  have d19:vals 19=.pointer (some ⟨hv,43,none⟩):=hd 19 (by simp)
  simp only[List.map_cons,List.map_nil,putZ,d15,d19]
  refine⟨Zam rfl rfl rfl,?_⟩
  go_simp
  exact hK _ _ _ (Below.refl _ _) rfl
 refine⟨Zak [15,20] [some 75,some 80] (by kernel_rfl) (by kernel_rfl) (fun K w hb hd hK=>?_),?_⟩
 ·have d15:vals 15=.bool true:=hd 15 (by simp)
  have d20:vals 20=.pointer (some ⟨hv,75,none⟩):=hd 20 (by simp)
  have hc0:=HC1.out _ hv (HRW.out _ (Z10.out.trans (hb.mono Z10.out.size)))
  simp only[List.map_cons,List.map_nil,putZ,d15,d20]
  refine⟨Zam rfl rfl rfl,?_⟩
  go_simp
  exact hK _ _ _ (Below.refl _ _) rfl
 refine⟨Zak [15,17,21] [some 75,some 77,some 81] (by kernel_rfl) (by kernel_rfl) (fun K w hb hd hK=>?_),?_⟩
 ·have d15:vals 15=.bool true:=hd 15 (by simp)
  have d17:vals 17=.agg (cmdA D2):=hd 17 (by simp)
  have d21:vals 21=.agg (cmdA D2):=hd 21 (by simp)
  simp only[List.map_cons,List.map_nil,putZ,d15,d17,d21]
  refine⟨Zam rfl rfl rfl,?_⟩
  go_simp
  exact hK _ _ _ (Below.refl _ _) rfl
 refine⟨Zak [15,22] [some 75,some 82] (by kernel_rfl) (by kernel_rfl) (fun K w hb hd hK=>?_),?_⟩
 ·have d15:vals 15=.bool true:=hd 15 (by simp)
  have d22:vals 22=.bool true:=hd 22 (by simp)
  simp only[List.map_cons,List.map_nil,putZ,d15,d22]
  refine⟨Zaa rfl,?_⟩
  go_simp
  exact hK _ _ _ (Below.refl _ _) rfl
 refine⟨Zak [23] [some 83] (by kernel_rfl) (by kernel_rfl) (fun K w hb hd hK=>?_),?_⟩
 ·have d23:vals 23=.bool true:=hd 23 (by simp)
  simp only[List.map_cons,List.map_nil,putZ,d23]
  refine⟨Zaa rfl,?_⟩
  go_simp
  exact hK _ _ _ (Below.refl _ _) rfl
 refine⟨Zak [24] [some 84] (by kernel_rfl) (by kernel_rfl) (fun K w hb hd hK=>?_),?_⟩
 ·have d24:vals 24=.bool true:=hd 24 (by simp)
  simp only[List.map_cons,List.map_nil,putZ,d24]
  refine⟨Zam rfl rfl rfl,?_⟩
  go_simp
  exact hK _ _ _ (Below.refl _ _) rfl
 refine⟨Zak [24,25] [some 84,some 85] (by kernel_rfl) (by kernel_rfl) (fun K w hb hd hK=>?_),?_⟩
 ·have d24:vals 24=.bool true:=hd 24 (by simp)
  have d25:vals 25=.pointer (some ⟨xv,219,none⟩):=hd 25 (by simp)
  obtain⟨x1,x2,x3⟩:=R10x3.out.grow hb
  have hxc:=HXE.out.2.1
  simp only[List.map_cons,List.map_nil,putZ,d24,d25]
  refine⟨Zam rfl rfl rfl,?_⟩
  go_simp
  exact hK _ _ _ (Below.refl _ _) rfl
 refine⟨Zak [24] [some 84] (by kernel_rfl) (by kernel_rfl) (fun K w hb hd hK=>?_),?_⟩
 ·have d24:vals 24=.bool true:=hd 24 (by simp)
  simp only[List.map_cons,List.map_nil,putZ,d24]
  refine⟨Zam rfl rfl rfl,?_⟩
  go_simp
  exact hK _ _ _ (Below.refl _ _) rfl
 refine⟨Zak [24,27] [some 84,some 87] (by kernel_rfl) (by kernel_rfl) (fun K w hb hd hK=>?_),?_⟩
 ·have d24:vals 24=.bool true:=hd 24 (by simp)
  have d27:vals 27=.slice (some ⟨gs,0,none⟩) 2 cs:=hd 27 (by simp)
  simp only[List.map_cons,List.map_nil,putZ,d24,d27]
  refine⟨Zam rfl rfl rfl,?_⟩
  go_simp
  exact hK _ _ _ (Below.refl _ _) rfl
 refine⟨Zak [24,28] [some 84,some 88] (by kernel_rfl) (by kernel_rfl) (fun K w hb hd hK=>?_),?_⟩
 ·have d24:vals 24=.bool true:=hd 24 (by simp)
  have d28:vals 28=.pointer (some ⟨gs,0,none⟩):=hd 28 (by simp)
  have ho:=Zh4 (O10x0.out.grow hb) Hs.out.1
  simp only[List.map_cons,List.map_nil,putZ,d24,d28]
  refine⟨Zam rfl rfl rfl,?_⟩
  go_simp
  exact hK _ _ _ (Below.refl _ _) rfl
 refine⟨Zak [24,26,29] [some 84,some 86,some 89] (by kernel_rfl) (by kernel_rfl) (fun K w hb hd hK=>?_),?_⟩
 ·have d24:vals 24=.bool true:=hd 24 (by simp)
  have d26:vals 26=.agg (bysA s0):=hd 26 (by simp)
  have d29:vals 29=.agg (bysA s0):=hd 29 (by simp)
  simp only[List.map_cons,List.map_nil,putZ,d24,d26,d29]
  refine⟨Zam rfl rfl rfl,?_⟩
  go_simp
  exact hK _ _ _ (Below.refl _ _) rfl
 refine⟨Zak [24,30] [some 84,some 90] (by kernel_rfl) (by kernel_rfl) (fun K w hb hd hK=>?_),?_⟩
 ·have d24:vals 24=.bool true:=hd 24 (by simp)
  have d30:vals 30=.bool true:=hd 30 (by simp)
  simp only[List.map_cons,List.map_nil,putZ,d24,d30]
  refine⟨Zaa rfl,?_⟩
  go_simp
  exact hK _ _ _ (Below.refl _ _) rfl
 refine⟨Zak [31] [some 91] (by kernel_rfl) (by kernel_rfl) (fun K w hb hd hK=>?_),?_⟩
 ·have d31:vals 31=.bool true:=hd 31 (by simp)
  simp only[List.map_cons,List.map_nil,putZ,d31]
  refine⟨Zaa rfl,?_⟩
  go_simp
  exact hK _ _ _ (Below.refl _ _) rfl
 refine⟨Zak [32] [some 92] (by kernel_rfl) (by kernel_rfl) (fun K w hb hd hK=>?_),?_⟩
 ·have d32:vals 32=.bool true:=hd 32 (by simp)
  simp only[List.map_cons,List.map_nil,putZ,d32]
  refine⟨Zam rfl rfl rfl,?_⟩
  go_simp
  exact hK _ _ _ (Below.refl _ _) rfl
 refine⟨Zak [32,33] [some 92,some 93] (by kernel_rfl) (by kernel_rfl) (fun K w hb hd hK=>?_),?_⟩
 ·have d32:vals 32=.bool true:=hd 32 (by simp)
  have d33:vals 33=.pointer (some ⟨yv,219,none⟩):=hd 33 (by simp)
  obtain⟨y1,y2,y3⟩:=R10x4.out.grow hb
  have hyc:=HXE.out.2.2.2
  simp only[List.map_cons,List.map_nil,putZ,d32,d33]
  refine⟨Zam rfl rfl rfl,?_⟩
  go_simp
  exact hK _ _ _ (Below.refl _ _) rfl
 refine⟨Zak [32] [some 92] (by kernel_rfl) (by kernel_rfl) (fun K w hb hd hK=>?_),?_⟩
 ·have d32:vals 32=.bool true:=hd 32 (by simp)
  simp only[List.map_cons,List.map_nil,putZ,d32]
  refine⟨Zam rfl rfl rfl,?_⟩
  go_simp
  exact hK _ _ _ (Below.refl _ _) rfl
 refine⟨Zak [32,35] [some 92,some 95] (by kernel_rfl) (by kernel_rfl) (fun K w hb hd hK=>?_),?_⟩
 ·have d32:vals 32=.bool true:=hd 32 (by simp)
  have d35:vals 35=.slice (some ⟨gs,0,none⟩) 2 cs:=hd 35 (by simp)
  simp only[List.map_cons,List.map_nil,putZ,d32,d35]
  refine⟨Zam rfl rfl rfl,?_⟩
  go_simp
  exact hK _ _ _ (Below.refl _ _) rfl
 refine⟨Zak [32,36] [some 92,some 96] (by kernel_rfl) (by kernel_rfl) (fun K w hb hd hK=>?_),?_⟩
 ·have d32:vals 32=.bool true:=hd 32 (by simp)
  have d36:vals 36=.pointer (some ⟨gs,32,none⟩):=hd 36 (by simp)
  have ho:=ZlA (O10x0.out.grow hb) Hs.out.2
  simp only[List.map_cons,List.map_nil,putZ,d32,d36]
  refine⟨Zam rfl rfl rfl,?_⟩
  go_simp
  exact hK _ _ _ (Below.refl _ _) rfl
 refine⟨Zak [32,34,37] [some 92,some 94,some 97] (by kernel_rfl) (by kernel_rfl) (fun K w hb hd hK=>?_),?_⟩
 ·have d32:vals 32=.bool true:=hd 32 (by simp)
  have d34:vals 34=.agg (bysA s1):=hd 34 (by simp)
  have d37:vals 37=.agg (bysA s1):=hd 37 (by simp)
  simp only[List.map_cons,List.map_nil,putZ,d32,d34,d37]
  refine⟨Zam rfl rfl rfl,?_⟩
  go_simp
  exact hK _ _ _ (Below.refl _ _) rfl
 refine⟨Zak [32,38] [some 92,some 98] (by kernel_rfl) (by kernel_rfl) (fun K w hb hd hK=>?_),?_⟩
 ·have d32:vals 32=.bool true:=hd 32 (by simp)
  have d38:vals 38=.bool true:=hd 38 (by simp)
  simp only[List.map_cons,List.map_nil,putZ,d32,d38]
  refine⟨Zaa rfl,?_⟩
  go_simp
  exact hK _ _ _ (Below.refl _ _) rfl
 refine⟨Zak [39] [some 99] (by kernel_rfl) (by kernel_rfl) (fun K w hb hd hK=>?_),?_⟩
 ·have d39:vals 39=.bool true:=hd 39 (by simp)
  simp only[List.map_cons,List.map_nil,putZ,d39]
  refine⟨Zaa rfl,?_⟩
  go_simp
  exact hK _ _ _ (Below.refl _ _) rfl
 refine⟨Zak [40] [some 100] (by kernel_rfl) (by kernel_rfl) (fun K w hb hd hK=>?_),?_⟩
 ·have d40:vals 40=.bool true:=hd 40 (by simp)
  simp only[List.map_cons,List.map_nil,putZ,d40]
  refine⟨Zam rfl rfl rfl,?_⟩
  go_simp
  exact hK _ _ _ (Below.refl _ _) rfl
 refine⟨Zak [40,41] [some 100,some 101] (by kernel_rfl) (by kernel_rfl) (fun K w hb hd hK=>?_),?_⟩
 ·have d40:vals 40=.bool true:=hd 40 (by simp)
  have d41:vals 41=.int .i64 14:=hd 41 (by simp)
  simp only[List.map_cons,List.map_nil,putZ,d40,d41]
  refine⟨Zam rfl rfl rfl,?_⟩
  go_simp
  exact hK _ _ _ (Below.refl _ _) rfl
 refine⟨Zak [40,42] [some 100,some 102] (by kernel_rfl) (by kernel_rfl) (fun K w hb hd hK=>?_),?_⟩
 ·have d40:vals 40=.bool true:=hd 40 (by simp)
  have d42:vals 42=.bool true:=hd 42 (by simp)
  simp only[List.map_cons,List.map_nil,putZ,d40,d42]
  refine⟨Zaa rfl,?_⟩
  go_simp
  exact hK _ _ _ (Below.refl _ _) rfl
 refine⟨Zak [43] [some 103] (by kernel_rfl) (by kernel_rfl) (fun K w hb hd hK=>?_),?_⟩
 ·have d43:vals 43=.bool true:=hd 43 (by simp)
  simp only[List.map_cons,List.map_nil,putZ,d43]
  refine⟨Zaa rfl,?_⟩
  go_simp
  exact hK _ _ _ (Below.refl _ _) rfl
 refine⟨Zak [44] [some 104] (by kernel_rfl) (by kernel_rfl) (fun K w hb hd hK=>?_),?_⟩
 ·have d44:vals 44=.bool true:=hd 44 (by simp)
  obtain⟨z1,z2,z3⟩:=R10x2.out.grow hb
  simp only[List.map_cons,List.map_nil,putZ,d44]
  refine⟨Zam rfl rfl rfl,?_⟩
  go_simp
  exact hK _ _ _ (Below.refl _ _) rfl
 refine⟨ZaW [44,45] [some 104,some 105] (by kernel_rfl) (by kernel_rfl) (fun K w hb hd hK=>?_),?_⟩
 ·have d44:vals 44=.bool true:=hd 44 (by simp)
  have d45:vals 45=.agg (bysA H):=hd 45 (by simp)
  simp only[List.map_cons,List.map_nil,putZ,d44,d45]
  refine⟨Zam rfl rfl rfl,?_⟩
  go_simp
  refine(KE.out w).mono ?_
  rintro e w' ⟨u,rfl,ho,hb'⟩
  exact⟨_,rfl,hK _ _ hb' (ho.base hb.size)⟩
 refine⟨Zak [44,46] [some 104,some 106] (by kernel_rfl) (by kernel_rfl) (fun K w hb hd hK=>?_),?_⟩
 ·have d44:vals 44=.bool true:=hd 44 (by simp)
  obtain⟨p46,c46,d46,y46,q46,z46⟩:=OwnB.bs (show OwnB w W10.heap.size (vals 46) H from hd 46 (by simp))
  rw[HHl.out] at d46
  simp only[List.map_cons,List.map_nil,putZ,d44,d46]
  refine⟨Zam rfl rfl rfl,?_⟩
  go_simp
  exact hK _ _ _ (Below.refl _ _) rfl
 refine⟨Zak [44,47] [some 104,some 107] (by kernel_rfl) (by kernel_rfl) (fun K w hb hd hK=>?_),?_⟩
 ·have d44:vals 44=.bool true:=hd 44 (by simp)
  have d47:vals 47=.int .i64 208:=hd 47 (by simp)
  simp only[List.map_cons,List.map_nil,putZ,d44,d47]
  refine⟨Zam rfl rfl rfl,?_⟩
  go_simp
  exact hK _ _ _ (Below.refl _ _) rfl
 refine⟨Zak [44,48] [some 104,some 108] (by kernel_rfl) (by kernel_rfl) (fun K w hb hd hK=>?_),?_⟩
 ·have d44:vals 44=.bool true:=hd 44 (by simp)
  have d48:vals 48=.bool true:=hd 48 (by simp)
  simp only[List.map_cons,List.map_nil,putZ,d44,d48]
  refine⟨Zaa rfl,?_⟩
  go_simp
  exact hK _ _ _ (Below.refl _ _) rfl
 intro Wz hbz hR
 obtain d49:vals 49=.bool true:=hR 49 (by simp)
 clear hR
 simp only[List.map_cons,List.map_nil,putZ,d49,pick,List.getElem?_cons_succ,List.getElem?_cons_zero]
 generalize vals 0=q0
 generalize vals 1=q1
 generalize vals 2=q2
 generalize vals 3=q3
 generalize vals 4=q4
 generalize vals 5=q5
 generalize vals 6=q6
 generalize vals 7=q7
 generalize vals 8=q8
 generalize vals 9=q9
 generalize vals 10=q10
 generalize vals 11=q11
 generalize vals 12=q12
 generalize vals 13=q13
 generalize vals 14=q14
 generalize vals 15=q15
 generalize vals 16=q16
 generalize vals 17=q17
 generalize vals 18=q18
 generalize vals 19=q19
 generalize vals 20=q20
 generalize vals 21=q21
 generalize vals 22=q22
 generalize vals 23=q23
 generalize vals 24=q24
 generalize vals 25=q25
 generalize vals 26=q26
 generalize vals 27=q27
 generalize vals 28=q28
 generalize vals 29=q29
 generalize vals 30=q30
 generalize vals 31=q31
 generalize vals 32=q32
 generalize vals 33=q33
 generalize vals 34=q34
 generalize vals 35=q35
 generalize vals 36=q36
 generalize vals 37=q37
 generalize vals 38=q38
 generalize vals 39=q39
 generalize vals 40=q40
 generalize vals 41=q41
 generalize vals 42=q42
 generalize vals 43=q43
 generalize vals 44=q44
 generalize vals 45=q45
 generalize vals 46=q46
 generalize vals 47=q47
 generalize vals 48=q48
 have Bz:=Lib.hid (B10.out.trans (hbz.mono B10.out.size))
 clear hbz d49
 clear vals
 go_wp2_with fail
 go_ret
 exact⟨rfl,Bz.out⟩
theorem ZsK {o a b g:List Nat} (hb:b.length=160):StpOk (unwV o a b g):=by
 unfold unwV
 split
 ·exact⟨ZmA _ (by rw[List.length_take,ZcX hb];rfl),by
   show (keyB (nxA (keyB (shB o a)) a)++(opn (keyB (shB o a)) b).drop 32++((opn (keyB (shB o a)) b).drop 16).take 16).length=208
   rw[List.length_append,List.length_append,ZaI,List.length_drop,List.length_take,List.length_drop,ZcX hb];rfl,ZaI _,Zb5 _⟩
 ·exact ZdB
set_option maxRecDepth 100000 in
@[go_sem] theorem Zlx (w:World) (n:Nat) (h1:w.isRow n=true) (h2:(w.rowOf n).size=267):(Zaq 23 (.pointer (some ⟨n,11,none⟩))).run Tryz.prog w=.ok (.agg ((w.rowOf n).extract 11 43)) w:=ZaF (k:=32) Tryz.underlying23 rfl (by kernel_rfl) w n h1 (by omega)
@[go_sem] theorem ZvL {x:Stp} (h:StpOk x):(Zbi x).extract 11 43=bysA (x.nx.take 32):=by
 rw[Zeh h 11 43 (by decide),List.append_assoc,List.drop_zero,List.take_append_of_le_length (by rw[h.n];decide)]
def rhW (a b g:List Nat):Value→World→Prop:=fun v w=>IsRH w v a b g
theorem Zf4 (a b g:List Nat):Zga (rhW a b g):=fun _ _ _ h hb=>IsRH.grow h hb
theorem IsRS.grow {w w':World} {v:Value} {x:Stp} (h:IsRS w v x) (hb:Below w.heap.size w w'):IsRS w' v x:=by
 obtain⟨k,e,hk,ho⟩:=h
 exact⟨k,e,hk,ho.imp id fun ⟨p,c,e1,hB,hp⟩=>⟨p,c,e1,hB.grow hb,hp⟩⟩
def rsV (x:Stp):Value→World→Prop:=fun v w=>IsRS w v x
theorem ZoF (x:Stp):Zga (rsV x):=fun _ _ _ h hb=>IsRS.grow h hb
def Zlh (E:Int) (x:Stp):Value→World→Prop:=fun v w=>∃ u,v=.tuple #[u,.int .i64 E]∧IsRS w u x
theorem ZfM (E:Int) (x:Stp):Zga (Zlh E x):=fun _ _ _ ⟨u,h,ho⟩ hb=>⟨u,h,IsRS.grow ho hb⟩
def newS (B:Nat):Value→World→Prop:=fun v w=>∃ g,v=.pointer (some ⟨g,0,none⟩)∧RowAt w g rstZ∧B≤g
theorem ZkR (B:Nat):Zga (newS B):=fun _ _ _ ⟨g,h,hr,hB⟩ hb=>⟨g,h,hr.grow hb,hB⟩
theorem Zjo {w:World} {n g o:Nat} {c:Array Value} {l:List Nat} (hr:RowAt w n c) (hb:BytesAt w g o l) (h:c.size<l.length):g≠n:=by
 rintro rfl
 have h1:=hb.2 c.size h
 obtain⟨t,ht⟩:=hr.block
 have h2:w.cell? ⟨g,o+c.size,none⟩=none:=by
  unfold World.cell?
  simp[ht]
 rw[h2] at h1
 cases h1
theorem ZdT:(zs 208).take 32=zs 32∧((zs 208).drop 32).take 160=zs 160∧(zs 208).drop 192=zs 16:=⟨rfl,rfl,rfl⟩
set_option maxHeartbeats 8000000 in
set_option maxRecDepth 100000 in
theorem ZiK (o H:List Nat) (ho:o.length=32) (hob:∀i,o.getD i 0<256) (hHl:H.length=208) (hHb:∀i,H.getD i 0<256) (w:World) (hT:Tabs w) :
  Calls Tryz.prog 4 #[.agg (bysA o),.agg (bysA H)] w fun e w'=>e=.returned (.bool true)∧Below w.heap.size w w':=by
 obtain⟨a,b,g,hp⟩:∃a b g,HdParts H a b g:=⟨_,_,_,HdParts.of hHl hHb⟩
 have HT:=Lib.hid hT
 have hHs:=Zae hHl
 have hos:=Zae ho
 have hA:H.take 32=a:=by rw[hp.eq,List.append_assoc,show 32=a.length from hp.al.symm,List.take_left]
 have hB:(H.drop 32).take 160=b:=by rw[hp.eq,List.append_assoc,show 32=a.length from hp.al.symm,List.drop_left,show 160=b.length from hp.bl.symm,List.take_left]
 have hG:H.drop 192=g:=by rw[hp.eq,show 192=(a++b).length by rw[List.length_append,hp.al,hp.bl],List.drop_left]
 have KU:=Lib.hid (fun (W:World) (h:Tabs W)=>Zhm o a b g ho hob hp.al hp.ab hp.bl hp.bb hp.gl hp.gb W h)
 rw[←hp.eq] at KU
 have KO:=Lib.hid (fun (W:World)=>ZjL H hHl W)
 rw[hA,hB,hG] at KO
 have KRU:=Lib.hid (fun (W:World) (q:Option Addr) (c:Nat) (h1:Bs0 W q b) (h2:q=none→c=0)=>Zml o a b g q c ho hob hp.al hp.ab hp.bl hp.bb hp.gl h2 W h1)
 have Hbl:=Lib.hid hp.bl
 have hX:=ZsK (o:=o) (a:=a) (g:=g) hp.bl
 obtain⟨X,eX⟩:∃z,z=unwV o a b g:=⟨_,rfl⟩
 rw[←eX] at KU KRU hX
 obtain⟨E,eE⟩:∃z,z=unwE o a b g:=⟨_,rfl⟩
 rw[←eE] at KU KRU
 clear eX eE hA hB hG hp hT ho hob hHl hHb
 have hXs:=ZbP hX
 have hzst:=ZbP ZdB
 have hrz:=Zcw
 have hbc:=ZfC X.c
 have hXi:=hX.i
 have hXss:=hX.s
 have hXtt:=hX.t
 have hcs:=Zax hX.i
 have hns:=Zae hX.n
 have hss:=Zae hX.s
 have hts:=Zae hX.t
 have KC:=Lib.hid (fun (W:World)=>Zvm X.c hX.i W)
 have KX:=Lib.hid (fun (W:World)=>ZjL X.nx hX.n W)
 have KS:=Lib.hid (fun (W:World) (p1 p2:Option Addr) (c1 c2:Nat) (h1:Bs0 W p1 ((X.nx.drop 32).take 160)) (h2:Bs0 W p2 ((X.nx.drop 32).take 160))=>ZpR (X.nx.take 32) ((X.nx.drop 32).take 160) (X.nx.drop 192) p1 p2 ((X.nx.drop 32).take 160).length c1 c2 (by simp[hX.n]) (by simp[hX.n]) rfl W h1 h2)
 go_enter Tryz.func4,Tryz.ntmps4
 go_wp2_with fail
 generalize hW:World.alloc _ _=W0
 have R0x0:=Lib.hid (show RowAt W0 (w.heap.size) (bysA o) by rw[←hW];clear hW;exact⟨by go_simp,by first | (go_simp;done) | (go_simp;rfl),by go_simp⟩)
 have R0x1:=Lib.hid (show RowAt W0 (w.heap.size+1) (bysA H) by rw[←hW];clear hW;exact⟨by go_simp,by first | (go_simp;done) | (go_simp;rfl),by go_simp⟩)
 have B0:=Lib.hid (show Below w.heap.size w W0 by rw[←hW];repeat (first | apply Zab | exact Below.refl _ _))
 clear hW
 have l_ow:w.heap.size≤w.heap.size:=by omega
 have l_hh:w.heap.size≤w.heap.size+1:=by omega
 have n_ow_hh:w.heap.size≠w.heap.size+1:=by omega
 generalize w.heap.size+1=hh at *
 obtain⟨ow,eow⟩:∃z,z=w.heap.size:=⟨_,rfl⟩
 rw[←eow] at R0x0 n_ow_hh ⊢
 have l_ow:w.heap.size≤ow:=by rw[eow];exact Nat.le_refl _
 clear eow
 refine(Zmt W0 (HT.out.grow B0.out)).mono ?_
 rintro e W1 ⟨rfl,hb1⟩
 have R1x0:=Lib.hid (R0x0.out.grow hb1)
 have R1x1:=Lib.hid (R0x1.out.grow hb1)
 have B1:=Lib.hid (B0.out.trans (hb1.mono B0.out.size))
 clear hb1 B0 R0x0 R0x1
 obtain⟨R1x0a,R1x0b,R1x0c⟩:=R1x0.out
 obtain⟨R1x1a,R1x1b,R1x1c⟩:=R1x1.out
 go_wp2_with fail
 refine(KU.out _ (HT.out.grow B1.out)).mono ?_
 rintro e W2 ⟨rfl,hb2⟩
 clear R1x0a R1x0b R1x0c R1x1a R1x1b R1x1c
 have R2x0:=Lib.hid (R1x0.out.grow hb2)
 have R2x1:=Lib.hid (R1x1.out.grow hb2)
 have B2:=Lib.hid (B1.out.trans (hb2.mono B1.out.size))
 clear hb2 B1 R1x0 R1x1
 obtain⟨R2x0a,R2x0b,R2x0c⟩:=R2x0.out
 obtain⟨R2x1a,R2x1b,R2x1c⟩:=R2x1.out
 go_wp2_with fail
 have n_ow_xv:ow≠W2.heap.size:=Nat.ne_of_lt R2x0.out.2.2
 have n_hh_xv:hh≠W2.heap.size:=Nat.ne_of_lt R2x1.out.2.2
 have l_xv:w.heap.size≤W2.heap.size:=B2.out.size
 have hb3:=Zab (Below.refl W2.heap.size W2) (.cells (Zbi X) 53)
 have N3:=Lib.hid (RowAt.of (Zas W2 (.cells (Zbi X) 53)))
 have R3x0:=Lib.hid (R2x0.out.grow hb3)
 have R3x1:=Lib.hid (R2x1.out.grow hb3)
 have B3:=Lib.hid (B2.out.trans (hb3.mono B2.out.size))
 clear hb3 B2 R2x0 R2x1 R2x0a R2x0b R2x0c R2x1a R2x1b R2x1c
 generalize W2.heap.size=xv at *
 generalize W2.alloc (.cells (Zbi X) 53)=W3 at *
 obtain⟨R3x0a,R3x0b,R3x0c⟩:=R3x0.out
 obtain⟨R3x1a,R3x1b,R3x1c⟩:=R3x1.out
 obtain⟨N3a,N3b,N3c⟩:=N3.out
 go_wp2_with fail
 clear R3x0a R3x0b R3x0c R3x1a R3x1b R3x1c N3a N3b N3c
 refine Zdd W3 8 (fun w w'=>Below w.heap.size w w') (ZfY [fixV (.agg (bysA o)),fixV (.agg (bysA H)),rhW a b g,Zlh E X,Zlh E X,rsV X,fixV (.int .i64 E),newS W3.heap.size]) [6] [8,9] [0,1,2,3,4,5,6,7] [some 18,some 19,some 20,some 21,some 17,some 22,some 23,some 7] (by kernel_rfl) (by kernel_rfl) (by kernel_rfl) (by kernel_rfl) (by intro c a d v w h;cases d<;>exact h) (fun _=>Below.refl _ _) (by first | exact(Below.refl _ _).drew | exact Below.refl _ _) (fun w w' h h'=>h.trans (h'.mono h.size)) (ZbS ⟨Zai _,Zai _,Zf4 _ _ _,ZfM _ _,ZfM _ _,ZoF _,Zai _,ZkR _,trivial⟩) ?_
 intro vals
 simp only[List.take_succ_cons,List.take_zero]
 refine⟨Zeu rfl (Zak [] [] (by kernel_rfl) rfl (fun K w hb hdq hK=>?_)),?_⟩
 ·obtain⟨x1,x2,x3⟩:=R3x0.out.grow hb
  simp only[putZ]
  refine⟨Zaa rfl,?_⟩
  go_simp
  exact hK _ _ _ (Below.refl _ _) rfl
 refine⟨Zeu rfl (Zak [] [] (by kernel_rfl) rfl (fun K w hb hdq hK=>?_)),?_⟩
 ·obtain⟨x1,x2,x3⟩:=R3x1.out.grow hb
  simp only[putZ]
  refine⟨Zaa rfl,?_⟩
  go_simp
  exact hK _ _ _ (Below.refl _ _) rfl
 refine⟨Zeu rfl (ZaW [1] [some 19] (by kernel_rfl) (by kernel_rfl) (fun K w hb hdq hK=>?_)),?_⟩
 ·have d1:vals 1=.agg (bysA H):=hdq 1 (by simp)
  simp only[List.map_cons,List.map_nil,putZ,d1]
  refine⟨Zaa rfl,?_⟩
  go_simp
  refine(KO.out w).mono ?_
  rintro e w' ⟨v,rfl,ho,hb'⟩
  exact⟨_,rfl,hK _ _ hb' ho⟩
 refine⟨Zeu rfl (ZaW [0,2] [some 18,some 20] (by kernel_rfl) (by kernel_rfl) (fun K w hb hdq hK=>?_)),?_⟩
 ·have d0:vals 0=.agg (bysA o):=hdq 0 (by simp)
  obtain⟨p2,c2,d2,y2,z2⟩:IsRH w (vals 2) a b g:=hdq 2 (by simp)
  rw[Hbl.out] at d2
  simp only[List.map_cons,List.map_nil,putZ,d0,d2]
  refine⟨Zaa rfl,?_⟩
  go_simp
  refine(KRU.out w _ _ y2 z2).mono ?_
  rintro e w' ⟨u,rfl,ho,hb'⟩
  exact⟨_,rfl,hK _ _ hb' ⟨u,rfl,ho⟩⟩
 refine⟨Zeu rfl (Zak [3] [some 21] (by kernel_rfl) (by kernel_rfl) (fun K w hb hdq hK=>?_)),?_⟩
 ·obtain⟨u3,d3,o3⟩:Zlh E X (vals 3) w:=hdq 3 (by simp)
  simp only[List.map_cons,List.map_nil,putZ,d3]
  refine⟨Zaa rfl,?_⟩
  go_simp
  exact hK _ _ _ (Below.refl _ _) ⟨u3,rfl,o3⟩
 refine⟨Zeu rfl (Zak [4] [some 17] (by kernel_rfl) (by kernel_rfl) (fun K w hb hdq hK=>?_)),?_⟩
 ·obtain⟨u4,d4,o4⟩:Zlh E X (vals 4) w:=hdq 4 (by simp)
  simp only[List.map_cons,List.map_nil,putZ,d4]
  refine⟨Zaa rfl,?_⟩
  go_simp
  exact hK _ _ _ (Below.refl _ _) o4
 refine⟨ZtW rfl (Zh8 [4] [some 17] (by kernel_rfl) (by kernel_rfl) (fun w hb hdq=>?_)),?_⟩
 ·obtain⟨u4,d4,o4⟩:Zlh E X (vals 4) w:=hdq 4 (by simp)
  simp only[List.map_cons,List.map_nil,putZ,d4]
  refine⟨.int .i64 E,rfl,Zaa rfl,fun w'=>?_⟩
  go_simp
 refine⟨Zeu rfl (Zak [] [] (by kernel_rfl) rfl (fun K w hb hdq hK=>?_)),?_⟩
 ·simp only[putZ]
  refine⟨Zaa rfl,?_⟩
  go_simp
  exact hK _ _ _ (Zab (Below.refl _ _) _) ⟨w.heap.size,rfl,RowAt.of (Zas w _),hb.size⟩
 intro W4 hb4 hR
 obtain⟨h,e5,hh49,hor⟩:IsRS W4 (vals 5) X:=hR 5 (by simp)
 obtain e6:vals 6=.int .i64 E:=hR 6 (by simp)
 obtain⟨yv,e7,hry,hgy⟩:newS W3.heap.size (vals 7) W4:=hR 7 (by simp)
 clear hR
 simp only[List.map_cons,List.map_nil,putZ,e5,e6,e7,pick,List.getElem?_cons_succ,List.getElem?_cons_zero]
 generalize vals 0=q0
 generalize vals 1=q1
 generalize vals 2=q2
 generalize vals 3=q3
 generalize vals 4=q4
 clear e5 e6 e7
 clear vals
 have n_ow_yv:ow≠yv:=by have:=R3x0.out.2.2;omega
 have n_hh_yv:hh≠yv:=by have:=R3x1.out.2.2;omega
 have n_xv_yv:xv≠yv:=by have:=N3.out.2.2;omega
 have l_yv:w.heap.size≤yv:=Nat.le_trans B3.out.size hgy
 have hh1:Za2 h=true:=by
  rcases hor with ⟨_,rfl⟩ | ⟨q,c,rfl,_,_⟩
  ·exact Zhs _ _ _ _ _
  ·exact Zhs _ _ _ _ _
 have hs1:Za2 (rstA X.c h X.s X.t)=true:=Zg9 hh1
 have hs108:=Zep hX.i hh49 hX.s hX.t
 have hor2:(X.nx=zs 208∧h=rhA (zs 32) (.slice none 0 0) (zs 16))∨∃ p c,h=rhA (X.nx.take 32) (.slice p 160 c) (X.nx.drop 192)∧Bs0 (W4.setRow yv (rstA X.c h X.s X.t)) p ((X.nx.drop 32).take 160)∧(p=none→c=0):=by
  refine hor.imp id fun ⟨q,c,e,hB,hq⟩=>⟨q,c,e,?_,hq⟩
  have hbl':((X.nx.drop 32).take 160).length=160:=by simp[hX.n]
  rcases hB with h0 | ⟨g0,o0,rfl,hB⟩
  ·rw[h0] at hbl';cases hbl'
  ·exact Bs0.some (hB.setRow (Zjo hry hB (by rw[Zcw,hbl'];decide)) _)
 have V4:=Lib.hid hry
 clear hry hgy hor
 have R4x0:=Lib.hid (R3x0.out.grow hb4)
 have R4x1:=Lib.hid (R3x1.out.grow hb4)
 have R4x2:=Lib.hid (N3.out.grow hb4)
 have B4:=Lib.hid (B3.out.trans (hb4.mono B3.out.size))
 clear hb4 B3 R3x0 R3x1 N3
 obtain⟨R4x0a,R4x0b,R4x0c⟩:=R4x0.out
 obtain⟨R4x1a,R4x1b,R4x1c⟩:=R4x1.out
 obtain⟨R4x2a,R4x2b,R4x2c⟩:=R4x2.out
 obtain⟨V4a,V4b,V4c⟩:=V4.out
 go_step
 go_simp
 go_wp2_with fail
 have Hor:=Lib.hid hor2
 clear hor2
 have R5x0:=Lib.hid (R4x0.out.other n_ow_yv (rstA X.c h X.s X.t))
 have R5x1:=Lib.hid (R4x1.out.other n_hh_yv (rstA X.c h X.s X.t))
 have R5x2:=Lib.hid (R4x2.out.other n_xv_yv (rstA X.c h X.s X.t))
 have R5x3:=Lib.hid (V4.out.set (rstA X.c h X.s X.t))
 have B5:=Lib.hid (Zac B4.out l_yv (rstA X.c h X.s X.t))
 clear B4 R4x0 R4x1 R4x2 V4 R4x0a R4x0b R4x0c R4x1a R4x1b R4x1c R4x2a R4x2b R4x2c V4a V4b V4c
 generalize W4.setRow yv (rstA X.c h X.s X.t)=W5 at *
 have KN:=Lib.hid (fun (W:World) (hb:Below W5.heap.size W5 W)=>show Calls Tryz.prog 16 #[.agg h] W fun e w'=>∃ v,e=.returned v∧IsRH w' v (X.nx.take 32) ((X.nx.drop 32).take 160) (X.nx.drop 192)∧Below W.heap.size W w' from by
  have hbl':((X.nx.drop 32).take 160).length=160:=by simp[hX.n]
  rcases Hor.out with ⟨e1,e2⟩ | ⟨q,c,e2,hB,hq⟩
  ·rw[e1,e2,ZdT.1,ZdT.2.1,ZdT.2.2]
   exact ZkL (zs 32) (zs 16) (Zah 32) (Zah 16) W
  ·rw[e2]
   exact ZjC (X.nx.take 32) ((X.nx.drop 32).take 160) (X.nx.drop 192) q 160 c (by simp[hX.n]) (by simp[hX.n]) hbl'.symm (by decide) hq W (hB.grow hb))
 clear Hor
 generalize X.nx.take 32=a1 at *
 generalize (X.nx.drop 32).take 160=b1 at *
 generalize X.nx.drop 192=g1 at *
 refine Za3 W5 34 (fun w w'=>Below w.heap.size w w') (ZfY [fixV (.pointer (some ⟨xv,0,none⟩)),fixV (.agg (cmdA X.c)),fixV (.agg (cmdA X.c)),fixV (.pointer (some ⟨yv,0,none⟩)),fixV (.agg (cmdA X.c)),fixV (.bool true),fixV (.bool true),fixV (.pointer (some ⟨xv,11,none⟩)),fixV (.agg (bysA X.nx)),rhW a1 b1 g1,fixV (.pointer (some ⟨yv,11,none⟩)),fixV (.agg h),rhW a1 b1 g1,fixV (.bool true),fixV (.bool true),fixV (.bool true),fixV (.pointer (some ⟨xv,219,none⟩)),fixV (.agg (bysA X.s)),fixV (.pointer (some ⟨yv,60,none⟩)),fixV (.agg (bysA X.s)),fixV (.bool true),fixV (.bool true),fixV (.bool true),fixV (.pointer (some ⟨xv,251,none⟩)),fixV (.agg (bysA X.t)),fixV (.pointer (some ⟨yv,92,none⟩)),fixV (.agg (bysA X.t)),fixV (.bool true),fixV (.bool true),fixV (.bool true),fixV (.int .i64 E),fixV (.int .i64 E),fixV (.bool true),fixV (.bool true)]) [34] [0,1,2,3,4,5,6,7,8,9,10,11,12,13,14,15,16,17,18,19,20,21,22,23,24,25,26,27,28,29,30,31,32,33] [some 24,some 25,some 26,some 27,some 28,some 29,some 30,some 31,some 32,some 33,some 34,some 35,some 36,some 37,some 38,some 39,some 40,some 41,some 42,some 43,some 44,some 45,some 46,some 47,some 48,some 49,some 50,some 51,some 52,some 53,some 54,some 55,some 56,some 57] (by kernel_rfl) (by kernel_rfl) (by kernel_rfl) (by kernel_rfl) (by first | exact(Below.refl _ _).drew | exact Below.refl _ _) (fun w w' h h'=>h.trans (h'.mono h.size)) (ZbS ⟨Zai _,Zai _,Zai _,Zai _,Zai _,Zai _,Zai _,Zai _,Zai _,Zf4 _ _ _,Zai _,Zai _,Zf4 _ _ _,Zai _,Zai _,Zai _,Zai _,Zai _,Zai _,Zai _,Zai _,Zai _,Zai _,Zai _,Zai _,Zai _,Zai _,Zai _,Zai _,Zai _,Zai _,Zai _,Zai _,Zai _,trivial⟩) ?_
 intro vals
 simp only[List.take_succ_cons,List.take_zero]
 refine⟨(Zak [] [] (by kernel_rfl) rfl (fun K w hb hdq hK=>?_)),?_⟩
 ·simp only[putZ]
  refine⟨Zaa rfl,?_⟩
  go_simp
  exact hK _ _ _ (Below.refl _ _) rfl
 refine⟨(Zak [0] [some 24] (by kernel_rfl) (by kernel_rfl) (fun K w hb hdq hK=>?_)),?_⟩
 ·have d0:vals 0=.pointer (some ⟨xv,0,none⟩):=hdq 0 (by simp)
  obtain⟨x1,x2,x3⟩:=R5x2.out.grow hb
  simp only[List.map_cons,List.map_nil,putZ,d0]
  refine⟨Zaa rfl,?_⟩
  go_simp
  exact hK _ _ _ (Below.refl _ _) rfl
 refine⟨(ZaW [1] [some 25] (by kernel_rfl) (by kernel_rfl) (fun K w hb hdq hK=>?_)),?_⟩
 ·have d1:vals 1=.agg (cmdA X.c):=hdq 1 (by simp)
  simp only[List.map_cons,List.map_nil,putZ,d1]
  refine⟨Zaa rfl,?_⟩
  go_simp
  refine(KC.out w).mono ?_
  rintro e w' ⟨rfl,hb'⟩
  exact⟨_,rfl,hK _ _ hb' rfl⟩
 refine⟨(Zak [] [] (by kernel_rfl) rfl (fun K w hb hdq hK=>?_)),?_⟩
 ·simp only[putZ]
  refine⟨Zaa rfl,?_⟩
  go_simp
  exact hK _ _ _ (Below.refl _ _) rfl
 refine⟨(Zak [3] [some 27] (by kernel_rfl) (by kernel_rfl) (fun K w hb hdq hK=>?_)),?_⟩
 ·have d3:vals 3=.pointer (some ⟨yv,0,none⟩):=hdq 3 (by simp)
  obtain⟨x1,x2,x3⟩:=R5x3.out.grow hb
  simp only[List.map_cons,List.map_nil,putZ,d3]
  refine⟨Zaa rfl,?_⟩
  go_simp
  exact hK _ _ _ (Below.refl _ _) rfl
 refine⟨(Zak [2,4] [some 26,some 28] (by kernel_rfl) (by kernel_rfl) (fun K w hb hdq hK=>?_)),?_⟩
 ·have d2:vals 2=.agg (cmdA X.c):=hdq 2 (by simp)
  have d4:vals 4=.agg (cmdA X.c):=hdq 4 (by simp)
  simp only[List.map_cons,List.map_nil,putZ,d2,d4]
  refine⟨Zaa rfl,?_⟩
  go_simp
  exact hK _ _ _ (Below.refl _ _) rfl
 refine⟨(Zak [5] [some 29] (by kernel_rfl) (by kernel_rfl) (fun K w hb hdq hK=>?_)),?_⟩
 ·have d5:vals 5=.bool true:=hdq 5 (by simp)
  simp only[List.map_cons,List.map_nil,putZ,d5]
  refine⟨Zaa rfl,?_⟩
  go_simp
  exact hK _ _ _ (Below.refl _ _) rfl
 refine⟨(Zak [6] [some 30] (by kernel_rfl) (by kernel_rfl) (fun K w hb hdq hK=>?_)),?_⟩
 ·have d6:vals 6=.bool true:=hdq 6 (by simp)
  simp only[List.map_cons,List.map_nil,putZ,d6]
  refine⟨Zam rfl rfl rfl,?_⟩
  go_simp
  exact hK _ _ _ (Below.refl _ _) rfl
 refine⟨(Zak [6,7] [some 30,some 31] (by kernel_rfl) (by kernel_rfl) (fun K w hb hdq hK=>?_)),?_⟩
 ·have d6:vals 6=.bool true:=hdq 6 (by simp)
  have d7:vals 7=.pointer (some ⟨xv,11,none⟩):=hdq 7 (by simp)
  obtain⟨x1,x2,x3⟩:=R5x2.out.grow hb
  simp only[List.map_cons,List.map_nil,putZ,d6,d7]
  refine⟨Zam rfl rfl rfl,?_⟩
  go_simp
  exact hK _ _ _ (Below.refl _ _) rfl
 refine⟨(ZaW [6,8] [some 30,some 32] (by kernel_rfl) (by kernel_rfl) (fun K w hb hdq hK=>?_)),?_⟩
 ·have d6:vals 6=.bool true:=hdq 6 (by simp)
  have d8:vals 8=.agg (bysA X.nx):=hdq 8 (by simp)
  simp only[List.map_cons,List.map_nil,putZ,d6,d8]
  refine⟨Zam rfl rfl rfl,?_⟩
  go_simp
  refine(KX.out w).mono ?_
  rintro e w' ⟨v,rfl,ho,hb'⟩
  exact⟨_,rfl,hK _ _ hb' ho⟩
 refine⟨(Zak [6] [some 30] (by kernel_rfl) (by kernel_rfl) (fun K w hb hdq hK=>?_)),?_⟩
 ·have d6:vals 6=.bool true:=hdq 6 (by simp)
  simp only[List.map_cons,List.map_nil,putZ,d6]
  refine⟨Zam rfl rfl rfl,?_⟩
  go_simp
  exact hK _ _ _ (Below.refl _ _) rfl
 refine⟨(Zak [6,10] [some 30,some 34] (by kernel_rfl) (by kernel_rfl) (fun K w hb hdq hK=>?_)),?_⟩
 ·have d6:vals 6=.bool true:=hdq 6 (by simp)
  have d10:vals 10=.pointer (some ⟨yv,11,none⟩):=hdq 10 (by simp)
  obtain⟨x1,x2,x3⟩:=R5x3.out.grow hb
  simp only[List.map_cons,List.map_nil,putZ,d6,d10]
  refine⟨Zam rfl rfl rfl,?_⟩
  go_simp
  exact hK _ _ _ (Below.refl _ _) rfl
 refine⟨(ZaW [6,11] [some 30,some 35] (by kernel_rfl) (by kernel_rfl) (fun K w hb hdq hK=>?_)),?_⟩
 ·have d6:vals 6=.bool true:=hdq 6 (by simp)
  have d11:vals 11=.agg h:=hdq 11 (by simp)
  simp only[List.map_cons,List.map_nil,putZ,d6,d11]
  refine⟨Zam rfl rfl rfl,?_⟩
  go_simp
  refine(KN.out w hb).mono ?_
  rintro e w' ⟨v,rfl,ho,hb'⟩
  exact⟨_,rfl,hK _ _ hb' ho⟩
 refine⟨(ZaW [6,9,12] [some 30,some 33,some 36] (by kernel_rfl) (by kernel_rfl) (fun K w hb hdq hK=>?_)),?_⟩
 ·have d6:vals 6=.bool true:=hdq 6 (by simp)
  obtain⟨p9,c9,d9,y9,z9⟩:IsRH w (vals 9) a1 b1 g1:=hdq 9 (by simp)
  obtain⟨p12,c12,d12,y12,z12⟩:IsRH w (vals 12) a1 b1 g1:=hdq 12 (by simp)
  simp only[List.map_cons,List.map_nil,putZ,d6,d9,d12]
  refine⟨Zam rfl rfl rfl,?_⟩
  go_simp
  refine(KS.out w _ _ _ _ y9 y12).mono ?_
  rintro e w' ⟨rfl,hb'⟩
  exact⟨_,rfl,hK _ _ hb' rfl⟩
 refine⟨(Zak [6,13] [some 30,some 37] (by kernel_rfl) (by kernel_rfl) (fun K w hb hdq hK=>?_)),?_⟩
 ·have d6:vals 6=.bool true:=hdq 6 (by simp)
  have d13:vals 13=.bool true:=hdq 13 (by simp)
  simp only[List.map_cons,List.map_nil,putZ,d6,d13]
  refine⟨Zaa rfl,?_⟩
  go_simp
  exact hK _ _ _ (Below.refl _ _) rfl
 refine⟨(Zak [14] [some 38] (by kernel_rfl) (by kernel_rfl) (fun K w hb hdq hK=>?_)),?_⟩
 ·have d14:vals 14=.bool true:=hdq 14 (by simp)
  simp only[List.map_cons,List.map_nil,putZ,d14]
  refine⟨Zaa rfl,?_⟩
  go_simp
  exact hK _ _ _ (Below.refl _ _) rfl
 refine⟨(Zak [15] [some 39] (by kernel_rfl) (by kernel_rfl) (fun K w hb hdq hK=>?_)),?_⟩
 ·have d15:vals 15=.bool true:=hdq 15 (by simp)
  simp only[List.map_cons,List.map_nil,putZ,d15]
  refine⟨Zam rfl rfl rfl,?_⟩
  go_simp
  exact hK _ _ _ (Below.refl _ _) rfl
 refine⟨(Zak [15,16] [some 39,some 40] (by kernel_rfl) (by kernel_rfl) (fun K w hb hdq hK=>?_)),?_⟩
 ·have d15:vals 15=.bool true:=hdq 15 (by simp)
  have d16:vals 16=.pointer (some ⟨xv,219,none⟩):=hdq 16 (by simp)
  obtain⟨x1,x2,x3⟩:=R5x2.out.grow hb
  simp only[List.map_cons,List.map_nil,putZ,d15,d16]
  refine⟨Zam rfl rfl rfl,?_⟩
  go_simp
  exact hK _ _ _ (Below.refl _ _) rfl
 refine⟨(Zak [15] [some 39] (by kernel_rfl) (by kernel_rfl) (fun K w hb hdq hK=>?_)),?_⟩
 ·have d15:vals 15=.bool true:=hdq 15 (by simp)
  simp only[List.map_cons,List.map_nil,putZ,d15]
  refine⟨Zam rfl rfl rfl,?_⟩
  go_simp
  exact hK _ _ _ (Below.refl _ _) rfl
 refine⟨(Zak [15,18] [some 39,some 42] (by kernel_rfl) (by kernel_rfl) (fun K w hb hdq hK=>?_)),?_⟩
 ·have d15:vals 15=.bool true:=hdq 15 (by simp)
  have d18:vals 18=.pointer (some ⟨yv,60,none⟩):=hdq 18 (by simp)
  obtain⟨x1,x2,x3⟩:=R5x3.out.grow hb
  simp only[List.map_cons,List.map_nil,putZ,d15,d18]
  refine⟨Zam rfl rfl rfl,?_⟩
  go_simp
  exact hK _ _ _ (Below.refl _ _) rfl
 refine⟨(Zak [15,17,19] [some 39,some 41,some 43] (by kernel_rfl) (by kernel_rfl) (fun K w hb hdq hK=>?_)),?_⟩
 ·have d15:vals 15=.bool true:=hdq 15 (by simp)
  have d17:vals 17=.agg (bysA X.s):=hdq 17 (by simp)
  have d19:vals 19=.agg (bysA X.s):=hdq 19 (by simp)
  simp only[List.map_cons,List.map_nil,putZ,d15,d17,d19]
  refine⟨Zam rfl rfl rfl,?_⟩
  go_simp
  exact hK _ _ _ (Below.refl _ _) rfl
 refine⟨(Zak [15,20] [some 39,some 44] (by kernel_rfl) (by kernel_rfl) (fun K w hb hdq hK=>?_)),?_⟩
 ·have d15:vals 15=.bool true:=hdq 15 (by simp)
  have d20:vals 20=.bool true:=hdq 20 (by simp)
  simp only[List.map_cons,List.map_nil,putZ,d15,d20]
  refine⟨Zaa rfl,?_⟩
  go_simp
  exact hK _ _ _ (Below.refl _ _) rfl
 refine⟨(Zak [21] [some 45] (by kernel_rfl) (by kernel_rfl) (fun K w hb hdq hK=>?_)),?_⟩
 ·have d21:vals 21=.bool true:=hdq 21 (by simp)
  simp only[List.map_cons,List.map_nil,putZ,d21]
  refine⟨Zaa rfl,?_⟩
  go_simp
  exact hK _ _ _ (Below.refl _ _) rfl
 refine⟨(Zak [22] [some 46] (by kernel_rfl) (by kernel_rfl) (fun K w hb hdq hK=>?_)),?_⟩
 ·have d22:vals 22=.bool true:=hdq 22 (by simp)
  simp only[List.map_cons,List.map_nil,putZ,d22]
  refine⟨Zam rfl rfl rfl,?_⟩
  go_simp
  exact hK _ _ _ (Below.refl _ _) rfl
 refine⟨(Zak [22,23] [some 46,some 47] (by kernel_rfl) (by kernel_rfl) (fun K w hb hdq hK=>?_)),?_⟩
 ·have d22:vals 22=.bool true:=hdq 22 (by simp)
  have d23:vals 23=.pointer (some ⟨xv,251,none⟩):=hdq 23 (by simp)
  obtain⟨x1,x2,x3⟩:=R5x2.out.grow hb
  simp only[List.map_cons,List.map_nil,putZ,d22,d23]
  refine⟨Zam rfl rfl rfl,?_⟩
  go_simp
  exact hK _ _ _ (Below.refl _ _) rfl
 refine⟨(Zak [22] [some 46] (by kernel_rfl) (by kernel_rfl) (fun K w hb hdq hK=>?_)),?_⟩
 ·have d22:vals 22=.bool true:=hdq 22 (by simp)
  simp only[List.map_cons,List.map_nil,putZ,d22]
  refine⟨Zam rfl rfl rfl,?_⟩
  go_simp
  exact hK _ _ _ (Below.refl _ _) rfl
 refine⟨(Zak [22,25] [some 46,some 49] (by kernel_rfl) (by kernel_rfl) (fun K w hb hdq hK=>?_)),?_⟩
 ·have d22:vals 22=.bool true:=hdq 22 (by simp)
  have d25:vals 25=.pointer (some ⟨yv,92,none⟩):=hdq 25 (by simp)
  obtain⟨x1,x2,x3⟩:=R5x3.out.grow hb
  simp only[List.map_cons,List.map_nil,putZ,d22,d25]
  refine⟨Zam rfl rfl rfl,?_⟩
  go_simp
  exact hK _ _ _ (Below.refl _ _) rfl
 refine⟨(Zak [22,24,26] [some 46,some 48,some 50] (by kernel_rfl) (by kernel_rfl) (fun K w hb hdq hK=>?_)),?_⟩
 ·have d22:vals 22=.bool true:=hdq 22 (by simp)
  have d24:vals 24=.agg (bysA X.t):=hdq 24 (by simp)
  have d26:vals 26=.agg (bysA X.t):=hdq 26 (by simp)
  simp only[List.map_cons,List.map_nil,putZ,d22,d24,d26]
  refine⟨Zam rfl rfl rfl,?_⟩
  go_simp
  exact hK _ _ _ (Below.refl _ _) rfl
 refine⟨(Zak [22,27] [some 46,some 51] (by kernel_rfl) (by kernel_rfl) (fun K w hb hdq hK=>?_)),?_⟩
 ·have d22:vals 22=.bool true:=hdq 22 (by simp)
  have d27:vals 27=.bool true:=hdq 27 (by simp)
  simp only[List.map_cons,List.map_nil,putZ,d22,d27]
  refine⟨Zaa rfl,?_⟩
  go_simp
  exact hK _ _ _ (Below.refl _ _) rfl
 refine⟨(Zak [28] [some 52] (by kernel_rfl) (by kernel_rfl) (fun K w hb hdq hK=>?_)),?_⟩
 ·have d28:vals 28=.bool true:=hdq 28 (by simp)
  simp only[List.map_cons,List.map_nil,putZ,d28]
  refine⟨Zaa rfl,?_⟩
  go_simp
  exact hK _ _ _ (Below.refl _ _) rfl
 refine⟨(Zak [29] [some 53] (by kernel_rfl) (by kernel_rfl) (fun K w hb hdq hK=>?_)),?_⟩
 ·have d29:vals 29=.bool true:=hdq 29 (by simp)
  simp only[List.map_cons,List.map_nil,putZ,d29]
  refine⟨Zam rfl rfl rfl,?_⟩
  go_simp
  exact hK _ _ _ (Below.refl _ _) rfl
 refine⟨(Zak [29] [some 53] (by kernel_rfl) (by kernel_rfl) (fun K w hb hdq hK=>?_)),?_⟩
 ·have d29:vals 29=.bool true:=hdq 29 (by simp)
  simp only[List.map_cons,List.map_nil,putZ,d29]
  refine⟨Zam rfl rfl rfl,?_⟩
  go_simp
  exact hK _ _ _ (Below.refl _ _) rfl
 refine⟨(Zak [29,30,31] [some 53,some 54,some 55] (by kernel_rfl) (by kernel_rfl) (fun K w hb hdq hK=>?_)),?_⟩
 ·have d29:vals 29=.bool true:=hdq 29 (by simp)
  have d30:vals 30=.int .i64 E:=hdq 30 (by simp)
  have d31:vals 31=.int .i64 E:=hdq 31 (by simp)
  simp only[List.map_cons,List.map_nil,putZ,d29,d30,d31]
  refine⟨Zam rfl rfl rfl,?_⟩
  go_simp
  exact hK _ _ _ (Below.refl _ _) rfl
 refine⟨(Zak [29,32] [some 53,some 56] (by kernel_rfl) (by kernel_rfl) (fun K w hb hdq hK=>?_)),?_⟩
 ·have d29:vals 29=.bool true:=hdq 29 (by simp)
  have d32:vals 32=.bool true:=hdq 32 (by simp)
  simp only[List.map_cons,List.map_nil,putZ,d29,d32]
  refine⟨Zaa rfl,?_⟩
  go_simp
  exact hK _ _ _ (Below.refl _ _) rfl
 intro Wz hbz hR
 obtain d33:vals 33=.bool true:=hR 33 (by simp)
 clear hR
 simp only[List.map_cons,List.map_nil,putZ,d33,pick,List.getElem?_cons_succ,List.getElem?_cons_zero]
 generalize vals 0=q0
 generalize vals 1=q1
 generalize vals 2=q2
 generalize vals 3=q3
 generalize vals 4=q4
 generalize vals 5=q5
 generalize vals 6=q6
 generalize vals 7=q7
 generalize vals 8=q8
 generalize vals 9=q9
 generalize vals 10=q10
 generalize vals 11=q11
 generalize vals 12=q12
 generalize vals 13=q13
 generalize vals 14=q14
 generalize vals 15=q15
 generalize vals 16=q16
 generalize vals 17=q17
 generalize vals 18=q18
 generalize vals 19=q19
 generalize vals 20=q20
 generalize vals 21=q21
 generalize vals 22=q22
 generalize vals 23=q23
 generalize vals 24=q24
 generalize vals 25=q25
 generalize vals 26=q26
 generalize vals 27=q27
 generalize vals 28=q28
 generalize vals 29=q29
 generalize vals 30=q30
 generalize vals 31=q31
 generalize vals 32=q32
 have Bz:=Lib.hid (B5.out.trans (hbz.mono B5.out.size))
 clear hbz d33
 clear vals
 go_step
 go_simp
 go_wp2_with fail
 go_ret
 exact⟨rfl,Bz.out⟩
end Go.Proofs.YtddmjddlbhdcpaaGreatDoor
