/-
  Part 4 of the texts behind the theorem.
-/
import Derived.Test.YtddmjddlbhdcpaaGreatDoorPart3
import Derived.Test.YtddmjddlbhdcpaaGreatDoorPart1
import Derived.Test.YtddmjddlbhdcpaaGreatDoorPart2
set_option maxHeartbeats 8000000
set_option maxRecDepth 100000
namespace Go.Proofs.YtddmjddlbhdcpaaGreatDoor.F
open Go.RowKit Go.Shelf Go.Hold
theorem Zg9 (l:List Nat) (n g cap:Nat) (w:World) (hn:l.length=n) (h32:32≤n) (h64:n≤64) (hm:Most 4194304 l) (h:Own w 0 (.slice (some ⟨g,0,none⟩) n cap) l) :
  Calls Tryz.prog 137 #[.slice (some ⟨g,0,none⟩) n cap] w fun e w' =>
   ∃ n,e=.returned (kv n)∧n<115792089237316195423570985008687907853269984665640564039457584007913129639936∧n%Fp.P=Zas l%Fp.P∧Below w.heap.size w w':=by
 subst hn
 exact(Zmf l g cap w h32 h64 hm h).mono fun e w' ⟨n,h1,h2,h3⟩=>⟨n,h1,by simpa using h2,h3⟩
theorem Zti (n k i:Nat) (h:i<k):(dg n k).getD i 0=n/256^i%256:=by rw[List.getD_eq_getElem?_getD,Zmu n k i h];rfl
theorem Znh (n k:Nat) (i:Nat):(dg n k).getD i 0≤255:=by
 by_cases h:i<k
 ·rw[Zti n k i h];omega
 ·rw[List.getD_eq_getElem?_getD,List.getElem?_eq_none (by rw[ZaV];omega)];simp
theorem Zkh (n:Nat) (h:n<115792089237316195423570985008687907853269984665640564039457584007913129639936):Zas (dg n 32)=n:=by rw[Zqs,Nat.mod_eq_of_lt (by simpa using h)]
theorem RowAt.cell {w:World} {n:Nat} {c:Array Value} (h:RowAt w n c) (i:Nat):w.cell? ⟨n,i,none⟩=c[i]?:=by
 obtain⟨t,ht⟩:=h.block
 exact cell_of_row w n i c t (0,0) ht
def lim2 (s k x:Nat):Nat:=255+if x<k then s else 0
theorem Zmg (s k x:Nat):lim2 s k x≤lim2 s (k+1) x:=by
 unfold lim2;by_cases h:x<k<;>simp[h,show x<k→x<k+1 by omega]
theorem ZnK (s k:Nat):lim2 s k k=255∧lim2 s (k+1) k=255+s:=by unfold lim2;simp
theorem Zeq (s k x:Nat):lim2 s k x≤255+s:=by unfold lim2;split<;>omega
theorem Zkx {m:List Nat} {s k y:Nat} (hk:k<32) (hy:y≤s) (hm:m.length=32) (hb:∀x,m.getD x 0≤lim2 s k x) :
  (m.set k (m.getD k 0+y)).length=32∧Zas (m.set k (m.getD k 0+y))=Zas m+256^k*y∧∀ x,(m.set k (m.getD k 0+y)).getD x 0≤lim2 s (k+1) x:=by
 refine⟨by rw[List.length_set,hm],ZcB m k y (by omega),fun j=>?_⟩
 rw[Zfh m k _ j (by omega)]
 split
 ·rename_i h;subst h
  have:=hb j;rw[(ZnK s j).1] at this;rw[(ZnK s j).2];omega
 ·exact Nat.le_trans (hb j) (Zmg s k j)
theorem Zev (b k:Nat):256^k*(b/256^k%256)=b%256^(k+1)-b%256^k∧b%256^k≤b%256^(k+1):=by
 rw[ZdG,Nat.mul_comm];omega
theorem ZiA (a b c:Nat) (ha:a<115792089237316195423570985008687907853269984665640564039457584007913129639936) (hb:b<115792089237316195423570985008687907853269984665640564039457584007913129639936) (hc:(a+b)%Fp.P=c) (w:World) :
  Calls Tryz.prog 135 #[kv a,kv b] w fun e w'=>e=.returned (kv c)∧Below w.heap.size w w':=by
 have hz:#[.int .u8 0,.int .u8 0,.int .u8 0,.int .u8 0,.int .u8 0,.int .u8 0,.int .u8 0,.int .u8 0,.int .u8 0,.int .u8 0,.int .u8 0,.int .u8 0,.int .u8 0,.int .u8 0,.int .u8 0,.int .u8 0,.int .u8 0,.int .u8 0,.int .u8 0,.int .u8 0,.int .u8 0,.int .u8 0,.int .u8 0,.int .u8 0,.int .u8 0,.int .u8 0,.int .u8 0,.int .u8 0,.int .u8 0,.int .u8 0,.int .u8 0,.int .u8 0]=keyA 0:=Za3 0 (by decide)
 have Hc:=Zq hc
 have Ha:=Zq (Zkh a ha)
 have HB:=Zq hb
 have HD:=Zq (fun w=>Zkv a w)
 clear hc ha hb
 have Hrb:Hid (RowAt (((w.alloc (.cells (keyA a) 23)).alloc (.cells (keyA b) 23)).alloc (.cells (keyA 0) 23)) (w.heap.size+1) (keyA b)):=⟨by go_simp,by go_simp,by go_simp⟩
 have Hrc:Hid (RowAt (((w.alloc (.cells (keyA a) 23)).alloc (.cells (keyA b) 23)).alloc (.cells (keyA 0) 23)) (w.heap.size+1+1) (keyA 0)):=⟨by go_simp,by go_simp,by go_simp⟩
 go_enter Tryz.func135,Tryz.ntmps135
 go_wp2_with fail
 refine(HD.out _).mono ?_
 rintro e w1 ⟨v,rfl,hown,hbel⟩
 have hb1:Below (w.heap.size+3) (((w.alloc (.cells (keyA a) 23)).alloc (.cells (keyA b) 23)).alloc (.cells (keyA 0) 23)) w1:=hbel.mono (by simp)
 have ho1:Own w1 (w.heap.size+3) v (dg a 32):=hown.mono (by simp)
 have had:=ho1.addr (by rw[ZaV];decide)
 rw[ZaV] at had
 obtain⟨gx,capx,rfl,hx1,hx2,_⟩:=had
 have Ho1:=Zq ho1
 have Hb1:=Zq hb1
 clear hown hbel HD hb1 ho1
 go_wp2_with fail
 go_loopw [6] (fun i wi=>∃ (k:Nat) (m:List Nat),k≤32∧i=.int .i64 k∧m.length=32∧Zas m=a+b%256^k∧(∀ x,m.getD x 0≤lim2 255 k x) ∧
  Own wi (w.heap.size+3) (.slice (some ⟨gx,0,none⟩) 32 capx) m∧Below (w.heap.size+3) (((w.alloc (.cells (keyA a) 23)).alloc (.cells (keyA b) 23)).alloc (.cells (keyA 0) 23)) wi) (fun i _=>32-(intOf i).toNat)
 case atStart=>exact⟨0,_,by decide,rfl,ZaV _ _,by rw[Ha.out,Nat.pow_zero,Nat.mod_one,Nat.add_zero],fun x=>Nat.le_trans (Znh a 32 x) (by unfold lim2;omega),Ho1.out,Hb1.out⟩
 case round =>
  clear Ho1 Hb1 hx2
  obtain⟨k,m,hk,rfl,hml,hmf,hmb,hmo,hmw⟩:=hrel
  have hszi:=hmw.size
  have hszi:w.heap.size+3≤wr.heap.size:=by simpa using hszi
  have hx2:=(Own.lt hmo).2
  have Hml:=Zq hml
  have Hmf:=Zq hmf
  have Hmb:=Zq hmb
  have Hmo:=Zq hmo
  have Hmw:=Zq hmw
  clear hml hmf hmb hmo hmw
  by_cases hk32:k<32
  ·obtain⟨y,ey⟩:∃y,y=m.getD k 0:=⟨_,rfl⟩
   have hcy:wr.cell? ⟨gx,k,none⟩=some (.int .i64 (y:Int)):=by rw[Own.cellOf Hmo.out Hml.out k hk32,ey]
   have hfy:=Own.free Hmo.out Hml.out k
   have hy:y≤510:=by rw[ey];exact Nat.le_trans (Hmb.out k) (Zeq _ k k)
   obtain⟨q,eq⟩:∃q,q=b/256^k%256:=⟨_,rfl⟩
   have hq:q≤255:=by omega
   have ebt:bt b k=(q:Int):=by rw[eq];rfl
   have hcb:wr.cell? ⟨w.heap.size+1,k,none⟩=some (.int .u8 (q:Int)):=by
    rw[RowAt.cell (Hrb.out.grow (Hmw.out.mono (by simp))) k,keyA_get b k hk32,ebt]
   have hB1:w.heap.size+1<wr.heap.size:=by omega
   have hwq:IntKind.i64.wrap (q:Int)=(q:Int):=IntWalk.i64_in _ (by omega)
   obtain⟨s,es⟩:∃s,s=y+q:=⟨_,rfl⟩
   have hs:IntKind.i64.wrap ((y:Int)+(q:Int))=(s:Int):=by rw[IntWalk.i64_in _ (by omega)];omega
   have hk0:(0:Int)≤(k:Int):=by omega
   have hk1:(k:Int)<32:=by omega
   have R:=Zkx (y:=q) hk32 hq Hml.out Hmb.out
   rw[←ey,←es] at R
   have hv:=Zev b k
   rw[←eq] at hv
   have HR:=Zq R
   have HV:Hid (Zas m+256^k*q=a+b%256^(k+1)):=by
    show _=_
    rw[Hmf.out];omega
   clear R es ey eq ebt hv Hmb Hmf
   go_wp2_with fail
   refine Zbh wr 12 [] (by kernel_rfl) (by kernel_rfl) ((Below.refl _ _).drew) ?_
   simp only[List.take_succ_cons,List.take_zero,List.drop_succ_cons,List.drop_zero,List.length_nil,Nat.reduceAdd]
   iterate 12 (refine Za6 (Zaa rfl) (by intro K o d hK;go_simp;exact hK _ (Below.refl _ _)) ?_)
   refine Zbx ?_
   intro w3 hb3 _
   obtain⟨o3,d3,rfl⟩:=Zaf hb3
   clear hb3
   go_wp2_with fail
   go_roundw
   case rel=>exact⟨k+1,_,by omega,by go_num,HR.out.1,HR.out.2.1.trans HV.out,HR.out.2.2,Own.stores Hmo.out Hml.out _ _ _ _,ZcH Hmw.out hszi _ _ _ hx1 _ _⟩
   case measure=>simp[intOf];omega
  ·obtain rfl:k=32:=by omega
   have HC:=Zq (Zg9 m 32 gx capx wr Hml.out (by decide) (by decide) (fun i=>Nat.le_trans (Hmb.out i) (Nat.le_trans (Zeq _ _ _) (by decide))) (Hmo.out.mono (Nat.zero_le _)))
   have HV:Hid (Zas m%Fp.P=c):=by
    show _=_
    rw[Hmf.out,Nat.mod_eq_of_lt (a:=b) (by simpa using HB.out),Hc.out]
   have HR:Hid (RowAt wr (w.heap.size+1+1) (keyA 0)):=Hrc.out.grow (Hmw.out.mono (by simp))
   have HBW:Hid (Below w.heap.size w wr):=(Zab (Zab (Zab (Below.refl _ _) _) _) _).trans (Hmw.out.mono (by omega))
   clear Hmf Hmb Hmo Hmw
   obtain⟨r1,r2,r3⟩:=HR.out
   go_wp2_with fail
   refine HC.out.mono ?_
   rintro e w4 ⟨n,rfl,hn,hnp,hbw⟩
   have HN:=Zq (hnp.trans HV.out)
   obtain⟨o4,d4,rfl⟩:=Zaf hbw
   clear hbw hnp HC
   go_wp2_with fail
   refine(Zej n c hn HN.out _).mono ?_
   rintro e w5 ⟨rfl,hbw⟩
   obtain⟨o5,d5,rfl⟩:=Zaf hbw
   clear hbw
   go_wp2_with fail
   refine bodyPost_ret (v:=kv c) (Zav Tryz.results135 _ _ _ rfl (by first | (go_simp;done) | (go_simp;exact(HR.out.set (keyA c)).1)) (by first | (go_simp;done) | (go_simp;exact(HR.out.set (keyA c)).2.1))) rfl ⟨rfl,?_⟩
   exact Zag (Zad HBW.out (by omega) _) _ _
theorem Zxa:∀i,i<32→127≤pd i:=by decide +kernel
theorem ZrX {b k q v a:Nat} (hq:q=b/256^k%256) (hle:q≤4*pd k) (h:v+b%256^k=a+4*(Fp.P%256^k)):v+256^k*(4*pd k-q)+b%256^(k+1)=a+4*(Fp.P%256^(k+1)):=by
 have h1:=Zev b k
 have h2:=Zev Fp.P k
 rw[←hq] at h1
 rw[show Fp.P/256^k%256=pd k from rfl] at h2
 have h3:=Nat.mul_le_mul_left (256^k) hle
 rw[Nat.mul_sub]
 rw[Nat.mul_left_comm] at h3 ⊢
 generalize 256^k*q=u at *
 generalize 256^k*pd k=t at *
 omega
theorem Zth {v a b:Nat} (h:v+b=a+4*Fp.P):v%Fp.P=(a%Fp.P+(Fp.P-b%Fp.P))%Fp.P:=by
 have ea:=Nat.mod_add_div a Fp.P
 have eb:=Nat.mod_add_div b Fp.P
 have hb:=Nat.mod_lt b Fp.P_pos
 have e:v+Fp.P*(b/Fp.P)=a%Fp.P+(Fp.P-b%Fp.P)+Fp.P*(a/Fp.P+3):=by rw[Nat.mul_add];omega
 have:=congrArg (· % Fp.P) e
 simpa [Nat.add_mul_mod_self_left] using this
theorem Zh8 (a b c:Nat) (ha:a<115792089237316195423570985008687907853269984665640564039457584007913129639936) (hb:b<115792089237316195423570985008687907853269984665640564039457584007913129639936) (hc:(a%Fp.P+(Fp.P-b%Fp.P))%Fp.P=c) (w:World) :
  Calls Tryz.prog 136 #[kv a,kv b] w fun e w'=>e=.returned (kv c)∧Below w.heap.size w w':=by
 have hz:#[.int .u8 0,.int .u8 0,.int .u8 0,.int .u8 0,.int .u8 0,.int .u8 0,.int .u8 0,.int .u8 0,.int .u8 0,.int .u8 0,.int .u8 0,.int .u8 0,.int .u8 0,.int .u8 0,.int .u8 0,.int .u8 0,.int .u8 0,.int .u8 0,.int .u8 0,.int .u8 0,.int .u8 0,.int .u8 0,.int .u8 0,.int .u8 0,.int .u8 0,.int .u8 0,.int .u8 0,.int .u8 0,.int .u8 0,.int .u8 0,.int .u8 0,.int .u8 0]=keyA 0:=Za3 0 (by decide)
 have Hc:=Zq hc
 have Ha:=Zq (Zkh a ha)
 have HB:=Zq hb
 have HD:=Zq (fun w=>Zkv a w)
 clear hc ha hb
 have Hrb:Hid (RowAt (((w.alloc (.cells (keyA a) 23)).alloc (.cells (keyA b) 23)).alloc (.cells (keyA 0) 23)) (w.heap.size+1) (keyA b)):=⟨by go_simp,by go_simp,by go_simp⟩
 have Hrc:Hid (RowAt (((w.alloc (.cells (keyA a) 23)).alloc (.cells (keyA b) 23)).alloc (.cells (keyA 0) 23)) (w.heap.size+1+1) (keyA 0)):=⟨by go_simp,by go_simp,by go_simp⟩
 go_enter Tryz.func136,Tryz.ntmps136
 go_wp2_with fail
 refine(HD.out _).mono ?_
 rintro e w1 ⟨v,rfl,hown,hbel⟩
 have hb1:Below (w.heap.size+3) (((w.alloc (.cells (keyA a) 23)).alloc (.cells (keyA b) 23)).alloc (.cells (keyA 0) 23)) w1:=hbel.mono (by simp)
 have ho1:Own w1 (w.heap.size+3) v (dg a 32):=hown.mono (by simp)
 have had:=ho1.addr (by rw[ZaV];decide)
 rw[ZaV] at had
 obtain⟨gx,capx,rfl,hx1,hx2,_⟩:=had
 have Ho1:=Zq ho1
 have Hb1:=Zq hb1
 clear hown hbel HD hb1 ho1
 go_wp2_with fail
 go_loopw [6] (fun i wi=>∃ (k:Nat) (m:List Nat),k≤32∧i=.int .i64 k∧m.length=32∧Zas m+b%256^k=a+4*(Fp.P%256^k)∧(∀ x,m.getD x 0≤lim2 1020 k x) ∧
  Own wi (w.heap.size+3) (.slice (some ⟨gx,0,none⟩) 32 capx) m∧Below (w.heap.size+3) (((w.alloc (.cells (keyA a) 23)).alloc (.cells (keyA b) 23)).alloc (.cells (keyA 0) 23)) wi) (fun i _=>32-(intOf i).toNat)
 case atStart=>exact⟨0,_,by decide,rfl,ZaV _ _,by rw[Ha.out,Nat.pow_zero,Nat.mod_one,Nat.mod_one],fun x=>Nat.le_trans (Znh a 32 x) (by unfold lim2;omega),Ho1.out,Hb1.out⟩
 case round =>
  clear Ho1 Hb1 hx2
  obtain⟨k,m,hk,rfl,hml,hmf,hmb,hmo,hmw⟩:=hrel
  have hszi:=hmw.size
  have hszi:w.heap.size+3≤wr.heap.size:=by simpa using hszi
  have hx2:=(Own.lt hmo).2
  have Hml:=Zq hml
  have Hmf:=Zq hmf
  have Hmb:=Zq hmb
  have Hmo:=Zq hmo
  have Hmw:=Zq hmw
  clear hml hmf hmb hmo hmw
  by_cases hk32:k<32
  ·obtain⟨y,ey⟩:∃y,y=m.getD k 0:=⟨_,rfl⟩
   have hcy:wr.cell? ⟨gx,k,none⟩=some (.int .i64 (y:Int)):=by rw[Own.cellOf Hmo.out Hml.out k hk32,ey]
   have hfy:=Own.free Hmo.out Hml.out k
   have hy:y≤1275:=by rw[ey];exact Nat.le_trans (Hmb.out k) (Zeq _ k k)
   obtain⟨q,eq⟩:∃q,q=b/256^k%256:=⟨_,rfl⟩
   have hq:q≤255:=by omega
   have ebt:bt b k=(q:Int):=by rw[eq];rfl
   have hcb:wr.cell? ⟨w.heap.size+1,k,none⟩=some (.int .u8 (q:Int)):=by
    rw[RowAt.cell (Hrb.out.grow (Hmw.out.mono (by simp))) k,keyA_get b k hk32,ebt]
   have hB1:w.heap.size+1<wr.heap.size:=by omega
   have hwq:IntKind.i64.wrap (q:Int)=(q:Int):=IntWalk.i64_in _ (by omega)
   have hpd:=ZsC k
   have hpg:=Zxa k hk32
   obtain⟨f,ef⟩:∃f,f=4*pd k:=⟨_,rfl⟩
   obtain⟨t,et⟩:∃t,t=y+f:=⟨_,rfl⟩
   obtain⟨s,es⟩:∃s,s=y+(4*pd k-q):=⟨_,rfl⟩
   have hf:IntKind.i64.wrap (4*((pd k:Nat):Int))=(f:Int):=by rw[IntWalk.i64_in _ (by omega)];omega
   have ht:IntKind.i64.wrap ((y:Int)+(f:Int))=(t:Int):=by rw[IntWalk.i64_in _ (by omega)];omega
   have hs:IntKind.i64.wrap ((t:Int)-(q:Int))=(s:Int):=by rw[IntWalk.i64_in _ (by omega)];omega
   have hk0:(0:Int)≤(k:Int):=by omega
   have hk1:(k:Int)<32:=by omega
   have R:=Zkx (y:=4*pd k-q) hk32 (by omega) Hml.out Hmb.out
   rw[←ey,←es] at R
   have HR:=Zq R
   have HV:Hid (Zas m+256^k*(4*pd k-q)+b%256^(k+1)=a+4*(Fp.P%256^(k+1))):=ZrX eq (by omega) Hmf.out
   clear ef et hpd hpg
   clear R es ey eq ebt Hmb Hmf
   go_wp2_with fail
   refine Zbh wr 16 [] (by kernel_rfl) (by kernel_rfl) ((Below.refl _ _).drew) ?_
   simp only[List.take_succ_cons,List.take_zero,List.drop_succ_cons,List.drop_zero,List.length_nil,Nat.reduceAdd]
   iterate 7 (refine Za6 (Zaa rfl) (by intro K o d hK;go_simp;exact hK _ (Below.refl _ _)) ?_)
   refine Za4 (v:=.int .i64 (pd k)) (Zaa rfl) (by intro K o d hK;go_simp;refine(ZdC k hk32 _).mono ?_;rintro e w' ⟨rfl,hbw⟩;exact⟨_,rfl,hK _ hbw⟩) ?_
   iterate 8 (refine Za6 (Zaa rfl) (by intro K o d hK;go_simp;exact hK _ (Below.refl _ _)) ?_)
   refine Zbx ?_
   intro w3 hb3 _
   obtain⟨o3,d3,rfl⟩:=Zaf hb3
   clear hb3
   go_wp2_with fail
   go_roundw
   case rel=>exact⟨k+1,_,by omega,by go_num,HR.out.1,(by rw[HR.out.2.1];exact HV.out),HR.out.2.2,Own.stores Hmo.out Hml.out _ _ _ _,ZcH Hmw.out hszi _ _ _ hx1 _ _⟩
   case measure=>simp[intOf];omega
  ·obtain rfl:k=32:=by omega
   have HC:=Zq (Zg9 m 32 gx capx wr Hml.out (by decide) (by decide) (fun i=>Nat.le_trans (Hmb.out i) (Nat.le_trans (Zeq _ _ _) (by decide))) (Hmo.out.mono (Nat.zero_le _)))
   have HV:Hid (Zas m%Fp.P=c):=by
    show _=_
    have h1:=Hmf.out
    rw[Nat.mod_eq_of_lt (a:=b) (by simpa using HB.out),Nat.mod_eq_of_lt (a:=Fp.P) (by decide +kernel)] at h1
    rw[Zth h1,Hc.out]
   have HR:Hid (RowAt wr (w.heap.size+1+1) (keyA 0)):=Hrc.out.grow (Hmw.out.mono (by simp))
   have HBW:Hid (Below w.heap.size w wr):=(Zab (Zab (Zab (Below.refl _ _) _) _) _).trans (Hmw.out.mono (by omega))
   clear Hmf Hmb Hmo Hmw
   obtain⟨r1,r2,r3⟩:=HR.out
   go_wp2_with fail
   refine HC.out.mono ?_
   rintro e w4 ⟨n,rfl,hn,hnp,hbw⟩
   have HN:=Zq (hnp.trans HV.out)
   obtain⟨o4,d4,rfl⟩:=Zaf hbw
   clear hbw hnp HC
   go_wp2_with fail
   refine(Zej n c hn HN.out _).mono ?_
   rintro e w5 ⟨rfl,hbw⟩
   obtain⟨o5,d5,rfl⟩:=Zaf hbw
   clear hbw
   go_wp2_with fail
   refine bodyPost_ret (v:=kv c) (Zav Tryz.results136 _ _ _ rfl (by first | (go_simp;done) | (go_simp;exact(HR.out.set (keyA c)).1)) (by first | (go_simp;done) | (go_simp;exact(HR.out.set (keyA c)).2.1))) rfl ⟨rfl,?_⟩
   exact Zag (Zad HBW.out (by omega) _) _ _
def lim3 (i j x:Nat):Nat:=65025*i+if x<j then 65025 else 0
theorem Zl0 (i j x:Nat):lim3 i j x≤lim3 i (j+1) x:=by
 unfold lim3;by_cases h:x<j<;>simp[h,show x<j→x<j+1 by omega]
theorem ZnU (i j:Nat):lim3 i j j=65025*i∧lim3 i (j+1) j=65025*i+65025:=by unfold lim3;simp
theorem Zh0 (i j x:Nat):lim3 i j x≤65025*(i+1):=by unfold lim3;split<;>omega
theorem ZoX {m:List Nat} {i j z:Nat} (hj:j<64) (hz:z≤65025) (hm:m.length=64) (hb:∀x,m.getD x 0≤lim3 i j x) :
  (m.set j (m.getD j 0+z)).length=64∧Zas (m.set j (m.getD j 0+z))=Zas m+256^j*z∧∀ x,(m.set j (m.getD j 0+z)).getD x 0≤lim3 i (j+1) x:=by
 refine⟨by rw[List.length_set,hm],ZcB m j z (by omega),fun x=>?_⟩
 rw[Zfh m j _ x (by omega)]
 split
 ·rename_i h;subst h
  have:=hb x;rw[(ZnU i x).1] at this;rw[(ZnU i x).2];omega
 ·exact Nat.le_trans (hb x) (Zl0 i j x)
theorem ZsJ (u p q b i k:Nat) (hq:q=b/256^k%256):u+256^i*(p*(b%256^k))+256^(i+k)*(p*q)=u+256^i*(p*(b%256^(k+1))):=by
 rw[ZdG b k,←hq,Nat.mul_add,Nat.mul_add,Nat.pow_add,Nat.add_assoc]
 congr 2
 rw[Nat.mul_assoc]
 congr 1
 rw[Nat.mul_left_comm,Nat.mul_comm (256^k) q]
theorem Zry (a b i p:Nat) (hp:p=a/256^i%256) (hb:b<115792089237316195423570985008687907853269984665640564039457584007913129639936):a%256^i*b+256^i*(p*(b%256^32))=a%256^(i+1)*b:=by
 rw[Nat.mod_eq_of_lt (a:=b) (by simpa using hb),ZdG a i,←hp,Nat.add_mul,Nat.mul_comm p (256^i),Nat.mul_assoc]
theorem Zrt:Zas (List.replicate 64 0)=0:=by decide
theorem Zlv (n x:Nat):(List.replicate n 0).getD x 0=0:=by
 rw[List.getD_eq_getElem?_getD,List.getElem?_replicate];split<;>simp
theorem Zck (a b c:Nat) (ha:a<115792089237316195423570985008687907853269984665640564039457584007913129639936) (hb:b<115792089237316195423570985008687907853269984665640564039457584007913129639936) (hc:a*b%Fp.P=c) (w:World) :
  Calls Tryz.prog 106 #[kv a,kv b] w fun e w'=>e=.returned (kv c)∧Below w.heap.size w w':=by
 obtain⟨i0,hi,hz0,hz1,hz2⟩:=info_parts ZeZ
 have hz:#[.int .u8 0,.int .u8 0,.int .u8 0,.int .u8 0,.int .u8 0,.int .u8 0,.int .u8 0,.int .u8 0,.int .u8 0,.int .u8 0,.int .u8 0,.int .u8 0,.int .u8 0,.int .u8 0,.int .u8 0,.int .u8 0,.int .u8 0,.int .u8 0,.int .u8 0,.int .u8 0,.int .u8 0,.int .u8 0,.int .u8 0,.int .u8 0,.int .u8 0,.int .u8 0,.int .u8 0,.int .u8 0,.int .u8 0,.int .u8 0,.int .u8 0,.int .u8 0]=keyA 0:=Za3 0 (by decide)
 have Hc:=Zq hc
 have HA:=Zq ha
 have HB:=Zq hb
 clear hc ha hb
 have Hra:Hid (RowAt (((w.alloc (.cells (keyA a) 23)).alloc (.cells (keyA b) 23)).alloc (.cells (keyA 0) 23)) w.heap.size (keyA a)):=⟨by go_simp,by go_simp,by go_simp⟩
 have Hrb:Hid (RowAt (((w.alloc (.cells (keyA a) 23)).alloc (.cells (keyA b) 23)).alloc (.cells (keyA 0) 23)) (w.heap.size+1) (keyA b)):=⟨by go_simp,by go_simp,by go_simp⟩
 have Hrc:Hid (RowAt (((w.alloc (.cells (keyA a) 23)).alloc (.cells (keyA b) 23)).alloc (.cells (keyA 0) 23)) (w.heap.size+1+1) (keyA 0)):=⟨by go_simp,by go_simp,by go_simp⟩
 go_enter Tryz.func106,Tryz.ntmps106
 go_wp2_with (at_make;refine wpList_make_full _ rfl _ _ 196 rfl (w.heap.size+3) 3 i0 (.int .i64 0) 1 Tryz.underlying196 hi hz0 hz1 .i64 .i64 64 64 64 rfl rfl rfl rfl (by rw[hz2];decide) (by decide) (by simp) ?_)
 intro w2 hown2 hgrow2
 obtain⟨gx,hgx⟩:∃g,g=w.heap.size+1+1+1:=⟨_,rfl⟩
 rw[←hgx] at hown2 ⊢
 have hx1:w.heap.size+3≤gx:=by omega
 have Ho0:Own w2 gx (.slice (some ⟨gx,0,none⟩) 64 64) (List.replicate 64 0):=by
  unfold Own
  rw[Zgw,List.length_replicate]
  rw[toList_madeCells_one] at hown2
  exact hown2
 have Ho1:=Zq (Ho0.mono hx1)
 have Hb1:Hid (Below (w.heap.size+3) (((w.alloc (.cells (keyA a) 23)).alloc (.cells (keyA b) 23)).alloc (.cells (keyA 0) 23)) w2):=(Below.refl _ _).grown hgrow2 (by simp) (fun k hk=>by cases hk)
 clear hown2 hgrow2 hgx Ho0
 go_wp2_with fail
 go_loopw [6] (fun v wi=>∃ (i:Nat) (m:List Nat),i≤32∧v=.int .i64 i∧m.length=64∧Zas m=a%256^i*b∧(∀ x,m.getD x 0≤65025*i) ∧
  Own wi (w.heap.size+3) (.slice (some ⟨gx,0,none⟩) 64 64) m∧Below (w.heap.size+3) (((w.alloc (.cells (keyA a) 23)).alloc (.cells (keyA b) 23)).alloc (.cells (keyA 0) 23)) wi) (fun v _=>32-(intOf v).toNat)
 case atStart=>exact⟨0,_,by decide,rfl,by simp,by rw[Zrt,Nat.pow_zero,Nat.mod_one,Nat.zero_mul],fun x=>by rw[Zlv];exact Nat.zero_le _,Ho1.out,Hb1.out⟩
 case round =>
  clear Ho1 Hb1
  obtain⟨i,m0,hi32,rfl,hml,hmf,hmb,hmo,hmw⟩:=hrel
  have Hml0:=Zq hml
  have Hmf0:=Zq hmf
  have Hmb0:=Zq hmb
  have Hmo0:=Zq hmo
  have Hmw0:=Zq hmw
  clear hml hmf hmb hmo hmw
  by_cases hilt:i<32
  ·obtain⟨p,ep⟩:∃p,p=a/256^i%256:=⟨_,rfl⟩
   have hp:p≤255:=by omega
   have ebp:bt a i=(p:Int):=by rw[ep];rfl
   have hwp:IntKind.i64.wrap (p:Int)=(p:Int):=IntWalk.i64_in _ (by omega)
   have Hep:=Zq ep
   have Hebp:=Zq ebp
   clear ep ebp
   have hi0:(0:Int)≤(i:Int):=by omega
   have hi1:(i:Int)<32:=by omega
   go_wp2_with fail
   go_loopw [7] (fun v wi=>∃ (k:Nat) (m:List Nat),k≤32∧v=.int .i64 k∧m.length=64∧Zas m=a%256^i*b+256^i*(p*(b%256^k))∧(∀ x,m.getD x 0≤lim3 i (i+k) x) ∧
    Own wi (w.heap.size+3) (.slice (some ⟨gx,0,none⟩) 64 64) m∧Below (w.heap.size+3) (((w.alloc (.cells (keyA a) 23)).alloc (.cells (keyA b) 23)).alloc (.cells (keyA 0) 23)) wi) (fun v _=>32-(intOf v).toNat)
   case atStart=>exact⟨0,_,by decide,rfl,Hml0.out,by rw[Hmf0.out,Nat.pow_zero,Nat.mod_one,Nat.mul_zero,Nat.mul_zero,Nat.add_zero],fun x=>Nat.le_trans (Hmb0.out x) (by unfold lim3;omega),Hmo0.out,Hmw0.out⟩
   case round =>
    clear Hml0 Hmf0 Hmb0 Hmo0 Hmw0
    obtain⟨k,m,hk,rfl,hml,hmf,hmb,hmo,hmw⟩:=hrel
    have hszi:=hmw.size
    have hszi:w.heap.size+3≤wr.heap.size:=by simpa using hszi
    have hx2:=(Own.lt hmo).2
    have Hml:=Zq hml
    have Hmf:=Zq hmf
    have Hmb:=Zq hmb
    have Hmo:=Zq hmo
    have Hmw:=Zq hmw
    clear hml hmf hmb hmo hmw
    by_cases hk32:k<32
    ·obtain⟨j,ej⟩:∃j,j=i+k:=⟨_,rfl⟩
     have hj64:j<64:=by omega
     obtain⟨y,ey⟩:∃y,y=m.getD j 0:=⟨_,rfl⟩
     have hcy:wr.cell? ⟨gx,j,none⟩=some (.int .i64 (y:Int)):=by rw[Own.cellOf Hmo.out Hml.out j hj64,ey]
     have hfy:=Own.free Hmo.out Hml.out j
     have hy:y≤2145825:=by rw[ey];exact Nat.le_trans (Hmb.out j) (Nat.le_trans (Zh0 _ _ _) (by omega))
     obtain⟨q,eq⟩:∃q,q=b/256^k%256:=⟨_,rfl⟩
     have hq:q≤255:=by omega
     have ebt:bt b k=(q:Int):=by rw[eq];rfl
     have hca:wr.cell? ⟨w.heap.size,i,none⟩=some (.int .u8 (p:Int)):=by
      rw[RowAt.cell (Hra.out.grow (Hmw.out.mono (by simp))) i,keyA_get a i hilt,Hebp.out]
     have hcb:wr.cell? ⟨w.heap.size+1,k,none⟩=some (.int .u8 (q:Int)):=by
      rw[RowAt.cell (Hrb.out.grow (Hmw.out.mono (by simp))) k,keyA_get b k hk32,ebt]
     have hB0:w.heap.size<wr.heap.size:=by omega
     have hB1:w.heap.size+1<wr.heap.size:=by omega
     have hwq:IntKind.i64.wrap (q:Int)=(q:Int):=IntWalk.i64_in _ (by omega)
     obtain⟨z,ez⟩:∃z,z=p*q:=⟨_,rfl⟩
     have hzq:z≤65025:=by rw[ez];exact Nat.mul_le_mul hp hq
     have hzz:IntKind.i64.wrap ((p:Int)*(q:Int))=(z:Int):=by rw[show (p:Int)*(q:Int)=(z:Int) by rw[ez,Int.natCast_mul],IntWalk.i64_in _ (by omega)]
     obtain⟨s,es⟩:∃s,s=y+z:=⟨_,rfl⟩
     have hs:IntKind.i64.wrap ((y:Int)+(z:Int))=(s:Int):=by rw[IntWalk.i64_in _ (by omega)];omega
     have hj1:IntKind.i64.wrap (j:Int)=(j:Int):=IntWalk.i64_in _ (by omega)
     have hj2:(i:Int)+(k:Int)=(j:Int):=by omega
     have hj3:(0:Int)≤(j:Int):=by omega
     have hj4:(j:Int)<64:=by omega
     have hk0:(0:Int)≤(k:Int):=by omega
     have hk1:(k:Int)<32:=by omega
     have R:=ZoX (i:=i) (z:=z) hj64 hzq Hml.out (by rw[ej];exact Hmb.out)
     rw[←ey,←es] at R
     have HR:=Zq R
     have HV:Hid (Zas m+256^j*z=a%256^i*b+256^i*(p*(b%256^(k+1)))):=by
      show _=_
      rw[Hmf.out,ej,ez];exact ZsJ _ p q b i k eq
     have Hej:Hid (i+(k+1)=j+1):=by show _=_;omega
     clear R es ey eq ebt ez ej Hmb Hmf hzq hp hq
     go_wp2_with fail
     refine Zbh wr 21 [] (by kernel_rfl) (by kernel_rfl) ((Below.refl _ _).drew) ?_
     simp only[List.take_succ_cons,List.take_zero,List.drop_succ_cons,List.drop_zero,List.length_nil,Nat.reduceAdd]
     iterate 21 (refine Za6 (Zaa rfl) (by intro K o d hK;go_simp;exact hK _ (Below.refl _ _)) ?_)
     refine Zbx ?_
     intro w3 hb3 _
     obtain⟨o3,d3,rfl⟩:=Zaf hb3
     clear hb3
     go_wp2_with fail
     go_roundw
     case rel=>exact⟨k+1,_,by omega,by go_num,HR.out.1,HR.out.2.1.trans HV.out,by rw[Hej.out];exact HR.out.2.2,Own.stores Hmo.out Hml.out _ _ _ _,ZcH Hmw.out hszi _ _ _ hx1 _ _⟩
     case measure=>simp[intOf];omega
    ·obtain rfl:k=32:=by omega
     have HV:Hid (Zas m=a%256^(i+1)*b):=Hmf.out.trans (Zry a b i p Hep.out HB.out)
     clear Hmf
     go_wp2_with fail
     go_roundw
     case rel=>exact⟨i+1,m,by omega,by go_num,Hml.out,HV.out,fun x=>Nat.le_trans (Hmb.out x) (Zh0 _ _ _),Hmo.out,Hmw.out⟩
     case measure=>simp[intOf];omega
  ·obtain rfl:i=32:=by omega
   have hszi:=Hmw0.out.size
   have hszi:w.heap.size+3≤wr.heap.size:=by simpa using hszi
   have HC:=Zq (Zg9 m0 64 gx 64 wr Hml0.out (by decide) (by decide) (fun x=>Nat.le_trans (Hmb0.out x) (by decide)) (Hmo0.out.mono (Nat.zero_le _)))
   have HV:Hid (Zas m0%Fp.P=c):=by
    show _=_
    rw[Hmf0.out,Nat.mod_eq_of_lt (a:=a) (by simpa using HA.out),Hc.out]
   have HR:Hid (RowAt wr (w.heap.size+1+1) (keyA 0)):=Hrc.out.grow (Hmw0.out.mono (by simp))
   have HBW:Hid (Below w.heap.size w wr):=(Zab (Zab (Zab (Below.refl _ _) _) _) _).trans (Hmw0.out.mono (by omega))
   clear Hml0 Hmf0 Hmb0 Hmo0 Hmw0
   obtain⟨r1,r2,r3⟩:=HR.out
   go_wp2_with fail
   refine HC.out.mono ?_
   rintro e w4 ⟨n,rfl,hn,hnp,hbw⟩
   have HN:=Zq (hnp.trans HV.out)
   obtain⟨o4,d4,rfl⟩:=Zaf hbw
   clear hbw hnp HC
   go_wp2_with fail
   refine(Zej n c hn HN.out _).mono ?_
   rintro e w5 ⟨rfl,hbw⟩
   obtain⟨o5,d5,rfl⟩:=Zaf hbw
   clear hbw
   go_wp2_with fail
   refine bodyPost_ret (v:=kv c) (Zav Tryz.results106 _ _ _ rfl (by first | (go_simp;done) | (go_simp;exact(HR.out.set (keyA c)).1)) (by first | (go_simp;done) | (go_simp;exact(HR.out.set (keyA c)).2.1))) rfl ⟨rfl,?_⟩
   exact Zag (Zad HBW.out (by omega) _) _ _
theorem ZuW:∀j,j<255→Fp.E/2^j%2=if j=2∨j=4 then 0 else 1:=by decide +kernel
theorem ZwW:Fp.E/2^255=0:=by decide +kernel
theorem ZuU (j:Nat):Fp.E/2^j=2*(Fp.E/2^(j+1))+Fp.E/2^j%2:=by
 have h:Fp.E/2^(j+1)=Fp.E/2^j/2:=by rw[Nat.pow_succ,Nat.div_div_eq_div_mul]
 omega
theorem ZuB (a e r:Nat) (h:r=a^e%Fp.P):r*r%Fp.P=a^(2*e)%Fp.P:=by
 rw[h,←Nat.mul_mod,←Nat.pow_add,Nat.two_mul]
theorem once (a e r:Nat) (h:r=a^e%Fp.P):r*a%Fp.P=a^(e+1)%Fp.P:=by
 rw[h,Nat.pow_succ,Nat.mul_mod,Nat.mod_mod,←Nat.mul_mod]
theorem ZrI:(keyA 0).setIfInBounds 0 (.int .u8 1)=keyA 1:=by
 have h0:#[.int .u8 0,.int .u8 0,.int .u8 0,.int .u8 0,.int .u8 0,.int .u8 0,.int .u8 0,.int .u8 0,.int .u8 0,.int .u8 0,.int .u8 0,.int .u8 0,.int .u8 0,.int .u8 0,.int .u8 0,.int .u8 0,.int .u8 0,.int .u8 0,.int .u8 0,.int .u8 0,.int .u8 0,.int .u8 0,.int .u8 0,.int .u8 0,.int .u8 0,.int .u8 0,.int .u8 0,.int .u8 0,.int .u8 0,.int .u8 0,.int .u8 0,.int .u8 0]=keyA 0:=Za3 0 (by decide)
 have h1:=Za3 1 (by decide)
 rw[←h0,←h1];rfl
theorem Zq5 (a c:Nat) (ha:a<115792089237316195423570985008687907853269984665640564039457584007913129639936) (hc:a^Fp.E%Fp.P=c) (w:World) :
  Calls Tryz.prog 107 #[kv a] w fun e w'=>e=.returned (kv c)∧Below w.heap.size w w':=by
 have hz:#[.int .u8 0,.int .u8 0,.int .u8 0,.int .u8 0,.int .u8 0,.int .u8 0,.int .u8 0,.int .u8 0,.int .u8 0,.int .u8 0,.int .u8 0,.int .u8 0,.int .u8 0,.int .u8 0,.int .u8 0,.int .u8 0,.int .u8 0,.int .u8 0,.int .u8 0,.int .u8 0,.int .u8 0,.int .u8 0,.int .u8 0,.int .u8 0,.int .u8 0,.int .u8 0,.int .u8 0,.int .u8 0,.int .u8 0,.int .u8 0,.int .u8 0,.int .u8 0]=keyA 0:=Za3 0 (by decide)
 have hone:=ZrI
 have Hc:=Zq hc
 have HA:=Zq ha
 clear hc ha
 go_enter Tryz.func107,Tryz.ntmps107
 go_wp2_with fail
 go_loopw [4] (fun i w'=>∃ (k r:Nat) (o:Array Obj) (d:Nat),k≤255∧i=.int .i64 ((k:Int)-1)∧r=a^(Fp.E/2^k)%Fp.P∧w'=(((w.alloc (.cells (keyA a) 23)).alloc (.cells (keyA 0) 23)).alloc (.cells (keyA r) 23)).plus o d) (fun i _=>(intOf i+1).toNat)
 case atStart =>
  refine⟨255,1,#[],_,Nat.le_refl _,rfl,?_,rfl⟩
  rw[ZwW,Nat.pow_zero];rfl
 case round =>
  obtain⟨k,r,o,d,hk,rfl,hr,rfl⟩:=hrel
  rcases Nat.eq_zero_or_pos k with rfl | hpos
  ·have hrc:r=c:=by rw[hr,←Hc.out,Nat.pow_zero,Nat.div_one]
   subst hrc
   clear hr
   go_wp2_with fail
   refine bodyPost_ret (v:=kv r) (Zav Tryz.results107 _ _ _ rfl (by go_simp) (by go_simp)) rfl ⟨rfl,?_⟩
   repeat (first | apply Zag | apply Zab | exact Below.refl _ _)
  ·obtain⟨j,rfl⟩:∃j,k=j+1:=⟨k-1,by omega⟩
   rw[show (((j+1:Nat):Int)-1)=(j:Int) by omega]
   have hj0:(0:Int)≤(j:Int):=by omega
   have hj1:(j:Int)<255:=by omega
   have hbit:=ZuW j (by omega)
   have hhalf:=ZuU j
   have lr:r<115792089237316195423570985008687907853269984665640564039457584007913129639936:=by rw[hr];exact mod_lt _
   obtain⟨r2,e2⟩:∃x,x=r*r%Fp.P:=⟨_,rfl⟩
   have l2:r2<115792089237316195423570985008687907853269984665640564039457584007913129639936:=by rw[e2];exact mod_lt _
   have e2':=e2.trans (ZuB a _ r hr)
   have H2:=Zq e2.symm
   by_cases hb:j=2∨j=4
   ·rw[if_pos hb] at hbit
    have HE:Hid (r2=a^(Fp.E/2^j)%Fp.P):=by show _=_;rw[hhalf,hbit,e2'];rfl
    clear hbit hhalf e2' e2 hr
    rcases hb with rfl | rfl
    ·skip
     go_wp2_with fail
     refine(Zck r r r2 lr lr H2.out _).mono ?_
     rintro e w' ⟨rfl,hbw⟩
     obtain⟨o1,n1,rfl⟩:=Zaf hbw
     clear hbw
     go_wp2_with fail
     go_roundw
     case rel=>exact⟨2,r2,_,_,by omega,by go_num,HE.out,rfl⟩
     case measure=>simp[intOf]
    ·skip
     go_wp2_with fail
     refine(Zck r r r2 lr lr H2.out _).mono ?_
     rintro e w' ⟨rfl,hbw⟩
     obtain⟨o1,n1,rfl⟩:=Zaf hbw
     clear hbw
     go_wp2_with fail
     go_roundw
     case rel=>exact⟨4,r2,_,_,by omega,by go_num,HE.out,rfl⟩
     case measure=>simp[intOf]
   ·rw[if_neg hb] at hbit
    obtain⟨r3,e3⟩:∃x,x=r2*a%Fp.P:=⟨_,rfl⟩
    have HE:Hid (r3=a^(Fp.E/2^j)%Fp.P):=by show _=_;rw[hhalf,hbit,e3];exact once a _ r2 e2'
    have H3:=Zq e3.symm
    have hb2:((j:Int) != 2)=true:=by rw[bne_iff_ne];omega
    have hb4:((j:Int) != 4)=true:=by rw[bne_iff_ne];omega
    clear hbit hhalf e2' e2 e3 hr hb
    go_wp2_with fail
    refine(Zck r r r2 lr lr H2.out _).mono ?_
    rintro e w' ⟨rfl,hbw⟩
    obtain⟨o1,n1,rfl⟩:=Zaf hbw
    clear hbw
    go_wp2_with fail
    refine(Zck r2 a r3 l2 HA.out H3.out _).mono ?_
    rintro e w' ⟨rfl,hbw⟩
    obtain⟨o2,n2,rfl⟩:=Zaf hbw
    clear hbw
    go_wp2_with fail
    go_roundw
    case rel=>exact⟨j,r3,_,_,by omega,by go_num,HE.out,rfl⟩
    case measure=>simp[intOf]
theorem Zh3 (k:Nat):bt (Cv.clampN k) 0=bt k 0/8*8:=by
 unfold bt Cv.clampN
 simp only[Nat.reducePow]
 omega
theorem Zgv (k:Nat):bt (Cv.clampN k) 31=bt k 31%64+64:=by
 unfold bt Cv.clampN
 simp only[Nat.reducePow]
 omega
theorem Zos (k i:Nat) (h0:i≠0) (h1:i<31):bt (Cv.clampN k) i=bt k i:=by
 have h:i=1∨i=2∨i=3∨i=4∨i=5∨i=6∨i=7∨i=8∨i=9∨i=10∨i=11∨i=12∨i=13∨i=14∨i=15∨i=16∨i=17∨i=18∨i=19∨i=20∨i=21∨i=22∨i=23∨i=24∨i=25∨i=26∨i=27∨i=28∨i=29∨i=30:=by omega
 unfold bt Cv.clampN
 rcases h with rfl | rfl | rfl | rfl | rfl | rfl | rfl | rfl | rfl | rfl | rfl | rfl | rfl | rfl | rfl | rfl | rfl | rfl | rfl | rfl | rfl | rfl | rfl | rfl | rfl | rfl | rfl | rfl | rfl | rfl<;>simp only[Nat.reducePow]<;>omega
def ptN (u:Nat):Nat:=u%2^255
theorem ZqV (u:Nat):ptN u<115792089237316195423570985008687907853269984665640564039457584007913129639936:=by unfold ptN;simp only[Nat.reducePow];omega
theorem ZmO (u:Nat):bt (ptN u) 31=bt u 31%128:=by
 unfold bt ptN
 simp only[Nat.reducePow]
 omega
theorem Zw2 (u i:Nat) (h1:i<31):bt (ptN u) i=bt u i:=by
 by_cases h0:i=0
 ·subst h0;unfold bt ptN;simp only[Nat.reducePow];omega
 ·have h:i=1∨i=2∨i=3∨i=4∨i=5∨i=6∨i=7∨i=8∨i=9∨i=10∨i=11∨i=12∨i=13∨i=14∨i=15∨i=16∨i=17∨i=18∨i=19∨i=20∨i=21∨i=22∨i=23∨i=24∨i=25∨i=26∨i=27∨i=28∨i=29∨i=30:=by omega
  unfold bt ptN
  rcases h with rfl | rfl | rfl | rfl | rfl | rfl | rfl | rfl | rfl | rfl | rfl | rfl | rfl | rfl | rfl | rfl | rfl | rfl | rfl | rfl | rfl | rfl | rfl | rfl | rfl | rfl | rfl | rfl | rfl | rfl<;>simp only[Nat.reducePow]<;>omega
theorem Zf1 (k:Nat):((keyA k).setIfInBounds 0 (.int .u8 (bt (Cv.clampN k) 0))).setIfInBounds 31 (.int .u8 (bt (Cv.clampN k) 31))=keyA (Cv.clampN k):=by
 refine ZeR (by simp[keyA_size]) fun i hi=>?_
 rw[Array.getElem?_setIfInBounds,Array.getElem?_setIfInBounds]
 by_cases e1:31=i
 ·subst e1;simp[keyA_size]
 ·rw[if_neg e1]
  by_cases e0:0=i
  ·subst e0;simp[keyA_size]
  ·rw[if_neg e0,keyA_get k i hi,Zos k i (by omega) (by omega)]
theorem ZkF (u:Nat):(keyA u).setIfInBounds 31 (.int .u8 (bt (ptN u) 31))=keyA (ptN u):=by
 refine ZeR (by simp[keyA_size]) fun i hi=>?_
 rw[Array.getElem?_setIfInBounds]
 by_cases e1:31=i
 ·subst e1;simp[keyA_size]
 ·rw[if_neg e1,keyA_get u i hi,Zw2 u i (by omega)]
theorem Zuo:∀b:Nat,b<256→bits .andNot .u8 (b:Int) 7=((b/8*8:Nat):Int):=by decide +kernel
theorem Zj1:∀b:Nat,b<256→bits .andNot .u8 (b:Int) 128=((b%128:Nat):Int):=by decide +kernel
theorem Zr0:∀b:Nat,b<128→bits .or .u8 (b:Int) 64=((b%64+64:Nat):Int):=by decide +kernel
theorem Zl7 (x1 m r:Nat) (hx1:x1<115792089237316195423570985008687907853269984665640564039457584007913129639936) (h:Cv.nT m x1=r) (w:World):Calls Tryz.prog 65 #[kv x1,kv m] w fun e w'=>e=.returned (kv r)∧Below w.heap.size w w':=by
 subst h;exact Ztm x1 m hx1 w
theorem Zog (k:Nat):bits .andNot .u8 (bt k 0) 7=bt (Cv.clampN k) 0:=by
 rw[Zh3];unfold bt
 rw[Zuo _ (Nat.mod_lt _ (by decide)),Int.natCast_mul,Int.natCast_ediv];rfl
theorem Zmo (k:Nat):bits .or .u8 (bits .andNot .u8 (bt k 31) 128) 64=bt (Cv.clampN k) 31:=by
 rw[Zgv];unfold bt
 rw[Zj1 _ (Nat.mod_lt _ (by decide)),Zr0 _ (Nat.mod_lt _ (by decide))];omega
theorem ZvG (k:Nat):bits .andNot .u8 (bt k 31) 128=bt (ptN k) 31:=by
 rw[ZmO];unfold bt
 rw[Zj1 _ (Nat.mod_lt _ (by decide))];omega
theorem ZhE (k:Nat) (v:Value):((keyA k).setIfInBounds 0 v)[31]?=some (.int .u8 (bt k 31)):=by
 rw[Array.getElem?_setIfInBounds,if_neg (by decide),keyA_get k 31 (by decide)]
theorem Zmv (k c:Nat) (hc:Cv.clampN k=c) (w:World):Calls Tryz.prog 31 #[kv k] w fun e w'=>e=.returned (kv c)∧Below w.heap.size w w':=by
 have h0:=Zog k
 have h31:=Zmo k
 have hs:=Zf1 k
 rw[hc] at h0 h31 hs
 have ha:=ZhE k (.int .u8 (bt c 0))
 clear hc
 generalize hy:bits .andNot .u8 (bt k 31) 128=y at h31
 go_enter Tryz.func31,Tryz.ntmps31
 go_wp2_with fail
 refine bodyPost_ret (v:=kv c) (Zav Tryz.results31 _ _ _ rfl (by go_simp) (by go_simp)) rfl ⟨rfl,?_⟩
 repeat (first | apply Zag | apply Zab | exact Below.refl _ _)
theorem ZhG (u p:Nat) (hp:ptN u%Fp.P=p) (w:World):Calls Tryz.prog 67 #[kv u] w fun e w'=>e=.returned (kv p)∧Below w.heap.size w w':=by
 have h31:=ZvG u
 have hs:=ZkF u
 have hl:=ZqV u
 generalize ptN u=v at *
 have Hp:=Zq hp
 clear hp
 go_enter Tryz.func67,Tryz.ntmps67
 go_wp2_with fail
 refine(Zrn v p hl Hp.out _).mono ?_
 rintro e w' ⟨rfl,hbw⟩
 obtain⟨o1,n1,rfl⟩:=Zaf hbw
 clear hbw
 go_wp2_with fail
 refine bodyPost_ret (v:=kv p) (Zav Tryz.results67 _ _ _ rfl (by go_simp) (by go_simp)) rfl ⟨rfl,?_⟩
 repeat (first | apply Zag | apply Zab | exact Below.refl _ _)
def errOf (p:Nat):Int:=if p=0 then 7 else 0
theorem ZdU (p:Nat) (e:Int) (hp:p<115792089237316195423570985008687907853269984665640564039457584007913129639936) (he:errOf p=e) (w:World):Calls Tryz.prog 66 #[kv p] w fun x w'=>x=.returned (.tuple #[kv p,.int .i64 e])∧Below w.heap.size w w':=by
 unfold errOf at he
 by_cases h:p=0
 ·subst h
  rw[if_pos rfl] at he
  subst he
  go_enter Tryz.func66,Tryz.ntmps66
  go_wp2_with fail
  refine bodyPost_ret (v:=.tuple #[kv 0,.int .i64 7]) (ZaR Tryz.results66 _ _ _ rfl (by go_simp) (by go_simp) rfl) rfl ⟨rfl,?_⟩
  repeat (first | apply Zag | apply Zab | exact Below.refl _ _)
 ·rw[if_neg h] at he
  subst he
  have hq:=Zie hp (show 0<115792089237316195423570985008687907853269984665640564039457584007913129639936 by decide) h
  clear h
  go_enter Tryz.func66,Tryz.ntmps66
  go_wp2_with fail
  refine bodyPost_ret (v:=.tuple #[kv p,.int .i64 0]) (ZaR Tryz.results66 _ _ _ rfl (by go_simp) (by go_simp) rfl) rfl ⟨rfl,?_⟩
  repeat (first | apply Zag | apply Zab | exact Below.refl _ _)
theorem public_K (k p:Nat) (hp:Cv.nT (Cv.clampN k) 9=p) (w:World):Calls Tryz.prog 27 #[kv k] w fun e w'=>e=.returned (kv p)∧Below w.heap.size w w':=by
 obtain⟨c,ec⟩:∃y,y=Cv.clampN k:=⟨_,rfl⟩
 have Hc:=Zq ec.symm
 have Hp:=Zq (show Cv.nT c 9=p by rw[ec];exact hp)
 clear ec hp
 go_enter Tryz.func27,Tryz.ntmps27
 go_wp2_with fail
 refine(Zmv k c Hc.out _).mono ?_
 rintro e w' ⟨rfl,hbw⟩
 obtain⟨o1,n1,rfl⟩:=Zaf hbw
 clear hbw
 go_wp2_with fail
 refine(Zl7 9 c p (by decide) Hp.out _).mono ?_
 rintro e w' ⟨rfl,hbw⟩
 obtain⟨o2,n2,rfl⟩:=Zaf hbw
 clear hbw
 go_wp2_with fail
 refine bodyPost_ret (v:=kv p) (Zav Tryz.results27 _ _ _ rfl (by go_simp) (by go_simp)) rfl ⟨rfl,?_⟩
 repeat (first | apply Zag | apply Zab | exact Below.refl _ _)
theorem P_le:Fp.P<2^255:=by decide +kernel
theorem Znt {p:Nat} (h:p<Fp.P):ptN p%Fp.P=p:=by
 unfold ptN
 rw[Nat.mod_eq_of_lt (Nat.lt_trans h P_le),Nat.mod_eq_of_lt h]
def shN (k u:Nat):Nat:=Cv.nT (Cv.clampN k) (ptN u%Fp.P)
theorem ZgB (k u:Nat):shN k u<Fp.P:=Cv.nT_lt _ _
theorem shared_K (k u r:Nat) (e:Int) (hr:shN k u=r) (he:errOf r=e) (w:World) :
  Calls Tryz.prog 29 #[kv k,kv u] w fun x w'=>x=.returned (.tuple #[kv r,.int .i64 e])∧Below w.heap.size w w':=by
 obtain⟨p,ep⟩:∃y,y=ptN u%Fp.P:=⟨_,rfl⟩
 have lp:p<115792089237316195423570985008687907853269984665640564039457584007913129639936:=by rw[ep];exact mod_lt _
 obtain⟨c,ec⟩:∃y,y=Cv.clampN k:=⟨_,rfl⟩
 have lr:r<115792089237316195423570985008687907853269984665640564039457584007913129639936:=by rw[←hr];exact Nat.lt_trans (ZgB k u) P_lt
 have Hp:=Zq ep.symm
 have Hc:=Zq ec.symm
 have Hr:=Zq (show Cv.nT c p=r by rw[←hr,ec,ep];rfl)
 have He:=Zq he
 clear ep ec hr he
 go_enter Tryz.func29,Tryz.ntmps29
 go_wp2_with fail
 generalize hW:World.alloc _ _=W1
 have R1x0:=Zq (show RowAt W1 (w.heap.size) (keyA k) by rw[←hW];clear hW;exact⟨by go_simp,by go_simp,by go_simp⟩)
 have R1x1:=Zq (show RowAt W1 (w.heap.size+1) (keyA u) by rw[←hW];clear hW;exact⟨by go_simp,by go_simp,by go_simp⟩)
 have R1x2:=Zq (show RowAt W1 (w.heap.size+1+1) (#[.int .u8 0,.int .u8 0,.int .u8 0,.int .u8 0,.int .u8 0,.int .u8 0,.int .u8 0,.int .u8 0,.int .u8 0,.int .u8 0,.int .u8 0,.int .u8 0,.int .u8 0,.int .u8 0,.int .u8 0,.int .u8 0,.int .u8 0,.int .u8 0,.int .u8 0,.int .u8 0,.int .u8 0,.int .u8 0,.int .u8 0,.int .u8 0,.int .u8 0,.int .u8 0,.int .u8 0,.int .u8 0,.int .u8 0,.int .u8 0,.int .u8 0,.int .u8 0]) by rw[←hW];clear hW;exact⟨by go_simp,by go_simp,by go_simp⟩)
 have HB1:=Zq (show Below w.heap.size w W1 by rw[←hW];repeat (first | apply Zag | apply Zab | apply Below.drew | refine Zad ?_ (by omega) _ | exact Below.refl _ _))
 clear hW
 obtain⟨R1x0a,R1x0b,R1x0c⟩:=R1x0.out
 obtain⟨R1x1a,R1x1b,R1x1c⟩:=R1x1.out
 obtain⟨R1x2a,R1x2b,R1x2c⟩:=R1x2.out
 refine Zal W1 [0,1,2,3,4,5,6,7] [false,false,false,false,false,false,false,false] [] [] 8 (by kernel_rfl) rfl (by kernel_rfl) (by intro c a d v w h;cases d<;>exact h) ((Below.refl _ _).drew) ?_
 simp only[pick,List.getElem?_cons_succ,List.getElem?_cons_zero,List.drop_succ_cons,List.drop_zero]
 refine Zac (Zaa rfl) (by intro K o d hK;go_simp;exact hK _ (Below.refl _ _)) ?_
 refine Zai (v:=kv p) (Zaa rfl) (by intro K o d hK;go_simp;refine(ZhG u p Hp.out _).mono ?_;rintro e w' ⟨rfl,hbw⟩;exact⟨_,rfl,hK _ hbw⟩) ?_
 refine Zac (Zaa rfl) (by intro K o d hK;go_simp;exact hK _ (Below.refl _ _)) ?_
 refine Zai (v:=kv c) (Zaa rfl) (by intro K o d hK;go_simp;refine(Zmv k c Hc.out _).mono ?_;rintro e w' ⟨rfl,hbw⟩;exact⟨_,rfl,hK _ hbw⟩) ?_
 refine Zai (v:=kv r) (Zaa rfl) (by intro K o d hK;go_simp;refine(Zl7 p c r lp Hr.out _).mono ?_;rintro e w' ⟨rfl,hbw⟩;exact⟨_,rfl,hK _ hbw⟩) ?_
 refine Zai (v:=(.tuple #[kv r,.int .i64 e])) (Zaa rfl) (by intro K o d hK;go_simp;refine(ZdU r e lr He.out _).mono ?_;rintro e w' ⟨rfl,hbw⟩;exact⟨_,rfl,hK _ hbw⟩) ?_
 refine Zac (Zaa rfl) (by intro K o d hK;go_simp;exact hK _ (Below.refl _ _)) ?_
 refine Zac (Zaa rfl) (by intro K o d hK;go_simp;exact hK _ (Below.refl _ _)) ?_
 refine Zan ?_
 intro w2 hb2 hblk2
 have A2x0:=R1x0.out.grow hb2
 have c2x0:=R1x0.out.2.2
 have A2x1:=R1x1.out.grow hb2
 have c2x1:=R1x1.out.2.2
 have A2x2:=R1x2.out.grow hb2
 have c2x2:=R1x2.out.2.2
 have B2x0:=HB1.out.trans (hb2.mono HB1.out.size)
 have s2:=HB1.out.size
 have P2x0x0:=A2x0.other (show w.heap.size≠w.heap.size+1+1 by omega) (keyA r)
 have P2x0x1:=A2x1.other (show w.heap.size+1≠w.heap.size+1+1 by omega) (keyA r)
 have P2x0x2:=A2x2.set (keyA r)
 have B2x1:=Zad B2x0 (show w.heap.size≤w.heap.size+1+1 by omega) (keyA r)
 have Z2x0:=Zq P2x0x0
 have Z2x1:=Zq P2x0x1
 have Z2x2:=Zq P2x0x2
 have HB2:=Zq B2x1
 clear hb2 hblk2 HB1 s2 R1x0a R1x0b R1x0c R1x1a R1x1b R1x1c R1x2a R1x2b R1x2c R1x0 R1x1 R1x2 c2x0 c2x1 c2x2 B2x0 B2x1 P2x0x0 P2x0x1 P2x0x2
 obtain⟨A2x0a,A2x0b,A2x0c⟩:=A2x0
 obtain⟨A2x1a,A2x1b,A2x1c⟩:=A2x1
 obtain⟨A2x2a,A2x2b,A2x2c⟩:=A2x2
 go_wp2_with fail
 clear A2x0a A2x0b A2x0c A2x1a A2x1b A2x1c A2x2a A2x2b A2x2c
 generalize World.setRow _ _ _=W3 at *
 obtain⟨Z2x0a,Z2x0b,Z2x0c⟩:=Z2x0.out
 obtain⟨Z2x1a,Z2x1b,Z2x1c⟩:=Z2x1.out
 obtain⟨Z2x2a,Z2x2b,Z2x2c⟩:=Z2x2.out
 refine bodyPost_ret (v:=.tuple #[kv r,.int .i64 e]) (ZaR Tryz.results29 _ _ _ rfl (by go_simp) (by go_simp) rfl) rfl ⟨rfl,HB2.out⟩
def KeysAt (w:World) (p:Option Addr) (ls:List Nat):Prop:=∀ i x,ls[i]?=some x→∃ g o,p=some ⟨g,o,none⟩∧g<w.heap.size∧w.rangeAt g (o+i*32) (keyA x).toList
theorem KeysAt.grow {w w':World} {p:Option Addr} {ls:List Nat} (h:KeysAt w p ls) (hb:Below w.heap.size w w'):KeysAt w' p ls:=fun i x hx=>by
 obtain⟨g,o,hp,hg,hr⟩:=h i x hx
 refine⟨g,o,hp,Nat.lt_of_lt_of_le hg hb.size,fun j v hv=>?_⟩
 have:=hr j v hv
 rw[World.cell?_of_block (hb.block g hg)]
 exact this
theorem Zc5 (w:World) (g o x:Nat) (h:w.rangeAt g o (keyA x).toList):(Zam 23 (.pointer (some ⟨g,o,none⟩))).run Tryz.prog w=.ok (kv x) w:=by
 have:=run_loadAt_mid (P:=Tryz.prog) w g o 23 _ _ h Tryz.underlying23 rfl (by rw[show (keyA x).toList.length=32 by simp[keyA_size]];kernel_rfl)
 rw[Array.toArray_toList] at this
 exact this
def chN (p:Nat) (ls:List Nat):Nat:=ls.foldl (fun q k=>shN k q) p
theorem ZgW:∀ls,chN 0 ls=0
 | []=>rfl
 | k::ls=>by
  show chN (shN k 0) ls=0
  have:shN k 0=0:=by
   unfold shN
   rw[Znt (show 0<Fp.P by decide +kernel)];exact Cv.nT_zero _
  rw[this];exact ZgW ls
theorem chN_lt (p:Nat) (h:p<Fp.P):∀ls,chN p ls<Fp.P
 | []=>h
 | k::ls=>chN_lt _ (ZgB k p) ls
theorem Zlp {α β:Type} (g:α→β→α) (p:α) (ls:List β) (j:Nat) (k:β) (h:ls[j]?=some k):(ls.take (j+1)).foldl g p=g ((ls.take j).foldl g p) k:=by
 rw[List.take_add_one,h,List.foldl_append];rfl
theorem Zj9 (p:Nat) (ls:List Nat) (j k:Nat) (h:ls[j]?=some k):chN p (ls.take (j+1))=shN k (chN p (ls.take j)) :=
 Zlp (fun q k=>shN k q) p ls j k h
theorem Zij (p:Nat) (ls:List Nat) (j:Nat) (h:chN p (ls.take j)=0):chN p ls=0:=by
 have e:chN p ls=chN (chN p (ls.take j)) (ls.drop j):=by
  unfold chN
  rw[←List.foldl_append,List.take_append_drop]
 rw[e,h,ZgW]
theorem chain_small (u q:Nat) (ls:List Nat) (cap:Nat) (p:Option Addr) (hq:ptN u%Fp.P=q) (hn:ls.length≤8) (w:World) (hk:KeysAt w p ls) :
  Calls Tryz.prog 69 #[kv u,.slice p ls.length cap] w fun x w'=>x=.returned (.tuple #[kv (chN q ls),.int .i64 (errOf (chN q ls))])∧Below w.heap.size w w':=by
 have h8:¬(8:Int)<(ls.length:Int):=by omega
 have Hq:=Zq hq
 have lq:q<Fp.P:=by rw[←hq];exact Nat.mod_lt _ Fp.P_pos
 obtain⟨e0,ee⟩:∃y,y=errOf q:=⟨_,rfl⟩
 have He:=Zq ee.symm
 clear hq ee
 go_enter Tryz.func69,Tryz.ntmps69
 go_wp2_with fail
 refine(ZhG u q Hq.out _).mono ?_
 rintro e w' ⟨rfl,hbw⟩
 obtain⟨oc1,nc1,rfl⟩:=Zaf hbw
 clear hbw
 go_wp2_with fail
 refine(ZdU q e0 (Nat.lt_trans lq P_lt) He.out _).mono ?_
 rintro e w' ⟨rfl,hbw⟩
 obtain⟨oc2,nc2,rfl⟩:=Zaf hbw
 clear hbw
 go_wp2_with fail
 generalize hW:World.alloc _ _=W1
 have R1x0:=Zq (show RowAt W1 (w.heap.size) (keyA u) by rw[←hW];clear hW;exact⟨by go_simp,by go_simp,by go_simp⟩)
 have R1x1:=Zq (show RowAt W1 (w.heap.size+1) (#[.int .u8 0,.int .u8 0,.int .u8 0,.int .u8 0,.int .u8 0,.int .u8 0,.int .u8 0,.int .u8 0,.int .u8 0,.int .u8 0,.int .u8 0,.int .u8 0,.int .u8 0,.int .u8 0,.int .u8 0,.int .u8 0,.int .u8 0,.int .u8 0,.int .u8 0,.int .u8 0,.int .u8 0,.int .u8 0,.int .u8 0,.int .u8 0,.int .u8 0,.int .u8 0,.int .u8 0,.int .u8 0,.int .u8 0,.int .u8 0,.int .u8 0,.int .u8 0]) by rw[←hW];clear hW;exact⟨by go_simp,by go_simp,by go_simp⟩)
 have R1x2:=Zq (show RowAt W1 (w.heap.size+1+1+(oc1.size+oc2.size)) (keyA q) by rw[←hW];clear hW;exact⟨by go_simp,by go_simp,by go_simp⟩)
 have HB1:=Zq (show Below w.heap.size w W1 by rw[←hW];repeat (first | apply Zag | apply Zab | apply Below.drew | refine Zad ?_ (by omega) _ | exact Below.refl _ _))
 clear hW
 obtain⟨R1x0a,R1x0b,R1x0c⟩:=R1x0.out
 obtain⟨R1x1a,R1x1b,R1x1c⟩:=R1x1.out
 obtain⟨R1x2a,R1x2b,R1x2c⟩:=R1x2.out
 have hG':w.heap.size+1+1≤w.heap.size+1+1+(oc1.size+oc2.size):=by omega
 generalize w.heap.size+1+1+(oc1.size+oc2.size)=G at *
 have HK:=Zq hk
 clear hk
 go_loopw [7,8] (fun er i w'=>∃ (j:Nat),j≤ls.length∧i=.int .i64 j∧er=.int .i64 (errOf (chN q (ls.take j)))∧RowAt w' w.heap.size (keyA u)∧RowAt w' (w.heap.size+1) #[.int .u8 0,.int .u8 0,.int .u8 0,.int .u8 0,.int .u8 0,.int .u8 0,.int .u8 0,.int .u8 0,.int .u8 0,.int .u8 0,.int .u8 0,.int .u8 0,.int .u8 0,.int .u8 0,.int .u8 0,.int .u8 0,.int .u8 0,.int .u8 0,.int .u8 0,.int .u8 0,.int .u8 0,.int .u8 0,.int .u8 0,.int .u8 0,.int .u8 0,.int .u8 0,.int .u8 0,.int .u8 0,.int .u8 0,.int .u8 0,.int .u8 0,.int .u8 0]∧RowAt w' G (keyA (chN q (ls.take j)))∧Below w.heap.size w w') (fun _ i _=>ls.length-(intOf i).toNat)
 case atStart=>exact⟨0,Nat.zero_le _,rfl,by rw[←He.out];rfl,R1x0.out,R1x1.out,R1x2.out,HB1.out⟩
 case round =>
  clear R1x0a R1x0b R1x0c R1x1a R1x1b R1x1c R1x2a R1x2b R1x2c R1x0 R1x1 R1x2 HB1
  obtain⟨j,hj,rfl,rfl,Q1,Q2,Q3,HB⟩:=hrel
  have T1:=Zq Q1
  have T2:=Zq Q2
  have T3:=Zq Q3
  have HB2:=Zq HB
  clear HB
  obtain⟨T1a,T1b,T1c⟩:=Q1
  obtain⟨T2a,T2b,T2c⟩:=Q2
  have lv:=Nat.lt_trans (chN_lt q lq (ls.take j)) P_lt
  by_cases hjl:j<ls.length
  ·obtain⟨x,hx⟩:∃x,ls[j]?=some x:=⟨_,List.getElem?_eq_getElem hjl⟩
   by_cases hz:chN q (ls.take j)=0
   ·have Hres:=Zq (Zij q ls j hz)
    rw[hz] at Q3 ⊢
    have T3':=Zq Q3
    clear T3
    obtain⟨T3a,T3b,T3c⟩:=Q3
    have hji:(j:Int)<(ls.length:Int):=by omega
    have he7:errOf 0=7:=rfl
    rw[he7]
    clear hz lv hx
    go_wp2_with fail
    refine bodyPost_ret (v:=.tuple #[kv 0,.int .i64 7]) (ZaR Tryz.results69 _ _ _ rfl (by go_simp) (by go_simp) rfl) rfl ⟨by rw[Hres.out];rfl,?_⟩
    exact Zad HB2.out (by omega) _
   ·have he0:errOf (chN q (ls.take j))=0:=by unfold errOf;rw[if_neg hz]
    have hnx:=Zj9 q ls j x hx
    generalize chN q (ls.take j)=v at *
    obtain⟨r,er⟩:∃y,y=shN x v:=⟨_,rfl⟩
    obtain⟨e1,ee1⟩:∃y,y=errOf r:=⟨_,rfl⟩
    have Hr:=Zq er.symm
    have He1:=Zq ee1.symm
    have Hnx:=Zq (show chN q (ls.take (j+1))=r by rw[hnx,er])
    obtain⟨T3a,T3b,T3c⟩:=Q3
    obtain⟨g,o,rfl,hg,hrg⟩:=HK.out j x hx
    have hgr:∀w',Below w.heap.size w w'→(Zam 23 (.pointer (some ⟨g,o+j*32,none⟩))).run Tryz.prog w'=.ok (kv x) w':=fun w' hb=>by
     obtain⟨g',o',hp',hg',hr'⟩:=(HK.out.grow hb) j x hx
     cases hp'
     exact Zc5 w' g _ x hr'
    have hload:∀os d,(Zam 23 (.pointer (some ⟨g,o+j*32,none⟩))).run Tryz.prog (wr.plus os d)=.ok (kv x) (wr.plus os d):=fun os d=>hgr _ (Zag HB2.out _ _)
    rw[he0]
    have hji:(j:Int)<(ls.length:Int):=by omega
    have hj0:(0:Int)≤(j:Int):=by omega
    clear er ee1 hnx hz lv hx hgr hrg he0
    go_wp2_with fail
    refine Zal wr [0,1,2,3,4,5,6,7,8] [false,false,false,false,false,false,false,false,true] [] [] 9 (by kernel_rfl) rfl (by kernel_rfl) (by intro c a d v w h;cases d<;>exact h) ((Below.refl _ _).drew) ?_
    simp only[pick,List.getElem?_cons_succ,List.getElem?_cons_zero,List.drop_succ_cons,List.drop_zero]
    refine Zac (Zaa rfl) (by intro K o d hK;go_simp;exact hK _ (Below.refl _ _)) ?_
    refine Zac (Zaa rfl) (by intro K o d hK;go_simp;exact hK _ (Below.refl _ _)) ?_
    refine Zac (Zaa rfl) (by intro K o d hK;go_simp;exact hK _ (Below.refl _ _)) ?_
    refine Zac (Zaa rfl) (by intro K o d hK;go_simp;exact hK _ (Below.refl _ _)) ?_
    refine Zac (Zaa rfl) (by intro K o d hK;go_simp;exact hK _ (Below.refl _ _)) ?_
    refine Zai (v:=(.tuple #[kv r,.int .i64 e1])) (Zaa rfl) (by intro K o d hK;go_simp;refine(shared_K x v r e1 Hr.out He1.out _).mono ?_;rintro e w' ⟨rfl,hbw⟩;exact⟨_,rfl,hK _ hbw⟩) ?_
    refine Zac (Zaa rfl) (by intro K o d hK;go_simp;exact hK _ (Below.refl _ _)) ?_
    refine Zac (Zaa rfl) (by intro K o d hK;go_simp;exact hK _ (Below.refl _ _)) ?_
    refine Zay (Zaa rfl) (fun w=>by go_simp;rfl) ?_
    refine Zan ?_
    intro w21 hb21 hblk21
    have A21x0:=T1.out.grow hb21
    have c21x0:=T1.out.2.2
    have A21x1:=T2.out.grow hb21
    have c21x1:=T2.out.2.2
    have A21x2:=T3.out.grow hb21
    have c21x2:=T3.out.2.2
    have B21x0:=HB2.out.trans (hb21.mono HB2.out.size)
    have s21:=HB2.out.size
    have P21x0x0:=A21x0.other (show w.heap.size≠G by omega) (keyA r)
    have P21x0x1:=A21x1.other (show w.heap.size+1≠G by omega) (keyA r)
    have P21x0x2:=A21x2.set (keyA r)
    have B21x1:=Zad B21x0 (show w.heap.size≤G by omega) (keyA r)
    have Z21x0:=Zq P21x0x0
    have Z21x1:=Zq P21x0x1
    have Z21x2:=Zq P21x0x2
    have HB21:=Zq B21x1
    clear hb21 hblk21 HB2 s21 T1a T1b T1c T2a T2b T2c T3a T3b T3c T1 T2 T3 c21x0 c21x1 c21x2 B21x0 B21x1 P21x0x0 P21x0x1 P21x0x2
    obtain⟨A21x0a,A21x0b,A21x0c⟩:=A21x0
    obtain⟨A21x1a,A21x1b,A21x1c⟩:=A21x1
    obtain⟨A21x2a,A21x2b,A21x2c⟩:=A21x2
    go_wp2_with fail
    clear A21x0a A21x0b A21x0c A21x1a A21x1b A21x1c A21x2a A21x2b A21x2c
    generalize World.setRow _ _ _=W22 at *
    obtain⟨Z21x0a,Z21x0b,Z21x0c⟩:=Z21x0.out
    obtain⟨Z21x1a,Z21x1b,Z21x1c⟩:=Z21x1.out
    obtain⟨Z21x2a,Z21x2b,Z21x2c⟩:=Z21x2.out
    go_roundw
    case rel=>exact⟨j+1,by omega,by go_num,by rw[Hnx.out,He1.out],Z21x0.out,Z21x1.out,by rw[Hnx.out];exact Z21x2.out,HB21.out⟩
    case measure=>simp[intOf];omega
  ·obtain rfl:j=ls.length:=by omega
   have hres:chN q (ls.take ls.length)=chN q ls:=by rw[List.take_length]
   rw[hres] at Q3 lv ⊢
   clear hres
   obtain⟨r,er⟩:∃y,chN q ls=y:=⟨_,rfl⟩
   rw[er] at Q3 lv ⊢
   have Hh:=Zq er
   clear er T3
   obtain⟨T3a,T3b,T3c⟩:=Q3
   go_wp2_with fail
   refine bodyPost_ret (v:=.tuple #[kv r,.int .i64 (errOf r)]) (ZaR Tryz.results69 _ _ _ rfl (by go_simp) (by go_simp) rfl) rfl ⟨by rw[Hh.out],?_⟩
   exact Zad HB2.out (by omega) _
open Cv Ed Fp in
open Cv Ed Fp in
open Go.RowKit Go.Shelf Go.Hold
@[go_sem ↓] theorem Zrw (v:Value):Instr.loadAt 158 v=Zam 158 v:=rfl
@[go_sem] theorem Zq3 (w:World) (n:Nat) (h1:w.isRow n=true) (h2:(w.rowOf n).size=64):(Zam 158 (.pointer (some ⟨n,0,none⟩))).run Tryz.prog w=.ok (.agg (w.rowOf n)) w:=ZaF w Tryz.underlying158 rfl (by kernel_rfl) n h1 h2
theorem ZeI {fn:Func} {p:Tmp} {x z:Nat} (h:fn.results=#[.cell p 158]) (w:World) (tmps:Array Value) (n:Nat) (hp:tmps.getD p undef=.pointer (some ⟨n,0,none⟩)) (h1:w.isRow n=true) (h2:w.rowOf n=ZaD x z):(results fn tmps).run Tryz.prog w=.ok (fv x z) w :=
 ZaW w h Tryz.underlying158 rfl (by rw[Zc7];kernel_rfl) tmps n hp h1 h2
@[go_sem ↓] theorem ZtZ (ps:Array (Nat×Value)):Instr.build 158 ps=bld 158 ps:=rfl
@[go_sem] theorem ZoB (w:World) (x:Nat):(bld 158 #[(0,.agg (keyA x))]).run Tryz.prog w=.ok (fv x 0) w:=by
 refine run_build w _ _ _ ?_
 have e:ZaD x 0=keyA x++#[.int .u8 0,.int .u8 0,.int .u8 0,.int .u8 0,.int .u8 0,.int .u8 0,.int .u8 0,.int .u8 0,.int .u8 0,.int .u8 0,.int .u8 0,.int .u8 0,.int .u8 0,.int .u8 0,.int .u8 0,.int .u8 0,.int .u8 0,.int .u8 0,.int .u8 0,.int .u8 0,.int .u8 0,.int .u8 0,.int .u8 0,.int .u8 0,.int .u8 0,.int .u8 0,.int .u8 0,.int .u8 0,.int .u8 0,.int .u8 0,.int .u8 0,.int .u8 0]:=by
  unfold ZaD;rw[←Za3 0 (by decide)];rfl
 have h2:Tryz.prog.built 158 [(0,.agg (keyA x))]=some (keyA x++#[.int .u8 0,.int .u8 0,.int .u8 0,.int .u8 0,.int .u8 0,.int .u8 0,.int .u8 0,.int .u8 0,.int .u8 0,.int .u8 0,.int .u8 0,.int .u8 0,.int .u8 0,.int .u8 0,.int .u8 0,.int .u8 0,.int .u8 0,.int .u8 0,.int .u8 0,.int .u8 0,.int .u8 0,.int .u8 0,.int .u8 0,.int .u8 0,.int .u8 0,.int .u8 0,.int .u8 0,.int .u8 0,.int .u8 0,.int .u8 0,.int .u8 0,.int .u8 0]):=by kernel_rfl
 rw[e];exact h2
@[go_sem] theorem Zpz (w:World) (x z:Nat):(bld 158 #[(0,.agg (keyA x)),(1,.agg (keyA z))]).run Tryz.prog w=.ok (fv x z) w :=
 run_build w _ _ (ZaD x z) (by kernel_rfl)
theorem Zpe (x z:Nat) (hx:x<115792089237316195423570985008687907853269984665640564039457584007913129639936) (hz:z<115792089237316195423570985008687907853269984665640564039457584007913129639936) (w:World) :
  Calls Tryz.prog 105 #[fv x z,kv 121665] w fun e w'=>e=.returned (fv (Cv.ntw (x,z)).1 (Cv.ntw (x,z)).2)∧Below w.heap.size w w':=by
 show Calls Tryz.prog 105 #[fv x z,kv 121665] w fun e w'=>e=.returned (fv (Cv.nmul (Cv.nmul (Cv.nadd x z) (Cv.nadd x z)) (Cv.nmul (Cv.nsub x z) (Cv.nsub x z)))
  (Cv.nmul (Cv.nsub (Cv.nmul (Cv.nadd x z) (Cv.nadd x z)) (Cv.nmul (Cv.nsub x z) (Cv.nsub x z))) (Cv.nadd (Cv.nmul (Cv.nadd x z) (Cv.nadd x z)) (Cv.nmul 121665 (Cv.nsub (Cv.nmul (Cv.nadd x z) (Cv.nadd x z)) (Cv.nmul (Cv.nsub x z) (Cv.nsub x z)))))))∧Below w.heap.size w w'
 obtain⟨sa,esa⟩:∃y,y=Cv.nadd x z:=⟨_,rfl⟩
 have lsa:sa<115792089237316195423570985008687907853269984665640564039457584007913129639936:=by rw[esa];exact(Nat.lt_trans (Cv.nadd_lt _ _) P_lt)
 have Hsa:=Zq esa.symm
 obtain⟨df,edf⟩:∃y,y=Cv.nsub x z:=⟨_,rfl⟩
 have ldf:df<115792089237316195423570985008687907853269984665640564039457584007913129639936:=by rw[edf];exact(Nat.lt_trans (Cv.nsub_lt _ _) P_lt)
 have Hdf:=Zq edf.symm
 obtain⟨aa,eaa⟩:∃y,y=Cv.nmul sa sa:=⟨_,rfl⟩
 have laa:aa<115792089237316195423570985008687907853269984665640564039457584007913129639936:=by rw[eaa];exact(Nat.lt_trans (Cv.nmul_lt _ _) P_lt)
 have Haa:=Zq eaa.symm
 obtain⟨bb,ebb⟩:∃y,y=Cv.nmul df df:=⟨_,rfl⟩
 have lbb:bb<115792089237316195423570985008687907853269984665640564039457584007913129639936:=by rw[ebb];exact(Nat.lt_trans (Cv.nmul_lt _ _) P_lt)
 have Hbb:=Zq ebb.symm
 obtain⟨ee,eee⟩:∃y,y=Cv.nsub aa bb:=⟨_,rfl⟩
 have lee:ee<115792089237316195423570985008687907853269984665640564039457584007913129639936:=by rw[eee];exact(Nat.lt_trans (Cv.nsub_lt _ _) P_lt)
 have Hee:=Zq eee.symm
 obtain⟨k,ek⟩:∃y,y=Cv.nmul 121665 ee:=⟨_,rfl⟩
 have lk:k<115792089237316195423570985008687907853269984665640564039457584007913129639936:=by rw[ek];exact(Nat.lt_trans (Cv.nmul_lt _ _) P_lt)
 have Hk:=Zq ek.symm
 obtain⟨t,et⟩:∃y,y=Cv.nadd aa k:=⟨_,rfl⟩
 have lt:t<115792089237316195423570985008687907853269984665640564039457584007913129639936:=by rw[et];exact(Nat.lt_trans (Cv.nadd_lt _ _) P_lt)
 have Ht:=Zq et.symm
 obtain⟨X,eX⟩:∃y,y=Cv.nmul aa bb:=⟨_,rfl⟩
 have lX:X<115792089237316195423570985008687907853269984665640564039457584007913129639936:=by rw[eX];exact(Nat.lt_trans (Cv.nmul_lt _ _) P_lt)
 have HX:=Zq eX.symm
 obtain⟨Z,eZ⟩:∃y,y=Cv.nmul ee t:=⟨_,rfl⟩
 have lZ:Z<115792089237316195423570985008687907853269984665640564039457584007913129639936:=by rw[eZ];exact(Nat.lt_trans (Cv.nmul_lt _ _) P_lt)
 have HZ:=Zq eZ.symm
 rw[←esa,←edf,←eaa,←ebb,←eee,←ek,←et,←eX,←eZ]
 clear esa edf eaa ebb eee ek et eX eZ
 go_enter Tryz.func105,Tryz.ntmps105
 go_wp2_with fail
 generalize hW:World.alloc _ _=W1
 have R1x0:=Zq (show RowAt W1 (w.heap.size) (ZaD x z) by rw[←hW];clear hW;exact⟨by go_simp,by go_simp,by go_simp⟩)
 have R1x1:=Zq (show RowAt W1 (w.heap.size+1) (keyA 121665) by rw[←hW];clear hW;exact⟨by go_simp,by go_simp,by go_simp⟩)
 have R1x2:=Zq (show RowAt W1 (w.heap.size+1+1) (#[.int .u8 0,.int .u8 0,.int .u8 0,.int .u8 0,.int .u8 0,.int .u8 0,.int .u8 0,.int .u8 0,.int .u8 0,.int .u8 0,.int .u8 0,.int .u8 0,.int .u8 0,.int .u8 0,.int .u8 0,.int .u8 0,.int .u8 0,.int .u8 0,.int .u8 0,.int .u8 0,.int .u8 0,.int .u8 0,.int .u8 0,.int .u8 0,.int .u8 0,.int .u8 0,.int .u8 0,.int .u8 0,.int .u8 0,.int .u8 0,.int .u8 0,.int .u8 0,.int .u8 0,.int .u8 0,.int .u8 0,.int .u8 0,.int .u8 0,.int .u8 0,.int .u8 0,.int .u8 0,.int .u8 0,.int .u8 0,.int .u8 0,.int .u8 0,.int .u8 0,.int .u8 0,.int .u8 0,.int .u8 0,.int .u8 0,.int .u8 0,.int .u8 0,.int .u8 0,.int .u8 0,.int .u8 0,.int .u8 0,.int .u8 0,.int .u8 0,.int .u8 0,.int .u8 0,.int .u8 0,.int .u8 0,.int .u8 0,.int .u8 0,.int .u8 0]) by rw[←hW];clear hW;exact⟨by go_simp,by go_simp,by go_simp⟩)
 have HB1:=Zq (show Below w.heap.size w W1 by rw[←hW];repeat (first | apply Zag | apply Zab | apply Below.drew | refine Zad ?_ (by omega) _ | exact Below.refl _ _))
 clear hW
 obtain⟨R1x0a,R1x0b,R1x0c⟩:=R1x0.out
 obtain⟨R1x1a,R1x1b,R1x1c⟩:=R1x1.out
 obtain⟨R1x2a,R1x2b,R1x2c⟩:=R1x2.out
 refine Zal W1 [0,1,2,3,4,5,6,7,8,9] [false,false,false,false,false,false,false,false,false,false] [10,11] [(23,#[.int .u8 0,.int .u8 0,.int .u8 0,.int .u8 0,.int .u8 0,.int .u8 0,.int .u8 0,.int .u8 0,.int .u8 0,.int .u8 0,.int .u8 0,.int .u8 0,.int .u8 0,.int .u8 0,.int .u8 0,.int .u8 0,.int .u8 0,.int .u8 0,.int .u8 0,.int .u8 0,.int .u8 0,.int .u8 0,.int .u8 0,.int .u8 0,.int .u8 0,.int .u8 0,.int .u8 0,.int .u8 0,.int .u8 0,.int .u8 0,.int .u8 0,.int .u8 0]),(23,#[.int .u8 0,.int .u8 0,.int .u8 0,.int .u8 0,.int .u8 0,.int .u8 0,.int .u8 0,.int .u8 0,.int .u8 0,.int .u8 0,.int .u8 0,.int .u8 0,.int .u8 0,.int .u8 0,.int .u8 0,.int .u8 0,.int .u8 0,.int .u8 0,.int .u8 0,.int .u8 0,.int .u8 0,.int .u8 0,.int .u8 0,.int .u8 0,.int .u8 0,.int .u8 0,.int .u8 0,.int .u8 0,.int .u8 0,.int .u8 0,.int .u8 0,.int .u8 0])] 12 (by kernel_rfl) rfl (by kernel_rfl) (by intro c a d v w h;cases d<;>exact h) ((Below.refl _ _).drew) ?_
 simp only[pick,List.getElem?_cons_succ,List.getElem?_cons_zero,List.drop_succ_cons,List.drop_zero]
 refine Zac (Zaa rfl) (by intro K o d hK;go_simp;exact hK _ (Below.refl _ _)) ?_
 refine Zac (Zaa rfl) (by intro K o d hK;go_simp;exact hK _ (Below.refl _ _)) ?_
 refine Zac (Zaa rfl) (by intro K o d hK;go_simp;exact hK _ (Below.refl _ _)) ?_
 refine Zac (Zaa rfl) (by intro K o d hK;go_simp;exact hK _ (Below.refl _ _)) ?_
 refine Zai (v:=kv sa) (Zaa rfl) (by intro K o d hK;go_simp;refine(ZiA x z sa hx hz Hsa.out _).mono ?_;rintro e w' ⟨rfl,hbw⟩;exact⟨_,rfl,hK _ hbw⟩) ?_
 refine Zac (Zaa rfl) (by intro K o d hK;go_simp;exact hK _ (Below.refl _ _)) ?_
 refine Zac (Zaa rfl) (by intro K o d hK;go_simp;exact hK _ (Below.refl _ _)) ?_
 refine Zac (Zaa rfl) (by intro K o d hK;go_simp;exact hK _ (Below.refl _ _)) ?_
 refine Zac (Zaa rfl) (by intro K o d hK;go_simp;exact hK _ (Below.refl _ _)) ?_
 refine Zai (v:=kv df) (Zaa rfl) (by intro K o d hK;go_simp;refine(Zh8 x z df hx hz Hdf.out _).mono ?_;rintro e w' ⟨rfl,hbw⟩;exact⟨_,rfl,hK _ hbw⟩) ?_
 refine Zan ?_
 refine⟨Zba _ rfl rfl,fun g2x0 hg2x0 hn2x0=>?_⟩
 refine⟨Zba _ rfl rfl,fun g2x1 hg2x1 hn2x1=>?_⟩
 simp at hn2x1
 intro w2 hb2 hblk2
 have A2x0:=R1x0.out.grow hb2
 have c2x0:=R1x0.out.2.2
 have A2x1:=R1x1.out.grow hb2
 have c2x1:=R1x1.out.2.2
 have A2x2:=R1x2.out.grow hb2
 have c2x2:=R1x2.out.2.2
 have N2x0:=RowAt.of (hblk2 0 g2x0 _ _ rfl rfl)
 have N2x1:=RowAt.of (hblk2 1 g2x1 _ _ rfl rfl)
 have B2x0:=HB1.out.trans (hb2.mono HB1.out.size)
 have s2:=HB1.out.size
 have le2x0:w.heap.size≤g2x0:=by omega
 have le2x1:w.heap.size≤g2x1:=by omega
 have ne2x0x0:¬w.heap.size=g2x0:=by omega
 have nf2x0x0:¬g2x0=w.heap.size:=by omega
 have ne2x0x1:¬w.heap.size=g2x1:=by omega
 have nf2x0x1:¬g2x1=w.heap.size:=by omega
 have ne2x1x0:¬w.heap.size+1=g2x0:=by omega
 have nf2x1x0:¬g2x0=w.heap.size+1:=by omega
 have ne2x1x1:¬w.heap.size+1=g2x1:=by omega
 have nf2x1x1:¬g2x1=w.heap.size+1:=by omega
 have ne2x2x0:¬w.heap.size+1+1=g2x0:=by omega
 have nf2x2x0:¬g2x0=w.heap.size+1+1:=by omega
 have ne2x2x1:¬w.heap.size+1+1=g2x1:=by omega
 have nf2x2x1:¬g2x1=w.heap.size+1+1:=by omega
 have ne2x3x1:¬g2x0=g2x1:=by omega
 have ne2x4x0:¬g2x1=g2x0:=by omega
 have P2x0x0:=A2x0.other (show w.heap.size≠g2x0 by omega) (keyA sa)
 have P2x0x1:=A2x1.other (show w.heap.size+1≠g2x0 by omega) (keyA sa)
 have P2x0x2:=A2x2.other (show w.heap.size+1+1≠g2x0 by omega) (keyA sa)
 have P2x0x3:=N2x0.set (keyA sa)
 have P2x0x4:=N2x1.other (show g2x1≠g2x0 by omega) (keyA sa)
 have B2x1:=Zad B2x0 (show w.heap.size≤g2x0 by omega) (keyA sa)
 have P2x1x0:=P2x0x0.other (show w.heap.size≠g2x1 by omega) (keyA df)
 have P2x1x1:=P2x0x1.other (show w.heap.size+1≠g2x1 by omega) (keyA df)
 have P2x1x2:=P2x0x2.other (show w.heap.size+1+1≠g2x1 by omega) (keyA df)
 have P2x1x3:=P2x0x3.other (show g2x0≠g2x1 by omega) (keyA df)
 have P2x1x4:=P2x0x4.set (keyA df)
 have B2x2:=Zad B2x1 (show w.heap.size≤g2x1 by omega) (keyA df)
 have Z2x0:=Zq P2x1x0
 have Z2x1:=Zq P2x1x1
 have Z2x2:=Zq P2x1x2
 have Z2x3:=Zq P2x1x3
 have Z2x4:=Zq P2x1x4
 have HB2:=Zq B2x2
 clear hb2 hblk2 HB1 s2 R1x0a R1x0b R1x0c R1x1a R1x1b R1x1c R1x2a R1x2b R1x2c R1x0 R1x1 R1x2 c2x0 c2x1 c2x2 B2x0 B2x1 B2x2 P2x0x0 P2x0x1 P2x0x2 P2x0x3 P2x0x4 P2x1x0 P2x1x1 P2x1x2 P2x1x3 P2x1x4 hg2x0 hg2x1 hn2x0 hn2x1
 obtain⟨A2x0a,A2x0b,A2x0c⟩:=A2x0
 obtain⟨A2x1a,A2x1b,A2x1c⟩:=A2x1
 obtain⟨A2x2a,A2x2b,A2x2c⟩:=A2x2
 obtain⟨N2x0a,N2x0b,N2x0c⟩:=N2x0
 obtain⟨N2x1a,N2x1b,N2x1c⟩:=N2x1
 go_wp2_with fail
 clear A2x0a A2x0b A2x0c A2x1a A2x1b A2x1c A2x2a A2x2b A2x2c N2x0a N2x0b N2x0c N2x1a N2x1b N2x1c
 generalize World.setRow _ _ _=W3 at *
 obtain⟨Z2x0a,Z2x0b,Z2x0c⟩:=Z2x0.out
 obtain⟨Z2x1a,Z2x1b,Z2x1c⟩:=Z2x1.out
 obtain⟨Z2x2a,Z2x2b,Z2x2c⟩:=Z2x2.out
 obtain⟨Z2x3a,Z2x3b,Z2x3c⟩:=Z2x3.out
 obtain⟨Z2x4a,Z2x4b,Z2x4c⟩:=Z2x4.out
 refine Zal W3 [0,1,2,3,4,5] [false,false,false,false,false,false] [6,7] [(23,#[.int .u8 0,.int .u8 0,.int .u8 0,.int .u8 0,.int .u8 0,.int .u8 0,.int .u8 0,.int .u8 0,.int .u8 0,.int .u8 0,.int .u8 0,.int .u8 0,.int .u8 0,.int .u8 0,.int .u8 0,.int .u8 0,.int .u8 0,.int .u8 0,.int .u8 0,.int .u8 0,.int .u8 0,.int .u8 0,.int .u8 0,.int .u8 0,.int .u8 0,.int .u8 0,.int .u8 0,.int .u8 0,.int .u8 0,.int .u8 0,.int .u8 0,.int .u8 0]),(23,#[.int .u8 0,.int .u8 0,.int .u8 0,.int .u8 0,.int .u8 0,.int .u8 0,.int .u8 0,.int .u8 0,.int .u8 0,.int .u8 0,.int .u8 0,.int .u8 0,.int .u8 0,.int .u8 0,.int .u8 0,.int .u8 0,.int .u8 0,.int .u8 0,.int .u8 0,.int .u8 0,.int .u8 0,.int .u8 0,.int .u8 0,.int .u8 0,.int .u8 0,.int .u8 0,.int .u8 0,.int .u8 0,.int .u8 0,.int .u8 0,.int .u8 0,.int .u8 0])] 8 (by kernel_rfl) rfl (by kernel_rfl) (by intro c a d v w h;cases d<;>exact h) ((Below.refl _ _).drew) ?_
 simp only[pick,List.getElem?_cons_succ,List.getElem?_cons_zero,List.drop_succ_cons,List.drop_zero]
 refine Zac (Zaa rfl) (by intro K o d hK;go_simp;exact hK _ (Below.refl _ _)) ?_
 refine Zac (Zaa rfl) (by intro K o d hK;go_simp;exact hK _ (Below.refl _ _)) ?_
 refine Zai (v:=kv aa) (Zaa rfl) (by intro K o d hK;go_simp;refine(Zck sa sa aa lsa lsa Haa.out _).mono ?_;rintro e w' ⟨rfl,hbw⟩;exact⟨_,rfl,hK _ hbw⟩) ?_
 refine Zac (Zaa rfl) (by intro K o d hK;go_simp;exact hK _ (Below.refl _ _)) ?_
 refine Zac (Zaa rfl) (by intro K o d hK;go_simp;exact hK _ (Below.refl _ _)) ?_
 refine Zai (v:=kv bb) (Zaa rfl) (by intro K o d hK;go_simp;refine(Zck df df bb ldf ldf Hbb.out _).mono ?_;rintro e w' ⟨rfl,hbw⟩;exact⟨_,rfl,hK _ hbw⟩) ?_
 refine Zan ?_
 refine⟨Zba _ rfl rfl,fun g4x0 hg4x0 hn4x0=>?_⟩
 refine⟨Zba _ rfl rfl,fun g4x1 hg4x1 hn4x1=>?_⟩
 simp at hn4x1
 intro w4 hb4 hblk4
 have A4x0:=Z2x0.out.grow hb4
 have c4x0:=Z2x0.out.2.2
 have A4x1:=Z2x1.out.grow hb4
 have c4x1:=Z2x1.out.2.2
 have A4x2:=Z2x2.out.grow hb4
 have c4x2:=Z2x2.out.2.2
 have A4x3:=Z2x3.out.grow hb4
 have c4x3:=Z2x3.out.2.2
 have A4x4:=Z2x4.out.grow hb4
 have c4x4:=Z2x4.out.2.2
 have N4x0:=RowAt.of (hblk4 0 g4x0 _ _ rfl rfl)
 have N4x1:=RowAt.of (hblk4 1 g4x1 _ _ rfl rfl)
 have B4x0:=HB2.out.trans (hb4.mono HB2.out.size)
 have s4:=HB2.out.size
 have le4x0:w.heap.size≤g4x0:=by omega
 have le4x1:w.heap.size≤g4x1:=by omega
 have ne4x0x0:¬w.heap.size=g4x0:=by omega
 have nf4x0x0:¬g4x0=w.heap.size:=by omega
 have ne4x0x1:¬w.heap.size=g4x1:=by omega
 have nf4x0x1:¬g4x1=w.heap.size:=by omega
 have ne4x1x0:¬w.heap.size+1=g4x0:=by omega
 have nf4x1x0:¬g4x0=w.heap.size+1:=by omega
 have ne4x1x1:¬w.heap.size+1=g4x1:=by omega
 have nf4x1x1:¬g4x1=w.heap.size+1:=by omega
 have ne4x2x0:¬w.heap.size+1+1=g4x0:=by omega
 have nf4x2x0:¬g4x0=w.heap.size+1+1:=by omega
 have ne4x2x1:¬w.heap.size+1+1=g4x1:=by omega
 have nf4x2x1:¬g4x1=w.heap.size+1+1:=by omega
 have ne4x3x0:¬g2x0=g4x0:=by omega
 have nf4x3x0:¬g4x0=g2x0:=by omega
 have ne4x3x1:¬g2x0=g4x1:=by omega
 have nf4x3x1:¬g4x1=g2x0:=by omega
 have ne4x4x0:¬g2x1=g4x0:=by omega
 have nf4x4x0:¬g4x0=g2x1:=by omega
 have ne4x4x1:¬g2x1=g4x1:=by omega
 have nf4x4x1:¬g4x1=g2x1:=by omega
 have ne4x5x1:¬g4x0=g4x1:=by omega
 have ne4x6x0:¬g4x1=g4x0:=by omega
 have P4x0x0:=A4x0.other (show w.heap.size≠g4x0 by omega) (keyA aa)
 have P4x0x1:=A4x1.other (show w.heap.size+1≠g4x0 by omega) (keyA aa)
 have P4x0x2:=A4x2.other (show w.heap.size+1+1≠g4x0 by omega) (keyA aa)
 have P4x0x3:=A4x3.other (show g2x0≠g4x0 by omega) (keyA aa)
 have P4x0x4:=A4x4.other (show g2x1≠g4x0 by omega) (keyA aa)
 have P4x0x5:=N4x0.set (keyA aa)
 have P4x0x6:=N4x1.other (show g4x1≠g4x0 by omega) (keyA aa)
 have B4x1:=Zad B4x0 (show w.heap.size≤g4x0 by omega) (keyA aa)
 have P4x1x0:=P4x0x0.other (show w.heap.size≠g4x1 by omega) (keyA bb)
 have P4x1x1:=P4x0x1.other (show w.heap.size+1≠g4x1 by omega) (keyA bb)
 have P4x1x2:=P4x0x2.other (show w.heap.size+1+1≠g4x1 by omega) (keyA bb)
 have P4x1x3:=P4x0x3.other (show g2x0≠g4x1 by omega) (keyA bb)
 have P4x1x4:=P4x0x4.other (show g2x1≠g4x1 by omega) (keyA bb)
 have P4x1x5:=P4x0x5.other (show g4x0≠g4x1 by omega) (keyA bb)
 have P4x1x6:=P4x0x6.set (keyA bb)
 have B4x2:=Zad B4x1 (show w.heap.size≤g4x1 by omega) (keyA bb)
 have Z4x0:=Zq P4x1x0
 have Z4x1:=Zq P4x1x1
 have Z4x2:=Zq P4x1x2
 have Z4x3:=Zq P4x1x3
 have Z4x4:=Zq P4x1x4
 have Z4x5:=Zq P4x1x5
 have Z4x6:=Zq P4x1x6
 have HB4:=Zq B4x2
 clear hb4 hblk4 HB2 s4 Z2x0a Z2x0b Z2x0c Z2x1a Z2x1b Z2x1c Z2x2a Z2x2b Z2x2c Z2x3a Z2x3b Z2x3c Z2x4a Z2x4b Z2x4c Z2x0 Z2x1 Z2x2 Z2x3 Z2x4 c4x0 c4x1 c4x2 c4x3 c4x4 B4x0 B4x1 B4x2 P4x0x0 P4x0x1 P4x0x2 P4x0x3 P4x0x4 P4x0x5 P4x0x6 P4x1x0 P4x1x1 P4x1x2 P4x1x3 P4x1x4 P4x1x5 P4x1x6 hg4x0 hg4x1 hn4x0 hn4x1
 obtain⟨A4x0a,A4x0b,A4x0c⟩:=A4x0
 obtain⟨A4x1a,A4x1b,A4x1c⟩:=A4x1
 obtain⟨A4x2a,A4x2b,A4x2c⟩:=A4x2
 obtain⟨A4x3a,A4x3b,A4x3c⟩:=A4x3
 obtain⟨A4x4a,A4x4b,A4x4c⟩:=A4x4
 obtain⟨N4x0a,N4x0b,N4x0c⟩:=N4x0
 obtain⟨N4x1a,N4x1b,N4x1c⟩:=N4x1
 go_wp2_with fail
 clear A4x0a A4x0b A4x0c A4x1a A4x1b A4x1c A4x2a A4x2b A4x2c A4x3a A4x3b A4x3c A4x4a A4x4b A4x4c N4x0a N4x0b N4x0c N4x1a N4x1b N4x1c
 generalize World.setRow _ _ _=W5 at *
 obtain⟨Z4x0a,Z4x0b,Z4x0c⟩:=Z4x0.out
 obtain⟨Z4x1a,Z4x1b,Z4x1c⟩:=Z4x1.out
 obtain⟨Z4x2a,Z4x2b,Z4x2c⟩:=Z4x2.out
 obtain⟨Z4x3a,Z4x3b,Z4x3c⟩:=Z4x3.out
 obtain⟨Z4x4a,Z4x4b,Z4x4c⟩:=Z4x4.out
 obtain⟨Z4x5a,Z4x5b,Z4x5c⟩:=Z4x5.out
 obtain⟨Z4x6a,Z4x6b,Z4x6c⟩:=Z4x6.out
 refine(Zh8 aa bb ee laa lbb Hee.out _).mono ?_
 rintro e w' ⟨rfl,hbw⟩
 obtain⟨oc1,nc1,rfl⟩:=Zaf hbw
 clear hbw
 have lt1x0:w.heap.size<W5.heap.size+oc1.size:=by omega
 have lt1x1:w.heap.size+1<W5.heap.size+oc1.size:=by omega
 have lt1x2:w.heap.size+1+1<W5.heap.size+oc1.size:=by omega
 have lt1x3:g2x0<W5.heap.size+oc1.size:=by omega
 have lt1x4:g2x1<W5.heap.size+oc1.size:=by omega
 have lt1x5:g4x0<W5.heap.size+oc1.size:=by omega
 have lt1x6:g4x1<W5.heap.size+oc1.size:=by omega
 go_wp2_with fail
 generalize hW:World.alloc _ _=W6
 have R6x0:=Zq (show RowAt W6 (w.heap.size) (ZaD x z) by rw[←hW];clear hW;exact⟨by go_simp,by go_simp,by go_simp⟩)
 have R6x1:=Zq (show RowAt W6 (w.heap.size+1) (keyA 121665) by rw[←hW];clear hW;exact⟨by go_simp,by go_simp,by go_simp⟩)
 have R6x2:=Zq (show RowAt W6 (w.heap.size+1+1) (#[.int .u8 0,.int .u8 0,.int .u8 0,.int .u8 0,.int .u8 0,.int .u8 0,.int .u8 0,.int .u8 0,.int .u8 0,.int .u8 0,.int .u8 0,.int .u8 0,.int .u8 0,.int .u8 0,.int .u8 0,.int .u8 0,.int .u8 0,.int .u8 0,.int .u8 0,.int .u8 0,.int .u8 0,.int .u8 0,.int .u8 0,.int .u8 0,.int .u8 0,.int .u8 0,.int .u8 0,.int .u8 0,.int .u8 0,.int .u8 0,.int .u8 0,.int .u8 0,.int .u8 0,.int .u8 0,.int .u8 0,.int .u8 0,.int .u8 0,.int .u8 0,.int .u8 0,.int .u8 0,.int .u8 0,.int .u8 0,.int .u8 0,.int .u8 0,.int .u8 0,.int .u8 0,.int .u8 0,.int .u8 0,.int .u8 0,.int .u8 0,.int .u8 0,.int .u8 0,.int .u8 0,.int .u8 0,.int .u8 0,.int .u8 0,.int .u8 0,.int .u8 0,.int .u8 0,.int .u8 0,.int .u8 0,.int .u8 0,.int .u8 0,.int .u8 0]) by rw[←hW];clear hW;exact⟨by go_simp,by go_simp,by go_simp⟩)
 have R6x3:=Zq (show RowAt W6 (g2x0) (keyA sa) by rw[←hW];clear hW;exact⟨by go_simp,by go_simp,by go_simp⟩)
 have R6x4:=Zq (show RowAt W6 (g2x1) (keyA df) by rw[←hW];clear hW;exact⟨by go_simp,by go_simp,by go_simp⟩)
 have R6x5:=Zq (show RowAt W6 (g4x0) (keyA aa) by rw[←hW];clear hW;exact⟨by go_simp,by go_simp,by go_simp⟩)
 have R6x6:=Zq (show RowAt W6 (g4x1) (keyA bb) by rw[←hW];clear hW;exact⟨by go_simp,by go_simp,by go_simp⟩)
 have R6x7:=Zq (show RowAt W6 (W5.heap.size+oc1.size) (keyA ee) by rw[←hW];clear hW;exact⟨by go_simp,by go_simp,by go_simp⟩)
 have HB6:=Zq (show Below w.heap.size w W6 by rw[←hW];repeat (first | apply Zag | apply Zab | apply Below.drew | refine Zad ?_ (by omega) _ | exact HB4.out))
 clear hW
 have lz6x0:w.heap.size≤W5.heap.size+oc1.size:=by have:=HB4.out.size;omega
 have nz6x0x0:¬w.heap.size=W5.heap.size+oc1.size:=by omega
 have ny6x0x0:¬W5.heap.size+oc1.size=w.heap.size:=by omega
 have nz6x0x1:¬w.heap.size+1=W5.heap.size+oc1.size:=by omega
 have ny6x0x1:¬W5.heap.size+oc1.size=w.heap.size+1:=by omega
 have nz6x0x2:¬w.heap.size+1+1=W5.heap.size+oc1.size:=by omega
 have ny6x0x2:¬W5.heap.size+oc1.size=w.heap.size+1+1:=by omega
 have nz6x0x3:¬g2x0=W5.heap.size+oc1.size:=by omega
 have ny6x0x3:¬W5.heap.size+oc1.size=g2x0:=by omega
 have nz6x0x4:¬g2x1=W5.heap.size+oc1.size:=by omega
 have ny6x0x4:¬W5.heap.size+oc1.size=g2x1:=by omega
 have nz6x0x5:¬g4x0=W5.heap.size+oc1.size:=by omega
 have ny6x0x5:¬W5.heap.size+oc1.size=g4x0:=by omega
 have nz6x0x6:¬g4x1=W5.heap.size+oc1.size:=by omega
 have ny6x0x6:¬W5.heap.size+oc1.size=g4x1:=by omega
 clear Z4x0a Z4x0b Z4x0c Z4x1a Z4x1b Z4x1c Z4x2a Z4x2b Z4x2c Z4x3a Z4x3b Z4x3c Z4x4a Z4x4b Z4x4c Z4x5a Z4x5b Z4x5c Z4x6a Z4x6b Z4x6c Z4x0 Z4x1 Z4x2 Z4x3 Z4x4 Z4x5 Z4x6 HB4
 generalize W5.heap.size+oc1.size=ge at *
 obtain⟨R6x0a,R6x0b,R6x0c⟩:=R6x0.out
 obtain⟨R6x1a,R6x1b,R6x1c⟩:=R6x1.out
 obtain⟨R6x2a,R6x2b,R6x2c⟩:=R6x2.out
 obtain⟨R6x3a,R6x3b,R6x3c⟩:=R6x3.out
 obtain⟨R6x4a,R6x4b,R6x4c⟩:=R6x4.out
 obtain⟨R6x5a,R6x5b,R6x5c⟩:=R6x5.out
 obtain⟨R6x6a,R6x6b,R6x6c⟩:=R6x6.out
 obtain⟨R6x7a,R6x7b,R6x7c⟩:=R6x7.out
 refine Zal W6 [0,1,2,3,4,5,6,7,8,9,10] [false,false,false,false,false,false,false,false,false,false,false] [] [] 11 (by kernel_rfl) rfl (by kernel_rfl) (by intro c a d v w h;cases d<;>exact h) ((Below.refl _ _).drew) ?_
 simp only[pick,List.getElem?_cons_succ,List.getElem?_cons_zero,List.drop_succ_cons,List.drop_zero]
 refine Zac (Zaa rfl) (by intro K o d hK;go_simp;exact hK _ (Below.refl _ _)) ?_
 refine Zac (Zaa rfl) (by intro K o d hK;go_simp;exact hK _ (Below.refl _ _)) ?_
 refine Zai (v:=kv X) (Zaa rfl) (by intro K o d hK;go_simp;refine(Zck aa bb X laa lbb HX.out _).mono ?_;rintro e w' ⟨rfl,hbw⟩;exact⟨_,rfl,hK _ hbw⟩) ?_
 refine Zac (Zaa rfl) (by intro K o d hK;go_simp;exact hK _ (Below.refl _ _)) ?_
 refine Zac (Zaa rfl) (by intro K o d hK;go_simp;exact hK _ (Below.refl _ _)) ?_
 refine Zac (Zaa rfl) (by intro K o d hK;go_simp;exact hK _ (Below.refl _ _)) ?_
 refine Zac (Zaa rfl) (by intro K o d hK;go_simp;exact hK _ (Below.refl _ _)) ?_
 refine Zai (v:=kv k) (Zaa rfl) (by intro K o d hK;go_simp;refine(Zck 121665 ee k (by decide) lee Hk.out _).mono ?_;rintro e w' ⟨rfl,hbw⟩;exact⟨_,rfl,hK _ hbw⟩) ?_
 refine Zai (v:=kv t) (Zaa rfl) (by intro K o d hK;go_simp;refine(ZiA aa k t laa lk Ht.out _).mono ?_;rintro e w' ⟨rfl,hbw⟩;exact⟨_,rfl,hK _ hbw⟩) ?_
 refine Zai (v:=kv Z) (Zaa rfl) (by intro K o d hK;go_simp;refine(Zck ee t Z lee lt HZ.out _).mono ?_;rintro e w' ⟨rfl,hbw⟩;exact⟨_,rfl,hK _ hbw⟩) ?_
 refine Zac (Zaa rfl) (by intro K o d hK;go_simp;exact hK _ (Below.refl _ _)) ?_
 refine Zan ?_
 intro w7 hb7 hblk7
 have A7x0:=R6x0.out.grow hb7
 have c7x0:=R6x0.out.2.2
 have A7x1:=R6x1.out.grow hb7
 have c7x1:=R6x1.out.2.2
 have A7x2:=R6x2.out.grow hb7
 have c7x2:=R6x2.out.2.2
 have A7x3:=R6x3.out.grow hb7
 have c7x3:=R6x3.out.2.2
 have A7x4:=R6x4.out.grow hb7
 have c7x4:=R6x4.out.2.2
 have A7x5:=R6x5.out.grow hb7
 have c7x5:=R6x5.out.2.2
 have A7x6:=R6x6.out.grow hb7
 have c7x6:=R6x6.out.2.2
 have A7x7:=R6x7.out.grow hb7
 have c7x7:=R6x7.out.2.2
 have B7x0:=HB6.out.trans (hb7.mono HB6.out.size)
 have s7:=HB6.out.size
 have P7x0x0:=A7x0.other (show w.heap.size≠w.heap.size+1+1 by omega) (ZaD X Z)
 have P7x0x1:=A7x1.other (show w.heap.size+1≠w.heap.size+1+1 by omega) (ZaD X Z)
 have P7x0x2:=A7x2.set (ZaD X Z)
 have P7x0x3:=A7x3.other (show g2x0≠w.heap.size+1+1 by omega) (ZaD X Z)
 have P7x0x4:=A7x4.other (show g2x1≠w.heap.size+1+1 by omega) (ZaD X Z)
 have P7x0x5:=A7x5.other (show g4x0≠w.heap.size+1+1 by omega) (ZaD X Z)
 have P7x0x6:=A7x6.other (show g4x1≠w.heap.size+1+1 by omega) (ZaD X Z)
 have P7x0x7:=A7x7.other (show ge≠w.heap.size+1+1 by omega) (ZaD X Z)
 have B7x1:=Zad B7x0 (show w.heap.size≤w.heap.size+1+1 by omega) (ZaD X Z)
 have Z7x0:=Zq P7x0x0
 have Z7x1:=Zq P7x0x1
 have Z7x2:=Zq P7x0x2
 have Z7x3:=Zq P7x0x3
 have Z7x4:=Zq P7x0x4
 have Z7x5:=Zq P7x0x5
 have Z7x6:=Zq P7x0x6
 have Z7x7:=Zq P7x0x7
 have HB7:=Zq B7x1
 clear hb7 hblk7 HB6 s7 R6x0a R6x0b R6x0c R6x1a R6x1b R6x1c R6x2a R6x2b R6x2c R6x3a R6x3b R6x3c R6x4a R6x4b R6x4c R6x5a R6x5b R6x5c R6x6a R6x6b R6x6c R6x7a R6x7b R6x7c R6x0 R6x1 R6x2 R6x3 R6x4 R6x5 R6x6 R6x7 c7x0 c7x1 c7x2 c7x3 c7x4 c7x5 c7x6 c7x7 B7x0 B7x1 P7x0x0 P7x0x1 P7x0x2 P7x0x3 P7x0x4 P7x0x5 P7x0x6 P7x0x7
 obtain⟨A7x0a,A7x0b,A7x0c⟩:=A7x0
 obtain⟨A7x1a,A7x1b,A7x1c⟩:=A7x1
 obtain⟨A7x2a,A7x2b,A7x2c⟩:=A7x2
 obtain⟨A7x3a,A7x3b,A7x3c⟩:=A7x3
 obtain⟨A7x4a,A7x4b,A7x4c⟩:=A7x4
 obtain⟨A7x5a,A7x5b,A7x5c⟩:=A7x5
 obtain⟨A7x6a,A7x6b,A7x6c⟩:=A7x6
 obtain⟨A7x7a,A7x7b,A7x7c⟩:=A7x7
 go_wp2_with fail
 clear A7x0a A7x0b A7x0c A7x1a A7x1b A7x1c A7x2a A7x2b A7x2c A7x3a A7x3b A7x3c A7x4a A7x4b A7x4c A7x5a A7x5b A7x5c A7x6a A7x6b A7x6c A7x7a A7x7b A7x7c
 generalize World.setRow _ _ _=W8 at *
 obtain⟨Z7x0a,Z7x0b,Z7x0c⟩:=Z7x0.out
 obtain⟨Z7x1a,Z7x1b,Z7x1c⟩:=Z7x1.out
 obtain⟨Z7x2a,Z7x2b,Z7x2c⟩:=Z7x2.out
 obtain⟨Z7x3a,Z7x3b,Z7x3c⟩:=Z7x3.out
 obtain⟨Z7x4a,Z7x4b,Z7x4c⟩:=Z7x4.out
 obtain⟨Z7x5a,Z7x5b,Z7x5c⟩:=Z7x5.out
 obtain⟨Z7x6a,Z7x6b,Z7x6c⟩:=Z7x6.out
 obtain⟨Z7x7a,Z7x7b,Z7x7c⟩:=Z7x7.out
 refine bodyPost_ret (v:=fv X Z) (ZeI Tryz.results105 _ _ _ rfl (by go_simp) (by go_simp)) rfl ⟨rfl,HB7.out⟩
theorem Zvl (x z x3 z3 x1:Nat) (hx:x<115792089237316195423570985008687907853269984665640564039457584007913129639936) (hz:z<115792089237316195423570985008687907853269984665640564039457584007913129639936) (hx3:x3<115792089237316195423570985008687907853269984665640564039457584007913129639936) (hz3:z3<115792089237316195423570985008687907853269984665640564039457584007913129639936) (hx1:x1<115792089237316195423570985008687907853269984665640564039457584007913129639936) (w:World) :
  Calls Tryz.prog 104 #[fv x z,fv x3 z3,kv x1] w fun e w'=>e=.returned (fv (Cv.nsm x1 (x,z) (x3,z3)).1 (Cv.nsm x1 (x,z) (x3,z3)).2)∧Below w.heap.size w w':=by
 show Calls Tryz.prog 104 #[fv x z,fv x3 z3,kv x1] w fun e w'=>e=.returned (fv (Cv.nmul (Cv.nadd (Cv.nmul (Cv.nsub x3 z3) (Cv.nadd x z)) (Cv.nmul (Cv.nadd x3 z3) (Cv.nsub x z))) (Cv.nadd (Cv.nmul (Cv.nsub x3 z3) (Cv.nadd x z)) (Cv.nmul (Cv.nadd x3 z3) (Cv.nsub x z))))
  (Cv.nmul x1 (Cv.nmul (Cv.nsub (Cv.nmul (Cv.nsub x3 z3) (Cv.nadd x z)) (Cv.nmul (Cv.nadd x3 z3) (Cv.nsub x z))) (Cv.nsub (Cv.nmul (Cv.nsub x3 z3) (Cv.nadd x z)) (Cv.nmul (Cv.nadd x3 z3) (Cv.nsub x z))))))∧Below w.heap.size w w'
 obtain⟨ap,eap⟩:∃y,y=Cv.nadd x z:=⟨_,rfl⟩
 have lap:ap<115792089237316195423570985008687907853269984665640564039457584007913129639936:=by rw[eap];exact(Nat.lt_trans (Cv.nadd_lt _ _) P_lt)
 have Hap:=Zq eap.symm
 obtain⟨am,eam⟩:∃y,y=Cv.nsub x z:=⟨_,rfl⟩
 have lam:am<115792089237316195423570985008687907853269984665640564039457584007913129639936:=by rw[eam];exact(Nat.lt_trans (Cv.nsub_lt _ _) P_lt)
 have Ham:=Zq eam.symm
 obtain⟨bp,ebp⟩:∃y,y=Cv.nadd x3 z3:=⟨_,rfl⟩
 have lbp:bp<115792089237316195423570985008687907853269984665640564039457584007913129639936:=by rw[ebp];exact(Nat.lt_trans (Cv.nadd_lt _ _) P_lt)
 have Hbp:=Zq ebp.symm
 obtain⟨bm,ebm⟩:∃y,y=Cv.nsub x3 z3:=⟨_,rfl⟩
 have lbm:bm<115792089237316195423570985008687907853269984665640564039457584007913129639936:=by rw[ebm];exact(Nat.lt_trans (Cv.nsub_lt _ _) P_lt)
 have Hbm:=Zq ebm.symm
 obtain⟨dd,edd⟩:∃y,y=Cv.nmul bm ap:=⟨_,rfl⟩
 have ldd:dd<115792089237316195423570985008687907853269984665640564039457584007913129639936:=by rw[edd];exact(Nat.lt_trans (Cv.nmul_lt _ _) P_lt)
 have Hdd:=Zq edd.symm
 obtain⟨cc,ecc⟩:∃y,y=Cv.nmul bp am:=⟨_,rfl⟩
 have lcc:cc<115792089237316195423570985008687907853269984665640564039457584007913129639936:=by rw[ecc];exact(Nat.lt_trans (Cv.nmul_lt _ _) P_lt)
 have Hcc:=Zq ecc.symm
 obtain⟨sa,esa⟩:∃y,y=Cv.nadd dd cc:=⟨_,rfl⟩
 have lsa:sa<115792089237316195423570985008687907853269984665640564039457584007913129639936:=by rw[esa];exact(Nat.lt_trans (Cv.nadd_lt _ _) P_lt)
 have Hsa:=Zq esa.symm
 obtain⟨t,et⟩:∃y,y=Cv.nsub dd cc:=⟨_,rfl⟩
 have lt:t<115792089237316195423570985008687907853269984665640564039457584007913129639936:=by rw[et];exact(Nat.lt_trans (Cv.nsub_lt _ _) P_lt)
 have Ht:=Zq et.symm
 obtain⟨X,eX⟩:∃y,y=Cv.nmul sa sa:=⟨_,rfl⟩
 have lX:X<115792089237316195423570985008687907853269984665640564039457584007913129639936:=by rw[eX];exact(Nat.lt_trans (Cv.nmul_lt _ _) P_lt)
 have HX:=Zq eX.symm
 obtain⟨tt,ett⟩:∃y,y=Cv.nmul t t:=⟨_,rfl⟩
 have ltt:tt<115792089237316195423570985008687907853269984665640564039457584007913129639936:=by rw[ett];exact(Nat.lt_trans (Cv.nmul_lt _ _) P_lt)
 have Htt:=Zq ett.symm
 obtain⟨Z,eZ⟩:∃y,y=Cv.nmul x1 tt:=⟨_,rfl⟩
 have lZ:Z<115792089237316195423570985008687907853269984665640564039457584007913129639936:=by rw[eZ];exact(Nat.lt_trans (Cv.nmul_lt _ _) P_lt)
 have HZ:=Zq eZ.symm
 rw[←eap,←eam,←ebp,←ebm,←edd,←ecc,←esa,←et,←eX,←ett,←eZ]
 clear eap eam ebp ebm edd ecc esa et eX ett eZ
 go_enter Tryz.func104,Tryz.ntmps104
 go_wp2_with fail
 generalize hW:World.alloc _ _=W1
 have R1x0:=Zq (show RowAt W1 (w.heap.size) (ZaD x z) by rw[←hW];clear hW;exact⟨by go_simp,by go_simp,by go_simp⟩)
 have R1x1:=Zq (show RowAt W1 (w.heap.size+1) (ZaD x3 z3) by rw[←hW];clear hW;exact⟨by go_simp,by go_simp,by go_simp⟩)
 have R1x2:=Zq (show RowAt W1 (w.heap.size+1+1) (keyA x1) by rw[←hW];clear hW;exact⟨by go_simp,by go_simp,by go_simp⟩)
 have R1x3:=Zq (show RowAt W1 (w.heap.size+1+1+1) (#[.int .u8 0,.int .u8 0,.int .u8 0,.int .u8 0,.int .u8 0,.int .u8 0,.int .u8 0,.int .u8 0,.int .u8 0,.int .u8 0,.int .u8 0,.int .u8 0,.int .u8 0,.int .u8 0,.int .u8 0,.int .u8 0,.int .u8 0,.int .u8 0,.int .u8 0,.int .u8 0,.int .u8 0,.int .u8 0,.int .u8 0,.int .u8 0,.int .u8 0,.int .u8 0,.int .u8 0,.int .u8 0,.int .u8 0,.int .u8 0,.int .u8 0,.int .u8 0,.int .u8 0,.int .u8 0,.int .u8 0,.int .u8 0,.int .u8 0,.int .u8 0,.int .u8 0,.int .u8 0,.int .u8 0,.int .u8 0,.int .u8 0,.int .u8 0,.int .u8 0,.int .u8 0,.int .u8 0,.int .u8 0,.int .u8 0,.int .u8 0,.int .u8 0,.int .u8 0,.int .u8 0,.int .u8 0,.int .u8 0,.int .u8 0,.int .u8 0,.int .u8 0,.int .u8 0,.int .u8 0,.int .u8 0,.int .u8 0,.int .u8 0,.int .u8 0]) by rw[←hW];clear hW;exact⟨by go_simp,by go_simp,by go_simp⟩)
 have HB1:=Zq (show Below w.heap.size w W1 by rw[←hW];repeat (first | apply Zag | apply Zab | apply Below.drew | refine Zad ?_ (by omega) _ | exact Below.refl _ _))
 clear hW
 obtain⟨R1x0a,R1x0b,R1x0c⟩:=R1x0.out
 obtain⟨R1x1a,R1x1b,R1x1c⟩:=R1x1.out
 obtain⟨R1x2a,R1x2b,R1x2c⟩:=R1x2.out
 obtain⟨R1x3a,R1x3b,R1x3c⟩:=R1x3.out
 refine Zal W1 [0,1,2,3,4,5,6,7,8,9] [false,false,false,false,false,false,false,false,false,false] [10,11] [(23,#[.int .u8 0,.int .u8 0,.int .u8 0,.int .u8 0,.int .u8 0,.int .u8 0,.int .u8 0,.int .u8 0,.int .u8 0,.int .u8 0,.int .u8 0,.int .u8 0,.int .u8 0,.int .u8 0,.int .u8 0,.int .u8 0,.int .u8 0,.int .u8 0,.int .u8 0,.int .u8 0,.int .u8 0,.int .u8 0,.int .u8 0,.int .u8 0,.int .u8 0,.int .u8 0,.int .u8 0,.int .u8 0,.int .u8 0,.int .u8 0,.int .u8 0,.int .u8 0]),(23,#[.int .u8 0,.int .u8 0,.int .u8 0,.int .u8 0,.int .u8 0,.int .u8 0,.int .u8 0,.int .u8 0,.int .u8 0,.int .u8 0,.int .u8 0,.int .u8 0,.int .u8 0,.int .u8 0,.int .u8 0,.int .u8 0,.int .u8 0,.int .u8 0,.int .u8 0,.int .u8 0,.int .u8 0,.int .u8 0,.int .u8 0,.int .u8 0,.int .u8 0,.int .u8 0,.int .u8 0,.int .u8 0,.int .u8 0,.int .u8 0,.int .u8 0,.int .u8 0])] 12 (by kernel_rfl) rfl (by kernel_rfl) (by intro c a d v w h;cases d<;>exact h) ((Below.refl _ _).drew) ?_
 simp only[pick,List.getElem?_cons_succ,List.getElem?_cons_zero,List.drop_succ_cons,List.drop_zero]
 refine Zac (Zaa rfl) (by intro K o d hK;go_simp;exact hK _ (Below.refl _ _)) ?_
 refine Zac (Zaa rfl) (by intro K o d hK;go_simp;exact hK _ (Below.refl _ _)) ?_
 refine Zac (Zaa rfl) (by intro K o d hK;go_simp;exact hK _ (Below.refl _ _)) ?_
 refine Zac (Zaa rfl) (by intro K o d hK;go_simp;exact hK _ (Below.refl _ _)) ?_
 refine Zai (v:=kv ap) (Zaa rfl) (by intro K o d hK;go_simp;refine(ZiA x z ap hx hz Hap.out _).mono ?_;rintro e w' ⟨rfl,hbw⟩;exact⟨_,rfl,hK _ hbw⟩) ?_
 refine Zac (Zaa rfl) (by intro K o d hK;go_simp;exact hK _ (Below.refl _ _)) ?_
 refine Zac (Zaa rfl) (by intro K o d hK;go_simp;exact hK _ (Below.refl _ _)) ?_
 refine Zac (Zaa rfl) (by intro K o d hK;go_simp;exact hK _ (Below.refl _ _)) ?_
 refine Zac (Zaa rfl) (by intro K o d hK;go_simp;exact hK _ (Below.refl _ _)) ?_
 refine Zai (v:=kv am) (Zaa rfl) (by intro K o d hK;go_simp;refine(Zh8 x z am hx hz Ham.out _).mono ?_;rintro e w' ⟨rfl,hbw⟩;exact⟨_,rfl,hK _ hbw⟩) ?_
 refine Zan ?_
 refine⟨Zba _ rfl rfl,fun g2x0 hg2x0 hn2x0=>?_⟩
 refine⟨Zba _ rfl rfl,fun g2x1 hg2x1 hn2x1=>?_⟩
 simp at hn2x1
 intro w2 hb2 hblk2
 have A2x0:=R1x0.out.grow hb2
 have c2x0:=R1x0.out.2.2
 have A2x1:=R1x1.out.grow hb2
 have c2x1:=R1x1.out.2.2
 have A2x2:=R1x2.out.grow hb2
 have c2x2:=R1x2.out.2.2
 have A2x3:=R1x3.out.grow hb2
 have c2x3:=R1x3.out.2.2
 have N2x0:=RowAt.of (hblk2 0 g2x0 _ _ rfl rfl)
 have N2x1:=RowAt.of (hblk2 1 g2x1 _ _ rfl rfl)
 have B2x0:=HB1.out.trans (hb2.mono HB1.out.size)
 have s2:=HB1.out.size
 have le2x0:w.heap.size≤g2x0:=by omega
 have le2x1:w.heap.size≤g2x1:=by omega
 have ne2x0x0:¬w.heap.size=g2x0:=by omega
 have nf2x0x0:¬g2x0=w.heap.size:=by omega
 have ne2x0x1:¬w.heap.size=g2x1:=by omega
 have nf2x0x1:¬g2x1=w.heap.size:=by omega
 have ne2x1x0:¬w.heap.size+1=g2x0:=by omega
 have nf2x1x0:¬g2x0=w.heap.size+1:=by omega
 have ne2x1x1:¬w.heap.size+1=g2x1:=by omega
 have nf2x1x1:¬g2x1=w.heap.size+1:=by omega
 have ne2x2x0:¬w.heap.size+1+1=g2x0:=by omega
 have nf2x2x0:¬g2x0=w.heap.size+1+1:=by omega
 have ne2x2x1:¬w.heap.size+1+1=g2x1:=by omega
 have nf2x2x1:¬g2x1=w.heap.size+1+1:=by omega
 have ne2x3x0:¬w.heap.size+1+1+1=g2x0:=by omega
 have nf2x3x0:¬g2x0=w.heap.size+1+1+1:=by omega
 have ne2x3x1:¬w.heap.size+1+1+1=g2x1:=by omega
 have nf2x3x1:¬g2x1=w.heap.size+1+1+1:=by omega
 have ne2x4x1:¬g2x0=g2x1:=by omega
 have ne2x5x0:¬g2x1=g2x0:=by omega
 have P2x0x0:=A2x0.other (show w.heap.size≠g2x0 by omega) (keyA ap)
 have P2x0x1:=A2x1.other (show w.heap.size+1≠g2x0 by omega) (keyA ap)
 have P2x0x2:=A2x2.other (show w.heap.size+1+1≠g2x0 by omega) (keyA ap)
 have P2x0x3:=A2x3.other (show w.heap.size+1+1+1≠g2x0 by omega) (keyA ap)
 have P2x0x4:=N2x0.set (keyA ap)
 have P2x0x5:=N2x1.other (show g2x1≠g2x0 by omega) (keyA ap)
 have B2x1:=Zad B2x0 (show w.heap.size≤g2x0 by omega) (keyA ap)
 have P2x1x0:=P2x0x0.other (show w.heap.size≠g2x1 by omega) (keyA am)
 have P2x1x1:=P2x0x1.other (show w.heap.size+1≠g2x1 by omega) (keyA am)
 have P2x1x2:=P2x0x2.other (show w.heap.size+1+1≠g2x1 by omega) (keyA am)
 have P2x1x3:=P2x0x3.other (show w.heap.size+1+1+1≠g2x1 by omega) (keyA am)
 have P2x1x4:=P2x0x4.other (show g2x0≠g2x1 by omega) (keyA am)
 have P2x1x5:=P2x0x5.set (keyA am)
 have B2x2:=Zad B2x1 (show w.heap.size≤g2x1 by omega) (keyA am)
 have Z2x0:=Zq P2x1x0
 have Z2x1:=Zq P2x1x1
 have Z2x2:=Zq P2x1x2
 have Z2x3:=Zq P2x1x3
 have Z2x4:=Zq P2x1x4
 have Z2x5:=Zq P2x1x5
 have HB2:=Zq B2x2
 clear hb2 hblk2 HB1 s2 R1x0a R1x0b R1x0c R1x1a R1x1b R1x1c R1x2a R1x2b R1x2c R1x3a R1x3b R1x3c R1x0 R1x1 R1x2 R1x3 c2x0 c2x1 c2x2 c2x3 B2x0 B2x1 B2x2 P2x0x0 P2x0x1 P2x0x2 P2x0x3 P2x0x4 P2x0x5 P2x1x0 P2x1x1 P2x1x2 P2x1x3 P2x1x4 P2x1x5 hg2x0 hg2x1 hn2x0 hn2x1
 obtain⟨A2x0a,A2x0b,A2x0c⟩:=A2x0
 obtain⟨A2x1a,A2x1b,A2x1c⟩:=A2x1
 obtain⟨A2x2a,A2x2b,A2x2c⟩:=A2x2
 obtain⟨A2x3a,A2x3b,A2x3c⟩:=A2x3
 obtain⟨N2x0a,N2x0b,N2x0c⟩:=N2x0
 obtain⟨N2x1a,N2x1b,N2x1c⟩:=N2x1
 go_wp2_with fail
 clear A2x0a A2x0b A2x0c A2x1a A2x1b A2x1c A2x2a A2x2b A2x2c A2x3a A2x3b A2x3c N2x0a N2x0b N2x0c N2x1a N2x1b N2x1c
 generalize World.setRow _ _ _=W3 at *
 obtain⟨Z2x0a,Z2x0b,Z2x0c⟩:=Z2x0.out
 obtain⟨Z2x1a,Z2x1b,Z2x1c⟩:=Z2x1.out
 obtain⟨Z2x2a,Z2x2b,Z2x2c⟩:=Z2x2.out
 obtain⟨Z2x3a,Z2x3b,Z2x3c⟩:=Z2x3.out
 obtain⟨Z2x4a,Z2x4b,Z2x4c⟩:=Z2x4.out
 obtain⟨Z2x5a,Z2x5b,Z2x5c⟩:=Z2x5.out
 refine Zal W3 [0,1,2,3,4,5,6,7,8,9] [false,false,false,false,false,false,false,false,false,false] [10,11] [(23,#[.int .u8 0,.int .u8 0,.int .u8 0,.int .u8 0,.int .u8 0,.int .u8 0,.int .u8 0,.int .u8 0,.int .u8 0,.int .u8 0,.int .u8 0,.int .u8 0,.int .u8 0,.int .u8 0,.int .u8 0,.int .u8 0,.int .u8 0,.int .u8 0,.int .u8 0,.int .u8 0,.int .u8 0,.int .u8 0,.int .u8 0,.int .u8 0,.int .u8 0,.int .u8 0,.int .u8 0,.int .u8 0,.int .u8 0,.int .u8 0,.int .u8 0,.int .u8 0]),(23,#[.int .u8 0,.int .u8 0,.int .u8 0,.int .u8 0,.int .u8 0,.int .u8 0,.int .u8 0,.int .u8 0,.int .u8 0,.int .u8 0,.int .u8 0,.int .u8 0,.int .u8 0,.int .u8 0,.int .u8 0,.int .u8 0,.int .u8 0,.int .u8 0,.int .u8 0,.int .u8 0,.int .u8 0,.int .u8 0,.int .u8 0,.int .u8 0,.int .u8 0,.int .u8 0,.int .u8 0,.int .u8 0,.int .u8 0,.int .u8 0,.int .u8 0,.int .u8 0])] 12 (by kernel_rfl) rfl (by kernel_rfl) (by intro c a d v w h;cases d<;>exact h) ((Below.refl _ _).drew) ?_
 simp only[pick,List.getElem?_cons_succ,List.getElem?_cons_zero,List.drop_succ_cons,List.drop_zero]
 refine Zac (Zaa rfl) (by intro K o d hK;go_simp;exact hK _ (Below.refl _ _)) ?_
 refine Zac (Zaa rfl) (by intro K o d hK;go_simp;exact hK _ (Below.refl _ _)) ?_
 refine Zac (Zaa rfl) (by intro K o d hK;go_simp;exact hK _ (Below.refl _ _)) ?_
 refine Zac (Zaa rfl) (by intro K o d hK;go_simp;exact hK _ (Below.refl _ _)) ?_
 refine Zai (v:=kv bp) (Zaa rfl) (by intro K o d hK;go_simp;refine(ZiA x3 z3 bp hx3 hz3 Hbp.out _).mono ?_;rintro e w' ⟨rfl,hbw⟩;exact⟨_,rfl,hK _ hbw⟩) ?_
 refine Zac (Zaa rfl) (by intro K o d hK;go_simp;exact hK _ (Below.refl _ _)) ?_
 refine Zac (Zaa rfl) (by intro K o d hK;go_simp;exact hK _ (Below.refl _ _)) ?_
 refine Zac (Zaa rfl) (by intro K o d hK;go_simp;exact hK _ (Below.refl _ _)) ?_
 refine Zac (Zaa rfl) (by intro K o d hK;go_simp;exact hK _ (Below.refl _ _)) ?_
 refine Zai (v:=kv bm) (Zaa rfl) (by intro K o d hK;go_simp;refine(Zh8 x3 z3 bm hx3 hz3 Hbm.out _).mono ?_;rintro e w' ⟨rfl,hbw⟩;exact⟨_,rfl,hK _ hbw⟩) ?_
 refine Zan ?_
 refine⟨Zba _ rfl rfl,fun g4x0 hg4x0 hn4x0=>?_⟩
 refine⟨Zba _ rfl rfl,fun g4x1 hg4x1 hn4x1=>?_⟩
 simp at hn4x1
 intro w4 hb4 hblk4
 have A4x0:=Z2x0.out.grow hb4
 have c4x0:=Z2x0.out.2.2
 have A4x1:=Z2x1.out.grow hb4
 have c4x1:=Z2x1.out.2.2
 have A4x2:=Z2x2.out.grow hb4
 have c4x2:=Z2x2.out.2.2
 have A4x3:=Z2x3.out.grow hb4
 have c4x3:=Z2x3.out.2.2
 have A4x4:=Z2x4.out.grow hb4
 have c4x4:=Z2x4.out.2.2
 have A4x5:=Z2x5.out.grow hb4
 have c4x5:=Z2x5.out.2.2
 have N4x0:=RowAt.of (hblk4 0 g4x0 _ _ rfl rfl)
 have N4x1:=RowAt.of (hblk4 1 g4x1 _ _ rfl rfl)
 have B4x0:=HB2.out.trans (hb4.mono HB2.out.size)
 have s4:=HB2.out.size
 have le4x0:w.heap.size≤g4x0:=by omega
 have le4x1:w.heap.size≤g4x1:=by omega
 have ne4x0x0:¬w.heap.size=g4x0:=by omega
 have nf4x0x0:¬g4x0=w.heap.size:=by omega
 have ne4x0x1:¬w.heap.size=g4x1:=by omega
 have nf4x0x1:¬g4x1=w.heap.size:=by omega
 have ne4x1x0:¬w.heap.size+1=g4x0:=by omega
 have nf4x1x0:¬g4x0=w.heap.size+1:=by omega
 have ne4x1x1:¬w.heap.size+1=g4x1:=by omega
 have nf4x1x1:¬g4x1=w.heap.size+1:=by omega
 have ne4x2x0:¬w.heap.size+1+1=g4x0:=by omega
 have nf4x2x0:¬g4x0=w.heap.size+1+1:=by omega
 have ne4x2x1:¬w.heap.size+1+1=g4x1:=by omega
 have nf4x2x1:¬g4x1=w.heap.size+1+1:=by omega
 have ne4x3x0:¬w.heap.size+1+1+1=g4x0:=by omega
 have nf4x3x0:¬g4x0=w.heap.size+1+1+1:=by omega
 have ne4x3x1:¬w.heap.size+1+1+1=g4x1:=by omega
 have nf4x3x1:¬g4x1=w.heap.size+1+1+1:=by omega
 have ne4x4x0:¬g2x0=g4x0:=by omega
 have nf4x4x0:¬g4x0=g2x0:=by omega
 have ne4x4x1:¬g2x0=g4x1:=by omega
 have nf4x4x1:¬g4x1=g2x0:=by omega
 have ne4x5x0:¬g2x1=g4x0:=by omega
 have nf4x5x0:¬g4x0=g2x1:=by omega
 have ne4x5x1:¬g2x1=g4x1:=by omega
 have nf4x5x1:¬g4x1=g2x1:=by omega
 have ne4x6x1:¬g4x0=g4x1:=by omega
 have ne4x7x0:¬g4x1=g4x0:=by omega
 have P4x0x0:=A4x0.other (show w.heap.size≠g4x0 by omega) (keyA bp)
 have P4x0x1:=A4x1.other (show w.heap.size+1≠g4x0 by omega) (keyA bp)
 have P4x0x2:=A4x2.other (show w.heap.size+1+1≠g4x0 by omega) (keyA bp)
 have P4x0x3:=A4x3.other (show w.heap.size+1+1+1≠g4x0 by omega) (keyA bp)
 have P4x0x4:=A4x4.other (show g2x0≠g4x0 by omega) (keyA bp)
 have P4x0x5:=A4x5.other (show g2x1≠g4x0 by omega) (keyA bp)
 have P4x0x6:=N4x0.set (keyA bp)
 have P4x0x7:=N4x1.other (show g4x1≠g4x0 by omega) (keyA bp)
 have B4x1:=Zad B4x0 (show w.heap.size≤g4x0 by omega) (keyA bp)
 have P4x1x0:=P4x0x0.other (show w.heap.size≠g4x1 by omega) (keyA bm)
 have P4x1x1:=P4x0x1.other (show w.heap.size+1≠g4x1 by omega) (keyA bm)
 have P4x1x2:=P4x0x2.other (show w.heap.size+1+1≠g4x1 by omega) (keyA bm)
 have P4x1x3:=P4x0x3.other (show w.heap.size+1+1+1≠g4x1 by omega) (keyA bm)
 have P4x1x4:=P4x0x4.other (show g2x0≠g4x1 by omega) (keyA bm)
 have P4x1x5:=P4x0x5.other (show g2x1≠g4x1 by omega) (keyA bm)
 have P4x1x6:=P4x0x6.other (show g4x0≠g4x1 by omega) (keyA bm)
 have P4x1x7:=P4x0x7.set (keyA bm)
 have B4x2:=Zad B4x1 (show w.heap.size≤g4x1 by omega) (keyA bm)
 have Z4x0:=Zq P4x1x0
 have Z4x1:=Zq P4x1x1
 have Z4x2:=Zq P4x1x2
 have Z4x3:=Zq P4x1x3
 have Z4x4:=Zq P4x1x4
 have Z4x5:=Zq P4x1x5
 have Z4x6:=Zq P4x1x6
 have Z4x7:=Zq P4x1x7
 have HB4:=Zq B4x2
 clear hb4 hblk4 HB2 s4 Z2x0a Z2x0b Z2x0c Z2x1a Z2x1b Z2x1c Z2x2a Z2x2b Z2x2c Z2x3a Z2x3b Z2x3c Z2x4a Z2x4b Z2x4c Z2x5a Z2x5b Z2x5c Z2x0 Z2x1 Z2x2 Z2x3 Z2x4 Z2x5 c4x0 c4x1 c4x2 c4x3 c4x4 c4x5 B4x0 B4x1 B4x2 P4x0x0 P4x0x1 P4x0x2 P4x0x3 P4x0x4 P4x0x5 P4x0x6 P4x0x7 P4x1x0 P4x1x1 P4x1x2 P4x1x3 P4x1x4 P4x1x5 P4x1x6 P4x1x7 hg4x0 hg4x1 hn4x0 hn4x1
 obtain⟨A4x0a,A4x0b,A4x0c⟩:=A4x0
 obtain⟨A4x1a,A4x1b,A4x1c⟩:=A4x1
 obtain⟨A4x2a,A4x2b,A4x2c⟩:=A4x2
 obtain⟨A4x3a,A4x3b,A4x3c⟩:=A4x3
 obtain⟨A4x4a,A4x4b,A4x4c⟩:=A4x4
 obtain⟨A4x5a,A4x5b,A4x5c⟩:=A4x5
 obtain⟨N4x0a,N4x0b,N4x0c⟩:=N4x0
 obtain⟨N4x1a,N4x1b,N4x1c⟩:=N4x1
 go_wp2_with fail
 clear A4x0a A4x0b A4x0c A4x1a A4x1b A4x1c A4x2a A4x2b A4x2c A4x3a A4x3b A4x3c A4x4a A4x4b A4x4c A4x5a A4x5b A4x5c N4x0a N4x0b N4x0c N4x1a N4x1b N4x1c
 generalize World.setRow _ _ _=W5 at *
 obtain⟨Z4x0a,Z4x0b,Z4x0c⟩:=Z4x0.out
 obtain⟨Z4x1a,Z4x1b,Z4x1c⟩:=Z4x1.out
 obtain⟨Z4x2a,Z4x2b,Z4x2c⟩:=Z4x2.out
 obtain⟨Z4x3a,Z4x3b,Z4x3c⟩:=Z4x3.out
 obtain⟨Z4x4a,Z4x4b,Z4x4c⟩:=Z4x4.out
 obtain⟨Z4x5a,Z4x5b,Z4x5c⟩:=Z4x5.out
 obtain⟨Z4x6a,Z4x6b,Z4x6c⟩:=Z4x6.out
 obtain⟨Z4x7a,Z4x7b,Z4x7c⟩:=Z4x7.out
 refine Zal W5 [0,1,2,3,4,5] [false,false,false,false,false,false] [6,7] [(23,#[.int .u8 0,.int .u8 0,.int .u8 0,.int .u8 0,.int .u8 0,.int .u8 0,.int .u8 0,.int .u8 0,.int .u8 0,.int .u8 0,.int .u8 0,.int .u8 0,.int .u8 0,.int .u8 0,.int .u8 0,.int .u8 0,.int .u8 0,.int .u8 0,.int .u8 0,.int .u8 0,.int .u8 0,.int .u8 0,.int .u8 0,.int .u8 0,.int .u8 0,.int .u8 0,.int .u8 0,.int .u8 0,.int .u8 0,.int .u8 0,.int .u8 0,.int .u8 0]),(23,#[.int .u8 0,.int .u8 0,.int .u8 0,.int .u8 0,.int .u8 0,.int .u8 0,.int .u8 0,.int .u8 0,.int .u8 0,.int .u8 0,.int .u8 0,.int .u8 0,.int .u8 0,.int .u8 0,.int .u8 0,.int .u8 0,.int .u8 0,.int .u8 0,.int .u8 0,.int .u8 0,.int .u8 0,.int .u8 0,.int .u8 0,.int .u8 0,.int .u8 0,.int .u8 0,.int .u8 0,.int .u8 0,.int .u8 0,.int .u8 0,.int .u8 0,.int .u8 0])] 8 (by kernel_rfl) rfl (by kernel_rfl) (by intro c a d v w h;cases d<;>exact h) ((Below.refl _ _).drew) ?_
 simp only[pick,List.getElem?_cons_succ,List.getElem?_cons_zero,List.drop_succ_cons,List.drop_zero]
 refine Zac (Zaa rfl) (by intro K o d hK;go_simp;exact hK _ (Below.refl _ _)) ?_
 refine Zac (Zaa rfl) (by intro K o d hK;go_simp;exact hK _ (Below.refl _ _)) ?_
 refine Zai (v:=kv dd) (Zaa rfl) (by intro K o d hK;go_simp;refine(Zck bm ap dd lbm lap Hdd.out _).mono ?_;rintro e w' ⟨rfl,hbw⟩;exact⟨_,rfl,hK _ hbw⟩) ?_
 refine Zac (Zaa rfl) (by intro K o d hK;go_simp;exact hK _ (Below.refl _ _)) ?_
 refine Zac (Zaa rfl) (by intro K o d hK;go_simp;exact hK _ (Below.refl _ _)) ?_
 refine Zai (v:=kv cc) (Zaa rfl) (by intro K o d hK;go_simp;refine(Zck bp am cc lbp lam Hcc.out _).mono ?_;rintro e w' ⟨rfl,hbw⟩;exact⟨_,rfl,hK _ hbw⟩) ?_
 refine Zan ?_
 refine⟨Zba _ rfl rfl,fun g6x0 hg6x0 hn6x0=>?_⟩
 refine⟨Zba _ rfl rfl,fun g6x1 hg6x1 hn6x1=>?_⟩
 simp at hn6x1
 intro w6 hb6 hblk6
 have A6x0:=Z4x0.out.grow hb6
 have c6x0:=Z4x0.out.2.2
 have A6x1:=Z4x1.out.grow hb6
 have c6x1:=Z4x1.out.2.2
 have A6x2:=Z4x2.out.grow hb6
 have c6x2:=Z4x2.out.2.2
 have A6x3:=Z4x3.out.grow hb6
 have c6x3:=Z4x3.out.2.2
 have A6x4:=Z4x4.out.grow hb6
 have c6x4:=Z4x4.out.2.2
 have A6x5:=Z4x5.out.grow hb6
 have c6x5:=Z4x5.out.2.2
 have A6x6:=Z4x6.out.grow hb6
 have c6x6:=Z4x6.out.2.2
 have A6x7:=Z4x7.out.grow hb6
 have c6x7:=Z4x7.out.2.2
 have N6x0:=RowAt.of (hblk6 0 g6x0 _ _ rfl rfl)
 have N6x1:=RowAt.of (hblk6 1 g6x1 _ _ rfl rfl)
 have B6x0:=HB4.out.trans (hb6.mono HB4.out.size)
 have s6:=HB4.out.size
 have le6x0:w.heap.size≤g6x0:=by omega
 have le6x1:w.heap.size≤g6x1:=by omega
 have ne6x0x0:¬w.heap.size=g6x0:=by omega
 have nf6x0x0:¬g6x0=w.heap.size:=by omega
 have ne6x0x1:¬w.heap.size=g6x1:=by omega
 have nf6x0x1:¬g6x1=w.heap.size:=by omega
 have ne6x1x0:¬w.heap.size+1=g6x0:=by omega
 have nf6x1x0:¬g6x0=w.heap.size+1:=by omega
 have ne6x1x1:¬w.heap.size+1=g6x1:=by omega
 have nf6x1x1:¬g6x1=w.heap.size+1:=by omega
 have ne6x2x0:¬w.heap.size+1+1=g6x0:=by omega
 have nf6x2x0:¬g6x0=w.heap.size+1+1:=by omega
 have ne6x2x1:¬w.heap.size+1+1=g6x1:=by omega
 have nf6x2x1:¬g6x1=w.heap.size+1+1:=by omega
 have ne6x3x0:¬w.heap.size+1+1+1=g6x0:=by omega
 have nf6x3x0:¬g6x0=w.heap.size+1+1+1:=by omega
 have ne6x3x1:¬w.heap.size+1+1+1=g6x1:=by omega
 have nf6x3x1:¬g6x1=w.heap.size+1+1+1:=by omega
 have ne6x4x0:¬g2x0=g6x0:=by omega
 have nf6x4x0:¬g6x0=g2x0:=by omega
 have ne6x4x1:¬g2x0=g6x1:=by omega
 have nf6x4x1:¬g6x1=g2x0:=by omega
 have ne6x5x0:¬g2x1=g6x0:=by omega
 have nf6x5x0:¬g6x0=g2x1:=by omega
 have ne6x5x1:¬g2x1=g6x1:=by omega
 have nf6x5x1:¬g6x1=g2x1:=by omega
 have ne6x6x0:¬g4x0=g6x0:=by omega
 have nf6x6x0:¬g6x0=g4x0:=by omega
 have ne6x6x1:¬g4x0=g6x1:=by omega
 have nf6x6x1:¬g6x1=g4x0:=by omega
 have ne6x7x0:¬g4x1=g6x0:=by omega
 have nf6x7x0:¬g6x0=g4x1:=by omega
 have ne6x7x1:¬g4x1=g6x1:=by omega
 have nf6x7x1:¬g6x1=g4x1:=by omega
 have ne6x8x1:¬g6x0=g6x1:=by omega
 have ne6x9x0:¬g6x1=g6x0:=by omega
 have P6x0x0:=A6x0.other (show w.heap.size≠g6x0 by omega) (keyA dd)
 have P6x0x1:=A6x1.other (show w.heap.size+1≠g6x0 by omega) (keyA dd)
 have P6x0x2:=A6x2.other (show w.heap.size+1+1≠g6x0 by omega) (keyA dd)
 have P6x0x3:=A6x3.other (show w.heap.size+1+1+1≠g6x0 by omega) (keyA dd)
 have P6x0x4:=A6x4.other (show g2x0≠g6x0 by omega) (keyA dd)
 have P6x0x5:=A6x5.other (show g2x1≠g6x0 by omega) (keyA dd)
 have P6x0x6:=A6x6.other (show g4x0≠g6x0 by omega) (keyA dd)
 have P6x0x7:=A6x7.other (show g4x1≠g6x0 by omega) (keyA dd)
 have P6x0x8:=N6x0.set (keyA dd)
 have P6x0x9:=N6x1.other (show g6x1≠g6x0 by omega) (keyA dd)
 have B6x1:=Zad B6x0 (show w.heap.size≤g6x0 by omega) (keyA dd)
 have P6x1x0:=P6x0x0.other (show w.heap.size≠g6x1 by omega) (keyA cc)
 have P6x1x1:=P6x0x1.other (show w.heap.size+1≠g6x1 by omega) (keyA cc)
 have P6x1x2:=P6x0x2.other (show w.heap.size+1+1≠g6x1 by omega) (keyA cc)
 have P6x1x3:=P6x0x3.other (show w.heap.size+1+1+1≠g6x1 by omega) (keyA cc)
 have P6x1x4:=P6x0x4.other (show g2x0≠g6x1 by omega) (keyA cc)
 have P6x1x5:=P6x0x5.other (show g2x1≠g6x1 by omega) (keyA cc)
 have P6x1x6:=P6x0x6.other (show g4x0≠g6x1 by omega) (keyA cc)
 have P6x1x7:=P6x0x7.other (show g4x1≠g6x1 by omega) (keyA cc)
 have P6x1x8:=P6x0x8.other (show g6x0≠g6x1 by omega) (keyA cc)
 have P6x1x9:=P6x0x9.set (keyA cc)
 have B6x2:=Zad B6x1 (show w.heap.size≤g6x1 by omega) (keyA cc)
 have Z6x0:=Zq P6x1x0
 have Z6x1:=Zq P6x1x1
 have Z6x2:=Zq P6x1x2
 have Z6x3:=Zq P6x1x3
 have Z6x4:=Zq P6x1x4
 have Z6x5:=Zq P6x1x5
 have Z6x6:=Zq P6x1x6
 have Z6x7:=Zq P6x1x7
 have Z6x8:=Zq P6x1x8
 have Z6x9:=Zq P6x1x9
 have HB6:=Zq B6x2
 clear hb6 hblk6 HB4 s6 Z4x0a Z4x0b Z4x0c Z4x1a Z4x1b Z4x1c Z4x2a Z4x2b Z4x2c Z4x3a Z4x3b Z4x3c Z4x4a Z4x4b Z4x4c Z4x5a Z4x5b Z4x5c Z4x6a Z4x6b Z4x6c Z4x7a Z4x7b Z4x7c Z4x0 Z4x1 Z4x2 Z4x3 Z4x4 Z4x5 Z4x6 Z4x7 c6x0 c6x1 c6x2 c6x3 c6x4 c6x5 c6x6 c6x7 B6x0 B6x1 B6x2 P6x0x0 P6x0x1 P6x0x2 P6x0x3 P6x0x4 P6x0x5 P6x0x6 P6x0x7 P6x0x8 P6x0x9 P6x1x0 P6x1x1 P6x1x2 P6x1x3 P6x1x4 P6x1x5 P6x1x6 P6x1x7 P6x1x8 P6x1x9 hg6x0 hg6x1 hn6x0 hn6x1
 obtain⟨A6x0a,A6x0b,A6x0c⟩:=A6x0
 obtain⟨A6x1a,A6x1b,A6x1c⟩:=A6x1
 obtain⟨A6x2a,A6x2b,A6x2c⟩:=A6x2
 obtain⟨A6x3a,A6x3b,A6x3c⟩:=A6x3
 obtain⟨A6x4a,A6x4b,A6x4c⟩:=A6x4
 obtain⟨A6x5a,A6x5b,A6x5c⟩:=A6x5
 obtain⟨A6x6a,A6x6b,A6x6c⟩:=A6x6
 obtain⟨A6x7a,A6x7b,A6x7c⟩:=A6x7
 obtain⟨N6x0a,N6x0b,N6x0c⟩:=N6x0
 obtain⟨N6x1a,N6x1b,N6x1c⟩:=N6x1
 go_wp2_with fail
 clear A6x0a A6x0b A6x0c A6x1a A6x1b A6x1c A6x2a A6x2b A6x2c A6x3a A6x3b A6x3c A6x4a A6x4b A6x4c A6x5a A6x5b A6x5c A6x6a A6x6b A6x6c A6x7a A6x7b A6x7c N6x0a N6x0b N6x0c N6x1a N6x1b N6x1c
 generalize World.setRow _ _ _=W7 at *
 obtain⟨Z6x0a,Z6x0b,Z6x0c⟩:=Z6x0.out
 obtain⟨Z6x1a,Z6x1b,Z6x1c⟩:=Z6x1.out
 obtain⟨Z6x2a,Z6x2b,Z6x2c⟩:=Z6x2.out
 obtain⟨Z6x3a,Z6x3b,Z6x3c⟩:=Z6x3.out
 obtain⟨Z6x4a,Z6x4b,Z6x4c⟩:=Z6x4.out
 obtain⟨Z6x5a,Z6x5b,Z6x5c⟩:=Z6x5.out
 obtain⟨Z6x6a,Z6x6b,Z6x6c⟩:=Z6x6.out
 obtain⟨Z6x7a,Z6x7b,Z6x7c⟩:=Z6x7.out
 obtain⟨Z6x8a,Z6x8b,Z6x8c⟩:=Z6x8.out
 obtain⟨Z6x9a,Z6x9b,Z6x9c⟩:=Z6x9.out
 refine Zal W7 [0,1,2,3,4,5] [false,false,false,false,false,false] [6,7] [(23,#[.int .u8 0,.int .u8 0,.int .u8 0,.int .u8 0,.int .u8 0,.int .u8 0,.int .u8 0,.int .u8 0,.int .u8 0,.int .u8 0,.int .u8 0,.int .u8 0,.int .u8 0,.int .u8 0,.int .u8 0,.int .u8 0,.int .u8 0,.int .u8 0,.int .u8 0,.int .u8 0,.int .u8 0,.int .u8 0,.int .u8 0,.int .u8 0,.int .u8 0,.int .u8 0,.int .u8 0,.int .u8 0,.int .u8 0,.int .u8 0,.int .u8 0,.int .u8 0]),(23,#[.int .u8 0,.int .u8 0,.int .u8 0,.int .u8 0,.int .u8 0,.int .u8 0,.int .u8 0,.int .u8 0,.int .u8 0,.int .u8 0,.int .u8 0,.int .u8 0,.int .u8 0,.int .u8 0,.int .u8 0,.int .u8 0,.int .u8 0,.int .u8 0,.int .u8 0,.int .u8 0,.int .u8 0,.int .u8 0,.int .u8 0,.int .u8 0,.int .u8 0,.int .u8 0,.int .u8 0,.int .u8 0,.int .u8 0,.int .u8 0,.int .u8 0,.int .u8 0])] 8 (by kernel_rfl) rfl (by kernel_rfl) (by intro c a d v w h;cases d<;>exact h) ((Below.refl _ _).drew) ?_
 simp only[pick,List.getElem?_cons_succ,List.getElem?_cons_zero,List.drop_succ_cons,List.drop_zero]
 refine Zac (Zaa rfl) (by intro K o d hK;go_simp;exact hK _ (Below.refl _ _)) ?_
 refine Zac (Zaa rfl) (by intro K o d hK;go_simp;exact hK _ (Below.refl _ _)) ?_
 refine Zai (v:=kv sa) (Zaa rfl) (by intro K o d hK;go_simp;refine(ZiA dd cc sa ldd lcc Hsa.out _).mono ?_;rintro e w' ⟨rfl,hbw⟩;exact⟨_,rfl,hK _ hbw⟩) ?_
 refine Zac (Zaa rfl) (by intro K o d hK;go_simp;exact hK _ (Below.refl _ _)) ?_
 refine Zac (Zaa rfl) (by intro K o d hK;go_simp;exact hK _ (Below.refl _ _)) ?_
 refine Zai (v:=kv t) (Zaa rfl) (by intro K o d hK;go_simp;refine(Zh8 dd cc t ldd lcc Ht.out _).mono ?_;rintro e w' ⟨rfl,hbw⟩;exact⟨_,rfl,hK _ hbw⟩) ?_
 refine Zan ?_
 refine⟨Zba _ rfl rfl,fun g8x0 hg8x0 hn8x0=>?_⟩
 refine⟨Zba _ rfl rfl,fun g8x1 hg8x1 hn8x1=>?_⟩
 simp at hn8x1
 intro w8 hb8 hblk8
 have A8x0:=Z6x0.out.grow hb8
 have c8x0:=Z6x0.out.2.2
 have A8x1:=Z6x1.out.grow hb8
 have c8x1:=Z6x1.out.2.2
 have A8x2:=Z6x2.out.grow hb8
 have c8x2:=Z6x2.out.2.2
 have A8x3:=Z6x3.out.grow hb8
 have c8x3:=Z6x3.out.2.2
 have A8x4:=Z6x4.out.grow hb8
 have c8x4:=Z6x4.out.2.2
 have A8x5:=Z6x5.out.grow hb8
 have c8x5:=Z6x5.out.2.2
 have A8x6:=Z6x6.out.grow hb8
 have c8x6:=Z6x6.out.2.2
 have A8x7:=Z6x7.out.grow hb8
 have c8x7:=Z6x7.out.2.2
 have A8x8:=Z6x8.out.grow hb8
 have c8x8:=Z6x8.out.2.2
 have A8x9:=Z6x9.out.grow hb8
 have c8x9:=Z6x9.out.2.2
 have N8x0:=RowAt.of (hblk8 0 g8x0 _ _ rfl rfl)
 have N8x1:=RowAt.of (hblk8 1 g8x1 _ _ rfl rfl)
 have B8x0:=HB6.out.trans (hb8.mono HB6.out.size)
 have s8:=HB6.out.size
 have le8x0:w.heap.size≤g8x0:=by omega
 have le8x1:w.heap.size≤g8x1:=by omega
 have ne8x0x0:¬w.heap.size=g8x0:=by omega
 have nf8x0x0:¬g8x0=w.heap.size:=by omega
 have ne8x0x1:¬w.heap.size=g8x1:=by omega
 have nf8x0x1:¬g8x1=w.heap.size:=by omega
 have ne8x1x0:¬w.heap.size+1=g8x0:=by omega
 have nf8x1x0:¬g8x0=w.heap.size+1:=by omega
 have ne8x1x1:¬w.heap.size+1=g8x1:=by omega
 have nf8x1x1:¬g8x1=w.heap.size+1:=by omega
 have ne8x2x0:¬w.heap.size+1+1=g8x0:=by omega
 have nf8x2x0:¬g8x0=w.heap.size+1+1:=by omega
 have ne8x2x1:¬w.heap.size+1+1=g8x1:=by omega
 have nf8x2x1:¬g8x1=w.heap.size+1+1:=by omega
 have ne8x3x0:¬w.heap.size+1+1+1=g8x0:=by omega
 have nf8x3x0:¬g8x0=w.heap.size+1+1+1:=by omega
 have ne8x3x1:¬w.heap.size+1+1+1=g8x1:=by omega
 have nf8x3x1:¬g8x1=w.heap.size+1+1+1:=by omega
 have ne8x4x0:¬g2x0=g8x0:=by omega
 have nf8x4x0:¬g8x0=g2x0:=by omega
 have ne8x4x1:¬g2x0=g8x1:=by omega
 have nf8x4x1:¬g8x1=g2x0:=by omega
 have ne8x5x0:¬g2x1=g8x0:=by omega
 have nf8x5x0:¬g8x0=g2x1:=by omega
 have ne8x5x1:¬g2x1=g8x1:=by omega
 have nf8x5x1:¬g8x1=g2x1:=by omega
 have ne8x6x0:¬g4x0=g8x0:=by omega
 have nf8x6x0:¬g8x0=g4x0:=by omega
 have ne8x6x1:¬g4x0=g8x1:=by omega
 have nf8x6x1:¬g8x1=g4x0:=by omega
 have ne8x7x0:¬g4x1=g8x0:=by omega
 have nf8x7x0:¬g8x0=g4x1:=by omega
 have ne8x7x1:¬g4x1=g8x1:=by omega
 have nf8x7x1:¬g8x1=g4x1:=by omega
 have ne8x8x0:¬g6x0=g8x0:=by omega
 have nf8x8x0:¬g8x0=g6x0:=by omega
 have ne8x8x1:¬g6x0=g8x1:=by omega
 have nf8x8x1:¬g8x1=g6x0:=by omega
 have ne8x9x0:¬g6x1=g8x0:=by omega
 have nf8x9x0:¬g8x0=g6x1:=by omega
 have ne8x9x1:¬g6x1=g8x1:=by omega
 have nf8x9x1:¬g8x1=g6x1:=by omega
 have ne8x10x1:¬g8x0=g8x1:=by omega
 have ne8x11x0:¬g8x1=g8x0:=by omega
 have P8x0x0:=A8x0.other (show w.heap.size≠g8x0 by omega) (keyA sa)
 have P8x0x1:=A8x1.other (show w.heap.size+1≠g8x0 by omega) (keyA sa)
 have P8x0x2:=A8x2.other (show w.heap.size+1+1≠g8x0 by omega) (keyA sa)
 have P8x0x3:=A8x3.other (show w.heap.size+1+1+1≠g8x0 by omega) (keyA sa)
 have P8x0x4:=A8x4.other (show g2x0≠g8x0 by omega) (keyA sa)
 have P8x0x5:=A8x5.other (show g2x1≠g8x0 by omega) (keyA sa)
 have P8x0x6:=A8x6.other (show g4x0≠g8x0 by omega) (keyA sa)
 have P8x0x7:=A8x7.other (show g4x1≠g8x0 by omega) (keyA sa)
 have P8x0x8:=A8x8.other (show g6x0≠g8x0 by omega) (keyA sa)
 have P8x0x9:=A8x9.other (show g6x1≠g8x0 by omega) (keyA sa)
 have P8x0x10:=N8x0.set (keyA sa)
 have P8x0x11:=N8x1.other (show g8x1≠g8x0 by omega) (keyA sa)
 have B8x1:=Zad B8x0 (show w.heap.size≤g8x0 by omega) (keyA sa)
 have P8x1x0:=P8x0x0.other (show w.heap.size≠g8x1 by omega) (keyA t)
 have P8x1x1:=P8x0x1.other (show w.heap.size+1≠g8x1 by omega) (keyA t)
 have P8x1x2:=P8x0x2.other (show w.heap.size+1+1≠g8x1 by omega) (keyA t)
 have P8x1x3:=P8x0x3.other (show w.heap.size+1+1+1≠g8x1 by omega) (keyA t)
 have P8x1x4:=P8x0x4.other (show g2x0≠g8x1 by omega) (keyA t)
 have P8x1x5:=P8x0x5.other (show g2x1≠g8x1 by omega) (keyA t)
 have P8x1x6:=P8x0x6.other (show g4x0≠g8x1 by omega) (keyA t)
 have P8x1x7:=P8x0x7.other (show g4x1≠g8x1 by omega) (keyA t)
 have P8x1x8:=P8x0x8.other (show g6x0≠g8x1 by omega) (keyA t)
 have P8x1x9:=P8x0x9.other (show g6x1≠g8x1 by omega) (keyA t)
 have P8x1x10:=P8x0x10.other (show g8x0≠g8x1 by omega) (keyA t)
 have P8x1x11:=P8x0x11.set (keyA t)
 have B8x2:=Zad B8x1 (show w.heap.size≤g8x1 by omega) (keyA t)
 have Z8x0:=Zq P8x1x0
 have Z8x1:=Zq P8x1x1
 have Z8x2:=Zq P8x1x2
 have Z8x3:=Zq P8x1x3
 have Z8x4:=Zq P8x1x4
 have Z8x5:=Zq P8x1x5
 have Z8x6:=Zq P8x1x6
 have Z8x7:=Zq P8x1x7
 have Z8x8:=Zq P8x1x8
 have Z8x9:=Zq P8x1x9
 have Z8x10:=Zq P8x1x10
 have Z8x11:=Zq P8x1x11
 have HB8:=Zq B8x2
 clear hb8 hblk8 HB6 s8 Z6x0a Z6x0b Z6x0c Z6x1a Z6x1b Z6x1c Z6x2a Z6x2b Z6x2c Z6x3a Z6x3b Z6x3c Z6x4a Z6x4b Z6x4c Z6x5a Z6x5b Z6x5c Z6x6a Z6x6b Z6x6c Z6x7a Z6x7b Z6x7c Z6x8a Z6x8b Z6x8c Z6x9a Z6x9b Z6x9c Z6x0 Z6x1 Z6x2 Z6x3 Z6x4 Z6x5 Z6x6 Z6x7 Z6x8 Z6x9 c8x0 c8x1 c8x2 c8x3 c8x4 c8x5 c8x6 c8x7 c8x8 c8x9 B8x0 B8x1 B8x2 P8x0x0 P8x0x1 P8x0x2 P8x0x3 P8x0x4 P8x0x5 P8x0x6 P8x0x7 P8x0x8 P8x0x9 P8x0x10 P8x0x11 P8x1x0 P8x1x1 P8x1x2 P8x1x3 P8x1x4 P8x1x5 P8x1x6 P8x1x7 P8x1x8 P8x1x9 P8x1x10 P8x1x11 hg8x0 hg8x1 hn8x0 hn8x1
 obtain⟨A8x0a,A8x0b,A8x0c⟩:=A8x0
 obtain⟨A8x1a,A8x1b,A8x1c⟩:=A8x1
 obtain⟨A8x2a,A8x2b,A8x2c⟩:=A8x2
 obtain⟨A8x3a,A8x3b,A8x3c⟩:=A8x3
 obtain⟨A8x4a,A8x4b,A8x4c⟩:=A8x4
 obtain⟨A8x5a,A8x5b,A8x5c⟩:=A8x5
 obtain⟨A8x6a,A8x6b,A8x6c⟩:=A8x6
 obtain⟨A8x7a,A8x7b,A8x7c⟩:=A8x7
 obtain⟨A8x8a,A8x8b,A8x8c⟩:=A8x8
 obtain⟨A8x9a,A8x9b,A8x9c⟩:=A8x9
 obtain⟨N8x0a,N8x0b,N8x0c⟩:=N8x0
 obtain⟨N8x1a,N8x1b,N8x1c⟩:=N8x1
 go_wp2_with fail
 clear A8x0a A8x0b A8x0c A8x1a A8x1b A8x1c A8x2a A8x2b A8x2c A8x3a A8x3b A8x3c A8x4a A8x4b A8x4c A8x5a A8x5b A8x5c A8x6a A8x6b A8x6c A8x7a A8x7b A8x7c A8x8a A8x8b A8x8c A8x9a A8x9b A8x9c N8x0a N8x0b N8x0c N8x1a N8x1b N8x1c
 generalize World.setRow _ _ _=W9 at *
 obtain⟨Z8x0a,Z8x0b,Z8x0c⟩:=Z8x0.out
 obtain⟨Z8x1a,Z8x1b,Z8x1c⟩:=Z8x1.out
 obtain⟨Z8x2a,Z8x2b,Z8x2c⟩:=Z8x2.out
 obtain⟨Z8x3a,Z8x3b,Z8x3c⟩:=Z8x3.out
 obtain⟨Z8x4a,Z8x4b,Z8x4c⟩:=Z8x4.out
 obtain⟨Z8x5a,Z8x5b,Z8x5c⟩:=Z8x5.out
 obtain⟨Z8x6a,Z8x6b,Z8x6c⟩:=Z8x6.out
 obtain⟨Z8x7a,Z8x7b,Z8x7c⟩:=Z8x7.out
 obtain⟨Z8x8a,Z8x8b,Z8x8c⟩:=Z8x8.out
 obtain⟨Z8x9a,Z8x9b,Z8x9c⟩:=Z8x9.out
 obtain⟨Z8x10a,Z8x10b,Z8x10c⟩:=Z8x10.out
 obtain⟨Z8x11a,Z8x11b,Z8x11c⟩:=Z8x11.out
 refine Zal W9 [0,1,2,3,4,5,6,7,8] [false,false,false,false,false,false,false,false,false] [] [] 9 (by kernel_rfl) rfl (by kernel_rfl) (by intro c a d v w h;cases d<;>exact h) ((Below.refl _ _).drew) ?_
 simp only[pick,List.getElem?_cons_succ,List.getElem?_cons_zero,List.drop_succ_cons,List.drop_zero]
 refine Zac (Zaa rfl) (by intro K o d hK;go_simp;exact hK _ (Below.refl _ _)) ?_
 refine Zac (Zaa rfl) (by intro K o d hK;go_simp;exact hK _ (Below.refl _ _)) ?_
 refine Zai (v:=kv X) (Zaa rfl) (by intro K o d hK;go_simp;refine(Zck sa sa X lsa lsa HX.out _).mono ?_;rintro e w' ⟨rfl,hbw⟩;exact⟨_,rfl,hK _ hbw⟩) ?_
 refine Zac (Zaa rfl) (by intro K o d hK;go_simp;exact hK _ (Below.refl _ _)) ?_
 refine Zac (Zaa rfl) (by intro K o d hK;go_simp;exact hK _ (Below.refl _ _)) ?_
 refine Zac (Zaa rfl) (by intro K o d hK;go_simp;exact hK _ (Below.refl _ _)) ?_
 refine Zai (v:=kv tt) (Zaa rfl) (by intro K o d hK;go_simp;refine(Zck t t tt lt lt Htt.out _).mono ?_;rintro e w' ⟨rfl,hbw⟩;exact⟨_,rfl,hK _ hbw⟩) ?_
 refine Zai (v:=kv Z) (Zaa rfl) (by intro K o d hK;go_simp;refine(Zck x1 tt Z hx1 ltt HZ.out _).mono ?_;rintro e w' ⟨rfl,hbw⟩;exact⟨_,rfl,hK _ hbw⟩) ?_
 refine Zac (Zaa rfl) (by intro K o d hK;go_simp;exact hK _ (Below.refl _ _)) ?_
 refine Zan ?_
 intro w10 hb10 hblk10
 have A10x0:=Z8x0.out.grow hb10
 have c10x0:=Z8x0.out.2.2
 have A10x1:=Z8x1.out.grow hb10
 have c10x1:=Z8x1.out.2.2
 have A10x2:=Z8x2.out.grow hb10
 have c10x2:=Z8x2.out.2.2
 have A10x3:=Z8x3.out.grow hb10
 have c10x3:=Z8x3.out.2.2
 have A10x4:=Z8x4.out.grow hb10
 have c10x4:=Z8x4.out.2.2
 have A10x5:=Z8x5.out.grow hb10
 have c10x5:=Z8x5.out.2.2
 have A10x6:=Z8x6.out.grow hb10
 have c10x6:=Z8x6.out.2.2
 have A10x7:=Z8x7.out.grow hb10
 have c10x7:=Z8x7.out.2.2
 have A10x8:=Z8x8.out.grow hb10
 have c10x8:=Z8x8.out.2.2
 have A10x9:=Z8x9.out.grow hb10
 have c10x9:=Z8x9.out.2.2
 have A10x10:=Z8x10.out.grow hb10
 have c10x10:=Z8x10.out.2.2
 have A10x11:=Z8x11.out.grow hb10
 have c10x11:=Z8x11.out.2.2
 have B10x0:=HB8.out.trans (hb10.mono HB8.out.size)
 have s10:=HB8.out.size
 have P10x0x0:=A10x0.other (show w.heap.size≠w.heap.size+1+1+1 by omega) (ZaD X Z)
 have P10x0x1:=A10x1.other (show w.heap.size+1≠w.heap.size+1+1+1 by omega) (ZaD X Z)
 have P10x0x2:=A10x2.other (show w.heap.size+1+1≠w.heap.size+1+1+1 by omega) (ZaD X Z)
 have P10x0x3:=A10x3.set (ZaD X Z)
 have P10x0x4:=A10x4.other (show g2x0≠w.heap.size+1+1+1 by omega) (ZaD X Z)
 have P10x0x5:=A10x5.other (show g2x1≠w.heap.size+1+1+1 by omega) (ZaD X Z)
 have P10x0x6:=A10x6.other (show g4x0≠w.heap.size+1+1+1 by omega) (ZaD X Z)
 have P10x0x7:=A10x7.other (show g4x1≠w.heap.size+1+1+1 by omega) (ZaD X Z)
 have P10x0x8:=A10x8.other (show g6x0≠w.heap.size+1+1+1 by omega) (ZaD X Z)
 have P10x0x9:=A10x9.other (show g6x1≠w.heap.size+1+1+1 by omega) (ZaD X Z)
 have P10x0x10:=A10x10.other (show g8x0≠w.heap.size+1+1+1 by omega) (ZaD X Z)
 have P10x0x11:=A10x11.other (show g8x1≠w.heap.size+1+1+1 by omega) (ZaD X Z)
 have B10x1:=Zad B10x0 (show w.heap.size≤w.heap.size+1+1+1 by omega) (ZaD X Z)
 have Z10x0:=Zq P10x0x0
 have Z10x1:=Zq P10x0x1
 have Z10x2:=Zq P10x0x2
 have Z10x3:=Zq P10x0x3
 have Z10x4:=Zq P10x0x4
 have Z10x5:=Zq P10x0x5
 have Z10x6:=Zq P10x0x6
 have Z10x7:=Zq P10x0x7
 have Z10x8:=Zq P10x0x8
 have Z10x9:=Zq P10x0x9
 have Z10x10:=Zq P10x0x10
 have Z10x11:=Zq P10x0x11
 have HB10:=Zq B10x1
 clear hb10 hblk10 HB8 s10 Z8x0a Z8x0b Z8x0c Z8x1a Z8x1b Z8x1c Z8x2a Z8x2b Z8x2c Z8x3a Z8x3b Z8x3c Z8x4a Z8x4b Z8x4c Z8x5a Z8x5b Z8x5c Z8x6a Z8x6b Z8x6c Z8x7a Z8x7b Z8x7c Z8x8a Z8x8b Z8x8c Z8x9a Z8x9b Z8x9c Z8x10a Z8x10b Z8x10c Z8x11a Z8x11b Z8x11c Z8x0 Z8x1 Z8x2 Z8x3 Z8x4 Z8x5 Z8x6 Z8x7 Z8x8 Z8x9 Z8x10 Z8x11 c10x0 c10x1 c10x2 c10x3 c10x4 c10x5 c10x6 c10x7 c10x8 c10x9 c10x10 c10x11 B10x0 B10x1 P10x0x0 P10x0x1 P10x0x2 P10x0x3 P10x0x4 P10x0x5 P10x0x6 P10x0x7 P10x0x8 P10x0x9 P10x0x10 P10x0x11
 obtain⟨A10x0a,A10x0b,A10x0c⟩:=A10x0
 obtain⟨A10x1a,A10x1b,A10x1c⟩:=A10x1
 obtain⟨A10x2a,A10x2b,A10x2c⟩:=A10x2
 obtain⟨A10x3a,A10x3b,A10x3c⟩:=A10x3
 obtain⟨A10x4a,A10x4b,A10x4c⟩:=A10x4
 obtain⟨A10x5a,A10x5b,A10x5c⟩:=A10x5
 obtain⟨A10x6a,A10x6b,A10x6c⟩:=A10x6
 obtain⟨A10x7a,A10x7b,A10x7c⟩:=A10x7
 obtain⟨A10x8a,A10x8b,A10x8c⟩:=A10x8
 obtain⟨A10x9a,A10x9b,A10x9c⟩:=A10x9
 obtain⟨A10x10a,A10x10b,A10x10c⟩:=A10x10
 obtain⟨A10x11a,A10x11b,A10x11c⟩:=A10x11
 go_wp2_with fail
 clear A10x0a A10x0b A10x0c A10x1a A10x1b A10x1c A10x2a A10x2b A10x2c A10x3a A10x3b A10x3c A10x4a A10x4b A10x4c A10x5a A10x5b A10x5c A10x6a A10x6b A10x6c A10x7a A10x7b A10x7c A10x8a A10x8b A10x8c A10x9a A10x9b A10x9c A10x10a A10x10b A10x10c A10x11a A10x11b A10x11c
 generalize World.setRow _ _ _=W11 at *
 obtain⟨Z10x0a,Z10x0b,Z10x0c⟩:=Z10x0.out
 obtain⟨Z10x1a,Z10x1b,Z10x1c⟩:=Z10x1.out
 obtain⟨Z10x2a,Z10x2b,Z10x2c⟩:=Z10x2.out
 obtain⟨Z10x3a,Z10x3b,Z10x3c⟩:=Z10x3.out
 obtain⟨Z10x4a,Z10x4b,Z10x4c⟩:=Z10x4.out
 obtain⟨Z10x5a,Z10x5b,Z10x5c⟩:=Z10x5.out
 obtain⟨Z10x6a,Z10x6b,Z10x6c⟩:=Z10x6.out
 obtain⟨Z10x7a,Z10x7b,Z10x7c⟩:=Z10x7.out
 obtain⟨Z10x8a,Z10x8b,Z10x8c⟩:=Z10x8.out
 obtain⟨Z10x9a,Z10x9b,Z10x9c⟩:=Z10x9.out
 obtain⟨Z10x10a,Z10x10b,Z10x10c⟩:=Z10x10.out
 obtain⟨Z10x11a,Z10x11b,Z10x11c⟩:=Z10x11.out
 refine bodyPost_ret (v:=fv X Z) (ZeI Tryz.results104 _ _ _ rfl (by go_simp) (by go_simp)) rfl ⟨rfl,HB10.out⟩
end Go.Proofs.YtddmjddlbhdcpaaGreatDoor.F
